/- CapSizes (P11.2): for every capability the law returns true: its object is as large as the document says, ends within 2^32 bytes, and has the document's slots, which lie in it. No condition beyond the row's own. -/
import Derived.Test.YtkedoajkdobjdaaDoorCapM
import Derived.Test.YtkedoajkdobjdaaDoorCapFrame
set_option linter.unusedVariables false
namespace Go.Proofs.YtkedoajkdobjdaaDoor.capSizes
open Go.ChangeShapes Go.WideShapes Go.ChangeAt Go.RowKit Go.Lib

theorem sl_le {k : Int} {a : Nat} {b r g s : Int} {m : Nat} (h : noB k a b r g s m = true) : slN k b * 32 ≤ 2 ^ nbN k b ∧ slN k b ≤ 4096 := by
  obtain ⟨-, -, hr, b0, b1, e1, q1, q2, q3, b2, b3⟩ := no_of h
  have hp : 0 < 2 ^ nbN k b := Nat.two_pow_pos _
  unfold slN
  by_cases k2 : k = 2
  · subst k2
    obtain ⟨c0, c1⟩ := b2 rfl
    have e : nbN 2 b = b.toNat + 5 := by unfold nbN bitV; rw [if_pos rfl]; omega
    rw [if_pos rfl, e, Nat.pow_add]
    have h2 : 2 ^ b.toNat ≤ 2 ^ 12 := Nat.pow_le_pow_right (by omega) (by omega)
    omega
  rw [if_neg k2]
  by_cases k10 : k = 10
  · subst k10
    obtain ⟨c0, c1⟩ := b3 rfl
    have e : nbN 10 b = b.toNat + 5 := by unfold nbN bitV; rw [if_neg (by decide), if_pos rfl]; omega
    rw [if_pos rfl, e, Nat.pow_add]
    have h2 : 2 ^ b.toNat ≤ 2 ^ 12 := Nat.pow_le_pow_right (by omega) (by omega)
    omega
  rw [if_neg k10]
  by_cases k8 : k = 8
  · subst k8
    rw [rb8] at hr
    subst hr
    rw [if_pos rfl]
    have e : nbN 8 7 = 7 := by decide
    rw [e]; omega
  · rw [if_neg k8]; omega

set_option maxRecDepth 100000 in
set_option maxHeartbeats 8000000 in
theorem walk (k : Int) (a : Nat) (b r g s : Int) (m : Nat) (w : World) (ha : a < 18446744073709551616) (hm : m < 18446744073709551616) (hP : Prts w) :
    Calls Tryd.prog 5 #[.agg #[.int .i64 k, .int .u64 (a : Nat), .int .i64 b, .int .i64 r, .int .i64 g, .int .i64 s, .int .u64 (m : Nat)]] w fun e w' => e = .returned (.bool true) ∧ Below w.heap.size w w' := by
  have cA := fun w1 h1 => anchorC_any w1 h1
  have cD := fun w1 => dright_any k a b r g s m ha hm w1
  have cZ := fun w1 => size_any k b w1
  rw [← right_same] at cD
  cases hc : cB k a b r g s m
  · have hn := no_c hc
    rw [hc] at cD
    have cS := fun w1 => size_no k a b r g s m ha hm hn w1
    have cE := fun w1 => end_no k a b r g s m ha hm hn w1
    have cL := fun w1 => slots_no k a b r g s m ha hm hn w1
    clear hn hc
    go_enter Tryd.func5, Tryd.ntmps5
    go_wp2_with fail
    have gC := heap_alloc_new w (.cells #[.int .i64 k, .int .u64 (a : Nat), .int .i64 b, .int .i64 r, .int .i64 g, .int .i64 s, .int .u64 (m : Nat)] 24)
    have hB := below_new w (.cells #[.int .i64 k, .int .u64 (a : Nat), .int .i64 b, .int .i64 r, .int .i64 g, .int .i64 s, .int .u64 (m : Nat)] 24)
    generalize w.alloc (.cells #[.int .i64 k, .int .u64 (a : Nat), .int .i64 b, .int .i64 r, .int .i64 g, .int .i64 s, .int .u64 (m : Nat)] 24) = W0 at *
    obtain ⟨c0, c1, c2, c3, c4, c5, c6⟩ := cells7 gC
    have cp0 := fun o => cell_alloc (o := o) c0
    have cp1 := fun o => cell_alloc (o := o) c1
    have cp2 := fun o => cell_alloc (o := o) c2
    have cp3 := fun o => cell_alloc (o := o) c3
    have cp4 := fun o => cell_alloc (o := o) c4
    have cp5 := fun o => cell_alloc (o := o) c5
    have cp6 := fun o => cell_alloc (o := o) c6
    refine (cA _ (hP.later hB)).mono ?_
    clear c0 cp0 c1 cp1 c2 cp2 c3 cp3 c4 cp4 c5 cp5 c6 cp6
    rintro e w1 ⟨rfl, hb⟩
    replace gC := block_later hb gC
    replace hB := below_tr hB hb
    clear hb
    obtain ⟨c0, c1, c2, c3, c4, c5, c6⟩ := cells7 gC
    have cp0 := fun o => cell_alloc (o := o) c0
    have cp1 := fun o => cell_alloc (o := o) c1
    have cp2 := fun o => cell_alloc (o := o) c2
    have cp3 := fun o => cell_alloc (o := o) c3
    have cp4 := fun o => cell_alloc (o := o) c4
    have cp5 := fun o => cell_alloc (o := o) c5
    have cp6 := fun o => cell_alloc (o := o) c6
    go_wp2_with fail
    clear c0 cp0 c1 cp1 c2 cp2 c3 cp3 c4 cp4 c5 cp5 c6 cp6
    have gX := heap_alloc_new w1 (.cells #[.int .i64 k, .int .u64 (a : Nat), .int .i64 b, .int .i64 r, .int .i64 g, .int .i64 s, .int .u64 (m : Nat)] 29)
    replace gC := block_later (below_new _ (.cells #[.int .i64 k, .int .u64 (a : Nat), .int .i64 b, .int .i64 r, .int .i64 g, .int .i64 s, .int .u64 (m : Nat)] 29)) gC
    replace hB := below_tr hB (below_new _ (.cells #[.int .i64 k, .int .u64 (a : Nat), .int .i64 b, .int .i64 r, .int .i64 g, .int .i64 s, .int .u64 (m : Nat)] 29))
    generalize w1.heap.size = X at *
    generalize w1.alloc (.cells #[.int .i64 k, .int .u64 (a : Nat), .int .i64 b, .int .i64 r, .int .i64 g, .int .i64 s, .int .u64 (m : Nat)] 29) = w1a at *
    obtain ⟨c0, c1, c2, c3, c4, c5, c6⟩ := cells7 gC
    have cp0 := fun o => cell_alloc (o := o) c0
    have cp1 := fun o => cell_alloc (o := o) c1
    have cp2 := fun o => cell_alloc (o := o) c2
    have cp3 := fun o => cell_alloc (o := o) c3
    have cp4 := fun o => cell_alloc (o := o) c4
    have cp5 := fun o => cell_alloc (o := o) c5
    have cp6 := fun o => cell_alloc (o := o) c6
    obtain ⟨x0, x1, x2, x3, x4, x5, x6⟩ := cells7 gX
    have xp0 := fun o => cell_alloc (o := o) x0
    have xp1 := fun o => cell_alloc (o := o) x1
    have xp2 := fun o => cell_alloc (o := o) x2
    have xp3 := fun o => cell_alloc (o := o) x3
    have xp4 := fun o => cell_alloc (o := o) x4
    have xp5 := fun o => cell_alloc (o := o) x5
    have xp6 := fun o => cell_alloc (o := o) x6
    refine (cD _).mono ?_
    clear c0 cp0 c1 cp1 c2 cp2 c3 cp3 c4 cp4 c5 cp5 c6 cp6 x0 xp0 x1 xp1 x2 xp2 x3 xp3 x4 xp4 x5 xp5 x6 xp6
    rintro e w2 ⟨rfl, hb⟩
    replace gC := block_later hb gC
    replace gX := block_later hb gX
    replace hB := below_tr hB hb
    clear hb
    obtain ⟨c0, c1, c2, c3, c4, c5, c6⟩ := cells7 gC
    have cp0 := fun o => cell_alloc (o := o) c0
    have cp1 := fun o => cell_alloc (o := o) c1
    have cp2 := fun o => cell_alloc (o := o) c2
    have cp3 := fun o => cell_alloc (o := o) c3
    have cp4 := fun o => cell_alloc (o := o) c4
    have cp5 := fun o => cell_alloc (o := o) c5
    have cp6 := fun o => cell_alloc (o := o) c6
    obtain ⟨x0, x1, x2, x3, x4, x5, x6⟩ := cells7 gX
    have xp0 := fun o => cell_alloc (o := o) x0
    have xp1 := fun o => cell_alloc (o := o) x1
    have xp2 := fun o => cell_alloc (o := o) x2
    have xp3 := fun o => cell_alloc (o := o) x3
    have xp4 := fun o => cell_alloc (o := o) x4
    have xp5 := fun o => cell_alloc (o := o) x5
    have xp6 := fun o => cell_alloc (o := o) x6
    go_wp2_with fail
    refine (cS _).mono ?_
    clear c0 cp0 c1 cp1 c2 cp2 c3 cp3 c4 cp4 c5 cp5 c6 cp6 x0 xp0 x1 xp1 x2 xp2 x3 xp3 x4 xp4 x5 xp5 x6 xp6
    rintro e w3 ⟨rfl, hb⟩
    replace gC := block_later hb gC
    replace gX := block_later hb gX
    replace hB := below_tr hB hb
    clear hb
    obtain ⟨c0, c1, c2, c3, c4, c5, c6⟩ := cells7 gC
    have cp0 := fun o => cell_alloc (o := o) c0
    have cp1 := fun o => cell_alloc (o := o) c1
    have cp2 := fun o => cell_alloc (o := o) c2
    have cp3 := fun o => cell_alloc (o := o) c3
    have cp4 := fun o => cell_alloc (o := o) c4
    have cp5 := fun o => cell_alloc (o := o) c5
    have cp6 := fun o => cell_alloc (o := o) c6
    obtain ⟨x0, x1, x2, x3, x4, x5, x6⟩ := cells7 gX
    have xp0 := fun o => cell_alloc (o := o) x0
    have xp1 := fun o => cell_alloc (o := o) x1
    have xp2 := fun o => cell_alloc (o := o) x2
    have xp3 := fun o => cell_alloc (o := o) x3
    have xp4 := fun o => cell_alloc (o := o) x4
    have xp5 := fun o => cell_alloc (o := o) x5
    have xp6 := fun o => cell_alloc (o := o) x6
    go_wp2_with fail
    refine (cE _).mono ?_
    clear c0 cp0 c1 cp1 c2 cp2 c3 cp3 c4 cp4 c5 cp5 c6 cp6 x0 xp0 x1 xp1 x2 xp2 x3 xp3 x4 xp4 x5 xp5 x6 xp6
    rintro e w4 ⟨rfl, hb⟩
    replace gC := block_later hb gC
    replace gX := block_later hb gX
    replace hB := below_tr hB hb
    clear hb
    obtain ⟨c0, c1, c2, c3, c4, c5, c6⟩ := cells7 gC
    have cp0 := fun o => cell_alloc (o := o) c0
    have cp1 := fun o => cell_alloc (o := o) c1
    have cp2 := fun o => cell_alloc (o := o) c2
    have cp3 := fun o => cell_alloc (o := o) c3
    have cp4 := fun o => cell_alloc (o := o) c4
    have cp5 := fun o => cell_alloc (o := o) c5
    have cp6 := fun o => cell_alloc (o := o) c6
    obtain ⟨x0, x1, x2, x3, x4, x5, x6⟩ := cells7 gX
    have xp0 := fun o => cell_alloc (o := o) x0
    have xp1 := fun o => cell_alloc (o := o) x1
    have xp2 := fun o => cell_alloc (o := o) x2
    have xp3 := fun o => cell_alloc (o := o) x3
    have xp4 := fun o => cell_alloc (o := o) x4
    have xp5 := fun o => cell_alloc (o := o) x5
    have xp6 := fun o => cell_alloc (o := o) x6
    go_wp2_with fail
    refine (cL _).mono ?_
    clear c0 cp0 c1 cp1 c2 cp2 c3 cp3 c4 cp4 c5 cp5 c6 cp6 x0 xp0 x1 xp1 x2 xp2 x3 xp3 x4 xp4 x5 xp5 x6 xp6
    rintro e w5 ⟨rfl, hb⟩
    replace gC := block_later hb gC
    replace gX := block_later hb gX
    replace hB := below_tr hB hb
    clear hb
    obtain ⟨c0, c1, c2, c3, c4, c5, c6⟩ := cells7 gC
    have cp0 := fun o => cell_alloc (o := o) c0
    have cp1 := fun o => cell_alloc (o := o) c1
    have cp2 := fun o => cell_alloc (o := o) c2
    have cp3 := fun o => cell_alloc (o := o) c3
    have cp4 := fun o => cell_alloc (o := o) c4
    have cp5 := fun o => cell_alloc (o := o) c5
    have cp6 := fun o => cell_alloc (o := o) c6
    obtain ⟨x0, x1, x2, x3, x4, x5, x6⟩ := cells7 gX
    have xp0 := fun o => cell_alloc (o := o) x0
    have xp1 := fun o => cell_alloc (o := o) x1
    have xp2 := fun o => cell_alloc (o := o) x2
    have xp3 := fun o => cell_alloc (o := o) x3
    have xp4 := fun o => cell_alloc (o := o) x4
    have xp5 := fun o => cell_alloc (o := o) x5
    have xp6 := fun o => cell_alloc (o := o) x6
    go_wp2
    go_ret
    first
      | exact ⟨rfl, hB⟩
      | exact ⟨rfl, hB.alloc hB.size _⟩
  cases ho : hoB k
  · have hn : noB k a b r g s m = false := no_ho ho
    have hz := sz_neg (b := b) ho
    rw [hc] at cD
    have cS := fun w1 => size_no k a b r g s m ha hm hn w1
    have cE := fun w1 => end_no k a b r g s m ha hm hn w1
    have cL := fun w1 => slots_no k a b r g s m ha hm hn w1
    clear hn hc ho
    generalize szV k b = Z at *
    have dz : decide (Z < 0) = true := decide_eq_true hz
    go_enter Tryd.func5, Tryd.ntmps5
    go_wp2_with fail
    have gC := heap_alloc_new w (.cells #[.int .i64 k, .int .u64 (a : Nat), .int .i64 b, .int .i64 r, .int .i64 g, .int .i64 s, .int .u64 (m : Nat)] 24)
    have hB := below_new w (.cells #[.int .i64 k, .int .u64 (a : Nat), .int .i64 b, .int .i64 r, .int .i64 g, .int .i64 s, .int .u64 (m : Nat)] 24)
    generalize w.alloc (.cells #[.int .i64 k, .int .u64 (a : Nat), .int .i64 b, .int .i64 r, .int .i64 g, .int .i64 s, .int .u64 (m : Nat)] 24) = W0 at *
    obtain ⟨c0, c1, c2, c3, c4, c5, c6⟩ := cells7 gC
    have cp0 := fun o => cell_alloc (o := o) c0
    have cp1 := fun o => cell_alloc (o := o) c1
    have cp2 := fun o => cell_alloc (o := o) c2
    have cp3 := fun o => cell_alloc (o := o) c3
    have cp4 := fun o => cell_alloc (o := o) c4
    have cp5 := fun o => cell_alloc (o := o) c5
    have cp6 := fun o => cell_alloc (o := o) c6
    refine (cA _ (hP.later hB)).mono ?_
    clear c0 cp0 c1 cp1 c2 cp2 c3 cp3 c4 cp4 c5 cp5 c6 cp6
    rintro e w1 ⟨rfl, hb⟩
    replace gC := block_later hb gC
    replace hB := below_tr hB hb
    clear hb
    obtain ⟨c0, c1, c2, c3, c4, c5, c6⟩ := cells7 gC
    have cp0 := fun o => cell_alloc (o := o) c0
    have cp1 := fun o => cell_alloc (o := o) c1
    have cp2 := fun o => cell_alloc (o := o) c2
    have cp3 := fun o => cell_alloc (o := o) c3
    have cp4 := fun o => cell_alloc (o := o) c4
    have cp5 := fun o => cell_alloc (o := o) c5
    have cp6 := fun o => cell_alloc (o := o) c6
    go_wp2_with fail
    clear c0 cp0 c1 cp1 c2 cp2 c3 cp3 c4 cp4 c5 cp5 c6 cp6
    have gX := heap_alloc_new w1 (.cells #[.int .i64 k, .int .u64 (a : Nat), .int .i64 b, .int .i64 r, .int .i64 g, .int .i64 s, .int .u64 (m : Nat)] 29)
    replace gC := block_later (below_new _ (.cells #[.int .i64 k, .int .u64 (a : Nat), .int .i64 b, .int .i64 r, .int .i64 g, .int .i64 s, .int .u64 (m : Nat)] 29)) gC
    replace hB := below_tr hB (below_new _ (.cells #[.int .i64 k, .int .u64 (a : Nat), .int .i64 b, .int .i64 r, .int .i64 g, .int .i64 s, .int .u64 (m : Nat)] 29))
    generalize w1.heap.size = X at *
    generalize w1.alloc (.cells #[.int .i64 k, .int .u64 (a : Nat), .int .i64 b, .int .i64 r, .int .i64 g, .int .i64 s, .int .u64 (m : Nat)] 29) = w1a at *
    obtain ⟨c0, c1, c2, c3, c4, c5, c6⟩ := cells7 gC
    have cp0 := fun o => cell_alloc (o := o) c0
    have cp1 := fun o => cell_alloc (o := o) c1
    have cp2 := fun o => cell_alloc (o := o) c2
    have cp3 := fun o => cell_alloc (o := o) c3
    have cp4 := fun o => cell_alloc (o := o) c4
    have cp5 := fun o => cell_alloc (o := o) c5
    have cp6 := fun o => cell_alloc (o := o) c6
    obtain ⟨x0, x1, x2, x3, x4, x5, x6⟩ := cells7 gX
    have xp0 := fun o => cell_alloc (o := o) x0
    have xp1 := fun o => cell_alloc (o := o) x1
    have xp2 := fun o => cell_alloc (o := o) x2
    have xp3 := fun o => cell_alloc (o := o) x3
    have xp4 := fun o => cell_alloc (o := o) x4
    have xp5 := fun o => cell_alloc (o := o) x5
    have xp6 := fun o => cell_alloc (o := o) x6
    refine (cD _).mono ?_
    clear c0 cp0 c1 cp1 c2 cp2 c3 cp3 c4 cp4 c5 cp5 c6 cp6 x0 xp0 x1 xp1 x2 xp2 x3 xp3 x4 xp4 x5 xp5 x6 xp6
    rintro e w2 ⟨rfl, hb⟩
    replace gC := block_later hb gC
    replace gX := block_later hb gX
    replace hB := below_tr hB hb
    clear hb
    obtain ⟨c0, c1, c2, c3, c4, c5, c6⟩ := cells7 gC
    have cp0 := fun o => cell_alloc (o := o) c0
    have cp1 := fun o => cell_alloc (o := o) c1
    have cp2 := fun o => cell_alloc (o := o) c2
    have cp3 := fun o => cell_alloc (o := o) c3
    have cp4 := fun o => cell_alloc (o := o) c4
    have cp5 := fun o => cell_alloc (o := o) c5
    have cp6 := fun o => cell_alloc (o := o) c6
    obtain ⟨x0, x1, x2, x3, x4, x5, x6⟩ := cells7 gX
    have xp0 := fun o => cell_alloc (o := o) x0
    have xp1 := fun o => cell_alloc (o := o) x1
    have xp2 := fun o => cell_alloc (o := o) x2
    have xp3 := fun o => cell_alloc (o := o) x3
    have xp4 := fun o => cell_alloc (o := o) x4
    have xp5 := fun o => cell_alloc (o := o) x5
    have xp6 := fun o => cell_alloc (o := o) x6
    go_wp2_with fail
    refine (cZ _).mono ?_
    rintro e w3 ⟨rfl, rfl⟩
    go_wp2_with fail
    refine (cS _).mono ?_
    clear c0 cp0 c1 cp1 c2 cp2 c3 cp3 c4 cp4 c5 cp5 c6 cp6 x0 xp0 x1 xp1 x2 xp2 x3 xp3 x4 xp4 x5 xp5 x6 xp6
    rintro e w4 ⟨rfl, hb⟩
    replace gC := block_later hb gC
    replace gX := block_later hb gX
    replace hB := below_tr hB hb
    clear hb
    obtain ⟨c0, c1, c2, c3, c4, c5, c6⟩ := cells7 gC
    have cp0 := fun o => cell_alloc (o := o) c0
    have cp1 := fun o => cell_alloc (o := o) c1
    have cp2 := fun o => cell_alloc (o := o) c2
    have cp3 := fun o => cell_alloc (o := o) c3
    have cp4 := fun o => cell_alloc (o := o) c4
    have cp5 := fun o => cell_alloc (o := o) c5
    have cp6 := fun o => cell_alloc (o := o) c6
    obtain ⟨x0, x1, x2, x3, x4, x5, x6⟩ := cells7 gX
    have xp0 := fun o => cell_alloc (o := o) x0
    have xp1 := fun o => cell_alloc (o := o) x1
    have xp2 := fun o => cell_alloc (o := o) x2
    have xp3 := fun o => cell_alloc (o := o) x3
    have xp4 := fun o => cell_alloc (o := o) x4
    have xp5 := fun o => cell_alloc (o := o) x5
    have xp6 := fun o => cell_alloc (o := o) x6
    go_wp2_with fail
    refine (cE _).mono ?_
    clear c0 cp0 c1 cp1 c2 cp2 c3 cp3 c4 cp4 c5 cp5 c6 cp6 x0 xp0 x1 xp1 x2 xp2 x3 xp3 x4 xp4 x5 xp5 x6 xp6
    rintro e w5 ⟨rfl, hb⟩
    replace gC := block_later hb gC
    replace gX := block_later hb gX
    replace hB := below_tr hB hb
    clear hb
    obtain ⟨c0, c1, c2, c3, c4, c5, c6⟩ := cells7 gC
    have cp0 := fun o => cell_alloc (o := o) c0
    have cp1 := fun o => cell_alloc (o := o) c1
    have cp2 := fun o => cell_alloc (o := o) c2
    have cp3 := fun o => cell_alloc (o := o) c3
    have cp4 := fun o => cell_alloc (o := o) c4
    have cp5 := fun o => cell_alloc (o := o) c5
    have cp6 := fun o => cell_alloc (o := o) c6
    obtain ⟨x0, x1, x2, x3, x4, x5, x6⟩ := cells7 gX
    have xp0 := fun o => cell_alloc (o := o) x0
    have xp1 := fun o => cell_alloc (o := o) x1
    have xp2 := fun o => cell_alloc (o := o) x2
    have xp3 := fun o => cell_alloc (o := o) x3
    have xp4 := fun o => cell_alloc (o := o) x4
    have xp5 := fun o => cell_alloc (o := o) x5
    have xp6 := fun o => cell_alloc (o := o) x6
    go_wp2_with fail
    refine (cL _).mono ?_
    clear c0 cp0 c1 cp1 c2 cp2 c3 cp3 c4 cp4 c5 cp5 c6 cp6 x0 xp0 x1 xp1 x2 xp2 x3 xp3 x4 xp4 x5 xp5 x6 xp6
    rintro e w6 ⟨rfl, hb⟩
    replace gC := block_later hb gC
    replace gX := block_later hb gX
    replace hB := below_tr hB hb
    clear hb
    obtain ⟨c0, c1, c2, c3, c4, c5, c6⟩ := cells7 gC
    have cp0 := fun o => cell_alloc (o := o) c0
    have cp1 := fun o => cell_alloc (o := o) c1
    have cp2 := fun o => cell_alloc (o := o) c2
    have cp3 := fun o => cell_alloc (o := o) c3
    have cp4 := fun o => cell_alloc (o := o) c4
    have cp5 := fun o => cell_alloc (o := o) c5
    have cp6 := fun o => cell_alloc (o := o) c6
    obtain ⟨x0, x1, x2, x3, x4, x5, x6⟩ := cells7 gX
    have xp0 := fun o => cell_alloc (o := o) x0
    have xp1 := fun o => cell_alloc (o := o) x1
    have xp2 := fun o => cell_alloc (o := o) x2
    have xp3 := fun o => cell_alloc (o := o) x3
    have xp4 := fun o => cell_alloc (o := o) x4
    have xp5 := fun o => cell_alloc (o := o) x5
    have xp6 := fun o => cell_alloc (o := o) x6
    go_wp2
    go_ret
    first
      | exact ⟨rfl, hB⟩
      | exact ⟨rfl, hB.alloc hB.size _⟩
  · have hn := no_true ho hc
    rw [hc] at cD
    rw [sz_no hn] at cZ
    have cS := fun w1 => size_yes k a b r g s m ha hm hn w1
    have cE := fun w1 => end_yes k a b r g s m ha hm hn w1
    have cL := fun w1 => slots_yes k a b r g s m ha hm hn w1
    have cM := fun w1 => refSlots_any k a b r g s m ha hm hn w1
    obtain ⟨-, -, -, -, -, -, -, q2, q3, -, -⟩ := no_of hn
    have cP := fun w1 => pow_any (nbN k b) (by omega) w1
    obtain ⟨l1, l2⟩ := sl_le hn
    clear hn hc ho
    generalize slN k b = L at *
    generalize hN : nbN k b = N at *
    clear hN q2
    generalize 2 ^ N = p at *
    have dn : decide ((N : Int) < 0) = false := decide_eq_false (by omega)
    have ew : IntKind.u64.wrap ((a : Int) + (p : Int)) = ((a + p : Nat) : Int) := by rw [IntKind.wrap_u64]; omega
    generalize a + p = E at *
    have dE : decide ((E : Int) ≤ 4294967296) = true := decide_eq_true (by omega)
    have f1 : IntKind.u64.wrap (L : Int) = (L : Int) := by rw [IntKind.wrap_u64]; omega
    have f2 : IntKind.u64.wrap ((L : Int) * 32) = (L : Int) * 32 := by rw [IntKind.wrap_u64]; omega
    have dL : decide ((L : Int) * 32 ≤ (p : Int)) = true := decide_eq_true (by omega)
    go_enter Tryd.func5, Tryd.ntmps5
    go_wp2_with fail
    have gC := heap_alloc_new w (.cells #[.int .i64 k, .int .u64 (a : Nat), .int .i64 b, .int .i64 r, .int .i64 g, .int .i64 s, .int .u64 (m : Nat)] 24)
    have hB := below_new w (.cells #[.int .i64 k, .int .u64 (a : Nat), .int .i64 b, .int .i64 r, .int .i64 g, .int .i64 s, .int .u64 (m : Nat)] 24)
    generalize w.alloc (.cells #[.int .i64 k, .int .u64 (a : Nat), .int .i64 b, .int .i64 r, .int .i64 g, .int .i64 s, .int .u64 (m : Nat)] 24) = W0 at *
    obtain ⟨c0, c1, c2, c3, c4, c5, c6⟩ := cells7 gC
    have cp0 := fun o => cell_alloc (o := o) c0
    have cp1 := fun o => cell_alloc (o := o) c1
    have cp2 := fun o => cell_alloc (o := o) c2
    have cp3 := fun o => cell_alloc (o := o) c3
    have cp4 := fun o => cell_alloc (o := o) c4
    have cp5 := fun o => cell_alloc (o := o) c5
    have cp6 := fun o => cell_alloc (o := o) c6
    refine (cA _ (hP.later hB)).mono ?_
    clear c0 cp0 c1 cp1 c2 cp2 c3 cp3 c4 cp4 c5 cp5 c6 cp6
    rintro e w1 ⟨rfl, hb⟩
    replace gC := block_later hb gC
    replace hB := below_tr hB hb
    clear hb
    obtain ⟨c0, c1, c2, c3, c4, c5, c6⟩ := cells7 gC
    have cp0 := fun o => cell_alloc (o := o) c0
    have cp1 := fun o => cell_alloc (o := o) c1
    have cp2 := fun o => cell_alloc (o := o) c2
    have cp3 := fun o => cell_alloc (o := o) c3
    have cp4 := fun o => cell_alloc (o := o) c4
    have cp5 := fun o => cell_alloc (o := o) c5
    have cp6 := fun o => cell_alloc (o := o) c6
    go_wp2_with fail
    clear c0 cp0 c1 cp1 c2 cp2 c3 cp3 c4 cp4 c5 cp5 c6 cp6
    have gX := heap_alloc_new w1 (.cells #[.int .i64 k, .int .u64 (a : Nat), .int .i64 b, .int .i64 r, .int .i64 g, .int .i64 s, .int .u64 (m : Nat)] 29)
    replace gC := block_later (below_new _ (.cells #[.int .i64 k, .int .u64 (a : Nat), .int .i64 b, .int .i64 r, .int .i64 g, .int .i64 s, .int .u64 (m : Nat)] 29)) gC
    replace hB := below_tr hB (below_new _ (.cells #[.int .i64 k, .int .u64 (a : Nat), .int .i64 b, .int .i64 r, .int .i64 g, .int .i64 s, .int .u64 (m : Nat)] 29))
    generalize w1.heap.size = X at *
    generalize w1.alloc (.cells #[.int .i64 k, .int .u64 (a : Nat), .int .i64 b, .int .i64 r, .int .i64 g, .int .i64 s, .int .u64 (m : Nat)] 29) = w1a at *
    obtain ⟨c0, c1, c2, c3, c4, c5, c6⟩ := cells7 gC
    have cp0 := fun o => cell_alloc (o := o) c0
    have cp1 := fun o => cell_alloc (o := o) c1
    have cp2 := fun o => cell_alloc (o := o) c2
    have cp3 := fun o => cell_alloc (o := o) c3
    have cp4 := fun o => cell_alloc (o := o) c4
    have cp5 := fun o => cell_alloc (o := o) c5
    have cp6 := fun o => cell_alloc (o := o) c6
    obtain ⟨x0, x1, x2, x3, x4, x5, x6⟩ := cells7 gX
    have xp0 := fun o => cell_alloc (o := o) x0
    have xp1 := fun o => cell_alloc (o := o) x1
    have xp2 := fun o => cell_alloc (o := o) x2
    have xp3 := fun o => cell_alloc (o := o) x3
    have xp4 := fun o => cell_alloc (o := o) x4
    have xp5 := fun o => cell_alloc (o := o) x5
    have xp6 := fun o => cell_alloc (o := o) x6
    refine (cD _).mono ?_
    clear c0 cp0 c1 cp1 c2 cp2 c3 cp3 c4 cp4 c5 cp5 c6 cp6 x0 xp0 x1 xp1 x2 xp2 x3 xp3 x4 xp4 x5 xp5 x6 xp6
    rintro e w2 ⟨rfl, hb⟩
    replace gC := block_later hb gC
    replace gX := block_later hb gX
    replace hB := below_tr hB hb
    clear hb
    obtain ⟨c0, c1, c2, c3, c4, c5, c6⟩ := cells7 gC
    have cp0 := fun o => cell_alloc (o := o) c0
    have cp1 := fun o => cell_alloc (o := o) c1
    have cp2 := fun o => cell_alloc (o := o) c2
    have cp3 := fun o => cell_alloc (o := o) c3
    have cp4 := fun o => cell_alloc (o := o) c4
    have cp5 := fun o => cell_alloc (o := o) c5
    have cp6 := fun o => cell_alloc (o := o) c6
    obtain ⟨x0, x1, x2, x3, x4, x5, x6⟩ := cells7 gX
    have xp0 := fun o => cell_alloc (o := o) x0
    have xp1 := fun o => cell_alloc (o := o) x1
    have xp2 := fun o => cell_alloc (o := o) x2
    have xp3 := fun o => cell_alloc (o := o) x3
    have xp4 := fun o => cell_alloc (o := o) x4
    have xp5 := fun o => cell_alloc (o := o) x5
    have xp6 := fun o => cell_alloc (o := o) x6
    go_wp2_with fail
    refine (cZ _).mono ?_
    rintro e w3 ⟨rfl, rfl⟩
    go_wp2_with fail
    refine (cZ _).mono ?_
    rintro e w4 ⟨rfl, rfl⟩
    clear c0 cp0 c1 cp1 c2 cp2 c3 cp3 c4 cp4 c5 cp5 c6 cp6 x0 xp0 x1 xp1 x2 xp2 x3 xp3 x4 xp4 x5 xp5 x6 xp6
    go_upto_region 7 with fail
    obtain ⟨k0, k1, k2, k3, k4, k5, k6⟩ := cells7 gC
    obtain ⟨k7, k8, k9, k10, k11, k12, k13⟩ := cells7 gX
    refine wp_region_noPanic ?_
    refine wp_region_held_drew (S := (fun w' => w'.cell? ⟨w.heap.size, 0, none⟩ = some (.int .i64 k) ∧ w'.cell? ⟨w.heap.size, 1, none⟩ = some (.int .u64 (a : Nat)) ∧ w'.cell? ⟨w.heap.size, 2, none⟩ = some (.int .i64 b) ∧ w'.cell? ⟨w.heap.size, 3, none⟩ = some (.int .i64 r) ∧ w'.cell? ⟨w.heap.size, 4, none⟩ = some (.int .i64 g) ∧ w'.cell? ⟨w.heap.size, 5, none⟩ = some (.int .i64 s) ∧ w'.cell? ⟨w.heap.size, 6, none⟩ = some (.int .u64 (m : Nat)) ∧ w'.cell? ⟨X, 0, none⟩ = some (.int .i64 k) ∧ w'.cell? ⟨X, 1, none⟩ = some (.int .u64 (a : Nat)) ∧ w'.cell? ⟨X, 2, none⟩ = some (.int .i64 b) ∧ w'.cell? ⟨X, 3, none⟩ = some (.int .i64 r) ∧ w'.cell? ⟨X, 4, none⟩ = some (.int .i64 g) ∧ w'.cell? ⟨X, 5, none⟩ = some (.int .i64 s) ∧ w'.cell? ⟨X, 6, none⟩ = some (.int .u64 (m : Nat)))) (by kernel_rfl) ?_ (fun hHeld => ?_)
    · exact ⟨cell_later (Below.refl _ _).drew k0, cell_later (Below.refl _ _).drew k1, cell_later (Below.refl _ _).drew k2, cell_later (Below.refl _ _).drew k3, cell_later (Below.refl _ _).drew k4, cell_later (Below.refl _ _).drew k5, cell_later (Below.refl _ _).drew k6, cell_later (Below.refl _ _).drew k7, cell_later (Below.refl _ _).drew k8, cell_later (Below.refl _ _).drew k9, cell_later (Below.refl _ _).drew k10, cell_later (Below.refl _ _).drew k11, cell_later (Below.refl _ _).drew k12, cell_later (Below.refl _ _).drew k13⟩
    replace k0 := cell_later (Below.refl _ w2).drew k0
    replace k1 := cell_later (Below.refl _ w2).drew k1
    replace k2 := cell_later (Below.refl _ w2).drew k2
    replace k3 := cell_later (Below.refl _ w2).drew k3
    replace k4 := cell_later (Below.refl _ w2).drew k4
    replace k5 := cell_later (Below.refl _ w2).drew k5
    replace k6 := cell_later (Below.refl _ w2).drew k6
    replace k7 := cell_later (Below.refl _ w2).drew k7
    replace k8 := cell_later (Below.refl _ w2).drew k8
    replace k9 := cell_later (Below.refl _ w2).drew k9
    replace k10 := cell_later (Below.refl _ w2).drew k10
    replace k11 := cell_later (Below.refl _ w2).drew k11
    replace k12 := cell_later (Below.refl _ w2).drew k12
    replace k13 := cell_later (Below.refl _ w2).drew k13
    replace gC := block_later (Below.refl _ w2).drew gC
    replace gX := block_later (Below.refl _ w2).drew gX
    replace hB := below_tr hB (Below.refl _ w2).drew
    generalize w2.drew = Wd at *
    refine take_at (i := 0) (v := ?_) 37 rfl rfl (by kernel_rfl) (by kernel_rfl) (by kernel_rfl) (fun _ _ _ h => h) (Or.inl ⟨by rfl, ?_⟩) (by assumption) ?_
    rotate_left
    · (intro w' hSw; (try dsimp only at hSw); go_simp; all_goals with_reducible rfl)
    try simp only [Act.put, List.setIfInBounds_toArray, List.set_cons_zero, List.set_cons_succ]
    refine take_at (i := 2) (v := ?_) 39 rfl rfl (by kernel_rfl) (by kernel_rfl) (by kernel_rfl) (fun _ _ _ h => h) (Or.inl ⟨by rfl, ?_⟩) (by assumption) ?_
    rotate_left
    · (intro w' hSw; (try dsimp only at hSw); go_simp; all_goals with_reducible rfl)
    try simp only [Act.put, List.setIfInBounds_toArray, List.set_cons_zero, List.set_cons_succ]
    refine wpAnyH_ready (rs := [1]) (by kernel_rfl) (by simp) ?_
    refine AllReadyH.cons rfl (fun K hK => ?_) AllReadyH.nil
    go_simp
    refine (cS _).mono ?_
    rintro e wc1 ⟨rfl, hb⟩
    go_wp2_with fail
    replace k0 := cell_later hb k0
    replace k1 := cell_later hb k1
    replace k2 := cell_later hb k2
    replace k3 := cell_later hb k3
    replace k4 := cell_later hb k4
    replace k5 := cell_later hb k5
    replace k6 := cell_later hb k6
    replace k7 := cell_later hb k7
    replace k8 := cell_later hb k8
    replace k9 := cell_later hb k9
    replace k10 := cell_later hb k10
    replace k11 := cell_later hb k11
    replace k12 := cell_later hb k12
    replace k13 := cell_later hb k13
    replace gC := block_later hb gC
    replace gX := block_later hb gX
    replace hB := below_tr hB hb
    refine hK.out _ _ ⟨k0, k1, k2, k3, k4, k5, k6, k7, k8, k9, k10, k11, k12, k13⟩ (fun hHeld1 => ?_)
    clear hK
    try simp only [Act.put, List.setIfInBounds_toArray, List.set_cons_zero, List.set_cons_succ]
    refine take_at (i := 3) (v := ?_) 40 rfl rfl (by kernel_rfl) (by kernel_rfl) (by kernel_rfl) (fun _ _ _ h => h) (Or.inl ⟨by rfl, ?_⟩) (by assumption) ?_
    rotate_left
    · (intro w' hSw; (try dsimp only at hSw); go_simp; all_goals with_reducible rfl)
    try simp only [Act.put, List.setIfInBounds_toArray, List.set_cons_zero, List.set_cons_succ]
    refine take_at (i := 4) (v := ?_) 41 rfl rfl (by kernel_rfl) (by kernel_rfl) (by kernel_rfl) (fun _ _ _ h => h) (Or.inl ⟨by rfl, ?_⟩) (by assumption) ?_
    rotate_left
    · (intro w' hSw; (try dsimp only at hSw); go_simp; all_goals with_reducible rfl)
    try simp only [Act.put, List.setIfInBounds_toArray, List.set_cons_zero, List.set_cons_succ]
    refine take_at (i := 5) (v := ?_) 42 rfl rfl (by kernel_rfl) (by kernel_rfl) (by kernel_rfl) (fun _ _ _ h => h) (Or.inl ⟨by rfl, ?_⟩) (by assumption) ?_
    rotate_left
    · (intro w' hSw; (try dsimp only at hSw); go_simp; all_goals with_reducible rfl)
    try simp only [Act.put, List.setIfInBounds_toArray, List.set_cons_zero, List.set_cons_succ]
    refine take_at (i := 7) (v := ?_) 44 rfl rfl (by kernel_rfl) (by kernel_rfl) (by kernel_rfl) (fun _ _ _ h => h) (Or.inl ⟨by rfl, ?_⟩) (by assumption) ?_
    rotate_left
    · (intro w' hSw; (try dsimp only at hSw); go_simp; all_goals with_reducible rfl)
    try simp only [Act.put, List.setIfInBounds_toArray, List.set_cons_zero, List.set_cons_succ]
    refine take_at (i := 8) (v := ?_) 45 rfl rfl (by kernel_rfl) (by kernel_rfl) (by kernel_rfl) (fun _ _ _ h => h) (Or.inl ⟨by rfl, ?_⟩) (by assumption) ?_
    rotate_left
    · (intro w' hSw; (try dsimp only at hSw); go_simp; all_goals with_reducible rfl)
    try simp only [Act.put, List.setIfInBounds_toArray, List.set_cons_zero, List.set_cons_succ]
    refine take_at (i := 9) (v := ?_) 46 rfl rfl (by kernel_rfl) (by kernel_rfl) (by kernel_rfl) (fun _ _ _ h => h) (Or.inl ⟨by rfl, ?_⟩) (by assumption) ?_
    rotate_left
    · (intro w' hSw; (try dsimp only at hSw); go_simp; all_goals with_reducible rfl)
    try simp only [Act.put, List.setIfInBounds_toArray, List.set_cons_zero, List.set_cons_succ]
    refine wpAnyH_ready (rs := [6]) (by kernel_rfl) (by simp) ?_
    refine AllReadyH.cons rfl (fun K hK => ?_) AllReadyH.nil
    go_simp
    refine (cE _).mono ?_
    rintro e wc2 ⟨rfl, hb⟩
    go_wp2_with fail
    replace k0 := cell_later hb k0
    replace k1 := cell_later hb k1
    replace k2 := cell_later hb k2
    replace k3 := cell_later hb k3
    replace k4 := cell_later hb k4
    replace k5 := cell_later hb k5
    replace k6 := cell_later hb k6
    replace k7 := cell_later hb k7
    replace k8 := cell_later hb k8
    replace k9 := cell_later hb k9
    replace k10 := cell_later hb k10
    replace k11 := cell_later hb k11
    replace k12 := cell_later hb k12
    replace k13 := cell_later hb k13
    replace gC := block_later hb gC
    replace gX := block_later hb gX
    replace hB := below_tr hB hb
    refine hK.out _ _ ⟨k0, k1, k2, k3, k4, k5, k6, k7, k8, k9, k10, k11, k12, k13⟩ (fun hHeld2 => ?_)
    clear hK
    try simp only [Act.put, List.setIfInBounds_toArray, List.set_cons_zero, List.set_cons_succ]
    refine wpAnyH_ready (rs := [10]) (by kernel_rfl) (by simp) ?_
    refine AllReadyH.cons rfl (fun K hK => ?_) AllReadyH.nil
    go_simp
    refine (cP _).mono ?_
    rintro e wc3 ⟨rfl, rfl⟩
    go_wp2_with fail
    refine hK.out _ _ ⟨k0, k1, k2, k3, k4, k5, k6, k7, k8, k9, k10, k11, k12, k13⟩ (fun hHeld3 => ?_)
    clear hK
    try simp only [Act.put, List.setIfInBounds_toArray, List.set_cons_zero, List.set_cons_succ]
    refine take_at (i := 11) (v := ?_) 48 rfl rfl (by kernel_rfl) (by kernel_rfl) (by kernel_rfl) (fun _ _ _ h => h) (Or.inl ⟨by rfl, ?_⟩) (by assumption) ?_
    rotate_left
    · (intro w' hSw; (try dsimp only at hSw); go_simp; all_goals with_reducible rfl)
    try simp only [Act.put, List.setIfInBounds_toArray, List.set_cons_zero, List.set_cons_succ]
    refine take_at (i := 12) (v := ?_) 49 rfl rfl (by kernel_rfl) (by kernel_rfl) (by kernel_rfl) (fun _ _ _ h => h) (Or.inl ⟨by rfl, ?_⟩) (by assumption) ?_
    rotate_left
    · (intro w' hSw; (try dsimp only at hSw); go_simp; all_goals with_reducible rfl)
    try simp only [Act.put, List.setIfInBounds_toArray, List.set_cons_zero, List.set_cons_succ]
    refine take_at (i := 13) (v := ?_) 50 rfl rfl (by kernel_rfl) (by kernel_rfl) (by kernel_rfl) (fun _ _ _ h => h) (Or.inl ⟨by rfl, ?_⟩) (by assumption) ?_
    rotate_left
    · (intro w' hSw; (try dsimp only at hSw); go_simp; all_goals with_reducible rfl)
    try simp only [Act.put, List.setIfInBounds_toArray, List.set_cons_zero, List.set_cons_succ]
    refine take_at (i := 14) (v := ?_) 51 rfl rfl (by kernel_rfl) (by kernel_rfl) (by kernel_rfl) (fun _ _ _ h => h) (Or.inl ⟨by rfl, ?_⟩) (by assumption) ?_
    rotate_left
    · (intro w' hSw; (try dsimp only at hSw); go_simp; all_goals with_reducible rfl)
    try simp only [Act.put, List.setIfInBounds_toArray, List.set_cons_zero, List.set_cons_succ]
    refine take_at (i := 15) (v := ?_) 52 rfl rfl (by kernel_rfl) (by kernel_rfl) (by kernel_rfl) (fun _ _ _ h => h) (Or.inl ⟨by rfl, ?_⟩) (by assumption) ?_
    rotate_left
    · (intro w' hSw; (try dsimp only at hSw); go_simp; all_goals with_reducible rfl)
    try simp only [Act.put, List.setIfInBounds_toArray, List.set_cons_zero, List.set_cons_succ]
    refine wpAnyH_ready (rs := [16]) (by kernel_rfl) (by simp) ?_
    refine AllReadyH.cons rfl (fun K hK => ?_) AllReadyH.nil
    go_simp
    refine (cE _).mono ?_
    rintro e wc4 ⟨rfl, hb⟩
    go_wp2_with fail
    replace k0 := cell_later hb k0
    replace k1 := cell_later hb k1
    replace k2 := cell_later hb k2
    replace k3 := cell_later hb k3
    replace k4 := cell_later hb k4
    replace k5 := cell_later hb k5
    replace k6 := cell_later hb k6
    replace k7 := cell_later hb k7
    replace k8 := cell_later hb k8
    replace k9 := cell_later hb k9
    replace k10 := cell_later hb k10
    replace k11 := cell_later hb k11
    replace k12 := cell_later hb k12
    replace k13 := cell_later hb k13
    replace gC := block_later hb gC
    replace gX := block_later hb gX
    replace hB := below_tr hB hb
    refine hK.out _ _ ⟨k0, k1, k2, k3, k4, k5, k6, k7, k8, k9, k10, k11, k12, k13⟩ (fun hHeld4 => ?_)
    clear hK
    try simp only [Act.put, List.setIfInBounds_toArray, List.set_cons_zero, List.set_cons_succ]
    refine take_at (i := 17) (v := ?_) 54 rfl rfl (by kernel_rfl) (by kernel_rfl) (by kernel_rfl) (fun _ _ _ h => h) (Or.inl ⟨by rfl, ?_⟩) (by assumption) ?_
    rotate_left
    · (intro w' hSw; (try dsimp only at hSw); go_simp; all_goals with_reducible rfl)
    try simp only [Act.put, List.setIfInBounds_toArray, List.set_cons_zero, List.set_cons_succ]
    refine take_at (i := 18) (v := ?_) 55 rfl rfl (by kernel_rfl) (by kernel_rfl) (by kernel_rfl) (fun _ _ _ h => h) (Or.inl ⟨by rfl, ?_⟩) (by assumption) ?_
    rotate_left
    · (intro w' hSw; (try dsimp only at hSw); go_simp; all_goals with_reducible rfl)
    try simp only [Act.put, List.setIfInBounds_toArray, List.set_cons_zero, List.set_cons_succ]
    refine take_at (i := 19) (v := ?_) 56 rfl rfl (by kernel_rfl) (by kernel_rfl) (by kernel_rfl) (fun _ _ _ h => h) (Or.inl ⟨by rfl, ?_⟩) (by assumption) ?_
    rotate_left
    · (intro w' hSw; (try dsimp only at hSw); go_simp; all_goals with_reducible rfl)
    try simp only [Act.put, List.setIfInBounds_toArray, List.set_cons_zero, List.set_cons_succ]
    refine take_at (i := 20) (v := ?_) 57 rfl rfl (by kernel_rfl) (by kernel_rfl) (by kernel_rfl) (fun _ _ _ h => h) (Or.inl ⟨by rfl, ?_⟩) (by assumption) ?_
    rotate_left
    · (intro w' hSw; (try dsimp only at hSw); go_simp; all_goals with_reducible rfl)
    try simp only [Act.put, List.setIfInBounds_toArray, List.set_cons_zero, List.set_cons_succ]
    refine take_at (i := 22) (v := ?_) 59 rfl rfl (by kernel_rfl) (by kernel_rfl) (by kernel_rfl) (fun _ _ _ h => h) (Or.inl ⟨by rfl, ?_⟩) (by assumption) ?_
    rotate_left
    · (intro w' hSw; (try dsimp only at hSw); go_simp; all_goals with_reducible rfl)
    try simp only [Act.put, List.setIfInBounds_toArray, List.set_cons_zero, List.set_cons_succ]
    refine wpAnyH_ready (rs := [21]) (by kernel_rfl) (by simp) ?_
    refine AllReadyH.cons rfl (fun K hK => ?_) AllReadyH.nil
    go_simp
    refine (cL _).mono ?_
    rintro e wc5 ⟨rfl, hb⟩
    go_wp2_with fail
    replace k0 := cell_later hb k0
    replace k1 := cell_later hb k1
    replace k2 := cell_later hb k2
    replace k3 := cell_later hb k3
    replace k4 := cell_later hb k4
    replace k5 := cell_later hb k5
    replace k6 := cell_later hb k6
    replace k7 := cell_later hb k7
    replace k8 := cell_later hb k8
    replace k9 := cell_later hb k9
    replace k10 := cell_later hb k10
    replace k11 := cell_later hb k11
    replace k12 := cell_later hb k12
    replace k13 := cell_later hb k13
    replace gC := block_later hb gC
    replace gX := block_later hb gX
    replace hB := below_tr hB hb
    refine hK.out _ _ ⟨k0, k1, k2, k3, k4, k5, k6, k7, k8, k9, k10, k11, k12, k13⟩ (fun hHeld5 => ?_)
    clear hK
    try simp only [Act.put, List.setIfInBounds_toArray, List.set_cons_zero, List.set_cons_succ]
    refine wpAnyH_ready (rs := [23]) (by kernel_rfl) (by simp) ?_
    refine AllReadyH.cons rfl (fun K hK => ?_) AllReadyH.nil
    go_simp
    refine (cM _).mono ?_
    rintro e wc6 ⟨rfl, hb⟩
    go_wp2_with fail
    replace k0 := cell_later hb k0
    replace k1 := cell_later hb k1
    replace k2 := cell_later hb k2
    replace k3 := cell_later hb k3
    replace k4 := cell_later hb k4
    replace k5 := cell_later hb k5
    replace k6 := cell_later hb k6
    replace k7 := cell_later hb k7
    replace k8 := cell_later hb k8
    replace k9 := cell_later hb k9
    replace k10 := cell_later hb k10
    replace k11 := cell_later hb k11
    replace k12 := cell_later hb k12
    replace k13 := cell_later hb k13
    replace gC := block_later hb gC
    replace gX := block_later hb gX
    replace hB := below_tr hB hb
    refine hK.out _ _ ⟨k0, k1, k2, k3, k4, k5, k6, k7, k8, k9, k10, k11, k12, k13⟩ (fun hHeld6 => ?_)
    clear hK
    try simp only [Act.put, List.setIfInBounds_toArray, List.set_cons_zero, List.set_cons_succ]
    refine take_at (i := 24) (v := ?_) 61 rfl rfl (by kernel_rfl) (by kernel_rfl) (by kernel_rfl) (fun _ _ _ h => h) (Or.inl ⟨by rfl, ?_⟩) (by assumption) ?_
    rotate_left
    · (intro w' hSw; (try dsimp only at hSw); go_simp; all_goals with_reducible rfl)
    try simp only [Act.put, List.setIfInBounds_toArray, List.set_cons_zero, List.set_cons_succ]
    refine take_at (i := 25) (v := ?_) 62 rfl rfl (by kernel_rfl) (by kernel_rfl) (by kernel_rfl) (fun _ _ _ h => h) (Or.inl ⟨by rfl, ?_⟩) (by assumption) ?_
    rotate_left
    · (intro w' hSw; (try dsimp only at hSw); go_simp; all_goals with_reducible rfl)
    try simp only [Act.put, List.setIfInBounds_toArray, List.set_cons_zero, List.set_cons_succ]
    refine take_at (i := 26) (v := ?_) 63 rfl rfl (by kernel_rfl) (by kernel_rfl) (by kernel_rfl) (fun _ _ _ h => h) (Or.inl ⟨by rfl, ?_⟩) (by assumption) ?_
    rotate_left
    · (intro w' hSw; (try dsimp only at hSw); go_simp; all_goals with_reducible rfl)
    try simp only [Act.put, List.setIfInBounds_toArray, List.set_cons_zero, List.set_cons_succ]
    refine take_at (i := 27) (v := ?_) 64 rfl rfl (by kernel_rfl) (by kernel_rfl) (by kernel_rfl) (fun _ _ _ h => h) (Or.inl ⟨by rfl, ?_⟩) (by assumption) ?_
    rotate_left
    · (intro w' hSw; (try dsimp only at hSw); go_simp; all_goals with_reducible rfl)
    try simp only [Act.put, List.setIfInBounds_toArray, List.set_cons_zero, List.set_cons_succ]
    refine take_at (i := 31) (v := ?_) 68 rfl rfl (by kernel_rfl) (by kernel_rfl) (by kernel_rfl) (fun _ _ _ h => h) (Or.inl ⟨by rfl, ?_⟩) (by assumption) ?_
    rotate_left
    · (intro w' hSw; (try dsimp only at hSw); go_simp; all_goals with_reducible rfl)
    try simp only [Act.put, List.setIfInBounds_toArray, List.set_cons_zero, List.set_cons_succ]
    refine wpAnyH_ready (rs := [28]) (by kernel_rfl) (by simp) ?_
    refine AllReadyH.cons rfl (fun K hK => ?_) AllReadyH.nil
    go_simp
    refine (cL _).mono ?_
    rintro e wc7 ⟨rfl, hb⟩
    go_wp2_with fail
    replace k0 := cell_later hb k0
    replace k1 := cell_later hb k1
    replace k2 := cell_later hb k2
    replace k3 := cell_later hb k3
    replace k4 := cell_later hb k4
    replace k5 := cell_later hb k5
    replace k6 := cell_later hb k6
    replace k7 := cell_later hb k7
    replace k8 := cell_later hb k8
    replace k9 := cell_later hb k9
    replace k10 := cell_later hb k10
    replace k11 := cell_later hb k11
    replace k12 := cell_later hb k12
    replace k13 := cell_later hb k13
    replace gC := block_later hb gC
    replace gX := block_later hb gX
    replace hB := below_tr hB hb
    refine hK.out _ _ ⟨k0, k1, k2, k3, k4, k5, k6, k7, k8, k9, k10, k11, k12, k13⟩ (fun hHeld7 => ?_)
    clear hK
    try simp only [Act.put, List.setIfInBounds_toArray, List.set_cons_zero, List.set_cons_succ]
    refine take_at (i := 29) (v := ?_) 66 rfl rfl (by kernel_rfl) (by kernel_rfl) (by kernel_rfl) (fun _ _ _ h => h) (Or.inl ⟨by rfl, ?_⟩) (by assumption) ?_
    rotate_left
    · (intro w' hSw; (try dsimp only at hSw); go_simp; all_goals with_reducible rfl)
    try simp only [Act.put, List.setIfInBounds_toArray, List.set_cons_zero, List.set_cons_succ]
    refine take_at (i := 30) (v := ?_) 67 rfl rfl (by kernel_rfl) (by kernel_rfl) (by kernel_rfl) (fun _ _ _ h => h) (Or.inl ⟨by rfl, ?_⟩) (by assumption) ?_
    rotate_left
    · (intro w' hSw; (try dsimp only at hSw); go_simp; all_goals with_reducible rfl)
    try simp only [Act.put, List.setIfInBounds_toArray, List.set_cons_zero, List.set_cons_succ]
    refine wpAnyH_ready (rs := [32]) (by kernel_rfl) (by simp) ?_
    refine AllReadyH.cons rfl (fun K hK => ?_) AllReadyH.nil
    go_simp
    refine (cP _).mono ?_
    rintro e wc8 ⟨rfl, rfl⟩
    go_wp2_with fail
    refine hK.out _ _ ⟨k0, k1, k2, k3, k4, k5, k6, k7, k8, k9, k10, k11, k12, k13⟩ (fun hHeld8 => ?_)
    clear hK
    try simp only [Act.put, List.setIfInBounds_toArray, List.set_cons_zero, List.set_cons_succ]
    refine take_at (i := 33) (v := ?_) 70 rfl rfl (by kernel_rfl) (by kernel_rfl) (by kernel_rfl) (fun _ _ _ h => h) (Or.inl ⟨by rfl, ?_⟩) (by assumption) ?_
    rotate_left
    · (intro w' hSw; (try dsimp only at hSw); go_simp; all_goals with_reducible rfl)
    try simp only [Act.put, List.setIfInBounds_toArray, List.set_cons_zero, List.set_cons_succ]
    refine take_at (i := 34) (v := ?_) 71 rfl rfl (by kernel_rfl) (by kernel_rfl) (by kernel_rfl) (fun _ _ _ h => h) (Or.inl ⟨by rfl, ?_⟩) (by assumption) ?_
    rotate_left
    · (intro w' hSw; (try dsimp only at hSw); go_simp; all_goals with_reducible rfl)
    try simp only [Act.put, List.setIfInBounds_toArray, List.set_cons_zero, List.set_cons_succ]
    refine take_at (i := 35) (v := ?_) 2 rfl rfl (by kernel_rfl) (by kernel_rfl) (by kernel_rfl) (fun _ _ _ h => h) (Or.inl ⟨by rfl, ?_⟩) (by assumption) ?_
    rotate_left
    · (intro w' hSw; (try dsimp only at hSw); go_simp; all_goals with_reducible rfl)
    try simp only [Act.put, List.setIfInBounds_toArray, List.set_cons_zero, List.set_cons_succ]
    refine wpAnyH_done (by kernel_rfl) ?_ _
    refine NoPanic.normal ?_
    go_wp2
    go_ret
    exact ⟨rfl, hB⟩

theorem met {W : World} (h : laidMet Tryd.prog Rows.capSizesRow.laid W) : Prts W := by
  have h0 := part_of_reads (g := 0) (by kernel_rfl) (by kernel_rfl) (Lib.laidMet.reads h (n := "portreeve/cap.kindPart") (d := Rows.laid_portreeve_cap_kindPart) (by simp [Rows.capSizesRow]))
  have h1 := part_of_reads (g := 1) (by kernel_rfl) (by kernel_rfl) (Lib.laidMet.reads h (n := "portreeve/cap.bitsPart") (d := Rows.laid_portreeve_cap_bitsPart) (by simp [Rows.capSizesRow]))
  have h2 := part_of_reads (g := 2) (by kernel_rfl) (by kernel_rfl) (Lib.laidMet.reads h (n := "portreeve/cap.rightsPart") (d := Rows.laid_portreeve_cap_rightsPart) (by simp [Rows.capSizesRow]))
  have h3 := part_of_reads (g := 3) (by kernel_rfl) (by kernel_rfl) (Lib.laidMet.reads h (n := "portreeve/cap.guardPart") (d := Rows.laid_portreeve_cap_guardPart) (by simp [Rows.capSizesRow]))
  have h4 := part_of_reads (g := 4) (by kernel_rfl) (by kernel_rfl) (Lib.laidMet.reads h (n := "portreeve/cap.asidPart") (d := Rows.laid_portreeve_cap_asidPart) (by simp [Rows.capSizesRow]))
  have h5 := part_of_reads (g := 5) (by kernel_rfl) (by kernel_rfl) (Lib.laidMet.reads h (n := "portreeve/cap.atPart") (d := Rows.laid_portreeve_cap_atPart) (by simp [Rows.capSizesRow]))
  exact ⟨h0.1, h0.2.1, h0.2.2, h1.1, h1.2.1, h1.2.2, h2.1, h2.2.1, h2.2.2, h3.1, h3.2.1, h3.2.2, h4.1, h4.2.1, h4.2.2, h5.1, h5.2.1, h5.2.2⟩

theorem own : ownKnob Tryd.prog.godebug = none := by kernel_rfl
theorem laidOut : laidOutB Tryd.prog = true := by kernel_rfl

set_option linter.unusedVariables false in
set_option maxRecDepth 100000 in
theorem contract (H : Type) (enc : TypeId × Value → H) (W : World) (base : Nat) (args : Array Value) (ds gs : List (DataW H)) (before : List MemPlace)
    (hval0 : ∀ (j : Nat) t v, Tryd.f5.params[j]? = some t → args[j]? = some v → Value.okWide Tryd.prog W .any base t v)
    (hW : DataW.Whole enc Tryd.prog Tryd.f5.params.toList Rows.capSizesSpec.vars false W args.toList ds gs before) (hL0 : laidMetH Tryd.prog Rows.capSizesRow.laid W) :
    Calls Tryd.prog 5 args W fun e W' => ∃ v, e = .returned v ∧ Rows.capSizesSpec.post enc Tryd.prog Tryd.f5 false true false false W args v W' := by
  have hL := hL0
  rw [MakeChecks.laidMetH_plain _ _ _ (by kernel_rfl)] at hL
  have hval := hval0
  have hW' := hW
  obtain ⟨p, q, hA0, hV, rfl, hfz, hnd⟩ := hW
  have hA : DataW.TrodAll enc Tryd.prog W 0 (fun _ => true) true Tryd.f5.params.toList args.toList ds p := hA0
  rw [Tryd.params5] at hA hval
  obtain ⟨v0, vs0, d0, ds0, p0, q0, hargs, rfl, rfl, h0, r0⟩ := trodAll_cons hA
  obtain ⟨rfl, rfl, rfl⟩ := trodAll_nil r0
  obtain rfl : args = #[v0] := by cases args; simp_all
  obtain ⟨rfl, rfl⟩ := trodVars_none hV
  have k0 := h0
  have lt0 : ∀ x ∈ p0, x.block < W.heap.size := by obtain ⟨m, hm⟩ := k0; exact DataW.trod_lt m _ _ _ hm
  obtain ⟨ck0, ca0, cb0, cr0, cg0, cs0', cm0, rfl, b0, bm0⟩ := open_cap (hval 0 24 v0 rfl rfl) h0
  clear hA0 hval0
  refine (walk ck0 ca0 cb0 cr0 cg0 cs0' cm0 W b0 bm0 (met hL)).mono fun e W' ⟨he, bel⟩ => ?_
  subst he
  exact ⟨_, rfl, _, _, _, [], _, [], hW', trodAll_mk1 (shut_bool Tryd.underlying4 _), (trodAll_cons_mk (Below.trod laidOut (by kernel_rfl) (of_decide_eq_true (by kernel_rfl)) k0 bel lt0) trodAll_mk0), rfl, bel.frame _, fun h => by cases h⟩

theorem laid_met (os : Os) : laidMet Tryd.prog Rows.capSizesRow.laid ((World.laidAll Tryd.prog os Rows.capSizesRow.laid).forCall (fun _ _ => 0) ⟨#[], #[.agg #[.int .i64 0, .int .u64 0, .int .i64 0, .int .i64 0, .int .i64 0, .int .i64 0, .int .u64 0]], []⟩).memory :=
  laidMet_laidAll _ (by kernel_rfl) (by kernel_rfl)
theorem reads (os : Os) {H : Type} (enc : TypeId × Value → H) : ∃ places, DataW.whole enc Tryd.prog ((World.laidAll Tryd.prog os Rows.capSizesRow.laid).forCall (fun _ _ => 0) ⟨#[], #[.agg #[.int .i64 0, .int .u64 0, .int .i64 0, .int .i64 0, .int .i64 0, .int .i64 0, .int .u64 0]], []⟩).memory Tryd.f5.params.toList Rows.capSizesSpec.vars false (#[.agg #[.int .i64 0, .int .u64 0, .int .i64 0, .int .i64 0, .int .i64 0, .int .i64 0, .int .u64 0]] : Array Value).toList 8 = some ([.agg [.lit (.int .i64 0), .lit (.int .u64 0), .lit (.int .i64 0), .lit (.int .i64 0), .lit (.int .i64 0), .lit (.int .i64 0), .lit (.int .u64 0)]], [], places) :=
  ⟨[], by kernel_rfl⟩

set_option maxRecDepth 100000 in
theorem lifted (os : Os) (started : os.Started) (H : Type) (enc : TypeId × Value → H) (F : Stop.Interp) :
    ReturnsInHanded {} Tryd.checked os 5 .any ((OpenSpec.ofChange Rows.capSizesSpec).preRow enc Tryd.prog Tryd.f5 Rows.capSizesRow.domain false Rows.capSizesRow.laid) (((OpenSpec.ofChange Rows.capSizesSpec).at F).post enc Tryd.prog Tryd.f5 false true false false) := by
  obtain ⟨places, hx⟩ := reads os enc
  refine returnsInHanded_of_row (C := Tryd.checked) (s := (OpenSpec.ofChange Rows.capSizesSpec)) own started (by kernel_rfl) Tryd.func5
    (witness_row_at (enc := enc) (C := Tryd.checked) false (World.laidAll Tryd.prog os Rows.capSizesRow.laid) #[.agg #[.int .i64 0, .int .u64 0, .int .i64 0, .int .i64 0, .int .i64 0, .int .i64 0, .int .u64 0]] (World.laidAll_os _ _ _) (by kernel_rfl) (by kernel_rfl) (by kernel_rfl)
      (OpenSpec.preRow_of_cond 8 hx (by kernel_rfl) (fun k hk => by cases hk) (by kernel_rfl) (laid_met os))) ?_
  intro W base args ds gs before hval hW _ _ _ hL _ _
  exact contract H enc W base args ds gs before hval hW hL

theorem said : Rows.CapSizesSaid :=
  OpenClaim.holds_of_cond 5 Tryd.f5 rfl rfl rfl rfl rfl rfl rfl ⟨rfl, rfl, rfl, rfl, rfl⟩ rfl rfl rfl rfl rfl (by kernel_rfl) Tryd.func5 (by kernel_rfl)
    (of_decide_eq_true (by kernel_rfl)) (by unfold Func.isWrapper; first | (rw [if_pos (by decide +kernel)]; kernel_rfl) | (rw [if_neg (by decide +kernel)]; exact ⟨rfl, rfl⟩))
    (fun os started H enc _ F => by rw [OpenClaim.pre_eq_preRow]; exact lifted os started H enc F)

theorem plain (f : FuncId) (fn : Func) (hf : Tryd.pinned.checked.prog.funcNamed "portreeve/portreevelaw11.CapSizes" = some f) (hfn : Tryd.pinned.checked.prog.funcs[f]? = some fn) :
    true = Tryd.pinned.checked.prog.looks [] ∧ ∀ (j : Nat) t, fn.params[j]? = some t → Tryd.pinned.checked.prog.wantsStandIn t = false := by
  obtain rfl : f = 5 := Option.some.inj ((show Tryd.prog.funcNamed "portreeve/portreevelaw11.CapSizes" = some 5 by kernel_rfl).symm.trans hf) |>.symm
  obtain rfl : fn = Tryd.f5 := (Option.some.inj (Tryd.func5.symm.trans hfn)).symm
  refine ⟨by kernel_rfl, fun j t ht => ?_⟩
  rw [Tryd.params5] at ht
  have hm : t ∈ [24] := by simpa using Array.mem_of_getElem? ht
  have hall : ([24].all fun u => !Tryd.prog.wantsStandIn u) = true := by kernel_rfl
  exact (show Tryd.prog.wantsStandIn t = false by simpa using List.all_eq_true.1 hall t hm)

theorem card : Rows.CapSizesCardSaid :=
  Claim7.holds_tied_plain_at .later [] _ _ _ _ said (fun _ h => by cases h) (by kernel_rfl) (fun _ h => by cases h) capSizes_row_tie rfl ⟨rfl, rfl⟩ (by kernel_rfl) rfl plain (by kernel_rfl)

end Go.Proofs.YtkedoajkdobjdaaDoor.capSizes
