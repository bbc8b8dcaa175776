/- Slots: the document's Right, Words and Read. -/
import Derived.Test.YtieldgocgjoojaaDoorSlotD
set_option linter.unusedVariables false
namespace Go.Proofs.YtieldgocgjoojaaDoor
open Go.RowKit

theorem rem32 (x : Nat) : (((x : Int).tmod 32 == 0) = decide (x % 32 = 0)) ∧ (((x : Int) % 32 == 0) = decide (x % 32 = 0)) ∧ (decide ((x : Int) % 32 = 0) = decide (x % 32 = 0)) := by
  have e : (x : Int).tmod 32 = (x : Int) % 32 := Int.tmod_eq_emod_of_nonneg (by omega)
  rw [e]
  refine ⟨?_, ?_, ?_⟩ <;> (rw [Bool.eq_iff_iff]; simp; omega)
set_option maxRecDepth 100000 in
set_option maxHeartbeats 4000000 in
theorem dsright_any (k : Int) (a : Nat) (b r g s : Int) (m nx pv : Nat) (d : Int) (ha : a < 18446744073709551616) (hm : m < 18446744073709551616) (w : World) :
    Calls Tryd.prog 13 #[.agg #[.int .i64 k, .int .u64 (a : Nat), .int .i64 b, .int .i64 r, .int .i64 g, .int .i64 s, .int .u64 (m : Nat), .int .u64 (nx : Nat), .int .u64 (pv : Nat), .int .i64 d]] w fun e w' => e = .returned (.bool (sB k a b r g s m nx pv d)) ∧ Below w.heap.size w w' := by
  have cD := fun w1 => dright_any k a b r g s m ha hm w1
  rw [← right_same] at cD
  obtain ⟨rn, rn2, rn3⟩ := rem32 nx
  obtain ⟨rp, rp2, rp3⟩ := rem32 pv
  cases h1 : cB k a b r g s m
  · rw [h1] at cD
    have HE : Hid (sB k a b r g s m nx pv d = false) := by show _ = _; unfold sB lkB; rw [h1, if_neg (by decide)]
    go_enter Tryd.func13, Tryd.ntmps13
    go_wp2_with fail
    have gC := heap_alloc_new w (.cells #[.int .i64 k, .int .u64 (a : Nat), .int .i64 b, .int .i64 r, .int .i64 g, .int .i64 s, .int .u64 (m : Nat), .int .u64 (nx : Nat), .int .u64 (pv : Nat), .int .i64 d] 38)
    have hB := below_new w (.cells #[.int .i64 k, .int .u64 (a : Nat), .int .i64 b, .int .i64 r, .int .i64 g, .int .i64 s, .int .u64 (m : Nat), .int .u64 (nx : Nat), .int .u64 (pv : Nat), .int .i64 d] 38)
    generalize w.alloc (.cells #[.int .i64 k, .int .u64 (a : Nat), .int .i64 b, .int .i64 r, .int .i64 g, .int .i64 s, .int .u64 (m : Nat), .int .u64 (nx : Nat), .int .u64 (pv : Nat), .int .i64 d] 38) = W0 at *
    obtain ⟨c0, c1, c2, c3, c4, c5, c6, c7, c8, c9⟩ := cells10 gC
    have cp0 := fun o => cell_alloc (o := o) c0
    have cp1 := fun o => cell_alloc (o := o) c1
    have cp2 := fun o => cell_alloc (o := o) c2
    have cp3 := fun o => cell_alloc (o := o) c3
    have cp4 := fun o => cell_alloc (o := o) c4
    have cp5 := fun o => cell_alloc (o := o) c5
    have cp6 := fun o => cell_alloc (o := o) c6
    have cp7 := fun o => cell_alloc (o := o) c7
    have cp8 := fun o => cell_alloc (o := o) c8
    have cp9 := fun o => cell_alloc (o := o) c9
    refine (cD _).mono ?_
    clear c0 cp0 c1 cp1 c2 cp2 c3 cp3 c4 cp4 c5 cp5 c6 cp6 c7 cp7 c8 cp8 c9 cp9
    rintro e w1 ⟨rfl, hb⟩
    replace gC := block_later hb gC
    replace hB := below_tr hB hb
    clear hb
    obtain ⟨c0, c1, c2, c3, c4, c5, c6, c7, c8, c9⟩ := cells10 gC
    have cp0 := fun o => cell_alloc (o := o) c0
    have cp1 := fun o => cell_alloc (o := o) c1
    have cp2 := fun o => cell_alloc (o := o) c2
    have cp3 := fun o => cell_alloc (o := o) c3
    have cp4 := fun o => cell_alloc (o := o) c4
    have cp5 := fun o => cell_alloc (o := o) c5
    have cp6 := fun o => cell_alloc (o := o) c6
    have cp7 := fun o => cell_alloc (o := o) c7
    have cp8 := fun o => cell_alloc (o := o) c8
    have cp9 := fun o => cell_alloc (o := o) c9
    go_wp2
    go_ret
    exact ⟨by first | (rw [HE.out]; done) | (rw [HE.out]; rfl), hB⟩
  rw [h1] at cD
  by_cases h2 : nx < 4294967296
  case neg =>
    have d2 : decide ((nx : Int) < 4294967296) = false := decide_eq_false (by omega)
    have HE : Hid (sB k a b r g s m nx pv d = false) := by show _ = _; unfold sB lkB; rw [h1, if_pos rfl, if_neg h2, if_neg (by decide)]
    clear h2
    go_enter Tryd.func13, Tryd.ntmps13
    go_wp2_with fail
    have gC := heap_alloc_new w (.cells #[.int .i64 k, .int .u64 (a : Nat), .int .i64 b, .int .i64 r, .int .i64 g, .int .i64 s, .int .u64 (m : Nat), .int .u64 (nx : Nat), .int .u64 (pv : Nat), .int .i64 d] 38)
    have hB := below_new w (.cells #[.int .i64 k, .int .u64 (a : Nat), .int .i64 b, .int .i64 r, .int .i64 g, .int .i64 s, .int .u64 (m : Nat), .int .u64 (nx : Nat), .int .u64 (pv : Nat), .int .i64 d] 38)
    generalize w.alloc (.cells #[.int .i64 k, .int .u64 (a : Nat), .int .i64 b, .int .i64 r, .int .i64 g, .int .i64 s, .int .u64 (m : Nat), .int .u64 (nx : Nat), .int .u64 (pv : Nat), .int .i64 d] 38) = W0 at *
    obtain ⟨c0, c1, c2, c3, c4, c5, c6, c7, c8, c9⟩ := cells10 gC
    have cp0 := fun o => cell_alloc (o := o) c0
    have cp1 := fun o => cell_alloc (o := o) c1
    have cp2 := fun o => cell_alloc (o := o) c2
    have cp3 := fun o => cell_alloc (o := o) c3
    have cp4 := fun o => cell_alloc (o := o) c4
    have cp5 := fun o => cell_alloc (o := o) c5
    have cp6 := fun o => cell_alloc (o := o) c6
    have cp7 := fun o => cell_alloc (o := o) c7
    have cp8 := fun o => cell_alloc (o := o) c8
    have cp9 := fun o => cell_alloc (o := o) c9
    refine (cD _).mono ?_
    clear c0 cp0 c1 cp1 c2 cp2 c3 cp3 c4 cp4 c5 cp5 c6 cp6 c7 cp7 c8 cp8 c9 cp9
    rintro e w1 ⟨rfl, hb⟩
    replace gC := block_later hb gC
    replace hB := below_tr hB hb
    clear hb
    obtain ⟨c0, c1, c2, c3, c4, c5, c6, c7, c8, c9⟩ := cells10 gC
    have cp0 := fun o => cell_alloc (o := o) c0
    have cp1 := fun o => cell_alloc (o := o) c1
    have cp2 := fun o => cell_alloc (o := o) c2
    have cp3 := fun o => cell_alloc (o := o) c3
    have cp4 := fun o => cell_alloc (o := o) c4
    have cp5 := fun o => cell_alloc (o := o) c5
    have cp6 := fun o => cell_alloc (o := o) c6
    have cp7 := fun o => cell_alloc (o := o) c7
    have cp8 := fun o => cell_alloc (o := o) c8
    have cp9 := fun o => cell_alloc (o := o) c9
    go_wp2
    go_ret
    exact ⟨by first | (rw [HE.out]; done) | (rw [HE.out]; rfl), hB⟩
  have d2 : decide ((nx : Int) < 4294967296) = true := decide_eq_true (by omega)
  cases h3 : decide (nx % 32 = 0)
  · rw [h3] at rn rn2 rn3
    have HE : Hid (sB k a b r g s m nx pv d = false) := by show _ = _; unfold sB lkB; rw [h1, if_pos rfl, if_pos h2, h3, if_neg (by decide)]
    clear h2
    go_enter Tryd.func13, Tryd.ntmps13
    go_wp2_with fail
    have gC := heap_alloc_new w (.cells #[.int .i64 k, .int .u64 (a : Nat), .int .i64 b, .int .i64 r, .int .i64 g, .int .i64 s, .int .u64 (m : Nat), .int .u64 (nx : Nat), .int .u64 (pv : Nat), .int .i64 d] 38)
    have hB := below_new w (.cells #[.int .i64 k, .int .u64 (a : Nat), .int .i64 b, .int .i64 r, .int .i64 g, .int .i64 s, .int .u64 (m : Nat), .int .u64 (nx : Nat), .int .u64 (pv : Nat), .int .i64 d] 38)
    generalize w.alloc (.cells #[.int .i64 k, .int .u64 (a : Nat), .int .i64 b, .int .i64 r, .int .i64 g, .int .i64 s, .int .u64 (m : Nat), .int .u64 (nx : Nat), .int .u64 (pv : Nat), .int .i64 d] 38) = W0 at *
    obtain ⟨c0, c1, c2, c3, c4, c5, c6, c7, c8, c9⟩ := cells10 gC
    have cp0 := fun o => cell_alloc (o := o) c0
    have cp1 := fun o => cell_alloc (o := o) c1
    have cp2 := fun o => cell_alloc (o := o) c2
    have cp3 := fun o => cell_alloc (o := o) c3
    have cp4 := fun o => cell_alloc (o := o) c4
    have cp5 := fun o => cell_alloc (o := o) c5
    have cp6 := fun o => cell_alloc (o := o) c6
    have cp7 := fun o => cell_alloc (o := o) c7
    have cp8 := fun o => cell_alloc (o := o) c8
    have cp9 := fun o => cell_alloc (o := o) c9
    refine (cD _).mono ?_
    clear c0 cp0 c1 cp1 c2 cp2 c3 cp3 c4 cp4 c5 cp5 c6 cp6 c7 cp7 c8 cp8 c9 cp9
    rintro e w1 ⟨rfl, hb⟩
    replace gC := block_later hb gC
    replace hB := below_tr hB hb
    clear hb
    obtain ⟨c0, c1, c2, c3, c4, c5, c6, c7, c8, c9⟩ := cells10 gC
    have cp0 := fun o => cell_alloc (o := o) c0
    have cp1 := fun o => cell_alloc (o := o) c1
    have cp2 := fun o => cell_alloc (o := o) c2
    have cp3 := fun o => cell_alloc (o := o) c3
    have cp4 := fun o => cell_alloc (o := o) c4
    have cp5 := fun o => cell_alloc (o := o) c5
    have cp6 := fun o => cell_alloc (o := o) c6
    have cp7 := fun o => cell_alloc (o := o) c7
    have cp8 := fun o => cell_alloc (o := o) c8
    have cp9 := fun o => cell_alloc (o := o) c9
    go_wp2
    go_ret
    exact ⟨by first | (rw [HE.out]; done) | (rw [HE.out]; rfl), hB⟩
  rw [h3] at rn rn2 rn3
  by_cases h4 : pv < 4294967296
  case neg =>
    have d4 : decide ((pv : Int) < 4294967296) = false := decide_eq_false (by omega)
    have HE : Hid (sB k a b r g s m nx pv d = false) := by show _ = _; unfold sB lkB; rw [h1, if_pos rfl, if_pos h2, h3, if_pos rfl, if_neg h4, if_neg (by decide)]
    clear h2 h4
    go_enter Tryd.func13, Tryd.ntmps13
    go_wp2_with fail
    have gC := heap_alloc_new w (.cells #[.int .i64 k, .int .u64 (a : Nat), .int .i64 b, .int .i64 r, .int .i64 g, .int .i64 s, .int .u64 (m : Nat), .int .u64 (nx : Nat), .int .u64 (pv : Nat), .int .i64 d] 38)
    have hB := below_new w (.cells #[.int .i64 k, .int .u64 (a : Nat), .int .i64 b, .int .i64 r, .int .i64 g, .int .i64 s, .int .u64 (m : Nat), .int .u64 (nx : Nat), .int .u64 (pv : Nat), .int .i64 d] 38)
    generalize w.alloc (.cells #[.int .i64 k, .int .u64 (a : Nat), .int .i64 b, .int .i64 r, .int .i64 g, .int .i64 s, .int .u64 (m : Nat), .int .u64 (nx : Nat), .int .u64 (pv : Nat), .int .i64 d] 38) = W0 at *
    obtain ⟨c0, c1, c2, c3, c4, c5, c6, c7, c8, c9⟩ := cells10 gC
    have cp0 := fun o => cell_alloc (o := o) c0
    have cp1 := fun o => cell_alloc (o := o) c1
    have cp2 := fun o => cell_alloc (o := o) c2
    have cp3 := fun o => cell_alloc (o := o) c3
    have cp4 := fun o => cell_alloc (o := o) c4
    have cp5 := fun o => cell_alloc (o := o) c5
    have cp6 := fun o => cell_alloc (o := o) c6
    have cp7 := fun o => cell_alloc (o := o) c7
    have cp8 := fun o => cell_alloc (o := o) c8
    have cp9 := fun o => cell_alloc (o := o) c9
    refine (cD _).mono ?_
    clear c0 cp0 c1 cp1 c2 cp2 c3 cp3 c4 cp4 c5 cp5 c6 cp6 c7 cp7 c8 cp8 c9 cp9
    rintro e w1 ⟨rfl, hb⟩
    replace gC := block_later hb gC
    replace hB := below_tr hB hb
    clear hb
    obtain ⟨c0, c1, c2, c3, c4, c5, c6, c7, c8, c9⟩ := cells10 gC
    have cp0 := fun o => cell_alloc (o := o) c0
    have cp1 := fun o => cell_alloc (o := o) c1
    have cp2 := fun o => cell_alloc (o := o) c2
    have cp3 := fun o => cell_alloc (o := o) c3
    have cp4 := fun o => cell_alloc (o := o) c4
    have cp5 := fun o => cell_alloc (o := o) c5
    have cp6 := fun o => cell_alloc (o := o) c6
    have cp7 := fun o => cell_alloc (o := o) c7
    have cp8 := fun o => cell_alloc (o := o) c8
    have cp9 := fun o => cell_alloc (o := o) c9
    go_wp2
    go_ret
    exact ⟨by first | (rw [HE.out]; done) | (rw [HE.out]; rfl), hB⟩
  have d4 : decide ((pv : Int) < 4294967296) = true := decide_eq_true (by omega)
  cases h5 : decide (pv % 32 = 0)
  · rw [h5] at rp rp2 rp3
    have HE : Hid (sB k a b r g s m nx pv d = false) := by show _ = _; unfold sB lkB; rw [h1, if_pos rfl, if_pos h2, h3, if_pos rfl, if_pos h4, h5, if_neg (by decide)]
    clear h2 h4
    go_enter Tryd.func13, Tryd.ntmps13
    go_wp2_with fail
    have gC := heap_alloc_new w (.cells #[.int .i64 k, .int .u64 (a : Nat), .int .i64 b, .int .i64 r, .int .i64 g, .int .i64 s, .int .u64 (m : Nat), .int .u64 (nx : Nat), .int .u64 (pv : Nat), .int .i64 d] 38)
    have hB := below_new w (.cells #[.int .i64 k, .int .u64 (a : Nat), .int .i64 b, .int .i64 r, .int .i64 g, .int .i64 s, .int .u64 (m : Nat), .int .u64 (nx : Nat), .int .u64 (pv : Nat), .int .i64 d] 38)
    generalize w.alloc (.cells #[.int .i64 k, .int .u64 (a : Nat), .int .i64 b, .int .i64 r, .int .i64 g, .int .i64 s, .int .u64 (m : Nat), .int .u64 (nx : Nat), .int .u64 (pv : Nat), .int .i64 d] 38) = W0 at *
    obtain ⟨c0, c1, c2, c3, c4, c5, c6, c7, c8, c9⟩ := cells10 gC
    have cp0 := fun o => cell_alloc (o := o) c0
    have cp1 := fun o => cell_alloc (o := o) c1
    have cp2 := fun o => cell_alloc (o := o) c2
    have cp3 := fun o => cell_alloc (o := o) c3
    have cp4 := fun o => cell_alloc (o := o) c4
    have cp5 := fun o => cell_alloc (o := o) c5
    have cp6 := fun o => cell_alloc (o := o) c6
    have cp7 := fun o => cell_alloc (o := o) c7
    have cp8 := fun o => cell_alloc (o := o) c8
    have cp9 := fun o => cell_alloc (o := o) c9
    refine (cD _).mono ?_
    clear c0 cp0 c1 cp1 c2 cp2 c3 cp3 c4 cp4 c5 cp5 c6 cp6 c7 cp7 c8 cp8 c9 cp9
    rintro e w1 ⟨rfl, hb⟩
    replace gC := block_later hb gC
    replace hB := below_tr hB hb
    clear hb
    obtain ⟨c0, c1, c2, c3, c4, c5, c6, c7, c8, c9⟩ := cells10 gC
    have cp0 := fun o => cell_alloc (o := o) c0
    have cp1 := fun o => cell_alloc (o := o) c1
    have cp2 := fun o => cell_alloc (o := o) c2
    have cp3 := fun o => cell_alloc (o := o) c3
    have cp4 := fun o => cell_alloc (o := o) c4
    have cp5 := fun o => cell_alloc (o := o) c5
    have cp6 := fun o => cell_alloc (o := o) c6
    have cp7 := fun o => cell_alloc (o := o) c7
    have cp8 := fun o => cell_alloc (o := o) c8
    have cp9 := fun o => cell_alloc (o := o) c9
    go_wp2
    go_ret
    exact ⟨by first | (rw [HE.out]; done) | (rw [HE.out]; rfl), hB⟩
  rw [h5] at rp rp2 rp3
  by_cases h6 : 0 ≤ d
  case neg =>
    have d6 : decide ((0 : Int) ≤ d) = false := decide_eq_false h6
    have HE : Hid (sB k a b r g s m nx pv d = false) := by show _ = _; unfold sB lkB; rw [h1, if_pos rfl, if_pos h2, h3, if_pos rfl, if_pos h4, h5, if_pos rfl, if_neg h6]
    clear h2 h4 h6
    go_enter Tryd.func13, Tryd.ntmps13
    go_wp2_with fail
    have gC := heap_alloc_new w (.cells #[.int .i64 k, .int .u64 (a : Nat), .int .i64 b, .int .i64 r, .int .i64 g, .int .i64 s, .int .u64 (m : Nat), .int .u64 (nx : Nat), .int .u64 (pv : Nat), .int .i64 d] 38)
    have hB := below_new w (.cells #[.int .i64 k, .int .u64 (a : Nat), .int .i64 b, .int .i64 r, .int .i64 g, .int .i64 s, .int .u64 (m : Nat), .int .u64 (nx : Nat), .int .u64 (pv : Nat), .int .i64 d] 38)
    generalize w.alloc (.cells #[.int .i64 k, .int .u64 (a : Nat), .int .i64 b, .int .i64 r, .int .i64 g, .int .i64 s, .int .u64 (m : Nat), .int .u64 (nx : Nat), .int .u64 (pv : Nat), .int .i64 d] 38) = W0 at *
    obtain ⟨c0, c1, c2, c3, c4, c5, c6, c7, c8, c9⟩ := cells10 gC
    have cp0 := fun o => cell_alloc (o := o) c0
    have cp1 := fun o => cell_alloc (o := o) c1
    have cp2 := fun o => cell_alloc (o := o) c2
    have cp3 := fun o => cell_alloc (o := o) c3
    have cp4 := fun o => cell_alloc (o := o) c4
    have cp5 := fun o => cell_alloc (o := o) c5
    have cp6 := fun o => cell_alloc (o := o) c6
    have cp7 := fun o => cell_alloc (o := o) c7
    have cp8 := fun o => cell_alloc (o := o) c8
    have cp9 := fun o => cell_alloc (o := o) c9
    refine (cD _).mono ?_
    clear c0 cp0 c1 cp1 c2 cp2 c3 cp3 c4 cp4 c5 cp5 c6 cp6 c7 cp7 c8 cp8 c9 cp9
    rintro e w1 ⟨rfl, hb⟩
    replace gC := block_later hb gC
    replace hB := below_tr hB hb
    clear hb
    obtain ⟨c0, c1, c2, c3, c4, c5, c6, c7, c8, c9⟩ := cells10 gC
    have cp0 := fun o => cell_alloc (o := o) c0
    have cp1 := fun o => cell_alloc (o := o) c1
    have cp2 := fun o => cell_alloc (o := o) c2
    have cp3 := fun o => cell_alloc (o := o) c3
    have cp4 := fun o => cell_alloc (o := o) c4
    have cp5 := fun o => cell_alloc (o := o) c5
    have cp6 := fun o => cell_alloc (o := o) c6
    have cp7 := fun o => cell_alloc (o := o) c7
    have cp8 := fun o => cell_alloc (o := o) c8
    have cp9 := fun o => cell_alloc (o := o) c9
    go_wp2
    go_ret
    exact ⟨by first | (rw [HE.out]; done) | (rw [HE.out]; rfl), hB⟩
  have d6 : decide ((0 : Int) ≤ d) = true := decide_eq_true h6
  have HE : Hid (sB k a b r g s m nx pv d = decide (d ≤ 4096)) := by show _ = _; unfold sB lkB; rw [h1, if_pos rfl, if_pos h2, h3, if_pos rfl, if_pos h4, h5, if_pos rfl, if_pos h6]
  clear h2 h4 h6
  go_enter Tryd.func13, Tryd.ntmps13
  go_wp2_with fail
  have gC := heap_alloc_new w (.cells #[.int .i64 k, .int .u64 (a : Nat), .int .i64 b, .int .i64 r, .int .i64 g, .int .i64 s, .int .u64 (m : Nat), .int .u64 (nx : Nat), .int .u64 (pv : Nat), .int .i64 d] 38)
  have hB := below_new w (.cells #[.int .i64 k, .int .u64 (a : Nat), .int .i64 b, .int .i64 r, .int .i64 g, .int .i64 s, .int .u64 (m : Nat), .int .u64 (nx : Nat), .int .u64 (pv : Nat), .int .i64 d] 38)
  generalize w.alloc (.cells #[.int .i64 k, .int .u64 (a : Nat), .int .i64 b, .int .i64 r, .int .i64 g, .int .i64 s, .int .u64 (m : Nat), .int .u64 (nx : Nat), .int .u64 (pv : Nat), .int .i64 d] 38) = W0 at *
  obtain ⟨c0, c1, c2, c3, c4, c5, c6, c7, c8, c9⟩ := cells10 gC
  have cp0 := fun o => cell_alloc (o := o) c0
  have cp1 := fun o => cell_alloc (o := o) c1
  have cp2 := fun o => cell_alloc (o := o) c2
  have cp3 := fun o => cell_alloc (o := o) c3
  have cp4 := fun o => cell_alloc (o := o) c4
  have cp5 := fun o => cell_alloc (o := o) c5
  have cp6 := fun o => cell_alloc (o := o) c6
  have cp7 := fun o => cell_alloc (o := o) c7
  have cp8 := fun o => cell_alloc (o := o) c8
  have cp9 := fun o => cell_alloc (o := o) c9
  refine (cD _).mono ?_
  clear c0 cp0 c1 cp1 c2 cp2 c3 cp3 c4 cp4 c5 cp5 c6 cp6 c7 cp7 c8 cp8 c9 cp9
  rintro e w1 ⟨rfl, hb⟩
  replace gC := block_later hb gC
  replace hB := below_tr hB hb
  clear hb
  obtain ⟨c0, c1, c2, c3, c4, c5, c6, c7, c8, c9⟩ := cells10 gC
  have cp0 := fun o => cell_alloc (o := o) c0
  have cp1 := fun o => cell_alloc (o := o) c1
  have cp2 := fun o => cell_alloc (o := o) c2
  have cp3 := fun o => cell_alloc (o := o) c3
  have cp4 := fun o => cell_alloc (o := o) c4
  have cp5 := fun o => cell_alloc (o := o) c5
  have cp6 := fun o => cell_alloc (o := o) c6
  have cp7 := fun o => cell_alloc (o := o) c7
  have cp8 := fun o => cell_alloc (o := o) c8
  have cp9 := fun o => cell_alloc (o := o) c9
  go_wp2
  go_ret
  exact ⟨by first | (rw [HE.out]; done) | (rw [HE.out]; rfl), hB⟩

theorem info4a : (Tryd.prog.info? 27).map (·.size) = some 4 := by kernel_rfl
set_option maxRecDepth 100000 in
set_option maxHeartbeats 8000000 in
theorem dswords_any {k a b r g s m nx pv d : Nat} (hR : Rt k a b r g s m) (hx : nx < 4294967296) (hp : pv < 4294967296) (hd : d ≤ 4096) (w : World) :
    Calls Tryd.prog 15 #[.agg #[.int .i64 (k : Nat), .int .u64 (a : Nat), .int .i64 (b : Nat), .int .i64 (r : Nat), .int .i64 (g : Nat), .int .i64 (s : Nat), .int .u64 (m : Nat), .int .u64 (nx : Nat), .int .u64 (pv : Nat), .int .i64 (d : Nat)]] w fun e w' => e = .returned (.agg #[.int .u64 ((wordN k a b r g s : Nat) : Int), .int .u64 (m : Nat), .int .u64 ((lnkN nx pv : Nat) : Int), .int .u64 (d : Nat)]) ∧ Below w.heap.size w w' := by
  have cF := fun w1 => refWord_any hR w1
  have hN : nx / 32 < 134217728 := by omega
  have hV : pv / 32 < 134217728 := by omega
  have hL : nx / 32 + pv / 32 * 4294967296 = lnkN nx pv := rfl
  have e1 : (nx : Int).tdiv 32 = ((nx / 32 : Nat) : Int) := by rw [Int.tdiv_eq_ediv_of_nonneg (by omega)]; omega
  have e2 : (pv : Int).tdiv 32 = ((pv / 32 : Nat) : Int) := by rw [Int.tdiv_eq_ediv_of_nonneg (by omega)]; omega
  generalize nx / 32 = A at *
  generalize pv / 32 = B at *
  generalize lnkN nx pv = L at *
  generalize wordN k a b r g s = N at *
  have f0 : IntKind.u64.wrap (A : Int) = (A : Int) := by rw [IntKind.wrap_u64]; omega
  have f00 : IntKind.u64.wrap (B : Int) = (B : Int) := by rw [IntKind.wrap_u64]; omega
  have f1 : IntKind.u64.wrap ((B : Int) * 4294967296) = (B : Int) * 4294967296 := by rw [IntKind.wrap_u64]; omega
  have f2 : IntKind.u64.wrap ((A : Int) + (B : Int) * 4294967296) = (L : Int) := by rw [IntKind.wrap_u64]; omega
  have f3 : IntKind.u64.wrap (d : Int) = (d : Int) := by rw [IntKind.wrap_u64]; omega
  clear hR hx hp hd hN hV hL
  go_enter Tryd.func15, Tryd.ntmps15
  go_wp2_with fail
  have gC := heap2_0 w (.cells #[.int .i64 (k : Nat), .int .u64 (a : Nat), .int .i64 (b : Nat), .int .i64 (r : Nat), .int .i64 (g : Nat), .int .i64 (s : Nat), .int .u64 (m : Nat), .int .u64 (nx : Nat), .int .u64 (pv : Nat), .int .i64 (d : Nat)] 38) (.cells #[.int .u64 0, .int .u64 0, .int .u64 0, .int .u64 0] 27)
  have gR := heap_alloc_new (w.alloc (.cells #[.int .i64 (k : Nat), .int .u64 (a : Nat), .int .i64 (b : Nat), .int .i64 (r : Nat), .int .i64 (g : Nat), .int .i64 (s : Nat), .int .u64 (m : Nat), .int .u64 (nx : Nat), .int .u64 (pv : Nat), .int .i64 (d : Nat)] 38)) (.cells #[.int .u64 0, .int .u64 0, .int .u64 0, .int .u64 0] 27)
  have hB := below2 w (.cells #[.int .i64 (k : Nat), .int .u64 (a : Nat), .int .i64 (b : Nat), .int .i64 (r : Nat), .int .i64 (g : Nat), .int .i64 (s : Nat), .int .u64 (m : Nat), .int .u64 (nx : Nat), .int .u64 (pv : Nat), .int .i64 (d : Nat)] 38) (.cells #[.int .u64 0, .int .u64 0, .int .u64 0, .int .u64 0] 27)
  rw [World.size_alloc] at gR
  generalize (w.alloc (.cells #[.int .i64 (k : Nat), .int .u64 (a : Nat), .int .i64 (b : Nat), .int .i64 (r : Nat), .int .i64 (g : Nat), .int .i64 (s : Nat), .int .u64 (m : Nat), .int .u64 (nx : Nat), .int .u64 (pv : Nat), .int .i64 (d : Nat)] 38)).alloc (.cells #[.int .u64 0, .int .u64 0, .int .u64 0, .int .u64 0] 27) = W0 at *
  have hRB := Nat.le_succ w.heap.size
  obtain ⟨k0, k1, k2, k3, k4, k5, k6, k7, k8, k9⟩ := cells10 gC
  refine wp_region_noPanic ?_
  refine wp_region_held_drew (S := (fun w' => w'.cell? ⟨w.heap.size, 0, none⟩ = some (.int .i64 (k : Nat)) ∧ w'.cell? ⟨w.heap.size, 1, none⟩ = some (.int .u64 (a : Nat)) ∧ w'.cell? ⟨w.heap.size, 2, none⟩ = some (.int .i64 (b : Nat)) ∧ w'.cell? ⟨w.heap.size, 3, none⟩ = some (.int .i64 (r : Nat)) ∧ w'.cell? ⟨w.heap.size, 4, none⟩ = some (.int .i64 (g : Nat)) ∧ w'.cell? ⟨w.heap.size, 5, none⟩ = some (.int .i64 (s : Nat)) ∧ w'.cell? ⟨w.heap.size, 6, none⟩ = some (.int .u64 (m : Nat)) ∧ w'.cell? ⟨w.heap.size, 7, none⟩ = some (.int .u64 (nx : Nat)) ∧ w'.cell? ⟨w.heap.size, 8, none⟩ = some (.int .u64 (pv : Nat)) ∧ w'.cell? ⟨w.heap.size, 9, none⟩ = some (.int .i64 (d : Nat)))) (by kernel_rfl) ?_ (fun hHeld => ?_)
  · exact ⟨cell_later (Below.refl _ _).drew k0, cell_later (Below.refl _ _).drew k1, cell_later (Below.refl _ _).drew k2, cell_later (Below.refl _ _).drew k3, cell_later (Below.refl _ _).drew k4, cell_later (Below.refl _ _).drew k5, cell_later (Below.refl _ _).drew k6, cell_later (Below.refl _ _).drew k7, cell_later (Below.refl _ _).drew k8, cell_later (Below.refl _ _).drew k9⟩
  replace k0 := cell_later (Below.refl _ W0).drew k0
  replace k1 := cell_later (Below.refl _ W0).drew k1
  replace k2 := cell_later (Below.refl _ W0).drew k2
  replace k3 := cell_later (Below.refl _ W0).drew k3
  replace k4 := cell_later (Below.refl _ W0).drew k4
  replace k5 := cell_later (Below.refl _ W0).drew k5
  replace k6 := cell_later (Below.refl _ W0).drew k6
  replace k7 := cell_later (Below.refl _ W0).drew k7
  replace k8 := cell_later (Below.refl _ W0).drew k8
  replace k9 := cell_later (Below.refl _ W0).drew k9
  replace gC := block_later (Below.refl _ W0).drew gC
  replace gR := block_later (Below.refl _ W0).drew gR
  replace hB := below_tr hB (Below.refl _ W0).drew
  generalize W0.drew = Wd at *
  refine take_at (i := 0) (v := ?_) 3 rfl rfl (by kernel_rfl) (by kernel_rfl) (by kernel_rfl) (fun _ _ _ h => h) (Or.inl ⟨by rfl, ?_⟩) (by assumption) ?_
  rotate_left
  · (intro w' hSw; (try dsimp only at hSw); go_simp; all_goals with_reducible rfl)
  try simp only [Act.put, List.setIfInBounds_toArray, List.set_cons_zero, List.set_cons_succ]
  refine take_at (i := 1) (v := ?_) 4 rfl rfl (by kernel_rfl) (by kernel_rfl) (by kernel_rfl) (fun _ _ _ h => h) (Or.inl ⟨by rfl, ?_⟩) (by assumption) ?_
  rotate_left
  · (intro w' hSw; (try dsimp only at hSw); go_simp; all_goals with_reducible rfl)
  try simp only [Act.put, List.setIfInBounds_toArray, List.set_cons_zero, List.set_cons_succ]
  refine take_at (i := 3) (v := ?_) 6 rfl rfl (by kernel_rfl) (by kernel_rfl) (by kernel_rfl) (fun _ _ _ h => h) (Or.inl ⟨by rfl, ?_⟩) (by assumption) ?_
  rotate_left
  · (intro w' hSw; (try dsimp only at hSw); go_simp; all_goals with_reducible rfl)
  try simp only [Act.put, List.setIfInBounds_toArray, List.set_cons_zero, List.set_cons_succ]
  refine take_at (i := 4) (v := ?_) 7 rfl rfl (by kernel_rfl) (by kernel_rfl) (by kernel_rfl) (fun _ _ _ h => h) (Or.inl ⟨by rfl, ?_⟩) (by assumption) ?_
  rotate_left
  · (intro w' hSw; (try dsimp only at hSw); go_simp; all_goals with_reducible rfl)
  try simp only [Act.put, List.setIfInBounds_toArray, List.set_cons_zero, List.set_cons_succ]
  refine take_at (i := 5) (v := ?_) 8 rfl rfl (by kernel_rfl) (by kernel_rfl) (by kernel_rfl) (fun _ _ _ h => h) (Or.inl ⟨by rfl, ?_⟩) (by assumption) ?_
  rotate_left
  · (intro w' hSw; (try dsimp only at hSw); go_simp; all_goals with_reducible rfl)
  try simp only [Act.put, List.setIfInBounds_toArray, List.set_cons_zero, List.set_cons_succ]
  refine take_at (i := 6) (v := ?_) 9 rfl rfl (by kernel_rfl) (by kernel_rfl) (by kernel_rfl) (fun _ _ _ h => h) (Or.inl ⟨by rfl, ?_⟩) (by assumption) ?_
  rotate_left
  · (intro w' hSw; (try dsimp only at hSw); go_simp; all_goals with_reducible rfl)
  try simp only [Act.put, List.setIfInBounds_toArray, List.set_cons_zero, List.set_cons_succ]
  refine take_at (i := 7) (v := ?_) 10 rfl rfl (by kernel_rfl) (by kernel_rfl) (by kernel_rfl) (fun _ _ _ h => h) (Or.inl ⟨by rfl, ?_⟩) (by assumption) ?_
  rotate_left
  · (intro w' hSw; (try dsimp only at hSw); go_simp; all_goals with_reducible rfl)
  try simp only [Act.put, List.setIfInBounds_toArray, List.set_cons_zero, List.set_cons_succ]
  refine take_at (i := 8) (v := ?_) 11 rfl rfl (by kernel_rfl) (by kernel_rfl) (by kernel_rfl) (fun _ _ _ h => h) (Or.inl ⟨by rfl, ?_⟩) (by assumption) ?_
  rotate_left
  · (intro w' hSw; (try dsimp only at hSw); go_simp; all_goals with_reducible rfl)
  try simp only [Act.put, List.setIfInBounds_toArray, List.set_cons_zero, List.set_cons_succ]
  refine take_at (i := 9) (v := ?_) 12 rfl rfl (by kernel_rfl) (by kernel_rfl) (by kernel_rfl) (fun _ _ _ h => h) (Or.inl ⟨by rfl, ?_⟩) (by assumption) ?_
  rotate_left
  · (intro w' hSw; (try dsimp only at hSw); go_simp; all_goals with_reducible rfl)
  try simp only [Act.put, List.setIfInBounds_toArray, List.set_cons_zero, List.set_cons_succ]
  refine take_at (i := 10) (v := ?_) 13 rfl rfl (by kernel_rfl) (by kernel_rfl) (by kernel_rfl) (fun _ _ _ h => h) (Or.inl ⟨by rfl, ?_⟩) (by assumption) ?_
  rotate_left
  · (intro w' hSw; (try dsimp only at hSw); go_simp; all_goals with_reducible rfl)
  try simp only [Act.put, List.setIfInBounds_toArray, List.set_cons_zero, List.set_cons_succ]
  refine take_at (i := 11) (v := ?_) 14 rfl rfl (by kernel_rfl) (by kernel_rfl) (by kernel_rfl) (fun _ _ _ h => h) (Or.inl ⟨by rfl, ?_⟩) (by assumption) ?_
  rotate_left
  · (intro w' hSw; (try dsimp only at hSw); go_simp; all_goals with_reducible rfl)
  try simp only [Act.put, List.setIfInBounds_toArray, List.set_cons_zero, List.set_cons_succ]
  refine take_at (i := 12) (v := ?_) 15 rfl rfl (by kernel_rfl) (by kernel_rfl) (by kernel_rfl) (fun _ _ _ h => h) (Or.inl ⟨by rfl, ?_⟩) (by assumption) ?_
  rotate_left
  · (intro w' hSw; (try dsimp only at hSw); go_simp; all_goals with_reducible rfl)
  try simp only [Act.put, List.setIfInBounds_toArray, List.set_cons_zero, List.set_cons_succ]
  refine take_at (i := 13) (v := ?_) 16 rfl rfl (by kernel_rfl) (by kernel_rfl) (by kernel_rfl) (fun _ _ _ h => h) (Or.inl ⟨by rfl, ?_⟩) (by assumption) ?_
  rotate_left
  · (intro w' hSw; (try dsimp only at hSw); go_simp; all_goals with_reducible rfl)
  try simp only [Act.put, List.setIfInBounds_toArray, List.set_cons_zero, List.set_cons_succ]
  refine take_at (i := 14) (v := ?_) 17 rfl rfl (by kernel_rfl) (by kernel_rfl) (by kernel_rfl) (fun _ _ _ h => h) (Or.inl ⟨by rfl, ?_⟩) (by assumption) ?_
  rotate_left
  · (intro w' hSw; (try dsimp only at hSw); go_simp; all_goals with_reducible rfl)
  try simp only [Act.put, List.setIfInBounds_toArray, List.set_cons_zero, List.set_cons_succ]
  refine take_at (i := 15) (v := ?_) 18 rfl rfl (by kernel_rfl) (by kernel_rfl) (by kernel_rfl) (fun _ _ _ h => h) (Or.inl ⟨by rfl, ?_⟩) (by assumption) ?_
  rotate_left
  · (intro w' hSw; (try dsimp only at hSw); go_simp; all_goals with_reducible rfl)
  try simp only [Act.put, List.setIfInBounds_toArray, List.set_cons_zero, List.set_cons_succ]
  refine take_at (i := 16) (v := ?_) 19 rfl rfl (by kernel_rfl) (by kernel_rfl) (by kernel_rfl) (fun _ _ _ h => h) (Or.inl ⟨by rfl, ?_⟩) (by assumption) ?_
  rotate_left
  · (intro w' hSw; (try dsimp only at hSw); go_simp; all_goals with_reducible rfl)
  try simp only [Act.put, List.setIfInBounds_toArray, List.set_cons_zero, List.set_cons_succ]
  refine wpAnyH_ready (rs := [2]) (by kernel_rfl) (by simp) ?_
  refine AllReadyH.cons rfl (fun K hK => ?_) AllReadyH.nil
  go_simp
  refine (cF _).mono ?_
  rintro e wc1 ⟨rfl, hb⟩
  go_wp2_with fail
  replace k0 := cell_later hb k0
  replace k1 := cell_later hb k1
  replace k2 := cell_later hb k2
  replace k3 := cell_later hb k3
  replace k4 := cell_later hb k4
  replace k5 := cell_later hb k5
  replace k6 := cell_later hb k6
  replace k7 := cell_later hb k7
  replace k8 := cell_later hb k8
  replace k9 := cell_later hb k9
  replace gC := block_later hb gC
  replace gR := block_later hb gR
  replace hB := below_tr hB hb
  refine hK.out _ _ ⟨k0, k1, k2, k3, k4, k5, k6, k7, k8, k9⟩ (fun hHeld1 => ?_)
  clear hK
  try simp only [Act.put, List.setIfInBounds_toArray, List.set_cons_zero, List.set_cons_succ]
  refine take_at (i := 17) (v := ?_) 20 rfl rfl (by kernel_rfl) (by kernel_rfl) (by kernel_rfl) (fun _ _ _ h => h) (Or.inl ⟨by rfl, ?_⟩) (by assumption) ?_
  rotate_left
  · (intro w' hSw; (try dsimp only at hSw); go_simp; all_goals with_reducible rfl)
  try simp only [Act.put, List.setIfInBounds_toArray, List.set_cons_zero, List.set_cons_succ]
  refine wpAnyH_ready (rs := [18]) (by kernel_rfl) (by simp) ?_
  refine AllReadyH.cons rfl (fun K hK => ?_) AllReadyH.nil
  refine step_store_seg rfl rfl 27 _ _ rfl ((w.heap.size + 1)) 0 _ #[.int .u64 (N : Nat), .int .u64 (m : Nat), .int .u64 (L : Nat), .int .u64 (d : Nat)] rfl rfl rfl 27 _ gR (show 0 + 4 ≤ 4 by decide) info4a (by simp [Value.oneCell']) #[.int .u64 (N : Nat), .int .u64 (m : Nat), .int .u64 (L : Nat), .int .u64 (d : Nat)] rfl ?_
  intro wsz hrq htq
  replace k0 := turn_cell htq (by omega) k0
  replace k1 := turn_cell htq (by omega) k1
  replace k2 := turn_cell htq (by omega) k2
  replace k3 := turn_cell htq (by omega) k3
  replace k4 := turn_cell htq (by omega) k4
  replace k5 := turn_cell htq (by omega) k5
  replace k6 := turn_cell htq (by omega) k6
  replace k7 := turn_cell htq (by omega) k7
  replace k8 := turn_cell htq (by omega) k8
  replace k9 := turn_cell htq (by omega) k9
  replace gC := block_turn htq gC (by omega)
  replace gR := hrq
  replace hB := below_turn hB htq (by omega)
  refine hK.out _ _ ⟨k0, k1, k2, k3, k4, k5, k6, k7, k8, k9⟩ (fun hHeldsz => ?_)
  clear hK hrq
  try simp only [Act.put, List.setIfInBounds_toArray, List.set_cons_zero, List.set_cons_succ]
  refine wpAnyH_done (by kernel_rfl) ?_ _
  refine NoPanic.normal ?_
  go_wp2_with fail
  refine bodyPost_ret (results_cell_row rfl _ _ (w.heap.size + 1) 27 #[.int .u64 (N : Nat), .int .u64 (m : Nat), .int .u64 (L : Nat), .int .u64 (d : Nat)] (0, 0) _ rfl gR Tryd.underlying27 rfl info4a) rfl ?_
  exact ⟨rfl, hB⟩

theorem info10d : (Tryd.prog.info? 38).map (·.size) = some 10 := by kernel_rfl
theorem info1i : (Tryd.prog.info? 3).map (·.size) = some 1 := by kernel_rfl

set_option maxRecDepth 100000 in
set_option maxHeartbeats 8000000 in
theorem dread_no (x y z u nK nA nB nR nG nS nN nP : Nat) (hx : x < 18446744073709551616) (hy : y < 18446744073709551616) (hz : z < 18446744073709551616) (hK : rdK x = nK) (hA : rdA x = nA) (hB' : rdB x = nB) (hR : rdR x = nR) (hG : rdG x = nG) (hS : rdS x = nS) (hN : slN z = nN) (hP' : slP z = nP) (h4 : ¬ u ≤ 4096) (w : World) :
    Calls Tryd.prog 19 #[.agg #[.int .u64 (x : Nat), .int .u64 (y : Nat), .int .u64 (z : Nat), .int .u64 (u : Nat)]] w fun e w' => e = .returned (.tuple #[.agg #[.int .i64 0, .int .u64 0, .int .i64 0, .int .i64 0, .int .i64 0, .int .i64 0, .int .u64 0, .int .u64 0, .int .u64 0, .int .i64 0], .bool false]) ∧ Below w.heap.size w w' := by
  have cR := fun w1 => refRead_any x y hx hy w1
  have cG : ∀ (l n : Nat), rightB (l : Int) (n : Int) = true → l + n ≤ 64 → ∀ w1, Calls Tryd.prog 35 #[.int .u64 z, .int .i64 (l : Int), .int .i64 (n : Int)] w1 fun e w' => e = .returned (.int .u64 ((z / 2 ^ l % 2 ^ n : Nat) : Int)) ∧ Below w1.heap.size w1 w' := by
    intro l n h hl w1
    have := refGet_any z l n hz hl w1
    rw [getV_eq h z, getV_mod h z] at this
    exact this
  have cQ1 := cG 0 27 (by decide) (by decide)
  have cQ2 := cG 32 27 (by decide) (by decide)
  rw [show z / 2 ^ 0 % 2 ^ 27 = z % 134217728 by omega] at cQ1
  rw [show z / 2 ^ 32 % 2 ^ 27 = z / 4294967296 % 134217728 by omega] at cQ2
  have b1 : z % 134217728 < 134217728 := Nat.mod_lt _ (by decide)
  have b2 : z / 4294967296 % 134217728 < 134217728 := Nat.mod_lt _ (by decide)
  rw [hK, hA, hB', hR, hG, hS] at cR
  unfold slN at hN
  unfold slP at hP'
  generalize z % 134217728 = Z1 at *
  generalize z / 4294967296 % 134217728 = Z2 at *
  have e1 : IntKind.u64.wrap ((Z1 : Int) * 32) = (nN : Int) := by rw [IntKind.wrap_u64]; omega
  have e2 : IntKind.u64.wrap ((Z2 : Int) * 32) = (nP : Int) := by rw [IntKind.wrap_u64]; omega
  have d4 : decide ((4096 : Int) < (u : Int)) = true := decide_eq_true (by omega)
  clear cG hx hy hz hK hA hB' hR hG hS hN hP' b1 b2 h4
  go_enter Tryd.func19, Tryd.ntmps19
  go_wp2_with fail
  have gC := heap2_0 w (.cells #[.int .u64 (x : Nat), .int .u64 (y : Nat), .int .u64 (z : Nat), .int .u64 (u : Nat)] 27) (.cells #[.int .i64 0, .int .u64 0, .int .i64 0, .int .i64 0, .int .i64 0, .int .i64 0, .int .u64 0, .int .u64 0, .int .u64 0, .int .i64 0] 38)
  have gR := heap_alloc_new (w.alloc (.cells #[.int .u64 (x : Nat), .int .u64 (y : Nat), .int .u64 (z : Nat), .int .u64 (u : Nat)] 27)) (.cells #[.int .i64 0, .int .u64 0, .int .i64 0, .int .i64 0, .int .i64 0, .int .i64 0, .int .u64 0, .int .u64 0, .int .u64 0, .int .i64 0] 38)
  have hB := below2 w (.cells #[.int .u64 (x : Nat), .int .u64 (y : Nat), .int .u64 (z : Nat), .int .u64 (u : Nat)] 27) (.cells #[.int .i64 0, .int .u64 0, .int .i64 0, .int .i64 0, .int .i64 0, .int .i64 0, .int .u64 0, .int .u64 0, .int .u64 0, .int .i64 0] 38)
  rw [World.size_alloc] at gR
  generalize (w.alloc (.cells #[.int .u64 (x : Nat), .int .u64 (y : Nat), .int .u64 (z : Nat), .int .u64 (u : Nat)] 27)).alloc (.cells #[.int .i64 0, .int .u64 0, .int .i64 0, .int .i64 0, .int .i64 0, .int .i64 0, .int .u64 0, .int .u64 0, .int .u64 0, .int .i64 0] 38) = W0 at *
  have hRB := Nat.le_succ w.heap.size
  obtain ⟨c0, c1, c2, c3⟩ := cells4 gC
  have cp0 := fun o => cell_alloc (o := o) c0
  have cp1 := fun o => cell_alloc (o := o) c1
  have cp2 := fun o => cell_alloc (o := o) c2
  have cp3 := fun o => cell_alloc (o := o) c3
  refine (cR _).mono ?_
  clear c0 cp0 c1 cp1 c2 cp2 c3 cp3
  rintro e w1 ⟨rfl, hb⟩
  replace gC := block_later hb gC
  replace gR := block_later hb gR
  replace hB := below_tr hB hb
  clear hb
  obtain ⟨c0, c1, c2, c3⟩ := cells4 gC
  have cp0 := fun o => cell_alloc (o := o) c0
  have cp1 := fun o => cell_alloc (o := o) c1
  have cp2 := fun o => cell_alloc (o := o) c2
  have cp3 := fun o => cell_alloc (o := o) c3
  have hRX := block_lt gR
  go_upto_region 2 with fail
  clear c0 cp0 c1 cp1 c2 cp2 c3 cp3
  have gX := heap_alloc_new w1 (.cells #[.int .i64 (nK : Nat), .int .u64 (nA : Nat), .int .i64 (nB : Nat), .int .i64 (nR : Nat), .int .i64 (nG : Nat), .int .i64 (nS : Nat), .int .u64 (y : Nat), .int .u64 0, .int .u64 0, .int .i64 0] 38)
  replace gC := block_later (below_new _ (.cells #[.int .i64 (nK : Nat), .int .u64 (nA : Nat), .int .i64 (nB : Nat), .int .i64 (nR : Nat), .int .i64 (nG : Nat), .int .i64 (nS : Nat), .int .u64 (y : Nat), .int .u64 0, .int .u64 0, .int .i64 0] 38)) gC
  replace gR := block_later (below_new _ (.cells #[.int .i64 (nK : Nat), .int .u64 (nA : Nat), .int .i64 (nB : Nat), .int .i64 (nR : Nat), .int .i64 (nG : Nat), .int .i64 (nS : Nat), .int .u64 (y : Nat), .int .u64 0, .int .u64 0, .int .i64 0] 38)) gR
  replace hB := below_tr hB (below_new _ (.cells #[.int .i64 (nK : Nat), .int .u64 (nA : Nat), .int .i64 (nB : Nat), .int .i64 (nR : Nat), .int .i64 (nG : Nat), .int .i64 (nS : Nat), .int .u64 (y : Nat), .int .u64 0, .int .u64 0, .int .i64 0] 38))
  generalize w1.heap.size = X at *
  generalize w1.alloc (.cells #[.int .i64 (nK : Nat), .int .u64 (nA : Nat), .int .i64 (nB : Nat), .int .i64 (nR : Nat), .int .i64 (nG : Nat), .int .i64 (nS : Nat), .int .u64 (y : Nat), .int .u64 0, .int .u64 0, .int .i64 0] 38) = w1a at *
  obtain ⟨c0, c1, c2, c3⟩ := cells4 gC
  have cp0 := fun o => cell_alloc (o := o) c0
  have cp1 := fun o => cell_alloc (o := o) c1
  have cp2 := fun o => cell_alloc (o := o) c2
  have cp3 := fun o => cell_alloc (o := o) c3
  go_wp2_with fail
  refine (cQ1 _).mono ?_
  clear c0 cp0 c1 cp1 c2 cp2 c3 cp3
  rintro e w2 ⟨rfl, hb⟩
  replace gC := block_later hb gC
  replace gR := block_later hb gR
  replace gX := block_later hb gX
  replace hB := below_tr hB hb
  clear hb
  obtain ⟨c0, c1, c2, c3⟩ := cells4 gC
  have cp0 := fun o => cell_alloc (o := o) c0
  have cp1 := fun o => cell_alloc (o := o) c1
  have cp2 := fun o => cell_alloc (o := o) c2
  have cp3 := fun o => cell_alloc (o := o) c3
  go_upto_region 3 with (first
    | (refine wpList_store_segTo rfl 22 _ _ rfl rfl X 7 _ #[.int .u64 (nN : Nat)] rfl rfl rfl 38 _ gX (show 7 + 1 ≤ 10 by decide) info1u (by simp [Value.oneCell']) #[.int .i64 (nK : Nat), .int .u64 (nA : Nat), .int .i64 (nB : Nat), .int .i64 (nR : Nat), .int .i64 (nG : Nat), .int .i64 (nS : Nat), .int .u64 (y : Nat), .int .u64 (nN : Nat), .int .u64 0, .int .i64 0] rfl ?_; intro wqa hrq htq)
    | fail)
  clear c0 cp0 c1 cp1 c2 cp2 c3 cp3
  replace gR := block_turn htq gR (by omega)
  replace gC := block_turn htq gC (by omega)
  replace gX := hrq
  replace hB := below_turn hB htq (by omega)
  clear hrq htq
  obtain ⟨c0, c1, c2, c3⟩ := cells4 gC
  have cp0 := fun o => cell_alloc (o := o) c0
  have cp1 := fun o => cell_alloc (o := o) c1
  have cp2 := fun o => cell_alloc (o := o) c2
  have cp3 := fun o => cell_alloc (o := o) c3
  go_wp2_with fail
  refine (cQ2 _).mono ?_
  clear c0 cp0 c1 cp1 c2 cp2 c3 cp3
  rintro e w3 ⟨rfl, hb⟩
  replace gC := block_later hb gC
  replace gR := block_later hb gR
  replace gX := block_later hb gX
  replace hB := below_tr hB hb
  clear hb
  obtain ⟨c0, c1, c2, c3⟩ := cells4 gC
  have cp0 := fun o => cell_alloc (o := o) c0
  have cp1 := fun o => cell_alloc (o := o) c1
  have cp2 := fun o => cell_alloc (o := o) c2
  have cp3 := fun o => cell_alloc (o := o) c3
  go_upto_region 4 with (first
    | (refine wpList_store_segTo rfl 22 _ _ rfl rfl X 8 _ #[.int .u64 (nP : Nat)] rfl rfl rfl 38 _ gX (show 8 + 1 ≤ 10 by decide) info1u (by simp [Value.oneCell']) #[.int .i64 (nK : Nat), .int .u64 (nA : Nat), .int .i64 (nB : Nat), .int .i64 (nR : Nat), .int .i64 (nG : Nat), .int .i64 (nS : Nat), .int .u64 (y : Nat), .int .u64 (nN : Nat), .int .u64 (nP : Nat), .int .i64 0] rfl ?_; intro wqb hrq htq)
    | fail)
  clear c0 cp0 c1 cp1 c2 cp2 c3 cp3
  replace gR := block_turn htq gR (by omega)
  replace gC := block_turn htq gC (by omega)
  replace gX := hrq
  replace hB := below_turn hB htq (by omega)
  clear hrq htq
  obtain ⟨c0, c1, c2, c3⟩ := cells4 gC
  have cp0 := fun o => cell_alloc (o := o) c0
  have cp1 := fun o => cell_alloc (o := o) c1
  have cp2 := fun o => cell_alloc (o := o) c2
  have cp3 := fun o => cell_alloc (o := o) c3
  go_wp2_with (first
    | (refine wpList_store_segTo rfl 38 _ _ rfl rfl (w.heap.size + 1) 0 _ #[.int .i64 0, .int .u64 0, .int .i64 0, .int .i64 0, .int .i64 0, .int .i64 0, .int .u64 0, .int .u64 0, .int .u64 0, .int .i64 0] rfl rfl rfl 38 _ gR (show 0 + 10 ≤ 10 by decide) info10d (by simp [Value.oneCell']) #[.int .i64 0, .int .u64 0, .int .i64 0, .int .i64 0, .int .i64 0, .int .i64 0, .int .u64 0, .int .u64 0, .int .u64 0, .int .i64 0] rfl ?_; intro wq hrq htq)
    | fail)
  refine bodyPost_ret (res_row_tmp rfl _ wq (w.heap.size + 1) 38 #[.int .i64 0, .int .u64 0, .int .i64 0, .int .i64 0, .int .i64 0, .int .i64 0, .int .u64 0, .int .u64 0, .int .u64 0, .int .i64 0] (0, 0) _ rfl hrq Tryd.underlying38 rfl info10d) rfl ?_
  exact ⟨rfl, below_turn hB htq hRB⟩

set_option maxRecDepth 100000 in
set_option maxHeartbeats 8000000 in
theorem dread_bad (x y z u nK nA nB nR nG nS nN nP : Nat) (hx : x < 18446744073709551616) (hy : y < 18446744073709551616) (hz : z < 18446744073709551616) (hK : rdK x = nK) (hA : rdA x = nA) (hB' : rdB x = nB) (hR : rdR x = nR) (hG : rdG x = nG) (hS : rdS x = nS) (hN : slN z = nN) (hP' : slP z = nP) (h4 : u ≤ 4096)
    (hD : ∀ w1, Calls Tryd.prog 13 #[.agg #[.int .i64 (nK : Nat), .int .u64 (nA : Nat), .int .i64 (nB : Nat), .int .i64 (nR : Nat), .int .i64 (nG : Nat), .int .i64 (nS : Nat), .int .u64 (y : Nat), .int .u64 (nN : Nat), .int .u64 (nP : Nat), .int .i64 (u : Nat)]] w1 fun e w' => e = .returned (.bool false) ∧ Below w1.heap.size w1 w') (w : World) :
    Calls Tryd.prog 19 #[.agg #[.int .u64 (x : Nat), .int .u64 (y : Nat), .int .u64 (z : Nat), .int .u64 (u : Nat)]] w fun e w' => e = .returned (.tuple #[.agg #[.int .i64 0, .int .u64 0, .int .i64 0, .int .i64 0, .int .i64 0, .int .i64 0, .int .u64 0, .int .u64 0, .int .u64 0, .int .i64 0], .bool false]) ∧ Below w.heap.size w w' := by
  have cR := fun w1 => refRead_any x y hx hy w1
  have cG : ∀ (l n : Nat), rightB (l : Int) (n : Int) = true → l + n ≤ 64 → ∀ w1, Calls Tryd.prog 35 #[.int .u64 z, .int .i64 (l : Int), .int .i64 (n : Int)] w1 fun e w' => e = .returned (.int .u64 ((z / 2 ^ l % 2 ^ n : Nat) : Int)) ∧ Below w1.heap.size w1 w' := by
    intro l n h hl w1
    have := refGet_any z l n hz hl w1
    rw [getV_eq h z, getV_mod h z] at this
    exact this
  have cQ1 := cG 0 27 (by decide) (by decide)
  have cQ2 := cG 32 27 (by decide) (by decide)
  rw [show z / 2 ^ 0 % 2 ^ 27 = z % 134217728 by omega] at cQ1
  rw [show z / 2 ^ 32 % 2 ^ 27 = z / 4294967296 % 134217728 by omega] at cQ2
  have b1 : z % 134217728 < 134217728 := Nat.mod_lt _ (by decide)
  have b2 : z / 4294967296 % 134217728 < 134217728 := Nat.mod_lt _ (by decide)
  rw [hK, hA, hB', hR, hG, hS] at cR
  unfold slN at hN
  unfold slP at hP'
  generalize z % 134217728 = Z1 at *
  generalize z / 4294967296 % 134217728 = Z2 at *
  have e1 : IntKind.u64.wrap ((Z1 : Int) * 32) = (nN : Int) := by rw [IntKind.wrap_u64]; omega
  have e2 : IntKind.u64.wrap ((Z2 : Int) * 32) = (nP : Int) := by rw [IntKind.wrap_u64]; omega
  have d4 : decide ((4096 : Int) < (u : Int)) = false := decide_eq_false (by omega)
  have f3 : IntKind.i64.wrap (u : Int) = (u : Int) := by rw [IntKind.wrap_i64]; omega
  have cD := hD
  clear cG hx hy hz hK hA hB' hR hG hS hN hP' b1 b2 h4
  go_enter Tryd.func19, Tryd.ntmps19
  go_wp2_with fail
  have gC := heap2_0 w (.cells #[.int .u64 (x : Nat), .int .u64 (y : Nat), .int .u64 (z : Nat), .int .u64 (u : Nat)] 27) (.cells #[.int .i64 0, .int .u64 0, .int .i64 0, .int .i64 0, .int .i64 0, .int .i64 0, .int .u64 0, .int .u64 0, .int .u64 0, .int .i64 0] 38)
  have gR := heap_alloc_new (w.alloc (.cells #[.int .u64 (x : Nat), .int .u64 (y : Nat), .int .u64 (z : Nat), .int .u64 (u : Nat)] 27)) (.cells #[.int .i64 0, .int .u64 0, .int .i64 0, .int .i64 0, .int .i64 0, .int .i64 0, .int .u64 0, .int .u64 0, .int .u64 0, .int .i64 0] 38)
  have hB := below2 w (.cells #[.int .u64 (x : Nat), .int .u64 (y : Nat), .int .u64 (z : Nat), .int .u64 (u : Nat)] 27) (.cells #[.int .i64 0, .int .u64 0, .int .i64 0, .int .i64 0, .int .i64 0, .int .i64 0, .int .u64 0, .int .u64 0, .int .u64 0, .int .i64 0] 38)
  rw [World.size_alloc] at gR
  generalize (w.alloc (.cells #[.int .u64 (x : Nat), .int .u64 (y : Nat), .int .u64 (z : Nat), .int .u64 (u : Nat)] 27)).alloc (.cells #[.int .i64 0, .int .u64 0, .int .i64 0, .int .i64 0, .int .i64 0, .int .i64 0, .int .u64 0, .int .u64 0, .int .u64 0, .int .i64 0] 38) = W0 at *
  have hRB := Nat.le_succ w.heap.size
  obtain ⟨c0, c1, c2, c3⟩ := cells4 gC
  have cp0 := fun o => cell_alloc (o := o) c0
  have cp1 := fun o => cell_alloc (o := o) c1
  have cp2 := fun o => cell_alloc (o := o) c2
  have cp3 := fun o => cell_alloc (o := o) c3
  refine (cR _).mono ?_
  clear c0 cp0 c1 cp1 c2 cp2 c3 cp3
  rintro e w1 ⟨rfl, hb⟩
  replace gC := block_later hb gC
  replace gR := block_later hb gR
  replace hB := below_tr hB hb
  clear hb
  obtain ⟨c0, c1, c2, c3⟩ := cells4 gC
  have cp0 := fun o => cell_alloc (o := o) c0
  have cp1 := fun o => cell_alloc (o := o) c1
  have cp2 := fun o => cell_alloc (o := o) c2
  have cp3 := fun o => cell_alloc (o := o) c3
  have hRX := block_lt gR
  go_upto_region 2 with fail
  clear c0 cp0 c1 cp1 c2 cp2 c3 cp3
  have gX := heap_alloc_new w1 (.cells #[.int .i64 (nK : Nat), .int .u64 (nA : Nat), .int .i64 (nB : Nat), .int .i64 (nR : Nat), .int .i64 (nG : Nat), .int .i64 (nS : Nat), .int .u64 (y : Nat), .int .u64 0, .int .u64 0, .int .i64 0] 38)
  replace gC := block_later (below_new _ (.cells #[.int .i64 (nK : Nat), .int .u64 (nA : Nat), .int .i64 (nB : Nat), .int .i64 (nR : Nat), .int .i64 (nG : Nat), .int .i64 (nS : Nat), .int .u64 (y : Nat), .int .u64 0, .int .u64 0, .int .i64 0] 38)) gC
  replace gR := block_later (below_new _ (.cells #[.int .i64 (nK : Nat), .int .u64 (nA : Nat), .int .i64 (nB : Nat), .int .i64 (nR : Nat), .int .i64 (nG : Nat), .int .i64 (nS : Nat), .int .u64 (y : Nat), .int .u64 0, .int .u64 0, .int .i64 0] 38)) gR
  replace hB := below_tr hB (below_new _ (.cells #[.int .i64 (nK : Nat), .int .u64 (nA : Nat), .int .i64 (nB : Nat), .int .i64 (nR : Nat), .int .i64 (nG : Nat), .int .i64 (nS : Nat), .int .u64 (y : Nat), .int .u64 0, .int .u64 0, .int .i64 0] 38))
  generalize w1.heap.size = X at *
  generalize w1.alloc (.cells #[.int .i64 (nK : Nat), .int .u64 (nA : Nat), .int .i64 (nB : Nat), .int .i64 (nR : Nat), .int .i64 (nG : Nat), .int .i64 (nS : Nat), .int .u64 (y : Nat), .int .u64 0, .int .u64 0, .int .i64 0] 38) = w1a at *
  obtain ⟨c0, c1, c2, c3⟩ := cells4 gC
  have cp0 := fun o => cell_alloc (o := o) c0
  have cp1 := fun o => cell_alloc (o := o) c1
  have cp2 := fun o => cell_alloc (o := o) c2
  have cp3 := fun o => cell_alloc (o := o) c3
  go_wp2_with fail
  refine (cQ1 _).mono ?_
  clear c0 cp0 c1 cp1 c2 cp2 c3 cp3
  rintro e w2 ⟨rfl, hb⟩
  replace gC := block_later hb gC
  replace gR := block_later hb gR
  replace gX := block_later hb gX
  replace hB := below_tr hB hb
  clear hb
  obtain ⟨c0, c1, c2, c3⟩ := cells4 gC
  have cp0 := fun o => cell_alloc (o := o) c0
  have cp1 := fun o => cell_alloc (o := o) c1
  have cp2 := fun o => cell_alloc (o := o) c2
  have cp3 := fun o => cell_alloc (o := o) c3
  go_upto_region 3 with (first
    | (refine wpList_store_segTo rfl 22 _ _ rfl rfl X 7 _ #[.int .u64 (nN : Nat)] rfl rfl rfl 38 _ gX (show 7 + 1 ≤ 10 by decide) info1u (by simp [Value.oneCell']) #[.int .i64 (nK : Nat), .int .u64 (nA : Nat), .int .i64 (nB : Nat), .int .i64 (nR : Nat), .int .i64 (nG : Nat), .int .i64 (nS : Nat), .int .u64 (y : Nat), .int .u64 (nN : Nat), .int .u64 0, .int .i64 0] rfl ?_; intro wqa hrq htq)
    | fail)
  clear c0 cp0 c1 cp1 c2 cp2 c3 cp3
  replace gR := block_turn htq gR (by omega)
  replace gC := block_turn htq gC (by omega)
  replace gX := hrq
  replace hB := below_turn hB htq (by omega)
  clear hrq htq
  obtain ⟨c0, c1, c2, c3⟩ := cells4 gC
  have cp0 := fun o => cell_alloc (o := o) c0
  have cp1 := fun o => cell_alloc (o := o) c1
  have cp2 := fun o => cell_alloc (o := o) c2
  have cp3 := fun o => cell_alloc (o := o) c3
  go_wp2_with fail
  refine (cQ2 _).mono ?_
  clear c0 cp0 c1 cp1 c2 cp2 c3 cp3
  rintro e w3 ⟨rfl, hb⟩
  replace gC := block_later hb gC
  replace gR := block_later hb gR
  replace gX := block_later hb gX
  replace hB := below_tr hB hb
  clear hb
  obtain ⟨c0, c1, c2, c3⟩ := cells4 gC
  have cp0 := fun o => cell_alloc (o := o) c0
  have cp1 := fun o => cell_alloc (o := o) c1
  have cp2 := fun o => cell_alloc (o := o) c2
  have cp3 := fun o => cell_alloc (o := o) c3
  go_upto_region 4 with (first
    | (refine wpList_store_segTo rfl 22 _ _ rfl rfl X 8 _ #[.int .u64 (nP : Nat)] rfl rfl rfl 38 _ gX (show 8 + 1 ≤ 10 by decide) info1u (by simp [Value.oneCell']) #[.int .i64 (nK : Nat), .int .u64 (nA : Nat), .int .i64 (nB : Nat), .int .i64 (nR : Nat), .int .i64 (nG : Nat), .int .i64 (nS : Nat), .int .u64 (y : Nat), .int .u64 (nN : Nat), .int .u64 (nP : Nat), .int .i64 0] rfl ?_; intro wqb hrq htq)
    | fail)
  clear c0 cp0 c1 cp1 c2 cp2 c3 cp3
  replace gR := block_turn htq gR (by omega)
  replace gC := block_turn htq gC (by omega)
  replace gX := hrq
  replace hB := below_turn hB htq (by omega)
  clear hrq htq
  obtain ⟨c0, c1, c2, c3⟩ := cells4 gC
  have cp0 := fun o => cell_alloc (o := o) c0
  have cp1 := fun o => cell_alloc (o := o) c1
  have cp2 := fun o => cell_alloc (o := o) c2
  have cp3 := fun o => cell_alloc (o := o) c3
  go_upto_region 7 with (first
    | (refine wpList_store_segTo rfl 3 _ _ rfl rfl X 9 _ #[.int .i64 (u : Nat)] rfl rfl rfl 38 _ gX (show 9 + 1 ≤ 10 by decide) info1i (by simp [Value.oneCell']) #[.int .i64 (nK : Nat), .int .u64 (nA : Nat), .int .i64 (nB : Nat), .int .i64 (nR : Nat), .int .i64 (nG : Nat), .int .i64 (nS : Nat), .int .u64 (y : Nat), .int .u64 (nN : Nat), .int .u64 (nP : Nat), .int .i64 (u : Nat)] rfl ?_; intro wqc hrq htq)
    | fail)
  clear c0 cp0 c1 cp1 c2 cp2 c3 cp3
  replace gR := block_turn htq gR (by omega)
  replace gC := block_turn htq gC (by omega)
  replace gX := hrq
  replace hB := below_turn hB htq (by omega)
  clear hrq htq
  obtain ⟨c0, c1, c2, c3⟩ := cells4 gC
  have cp0 := fun o => cell_alloc (o := o) c0
  have cp1 := fun o => cell_alloc (o := o) c1
  have cp2 := fun o => cell_alloc (o := o) c2
  have cp3 := fun o => cell_alloc (o := o) c3
  clear c0 cp0 c1 cp1 c2 cp2 c3 cp3
  generalize wqc = WD at *
  obtain ⟨k0, k1, k2, k3, k4, k5, k6, k7, k8, k9⟩ := cells10 gX
  obtain ⟨k10, k11, k12, k13⟩ := cells4 gC
  refine wp_region_noPanic ?_
  refine wp_region_held_drew (S := (fun w' => w'.cell? ⟨X, 0, none⟩ = some (.int .i64 (nK : Nat)) ∧ w'.cell? ⟨X, 1, none⟩ = some (.int .u64 (nA : Nat)) ∧ w'.cell? ⟨X, 2, none⟩ = some (.int .i64 (nB : Nat)) ∧ w'.cell? ⟨X, 3, none⟩ = some (.int .i64 (nR : Nat)) ∧ w'.cell? ⟨X, 4, none⟩ = some (.int .i64 (nG : Nat)) ∧ w'.cell? ⟨X, 5, none⟩ = some (.int .i64 (nS : Nat)) ∧ w'.cell? ⟨X, 6, none⟩ = some (.int .u64 (y : Nat)) ∧ w'.cell? ⟨X, 7, none⟩ = some (.int .u64 (nN : Nat)) ∧ w'.cell? ⟨X, 8, none⟩ = some (.int .u64 (nP : Nat)) ∧ w'.cell? ⟨X, 9, none⟩ = some (.int .i64 (u : Nat)) ∧ w'.cell? ⟨w.heap.size, 0, none⟩ = some (.int .u64 (x : Nat)) ∧ w'.cell? ⟨w.heap.size, 1, none⟩ = some (.int .u64 (y : Nat)) ∧ w'.cell? ⟨w.heap.size, 2, none⟩ = some (.int .u64 (z : Nat)) ∧ w'.cell? ⟨w.heap.size, 3, none⟩ = some (.int .u64 (u : Nat)))) (by kernel_rfl) ?_ (fun hHeld => ?_)
  · exact ⟨cell_later (Below.refl _ _).drew k0, cell_later (Below.refl _ _).drew k1, cell_later (Below.refl _ _).drew k2, cell_later (Below.refl _ _).drew k3, cell_later (Below.refl _ _).drew k4, cell_later (Below.refl _ _).drew k5, cell_later (Below.refl _ _).drew k6, cell_later (Below.refl _ _).drew k7, cell_later (Below.refl _ _).drew k8, cell_later (Below.refl _ _).drew k9, cell_later (Below.refl _ _).drew k10, cell_later (Below.refl _ _).drew k11, cell_later (Below.refl _ _).drew k12, cell_later (Below.refl _ _).drew k13⟩
  replace k0 := cell_later (Below.refl _ WD).drew k0
  replace k1 := cell_later (Below.refl _ WD).drew k1
  replace k2 := cell_later (Below.refl _ WD).drew k2
  replace k3 := cell_later (Below.refl _ WD).drew k3
  replace k4 := cell_later (Below.refl _ WD).drew k4
  replace k5 := cell_later (Below.refl _ WD).drew k5
  replace k6 := cell_later (Below.refl _ WD).drew k6
  replace k7 := cell_later (Below.refl _ WD).drew k7
  replace k8 := cell_later (Below.refl _ WD).drew k8
  replace k9 := cell_later (Below.refl _ WD).drew k9
  replace k10 := cell_later (Below.refl _ WD).drew k10
  replace k11 := cell_later (Below.refl _ WD).drew k11
  replace k12 := cell_later (Below.refl _ WD).drew k12
  replace k13 := cell_later (Below.refl _ WD).drew k13
  replace gC := block_later (Below.refl _ WD).drew gC
  replace gR := block_later (Below.refl _ WD).drew gR
  replace gX := block_later (Below.refl _ WD).drew gX
  replace hB := below_tr hB (Below.refl _ WD).drew
  generalize WD.drew = Wd at *
  refine take_at (i := 0) (v := ?_) 29 rfl rfl (by kernel_rfl) (by kernel_rfl) (by kernel_rfl) (fun _ _ _ h => h) (Or.inl ⟨by rfl, ?_⟩) (by assumption) ?_
  rotate_left
  · (intro w' hSw; (try dsimp only at hSw); go_simp; all_goals with_reducible rfl)
  try simp only [Act.put, List.setIfInBounds_toArray, List.set_cons_zero, List.set_cons_succ]
  refine wpAnyH_ready (rs := [1]) (by kernel_rfl) (by simp) ?_
  refine AllReadyH.cons rfl (fun K hK => ?_) AllReadyH.nil
  go_simp
  refine (cD _).mono ?_
  rintro e wc1 ⟨rfl, hb⟩
  go_wp2_with fail
  replace k0 := cell_later hb k0
  replace k1 := cell_later hb k1
  replace k2 := cell_later hb k2
  replace k3 := cell_later hb k3
  replace k4 := cell_later hb k4
  replace k5 := cell_later hb k5
  replace k6 := cell_later hb k6
  replace k7 := cell_later hb k7
  replace k8 := cell_later hb k8
  replace k9 := cell_later hb k9
  replace k10 := cell_later hb k10
  replace k11 := cell_later hb k11
  replace k12 := cell_later hb k12
  replace k13 := cell_later hb k13
  replace gC := block_later hb gC
  replace gR := block_later hb gR
  replace gX := block_later hb gX
  replace hB := below_tr hB hb
  refine hK.out _ _ ⟨k0, k1, k2, k3, k4, k5, k6, k7, k8, k9, k10, k11, k12, k13⟩ (fun hHeld1 => ?_)
  clear hK
  try simp only [Act.put, List.setIfInBounds_toArray, List.set_cons_zero, List.set_cons_succ]
  refine take_at (i := 2) (v := ?_) 31 rfl rfl (by kernel_rfl) (by kernel_rfl) (by kernel_rfl) (fun _ _ _ h => h) (Or.inl ⟨by rfl, ?_⟩) (by assumption) ?_
  rotate_left
  · (intro w' hSw; (try dsimp only at hSw); go_simp; all_goals with_reducible rfl)
  try simp only [Act.put, List.setIfInBounds_toArray, List.set_cons_zero, List.set_cons_succ]
  refine take_at (i := 3) (v := ?_) 32 rfl rfl (by kernel_rfl) (by kernel_rfl) (by kernel_rfl) (fun _ _ _ h => h) (Or.inl ⟨by rfl, ?_⟩) (by assumption) ?_
  rotate_left
  · (intro w' hSw; (try dsimp only at hSw); go_simp; all_goals with_reducible rfl)
  try simp only [Act.put, List.setIfInBounds_toArray, List.set_cons_zero, List.set_cons_succ]
  refine take_at (i := 4) (v := undef) 33 rfl rfl (by kernel_rfl) (by kernel_rfl) (by kernel_rfl) (fun _ _ _ h => h) (Or.inr ⟨by rfl, rfl⟩) (by assumption) ?_
  try simp only [Act.put, List.setIfInBounds_toArray, List.set_cons_zero, List.set_cons_succ]
  refine take_at (i := 6) (v := undef) 35 rfl rfl (by kernel_rfl) (by kernel_rfl) (by kernel_rfl) (fun _ _ _ h => h) (Or.inr ⟨by rfl, rfl⟩) (by assumption) ?_
  try simp only [Act.put, List.setIfInBounds_toArray, List.set_cons_zero, List.set_cons_succ]
  refine take_at (i := 5) (v := undef) 34 rfl rfl (by kernel_rfl) (by kernel_rfl) (by kernel_rfl) (fun _ _ _ h => h) (Or.inr ⟨by rfl, rfl⟩) (by assumption) ?_
  try simp only [Act.put, List.setIfInBounds_toArray, List.set_cons_zero, List.set_cons_succ]
  refine take_at (i := 7) (v := undef) 36 rfl rfl (by kernel_rfl) (by kernel_rfl) (by kernel_rfl) (fun _ _ _ h => h) (Or.inr ⟨by rfl, rfl⟩) (by assumption) ?_
  try simp only [Act.put, List.setIfInBounds_toArray, List.set_cons_zero, List.set_cons_succ]
  refine take_at (i := 8) (v := ?_) 37 rfl rfl (by kernel_rfl) (by kernel_rfl) (by kernel_rfl) (fun _ _ _ h => h) (Or.inl ⟨by rfl, ?_⟩) (by assumption) ?_
  rotate_left
  · (intro w' hSw; (try dsimp only at hSw); go_simp; all_goals with_reducible rfl)
  try simp only [Act.put, List.setIfInBounds_toArray, List.set_cons_zero, List.set_cons_succ]
  refine wpAnyH_done (by kernel_rfl) ?_ _
  refine NoPanic.normal ?_
  obtain ⟨c0, c1, c2, c3⟩ := cells4 gC
  obtain ⟨j0, j1, j2, j3, j4, j5, j6, j7, j8, j9⟩ := cells10 gX
  go_wp2_with (first
    | (refine wpList_store_segTo rfl 38 _ _ rfl rfl (w.heap.size + 1) 0 _ #[.int .i64 0, .int .u64 0, .int .i64 0, .int .i64 0, .int .i64 0, .int .i64 0, .int .u64 0, .int .u64 0, .int .u64 0, .int .i64 0] rfl rfl rfl 38 _ gR (show 0 + 10 ≤ 10 by decide) info10d (by simp [Value.oneCell']) #[.int .i64 0, .int .u64 0, .int .i64 0, .int .i64 0, .int .i64 0, .int .i64 0, .int .u64 0, .int .u64 0, .int .u64 0, .int .i64 0] rfl ?_; intro wq hrq htq)
    | fail)
  refine bodyPost_ret (res_row_tmp rfl _ wq (w.heap.size + 1) 38 #[.int .i64 0, .int .u64 0, .int .i64 0, .int .i64 0, .int .i64 0, .int .i64 0, .int .u64 0, .int .u64 0, .int .u64 0, .int .i64 0] (0, 0) _ rfl hrq Tryd.underlying38 rfl info10d) rfl ?_
  exact ⟨rfl, below_turn hB htq hRB⟩

set_option maxRecDepth 100000 in
set_option maxHeartbeats 8000000 in
theorem dread_ne (x y z u nK nA nB nR nG nS nN nP N M L V : Nat) (hx : x < 18446744073709551616) (hy : y < 18446744073709551616) (hz : z < 18446744073709551616) (hK : rdK x = nK) (hA : rdA x = nA) (hB' : rdB x = nB) (hR : rdR x = nR) (hG : rdG x = nG) (hS : rdS x = nS) (hN : slN z = nN) (hP' : slP z = nP) (h4 : u ≤ 4096)
    (hD : ∀ w1, Calls Tryd.prog 13 #[.agg #[.int .i64 (nK : Nat), .int .u64 (nA : Nat), .int .i64 (nB : Nat), .int .i64 (nR : Nat), .int .i64 (nG : Nat), .int .i64 (nS : Nat), .int .u64 (y : Nat), .int .u64 (nN : Nat), .int .u64 (nP : Nat), .int .i64 (u : Nat)]] w1 fun e w' => e = .returned (.bool true) ∧ Below w1.heap.size w1 w')
    (hW : ∀ w1, Calls Tryd.prog 15 #[.agg #[.int .i64 (nK : Nat), .int .u64 (nA : Nat), .int .i64 (nB : Nat), .int .i64 (nR : Nat), .int .i64 (nG : Nat), .int .i64 (nS : Nat), .int .u64 (y : Nat), .int .u64 (nN : Nat), .int .u64 (nP : Nat), .int .i64 (u : Nat)]] w1 fun e w' => e = .returned (.agg #[.int .u64 (N : Nat), .int .u64 (M : Nat), .int .u64 (L : Nat), .int .u64 (V : Nat)]) ∧ Below w1.heap.size w1 w') (hq : eqWB N M L V x y z u = false) (w : World) :
    Calls Tryd.prog 19 #[.agg #[.int .u64 (x : Nat), .int .u64 (y : Nat), .int .u64 (z : Nat), .int .u64 (u : Nat)]] w fun e w' => e = .returned (.tuple #[.agg #[.int .i64 0, .int .u64 0, .int .i64 0, .int .i64 0, .int .i64 0, .int .i64 0, .int .u64 0, .int .u64 0, .int .u64 0, .int .i64 0], .bool false]) ∧ Below w.heap.size w w' := by
  have cR := fun w1 => refRead_any x y hx hy w1
  have cG : ∀ (l n : Nat), rightB (l : Int) (n : Int) = true → l + n ≤ 64 → ∀ w1, Calls Tryd.prog 35 #[.int .u64 z, .int .i64 (l : Int), .int .i64 (n : Int)] w1 fun e w' => e = .returned (.int .u64 ((z / 2 ^ l % 2 ^ n : Nat) : Int)) ∧ Below w1.heap.size w1 w' := by
    intro l n h hl w1
    have := refGet_any z l n hz hl w1
    rw [getV_eq h z, getV_mod h z] at this
    exact this
  have cQ1 := cG 0 27 (by decide) (by decide)
  have cQ2 := cG 32 27 (by decide) (by decide)
  rw [show z / 2 ^ 0 % 2 ^ 27 = z % 134217728 by omega] at cQ1
  rw [show z / 2 ^ 32 % 2 ^ 27 = z / 4294967296 % 134217728 by omega] at cQ2
  have b1 : z % 134217728 < 134217728 := Nat.mod_lt _ (by decide)
  have b2 : z / 4294967296 % 134217728 < 134217728 := Nat.mod_lt _ (by decide)
  rw [hK, hA, hB', hR, hG, hS] at cR
  unfold slN at hN
  unfold slP at hP'
  generalize z % 134217728 = Z1 at *
  generalize z / 4294967296 % 134217728 = Z2 at *
  have e1 : IntKind.u64.wrap ((Z1 : Int) * 32) = (nN : Int) := by rw [IntKind.wrap_u64]; omega
  have e2 : IntKind.u64.wrap ((Z2 : Int) * 32) = (nP : Int) := by rw [IntKind.wrap_u64]; omega
  have d4 : decide ((4096 : Int) < (u : Int)) = false := decide_eq_false (by omega)
  have f3 : IntKind.i64.wrap (u : Int) = (u : Int) := by rw [IntKind.wrap_i64]; omega
  have cD := hD
  have cW := hW
  have HQ := fun w1 => neV N M L V x y z u w1
  have HQ2 := fun w1 => eqIV N M L V x y z u w1
  rw [hq] at HQ HQ2
  clear hq
  clear cG hx hy hz hK hA hB' hR hG hS hN hP' b1 b2 h4
  go_enter Tryd.func19, Tryd.ntmps19
  go_wp2_with fail
  have gC := heap2_0 w (.cells #[.int .u64 (x : Nat), .int .u64 (y : Nat), .int .u64 (z : Nat), .int .u64 (u : Nat)] 27) (.cells #[.int .i64 0, .int .u64 0, .int .i64 0, .int .i64 0, .int .i64 0, .int .i64 0, .int .u64 0, .int .u64 0, .int .u64 0, .int .i64 0] 38)
  have gR := heap_alloc_new (w.alloc (.cells #[.int .u64 (x : Nat), .int .u64 (y : Nat), .int .u64 (z : Nat), .int .u64 (u : Nat)] 27)) (.cells #[.int .i64 0, .int .u64 0, .int .i64 0, .int .i64 0, .int .i64 0, .int .i64 0, .int .u64 0, .int .u64 0, .int .u64 0, .int .i64 0] 38)
  have hB := below2 w (.cells #[.int .u64 (x : Nat), .int .u64 (y : Nat), .int .u64 (z : Nat), .int .u64 (u : Nat)] 27) (.cells #[.int .i64 0, .int .u64 0, .int .i64 0, .int .i64 0, .int .i64 0, .int .i64 0, .int .u64 0, .int .u64 0, .int .u64 0, .int .i64 0] 38)
  rw [World.size_alloc] at gR
  generalize (w.alloc (.cells #[.int .u64 (x : Nat), .int .u64 (y : Nat), .int .u64 (z : Nat), .int .u64 (u : Nat)] 27)).alloc (.cells #[.int .i64 0, .int .u64 0, .int .i64 0, .int .i64 0, .int .i64 0, .int .i64 0, .int .u64 0, .int .u64 0, .int .u64 0, .int .i64 0] 38) = W0 at *
  have hRB := Nat.le_succ w.heap.size
  obtain ⟨c0, c1, c2, c3⟩ := cells4 gC
  have cp0 := fun o => cell_alloc (o := o) c0
  have cp1 := fun o => cell_alloc (o := o) c1
  have cp2 := fun o => cell_alloc (o := o) c2
  have cp3 := fun o => cell_alloc (o := o) c3
  refine (cR _).mono ?_
  clear c0 cp0 c1 cp1 c2 cp2 c3 cp3
  rintro e w1 ⟨rfl, hb⟩
  replace gC := block_later hb gC
  replace gR := block_later hb gR
  replace hB := below_tr hB hb
  clear hb
  obtain ⟨c0, c1, c2, c3⟩ := cells4 gC
  have cp0 := fun o => cell_alloc (o := o) c0
  have cp1 := fun o => cell_alloc (o := o) c1
  have cp2 := fun o => cell_alloc (o := o) c2
  have cp3 := fun o => cell_alloc (o := o) c3
  have hRX := block_lt gR
  go_upto_region 2 with fail
  clear c0 cp0 c1 cp1 c2 cp2 c3 cp3
  have gX := heap_alloc_new w1 (.cells #[.int .i64 (nK : Nat), .int .u64 (nA : Nat), .int .i64 (nB : Nat), .int .i64 (nR : Nat), .int .i64 (nG : Nat), .int .i64 (nS : Nat), .int .u64 (y : Nat), .int .u64 0, .int .u64 0, .int .i64 0] 38)
  replace gC := block_later (below_new _ (.cells #[.int .i64 (nK : Nat), .int .u64 (nA : Nat), .int .i64 (nB : Nat), .int .i64 (nR : Nat), .int .i64 (nG : Nat), .int .i64 (nS : Nat), .int .u64 (y : Nat), .int .u64 0, .int .u64 0, .int .i64 0] 38)) gC
  replace gR := block_later (below_new _ (.cells #[.int .i64 (nK : Nat), .int .u64 (nA : Nat), .int .i64 (nB : Nat), .int .i64 (nR : Nat), .int .i64 (nG : Nat), .int .i64 (nS : Nat), .int .u64 (y : Nat), .int .u64 0, .int .u64 0, .int .i64 0] 38)) gR
  replace hB := below_tr hB (below_new _ (.cells #[.int .i64 (nK : Nat), .int .u64 (nA : Nat), .int .i64 (nB : Nat), .int .i64 (nR : Nat), .int .i64 (nG : Nat), .int .i64 (nS : Nat), .int .u64 (y : Nat), .int .u64 0, .int .u64 0, .int .i64 0] 38))
  generalize w1.heap.size = X at *
  generalize w1.alloc (.cells #[.int .i64 (nK : Nat), .int .u64 (nA : Nat), .int .i64 (nB : Nat), .int .i64 (nR : Nat), .int .i64 (nG : Nat), .int .i64 (nS : Nat), .int .u64 (y : Nat), .int .u64 0, .int .u64 0, .int .i64 0] 38) = w1a at *
  obtain ⟨c0, c1, c2, c3⟩ := cells4 gC
  have cp0 := fun o => cell_alloc (o := o) c0
  have cp1 := fun o => cell_alloc (o := o) c1
  have cp2 := fun o => cell_alloc (o := o) c2
  have cp3 := fun o => cell_alloc (o := o) c3
  go_wp2_with fail
  refine (cQ1 _).mono ?_
  clear c0 cp0 c1 cp1 c2 cp2 c3 cp3
  rintro e w2 ⟨rfl, hb⟩
  replace gC := block_later hb gC
  replace gR := block_later hb gR
  replace gX := block_later hb gX
  replace hB := below_tr hB hb
  clear hb
  obtain ⟨c0, c1, c2, c3⟩ := cells4 gC
  have cp0 := fun o => cell_alloc (o := o) c0
  have cp1 := fun o => cell_alloc (o := o) c1
  have cp2 := fun o => cell_alloc (o := o) c2
  have cp3 := fun o => cell_alloc (o := o) c3
  go_upto_region 3 with (first
    | (refine wpList_store_segTo rfl 22 _ _ rfl rfl X 7 _ #[.int .u64 (nN : Nat)] rfl rfl rfl 38 _ gX (show 7 + 1 ≤ 10 by decide) info1u (by simp [Value.oneCell']) #[.int .i64 (nK : Nat), .int .u64 (nA : Nat), .int .i64 (nB : Nat), .int .i64 (nR : Nat), .int .i64 (nG : Nat), .int .i64 (nS : Nat), .int .u64 (y : Nat), .int .u64 (nN : Nat), .int .u64 0, .int .i64 0] rfl ?_; intro wqa hrq htq)
    | fail)
  clear c0 cp0 c1 cp1 c2 cp2 c3 cp3
  replace gR := block_turn htq gR (by omega)
  replace gC := block_turn htq gC (by omega)
  replace gX := hrq
  replace hB := below_turn hB htq (by omega)
  clear hrq htq
  obtain ⟨c0, c1, c2, c3⟩ := cells4 gC
  have cp0 := fun o => cell_alloc (o := o) c0
  have cp1 := fun o => cell_alloc (o := o) c1
  have cp2 := fun o => cell_alloc (o := o) c2
  have cp3 := fun o => cell_alloc (o := o) c3
  go_wp2_with fail
  refine (cQ2 _).mono ?_
  clear c0 cp0 c1 cp1 c2 cp2 c3 cp3
  rintro e w3 ⟨rfl, hb⟩
  replace gC := block_later hb gC
  replace gR := block_later hb gR
  replace gX := block_later hb gX
  replace hB := below_tr hB hb
  clear hb
  obtain ⟨c0, c1, c2, c3⟩ := cells4 gC
  have cp0 := fun o => cell_alloc (o := o) c0
  have cp1 := fun o => cell_alloc (o := o) c1
  have cp2 := fun o => cell_alloc (o := o) c2
  have cp3 := fun o => cell_alloc (o := o) c3
  go_upto_region 4 with (first
    | (refine wpList_store_segTo rfl 22 _ _ rfl rfl X 8 _ #[.int .u64 (nP : Nat)] rfl rfl rfl 38 _ gX (show 8 + 1 ≤ 10 by decide) info1u (by simp [Value.oneCell']) #[.int .i64 (nK : Nat), .int .u64 (nA : Nat), .int .i64 (nB : Nat), .int .i64 (nR : Nat), .int .i64 (nG : Nat), .int .i64 (nS : Nat), .int .u64 (y : Nat), .int .u64 (nN : Nat), .int .u64 (nP : Nat), .int .i64 0] rfl ?_; intro wqb hrq htq)
    | fail)
  clear c0 cp0 c1 cp1 c2 cp2 c3 cp3
  replace gR := block_turn htq gR (by omega)
  replace gC := block_turn htq gC (by omega)
  replace gX := hrq
  replace hB := below_turn hB htq (by omega)
  clear hrq htq
  obtain ⟨c0, c1, c2, c3⟩ := cells4 gC
  have cp0 := fun o => cell_alloc (o := o) c0
  have cp1 := fun o => cell_alloc (o := o) c1
  have cp2 := fun o => cell_alloc (o := o) c2
  have cp3 := fun o => cell_alloc (o := o) c3
  go_upto_region 7 with (first
    | (refine wpList_store_segTo rfl 3 _ _ rfl rfl X 9 _ #[.int .i64 (u : Nat)] rfl rfl rfl 38 _ gX (show 9 + 1 ≤ 10 by decide) info1i (by simp [Value.oneCell']) #[.int .i64 (nK : Nat), .int .u64 (nA : Nat), .int .i64 (nB : Nat), .int .i64 (nR : Nat), .int .i64 (nG : Nat), .int .i64 (nS : Nat), .int .u64 (y : Nat), .int .u64 (nN : Nat), .int .u64 (nP : Nat), .int .i64 (u : Nat)] rfl ?_; intro wqc hrq htq)
    | fail)
  clear c0 cp0 c1 cp1 c2 cp2 c3 cp3
  replace gR := block_turn htq gR (by omega)
  replace gC := block_turn htq gC (by omega)
  replace gX := hrq
  replace hB := below_turn hB htq (by omega)
  clear hrq htq
  obtain ⟨c0, c1, c2, c3⟩ := cells4 gC
  have cp0 := fun o => cell_alloc (o := o) c0
  have cp1 := fun o => cell_alloc (o := o) c1
  have cp2 := fun o => cell_alloc (o := o) c2
  have cp3 := fun o => cell_alloc (o := o) c3
  clear c0 cp0 c1 cp1 c2 cp2 c3 cp3
  generalize wqc = WD at *
  obtain ⟨k0, k1, k2, k3, k4, k5, k6, k7, k8, k9⟩ := cells10 gX
  obtain ⟨k10, k11, k12, k13⟩ := cells4 gC
  refine wp_region_noPanic ?_
  refine wp_region_held_drew (S := (fun w' => w'.cell? ⟨X, 0, none⟩ = some (.int .i64 (nK : Nat)) ∧ w'.cell? ⟨X, 1, none⟩ = some (.int .u64 (nA : Nat)) ∧ w'.cell? ⟨X, 2, none⟩ = some (.int .i64 (nB : Nat)) ∧ w'.cell? ⟨X, 3, none⟩ = some (.int .i64 (nR : Nat)) ∧ w'.cell? ⟨X, 4, none⟩ = some (.int .i64 (nG : Nat)) ∧ w'.cell? ⟨X, 5, none⟩ = some (.int .i64 (nS : Nat)) ∧ w'.cell? ⟨X, 6, none⟩ = some (.int .u64 (y : Nat)) ∧ w'.cell? ⟨X, 7, none⟩ = some (.int .u64 (nN : Nat)) ∧ w'.cell? ⟨X, 8, none⟩ = some (.int .u64 (nP : Nat)) ∧ w'.cell? ⟨X, 9, none⟩ = some (.int .i64 (u : Nat)) ∧ w'.cell? ⟨w.heap.size, 0, none⟩ = some (.int .u64 (x : Nat)) ∧ w'.cell? ⟨w.heap.size, 1, none⟩ = some (.int .u64 (y : Nat)) ∧ w'.cell? ⟨w.heap.size, 2, none⟩ = some (.int .u64 (z : Nat)) ∧ w'.cell? ⟨w.heap.size, 3, none⟩ = some (.int .u64 (u : Nat)))) (by kernel_rfl) ?_ (fun hHeld => ?_)
  · exact ⟨cell_later (Below.refl _ _).drew k0, cell_later (Below.refl _ _).drew k1, cell_later (Below.refl _ _).drew k2, cell_later (Below.refl _ _).drew k3, cell_later (Below.refl _ _).drew k4, cell_later (Below.refl _ _).drew k5, cell_later (Below.refl _ _).drew k6, cell_later (Below.refl _ _).drew k7, cell_later (Below.refl _ _).drew k8, cell_later (Below.refl _ _).drew k9, cell_later (Below.refl _ _).drew k10, cell_later (Below.refl _ _).drew k11, cell_later (Below.refl _ _).drew k12, cell_later (Below.refl _ _).drew k13⟩
  replace k0 := cell_later (Below.refl _ WD).drew k0
  replace k1 := cell_later (Below.refl _ WD).drew k1
  replace k2 := cell_later (Below.refl _ WD).drew k2
  replace k3 := cell_later (Below.refl _ WD).drew k3
  replace k4 := cell_later (Below.refl _ WD).drew k4
  replace k5 := cell_later (Below.refl _ WD).drew k5
  replace k6 := cell_later (Below.refl _ WD).drew k6
  replace k7 := cell_later (Below.refl _ WD).drew k7
  replace k8 := cell_later (Below.refl _ WD).drew k8
  replace k9 := cell_later (Below.refl _ WD).drew k9
  replace k10 := cell_later (Below.refl _ WD).drew k10
  replace k11 := cell_later (Below.refl _ WD).drew k11
  replace k12 := cell_later (Below.refl _ WD).drew k12
  replace k13 := cell_later (Below.refl _ WD).drew k13
  replace gC := block_later (Below.refl _ WD).drew gC
  replace gR := block_later (Below.refl _ WD).drew gR
  replace gX := block_later (Below.refl _ WD).drew gX
  replace hB := below_tr hB (Below.refl _ WD).drew
  generalize WD.drew = Wd at *
  refine take_at (i := 0) (v := ?_) 29 rfl rfl (by kernel_rfl) (by kernel_rfl) (by kernel_rfl) (fun _ _ _ h => h) (Or.inl ⟨by rfl, ?_⟩) (by assumption) ?_
  rotate_left
  · (intro w' hSw; (try dsimp only at hSw); go_simp; all_goals with_reducible rfl)
  try simp only [Act.put, List.setIfInBounds_toArray, List.set_cons_zero, List.set_cons_succ]
  refine wpAnyH_ready (rs := [1]) (by kernel_rfl) (by simp) ?_
  refine AllReadyH.cons rfl (fun K hK => ?_) AllReadyH.nil
  go_simp
  refine (cD _).mono ?_
  rintro e wc1 ⟨rfl, hb⟩
  go_wp2_with fail
  replace k0 := cell_later hb k0
  replace k1 := cell_later hb k1
  replace k2 := cell_later hb k2
  replace k3 := cell_later hb k3
  replace k4 := cell_later hb k4
  replace k5 := cell_later hb k5
  replace k6 := cell_later hb k6
  replace k7 := cell_later hb k7
  replace k8 := cell_later hb k8
  replace k9 := cell_later hb k9
  replace k10 := cell_later hb k10
  replace k11 := cell_later hb k11
  replace k12 := cell_later hb k12
  replace k13 := cell_later hb k13
  replace gC := block_later hb gC
  replace gR := block_later hb gR
  replace gX := block_later hb gX
  replace hB := below_tr hB hb
  refine hK.out _ _ ⟨k0, k1, k2, k3, k4, k5, k6, k7, k8, k9, k10, k11, k12, k13⟩ (fun hHeld1 => ?_)
  clear hK
  try simp only [Act.put, List.setIfInBounds_toArray, List.set_cons_zero, List.set_cons_succ]
  refine take_at (i := 2) (v := ?_) 31 rfl rfl (by kernel_rfl) (by kernel_rfl) (by kernel_rfl) (fun _ _ _ h => h) (Or.inl ⟨by rfl, ?_⟩) (by assumption) ?_
  rotate_left
  · (intro w' hSw; (try dsimp only at hSw); go_simp; all_goals with_reducible rfl)
  try simp only [Act.put, List.setIfInBounds_toArray, List.set_cons_zero, List.set_cons_succ]
  refine take_at (i := 3) (v := ?_) 32 rfl rfl (by kernel_rfl) (by kernel_rfl) (by kernel_rfl) (fun _ _ _ h => h) (Or.inl ⟨by rfl, ?_⟩) (by assumption) ?_
  rotate_left
  · (intro w' hSw; (try dsimp only at hSw); go_simp; all_goals with_reducible rfl)
  try simp only [Act.put, List.setIfInBounds_toArray, List.set_cons_zero, List.set_cons_succ]
  refine take_at (i := 4) (v := ?_) 33 rfl rfl (by kernel_rfl) (by kernel_rfl) (by kernel_rfl) (fun _ _ _ h => h) (Or.inl ⟨by rfl, ?_⟩) (by assumption) ?_
  rotate_left
  · (intro w' hSw; (try dsimp only at hSw); go_simp; all_goals with_reducible rfl)
  try simp only [Act.put, List.setIfInBounds_toArray, List.set_cons_zero, List.set_cons_succ]
  refine take_at (i := 6) (v := ?_) 35 rfl rfl (by kernel_rfl) (by kernel_rfl) (by kernel_rfl) (fun _ _ _ h => h) (Or.inl ⟨by rfl, ?_⟩) (by assumption) ?_
  rotate_left
  · (intro w' hSw; (try dsimp only at hSw); go_simp; all_goals with_reducible rfl)
  try simp only [Act.put, List.setIfInBounds_toArray, List.set_cons_zero, List.set_cons_succ]
  refine wpAnyH_ready (rs := [5]) (by kernel_rfl) (by simp) ?_
  refine AllReadyH.cons rfl (fun K hK => ?_) AllReadyH.nil
  go_simp
  refine (cW _).mono ?_
  rintro e wc2 ⟨rfl, hb⟩
  go_wp2_with fail
  replace k0 := cell_later hb k0
  replace k1 := cell_later hb k1
  replace k2 := cell_later hb k2
  replace k3 := cell_later hb k3
  replace k4 := cell_later hb k4
  replace k5 := cell_later hb k5
  replace k6 := cell_later hb k6
  replace k7 := cell_later hb k7
  replace k8 := cell_later hb k8
  replace k9 := cell_later hb k9
  replace k10 := cell_later hb k10
  replace k11 := cell_later hb k11
  replace k12 := cell_later hb k12
  replace k13 := cell_later hb k13
  replace gC := block_later hb gC
  replace gR := block_later hb gR
  replace gX := block_later hb gX
  replace hB := below_tr hB hb
  refine hK.out _ _ ⟨k0, k1, k2, k3, k4, k5, k6, k7, k8, k9, k10, k11, k12, k13⟩ (fun hHeld2 => ?_)
  clear hK
  try simp only [Act.put, List.setIfInBounds_toArray, List.set_cons_zero, List.set_cons_succ]
  refine take_at (i := 7) (v := ?_) 36 rfl rfl (by kernel_rfl) (by kernel_rfl) (by kernel_rfl) (fun _ _ _ h => h) (Or.inl ⟨by rfl, ?_⟩) (by assumption) ?_
  rotate_left
  · (intro w' hSw; (try dsimp only at hSw); go_simp; all_goals with_reducible rfl)
  try simp only [Act.put, List.setIfInBounds_toArray, List.set_cons_zero, List.set_cons_succ]
  refine take_at (i := 8) (v := ?_) 37 rfl rfl (by kernel_rfl) (by kernel_rfl) (by kernel_rfl) (fun _ _ _ h => h) (Or.inl ⟨by rfl, ?_⟩) (by assumption) ?_
  rotate_left
  · (intro w' hSw; (try dsimp only at hSw); go_simp; all_goals with_reducible rfl)
  try simp only [Act.put, List.setIfInBounds_toArray, List.set_cons_zero, List.set_cons_succ]
  refine wpAnyH_done (by kernel_rfl) ?_ _
  refine NoPanic.normal ?_
  obtain ⟨c0, c1, c2, c3⟩ := cells4 gC
  obtain ⟨j0, j1, j2, j3, j4, j5, j6, j7, j8, j9⟩ := cells10 gX
  go_wp2_with (first
    | (refine wpList_store_segTo rfl 38 _ _ rfl rfl (w.heap.size + 1) 0 _ #[.int .i64 0, .int .u64 0, .int .i64 0, .int .i64 0, .int .i64 0, .int .i64 0, .int .u64 0, .int .u64 0, .int .u64 0, .int .i64 0] rfl rfl rfl 38 _ gR (show 0 + 10 ≤ 10 by decide) info10d (by simp [Value.oneCell']) #[.int .i64 0, .int .u64 0, .int .i64 0, .int .i64 0, .int .i64 0, .int .i64 0, .int .u64 0, .int .u64 0, .int .u64 0, .int .i64 0] rfl ?_; intro wq hrq htq)
    | fail)
  refine bodyPost_ret (res_row_tmp rfl _ wq (w.heap.size + 1) 38 #[.int .i64 0, .int .u64 0, .int .i64 0, .int .i64 0, .int .i64 0, .int .i64 0, .int .u64 0, .int .u64 0, .int .u64 0, .int .i64 0] (0, 0) _ rfl hrq Tryd.underlying38 rfl info10d) rfl ?_
  exact ⟨rfl, below_turn hB htq hRB⟩

set_option maxRecDepth 100000 in
set_option maxHeartbeats 8000000 in
theorem dread_eq (x y z u nK nA nB nR nG nS nN nP N M L V : Nat) (hx : x < 18446744073709551616) (hy : y < 18446744073709551616) (hz : z < 18446744073709551616) (hK : rdK x = nK) (hA : rdA x = nA) (hB' : rdB x = nB) (hR : rdR x = nR) (hG : rdG x = nG) (hS : rdS x = nS) (hN : slN z = nN) (hP' : slP z = nP) (h4 : u ≤ 4096)
    (hD : ∀ w1, Calls Tryd.prog 13 #[.agg #[.int .i64 (nK : Nat), .int .u64 (nA : Nat), .int .i64 (nB : Nat), .int .i64 (nR : Nat), .int .i64 (nG : Nat), .int .i64 (nS : Nat), .int .u64 (y : Nat), .int .u64 (nN : Nat), .int .u64 (nP : Nat), .int .i64 (u : Nat)]] w1 fun e w' => e = .returned (.bool true) ∧ Below w1.heap.size w1 w')
    (hW : ∀ w1, Calls Tryd.prog 15 #[.agg #[.int .i64 (nK : Nat), .int .u64 (nA : Nat), .int .i64 (nB : Nat), .int .i64 (nR : Nat), .int .i64 (nG : Nat), .int .i64 (nS : Nat), .int .u64 (y : Nat), .int .u64 (nN : Nat), .int .u64 (nP : Nat), .int .i64 (u : Nat)]] w1 fun e w' => e = .returned (.agg #[.int .u64 (N : Nat), .int .u64 (M : Nat), .int .u64 (L : Nat), .int .u64 (V : Nat)]) ∧ Below w1.heap.size w1 w') (hq : eqWB N M L V x y z u = true) (w : World) :
    Calls Tryd.prog 19 #[.agg #[.int .u64 (x : Nat), .int .u64 (y : Nat), .int .u64 (z : Nat), .int .u64 (u : Nat)]] w fun e w' => e = .returned (.tuple #[.agg #[.int .i64 (nK : Nat), .int .u64 (nA : Nat), .int .i64 (nB : Nat), .int .i64 (nR : Nat), .int .i64 (nG : Nat), .int .i64 (nS : Nat), .int .u64 (y : Nat), .int .u64 (nN : Nat), .int .u64 (nP : Nat), .int .i64 (u : Nat)], .bool true]) ∧ Below w.heap.size w w' := by
  have cR := fun w1 => refRead_any x y hx hy w1
  have cG : ∀ (l n : Nat), rightB (l : Int) (n : Int) = true → l + n ≤ 64 → ∀ w1, Calls Tryd.prog 35 #[.int .u64 z, .int .i64 (l : Int), .int .i64 (n : Int)] w1 fun e w' => e = .returned (.int .u64 ((z / 2 ^ l % 2 ^ n : Nat) : Int)) ∧ Below w1.heap.size w1 w' := by
    intro l n h hl w1
    have := refGet_any z l n hz hl w1
    rw [getV_eq h z, getV_mod h z] at this
    exact this
  have cQ1 := cG 0 27 (by decide) (by decide)
  have cQ2 := cG 32 27 (by decide) (by decide)
  rw [show z / 2 ^ 0 % 2 ^ 27 = z % 134217728 by omega] at cQ1
  rw [show z / 2 ^ 32 % 2 ^ 27 = z / 4294967296 % 134217728 by omega] at cQ2
  have b1 : z % 134217728 < 134217728 := Nat.mod_lt _ (by decide)
  have b2 : z / 4294967296 % 134217728 < 134217728 := Nat.mod_lt _ (by decide)
  rw [hK, hA, hB', hR, hG, hS] at cR
  unfold slN at hN
  unfold slP at hP'
  generalize z % 134217728 = Z1 at *
  generalize z / 4294967296 % 134217728 = Z2 at *
  have e1 : IntKind.u64.wrap ((Z1 : Int) * 32) = (nN : Int) := by rw [IntKind.wrap_u64]; omega
  have e2 : IntKind.u64.wrap ((Z2 : Int) * 32) = (nP : Int) := by rw [IntKind.wrap_u64]; omega
  have d4 : decide ((4096 : Int) < (u : Int)) = false := decide_eq_false (by omega)
  have f3 : IntKind.i64.wrap (u : Int) = (u : Int) := by rw [IntKind.wrap_i64]; omega
  have cD := hD
  have cW := hW
  have HQ := fun w1 => neV N M L V x y z u w1
  have HQ2 := fun w1 => eqIV N M L V x y z u w1
  rw [hq] at HQ HQ2
  clear hq
  clear cG hx hy hz hK hA hB' hR hG hS hN hP' b1 b2 h4
  go_enter Tryd.func19, Tryd.ntmps19
  go_wp2_with fail
  have gC := heap2_0 w (.cells #[.int .u64 (x : Nat), .int .u64 (y : Nat), .int .u64 (z : Nat), .int .u64 (u : Nat)] 27) (.cells #[.int .i64 0, .int .u64 0, .int .i64 0, .int .i64 0, .int .i64 0, .int .i64 0, .int .u64 0, .int .u64 0, .int .u64 0, .int .i64 0] 38)
  have gR := heap_alloc_new (w.alloc (.cells #[.int .u64 (x : Nat), .int .u64 (y : Nat), .int .u64 (z : Nat), .int .u64 (u : Nat)] 27)) (.cells #[.int .i64 0, .int .u64 0, .int .i64 0, .int .i64 0, .int .i64 0, .int .i64 0, .int .u64 0, .int .u64 0, .int .u64 0, .int .i64 0] 38)
  have hB := below2 w (.cells #[.int .u64 (x : Nat), .int .u64 (y : Nat), .int .u64 (z : Nat), .int .u64 (u : Nat)] 27) (.cells #[.int .i64 0, .int .u64 0, .int .i64 0, .int .i64 0, .int .i64 0, .int .i64 0, .int .u64 0, .int .u64 0, .int .u64 0, .int .i64 0] 38)
  rw [World.size_alloc] at gR
  generalize (w.alloc (.cells #[.int .u64 (x : Nat), .int .u64 (y : Nat), .int .u64 (z : Nat), .int .u64 (u : Nat)] 27)).alloc (.cells #[.int .i64 0, .int .u64 0, .int .i64 0, .int .i64 0, .int .i64 0, .int .i64 0, .int .u64 0, .int .u64 0, .int .u64 0, .int .i64 0] 38) = W0 at *
  have hRB := Nat.le_succ w.heap.size
  obtain ⟨c0, c1, c2, c3⟩ := cells4 gC
  have cp0 := fun o => cell_alloc (o := o) c0
  have cp1 := fun o => cell_alloc (o := o) c1
  have cp2 := fun o => cell_alloc (o := o) c2
  have cp3 := fun o => cell_alloc (o := o) c3
  refine (cR _).mono ?_
  clear c0 cp0 c1 cp1 c2 cp2 c3 cp3
  rintro e w1 ⟨rfl, hb⟩
  replace gC := block_later hb gC
  replace gR := block_later hb gR
  replace hB := below_tr hB hb
  clear hb
  obtain ⟨c0, c1, c2, c3⟩ := cells4 gC
  have cp0 := fun o => cell_alloc (o := o) c0
  have cp1 := fun o => cell_alloc (o := o) c1
  have cp2 := fun o => cell_alloc (o := o) c2
  have cp3 := fun o => cell_alloc (o := o) c3
  have hRX := block_lt gR
  go_upto_region 2 with fail
  clear c0 cp0 c1 cp1 c2 cp2 c3 cp3
  have gX := heap_alloc_new w1 (.cells #[.int .i64 (nK : Nat), .int .u64 (nA : Nat), .int .i64 (nB : Nat), .int .i64 (nR : Nat), .int .i64 (nG : Nat), .int .i64 (nS : Nat), .int .u64 (y : Nat), .int .u64 0, .int .u64 0, .int .i64 0] 38)
  replace gC := block_later (below_new _ (.cells #[.int .i64 (nK : Nat), .int .u64 (nA : Nat), .int .i64 (nB : Nat), .int .i64 (nR : Nat), .int .i64 (nG : Nat), .int .i64 (nS : Nat), .int .u64 (y : Nat), .int .u64 0, .int .u64 0, .int .i64 0] 38)) gC
  replace gR := block_later (below_new _ (.cells #[.int .i64 (nK : Nat), .int .u64 (nA : Nat), .int .i64 (nB : Nat), .int .i64 (nR : Nat), .int .i64 (nG : Nat), .int .i64 (nS : Nat), .int .u64 (y : Nat), .int .u64 0, .int .u64 0, .int .i64 0] 38)) gR
  replace hB := below_tr hB (below_new _ (.cells #[.int .i64 (nK : Nat), .int .u64 (nA : Nat), .int .i64 (nB : Nat), .int .i64 (nR : Nat), .int .i64 (nG : Nat), .int .i64 (nS : Nat), .int .u64 (y : Nat), .int .u64 0, .int .u64 0, .int .i64 0] 38))
  generalize w1.heap.size = X at *
  generalize w1.alloc (.cells #[.int .i64 (nK : Nat), .int .u64 (nA : Nat), .int .i64 (nB : Nat), .int .i64 (nR : Nat), .int .i64 (nG : Nat), .int .i64 (nS : Nat), .int .u64 (y : Nat), .int .u64 0, .int .u64 0, .int .i64 0] 38) = w1a at *
  obtain ⟨c0, c1, c2, c3⟩ := cells4 gC
  have cp0 := fun o => cell_alloc (o := o) c0
  have cp1 := fun o => cell_alloc (o := o) c1
  have cp2 := fun o => cell_alloc (o := o) c2
  have cp3 := fun o => cell_alloc (o := o) c3
  go_wp2_with fail
  refine (cQ1 _).mono ?_
  clear c0 cp0 c1 cp1 c2 cp2 c3 cp3
  rintro e w2 ⟨rfl, hb⟩
  replace gC := block_later hb gC
  replace gR := block_later hb gR
  replace gX := block_later hb gX
  replace hB := below_tr hB hb
  clear hb
  obtain ⟨c0, c1, c2, c3⟩ := cells4 gC
  have cp0 := fun o => cell_alloc (o := o) c0
  have cp1 := fun o => cell_alloc (o := o) c1
  have cp2 := fun o => cell_alloc (o := o) c2
  have cp3 := fun o => cell_alloc (o := o) c3
  go_upto_region 3 with (first
    | (refine wpList_store_segTo rfl 22 _ _ rfl rfl X 7 _ #[.int .u64 (nN : Nat)] rfl rfl rfl 38 _ gX (show 7 + 1 ≤ 10 by decide) info1u (by simp [Value.oneCell']) #[.int .i64 (nK : Nat), .int .u64 (nA : Nat), .int .i64 (nB : Nat), .int .i64 (nR : Nat), .int .i64 (nG : Nat), .int .i64 (nS : Nat), .int .u64 (y : Nat), .int .u64 (nN : Nat), .int .u64 0, .int .i64 0] rfl ?_; intro wqa hrq htq)
    | fail)
  clear c0 cp0 c1 cp1 c2 cp2 c3 cp3
  replace gR := block_turn htq gR (by omega)
  replace gC := block_turn htq gC (by omega)
  replace gX := hrq
  replace hB := below_turn hB htq (by omega)
  clear hrq htq
  obtain ⟨c0, c1, c2, c3⟩ := cells4 gC
  have cp0 := fun o => cell_alloc (o := o) c0
  have cp1 := fun o => cell_alloc (o := o) c1
  have cp2 := fun o => cell_alloc (o := o) c2
  have cp3 := fun o => cell_alloc (o := o) c3
  go_wp2_with fail
  refine (cQ2 _).mono ?_
  clear c0 cp0 c1 cp1 c2 cp2 c3 cp3
  rintro e w3 ⟨rfl, hb⟩
  replace gC := block_later hb gC
  replace gR := block_later hb gR
  replace gX := block_later hb gX
  replace hB := below_tr hB hb
  clear hb
  obtain ⟨c0, c1, c2, c3⟩ := cells4 gC
  have cp0 := fun o => cell_alloc (o := o) c0
  have cp1 := fun o => cell_alloc (o := o) c1
  have cp2 := fun o => cell_alloc (o := o) c2
  have cp3 := fun o => cell_alloc (o := o) c3
  go_upto_region 4 with (first
    | (refine wpList_store_segTo rfl 22 _ _ rfl rfl X 8 _ #[.int .u64 (nP : Nat)] rfl rfl rfl 38 _ gX (show 8 + 1 ≤ 10 by decide) info1u (by simp [Value.oneCell']) #[.int .i64 (nK : Nat), .int .u64 (nA : Nat), .int .i64 (nB : Nat), .int .i64 (nR : Nat), .int .i64 (nG : Nat), .int .i64 (nS : Nat), .int .u64 (y : Nat), .int .u64 (nN : Nat), .int .u64 (nP : Nat), .int .i64 0] rfl ?_; intro wqb hrq htq)
    | fail)
  clear c0 cp0 c1 cp1 c2 cp2 c3 cp3
  replace gR := block_turn htq gR (by omega)
  replace gC := block_turn htq gC (by omega)
  replace gX := hrq
  replace hB := below_turn hB htq (by omega)
  clear hrq htq
  obtain ⟨c0, c1, c2, c3⟩ := cells4 gC
  have cp0 := fun o => cell_alloc (o := o) c0
  have cp1 := fun o => cell_alloc (o := o) c1
  have cp2 := fun o => cell_alloc (o := o) c2
  have cp3 := fun o => cell_alloc (o := o) c3
  go_upto_region 7 with (first
    | (refine wpList_store_segTo rfl 3 _ _ rfl rfl X 9 _ #[.int .i64 (u : Nat)] rfl rfl rfl 38 _ gX (show 9 + 1 ≤ 10 by decide) info1i (by simp [Value.oneCell']) #[.int .i64 (nK : Nat), .int .u64 (nA : Nat), .int .i64 (nB : Nat), .int .i64 (nR : Nat), .int .i64 (nG : Nat), .int .i64 (nS : Nat), .int .u64 (y : Nat), .int .u64 (nN : Nat), .int .u64 (nP : Nat), .int .i64 (u : Nat)] rfl ?_; intro wqc hrq htq)
    | fail)
  clear c0 cp0 c1 cp1 c2 cp2 c3 cp3
  replace gR := block_turn htq gR (by omega)
  replace gC := block_turn htq gC (by omega)
  replace gX := hrq
  replace hB := below_turn hB htq (by omega)
  clear hrq htq
  obtain ⟨c0, c1, c2, c3⟩ := cells4 gC
  have cp0 := fun o => cell_alloc (o := o) c0
  have cp1 := fun o => cell_alloc (o := o) c1
  have cp2 := fun o => cell_alloc (o := o) c2
  have cp3 := fun o => cell_alloc (o := o) c3
  clear c0 cp0 c1 cp1 c2 cp2 c3 cp3
  generalize wqc = WD at *
  obtain ⟨k0, k1, k2, k3, k4, k5, k6, k7, k8, k9⟩ := cells10 gX
  obtain ⟨k10, k11, k12, k13⟩ := cells4 gC
  refine wp_region_noPanic ?_
  refine wp_region_held_drew (S := (fun w' => w'.cell? ⟨X, 0, none⟩ = some (.int .i64 (nK : Nat)) ∧ w'.cell? ⟨X, 1, none⟩ = some (.int .u64 (nA : Nat)) ∧ w'.cell? ⟨X, 2, none⟩ = some (.int .i64 (nB : Nat)) ∧ w'.cell? ⟨X, 3, none⟩ = some (.int .i64 (nR : Nat)) ∧ w'.cell? ⟨X, 4, none⟩ = some (.int .i64 (nG : Nat)) ∧ w'.cell? ⟨X, 5, none⟩ = some (.int .i64 (nS : Nat)) ∧ w'.cell? ⟨X, 6, none⟩ = some (.int .u64 (y : Nat)) ∧ w'.cell? ⟨X, 7, none⟩ = some (.int .u64 (nN : Nat)) ∧ w'.cell? ⟨X, 8, none⟩ = some (.int .u64 (nP : Nat)) ∧ w'.cell? ⟨X, 9, none⟩ = some (.int .i64 (u : Nat)) ∧ w'.cell? ⟨w.heap.size, 0, none⟩ = some (.int .u64 (x : Nat)) ∧ w'.cell? ⟨w.heap.size, 1, none⟩ = some (.int .u64 (y : Nat)) ∧ w'.cell? ⟨w.heap.size, 2, none⟩ = some (.int .u64 (z : Nat)) ∧ w'.cell? ⟨w.heap.size, 3, none⟩ = some (.int .u64 (u : Nat)))) (by kernel_rfl) ?_ (fun hHeld => ?_)
  · exact ⟨cell_later (Below.refl _ _).drew k0, cell_later (Below.refl _ _).drew k1, cell_later (Below.refl _ _).drew k2, cell_later (Below.refl _ _).drew k3, cell_later (Below.refl _ _).drew k4, cell_later (Below.refl _ _).drew k5, cell_later (Below.refl _ _).drew k6, cell_later (Below.refl _ _).drew k7, cell_later (Below.refl _ _).drew k8, cell_later (Below.refl _ _).drew k9, cell_later (Below.refl _ _).drew k10, cell_later (Below.refl _ _).drew k11, cell_later (Below.refl _ _).drew k12, cell_later (Below.refl _ _).drew k13⟩
  replace k0 := cell_later (Below.refl _ WD).drew k0
  replace k1 := cell_later (Below.refl _ WD).drew k1
  replace k2 := cell_later (Below.refl _ WD).drew k2
  replace k3 := cell_later (Below.refl _ WD).drew k3
  replace k4 := cell_later (Below.refl _ WD).drew k4
  replace k5 := cell_later (Below.refl _ WD).drew k5
  replace k6 := cell_later (Below.refl _ WD).drew k6
  replace k7 := cell_later (Below.refl _ WD).drew k7
  replace k8 := cell_later (Below.refl _ WD).drew k8
  replace k9 := cell_later (Below.refl _ WD).drew k9
  replace k10 := cell_later (Below.refl _ WD).drew k10
  replace k11 := cell_later (Below.refl _ WD).drew k11
  replace k12 := cell_later (Below.refl _ WD).drew k12
  replace k13 := cell_later (Below.refl _ WD).drew k13
  replace gC := block_later (Below.refl _ WD).drew gC
  replace gR := block_later (Below.refl _ WD).drew gR
  replace gX := block_later (Below.refl _ WD).drew gX
  replace hB := below_tr hB (Below.refl _ WD).drew
  generalize WD.drew = Wd at *
  refine take_at (i := 0) (v := ?_) 29 rfl rfl (by kernel_rfl) (by kernel_rfl) (by kernel_rfl) (fun _ _ _ h => h) (Or.inl ⟨by rfl, ?_⟩) (by assumption) ?_
  rotate_left
  · (intro w' hSw; (try dsimp only at hSw); go_simp; all_goals with_reducible rfl)
  try simp only [Act.put, List.setIfInBounds_toArray, List.set_cons_zero, List.set_cons_succ]
  refine wpAnyH_ready (rs := [1]) (by kernel_rfl) (by simp) ?_
  refine AllReadyH.cons rfl (fun K hK => ?_) AllReadyH.nil
  go_simp
  refine (cD _).mono ?_
  rintro e wc1 ⟨rfl, hb⟩
  go_wp2_with fail
  replace k0 := cell_later hb k0
  replace k1 := cell_later hb k1
  replace k2 := cell_later hb k2
  replace k3 := cell_later hb k3
  replace k4 := cell_later hb k4
  replace k5 := cell_later hb k5
  replace k6 := cell_later hb k6
  replace k7 := cell_later hb k7
  replace k8 := cell_later hb k8
  replace k9 := cell_later hb k9
  replace k10 := cell_later hb k10
  replace k11 := cell_later hb k11
  replace k12 := cell_later hb k12
  replace k13 := cell_later hb k13
  replace gC := block_later hb gC
  replace gR := block_later hb gR
  replace gX := block_later hb gX
  replace hB := below_tr hB hb
  refine hK.out _ _ ⟨k0, k1, k2, k3, k4, k5, k6, k7, k8, k9, k10, k11, k12, k13⟩ (fun hHeld1 => ?_)
  clear hK
  try simp only [Act.put, List.setIfInBounds_toArray, List.set_cons_zero, List.set_cons_succ]
  refine take_at (i := 2) (v := ?_) 31 rfl rfl (by kernel_rfl) (by kernel_rfl) (by kernel_rfl) (fun _ _ _ h => h) (Or.inl ⟨by rfl, ?_⟩) (by assumption) ?_
  rotate_left
  · (intro w' hSw; (try dsimp only at hSw); go_simp; all_goals with_reducible rfl)
  try simp only [Act.put, List.setIfInBounds_toArray, List.set_cons_zero, List.set_cons_succ]
  refine take_at (i := 3) (v := ?_) 32 rfl rfl (by kernel_rfl) (by kernel_rfl) (by kernel_rfl) (fun _ _ _ h => h) (Or.inl ⟨by rfl, ?_⟩) (by assumption) ?_
  rotate_left
  · (intro w' hSw; (try dsimp only at hSw); go_simp; all_goals with_reducible rfl)
  try simp only [Act.put, List.setIfInBounds_toArray, List.set_cons_zero, List.set_cons_succ]
  refine take_at (i := 4) (v := ?_) 33 rfl rfl (by kernel_rfl) (by kernel_rfl) (by kernel_rfl) (fun _ _ _ h => h) (Or.inl ⟨by rfl, ?_⟩) (by assumption) ?_
  rotate_left
  · (intro w' hSw; (try dsimp only at hSw); go_simp; all_goals with_reducible rfl)
  try simp only [Act.put, List.setIfInBounds_toArray, List.set_cons_zero, List.set_cons_succ]
  refine take_at (i := 6) (v := ?_) 35 rfl rfl (by kernel_rfl) (by kernel_rfl) (by kernel_rfl) (fun _ _ _ h => h) (Or.inl ⟨by rfl, ?_⟩) (by assumption) ?_
  rotate_left
  · (intro w' hSw; (try dsimp only at hSw); go_simp; all_goals with_reducible rfl)
  try simp only [Act.put, List.setIfInBounds_toArray, List.set_cons_zero, List.set_cons_succ]
  refine wpAnyH_ready (rs := [5]) (by kernel_rfl) (by simp) ?_
  refine AllReadyH.cons rfl (fun K hK => ?_) AllReadyH.nil
  go_simp
  refine (cW _).mono ?_
  rintro e wc2 ⟨rfl, hb⟩
  go_wp2_with fail
  replace k0 := cell_later hb k0
  replace k1 := cell_later hb k1
  replace k2 := cell_later hb k2
  replace k3 := cell_later hb k3
  replace k4 := cell_later hb k4
  replace k5 := cell_later hb k5
  replace k6 := cell_later hb k6
  replace k7 := cell_later hb k7
  replace k8 := cell_later hb k8
  replace k9 := cell_later hb k9
  replace k10 := cell_later hb k10
  replace k11 := cell_later hb k11
  replace k12 := cell_later hb k12
  replace k13 := cell_later hb k13
  replace gC := block_later hb gC
  replace gR := block_later hb gR
  replace gX := block_later hb gX
  replace hB := below_tr hB hb
  refine hK.out _ _ ⟨k0, k1, k2, k3, k4, k5, k6, k7, k8, k9, k10, k11, k12, k13⟩ (fun hHeld2 => ?_)
  clear hK
  try simp only [Act.put, List.setIfInBounds_toArray, List.set_cons_zero, List.set_cons_succ]
  refine take_at (i := 7) (v := ?_) 36 rfl rfl (by kernel_rfl) (by kernel_rfl) (by kernel_rfl) (fun _ _ _ h => h) (Or.inl ⟨by rfl, ?_⟩) (by assumption) ?_
  rotate_left
  · (intro w' hSw; (try dsimp only at hSw); go_simp; all_goals with_reducible rfl)
  try simp only [Act.put, List.setIfInBounds_toArray, List.set_cons_zero, List.set_cons_succ]
  refine take_at (i := 8) (v := ?_) 37 rfl rfl (by kernel_rfl) (by kernel_rfl) (by kernel_rfl) (fun _ _ _ h => h) (Or.inl ⟨by rfl, ?_⟩) (by assumption) ?_
  rotate_left
  · (intro w' hSw; (try dsimp only at hSw); go_simp; all_goals with_reducible rfl)
  try simp only [Act.put, List.setIfInBounds_toArray, List.set_cons_zero, List.set_cons_succ]
  refine wpAnyH_done (by kernel_rfl) ?_ _
  refine NoPanic.normal ?_
  obtain ⟨c0, c1, c2, c3⟩ := cells4 gC
  obtain ⟨j0, j1, j2, j3, j4, j5, j6, j7, j8, j9⟩ := cells10 gX
  go_wp2_with (first
    | (refine wpList_store_segTo rfl 38 _ _ rfl rfl (w.heap.size + 1) 0 _ #[.int .i64 (nK : Nat), .int .u64 (nA : Nat), .int .i64 (nB : Nat), .int .i64 (nR : Nat), .int .i64 (nG : Nat), .int .i64 (nS : Nat), .int .u64 (y : Nat), .int .u64 (nN : Nat), .int .u64 (nP : Nat), .int .i64 (u : Nat)] rfl rfl rfl 38 _ gR (show 0 + 10 ≤ 10 by decide) info10d (by simp [Value.oneCell']) #[.int .i64 (nK : Nat), .int .u64 (nA : Nat), .int .i64 (nB : Nat), .int .i64 (nR : Nat), .int .i64 (nG : Nat), .int .i64 (nS : Nat), .int .u64 (y : Nat), .int .u64 (nN : Nat), .int .u64 (nP : Nat), .int .i64 (u : Nat)] rfl ?_; intro wq hrq htq)
    | fail)
  refine bodyPost_ret (res_row_tmp rfl _ wq (w.heap.size + 1) 38 #[.int .i64 (nK : Nat), .int .u64 (nA : Nat), .int .i64 (nB : Nat), .int .i64 (nR : Nat), .int .i64 (nG : Nat), .int .i64 (nS : Nat), .int .u64 (y : Nat), .int .u64 (nN : Nat), .int .u64 (nP : Nat), .int .i64 (u : Nat)] (0, 0) _ rfl hrq Tryd.underlying38 rfl info10d) rfl ?_
  exact ⟨rfl, below_turn hB htq hRB⟩

theorem dread_any (x y z u : Nat) (hx : x < 18446744073709551616) (hy : y < 18446744073709551616) (hz : z < 18446744073709551616) (hu : u < 18446744073709551616) (w : World) :
    Calls Tryd.prog 19 #[.agg #[.int .u64 (x : Nat), .int .u64 (y : Nat), .int .u64 (z : Nat), .int .u64 (u : Nat)]] w fun e w' => e = .returned (.tuple #[.agg (slV x y z u), .bool (okS x y z u)]) ∧ Below w.heap.size w w' := by
  have hRt := rd_bounds x y hy
  by_cases h4 : u ≤ 4096
  · have cD := fun w1 => dsright_any (rdK x) (rdA x) (rdB x) (rdR x) (rdG x) (rdS x) y (slN z) (slP z) u (by have := hRt.qa; omega) hy w1
    have cW := fun w1 => dswords_any hRt (slN_lk z).1 (slP_lk z).1 h4 w1
    cases hc : cB (rdK x) (rdA x) (rdB x) (rdR x) (rdG x) (rdS x) y
    · have hs : sB (rdK x) (rdA x) (rdB x) (rdR x) (rdG x) (rdS x) y (slN z) (slP z) u = false := by unfold sB; rw [hc, if_neg (by decide)]
      rw [hs] at cD
      have e : okS x y z u = false := by unfold okS rdOK; rw [hc]; rfl
      have := dread_bad x y z u _ _ _ _ _ _ _ _ hx hy hz rfl rfl rfl rfl rfl rfl rfl rfl h4 cD w
      unfold slV
      rw [e, if_neg (by decide)]
      exact this
    · have hs : sB (rdK x) (rdA x) (rdB x) (rdR x) (rdG x) (rdS x) y (slN z) (slP z) u = true := (s_iff _ _ _ _ _ _ _ _ _ _).2 ⟨hc, slN_lk z, slP_lk z, by omega, by omega⟩
      rw [hs] at cD
      have e : eqWB (wordN (rdK x) (rdA x) (rdB x) (rdR x) (rdG x) (rdS x)) y (lnkN (slN z) (slP z)) u x y z u = okS x y z u := by
        unfold eqWB okS rdOK
        rw [hc, decide_eq_true h4]; simp
      unfold slV
      cases hq : okS x y z u
      · have := dread_ne x y z u _ _ _ _ _ _ _ _ _ _ _ _ hx hy hz rfl rfl rfl rfl rfl rfl rfl rfl h4 cD cW (e.trans hq) w
        rw [if_neg (by decide)]
        exact this
      · have := dread_eq x y z u _ _ _ _ _ _ _ _ _ _ _ _ hx hy hz rfl rfl rfl rfl rfl rfl rfl rfl h4 cD cW (e.trans hq) w
        rw [if_pos rfl]
        exact this
  · have e : okS x y z u = false := by unfold okS; rw [decide_eq_false h4]; simp
    have := dread_no x y z u _ _ _ _ _ _ _ _ hx hy hz rfl rfl rfl rfl rfl rfl rfl rfl h4 w
    unfold slV
    rw [e, if_neg (by decide)]
    exact this
end Go.Proofs.YtieldgocgjoojaaDoor
