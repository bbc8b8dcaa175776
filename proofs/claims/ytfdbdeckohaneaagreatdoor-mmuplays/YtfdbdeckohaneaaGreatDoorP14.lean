/- P14 -/
import Derived.Test.YtfdbdeckohaneaaGreatDoorP03
set_option maxHeartbeats 16000000
set_option maxRecDepth 100000
namespace Go.Proofs.YtfdbdeckohaneaaGreatDoor
open Go.RowKit
theorem qaw {P : Program} {fn : Func} {p u : Tmp} {ty : TypeId} (h : fn.results = #[.cell p ty, .tmp u]) (tmps : Array Value) (w : World) (g : Nat) (t : TypeId) (cs : Array Value) (fr : Nat × Nat) (d : TypeDesc)
  (hp : tmps.getD p undef = .pointer (some ⟨g, 0, none⟩)) (hg : w.heap[g]? = some (.cells cs t fr))
  (hu : P.underlying ty = some d) (hd : (match d with | .struct _ | .array _ _ => true | _ => false) = true) (hi : (P.info? ty).map (·.size) = some cs.size) :
  (results fn tmps).run P w = .ok (.tuple #[.agg cs, tmps.getD u undef]) w := by
 rw [results_cell_tmp h, hp]
 simp [asAddr, run_loadVar_row w g t ty cs fr d hg hu hd hi, Result.andThen]
def okD (l : Int) (x : Nat) : Bool := qbr l (rdK l x) (rdO x) (rdU l x) (rdR l x) (rdX l x) (rdS l x) (rdA l x) && encN (rdK l x) (rdO x) (rdU l x) (rdR l x) (rdX l x) (rdS l x) (rdA l x) == x
theorem decode_lv (l : Int) (x : Nat) (hl : isLv l = false) (w : World) :
  Calls Tryz.prog 83 #[.int .i64 l, .int .u64 x] w fun e w' => e = .returned (.tuple #[dv 0 0 false false false false 0, .int .i64 12]) ∧ Below w.heap.size w w' := by
 go_enter Tryz.func83, Tryz.ntmps83
 go_wp2_with (go_at_call 118; refine (qbg _ _).mono ?_; rintro e w' ⟨rfl, rfl⟩; rw [hl])
 refine bodyPost_ret (v := .tuple #[dv 0 0 false false false false 0, .int .i64 12]) ?_ rfl ⟨rfl, qac _ _⟩
 exact qaw (p := 4) (u := 5) rfl _ _ w.heap.size 89 _ _ _ rfl (heap_alloc_new _ _) Tryz.underlying89 rfl (by kernel_rfl)
theorem decode_inv (l : Int) (x : Nat) (hx : x < 18446744073709551616) (hl : isLv l = true) (h0 : x.testBit 0 = false) (w : World) (hF : Flds w) :
  Calls Tryz.prog 83 #[.int .i64 l, .int .u64 x] w fun e w' => e = .returned (.tuple #[dv 0 0 false false false false 0, .int .i64 0]) ∧ Below w.heap.size w w' := by
 have hC := fun w1 h => reading_any l x hx w1 h
 have HE : rdK l x = 0 ∧ rdO x = 0 ∧ rdU l x = false ∧ rdR l x = false ∧ rdX l x = false ∧ rdS l x = false ∧ rdA l x = 0 := by
  unfold rdK rdO rdU rdR rdX rdS rdA leafQ; simp [h0]
 obtain ⟨e0, e1, e2, e3, e4, e5, e6⟩ := HE
 rw [e0, e1, e2, e3, e4, e5, e6] at hC
 clear e0 e1 e2 e3 e4 e5 e6 h0
 go_enter Tryz.func83, Tryz.ntmps83
 go_wp2_with (first
  | (go_at_call 118; refine (qbg _ _).mono ?_; rintro e w' ⟨rfl, rfl⟩; rw [hl])
  | (go_at_call 119; refine (hC _ (hF.alloc _)).mono ?_; rintro e w1 ⟨rfl, hbm⟩
     have hh : w1.heap[w.heap.size]? = some (.cells #[.int .i64 0, .int .u64 0, .bool false, .bool false, .bool false, .bool false, .int .i64 0] 89 (0, 0)) := by
      rw [hbm.block _ (by simp)]; exact heap_alloc_new _ _
     have hsz : w.heap.size < w1.heap.size := by have := hbm.size; simp at this; omega
     have hB : Below w.heap.size w w1 := qab (qac _ _) hbm
     obtain ⟨⟨g0, g1, g2, g3, g4, g5, g6⟩, gf⟩ := qbw hh
     have HH : Hid _ := hh
     clear hh hbm hC))
 refine bodyPost_ret (v := .tuple #[dv 0 0 false false false false 0, .int .i64 0]) ?_ rfl ⟨rfl, (qcx hB (Nat.le_refl _) _ _ _ _ _ _ _).alloc (by simp; omega) _⟩
 exact qaw (p := 4) (u := 5) rfl _ _ w.heap.size 89 _ _ _ rfl ((heap_alloc_old _ _ (by simpa using hsz)).trans (row7 _ _ _ _ _ _ _ HH.out)) Tryz.underlying89 rfl (by kernel_rfl)
theorem rdK_ne (l : Int) (x : Nat) (h0 : x.testBit 0 = true) : rdK l x ≠ 0 := by
 unfold rdK
 rw [if_neg (by rw [h0]; decide)]
 by_cases h : (x.testBit 1 && decide (l < 3)) = true
 ·rw [if_pos h]; decide
 ·rw [if_neg h]
  by_cases h1 : x.testBit 1 = true
  ·rw [if_pos h1]; decide
  ·rw [if_neg h1]; decide
theorem decode_ok (l : Int) (x : Nat) (hx : x < 18446744073709551616) (hl : isLv l = true) (h0 : x.testBit 0 = true) (hk : okD l x = true) (w : World) (hF : Flds w) :
  Calls Tryz.prog 83 #[.int .i64 l, .int .u64 x] w fun e w' => e = .returned (.tuple #[dv (rdK l x) (rdO x) (rdU l x) (rdR l x) (rdX l x) (rdS l x) (rdA l x), .int .i64 0]) ∧ Below w.heap.size w w' := by
 have hC := fun w1 h => reading_any l x hx w1 h
 have hN := rdK_ne l x h0
 have hO := rdO_lt x
 unfold okD at hk
 generalize rdK l x = K at *
 generalize rdO x = O at *
 generalize rdU l x = U at *
 generalize rdR l x = R at *
 generalize rdX l x = X at *
 generalize rdS l x = S at *
 generalize rdA l x = A at *
 rw [Bool.and_eq_true, beq_iff_eq] at hk
 have hD := fun w1 h => encode_any l K O U R X S A hO w1 h
 have hE : encE l K O U R X S A = 0 := by unfold encE; rw [if_neg (by rw [hl]; decide), if_neg (by rw [hk.1]; decide)]
 have hW : encW l K O U R X S A = x := by unfold encW; rw [if_neg (by rw [hk.1]; decide), hk.2]
 rw [hE, hW] at hD
 clear hE hW hk h0 hO
 go_enter Tryz.func83, Tryz.ntmps83
 go_wp2_with (first
  | (go_at_call 118; refine (qbg _ _).mono ?_; rintro e w' ⟨rfl, rfl⟩; rw [hl])
  | (go_at_call 119; refine (hC _ (hF.alloc _)).mono ?_; rintro e w1 ⟨rfl, hbm⟩
     have hF1 := (hF.alloc _).later hbm
     have hh : w1.heap[w.heap.size]? = some (.cells #[.int .i64 0, .int .u64 0, .bool false, .bool false, .bool false, .bool false, .int .i64 0] 89 (0, 0)) := by
      rw [hbm.block _ (by simp)]; exact heap_alloc_new _ _
     have hsz : w.heap.size < w1.heap.size := by have := hbm.size; simp at this; omega
     have hB : Below w.heap.size w w1 := qab (qac _ _) hbm
     clear hbm hC)
  | (go_at_call 120; refine (hD _ (hF1.alloc _)).mono ?_; rintro e w2 ⟨rfl, hb2⟩
     have hh2 : w2.heap[w.heap.size]? = some (.cells #[.int .i64 0, .int .u64 0, .bool false, .bool false, .bool false, .bool false, .int .i64 0] 89 (0, 0)) := by
      rw [hb2.block _ (by simp; omega), heap_alloc_old _ _ hsz]; exact hh
     have k0 : w2.cell? ⟨w1.heap.size, 0, none⟩ = some (.int .i64 K) := cell_later hb2 (by simp)
     have k1 : w2.cell? ⟨w1.heap.size, 1, none⟩ = some (.int .u64 O) := cell_later hb2 (by simp)
     have k2 : w2.cell? ⟨w1.heap.size, 2, none⟩ = some (.bool U) := cell_later hb2 (by simp)
     have k3 : w2.cell? ⟨w1.heap.size, 3, none⟩ = some (.bool R) := cell_later hb2 (by simp)
     have k4 : w2.cell? ⟨w1.heap.size, 4, none⟩ = some (.bool X) := cell_later hb2 (by simp)
     have k5 : w2.cell? ⟨w1.heap.size, 5, none⟩ = some (.bool S) := cell_later hb2 (by simp)
     have k6 : w2.cell? ⟨w1.heap.size, 6, none⟩ = some (.int .i64 A) := cell_later hb2 (by simp)
     have hB2 : Below w.heap.size w w2 := qab (hB.alloc hB.size _) hb2
     obtain ⟨⟨g0, g1, g2, g3, g4, g5, g6⟩, gf⟩ := qbw hh2
     have HH : Hid _ := hh2
     clear hh hh2 hb2 hD))
 refine bodyPost_ret (v := .tuple #[dv K O U R X S A, .int .i64 0]) ?_ rfl ⟨rfl, qcx hB2 (Nat.le_refl _) _ _ _ _ _ _ _⟩
 exact qaw (p := 4) (u := 5) rfl _ _ w.heap.size 89 _ _ _ rfl (row7 _ _ _ _ _ _ _ HH.out) Tryz.underlying89 rfl (by kernel_rfl)
theorem zP14x01 {Z : Prop} (z : Z := by
 go_enter Tryz.func83, Tryz.ntmps83
 go_wp2_with (first
  | (go_at_call 118; refine (qbg _ _).mono ?_; rintro e w' ⟨rfl, rfl⟩; rw [hl])
  | (go_at_call 119; refine (hC _ (hF.alloc _)).mono ?_; rintro e w1 ⟨rfl, hbm⟩
     have hF1 := (hF.alloc _).later hbm
     have hh : w1.heap[w.heap.size]? = some (.cells #[.int .i64 0, .int .u64 0, .bool false, .bool false, .bool false, .bool false, .int .i64 0] 89 (0, 0)) := by
      rw [hbm.block _ (by simp)]; exact heap_alloc_new _ _
     have hsz : w.heap.size < w1.heap.size := by have := hbm.size; simp at this; omega
     have hB : Below w.heap.size w w1 := qab (qac _ _) hbm
     clear hbm hC)
  | (go_at_call 120; refine (hD _ (hF1.alloc _)).mono ?_; rintro e w2 ⟨rfl, hb2⟩
     have hh2 : w2.heap[w.heap.size]? = some (.cells #[.int .i64 0, .int .u64 0, .bool false, .bool false, .bool false, .bool false, .int .i64 0] 89 (0, 0)) := by
      rw [hb2.block _ (by simp; omega), heap_alloc_old _ _ hsz]; exact hh
     have hB2 : Below w.heap.size w w2 := qab (hB.alloc hB.size _) hb2
     obtain ⟨⟨g0, g1, g2, g3, g4, g5, g6⟩, gf⟩ := qbw hh2
     have HH : Hid _ := hh2
     clear hh hh2 hb2 hD))
 refine bodyPost_ret (v := .tuple #[dv 0 0 false false false false 0, .int .i64 10]) ?_ rfl ⟨rfl, qcx hB2 (Nat.le_refl _) _ _ _ _ _ _ _⟩
 exact qaw (p := 4) (u := 5) rfl _ _ w.heap.size 89 _ _ _ rfl (row7 _ _ _ _ _ _ _ HH.out) Tryz.underlying89 rfl (by kernel_rfl)) : Z := z
theorem decode_bad (l : Int) (x : Nat) (hx : x < 18446744073709551616) (hl : isLv l = true) (h0 : x.testBit 0 = true) (hk : okD l x = false) (w : World) (hF : Flds w) :
  Calls Tryz.prog 83 #[.int .i64 l, .int .u64 x] w fun e w' => e = .returned (.tuple #[dv 0 0 false false false false 0, .int .i64 10]) ∧ Below w.heap.size w w' := by
 have hC := fun w1 h => reading_any l x hx w1 h
 have hN := rdK_ne l x h0
 have hO := rdO_lt x
 unfold okD at hk
 generalize rdK l x = K at *
 generalize rdO x = O at *
 generalize rdU l x = U at *
 generalize rdR l x = R at *
 generalize rdX l x = X at *
 generalize rdS l x = S at *
 generalize rdA l x = A at *
 have hD := fun w1 h => encode_any l K O U R X S A hO w1 h
 cases hr : qbr l K O U R X S A
 ·have hE : encE l K O U R X S A = 10 := by unfold encE; rw [if_neg (by rw [hl]; decide), if_pos hr]
  rw [hE] at hD
  generalize encW l K O U R X S A = V at *
  clear hE hk h0 hO hr
  exact zP14x01
 ·have hE : encE l K O U R X S A = 0 := by unfold encE; rw [if_neg (by rw [hl]; decide), if_neg (by rw [hr]; decide)]
  have hW : encW l K O U R X S A ≠ x := by
   unfold encW; rw [if_neg (by rw [hr]; decide)]
   rw [hr, Bool.true_and, beq_eq_false_iff_ne] at hk
   exact hk
  rw [hE] at hD
  generalize encW l K O U R X S A = V at *
  have hV : ((V : Int) != (x : Int)) = true := by rw [bne_iff_ne]; omega
  clear hE hk h0 hO hr hW
  exact zP14x01
end Go.Proofs.YtfdbdeckohaneaaGreatDoor
