/- The walks of package desc, sixth part: what a word says if it isn't reserved. -/
import Derived.Test.YtndjhedoandinaaGreatDoorDescE
import Derived.Laws.ResultCell
namespace Go.Proofs.YtndjhedoandinaaGreatDoor
open Go.RowKit

theorem and_pow (x i : Nat) : x &&& 2 ^ i = (x.testBit i).toNat * 2 ^ i := by
  apply Nat.eq_of_testBit_eq
  intro j
  rw [Nat.testBit_and, Nat.testBit_two_pow, testBit_mul_pow]
  by_cases h : i = j
  · subst h
    cases x.testBit i <;> simp
  · rw [decide_eq_false h, Bool.and_false]
    by_cases h2 : i ≤ j
    · obtain ⟨d, hd⟩ : ∃ d, j - i = d + 1 := ⟨j - i - 1, by omega⟩
      rw [hd]; cases x.testBit i <;> simp [Nat.testBit_succ]
    · rw [decide_eq_false h2]; rfl
theorem and_bit (x i : Nat) (hx : x < 18446744073709551616) (hi : i < 64) : (bits BinOp.and IntKind.u64 (x : Int) ((2 ^ i : Nat) : Int) == 0) = !x.testBit i := by
  have hp : 2 ^ i < 18446744073709551616 := Nat.pow_lt_pow_right (a := 2) (n := 64) (by omega) hi
  rw [bits_and_u64_nat _ _ hx hp, and_pow]
  have hq : 0 < 2 ^ i := Nat.two_pow_pos _
  generalize 2 ^ i = q at *
  cases x.testBit i
  · simp
  · rw [Bool.toNat_true, Nat.one_mul, Bool.not_true, beq_eq_false_iff_ne]; omega
theorem and_bitn (x i : Nat) (hx : x < 18446744073709551616) (hi : i < 64) : (bits BinOp.and IntKind.u64 (x : Int) ((2 ^ i : Nat) : Int) != 0) = x.testBit i := by
  have := and_bit x i hx hi
  rw [bne, this, Bool.not_not]

/-- The bits of Out. -/
def outV (x : Nat) : Nat := x &&& maskV 12 36
theorem outV_lt (x : Nat) : outV x < 18446744073709551616 := Nat.lt_of_le_of_lt Nat.and_le_right (maskV_lt _ _)
/-- A word says a leaf, if it isn't reserved. -/
def leafQ (l : Int) (x : Nat) : Bool := x.testBit 0 && !(x.testBit 1 && decide (l < 3))
def rdK (l : Int) (x : Nat) : Int := if x.testBit 0 = false then 0 else if (x.testBit 1 && decide (l < 3)) = true then 1 else if x.testBit 1 = true then 3 else 2
def rdO (x : Nat) : Nat := if x.testBit 0 = false then 0 else outV x
def rdU (l : Int) (x : Nat) : Bool := leafQ l x && x.testBit 6
def rdR (l : Int) (x : Nat) : Bool := leafQ l x && !x.testBit 7
def rdX (l : Int) (x : Nat) : Bool := leafQ l x && !x.testBit 54
def rdS (l : Int) (x : Nat) : Bool := leafQ l x && x.testBit 10
def rdA (l : Int) (x : Nat) : Int := if leafQ l x = true then ((getV 2 3 x : Nat) : Int) else 0
theorem rdO_lt (x : Nat) : rdO x < 18446744073709551616 := by
  unfold rdO; by_cases h : x.testBit 0 = false
  · rw [if_pos h]; omega
  · rw [if_neg h]; exact outV_lt x
theorem getV23_le (x : Nat) : getV 2 3 x ≤ 7 := by
  have e : rightB 2 3 = true := by decide
  have o : ones 3 = 7 := by decide +kernel
  unfold getV; rw [if_pos e, o]; exact Nat.and_le_right

/-- The value of a descriptor's seven parts. -/
abbrev dv (k : Int) (o : Nat) (u r x s : Bool) (a : Int) : Value := .agg #[.int .i64 k, .int .u64 (o : Int), .bool u, .bool r, .bool x, .bool s, .int .i64 a]

/-- A block of seven cells: what it holds, and that it may be written. -/
theorem cells7 {w1 : World} {g t : Nat} {c0 c1 c2 c3 c4 c5 c6 : Value} (hh : w1.heap[g]? = some (.cells #[c0, c1, c2, c3, c4, c5, c6] t (0, 0))) :
    (w1.cell? ⟨g, 0, none⟩ = some c0 ∧ w1.cell? ⟨g, 1, none⟩ = some c1 ∧ w1.cell? ⟨g, 2, none⟩ = some c2 ∧ w1.cell? ⟨g, 3, none⟩ = some c3 ∧ w1.cell? ⟨g, 4, none⟩ = some c4 ∧ w1.cell? ⟨g, 5, none⟩ = some c5 ∧ w1.cell? ⟨g, 6, none⟩ = some c6) ∧
    ∀ i, w1.frozen? ⟨g, i, none⟩ = false := by
  refine ⟨⟨?_, ?_, ?_, ?_, ?_, ?_, ?_⟩, fun i => frozen_of_row _ _ _ _ _ hh⟩
  all_goals (rw [cell_of_row _ _ _ _ _ _ hh]; rfl)
/-- Seven cells that are written one behind the other. -/
theorem row7 {w1 : World} {g t : Nat} {c0 c1 c2 c3 c4 c5 c6 : Value} (v0 v1 v2 v3 v4 v5 v6 : Value) (hh : w1.heap[g]? = some (.cells #[c0, c1, c2, c3, c4, c5, c6] t (0, 0))) :
    (((((((w1.setCell ⟨g, 0, none⟩ v0).setCell ⟨g, 1, none⟩ v1).setCell ⟨g, 2, none⟩ v2).setCell ⟨g, 3, none⟩ v3).setCell ⟨g, 4, none⟩ v4).setCell ⟨g, 5, none⟩ v5).setCell ⟨g, 6, none⟩ v6).heap[g]? = some (.cells #[v0, v1, v2, v3, v4, v5, v6] t (0, 0)) := by
  have h0 := heap_setCell_same _ g 0 _ _ v0 hh
  simp only [List.setIfInBounds_toArray, List.set_cons_zero] at h0
  have h1 := heap_setCell_same _ g 1 _ _ v1 h0
  simp only [List.setIfInBounds_toArray, List.set_cons_zero, List.set_cons_succ] at h1
  have h2 := heap_setCell_same _ g 2 _ _ v2 h1
  simp only [List.setIfInBounds_toArray, List.set_cons_zero, List.set_cons_succ] at h2
  have h3 := heap_setCell_same _ g 3 _ _ v3 h2
  simp only [List.setIfInBounds_toArray, List.set_cons_zero, List.set_cons_succ] at h3
  have h4 := heap_setCell_same _ g 4 _ _ v4 h3
  simp only [List.setIfInBounds_toArray, List.set_cons_zero, List.set_cons_succ] at h4
  have h5 := heap_setCell_same _ g 5 _ _ v5 h4
  simp only [List.setIfInBounds_toArray, List.set_cons_zero, List.set_cons_succ] at h5
  have h6 := heap_setCell_same _ g 6 _ _ v6 h5
  simp only [List.setIfInBounds_toArray, List.set_cons_zero, List.set_cons_succ] at h6
  exact h6
theorem below7 {w w1 : World} {B g : Nat} (hB : Below B w w1) (hg : B ≤ g) (v0 v1 v2 v3 v4 v5 v6 : Value) :
    Below B w (((((((w1.setCell ⟨g, 0, none⟩ v0).setCell ⟨g, 1, none⟩ v1).setCell ⟨g, 2, none⟩ v2).setCell ⟨g, 3, none⟩ v3).setCell ⟨g, 4, none⟩ v4).setCell ⟨g, 5, none⟩ v5).setCell ⟨g, 6, none⟩ v6) :=
  ((((((hB.setCell hg _).setCell hg _).setCell hg _).setCell hg _).setCell hg _).setCell hg _).setCell hg _

set_option maxHeartbeats 2000000 in
theorem reading_any (l : Int) (x : Nat) (hx : x < 18446744073709551616) (w : World) (hF : Flds w) :
    Calls Tryz.prog 126 #[.int .i64 l, .int .u64 x] w fun e w' => e = .returned (dv (rdK l x) (rdO x) (rdU l x) (rdR l x) (rdX l x) (rdS l x) (rdA l x)) ∧ Below w.heap.size w w' := by
  have t0 : (bits BinOp.and IntKind.u64 (x : Int) 1 == 0) = !x.testBit 0 := and_bit x 0 hx (by omega)
  cases h0 : x.testBit 0
  · have HE : Hid (rdK l x = 0 ∧ rdO x = 0 ∧ rdU l x = false ∧ rdR l x = false ∧ rdX l x = false ∧ rdS l x = false ∧ rdA l x = 0) := by
      show _ ∧ _
      unfold rdK rdO rdU rdR rdX rdS rdA leafQ; simp [h0]
    rw [h0] at t0
    rw [HE.out.1, HE.out.2.1, HE.out.2.2.1, HE.out.2.2.2.1, HE.out.2.2.2.2.1, HE.out.2.2.2.2.2.1, HE.out.2.2.2.2.2.2]
    clear h0 HE
    go_enter Tryz.func126, Tryz.ntmps126
    go_wp2
    refine bodyPost_ret (v := dv 0 0 false false false false 0) ?_ rfl ⟨rfl, below_new _ _⟩
    exact results_cell_row rfl _ _ w.heap.size 60 _ _ _ rfl (heap_alloc_new _ _) Tryz.underlying60 rfl (by kernel_rfl)
  have hM := fun w1 => mask_any 12 36 w1
  have hO : bits BinOp.and IntKind.u64 (x : Int) ((maskV 12 36 : Nat) : Int) = ((outV x : Nat) : Int) := bits_and_u64_nat _ _ hx (maskV_lt _ _)
  have t1 : (bits BinOp.and IntKind.u64 (x : Int) 2 != 0) = x.testBit 1 := and_bitn x 1 hx (by omega)
  have hD : rdO x = outV x := by unfold rdO; rw [h0]; rfl
  have c0 := fun ob => cell_alloc (o := ob) hF.o0
  have c1 := fun ob => cell_alloc (o := ob) hF.o1
  rw [hD]
  generalize maskV 12 36 = M at *
  generalize outV x = O at *
  rw [h0] at t0
  have q1 : (x.testBit 1 && decide (l < 3)) = true ∨ (x.testBit 1 && decide (l < 3)) = false := by cases (x.testBit 1 && decide (l < 3)) <;> simp
  rcases q1 with q1 | q1
  · rw [Bool.and_eq_true] at q1
    obtain ⟨b1, d3⟩ := q1
    have HE : Hid (rdK l x = 1 ∧ rdU l x = false ∧ rdR l x = false ∧ rdX l x = false ∧ rdS l x = false ∧ rdA l x = 0) := by
      show _ ∧ _
      unfold rdK rdU rdR rdX rdS rdA leafQ; simp [h0, b1, d3]
    rw [b1] at t1
    rw [HE.out.1, HE.out.2.1, HE.out.2.2.1, HE.out.2.2.2.1, HE.out.2.2.2.2.1, HE.out.2.2.2.2.2]
    clear HE h0 b1
    go_enter Tryz.func126, Tryz.ntmps126
    go_wp2_with fail
    refine (hM _).mono ?_
    rintro e w1 ⟨rfl, hbm⟩
    have hh : w1.heap[w.heap.size]? = some (.cells #[.int .i64 0, .int .u64 0, .bool false, .bool false, .bool false, .bool false, .int .i64 0] 60 (0, 0)) := by
      rw [hbm.block _ (by simp)]; exact heap_alloc_new _ _
    have hB : Below w.heap.size w w1 := below_tr (below_new _ _) hbm
    clear hM hbm c0 c1 hF
    obtain ⟨⟨g0, g1, g2, g3, g4, g5, g6⟩, gf⟩ := cells7 hh
    have HH : Hid _ := hh
    clear hh
    go_wp2
    refine bodyPost_ret (v := dv 1 O false false false false 0) ?_ rfl ⟨rfl, below7 hB (Nat.le_refl _) _ _ _ _ _ _ _⟩
    · exact results_cell_row rfl _ _ w.heap.size 60 _ _ _ rfl (row7 _ _ _ _ _ _ _ HH.out) Tryz.underlying60 rfl (by kernel_rfl)
  have t6 : (bits BinOp.and IntKind.u64 (x : Int) 64 != 0) = x.testBit 6 := and_bitn x 6 hx (by omega)
  have t7 : (bits BinOp.and IntKind.u64 (x : Int) 128 == 0) = !x.testBit 7 := and_bit x 7 hx (by omega)
  have t54 : (bits BinOp.and IntKind.u64 (x : Int) 18014398509481984 == 0) = !x.testBit 54 := and_bit x 54 hx (by omega)
  have t10 : (bits BinOp.and IntKind.u64 (x : Int) 1024 != 0) = x.testBit 10 := and_bitn x 10 hx (by omega)
  have hG := fun w1 => get_any 2 3 x hx w1
  have hw : IntKind.i64.wrap ((getV 2 3 x : Nat) : Int) = ((getV 2 3 x : Nat) : Int) := by have := getV23_le x; rw [IntKind.wrap_i64]; omega
  cases b1 : x.testBit 1
  · clear q1
    have HE : Hid (rdK l x = 2 ∧ rdU l x = x.testBit 6 ∧ rdR l x = !x.testBit 7 ∧ rdX l x = !x.testBit 54 ∧ rdS l x = x.testBit 10 ∧ rdA l x = ((getV 2 3 x : Nat) : Int)) := by
      show _ ∧ _
      unfold rdK rdU rdR rdX rdS rdA leafQ; simp [h0, b1]
    rw [b1] at t1
    rw [HE.out.1, HE.out.2.1, HE.out.2.2.1, HE.out.2.2.2.1, HE.out.2.2.2.2.1, HE.out.2.2.2.2.2]
    clear HE h0 b1
    generalize x.testBit 6 = B6 at *
    generalize x.testBit 7 = B7 at *
    generalize x.testBit 54 = B54 at *
    generalize x.testBit 10 = B10 at *
    generalize getV 2 3 x = G at *
    go_enter Tryz.func126, Tryz.ntmps126
    go_wp2_with fail
    refine (hM _).mono ?_
    rintro e w1 ⟨rfl, hbm⟩
    have hh : w1.heap[w.heap.size]? = some (.cells #[.int .i64 0, .int .u64 0, .bool false, .bool false, .bool false, .bool false, .int .i64 0] 60 (0, 0)) := by
      rw [hbm.block _ (by simp)]; exact heap_alloc_new _ _
    have hB : Below w.heap.size w w1 := below_tr (below_new _ _) hbm
    have hsz : w.heap.size < w1.heap.size := by have := hbm.size; simp at this; omega
    have d0 := cell_later hB hF.a0
    have d1 := cell_later hB hF.a1
    clear hM hbm c0 c1 hF
    go_wp2_with fail
    refine (hG _).mono ?_
    rintro e w2 ⟨rfl, hb2⟩
    have hh2 : w2.heap[w.heap.size]? = some (.cells #[.int .i64 0, .int .u64 0, .bool false, .bool false, .bool false, .bool false, .int .i64 0] 60 (0, 0)) := by
      rw [hb2.block _ hsz]; exact hh
    have hB2 : Below w.heap.size w w2 := below_tr hB hb2
    obtain ⟨⟨g0, g1, g2, g3, g4, g5, g6⟩, gf⟩ := cells7 hh2
    have HH : Hid _ := hh2
    clear hh hh2 hB hb2 hG d0 d1 hsz
    go_wp2
    refine bodyPost_ret (v := dv 2 O B6 (!B7) (!B54) B10 (G : Int)) ?_ rfl ⟨rfl, below7 hB2 (Nat.le_refl _) _ _ _ _ _ _ _⟩
    · exact results_cell_row rfl _ _ w.heap.size 60 _ _ _ rfl (row7 _ _ _ _ _ _ _ HH.out) Tryz.underlying60 rfl (by kernel_rfl)
  · rw [b1, Bool.true_and] at q1
    have HE : Hid (rdK l x = 3 ∧ rdU l x = x.testBit 6 ∧ rdR l x = !x.testBit 7 ∧ rdX l x = !x.testBit 54 ∧ rdS l x = x.testBit 10 ∧ rdA l x = ((getV 2 3 x : Nat) : Int)) := by
      show _ ∧ _
      unfold rdK rdU rdR rdX rdS rdA leafQ; simp [h0, b1, q1]
    rw [b1] at t1
    rw [HE.out.1, HE.out.2.1, HE.out.2.2.1, HE.out.2.2.2.1, HE.out.2.2.2.2.1, HE.out.2.2.2.2.2]
    clear HE h0 b1
    generalize x.testBit 6 = B6 at *
    generalize x.testBit 7 = B7 at *
    generalize x.testBit 54 = B54 at *
    generalize x.testBit 10 = B10 at *
    generalize getV 2 3 x = G at *
    go_enter Tryz.func126, Tryz.ntmps126
    go_wp2_with fail
    refine (hM _).mono ?_
    rintro e w1 ⟨rfl, hbm⟩
    have hh : w1.heap[w.heap.size]? = some (.cells #[.int .i64 0, .int .u64 0, .bool false, .bool false, .bool false, .bool false, .int .i64 0] 60 (0, 0)) := by
      rw [hbm.block _ (by simp)]; exact heap_alloc_new _ _
    have hB : Below w.heap.size w w1 := below_tr (below_new _ _) hbm
    have hsz : w.heap.size < w1.heap.size := by have := hbm.size; simp at this; omega
    have d0 := cell_later hB hF.a0
    have d1 := cell_later hB hF.a1
    clear hM hbm c0 c1 hF
    go_wp2_with fail
    refine (hG _).mono ?_
    rintro e w2 ⟨rfl, hb2⟩
    have hh2 : w2.heap[w.heap.size]? = some (.cells #[.int .i64 0, .int .u64 0, .bool false, .bool false, .bool false, .bool false, .int .i64 0] 60 (0, 0)) := by
      rw [hb2.block _ hsz]; exact hh
    have hB2 : Below w.heap.size w w2 := below_tr hB hb2
    obtain ⟨⟨g0, g1, g2, g3, g4, g5, g6⟩, gf⟩ := cells7 hh2
    have HH : Hid _ := hh2
    clear hh hh2 hB hb2 hG d0 d1 hsz
    go_wp2
    refine bodyPost_ret (v := dv 3 O B6 (!B7) (!B54) B10 (G : Int)) ?_ rfl ⟨rfl, below7 hB2 (Nat.le_refl _) _ _ _ _ _ _ _⟩
    · exact results_cell_row rfl _ _ w.heap.size 60 _ _ _ rfl (row7 _ _ _ _ _ _ _ HH.out) Tryz.underlying60 rfl (by kernel_rfl)

end Go.Proofs.YtndjhedoandinaaGreatDoor
