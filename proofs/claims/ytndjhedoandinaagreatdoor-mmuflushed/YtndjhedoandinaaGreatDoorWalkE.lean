/- The walks of package walk, fourth part: From, Walk, Out. -/
import Derived.Test.YtndjhedoandinaaGreatDoorWalkD
namespace Go.Proofs.YtndjhedoandinaaGreatDoor
open Go.RowKit Go.Maps

theorem follow_any (l : Int) (tb va : Nat) (htl : tb < 18446744073709551616) {w : World} {X : Nat → Prop} {a S n : Nat} {f : Nat → Nat} (hM : MemAt w X a S n f) (hF : Flds w) :
    Calls Tryz.prog 107 #[.pointer (some ⟨a, 0, none⟩), .int .i64 l, .int .u64 tb, .int .u64 va] w fun e w' => e = .returned (.agg (wayR (wk0 S f l tb va)).toArray) ∧ Below w.heap.size w w' := by
  by_cases h : isLv l = true ∧ tb % 4096 = 0 ∧ va < 281474976710656
  · rw [show wk0 S f l tb va = wk S f va (4 - l).toNat tb from if_pos h]
    exact follow_ok l tb va h.1 h.2.1 htl h.2.2 hM hF
  · rw [show wk0 S f l tb va = ([], 1, 0, 0) from if_neg h]
    refine follow_bad l tb va htl ?_ _ w
    cases hT : isTab l tb
    · exact Or.inl rfl
    · refine Or.inr ⟨rfl, ?_⟩
      unfold isTab at hT
      rw [Bool.and_eq_true] at hT
      exact decide_eq_false fun c => h ⟨hT.1, of_decide_eq_true hT.2, c⟩

/-- A walk has at most four words. -/
theorem wk_len (S : Nat) (f : Nat → Nat) (va : Nat) : ∀ k tb, (wk S f va k tb).1.length ≤ k
  | 0, _ => by unfold wk; exact Nat.le_refl _
  | k + 1, tb => by
    unfold wk
    simp only
    split
    · exact Nat.zero_le _
    · split
      · simp
      · split
        · simp
        · have := wk_len S f va k (rdO (f (tb + 8 * idxN va (3 - k))))
          simp only [List.length_cons]; omega
theorem wk0_len (S : Nat) (f : Nat → Nat) (l : Int) (tb va : Nat) : (wk0 S f l tb va).1.length ≤ 4 := by
  unfold wk0
  split
  · rename_i h
    have h1 := isLv_of h.1
    have := wk_len S f va (4 - l).toNat tb
    omega
  · exact Nat.zero_le _

theorem leaf_form (r : Int × Int × Nat) : ∃ (ll k : Int) (o : Nat) (u rr x s : Bool) (a : Int), leafL r = [.int .i64 ll, .int .i64 k, .int .u64 (o : Nat), .bool u, .bool rr, .bool x, .bool s, .int .i64 a] := by
  unfold leafL
  split
  · exact ⟨_, _, _, _, _, _, _, _, rfl⟩
  · exact ⟨0, 0, 0, false, false, false, false, 0, rfl⟩
theorem fault_form (r : Int × Int × Nat) : ∃ k l : Int, faultL r = [.int .i64 k, .int .i64 l] := by
  unfold faultL
  split
  · exact ⟨0, 0, rfl⟩
  · exact ⟨_, _, rfl⟩

theorem wayL_at (L : WL) (n : Nat) (lf ft : List Value) (hL : L.length ≤ 4) (j : Nat) : (wayL L n lf ft)[9 + j]? = (lf ++ ft)[j]? := by
  unfold wayL
  rw [← List.append_assoc, List.getElem?_append_right (by simp [pcs_len]; omega)]
  have : 9 + j - (pcs L ++ List.replicate (8 - 2 * L.length) (Value.int IntKind.u64 0)).length = j + 1 := by simp [pcs_len]; omega
  rw [this]; rfl

theorem cells8 {w1 : World} {g t : Nat} {c0 c1 c2 c3 c4 c5 c6 c7 : Value} (hh : w1.heap[g]? = some (.cells #[c0, c1, c2, c3, c4, c5, c6, c7] t (0, 0))) :
    (w1.cell? ⟨g, 0, none⟩ = some c0 ∧ w1.cell? ⟨g, 1, none⟩ = some c1 ∧ w1.cell? ⟨g, 2, none⟩ = some c2 ∧ w1.cell? ⟨g, 3, none⟩ = some c3 ∧ w1.cell? ⟨g, 4, none⟩ = some c4 ∧ w1.cell? ⟨g, 5, none⟩ = some c5 ∧ w1.cell? ⟨g, 6, none⟩ = some c6 ∧ w1.cell? ⟨g, 7, none⟩ = some c7) ∧
    ∀ i, w1.frozen? ⟨g, i, none⟩ = false := by
  refine ⟨⟨?_, ?_, ?_, ?_, ?_, ?_, ?_, ?_⟩, fun i => frozen_of_row _ _ _ _ _ hh⟩
  all_goals (rw [cell_of_row _ _ _ _ _ _ hh]; rfl)
theorem segA_whole (cur : Array Value) (vs : List Value) (h : vs.length = cur.size) : segA cur 0 vs = vs.toArray := by
  unfold segA
  rw [List.take_zero, List.nil_append, Nat.zero_add, List.drop_eq_nil_of_le (by rw [Array.length_toList]; omega), List.append_nil]
theorem row8 {w1 : World} {g t : Nat} {c0 c1 c2 c3 c4 c5 c6 c7 : Value} (v0 v1 v2 v3 v4 v5 v6 v7 : Value) (hh : w1.heap[g]? = some (.cells #[c0, c1, c2, c3, c4, c5, c6, c7] t (0, 0))) :
    ((((((((w1.setCell ⟨g, 0, none⟩ v0).setCell ⟨g, 1, none⟩ v1).setCell ⟨g, 2, none⟩ v2).setCell ⟨g, 3, none⟩ v3).setCell ⟨g, 4, none⟩ v4).setCell ⟨g, 5, none⟩ v5).setCell ⟨g, 6, none⟩ v6).setCell ⟨g, 7, none⟩ v7).heap[g]? = some (.cells #[v0, v1, v2, v3, v4, v5, v6, v7] t (0, 0)) := by
  have h0 := heap_setCell_same _ g 0 _ _ v0 hh
  simp only [List.setIfInBounds_toArray, List.set_cons_zero] at h0
  have h1 := heap_setCell_same _ g 1 _ _ v1 h0
  simp only [List.setIfInBounds_toArray, List.set_cons_zero, List.set_cons_succ] at h1
  have h2 := heap_setCell_same _ g 2 _ _ v2 h1
  simp only [List.setIfInBounds_toArray, List.set_cons_zero, List.set_cons_succ] at h2
  have h3 := heap_setCell_same _ g 3 _ _ v3 h2
  simp only [List.setIfInBounds_toArray, List.set_cons_zero, List.set_cons_succ] at h3
  have h4 := heap_setCell_same _ g 4 _ _ v4 h3
  simp only [List.setIfInBounds_toArray, List.set_cons_zero, List.set_cons_succ] at h4
  have h5 := heap_setCell_same _ g 5 _ _ v5 h4
  simp only [List.setIfInBounds_toArray, List.set_cons_zero, List.set_cons_succ] at h5
  have h6 := heap_setCell_same _ g 6 _ _ v6 h5
  simp only [List.setIfInBounds_toArray, List.set_cons_zero, List.set_cons_succ] at h6
  have h7 := heap_setCell_same _ g 7 _ _ v7 h6
  simp only [List.setIfInBounds_toArray, List.set_cons_zero, List.set_cons_succ] at h7
  exact h7
theorem row2' {w1 : World} {g t : Nat} {c0 c1 : Value} (v0 v1 : Value) (hh : w1.heap[g]? = some (.cells #[c0, c1] t (0, 0))) :
    ((w1.setCell ⟨g, 0, none⟩ v0).setCell ⟨g, 1, none⟩ v1).heap[g]? = some (.cells #[v0, v1] t (0, 0)) := by
  have h0 := heap_setCell_same _ g 0 _ _ v0 hh
  simp only [List.setIfInBounds_toArray, List.set_cons_zero] at h0
  have h1 := heap_setCell_same _ g 1 _ _ v1 h0
  simp only [List.setIfInBounds_toArray, List.set_cons_zero, List.set_cons_succ] at h1
  exact h1
theorem other8 {w1 : World} {g g' : Nat} (hne : g' ≠ g) (v0 v1 v2 v3 v4 v5 v6 v7 : Value) :
    ((((((((w1.setCell ⟨g, 0, none⟩ v0).setCell ⟨g, 1, none⟩ v1).setCell ⟨g, 2, none⟩ v2).setCell ⟨g, 3, none⟩ v3).setCell ⟨g, 4, none⟩ v4).setCell ⟨g, 5, none⟩ v5).setCell ⟨g, 6, none⟩ v6).setCell ⟨g, 7, none⟩ v7).heap[g']? = w1.heap[g']? := by
  repeat rw [heap_setCell_other _ _ _ _ hne]
theorem below8 {w w1 : World} {B g : Nat} (hB : Below B w w1) (hg : B ≤ g) (v0 v1 v2 v3 v4 v5 v6 v7 : Value) :
    Below B w ((((((((w1.setCell ⟨g, 0, none⟩ v0).setCell ⟨g, 1, none⟩ v1).setCell ⟨g, 2, none⟩ v2).setCell ⟨g, 3, none⟩ v3).setCell ⟨g, 4, none⟩ v4).setCell ⟨g, 5, none⟩ v5).setCell ⟨g, 6, none⟩ v6).setCell ⟨g, 7, none⟩ v7) :=
  (((((((hB.setCell hg _).setCell hg _).setCell hg _).setCell hg _).setCell hg _).setCell hg _).setCell hg _).setCell hg _

theorem below2 (w : World) (o1 o2 : Obj) : Below w.heap.size w ((w.alloc o1).alloc o2) := below_tr (below_new _ _) (below_new _ _)

set_option maxHeartbeats 4000000 in
theorem from_any (l : Int) (tb va : Nat) (htl : tb < 18446744073709551616) {w : World} {X : Nat → Prop} {a S n : Nat} {f : Nat → Nat} (hM : MemAt w X a S n f) (hF : Flds w) :
    Calls Tryz.prog 62 #[.pointer (some ⟨a, 0, none⟩), .int .i64 l, .int .u64 tb, .int .u64 va] w fun e w' => e = .returned (.tuple #[.agg (leafL (wk0 S f l tb va).2).toArray, .agg (faultL (wk0 S f l tb va).2).toArray]) ∧ Below w.heap.size w w' := by
  have hC := fun w1 (hm : MemAt w1 X a S n f) (hf : Flds w1) => follow_any l tb va htl hm hf
  have hL4 := wk0_len S f l tb va
  generalize wk0 S f l tb va = r at *
  obtain ⟨ll, k, o, u, rr, x, s, at', hlf⟩ := leaf_form r.2
  obtain ⟨fk, fl, hft⟩ := fault_form r.2
  unfold wayR at hC
  rw [hlf, hft] at hC ⊢
  have hWl := wayL_len r.1 r.1.length [.int .i64 ll, .int .i64 k, .int .u64 (o : Nat), .bool u, .bool rr, .bool x, .bool s, .int .i64 at'] [.int .i64 fk, .int .i64 fl] hL4 rfl rfl
  have hW1 := wayL_one r.1 r.1.length [.int .i64 ll, .int .i64 k, .int .u64 (o : Nat), .bool u, .bool rr, .bool x, .bool s, .int .i64 at'] [.int .i64 fk, .int .i64 fl] (by simp [Value.oneCell']) (one_two _ _)
  have hWa := wayL_at r.1 r.1.length [.int .i64 ll, .int .i64 k, .int .u64 (o : Nat), .bool u, .bool rr, .bool x, .bool s, .int .i64 at'] [.int .i64 fk, .int .i64 fl] hL4
  generalize (wayL r.1 r.1.length [.int .i64 ll, .int .i64 k, .int .u64 (o : Nat), .bool u, .bool rr, .bool x, .bool s, .int .i64 at'] [.int .i64 fk, .int .i64 fl]) = W at *
  have hWs : W.toArray.size = 19 := (List.size_toArray ..).trans hWl
  have hWg : segA (wayL [] 0 zL zF).toArray 0 W.toArray.toList = W.toArray := segA_whole _ _ (by rw [List.toList_toArray, hWl]; rfl)
  have HWa := Hid.mk hWa
  clear hWa hlf hft
  go_enter Tryz.func62, Tryz.ntmps62
  go_wp2_with fail
  refine (hC _ (hM.below (below2 _ _ _)) (hF.later (below2 _ _ _))).mono ?_
  rintro e w1 ⟨rfl, hb⟩
  have hB : Below w.heap.size w w1 := below_tr (below2 _ _ _) hb
  have h8 : w1.heap[w.heap.size]? = some (.cells zL.toArray 62 (0, 0)) := block_later hb (heap_alloc2_old _ _ _)
  have h9 : w1.heap[w.heap.size + 1]? = some (.cells zF.toArray 48 (0, 0)) := block_later hb (heap_alloc2_new _ _ _)
  clear hb hC hM hF
  go_wp2_with (first
    | (refine wpList_store_seg rfl 193 _ _ rfl w1.heap.size 0 _ W.toArray rfl rfl rfl 193 (wayL [] 0 zL zF).toArray (heap_alloc_new _ _) (by rw [hWs]; exact Nat.le_refl 19) (by rw [hWs]; exact info_way) hW1 W.toArray hWg ?_
       intro w2 k10 ht
       have k8 := block_turn ht (block_later (below_new _ _) h8) (Nat.ne_of_lt (block_lt h8))
       have k9 := block_turn ht (block_later (below_new _ _) h9) (Nat.ne_of_lt (block_lt h9))
       have hB2 := below_turn (below_tr hB (below_new _ _)) ht hB.size
       have hs := block_lt h9
       clear ht h8 h9 hB)
    | fail)
  have q : ∀ j v, ([Value.int .i64 ll, .int .i64 k, .int .u64 (o : Nat), .bool u, .bool rr, .bool x, .bool s, .int .i64 at', .int .i64 fk, .int .i64 fl] : List Value)[j]? = some v → w2.cell? ⟨w1.heap.size, 9 + j, none⟩ = some v := fun j v hv => by
    rw [cell_of_row _ _ _ _ _ _ k10, List.getElem?_toArray, HWa.out]; exact hv
  have q0 := q 0 _ rfl
  have q1 := q 1 _ rfl
  have q2 := q 2 _ rfl
  have q3 := q 3 _ rfl
  have q4 := q 4 _ rfl
  have q5 := q 5 _ rfl
  have q6 := q 6 _ rfl
  have q7 := q 7 _ rfl
  have q8 := q 8 _ rfl
  have q9 := q 9 _ rfl
  have k8' : w2.heap[w.heap.size]? = some (.cells #[.int .i64 0, .int .i64 0, .int .u64 0, .bool false, .bool false, .bool false, .bool false, .int .i64 0] 62 (0, 0)) := k8
  have k9' : w2.heap[w.heap.size + 1]? = some (.cells #[.int .i64 0, .int .i64 0] 48 (0, 0)) := k9
  obtain ⟨⟨a0, a1, a2, a3, a4, a5, a6, a7⟩, af⟩ := cells8 k8'
  obtain ⟨b0, b1, bf0, bf1⟩ := row2_facts k9'
  have K8 := Hid.mk k8'
  have K9 := Hid.mk k9'
  have HB := Hid.mk hB2
  clear q k8 k9 k8' k9' k10 hB2
  go_region
  all_goals go_wp2
  all_goals
    have hB9 := ((below8 HB.out (Nat.le_refl _) (.int .i64 ll) (.int .i64 k) (.int .u64 (o : Nat)) (.bool u) (.bool rr) (.bool x) (.bool s) (.int .i64 at')).setCell (p := ⟨w.heap.size + 1, 0, none⟩) (by simp) (.int .i64 fk)).setCell (p := ⟨w.heap.size + 1, 1, none⟩) (by simp) (.int .i64 fl)
    have r8 := row8 (.int .i64 ll) (.int .i64 k) (.int .u64 (o : Nat)) (.bool u) (.bool rr) (.bool x) (.bool s) (.int .i64 at') K8.out
    have r9 := (other8 (w1 := w2) (g := w.heap.size) (g' := w.heap.size + 1) (by omega) (.int .i64 ll) (.int .i64 k) (.int .u64 (o : Nat)) (.bool u) (.bool rr) (.bool x) (.bool s) (.int .i64 at')).trans K9.out
    generalize ((((((((w2.setCell ⟨w.heap.size, 0, none⟩ (.int .i64 ll)).setCell ⟨w.heap.size, 1, none⟩ (.int .i64 k)).setCell ⟨w.heap.size, 2, none⟩ (.int .u64 (o : Nat))).setCell ⟨w.heap.size, 3, none⟩ (.bool u)).setCell ⟨w.heap.size, 4, none⟩ (.bool rr)).setCell ⟨w.heap.size, 5, none⟩ (.bool x)).setCell ⟨w.heap.size, 6, none⟩ (.bool s)).setCell ⟨w.heap.size, 7, none⟩ (.int .i64 at')) = w3 at *
    have r9' := row2' (.int .i64 fk) (.int .i64 fl) r9
    have r8' := (heap_setCell_other (w3.setCell ⟨w.heap.size + 1, 0, none⟩ (.int .i64 fk)) ⟨w.heap.size + 1, 1, none⟩ w.heap.size (.int .i64 fl) (by simp)).trans ((heap_setCell_other w3 ⟨w.heap.size + 1, 0, none⟩ w.heap.size (.int .i64 fk) (by simp)).trans r8)
    generalize ((w3.setCell ⟨w.heap.size + 1, 0, none⟩ (.int .i64 fk)).setCell ⟨w.heap.size + 1, 1, none⟩ (.int .i64 fl)) = w4 at *
    refine bodyPost_ret (v := .tuple #[.agg #[.int .i64 ll, .int .i64 k, .int .u64 (o : Nat), .bool u, .bool rr, .bool x, .bool s, .int .i64 at'], .agg #[.int .i64 fk, .int .i64 fl]]) ?_ rfl ⟨rfl, hB9.drew⟩
    exact results_row_row (p := 8) (q := 9) rfl _ w4.drew w.heap.size (w.heap.size + 1) 62 48 _ _ (0, 0) (0, 0) _ _ rfl r8' Tryz.underlying62 rfl info_leaf rfl r9' Tryz.underlying48 rfl info_fault

set_option maxHeartbeats 1000000 in
theorem walk_any (tb va : Nat) (htl : tb < 18446744073709551616) {w : World} {X : Nat → Prop} {a S n : Nat} {f : Nat → Nat} (hM : MemAt w X a S n f) (hF : Flds w) :
    Calls Tryz.prog 22 #[.pointer (some ⟨a, 0, none⟩), .int .u64 tb, .int .u64 va] w fun e w' => e = .returned (.tuple #[.agg (leafL (wk0 S f 0 tb va).2).toArray, .agg (faultL (wk0 S f 0 tb va).2).toArray]) ∧ Below w.heap.size w w' := by
  have hC := fun w1 (hm : MemAt w1 X a S n f) (hf : Flds w1) => from_any 0 tb va htl hm hf
  generalize (wk0 S f 0 tb va).2 = r at *
  have l1 := leafL_one r
  have f1 := faultL_one r
  have l2 : (leafL r).toArray.size = 8 := leafL_len r
  have f2 : (faultL r).toArray.size = 2 := faultL_len r
  have l3 : segA zL.toArray 0 (leafL r).toArray.toList = (leafL r).toArray := segA_whole _ _ (by rw [List.toList_toArray, leafL_len]; rfl)
  have f3 : segA zF.toArray 0 (faultL r).toArray.toList = (faultL r).toArray := segA_whole _ _ (by rw [List.toList_toArray, faultL_len]; rfl)
  generalize leafL r = LF at *
  generalize faultL r = FT at *
  go_enter Tryz.func22, Tryz.ntmps22
  go_wp2_with fail
  refine (hC _ (hM.below (below2 _ _ _)) (hF.later (below2 _ _ _))).mono ?_
  rintro e w1 ⟨rfl, hb⟩
  have hB : Below w.heap.size w w1 := below_tr (below2 _ _ _) hb
  have h8 : w1.heap[w.heap.size]? = some (.cells zL.toArray 62 (0, 0)) := block_later hb (heap_alloc2_old _ _ _)
  have h9 : w1.heap[w.heap.size + 1]? = some (.cells zF.toArray 48 (0, 0)) := block_later hb (heap_alloc2_new _ _ _)
  clear hb hC hM hF
  go_wp2_with (first
    | (refine wpList_store_seg rfl 62 _ _ rfl w.heap.size 0 _ LF.toArray rfl rfl rfl 62 _ h8 (by rw [l2]; exact Nat.le_refl 8) (by rw [l2]; exact info_leaf) l1 LF.toArray l3 ?_
       intro w2 k8 ht
       have k9 := block_turn ht h9 (by omega)
       have hB2 := below_turn hB ht (Nat.le_refl _)
       clear ht h8 h9 hB)
    | (refine wpList_store_seg rfl 48 _ _ rfl (w.heap.size + 1) 0 _ FT.toArray rfl rfl rfl 48 _ k9 (by rw [f2]; exact Nat.le_refl 2) (by rw [f2]; exact info_fault) f1 FT.toArray f3 ?_
       intro w3 r9 ht
       have r8 := block_turn ht k8 (by omega)
       have hB3 := below_turn hB2 ht (by omega)
       clear ht k8 k9 hB2))
  refine bodyPost_ret (v := .tuple #[.agg LF.toArray, .agg FT.toArray]) ?_ rfl ⟨rfl, hB3⟩
  exact results_row_row (p := 6) (q := 7) rfl _ _ w.heap.size (w.heap.size + 1) 62 48 _ _ _ _ _ _ rfl r8 Tryz.underlying62 rfl (by rw [l2]; exact info_leaf) rfl r9 Tryz.underlying48 rfl (by rw [f2]; exact info_fault)

set_option maxHeartbeats 1000000 in
/-- A leaf's Out, and an address's offset at its level. -/
theorem out_any (ll k : Int) (o : Nat) (u rr x s : Bool) (at' : Int) (va : Nat) (hv : va < 18446744073709551616) (ho : o + offV va ll < 18446744073709551616) (w : World) :
    Calls Tryz.prog 25 #[.agg #[.int .i64 ll, .int .i64 k, .int .u64 (o : Nat), .bool u, .bool rr, .bool x, .bool s, .int .i64 at'], .int .u64 va] w fun e w' => e = .returned (.int .u64 ((o + offV va ll : Nat) : Int)) ∧ Below w.heap.size w w' := by
  have hO := fun w => offset_any va ll hv w
  have hb : (o : Int) + (offV va ll : Int) < 18446744073709551616 := by omega
  generalize offV va ll = q at *
  go_enter Tryz.func25, Tryz.ntmps25
  go_wp2
  go_quiet ((refine Calls.quiet_of_same ((hO _).mono (fun e w1 hh => ⟨hh.1, hh.2.symm⟩))))
  go_wp2
  go_ret
  exact ⟨by rw [Int.natCast_add]; rfl, below_tr (below_new _ _) (below_drewN ⟨_, rfl⟩)⟩

end Go.Proofs.YtndjhedoandinaaGreatDoor
