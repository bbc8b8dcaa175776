/- A walk's result as cells, and how the program lays them. -/
import Derived.Test.YtndjhedoandinaaGreatDoorWalkB
import Derived.Test.YtndjhedoandinaaGreatDoorRefWriteW
namespace Go.Proofs.YtndjhedoandinaaGreatDoor
open Go.RowKit Go.Maps

theorem pcs_len : ∀ L : WL, (pcs L).length = 2 * L.length
  | [] => rfl
  | p :: L => by simp only [pcs, List.length_cons, pcs_len L]; omega

def wayL (L : WL) (n : Nat) (lf ft : List Value) : List Value := pcs L ++ (List.replicate (8 - 2 * L.length) (Value.int .u64 0) ++ (.int .i64 (n : Nat) :: (lf ++ ft)))
def wayR (r : WL × Int × Int × Nat) : List Value := wayL r.1 r.1.length (leafL r.2) (faultL r.2)

theorem segA_app (A M C vs : List Value) (o : Nat) (hA : A.length = o) (hM : M.length = vs.length) : segA (A ++ (M ++ C)).toArray o vs = (A ++ (vs ++ C)).toArray := by
  subst hA
  unfold segA
  congr 1
  rw [List.take_left' rfl, List.drop_append, ← hM, List.append_assoc]
  congr 2
  rw [show A.length + M.length - A.length = M.length by omega, List.drop_eq_nil_of_le (show A.length ≤ A.length + M.length by omega), List.nil_append]
  exact List.drop_left' rfl

section
variable (L : WL) (n : Nat) (lf ft : List Value)
theorem wayL_step (a x : Nat) (hL : L.length ≤ 3) : segA (wayL L n lf ft).toArray (L.length * 2) [.int .u64 (a : Nat), .int .u64 (x : Nat)] = (wayL (L ++ [(a, x)]) n lf ft).toArray := by
  rw [Nat.mul_comm]
  have e : List.replicate (8 - 2 * L.length) (Value.int .u64 0) = [Value.int .u64 0, .int .u64 0] ++ List.replicate (8 - 2 * (L ++ [(a, x)]).length) (Value.int .u64 0) := by
    rw [List.length_append, show 8 - 2 * L.length = (8 - 2 * (L.length + [(a, x)].length)) + 1 + 1 by simp; omega]
    rfl
  unfold wayL
  rw [e, List.append_assoc, segA_app _ _ _ [.int .u64 (a : Nat), .int .u64 (x : Nat)] _ (pcs_len L) (show [Value.int .u64 0, .int .u64 0].length = 2 from rfl), pcs_append, List.append_assoc]
  rfl
theorem wayL_read (n' : Nat) (hL : L.length ≤ 4) : segA (wayL L n lf ft).toArray 8 [.int .i64 (n' : Nat)] = (wayL L n' lf ft).toArray := by
  unfold wayL
  rw [← List.append_assoc, show (Value.int .i64 (n : Nat) :: (lf ++ ft)) = [Value.int .i64 (n : Nat)] ++ (lf ++ ft) from rfl, segA_app _ _ _ [.int .i64 (n' : Nat)] _ (by simp [pcs_len]; omega) (show [Value.int .i64 (n : Nat)].length = 1 from rfl), List.append_assoc]
  rfl
theorem wayL_leaf (lf' : List Value) (hL : L.length ≤ 4) (h : lf.length = lf'.length) : segA (wayL L n lf ft).toArray 9 lf' = (wayL L n lf' ft).toArray := by
  have e : ∀ q : List Value, wayL L n q ft = (pcs L ++ List.replicate (8 - 2 * L.length) (Value.int .u64 0) ++ [Value.int .i64 (n : Nat)]) ++ (q ++ ft) := fun q => by unfold wayL; simp
  rw [e, e, segA_app _ _ _ _ _ (by simp [pcs_len]; omega) h]
theorem wayL_fault (ft' : List Value) (hL : L.length ≤ 4) (hl : lf.length = 8) (h : ft.length = ft'.length) : segA (wayL L n lf ft).toArray 17 ft' = (wayL L n lf ft').toArray := by
  have e : ∀ q : List Value, wayL L n lf q = (pcs L ++ List.replicate (8 - 2 * L.length) (Value.int .u64 0) ++ [Value.int .i64 (n : Nat)] ++ lf) ++ (q ++ []) := fun q => by unfold wayL; simp
  rw [e, e, segA_app _ _ _ _ _ (by simp [pcs_len, hl]; omega) h]
theorem wayL_len (hL : L.length ≤ 4) (hl : lf.length = 8) (hf : ft.length = 2) : (wayL L n lf ft).length = 19 := by
  unfold wayL; simp [pcs_len, hl, hf]; omega
theorem wayL_size (hL : L.length ≤ 4) (hl : lf.length = 8) (hf : ft.length = 2) : (wayL L n lf ft).toArray.size = 19 := (List.size_toArray ..).trans (wayL_len L n lf ft hL hl hf)
theorem wayL_n (hL : L.length ≤ 4) : (wayL L n lf ft)[8]? = some (.int .i64 (n : Nat)) := by
  unfold wayL
  rw [← List.append_assoc, List.getElem?_append_right (by simp [pcs_len]; omega)]
  have : 8 - (pcs L ++ List.replicate (8 - 2 * L.length) (Value.int IntKind.u64 0)).length = 0 := by simp [pcs_len]; omega
  rw [this]; rfl
theorem pcs_one : ∀ L : WL, ∀ v ∈ pcs L, v.oneCell' = true
  | [], v, h => by cases h
  | p :: L, v, h => by
    simp only [pcs, List.mem_cons] at h
    rcases h with rfl | rfl | h
    · rfl
    · rfl
    · exact pcs_one L v h
theorem wayL_one (h1 : ∀ v ∈ lf, v.oneCell' = true) (h2 : ∀ v ∈ ft, v.oneCell' = true) : (wayL L n lf ft).toArray.all (·.oneCell') = true := by
  refine all_oneCell_toArray fun v hv => ?_
  unfold wayL at hv
  simp only [List.mem_append, List.mem_cons, List.mem_replicate] at hv
  rcases hv with h | h | h | h | h
  · exact pcs_one L v h
  · rw [h.2]; rfl
  · rw [h]; rfl
  · exact h1 v h
  · exact h2 v h
end
theorem one_zL : ∀ v ∈ zL, v.oneCell' = true := by simp [zL, zD, Value.oneCell']
theorem one_zF : ∀ v ∈ zF, v.oneCell' = true := by simp [zF, Value.oneCell']
theorem one_leaf (l : Int) (x : Nat) : ∀ v ∈ Value.int .i64 l :: d7 l x, v.oneCell' = true := by simp [d7, Value.oneCell']
theorem one_two (k l : Int) : ∀ v ∈ [Value.int .i64 k, .int .i64 l], v.oneCell' = true := by simp [Value.oneCell']
theorem info_way : (Tryz.prog.info? 193).map (·.size) = some 19 := by kernel_rfl
theorem info_leaf : (Tryz.prog.info? 62).map (·.size) = some 8 := by kernel_rfl
theorem info_step : (Tryz.prog.info? 81).map (·.size) = some 2 := by kernel_rfl
theorem info_int : (Tryz.prog.info? 3).map (·.size) = some 1 := by kernel_rfl

theorem rdO_mod (x : Nat) : rdO x % 4096 = 0 := by
  unfold rdO
  split
  · rfl
  · show outV x % 4096 = 0
    have h := mask_mod (l := 12) (n := 36) (by decide) x
    unfold outV
    have h2 : x &&& maskV 12 36 = x / 2 ^ 12 % 2 ^ 36 * 2 ^ 12 := h
    rw [h2]
    exact Nat.mul_mod_left _ _

/-- A walk that isn't begun. -/
theorem wayR_none : wayR ([], 1, 0, 0) = wayL [] 0 zL [.int .i64 1, .int .i64 0] := rfl

set_option maxHeartbeats 2000000 in
theorem follow_bad (l : Int) (tb va : Nat) (htl : tb < 18446744073709551616) (h : isTab l tb = false ∨ (isTab l tb = true ∧ lowB va = false)) (v : Value) (w : World) :
    Calls Tryz.prog 107 #[v, .int .i64 l, .int .u64 tb, .int .u64 va] w fun e w' => e = .returned (.agg (wayR ([], 1, 0, 0)).toArray) ∧ Below w.heap.size w w' := by
  rw [wayR_none]
  go_enter Tryz.func107, Tryz.ntmps107
  go_wp2_with fail
  refine (isTable_any l tb htl _).mono ?_
  rintro e w1 ⟨rfl, hw1⟩
  have h8 : w1.heap[w.heap.size]? = some (.cells (wayL [] 0 zL zF).toArray 193 (0, 0)) := by rw [← hw1]; exact heap_alloc2_old _ _ _
  have h9 : w1.heap[w.heap.size + 1]? = some (.cells (wayL [] 0 zL zF).toArray 193 (0, 0)) := by rw [← hw1]; exact heap_alloc2_new _ _ _
  have hB : Below w.heap.size w w1 := by rw [← hw1]; exact below_tr (below_new _ _) (below_new _ _)
  clear hw1
  rcases h with h | ⟨h, h'⟩
  all_goals
    rw [h]
    go_wp2_with (first
      | (go_at_call 128; refine (low_any va _).mono ?_; rintro e w2 ⟨rfl, rfl⟩; rw [h'])
      | (refine wpList_store_seg rfl 48 _ _ rfl (w.heap.size + 1) 17 _ #[.int .i64 1, .int .i64 0] rfl rfl rfl 193 _ h9 (Nat.le_refl 19) info_fault (two_one 1 0) _ (wayL_fault [] 0 zL zF [.int .i64 1, .int .i64 0] (by decide) rfl rfl) ?_
         intro w2 k9 ht
         have k8 := block_turn ht h8 (by omega)
         have hB2 := below_turn hB ht (by omega)
         clear ht h8 h9 hB)
      | (refine wpList_load_row rfl 193 _ rfl (w.heap.size + 1) rfl _ _ _ _ k9 Tryz.underlying193 rfl info_way ?_)
      | (refine wpList_store_row rfl 193 _ _ rfl w.heap.size (wayL [] 0 zL [.int .i64 1, .int .i64 0]).toArray rfl rfl 193 _ k8 info_way rfl (wayL_one _ _ _ _ one_zL (one_two _ _)) ?_))
    refine bodyPost_ret (v := .agg (wayL [] 0 zL [.int .i64 1, .int .i64 0]).toArray) ?_ rfl ⟨rfl, below_setRow hB2 (Nat.le_refl _) _⟩
    exact results_cell_row rfl _ _ w.heap.size 193 _ _ _ rfl (setRow_heap _ _ _ _ _ _ k8) Tryz.underlying193 rfl info_way
end Go.Proofs.YtndjhedoandinaaGreatDoor
