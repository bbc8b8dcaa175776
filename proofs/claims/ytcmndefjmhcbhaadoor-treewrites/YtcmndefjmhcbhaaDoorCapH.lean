/- Capabilities: the parts of a first word; Words. -/
import Derived.Test.YtcmndefjmhcbhaaDoorCapG
import Derived.OwnWalk
set_option linter.unusedVariables false
namespace Go.Proofs.YtcmndefjmhcbhaaDoor
open Go.RowKit

theorem mask_mod {l n : Nat} (h : rightB (l : Int) (n : Int) = true) (x : Nat) : x &&& maskV l n = x / 2 ^ l % 2 ^ n * 2 ^ l := by
  apply Nat.eq_of_testBit_eq
  intro i
  rw [Nat.testBit_and, maskV_testBit h, testBit_mul_pow, Nat.testBit_mod_two_pow, Nat.testBit_div_two_pow]
  by_cases hi : l ≤ i
  · have e : (i - l) + l = i := by omega
    rw [e, decide_eq_true hi, Bool.true_and, Bool.and_comm]
    congr 1
    rw [decide_eq_decide]; omega
  · rw [decide_eq_false hi, decide_eq_false (by omega), Bool.and_false, Bool.false_and]
theorem andn_mod {l n : Nat} (h : rightB (l : Int) (n : Int) = true) (x : Nat) (hx : x < 18446744073709551616) : andn x (maskV l n) = x / 2 ^ (l + n) * 2 ^ (l + n) + x % 2 ^ l := by
  have hr := right_nat h
  have hlt : x % 2 ^ l < 2 ^ (l + n) := Nat.lt_of_lt_of_le (Nat.mod_lt _ (Nat.two_pow_pos _)) (Nat.pow_le_pow_right (by omega) (by omega))
  rw [Nat.mul_comm, Nat.two_pow_add_eq_or_of_lt hlt]
  apply Nat.eq_of_testBit_eq
  intro i
  rw [andn_testBit _ _ _ (maskV_lt _ _), maskV_testBit h, Nat.testBit_or, Nat.mul_comm, testBit_mul_pow, Nat.testBit_div_two_pow, Nat.testBit_mod_two_pow]
  by_cases h1 : i < l
  · rw [decide_eq_true h1, decide_eq_true (show i < 64 by omega), decide_eq_false (show ¬ (l ≤ i ∧ i < l + n) by omega), decide_eq_false (show ¬ l + n ≤ i by omega)]
    simp
  · rw [decide_eq_false h1]
    by_cases h2 : l + n ≤ i
    · have e : (i - (l + n)) + (l + n) = i := by omega
      rw [e, decide_eq_true h2, decide_eq_false (show ¬ (l ≤ i ∧ i < l + n) by omega)]
      by_cases h3 : i < 64
      · rw [decide_eq_true h3]; simp
      · rw [high_bit x i hx (by omega)]; simp
    · rw [decide_eq_false h2, decide_eq_true (show (l ≤ i ∧ i < l + n) by omega)]; simp
theorem putX_mod {l n : Nat} (h : rightB (l : Int) (n : Int) = true) {v : Nat} (hv : v < 2 ^ n) (x : Nat) (hx : x < 18446744073709551616) : putX l n x v = x / 2 ^ (l + n) * 2 ^ (l + n) + v * 2 ^ l + x % 2 ^ l := by
  have hlt : x % 2 ^ l < 2 ^ l := Nat.mod_lt _ (Nat.two_pow_pos _)
  rw [putX_eq h hv, andn_mod h x hx, Int.toNat_natCast]
  have e1 : x / 2 ^ (l + n) * 2 ^ (l + n) + x % 2 ^ l = 2 ^ l * (x / 2 ^ (l + n) * 2 ^ n) + x % 2 ^ l := by
    rw [Nat.pow_add, Nat.mul_comm (2 ^ l) (_ * _), Nat.mul_assoc, Nat.mul_comm (2 ^ n) (2 ^ l)]
  have e2 : x / 2 ^ (l + n) * 2 ^ (l + n) + v * 2 ^ l + x % 2 ^ l = 2 ^ l * (2 ^ n * (x / 2 ^ (l + n)) + v) + x % 2 ^ l := by
    rw [Nat.mul_add, ← Nat.mul_assoc, ← Nat.pow_add, Nat.mul_comm (2 ^ (l + n)), Nat.mul_comm v]
  rw [e1, e2, Nat.two_pow_add_eq_or_of_lt hlt, Nat.two_pow_add_eq_or_of_lt hlt, Nat.two_pow_add_eq_or_of_lt hv]
  apply Nat.eq_of_testBit_eq
  intro i
  simp only [Nat.testBit_or, Nat.testBit_two_pow_mul, testBit_mul_pow, ge_iff_le]
  cases decide (l ≤ i) <;> cases v.testBit (i - l) <;> cases (x % 2 ^ l).testBit i <;> cases (decide (n ≤ i - l) && (x / 2 ^ (l + n)).testBit (i - l - n)) <;> rfl

/-- The parts lie as the program declares them. -/
structure Prts (w : World) : Prop where
  a0 : w.cell? ⟨2, 0, none⟩ = some (.int .i64 0)
  a1 : w.cell? ⟨2, 1, none⟩ = some (.int .i64 4)
  a2 : w.cell? ⟨2, 2, none⟩ = some (.int .i64 0)
  b0 : w.cell? ⟨4, 0, none⟩ = some (.int .i64 4)
  b1 : w.cell? ⟨4, 1, none⟩ = some (.int .i64 6)
  b2 : w.cell? ⟨4, 2, none⟩ = some (.int .i64 0)
  c0 : w.cell? ⟨5, 0, none⟩ = some (.int .i64 10)
  c1 : w.cell? ⟨5, 1, none⟩ = some (.int .i64 3)
  c2 : w.cell? ⟨5, 2, none⟩ = some (.int .i64 0)
  d0 : w.cell? ⟨6, 0, none⟩ = some (.int .i64 13)
  d1 : w.cell? ⟨6, 1, none⟩ = some (.int .i64 6)
  d2 : w.cell? ⟨6, 2, none⟩ = some (.int .i64 0)
  e0 : w.cell? ⟨7, 0, none⟩ = some (.int .i64 19)
  e1 : w.cell? ⟨7, 1, none⟩ = some (.int .i64 16)
  e2 : w.cell? ⟨7, 2, none⟩ = some (.int .i64 0)
  f0 : w.cell? ⟨3, 0, none⟩ = some (.int .i64 35)
  f1 : w.cell? ⟨3, 1, none⟩ = some (.int .i64 27)
  f2 : w.cell? ⟨3, 2, none⟩ = some (.int .i64 5)
theorem Prts.later {w w' : World} (h : Prts w) (hb : Below w.heap.size w w') : Prts w' :=
  ⟨cell_later hb h.a0, cell_later hb h.a1, cell_later hb h.a2, cell_later hb h.b0, cell_later hb h.b1, cell_later hb h.b2, cell_later hb h.c0, cell_later hb h.c1, cell_later hb h.c2, cell_later hb h.d0, cell_later hb h.d1, cell_later hb h.d2, cell_later hb h.e0, cell_later hb h.e1, cell_later hb h.e2, cell_later hb h.f0, cell_later hb h.f1, cell_later hb h.f2⟩
theorem Prts.alloc {w : World} (h : Prts w) (o : Obj) : Prts (w.alloc o) := h.later (below_new w o)

set_option maxRecDepth 100000 in
set_option maxHeartbeats 4000000 in
theorem with_any (l n f x v : Nat) (hf : f ≤ 5) (hx : x < 18446744073709551616) (hv : v < 18446744073709551616) (w : World) :
    Calls Tryd.prog 84 #[.agg #[.int .i64 (l : Int), .int .i64 (n : Int), .int .i64 (f : Int)], .int .u64 (x : Nat), .int .u64 (v : Nat)] w fun e w' => e = .returned (.int .u64 ((putX l n x (v / 2 ^ f) : Nat) : Int)) ∧ Below w.heap.size w w' := by
  have cP := fun w1 => put_any (l : Int) (n : Int) x (v / 2 ^ f) hx w1
  rw [show (((v / 2 ^ f : Nat)) : Int) = (v : Int) / 2 ^ f by simp] at cP
  have hf0 : (0 : Int) ≤ (f : Int) := by omega
  have hf1 : f ≤ 64 := by omega
  generalize putX (l : Int) (n : Int) x (v / 2 ^ f) = N at *
  generalize putE (l : Int) (n : Int) (v / 2 ^ f) = E at *
  go_enter Tryd.func84, Tryd.ntmps84
  go_upto_region 1 with fail
  have gC := heap_alloc_new w (.cells #[.int .i64 (l : Int), .int .i64 (n : Int), .int .i64 (f : Int)] 114)
  have hB := below_new w (.cells #[.int .i64 (l : Int), .int .i64 (n : Int), .int .i64 (f : Int)] 114)
  generalize w.alloc (.cells #[.int .i64 (l : Int), .int .i64 (n : Int), .int .i64 (f : Int)] 114) = W at *
  have k0 : W.cell? ⟨w.heap.size, 0, none⟩ = some (.int .i64 (l : Int)) := by rw [cell_of_row _ _ _ _ _ _ gC]; rfl
  have k1 : W.cell? ⟨w.heap.size, 1, none⟩ = some (.int .i64 (n : Int)) := by rw [cell_of_row _ _ _ _ _ _ gC]; rfl
  have k2 : W.cell? ⟨w.heap.size, 2, none⟩ = some (.int .i64 (f : Int)) := by rw [cell_of_row _ _ _ _ _ _ gC]; rfl
  refine wp_region_noPanic ?_
  refine wp_region_held_drew (S := (fun w' => w'.cell? ⟨w.heap.size, 0, none⟩ = some (.int .i64 (l : Int)) ∧ w'.cell? ⟨w.heap.size, 1, none⟩ = some (.int .i64 (n : Int)) ∧ w'.cell? ⟨w.heap.size, 2, none⟩ = some (.int .i64 (f : Int)))) (by kernel_rfl) ?_ (fun hHeld => ?_)
  · exact ⟨cell_later (Below.refl _ _).drew k0, cell_later (Below.refl _ _).drew k1, cell_later (Below.refl _ _).drew k2⟩
  replace k0 := cell_later (Below.refl _ W).drew k0
  replace k1 := cell_later (Below.refl _ W).drew k1
  replace k2 := cell_later (Below.refl _ W).drew k2
  replace gC := block_later (Below.refl _ W).drew gC
  replace hB := below_tr hB (Below.refl _ W).drew
  generalize W.drew = Wd at *
  refine take_at (i := 0) (v := ?_) 8 rfl rfl (by kernel_rfl) (by kernel_rfl) (by kernel_rfl) (fun _ _ _ h => h) (Or.inl ⟨by rfl, ?_⟩) (by assumption) ?_
  rotate_left
  · (intro w' hSw; (try dsimp only at hSw); go_simp; all_goals with_reducible rfl)
  try simp only [Act.put, List.setIfInBounds_toArray, List.set_cons_zero, List.set_cons_succ]
  refine take_at (i := 1) (v := ?_) 9 rfl rfl (by kernel_rfl) (by kernel_rfl) (by kernel_rfl) (fun _ _ _ h => h) (Or.inl ⟨by rfl, ?_⟩) (by assumption) ?_
  rotate_left
  · (intro w' hSw; (try dsimp only at hSw); go_simp; all_goals with_reducible rfl)
  try simp only [Act.put, List.setIfInBounds_toArray, List.set_cons_zero, List.set_cons_succ]
  refine take_at (i := 2) (v := ?_) 10 rfl rfl (by kernel_rfl) (by kernel_rfl) (by kernel_rfl) (fun _ _ _ h => h) (Or.inl ⟨by rfl, ?_⟩) (by assumption) ?_
  rotate_left
  · (intro w' hSw; (try dsimp only at hSw); go_simp; all_goals with_reducible rfl)
  try simp only [Act.put, List.setIfInBounds_toArray, List.set_cons_zero, List.set_cons_succ]
  refine take_at (i := 3) (v := ?_) 11 rfl rfl (by kernel_rfl) (by kernel_rfl) (by kernel_rfl) (fun _ _ _ h => h) (Or.inl ⟨by rfl, ?_⟩) (by assumption) ?_
  rotate_left
  · (intro w' hSw; (try dsimp only at hSw); go_simp; all_goals with_reducible rfl)
  try simp only [Act.put, List.setIfInBounds_toArray, List.set_cons_zero, List.set_cons_succ]
  refine take_at (i := 4) (v := ?_) 12 rfl rfl (by kernel_rfl) (by kernel_rfl) (by kernel_rfl) (fun _ _ _ h => h) (Or.inl ⟨by rfl, ?_⟩) (by assumption) ?_
  rotate_left
  · (intro w' hSw; (try dsimp only at hSw); go_simp; all_goals with_reducible rfl)
  try simp only [Act.put, List.setIfInBounds_toArray, List.set_cons_zero, List.set_cons_succ]
  refine take_at (i := 5) (v := ?_) 13 rfl rfl (by kernel_rfl) (by kernel_rfl) (by kernel_rfl) (fun _ _ _ h => h) (Or.inl ⟨by rfl, ?_⟩) (by assumption) ?_
  rotate_left
  · (intro w' hSw; (try dsimp only at hSw); go_simp; all_goals with_reducible rfl)
  try simp only [Act.put, List.setIfInBounds_toArray, List.set_cons_zero, List.set_cons_succ]
  refine take_at (i := 6) (v := ?_) 14 rfl rfl (by kernel_rfl) (by kernel_rfl) (by kernel_rfl) (fun _ _ _ h => h) (Or.inl ⟨by rfl, ?_⟩) (by assumption) ?_
  rotate_left
  · (intro w' hSw; (try dsimp only at hSw); go_simp; all_goals with_reducible rfl)
  try simp only [Act.put, List.setIfInBounds_toArray, List.set_cons_zero, List.set_cons_succ]
  refine wpAnyH_ready (rs := [7]) (by kernel_rfl) (by simp) ?_
  refine AllReadyH.cons rfl (fun K hK => ?_) AllReadyH.nil
  go_simp
  refine (cP _).mono ?_
  rintro e wc1 ⟨rfl, hb⟩
  go_wp2_with fail
  replace k0 := cell_later hb k0
  replace k1 := cell_later hb k1
  replace k2 := cell_later hb k2
  replace gC := block_later hb gC
  replace hB := below_tr hB hb
  refine hK.out _ _ ⟨k0, k1, k2⟩ (fun hHeld1 => ?_)
  clear hK
  try simp only [Act.put, List.setIfInBounds_toArray, List.set_cons_zero, List.set_cons_succ]
  refine take_at (i := 8) (v := ?_) 7 rfl rfl (by kernel_rfl) (by kernel_rfl) (by kernel_rfl) (fun _ _ _ h => h) (Or.inl ⟨by rfl, ?_⟩) (by assumption) ?_
  rotate_left
  · (intro w' hSw; (try dsimp only at hSw); go_simp; all_goals with_reducible rfl)
  try simp only [Act.put, List.setIfInBounds_toArray, List.set_cons_zero, List.set_cons_succ]
  refine take_at (i := 9) (v := ?_) 16 rfl rfl (by kernel_rfl) (by kernel_rfl) (by kernel_rfl) (fun _ _ _ h => h) (Or.inl ⟨by rfl, ?_⟩) (by assumption) ?_
  rotate_left
  · (intro w' hSw; (try dsimp only at hSw); go_simp; all_goals with_reducible rfl)
  try simp only [Act.put, List.setIfInBounds_toArray, List.set_cons_zero, List.set_cons_succ]
  refine take_at (i := 11) (v := ?_) 1 rfl rfl (by kernel_rfl) (by kernel_rfl) (by kernel_rfl) (fun _ _ _ h => h) (Or.inl ⟨by rfl, ?_⟩) (by assumption) ?_
  rotate_left
  · (intro w' hSw; (try dsimp only at hSw); go_simp; all_goals with_reducible rfl)
  try simp only [Act.put, List.setIfInBounds_toArray, List.set_cons_zero, List.set_cons_succ]
  refine take_at (i := 10) (v := ?_) 17 rfl rfl (by kernel_rfl) (by kernel_rfl) (by kernel_rfl) (fun _ _ _ h => h) (Or.inl ⟨by rfl, ?_⟩) (by assumption) ?_
  rotate_left
  · (intro w' hSw; (try dsimp only at hSw); go_simp; all_goals with_reducible rfl)
  try simp only [Act.put, List.setIfInBounds_toArray, List.set_cons_zero, List.set_cons_succ]
  refine wpAnyH_done (by kernel_rfl) ?_ _
  refine NoPanic.normal ?_
  go_wp2
  go_ret
  exact ⟨rfl, hB⟩

set_option maxRecDepth 100000 in
set_option maxHeartbeats 4000000 in
theorem number_any (l n f x : Nat) (hf : f ≤ 5) (hx : x < 18446744073709551616) (hw : getV l n x * 2 ^ f < 18446744073709551616) (w : World) :
    Calls Tryd.prog 81 #[.agg #[.int .i64 (l : Int), .int .i64 (n : Int), .int .i64 (f : Int)], .int .u64 (x : Nat)] w fun e w' => e = .returned (.int .u64 ((getV l n x * 2 ^ f : Nat) : Int)) ∧ Below w.heap.size w w' := by
  have cP := fun w1 => get_any (l : Int) (n : Int) x hx w1
  have hf0 : (0 : Int) ≤ (f : Int) := by omega
  have hf1 : f ≤ 64 := by omega
  generalize getV (l : Int) (n : Int) x = N at *
  have HE : Hid (((N * 2 ^ f : Nat) : Int) = IntKind.u64.wrap ((N : Int) * 2 ^ f)) := by
    show _ = _
    rw [show ((N : Int) * 2 ^ f) = ((N * 2 ^ f : Nat) : Int) by simp, IntKind.wrap_u64]; omega
  clear hw
  go_enter Tryd.func81, Tryd.ntmps81
  go_upto_region 1 with fail
  have gC := heap_alloc_new w (.cells #[.int .i64 (l : Int), .int .i64 (n : Int), .int .i64 (f : Int)] 114)
  have hB := below_new w (.cells #[.int .i64 (l : Int), .int .i64 (n : Int), .int .i64 (f : Int)] 114)
  generalize w.alloc (.cells #[.int .i64 (l : Int), .int .i64 (n : Int), .int .i64 (f : Int)] 114) = W at *
  have k0 : W.cell? ⟨w.heap.size, 0, none⟩ = some (.int .i64 (l : Int)) := by rw [cell_of_row _ _ _ _ _ _ gC]; rfl
  have k1 : W.cell? ⟨w.heap.size, 1, none⟩ = some (.int .i64 (n : Int)) := by rw [cell_of_row _ _ _ _ _ _ gC]; rfl
  have k2 : W.cell? ⟨w.heap.size, 2, none⟩ = some (.int .i64 (f : Int)) := by rw [cell_of_row _ _ _ _ _ _ gC]; rfl
  refine wp_region_noPanic ?_
  refine wp_region_held_drew (S := (fun w' => w'.cell? ⟨w.heap.size, 0, none⟩ = some (.int .i64 (l : Int)) ∧ w'.cell? ⟨w.heap.size, 1, none⟩ = some (.int .i64 (n : Int)) ∧ w'.cell? ⟨w.heap.size, 2, none⟩ = some (.int .i64 (f : Int)))) (by kernel_rfl) ?_ (fun hHeld => ?_)
  · exact ⟨cell_later (Below.refl _ _).drew k0, cell_later (Below.refl _ _).drew k1, cell_later (Below.refl _ _).drew k2⟩
  replace k0 := cell_later (Below.refl _ W).drew k0
  replace k1 := cell_later (Below.refl _ W).drew k1
  replace k2 := cell_later (Below.refl _ W).drew k2
  replace gC := block_later (Below.refl _ W).drew gC
  replace hB := below_tr hB (Below.refl _ W).drew
  generalize W.drew = Wd at *
  refine take_at (i := 0) (v := ?_) 5 rfl rfl (by kernel_rfl) (by kernel_rfl) (by kernel_rfl) (fun _ _ _ h => h) (Or.inl ⟨by rfl, ?_⟩) (by assumption) ?_
  rotate_left
  · (intro w' hSw; (try dsimp only at hSw); go_simp; all_goals with_reducible rfl)
  try simp only [Act.put, List.setIfInBounds_toArray, List.set_cons_zero, List.set_cons_succ]
  refine take_at (i := 1) (v := ?_) 6 rfl rfl (by kernel_rfl) (by kernel_rfl) (by kernel_rfl) (fun _ _ _ h => h) (Or.inl ⟨by rfl, ?_⟩) (by assumption) ?_
  rotate_left
  · (intro w' hSw; (try dsimp only at hSw); go_simp; all_goals with_reducible rfl)
  try simp only [Act.put, List.setIfInBounds_toArray, List.set_cons_zero, List.set_cons_succ]
  refine take_at (i := 2) (v := ?_) 7 rfl rfl (by kernel_rfl) (by kernel_rfl) (by kernel_rfl) (fun _ _ _ h => h) (Or.inl ⟨by rfl, ?_⟩) (by assumption) ?_
  rotate_left
  · (intro w' hSw; (try dsimp only at hSw); go_simp; all_goals with_reducible rfl)
  try simp only [Act.put, List.setIfInBounds_toArray, List.set_cons_zero, List.set_cons_succ]
  refine take_at (i := 4) (v := ?_) 9 rfl rfl (by kernel_rfl) (by kernel_rfl) (by kernel_rfl) (fun _ _ _ h => h) (Or.inl ⟨by rfl, ?_⟩) (by assumption) ?_
  rotate_left
  · (intro w' hSw; (try dsimp only at hSw); go_simp; all_goals with_reducible rfl)
  try simp only [Act.put, List.setIfInBounds_toArray, List.set_cons_zero, List.set_cons_succ]
  refine take_at (i := 5) (v := ?_) 10 rfl rfl (by kernel_rfl) (by kernel_rfl) (by kernel_rfl) (fun _ _ _ h => h) (Or.inl ⟨by rfl, ?_⟩) (by assumption) ?_
  rotate_left
  · (intro w' hSw; (try dsimp only at hSw); go_simp; all_goals with_reducible rfl)
  try simp only [Act.put, List.setIfInBounds_toArray, List.set_cons_zero, List.set_cons_succ]
  refine wpAnyH_ready (rs := [3]) (by kernel_rfl) (by simp) ?_
  refine AllReadyH.cons rfl (fun K hK => ?_) AllReadyH.nil
  go_simp
  refine (cP _).mono ?_
  rintro e wc1 ⟨rfl, hb⟩
  go_wp2_with fail
  replace k0 := cell_later hb k0
  replace k1 := cell_later hb k1
  replace k2 := cell_later hb k2
  replace gC := block_later hb gC
  replace hB := below_tr hB hb
  refine hK.out _ _ ⟨k0, k1, k2⟩ (fun hHeld1 => ?_)
  clear hK
  try simp only [Act.put, List.setIfInBounds_toArray, List.set_cons_zero, List.set_cons_succ]
  refine take_at (i := 6) (v := ?_) 11 rfl rfl (by kernel_rfl) (by kernel_rfl) (by kernel_rfl) (fun _ _ _ h => h) (Or.inl ⟨by rfl, ?_⟩) (by assumption) ?_
  rotate_left
  · (intro w' hSw; (try dsimp only at hSw); go_simp; all_goals with_reducible rfl)
  try simp only [Act.put, List.setIfInBounds_toArray, List.set_cons_zero, List.set_cons_succ]
  refine take_at (i := 7) (v := ?_) 4 rfl rfl (by kernel_rfl) (by kernel_rfl) (by kernel_rfl) (fun _ _ _ h => h) (Or.inl ⟨by rfl, ?_⟩) (by assumption) ?_
  rotate_left
  · (intro w' hSw; (try dsimp only at hSw); go_simp; all_goals with_reducible rfl)
  try simp only [Act.put, List.setIfInBounds_toArray, List.set_cons_zero, List.set_cons_succ]
  refine wpAnyH_done (by kernel_rfl) ?_ _
  refine NoPanic.normal ?_
  go_wp2
  go_ret
  exact ⟨by rw [HE.out]; rfl, hB⟩

theorem below_drewN {B : Nat} {w0 w1 : World} (h : Below B w0 w1) : ∀ m, Below B w0 (w1.drewN m)
  | 0 => h
  | m + 1 => by
    have := (below_drewN h m).drew
    exact this
/-- The first word of a right one. -/
def wordN (k a b r g s : Nat) : Nat := k + b * 16 + r * 1024 + g * 8192 + s * 524288 + a / 32 * 34359738368
theorem put_on {l n : Nat} (h : rightB (l : Int) (n : Int) = true) {x v : Nat} (hx : x < 2 ^ l) (hx2 : x < 18446744073709551616) (hv : v < 2 ^ n) : putX l n x v = v * 2 ^ l + x := by
  have h2 : x < 2 ^ (l + n) := Nat.lt_of_lt_of_le hx (Nat.pow_le_pow_right (by omega) (by omega))
  rw [putX_mod h hv x hx2, Nat.div_eq_of_lt h2, Nat.mod_eq_of_lt hx]
  omega
/-- The bounds of a right one's parts. -/
structure Rt (k a b r g s m : Nat) : Prop where
  qk : k < 16
  qa : a < 4294967296
  qe : a % 32 = 0
  qb : b < 64
  qr : r < 8
  qg : g < 64
  qs : s < 65536
  qm : m < 18446744073709551616
set_option maxHeartbeats 2000000 in
theorem right_nats {k : Int} {a : Nat} {b r g s : Int} {m : Nat} (hm : m < 18446744073709551616) (h : cB k a b r g s m = true) : ∃ K B R G S : Nat, k = (K : Int) ∧ b = (B : Int) ∧ r = (R : Int) ∧ g = (G : Int) ∧ s = (S : Int) ∧ Rt K a B R G S m := by
  rw [right_same, d_all, rB_iff] at h
  obtain ⟨hl, ⟨r0, r1⟩, s0, s1, -, -, hk⟩ := h
  obtain ⟨k1, b0, b1, -⟩ := sz_bits (lies_sz hl)
  have hg : 0 ≤ g ∧ g ≤ 63 := by
    unfold mkB at hk
    split at hk
    · rw [mk1_iff] at hk; omega
    split at hk
    · unfold mk2 at hk; grind
    split at hk
    · rw [mk3_iff] at hk; omega
    split at hk
    · rw [mk4_iff] at hk; omega
    split at hk
    · rw [mk7_iff] at hk; omega
    split at hk
    · rw [mk9_iff] at hk; omega
    split at hk
    · rw [mk10_iff] at hk; omega
    · rw [mk0_iff] at hk; omega
  have ha : a < 4294967296 ∧ a % 32 = 0 := by
    have hz := sz_le k b
    unfold liesB at hl
    by_cases h0 : szV k b < 0
    · rw [if_pos h0] at hl
      by_cases h1 : szV k b = -1
      · rw [if_pos h1] at hl
        have := of_decide_eq_true hl
        omega
      · rw [if_neg h1] at hl; cases hl
    · rw [if_neg h0] at hl
      have h5 : 5 ≤ (szV k b).toNat := by
        by_cases k0 : k = 0
        · subst k0; unfold szV at h0; grind
        by_cases k6 : k = 6
        · subst k6; unfold szV at h0; grind
        obtain ⟨e1, e2⟩ := sz_of k b k0 k6
        cases hr : rbB k b
        · rw [e2 hr] at h0; omega
        · rw [e1 hr]; exact (rb_bits hr).2.2.1.2.1
      unfold inM at hl
      simp only [Bool.and_eq_true, decide_eq_true_eq] at hl
      have hd := Nat.mod_mod_of_dvd a (Nat.pow_dvd_pow 2 h5)
      rw [hl.2.1] at hd
      exact ⟨hl.1, by omega⟩
  exact ⟨k.toNat, b.toNat, r.toNat, g.toNat, s.toNat, by omega, by omega, by omega, by omega, by omega, by omega, ha.1, ha.2, by omega, by omega, by omega, by omega, hm⟩

set_option maxRecDepth 100000 in
set_option maxHeartbeats 4000000 in
theorem words_ok {k a b r g s m : Nat} (hR : Rt k a b r g s m) (h : cB k a b r g s m = true) (w : World) (hP : Prts w) :
    Calls Tryd.prog 70 #[.agg #[.int .i64 (k : Nat), .int .u64 (a : Nat), .int .i64 (b : Nat), .int .i64 (r : Nat), .int .i64 (g : Nat), .int .i64 (s : Nat), .int .u64 (m : Nat)]] w fun e w' => e = .returned (.tuple #[.int .u64 ((wordN k a b r g s : Nat) : Int), .int .u64 (m : Nat), .int .i64 0]) ∧ Below w.heap.size w w' := by
  have cR := fun w1 => cright_any k a b r g s m (by have := hR.qa; omega) hR.qm w1
  rw [h] at cR
  obtain ⟨q1, q2, q3, q4, q5, q6, q7, q8⟩ := hR
  have c1 := fun w1 => with_any 0 4 0 0 k (by decide) (by decide) (by omega) w1
  have c2 := fun w1 => with_any 4 6 0 k b (by decide) (by omega) (by omega) w1
  have c3 := fun w1 => with_any 10 3 0 (k + b * 16) r (by decide) (by omega) (by omega) w1
  have c4 := fun w1 => with_any 13 6 0 (k + b * 16 + r * 1024) g (by decide) (by omega) (by omega) w1
  have c5 := fun w1 => with_any 19 16 0 (k + b * 16 + r * 1024 + g * 8192) s (by decide) (by omega) (by omega) w1
  have c6 := fun w1 => with_any 35 27 5 (k + b * 16 + r * 1024 + g * 8192 + s * 524288) a (by decide) (by omega) (by omega) w1
  rw [Nat.pow_zero, Nat.div_one, put_on (by decide) (by decide) (by decide) (by omega), show k * 2 ^ 0 + 0 = k by omega] at c1
  rw [Nat.pow_zero, Nat.div_one, put_on (by decide) (by omega) (by omega) (by omega), show b * 2 ^ 4 + k = k + b * 16 by omega] at c2
  rw [Nat.pow_zero, Nat.div_one, put_on (by decide) (by omega) (by omega) (by omega), show r * 2 ^ 10 + (k + b * 16) = k + b * 16 + r * 1024 by omega] at c3
  rw [Nat.pow_zero, Nat.div_one, put_on (by decide) (by omega) (by omega) (by omega), show g * 2 ^ 13 + (k + b * 16 + r * 1024) = k + b * 16 + r * 1024 + g * 8192 by omega] at c4
  rw [Nat.pow_zero, Nat.div_one, put_on (by decide) (by omega) (by omega) (by omega), show s * 2 ^ 19 + (k + b * 16 + r * 1024 + g * 8192) = k + b * 16 + r * 1024 + g * 8192 + s * 524288 by omega] at c5
  rw [put_on (by decide) (by omega) (by omega) (by omega), show a / 2 ^ 5 * 2 ^ 35 + (k + b * 16 + r * 1024 + g * 8192 + s * 524288) = wordN k a b r g s by unfold wordN; omega] at c6
  have e1 : IntKind.u64.wrap (k : Int) = (k : Int) := by rw [IntKind.wrap_u64]; omega
  have e2 : IntKind.u64.wrap (b : Int) = (b : Int) := by rw [IntKind.wrap_u64]; omega
  have e3 : IntKind.u64.wrap (r : Int) = (r : Int) := by rw [IntKind.wrap_u64]; omega
  have e4 : IntKind.u64.wrap (g : Int) = (g : Int) := by rw [IntKind.wrap_u64]; omega
  have e5 : IntKind.u64.wrap (s : Int) = (s : Int) := by rw [IntKind.wrap_u64]; omega
  generalize wordN k a b r g s = N6 at *
  generalize k + b * 16 + r * 1024 + g * 8192 + s * 524288 = N5 at *
  generalize k + b * 16 + r * 1024 + g * 8192 = N4 at *
  generalize k + b * 16 + r * 1024 = N3 at *
  generalize k + b * 16 = N2 at *
  clear q1 q2 q3 q4 q5 q6 q7 q8 h
  go_enter Tryd.func70, Tryd.ntmps70
  go_wp2_with fail
  refine (cR _).mono ?_
  rintro e w1 ⟨rfl, hb⟩
  have gC := block_later hb (heap_alloc_new _ _)
  have hB := below_tr (below_new _ _) hb
  obtain ⟨k0, k1, k2, k3, k4, k5, k6⟩ := cells7 gC
  clear hb
  have y0 := (hP.later hB).a0
  have y1 := (hP.later hB).a1
  have y2 := (hP.later hB).a2
  go_wp2_with fail
  refine (c1 _).mono ?_
  rintro e w2 ⟨rfl, hb⟩
  clear y0 y1 y2 k0 k1 k2 k3 k4 k5 k6
  replace gC := block_later hb gC
  replace hB := below_tr hB hb
  obtain ⟨k0, k1, k2, k3, k4, k5, k6⟩ := cells7 gC
  clear hb
  have y0 := (hP.later hB).b0
  have y1 := (hP.later hB).b1
  have y2 := (hP.later hB).b2
  go_wp2_with fail
  refine (c2 _).mono ?_
  rintro e w3 ⟨rfl, hb⟩
  clear y0 y1 y2 k0 k1 k2 k3 k4 k5 k6
  replace gC := block_later hb gC
  replace hB := below_tr hB hb
  obtain ⟨k0, k1, k2, k3, k4, k5, k6⟩ := cells7 gC
  clear hb
  have y0 := (hP.later hB).c0
  have y1 := (hP.later hB).c1
  have y2 := (hP.later hB).c2
  go_wp2_with fail
  refine (c3 _).mono ?_
  rintro e w4 ⟨rfl, hb⟩
  clear y0 y1 y2 k0 k1 k2 k3 k4 k5 k6
  replace gC := block_later hb gC
  replace hB := below_tr hB hb
  obtain ⟨k0, k1, k2, k3, k4, k5, k6⟩ := cells7 gC
  clear hb
  have y0 := (hP.later hB).d0
  have y1 := (hP.later hB).d1
  have y2 := (hP.later hB).d2
  go_wp2_with fail
  refine (c4 _).mono ?_
  rintro e w5 ⟨rfl, hb⟩
  clear y0 y1 y2 k0 k1 k2 k3 k4 k5 k6
  replace gC := block_later hb gC
  replace hB := below_tr hB hb
  obtain ⟨k0, k1, k2, k3, k4, k5, k6⟩ := cells7 gC
  clear hb
  have y0 := (hP.later hB).e0
  have y1 := (hP.later hB).e1
  have y2 := (hP.later hB).e2
  go_wp2_with fail
  refine (c5 _).mono ?_
  rintro e w6 ⟨rfl, hb⟩
  clear y0 y1 y2 k0 k1 k2 k3 k4 k5 k6
  replace gC := block_later hb gC
  replace hB := below_tr hB hb
  obtain ⟨k0, k1, k2, k3, k4, k5, k6⟩ := cells7 gC
  clear hb
  have y0 := (hP.later hB).f0
  have y1 := (hP.later hB).f1
  have y2 := (hP.later hB).f2
  go_wp2_with fail
  refine (c6 _).mono ?_
  rintro e w7 ⟨rfl, hb⟩
  clear y0 y1 y2 k0 k1 k2 k3 k4 k5 k6
  replace gC := block_later hb gC
  replace hB := below_tr hB hb
  obtain ⟨k0, k1, k2, k3, k4, k5, k6⟩ := cells7 gC
  clear hb
  go_wp2
  go_quiet (fail)
  go_wp2
  go_ret3
  exact ⟨rfl, below_drewN hB _⟩

set_option maxHeartbeats 4000000 in
theorem words_bad (k : Int) (a : Nat) (b r g s : Int) (m : Nat) (ha : a < 18446744073709551616) (hm : m < 18446744073709551616) (h : cB k a b r g s m = false) (w : World) :
    Calls Tryd.prog 70 #[.agg #[.int .i64 k, .int .u64 (a : Nat), .int .i64 b, .int .i64 r, .int .i64 g, .int .i64 s, .int .u64 (m : Nat)]] w fun e w' => e = .returned (.tuple #[.int .u64 0, .int .u64 0, .int .i64 10]) ∧ Below w.heap.size w w' := by
  have cR := fun w1 => cright_any k a b r g s m ha hm w1
  rw [h] at cR
  go_enter Tryd.func70, Tryd.ntmps70
  go_wp2_with fail
  refine (cR _).mono ?_
  rintro e w1 ⟨rfl, hb⟩
  have hB := below_tr (below_new _ _) hb
  go_wp2
  go_ret3
  exact ⟨rfl, hB⟩

end Go.Proofs.YtcmndefjmhcbhaaDoor
