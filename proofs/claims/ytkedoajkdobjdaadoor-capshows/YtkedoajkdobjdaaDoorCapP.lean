/- Capabilities: the kinds' names. -/
import Derived.Test.YtkedoajkdobjdaaDoorCapK
import Derived.Deep.DeepCutAuto
import Derived.Laws.Strings
import Derived.Laws.StructEq
set_option linter.unusedVariables false
namespace Go.Proofs.YtkedoajkdobjdaaDoor
open Go.RowKit

/-- The kinds' names. -/
def nmL : List ByteArray := [⟨#[110, 117, 108, 108]⟩, ⟨#[117, 110, 116, 121, 112, 101, 100]⟩, ⟨#[110, 111, 100, 101]⟩, ⟨#[102, 114, 97, 109, 101]⟩, ⟨#[116, 97, 98, 108, 101]⟩, ⟨#[115, 112, 97, 99, 101]⟩, ⟨#[99, 111, 110, 116, 114, 111, 108]⟩, ⟨#[112, 111, 111, 108]⟩, ⟨#[116, 104, 114, 101, 97, 100]⟩, ⟨#[110, 111, 116, 101]⟩, ⟨#[122, 111, 109, 98, 105, 101]⟩]
def nmV (j : Nat) : ByteArray := nmL.getD j ⟨#[]⟩
def nmC : List Value := nmL.map Value.string
/-- The names lie as the program declares them. -/
structure Nms (w : World) : Prop where
  n0 : w.cell? ⟨6, 0, none⟩ = some (.string ⟨#[110, 117, 108, 108]⟩)
  n1 : w.cell? ⟨6, 1, none⟩ = some (.string ⟨#[117, 110, 116, 121, 112, 101, 100]⟩)
  n2 : w.cell? ⟨6, 2, none⟩ = some (.string ⟨#[110, 111, 100, 101]⟩)
  n3 : w.cell? ⟨6, 3, none⟩ = some (.string ⟨#[102, 114, 97, 109, 101]⟩)
  n4 : w.cell? ⟨6, 4, none⟩ = some (.string ⟨#[116, 97, 98, 108, 101]⟩)
  n5 : w.cell? ⟨6, 5, none⟩ = some (.string ⟨#[115, 112, 97, 99, 101]⟩)
  n6 : w.cell? ⟨6, 6, none⟩ = some (.string ⟨#[99, 111, 110, 116, 114, 111, 108]⟩)
  n7 : w.cell? ⟨6, 7, none⟩ = some (.string ⟨#[112, 111, 111, 108]⟩)
  n8 : w.cell? ⟨6, 8, none⟩ = some (.string ⟨#[116, 104, 114, 101, 97, 100]⟩)
  n9 : w.cell? ⟨6, 9, none⟩ = some (.string ⟨#[110, 111, 116, 101]⟩)
  n10 : w.cell? ⟨6, 10, none⟩ = some (.string ⟨#[122, 111, 109, 98, 105, 101]⟩)
theorem Nms.later {w w' : World} (h : Nms w) (hb : Below w.heap.size w w') : Nms w' :=
  ⟨cell_later hb h.n0, cell_later hb h.n1, cell_later hb h.n2, cell_later hb h.n3, cell_later hb h.n4, cell_later hb h.n5, cell_later hb h.n6, cell_later hb h.n7, cell_later hb h.n8, cell_later hb h.n9, cell_later hb h.n10⟩

theorem of_list {s : ByteArray} {l : List UInt8} (h : l = s.toList) : s = ⟨l.toArray⟩ := by
  obtain ⟨⟨x⟩⟩ := s
  rw [ByteArray.toList_eq] at h
  simp at h
  subst h; rfl
theorem ne_list {s : ByteArray} {l : List UInt8} (h : ¬ s = ⟨l.toArray⟩) : (l == s.toList) = false := by
  rw [beq_eq_false_iff_ne]
  exact fun q => h (of_list q)
theorem part1 (cs : Array Value) (i : Nat) (v : Value) (h : cs[i]? = some v) (w : World) : (part 9 cs i).run Tryd.prog w = .ok v w := by
  simp [part, Tryd.isAgg9, Sem.run_bind, Result.andThen]
  rw [h]; rfl
theorem ixN (cs : Array Value) (i : Nat) (v : Value) (hi : i < 11) (h : cs[i]? = some v) (w : World) : (Instr.index 75 (.agg cs) (.int .i64 (i : Int))).run Tryd.prog w = .ok v w := by
  simp [Instr.index, run_underlying Tryd.underlying75, Sem.run_bind, asIntOf, Result.andThen, hi, Tryd.sizeOf9]
  exact part1 cs i v h w
theorem wpList_index {P : Program} {ops : Array Oper} {rest : List Oper} {op : Oper} {a : Act} {w : World} {Q : Exit → Act → World → Prop} (hgd : op.guard = none) (ty : TypeId) (x y : Operand) (ho : op.op = .index ty x y) (v : Value)
    (hr : (Instr.index ty (a.eval x) (a.eval y)).run P w = .ok v w) (h : wpList P ops Q rest (a.put op.dst v) w) : wpList P ops Q (op :: rest) a w := by
  refine wpList_plain hgd fun _ hK => ?_
  unfold Oper.wp execOp
  simp only [ho, hr, Sem.run_bind, Sem.run_pure, Result.andThen_ok]
  exact hK _ _ h

set_option maxHeartbeats 4000000 in
theorem name_out (k : Int) (h : k < 0 ∨ 10 < k) (w : World) :
    Calls Tryd.prog 25 #[.int .i64 k] w fun e w' => e = .returned (.string ⟨#[]⟩) ∧ w = w' := by
  by_cases h0 : k < 0
  · have d0 : decide (k < 0) = true := decide_eq_true h0
    clear h
    go_enter Tryd.func25, Tryd.ntmps25
    go_wp2
    go_ret
    exact ⟨rfl, rfl⟩
  · have d0 : decide (k < 0) = false := decide_eq_false h0
    have d1 : decide (11 ≤ k) = true := decide_eq_true (by omega)
    clear h
    go_enter Tryd.func25, Tryd.ntmps25
    go_wp2
    go_ret
    exact ⟨rfl, rfl⟩
set_option maxHeartbeats 8000000 in
theorem name_in (j : Nat) (h : j ≤ 10) (w : World) (hN : Nms w) :
    Calls Tryd.prog 25 #[.int .i64 (j : Int)] w fun e w' => e = .returned (.string (nmV j)) ∧ w = w' := by
  obtain ⟨n0, n1, n2, n3, n4, n5, n6, n7, n8, n9, n10⟩ := hN
  obtain rfl | rfl | rfl | rfl | rfl | rfl | rfl | rfl | rfl | rfl | rfl : j = 0 ∨ j = 1 ∨ j = 2 ∨ j = 3 ∨ j = 4 ∨ j = 5 ∨ j = 6 ∨ j = 7 ∨ j = 8 ∨ j = 9 ∨ j = 10 := by omega
  all_goals
    go_enter Tryd.func25, Tryd.ntmps25
    go_wp2
    go_ret
    exact ⟨rfl, rfl⟩
set_option maxRecDepth 100000 in
set_option maxHeartbeats 8000000 in
theorem kind_c (s : ByteArray) (w : World) (hN : Nms w) :
    Calls Tryd.prog 26 #[.string s] w fun e w' => ((∃ j : Nat, j ≤ 10 ∧ s = nmV j ∧ e = .returned (.tuple #[.int .i64 (j : Int), .bool true])) ∨ (∀ j : Nat, j ≤ 10 → s ≠ nmV j) ∧ e = .returned (.tuple #[.int .i64 0, .bool false])) ∧ w = w' := by
  obtain ⟨n0, n1, n2, n3, n4, n5, n6, n7, n8, n9, n10⟩ := hN
  have HX := ixN
  go_enter Tryd.func26, Tryd.ntmps26
  go_wp2
  go_loop [7] (fun i => ∃ j : Nat, j ≤ 11 ∧ i = .int .i64 (j : Int) ∧ ∀ l : Nat, l < j → s ≠ nmV l) (fun i => 11 - (intOf i).toNat)
  case atStart => exact ⟨0, by omega, rfl, fun l hl => absurd hl (Nat.not_lt_zero _)⟩
  case round =>
    obtain ⟨j, hj, rfl, hp⟩ := hrel
    have HP := Hid.mk hp
    clear hp
    obtain rfl | rfl | rfl | rfl | rfl | rfl | rfl | rfl | rfl | rfl | rfl | rfl : j = 0 ∨ j = 1 ∨ j = 2 ∨ j = 3 ∨ j = 4 ∨ j = 5 ∨ j = 6 ∨ j = 7 ∨ j = 8 ∨ j = 9 ∨ j = 10 ∨ j = 11 := by omega
    · by_cases hs : s = ⟨#[110, 117, 108, 108]⟩
      · subst hs
        go_wp2_with (first | (refine wpList_index rfl 75 _ _ rfl _ (HX _ 0 _ (by decide) rfl _) ?_) | fail)
        go_ret2
        exact ⟨Or.inl ⟨0, by decide, rfl, rfl⟩, rfl⟩
      · have hs2 : ([110, 117, 108, 108] == s.toList) = false := ne_list hs
        have HS := Hid.mk hs
        go_wp2_with (first | (refine wpList_index rfl 75 _ _ rfl _ (HX _ 0 _ (by decide) rfl _) ?_) | fail)
        exact ⟨⟨1, by omega, by go_num, fun l hl => by
          by_cases hq : l = 0
          · subst hq; exact HS.out
          · exact HP.out l (by omega)⟩, by simp [intOf]⟩
    · by_cases hs : s = ⟨#[117, 110, 116, 121, 112, 101, 100]⟩
      · subst hs
        go_wp2_with (first | (refine wpList_index rfl 75 _ _ rfl _ (HX _ 1 _ (by decide) rfl _) ?_) | fail)
        go_ret2
        exact ⟨Or.inl ⟨1, by decide, rfl, rfl⟩, rfl⟩
      · have hs2 : ([117, 110, 116, 121, 112, 101, 100] == s.toList) = false := ne_list hs
        have HS := Hid.mk hs
        go_wp2_with (first | (refine wpList_index rfl 75 _ _ rfl _ (HX _ 1 _ (by decide) rfl _) ?_) | fail)
        exact ⟨⟨2, by omega, by go_num, fun l hl => by
          by_cases hq : l = 1
          · subst hq; exact HS.out
          · exact HP.out l (by omega)⟩, by simp [intOf]⟩
    · by_cases hs : s = ⟨#[110, 111, 100, 101]⟩
      · subst hs
        go_wp2_with (first | (refine wpList_index rfl 75 _ _ rfl _ (HX _ 2 _ (by decide) rfl _) ?_) | fail)
        go_ret2
        exact ⟨Or.inl ⟨2, by decide, rfl, rfl⟩, rfl⟩
      · have hs2 : ([110, 111, 100, 101] == s.toList) = false := ne_list hs
        have HS := Hid.mk hs
        go_wp2_with (first | (refine wpList_index rfl 75 _ _ rfl _ (HX _ 2 _ (by decide) rfl _) ?_) | fail)
        exact ⟨⟨3, by omega, by go_num, fun l hl => by
          by_cases hq : l = 2
          · subst hq; exact HS.out
          · exact HP.out l (by omega)⟩, by simp [intOf]⟩
    · by_cases hs : s = ⟨#[102, 114, 97, 109, 101]⟩
      · subst hs
        go_wp2_with (first | (refine wpList_index rfl 75 _ _ rfl _ (HX _ 3 _ (by decide) rfl _) ?_) | fail)
        go_ret2
        exact ⟨Or.inl ⟨3, by decide, rfl, rfl⟩, rfl⟩
      · have hs2 : ([102, 114, 97, 109, 101] == s.toList) = false := ne_list hs
        have HS := Hid.mk hs
        go_wp2_with (first | (refine wpList_index rfl 75 _ _ rfl _ (HX _ 3 _ (by decide) rfl _) ?_) | fail)
        exact ⟨⟨4, by omega, by go_num, fun l hl => by
          by_cases hq : l = 3
          · subst hq; exact HS.out
          · exact HP.out l (by omega)⟩, by simp [intOf]⟩
    · by_cases hs : s = ⟨#[116, 97, 98, 108, 101]⟩
      · subst hs
        go_wp2_with (first | (refine wpList_index rfl 75 _ _ rfl _ (HX _ 4 _ (by decide) rfl _) ?_) | fail)
        go_ret2
        exact ⟨Or.inl ⟨4, by decide, rfl, rfl⟩, rfl⟩
      · have hs2 : ([116, 97, 98, 108, 101] == s.toList) = false := ne_list hs
        have HS := Hid.mk hs
        go_wp2_with (first | (refine wpList_index rfl 75 _ _ rfl _ (HX _ 4 _ (by decide) rfl _) ?_) | fail)
        exact ⟨⟨5, by omega, by go_num, fun l hl => by
          by_cases hq : l = 4
          · subst hq; exact HS.out
          · exact HP.out l (by omega)⟩, by simp [intOf]⟩
    · by_cases hs : s = ⟨#[115, 112, 97, 99, 101]⟩
      · subst hs
        go_wp2_with (first | (refine wpList_index rfl 75 _ _ rfl _ (HX _ 5 _ (by decide) rfl _) ?_) | fail)
        go_ret2
        exact ⟨Or.inl ⟨5, by decide, rfl, rfl⟩, rfl⟩
      · have hs2 : ([115, 112, 97, 99, 101] == s.toList) = false := ne_list hs
        have HS := Hid.mk hs
        go_wp2_with (first | (refine wpList_index rfl 75 _ _ rfl _ (HX _ 5 _ (by decide) rfl _) ?_) | fail)
        exact ⟨⟨6, by omega, by go_num, fun l hl => by
          by_cases hq : l = 5
          · subst hq; exact HS.out
          · exact HP.out l (by omega)⟩, by simp [intOf]⟩
    · by_cases hs : s = ⟨#[99, 111, 110, 116, 114, 111, 108]⟩
      · subst hs
        go_wp2_with (first | (refine wpList_index rfl 75 _ _ rfl _ (HX _ 6 _ (by decide) rfl _) ?_) | fail)
        go_ret2
        exact ⟨Or.inl ⟨6, by decide, rfl, rfl⟩, rfl⟩
      · have hs2 : ([99, 111, 110, 116, 114, 111, 108] == s.toList) = false := ne_list hs
        have HS := Hid.mk hs
        go_wp2_with (first | (refine wpList_index rfl 75 _ _ rfl _ (HX _ 6 _ (by decide) rfl _) ?_) | fail)
        exact ⟨⟨7, by omega, by go_num, fun l hl => by
          by_cases hq : l = 6
          · subst hq; exact HS.out
          · exact HP.out l (by omega)⟩, by simp [intOf]⟩
    · by_cases hs : s = ⟨#[112, 111, 111, 108]⟩
      · subst hs
        go_wp2_with (first | (refine wpList_index rfl 75 _ _ rfl _ (HX _ 7 _ (by decide) rfl _) ?_) | fail)
        go_ret2
        exact ⟨Or.inl ⟨7, by decide, rfl, rfl⟩, rfl⟩
      · have hs2 : ([112, 111, 111, 108] == s.toList) = false := ne_list hs
        have HS := Hid.mk hs
        go_wp2_with (first | (refine wpList_index rfl 75 _ _ rfl _ (HX _ 7 _ (by decide) rfl _) ?_) | fail)
        exact ⟨⟨8, by omega, by go_num, fun l hl => by
          by_cases hq : l = 7
          · subst hq; exact HS.out
          · exact HP.out l (by omega)⟩, by simp [intOf]⟩
    · by_cases hs : s = ⟨#[116, 104, 114, 101, 97, 100]⟩
      · subst hs
        go_wp2_with (first | (refine wpList_index rfl 75 _ _ rfl _ (HX _ 8 _ (by decide) rfl _) ?_) | fail)
        go_ret2
        exact ⟨Or.inl ⟨8, by decide, rfl, rfl⟩, rfl⟩
      · have hs2 : ([116, 104, 114, 101, 97, 100] == s.toList) = false := ne_list hs
        have HS := Hid.mk hs
        go_wp2_with (first | (refine wpList_index rfl 75 _ _ rfl _ (HX _ 8 _ (by decide) rfl _) ?_) | fail)
        exact ⟨⟨9, by omega, by go_num, fun l hl => by
          by_cases hq : l = 8
          · subst hq; exact HS.out
          · exact HP.out l (by omega)⟩, by simp [intOf]⟩
    · by_cases hs : s = ⟨#[110, 111, 116, 101]⟩
      · subst hs
        go_wp2_with (first | (refine wpList_index rfl 75 _ _ rfl _ (HX _ 9 _ (by decide) rfl _) ?_) | fail)
        go_ret2
        exact ⟨Or.inl ⟨9, by decide, rfl, rfl⟩, rfl⟩
      · have hs2 : ([110, 111, 116, 101] == s.toList) = false := ne_list hs
        have HS := Hid.mk hs
        go_wp2_with (first | (refine wpList_index rfl 75 _ _ rfl _ (HX _ 9 _ (by decide) rfl _) ?_) | fail)
        exact ⟨⟨10, by omega, by go_num, fun l hl => by
          by_cases hq : l = 9
          · subst hq; exact HS.out
          · exact HP.out l (by omega)⟩, by simp [intOf]⟩
    · by_cases hs : s = ⟨#[122, 111, 109, 98, 105, 101]⟩
      · subst hs
        go_wp2_with (first | (refine wpList_index rfl 75 _ _ rfl _ (HX _ 10 _ (by decide) rfl _) ?_) | fail)
        go_ret2
        exact ⟨Or.inl ⟨10, by decide, rfl, rfl⟩, rfl⟩
      · have hs2 : ([122, 111, 109, 98, 105, 101] == s.toList) = false := ne_list hs
        have HS := Hid.mk hs
        go_wp2_with (first | (refine wpList_index rfl 75 _ _ rfl _ (HX _ 10 _ (by decide) rfl _) ?_) | fail)
        exact ⟨⟨11, by omega, by go_num, fun l hl => by
          by_cases hq : l = 10
          · subst hq; exact HS.out
          · exact HP.out l (by omega)⟩, by simp [intOf]⟩
    · go_wp2
      go_ret2
      exact ⟨Or.inr ⟨fun l hl => HP.out l (by omega), rfl⟩, rfl⟩
end Go.Proofs.YtkedoajkdobjdaaDoor
