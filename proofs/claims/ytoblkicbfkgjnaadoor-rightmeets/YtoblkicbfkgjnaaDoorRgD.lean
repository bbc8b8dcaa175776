/- Rights, fourth part: rights as a descriptor; the anchor of layer 10's statements. -/
import Derived.Test.YtoblkicbfkgjnaaDoorRgC
namespace Go.Proofs.YtoblkicbfkgjnaaDoor
open Go.RowKit Go.Lib

theorem in_1 : ∀ r : Nat, r < 8 → inV 1 (r : Int) = r.testBit 0 := by decide
theorem in_3 : ∀ r : Nat, r < 8 → inV 3 (r : Int) = (r.testBit 0 && r.testBit 1) := by decide
theorem in_5 : ∀ r : Nat, r < 8 → inV 5 (r : Int) = (r.testBit 0 && r.testBit 2) := by decide
abbrev zD : Array Value := #[.int .i64 0, .int .u64 0, .bool false, .bool false, .bool false, .bool false, .int .i64 0]
theorem info_D7 : (Tryd.prog.info? 32).map (·.size) = some 7 := by kernel_rfl
theorem res_row_tmp {P : Program} {fn : Func} {p u : Tmp} {ty : TypeId} (h : fn.results = #[.cell p ty, .tmp u]) (tmps : Array Value) (w : World) (g : Nat) (t : TypeId) (cs : Array Value) (fr : Nat × Nat) (d : TypeDesc)
    (hp : tmps.getD p undef = .pointer (some ⟨g, 0, none⟩)) (hg : w.heap[g]? = some (.cells cs t fr))
    (hu : P.underlying ty = some d) (hd : (match d with | .struct _ | .array _ _ => true | _ => false) = true) (hi : (P.info? ty).map (·.size) = some cs.size) :
    (results fn tmps).run P w = .ok (.tuple #[.agg cs, tmps.getD u undef]) w := by
  rw [results_cell_tmp h, hp]
  simp [asAddr, run_loadVar_row w g t ty cs fr d hg hu hd hi, Result.andThen]
theorem cells7r {w1 : World} {g t : Nat} {c0 c1 c2 c3 c4 c5 c6 : Value} (hh : w1.heap[g]? = some (.cells #[c0, c1, c2, c3, c4, c5, c6] t (0, 0))) :
    (w1.cell? ⟨g, 0, none⟩ = some c0 ∧ w1.cell? ⟨g, 1, none⟩ = some c1 ∧ w1.cell? ⟨g, 2, none⟩ = some c2 ∧ w1.cell? ⟨g, 3, none⟩ = some c3 ∧ w1.cell? ⟨g, 4, none⟩ = some c4 ∧ w1.cell? ⟨g, 5, none⟩ = some c5 ∧ w1.cell? ⟨g, 6, none⟩ = some c6) := by
  refine ⟨?_, ?_, ?_, ?_, ?_, ?_, ?_⟩
  all_goals (rw [cell_of_row _ _ _ _ _ _ hh]; rfl)

set_option maxHeartbeats 2000000 in
theorem leaf_bad (l : Int) (o : Nat) (r : Int) (h : ¬ (1 ≤ l ∧ l ≤ 3 ∧ rB r = true)) (w : World) :
    Calls Tryd.prog 16 #[.int .i64 l, .int .u64 (o : Int), .int .i64 r] w fun e w' => e = .returned (.tuple #[.agg zD, .int .i64 12]) ∧ Below w.heap.size w w' := by
  have cR := fun w1 => rite_any r w1
  by_cases h1 : l < 1
  · have d1 : decide (l < 1) = true := decide_eq_true h1
    clear h cR
    go_enter Tryd.func16, Tryd.ntmps16
    go_wp2
    refine bodyPost_ret (v := .tuple #[.agg zD, .int .i64 12]) ?_ rfl ⟨rfl, below_new _ _⟩
    exact res_row_tmp (p := 6) (u := 7) rfl _ _ w.heap.size 32 _ _ _ rfl (heap_alloc_new _ _) Tryd.underlying32 rfl info_D7
  have d1 : decide (l < 1) = false := decide_eq_false h1
  by_cases h2 : 3 < l
  · have d2 : decide (3 < l) = true := decide_eq_true h2
    clear h cR
    go_enter Tryd.func16, Tryd.ntmps16
    go_wp2
    refine bodyPost_ret (v := .tuple #[.agg zD, .int .i64 12]) ?_ rfl ⟨rfl, below_new _ _⟩
    exact res_row_tmp (p := 6) (u := 7) rfl _ _ w.heap.size 32 _ _ _ rfl (heap_alloc_new _ _) Tryd.underlying32 rfl info_D7
  have d2 : decide (3 < l) = false := decide_eq_false h2
  have hr : rB r = false := by
    cases hb : rB r
    · rfl
    · exact absurd ⟨by omega, by omega, hb⟩ h
  rw [hr] at cR
  clear h hr
  go_enter Tryd.func16, Tryd.ntmps16
  go_wp2_with fail
  refine (cR _).mono ?_
  rintro e w1 ⟨rfl, rfl⟩
  go_wp2
  refine bodyPost_ret (v := .tuple #[.agg zD, .int .i64 12]) ?_ rfl ⟨rfl, below_new _ _⟩
  exact res_row_tmp (p := 6) (u := 7) rfl _ _ w.heap.size 32 _ _ _ rfl (heap_alloc_new _ _) Tryd.underlying32 rfl info_D7

/-- What Leaf says of rights. -/
def lfV (l : Int) (K : Int) (o : Nat) (r : Nat) : Bool := rightP l K o (r.testBit 0) (r.testBit 0 && r.testBit 1) (r.testBit 0 && r.testBit 2) true 0
def lfA (b : Bool) (K : Int) (o : Nat) (r : Nat) : Array Value := if b then #[.int .i64 K, .int .u64 (o : Int), .bool (r.testBit 0), .bool (r.testBit 0 && r.testBit 1), .bool (r.testBit 0 && r.testBit 2), .bool true, .int .i64 0] else zD
def lfE (b : Bool) : Int := if b then 0 else 13

set_option maxHeartbeats 4000000 in
set_option maxRecDepth 100000 in
theorem leaf_any (l K : Int) (hl : (l = 1 ∧ K = 2) ∨ (l = 2 ∧ K = 2) ∨ (l = 3 ∧ K = 3)) (o : Nat) (ho : o < 18446744073709551616) (r : Nat) (hr : r < 8) (w : World) (hF : Flds w) :
    Calls Tryd.prog 16 #[.int .i64 l, .int .u64 (o : Int), .int .i64 (r : Int)] w fun e w' => e = .returned (.tuple #[.agg (lfA (lfV l K o r) K o r), .int .i64 (lfE (lfV l K o r))]) ∧ Below w.heap.size w w' := by
  have cR := fun w1 => rite_any (r : Int) w1
  rw [rB_of hr] at cR
  have c1 := fun w1 => in_any 1 (r : Int) w1
  have c3 := fun w1 => in_any 3 (r : Int) w1
  have c5 := fun w1 => in_any 5 (r : Int) w1
  have cP := fun w1 h => right_d l K o (r.testBit 0) (r.testBit 0 && r.testBit 1) (r.testBit 0 && r.testBit 2) true 0 ho w1 h
  rw [in_1 r hr] at c1
  rw [in_3 r hr] at c3
  rw [in_5 r hr] at c5
  cases hv : lfV l K o r
  all_goals
    unfold lfV at hv
    rw [hv] at cP
    unfold lfA
    generalize r.testBit 0 = b0 at *
    generalize (b0 && r.testBit 1) = b1 at *
    generalize (b0 && r.testBit 2) = b2 at *
    clear hv
    rcases hl with ⟨rfl, rfl⟩ | ⟨rfl, rfl⟩ | ⟨rfl, rfl⟩
  all_goals
    go_enter Tryd.func16, Tryd.ntmps16
    go_wp2_with fail
    refine (cR _).mono ?_
    rintro e w1 ⟨rfl, rfl⟩
    go_wp2_with fail
    refine (c1 _).mono ?_
    rintro e w1 ⟨rfl, rfl⟩
    go_wp2_with fail
    refine (c3 _).mono ?_
    rintro e w1 ⟨rfl, rfl⟩
    go_wp2_with fail
    refine (c5 _).mono ?_
    rintro e w1 ⟨rfl, rfl⟩
    go_wp2_with fail
    refine (cP _ ((hF.alloc _).alloc _)).mono ?_
    rintro e w2 ⟨rfl, hb⟩
    have g0 := block_later hb (heap_alloc2_old _ _ _)
    have g1 := block_later hb (heap_alloc2_new _ _ _)
    have hB : Below w.heap.size w w2 := below_tr ((below_new _ _).alloc (below_new _ _).size _) hb
    obtain ⟨k0, k1, k2, k3, k4, k5, k6⟩ := cells7r g1
    clear hb cP c1 c3 c5 cR
    go_wp2_with
      first
      | (refine wpList_store_segTo rfl 32 _ _ rfl rfl w.heap.size 0 _ zD rfl rfl rfl 32 _ g0 (show 0 + 7 ≤ 7 by decide) info_D7 (by simp [Value.oneCell']) zD rfl ?_
         intro wa hra hta)
      | (refine wpList_store_segTo rfl 32 _ _ rfl rfl w.heap.size 0 _ #[.int .i64 2, .int .u64 (o : Int), .bool b0, .bool b1, .bool b2, .bool true, .int .i64 0] rfl rfl rfl 32 _ g0 (show 0 + 7 ≤ 7 by decide) info_D7 (by simp [Value.oneCell']) #[.int .i64 2, .int .u64 (o : Int), .bool b0, .bool b1, .bool b2, .bool true, .int .i64 0] rfl ?_
         intro wa hra hta)
      | (refine wpList_store_segTo rfl 32 _ _ rfl rfl w.heap.size 0 _ #[.int .i64 3, .int .u64 (o : Int), .bool b0, .bool b1, .bool b2, .bool true, .int .i64 0] rfl rfl rfl 32 _ g0 (show 0 + 7 ≤ 7 by decide) info_D7 (by simp [Value.oneCell']) #[.int .i64 3, .int .u64 (o : Int), .bool b0, .bool b1, .bool b2, .bool true, .int .i64 0] rfl ?_
         intro wa hra hta)
      | fail
    refine bodyPost_ret (v := .tuple #[_, _]) ?_ rfl ⟨rfl, below_turn hB hta (by omega)⟩
    exact res_row_tmp (p := 6) (u := 7) rfl _ _ w.heap.size 32 _ _ _ rfl hra Tryd.underlying32 rfl info_D7

end Go.Proofs.YtoblkicbfkgjnaaDoor
