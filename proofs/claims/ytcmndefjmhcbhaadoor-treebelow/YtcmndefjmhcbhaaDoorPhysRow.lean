/- Pages of 512 words: as cells, compared, cleared; the memory of the program as a function from addresses to words. -/
import Derived.Test.YtcmndefjmhcbhaaDoorPhysMap
import Derived.Test.YtcmndefjmhcbhaaDoorBitMath
import Derived.Laws.CopyRow
import Derived.Laws.StructEq
import Derived.Great.Walk
namespace Go.Proofs.YtcmndefjmhcbhaaDoor
open Go.RowKit Go.Maps

/-- 512 words as the cells of an array. -/
def prow (f : Nat → Nat) : Array Value := ((List.range 512).map fun i => Value.int .u64 (f i : Nat)).toArray

theorem prow_size (f : Nat → Nat) : (prow f).size = 512 := by simp [prow]
theorem prow_get (f : Nat → Nat) (i : Nat) (h : i < 512) : (prow f)[i]? = some (.int .u64 (f i : Nat)) := by
  simp [prow, h]
theorem prow_congr {f g : Nat → Nat} (h : ∀ i, i < 512 → f i = g i) : prow f = prow g := by
  exact congrArg List.toArray (List.map_congr_left fun a ha => by rw [h a (List.mem_range.1 ha)])
theorem prow_set (f : Nat → Nat) (i v : Nat) (h : i < 512) : (prow f).setIfInBounds i (.int .u64 (v : Nat)) = prow (fun j => if j = i then v else f j) := by
  apply Array.ext_getElem?
  intro j
  rw [Array.getElem?_setIfInBounds]
  by_cases hj : i = j
  · subst hj
    rw [if_pos rfl, prow_size, if_pos h, prow_get _ _ h, if_pos rfl]
  · rw [if_neg hj]
    by_cases h64 : j < 512
    · rw [prow_get _ _ h64, prow_get _ _ h64, if_neg (fun e => hj e.symm)]
    · rw [Array.getElem?_eq_none (by rw [prow_size]; omega), Array.getElem?_eq_none (by rw [prow_size]; omega)]
theorem prow_one (f : Nat → Nat) : (prow f).all (·.oneCell') = true := by
  rw [Array.all_eq_true]
  intro i h
  rw [prow_size] at h
  have e := prow_get f i h
  rw [Array.getElem?_eq_getElem (by rw [prow_size]; exact h)] at e
  rw [Option.some.inj e]; rfl
theorem info_page (f : Nat → Nat) : (Tryd.prog.info? 93).map (·.size) = some (prow f).size := by
  rw [prow_size]; kernel_rfl

/-- Are two pages alike? -/
def eqPg (f g : Nat → Nat) : Bool := (List.range 512).all fun i => f i == g i
theorem eqPg_iff (f g : Nat → Nat) : eqPg f g = true ↔ ∀ i, i < 512 → f i = g i := by
  unfold eqPg
  rw [List.all_eq_true]
  constructor
  · intro h i hi
    simpa using h i (List.mem_range.2 hi)
  · intro h i hi
    simpa using h i (List.mem_range.1 hi)

theorem sizeU (w : World) : (sizeOf 23).run Tryd.prog w = .ok 1 w := by kernel_rfl
theorem arrU : ∃ e, Tryd.prog.underlying 93 = some (.array 512 e) ∧ Tryd.prog.underlying e = some (.int .u64) ∧ ∀ w, (sizeOf e).run Tryd.prog w = .ok 1 w := ⟨23, by kernel_rfl, Tryd.underlying23, sizeU⟩

theorem run_eqIn (f g : Nat → Nat) (w : World) : (Op.equalIn 10000 93 (.agg (prow f)) (.agg (prow g))).run Tryd.prog w = .ok (eqPg f g) w := by
  obtain ⟨e, ht, he, hsz⟩ := arrU
  show (Op.equalIn (9998 + 2) 93 (.agg (prow f)) (.agg (prow g))).run Tryd.prog w = _
  rw [Op.equalIn]
  unfold eqPg
  rw [List.range_eq_range']
  simp only [Sem.run_bind, run_underlying ht, Result.andThen_ok, hsz, Std.Legacy.Range.forIn_eq_forIn_range', Std.Legacy.Range.size, Nat.sub_zero, Nat.add_sub_cancel, Nat.div_one]
  have hl : ∀ i ∈ List.range' 0 512 1, i < 512 := fun i hi => by simpa using (List.mem_range'_1.1 hi).2
  generalize List.range' 0 512 1 = l at hl ⊢
  induction l with
  | nil => simp
  | cons i l ih =>
    have hi : i < 512 := hl i (by simp)
    have px : (part e (prow f) (i * 1)).run Tryd.prog w = .ok (.int .u64 (f i : Nat)) w := by
      simp [part, isAgg, run_underlying he, prow_get f i hi]
    have py : (part e (prow g) (i * 1)).run Tryd.prog w = .ok (.int .u64 (g i : Nat)) w := by
      simp [part, isAgg, run_underlying he, prow_get g i hi]
    have pe : (Op.equalIn 9999 e (.int .u64 (f i : Nat)) (.int .u64 (g i : Nat))).run Tryd.prog w = .ok (f i == g i) w := by
      have hq : ((f i : Int) == (g i : Int)) = (f i == g i) := by
        rw [Bool.eq_iff_iff]; simp; omega
      rw [run_equalIn_int w 9998 e .u64 .u64 _ _ he, hq]
    simp only [List.forIn_cons, Sem.run_bind, px, py, pe, Result.andThen_ok, List.all_cons]
    cases hb : (f i == g i)
    · simp
    · simp only [Bool.not_true, Bool.false_eq_true, if_false, Sem.run_pure, Result.andThen_ok, Bool.true_and]
      exact ih fun j hj => hl j (by simp [hj])

theorem guardP : Tryd.prog.eqGuardType Tryd.prog.depth 93 = false := by kernel_rfl

section
variable {ops : Array Oper} {rest : List Oper} {o : Oper} {a : Act} {w : World} {Q : Exit → Act → World → Prop}

theorem wpList_eqPage (hg : o.guard = none) (x y : Operand) (t : TypeId) (ho : o.op = .binOp .eql 93 x y t) (f g : Nat → Nat) (hx : a.eval x = .agg (prow f)) (hy : a.eval y = .agg (prow g))
    (h : wpList Tryd.prog ops Q rest (a.put o.dst (.bool (eqPg f g))) w) : wpList Tryd.prog ops Q (o :: rest) a w := by
  refine Great.wpList_runTo hg _ rfl (.bool (eqPg f g)) w ?_ h
  simp only [execOp, ho, hx, hy, Sem.run_bind, run_eqGuard_agg w _ _ _ _ _ _ guardP, Result.andThen_ok, run_eql_struct, run_eqIn]
  rfl

theorem wpList_nePage (hg : o.guard = none) (x y : Operand) (t : TypeId) (ho : o.op = .binOp .neq 93 x y t) (f g : Nat → Nat) (hx : a.eval x = .agg (prow f)) (hy : a.eval y = .agg (prow g))
    (h : wpList Tryd.prog ops Q rest (a.put o.dst (.bool (!eqPg f g))) w) : wpList Tryd.prog ops Q (o :: rest) a w := by
  refine Great.wpList_runTo hg _ rfl (.bool (!eqPg f g)) w ?_ h
  simp only [execOp, ho, hx, hy, Sem.run_bind, run_eqGuard_agg w _ _ _ _ _ _ guardP, Result.andThen_ok, run_neq_struct, run_eqIn]
  rfl
end

theorem zeroA (w : World) : (zeroValue 93).run Tryd.prog w = .ok (.agg (prow fun _ => 0)) w := by kernel_rfl

/-- 'clear' of a part of a page. -/
theorem run_clear (w : World) (ty : TypeId) (b lo hi cap : Nat) (g : Nat → Nat) (hb : w.heap[b]? = some (.cells (prow g) 93 (0, 0))) (h1 : lo ≤ hi) (h2 : hi ≤ 512) :
    (Builtin.clear_ #[41] ty #[.slice (some ⟨b, lo, none⟩) (hi - lo) cap]).run Tryd.prog w = .ok (.tuple #[]) (w.setRow b (prow fun i => if lo ≤ i ∧ i < hi then 0 else g i)) := by
  have hself : lo = hi → w.setRow b (prow fun i => if lo ≤ i ∧ i < hi then 0 else g i) = w := fun e => by
    rw [prow_congr (g := g) (fun i _ => if_neg (by omega))]
    exact setRow_self w b _ _ _ hb
  by_cases e : lo = hi
  · rw [hself e]
    subst e
    simp [Builtin.clear_, run_underlying Tryd.underlying41]
  · obtain ⟨n, hn⟩ : ∃ n, hi - lo = n + 1 := ⟨hi - lo - 1, by omega⟩
    have hz : (zeroValue 23).run Tryd.prog w = .ok (.int .u64 0) w := by kernel_rfl
    have hc : (Builtin.zeroCells (Value.int .u64 0).cells (hi - lo)).toList = List.replicate (hi - lo) (.int .u64 0) := by
      apply List.ext_getElem
      · simp [Builtin.zeroCells, Value.cells]
      · intro i h3 h4
        simp [Builtin.zeroCells, Value.cells, Nat.mod_one]
    have hst := run_storeCells_at (P := Tryd.prog) b lo 93 (List.replicate (hi - lo) (.int .u64 0)) 0 (prow g) w hb (by simp [prow_size]; omega) (by simp; intro _; rfl)
    have hrow : ((prow g).toList.take (lo + 0) ++ List.replicate (hi - lo) (Value.int .u64 0) ++ (prow g).toList.drop (lo + 0 + (List.replicate (hi - lo) (Value.int .u64 0)).length)).toArray = prow fun i => if lo ≤ i ∧ i < hi then 0 else g i := by
      apply Array.ext_getElem?
      intro i
      have hl : (prow g).toList.length = 512 := by simp [prow_size]
      have hg : ∀ j, j < 512 → (prow g).toList[j]? = some (.int .u64 (g j : Nat)) := fun j hj => by simpa using prow_get g j hj
      by_cases hi5 : i < 512
      · rw [prow_get _ _ hi5]
        simp only [List.getElem?_toArray]
        by_cases c1 : i < lo
        · rw [if_neg (by omega), List.append_assoc, List.getElem?_append_left (by simp [prow_size]; omega), List.getElem?_take, if_pos (by omega), hg i hi5]
        · rw [List.append_assoc, List.getElem?_append_right (by simp [prow_size]; omega)]
          have e1 : (List.take (lo + 0) (prow g).toList).length = lo := by simp [prow_size]; omega
          rw [e1]
          by_cases c2 : i < hi
          · rw [if_pos (by omega), List.getElem?_append_left (by simp; omega), List.getElem?_replicate, if_pos (by omega)]
            rfl
          · rw [if_neg (by omega), List.getElem?_append_right (by simp; omega), List.getElem?_drop]
            have e2 : lo + 0 + (List.replicate (hi - lo) (Value.int IntKind.u64 0)).length + (i - lo - (List.replicate (hi - lo) (Value.int IntKind.u64 0)).length) = i := by simp; omega
            rw [e2, hg i hi5]
      · rw [Array.getElem?_eq_none (by simp [prow_size]; omega), Array.getElem?_eq_none (by rw [prow_size]; omega)]
    rw [hrow] at hst
    rw [hn] at hc hst ⊢
    simp [Builtin.clear_, run_underlying Tryd.underlying41, hz, hc, hst, Result.andThen]
end Go.Proofs.YtcmndefjmhcbhaaDoor
