/- P10 -/
import Derived.Test.YtfdbdeckohaneaaGreatDoorRows
import Derived.Maps.RangeWalk
import Derived.OpenShut
import Derived.BigQuiet
import Derived.Deep.QuietTactic
import Derived.Laws.StructEq
import Derived.Great.Walk
import Derived.Test.YtfdbdeckohaneaaGreatDoorP01
import Derived.Test.YtfdbdeckohaneaaGreatDoorP08
import Derived.Great.BuildSlice
set_option maxHeartbeats 16000000
set_option maxRecDepth 100000
namespace Go.Proofs.YtfdbdeckohaneaaGreatDoor
open Go.RowKit Go.Maps
open Go.WideElems (Fit rd rg pl rd_key rd_val rg_of)
def qey (v : Value) : Option (DataW Unit × List MemPlace) :=
 match v with
 | .pointer (some a) => if a.off = 0 ∧ a.spot = none then some (.lit (.int .u64 a.block), []) else none
 | _ => none
def ptrV : Option Nat → Value
 | none => .pointer none
 | some b => .pointer (some ⟨b, 0, none⟩)
theorem ptrElem_mk (b : Nat) : qey (.pointer (some ⟨b, 0, none⟩)) = some (.lit (.int .u64 b), []) := by simp [qey]
theorem ptrElem_inv {v : Value} {y : DataW Unit × List MemPlace} (h : qey v = some y) : ∃ b : Nat, v = .pointer (some ⟨b, 0, none⟩) ∧ y = (.lit (.int .u64 b), []) := by
 unfold qey at h
 split at h
 ·rename_i a
  split at h
  ·rename_i hc
   obtain ⟨b, o, s⟩ := a
   obtain ⟨rfl, rfl⟩ := hc
   cases h
   exact ⟨b, rfl, rfl⟩
  ·cases h
 ·cases h
def pgOf (D : DataW Unit) (x : Nat) : Option Nat :=
 match D.atKey (.int .u64 x) .nil with
 | .lit (.int _ b) => some b.toNat
 | _ => none
theorem law : Keyed Tryz.prog 26 := int_keyed Tryz.underlying26
theorem wfu {x : Nat} (h : x < 18446744073709551616) : (Lit.int .u64 (x : Int)).wf = true := by
 simp [Lit.wf, IntKind.min, IntKind.max, IntKind.signed, IntKind.bits]
 omega
theorem keyx {x : Nat} (h : x < 18446744073709551616) : keyOf Tryz.prog 26 (.int .u64 (x : Int)) = some (.int .u64 x) := keyOf_int_mk Tryz.underlying26 (wfu h)
theorem zeroP (w : World) : (zeroValue 119).run Tryz.prog w = .ok (.pointer none) w := by kernel_rfl
def qcs (w : World) (mb n : Nat) (pg : Nat → Option Nat) : Prop := ∃ D : DataW Unit, w.ownsMap Tryz.prog 26 qey mb n D ∧ ∀ x, x < 18446744073709551616 → pg x = pgOf D x
def PRange (w : World) (mb r n : Nat) (pg : Nat → Option Nat) (left : Nat → Bool) (cnt : Nat) : Prop :=
 ∃ (D : DataW Unit) (lf : Lit → Bool), w.ranges Tryz.prog 26 qey mb r n D lf cnt ∧ (∀ x, x < 18446744073709551616 → pg x = pgOf D x) ∧ ∀ x : Nat, x < 18446744073709551616 → left x = lf (.int .u64 x)
theorem look_cases {w : World} {mb n : Nat} {D : DataW Unit} (h : w.ownsMap Tryz.prog 26 qey mb n D) {x : Nat} (hx : x < 18446744073709551616) :
  (Instr.lookup 126 (.map (some mb)) (.int .u64 x) false).run Tryz.prog w = .ok (ptrV (pgOf D x)) w ∧
  ((pgOf D x = none ∧ (∀ z, D.atKey (.int .u64 x) z = z)) ∨ ∃ b : Nat, pgOf D x = some b ∧ ∀ z, D.atKey (.int .u64 x) z = .lit (.int .u64 b)) := by
 obtain ⟨es, clock, hb, F, _, rfl⟩ := h
 rcases Maps.fit_look false law Tryz.underlying126 (zeroP w) hb F (keyx hx) with ⟨hrun, _, hat⟩ | ⟨e0, y, _, _, hrun, hRv, hat, _⟩
 ·have e : pgOf (DataW.map ((es.toList.map (rg Tryz.prog 26 qey)).foldr DataW.insert [])) x = none := by
   unfold pgOf; rw [hat]
  exact ⟨by rw [e]; exact hrun, Or.inl ⟨e, hat⟩⟩
 ·obtain ⟨b, hv, rfl⟩ := ptrElem_inv hRv
  have e : pgOf (DataW.map ((es.toList.map (rg Tryz.prog 26 qey)).foldr DataW.insert [])) x = some b := by
   unfold pgOf; rw [hat]; rfl
  refine ⟨by rw [e]; rw [hv] at hrun; exact hrun, Or.inr ⟨b, e, hat⟩⟩
theorem qcs.look {w : World} {mb n : Nat} {pg : Nat → Option Nat} (h : qcs w mb n pg) {x : Nat} (hx : x < 18446744073709551616) :
  (Instr.lookup 126 (.map (some mb)) (.int .u64 x) false).run Tryz.prog w = .ok (ptrV (pg x)) w := by
 obtain ⟨D, h1, h2⟩ := h
 rw [h2 x hx]
 exact (look_cases h1 hx).1
theorem qcs.lt {w : World} {mb n : Nat} {pg : Nat → Option Nat} (h : qcs w mb n pg) : mb < w.heap.size := by
 obtain ⟨D, h1, _⟩ := h
 exact h1.lt
theorem qcs.isMap {w : World} {mb n : Nat} {pg : Nat → Option Nat} (h : qcs w mb n pg) : ∃ es clock, w.heap[mb]? = some (.map es clock) := by
 obtain ⟨D, ⟨es, clock, hb, _⟩, _⟩ := h
 exact ⟨es, clock, hb⟩
theorem qcs.mono {w : World} {mb n n' : Nat} {pg : Nat → Option Nat} (h : qcs w mb n pg) (hn : n ≤ n') : qcs w mb n' pg := by
 obtain ⟨D, h1, h2⟩ := h
 exact ⟨D, h1.mono hn, h2⟩
theorem qcs.block {w w' : World} {mb n : Nat} {pg : Nat → Option Nat} (h : qcs w mb n pg) (hb : w'.heap[mb]? = w.heap[mb]?) : qcs w' mb n pg := by
 obtain ⟨D, ⟨es, clock, h1, h2⟩, h3⟩ := h
 exact ⟨D, ⟨es, clock, hb.trans h1, h2⟩, h3⟩
theorem qcs.made (w : World) : qcs (w.alloc (.map #[] 0)) w.heap.size 0 fun _ => none :=
 ⟨.map [], World.ownsMap_made _ _ _ _, fun _ _ => rfl⟩
theorem lit_ne {x y : Nat} (h : y ≠ x) : Lit.int .u64 (y : Int) ≠ Lit.int .u64 (x : Int) := fun e => h (by injection e with _ e; exact Int.ofNat_inj.1 e)
def updPg (pg : Nat → Option Nat) (x : Nat) (v : Option Nat) : Nat → Option Nat := fun y => if y = x then v else pg y
theorem qcs.store {w : World} {mb n : Nat} {pg : Nat → Option Nat} (h : qcs w mb n pg) (hn : n < 100000000) {x : Nat} (hx : x < 18446744073709551616) (b : Nat) :
  ∃ w', (Instr.mapUpdate 126 (.map (some mb)) (.int .u64 x) (.pointer (some ⟨b, 0, none⟩))).run Tryz.prog w = .ok () w' ∧ qcs w' mb (n + 1) (updPg pg x (some b)) ∧ w.mapTurned w' mb := by
 obtain ⟨D, h1, h2⟩ := h
 obtain ⟨w', hr, ho, ht⟩ := h1.store law Tryz.underlying126 (by unfold maxLen; omega) (keyx hx) (ptrElem_mk b)
 refine ⟨w', hr, ⟨_, ho, fun y hy => ?_⟩, ht⟩
 unfold updPg pgOf
 by_cases e : y = x
 ·subst e
  rw [if_pos rfl, atKey_put_same h1.isMap (law.key (keyx hx))]
  rfl
 ·rw [if_neg e, atKey_put_other (lit_ne e)]
  exact h2 y hy
theorem qcs.drop {w : World} {mb n : Nat} {pg : Nat → Option Nat} (h : qcs w mb n pg) {x : Nat} (hx : x < 18446744073709551616) (ty : TypeId) :
  ∃ w', (Builtin.delete_ #[126, 26] ty #[.map (some mb), .int .u64 x]).run Tryz.prog w = .ok (.tuple #[]) w' ∧ qcs w' mb n (updPg pg x none) ∧ w.mapTurned w' mb := by
 obtain ⟨D, h1, h2⟩ := h
 obtain ⟨w', hr, ho, ht⟩ := h1.drop law Tryz.underlying126 (keyx hx) ty
 refine ⟨w', hr, ⟨_, ho, fun y hy => ?_⟩, ht⟩
 unfold updPg pgOf
 by_cases e : y = x
 ·subst e
  rw [if_pos rfl, atKey_del_same]
 ·rw [if_neg e, atKey_del_other (lit_ne e)]
  exact h2 y hy
theorem PRange.left_eq {w : World} {mb r n : Nat} {pg : Nat → Option Nat} {left : Nat → Bool} {cnt : Nat} (h : PRange w mb r n pg left cnt) : w.rangeLeft mb r = cnt := by
 obtain ⟨D, lf, h1, h2, _⟩ := h
 exact h1.left_eq
theorem qcs.range {w : World} {mb n : Nat} {pg : Nat → Option Nat} (h : qcs w mb n pg) :
  ∃ w' cnt, (Instr.range 126 (.map (some mb))).run Tryz.prog w = .ok (.pointer (some ⟨w.heap.size, 0, none⟩)) w' ∧ PRange w' mb w.heap.size n pg (fun x => (pg x).isSome) cnt ∧ w.grownBy w' none ∧ w'.heap.size = w.heap.size + 1 ∧ cnt ≤ n := by
 obtain ⟨D, h1, h2⟩ := h
 obtain ⟨w', hr, h3, h4, h5⟩ := h1.range law Tryz.underlying126
 refine ⟨w', _, hr, ⟨D, _, h3, h2, fun x hx => ?_⟩, h4, h5, h1.size_le⟩
 show (pg x).isSome = _
 rw [h2 x hx]
 rcases (look_cases h1 hx).2 with ⟨e, hz⟩ | ⟨b, e, hz⟩
 ·rw [e, Maps.has_false_of_atKey hz]; rfl
 ·rw [e, Maps.has_true_of_atKey hz]; rfl
theorem PRange.next {w : World} {mb r n : Nat} {pg : Nat → Option Nat} {left : Nat → Bool} {cnt : Nat} (h : PRange w mb r n pg left cnt) (ty : TypeId) :
  ((∀ x, x < 18446744073709551616 → left x = false) ∧ (Instr.next (.pointer (some ⟨r, 0, none⟩)) false ty).run Tryz.prog w = .ok (.tuple #[.bool false]) w) ∨
  ∃ x b w' cnt', x < 18446744073709551616 ∧ left x = true ∧ pg x = some b ∧ (Instr.next (.pointer (some ⟨r, 0, none⟩)) false ty).run Tryz.prog w = .ok (.tuple #[.bool true, .int .u64 x, .pointer (some ⟨b, 0, none⟩)]) w' ∧
   PRange w' mb r n pg (fun y => left y && !decide (y = x)) cnt' ∧ cnt' < cnt ∧ w.grownBy w' (some r) ∧ w'.heap.size = w.heap.size ∧
   (Instr.entry (.pointer (some ⟨r, 0, none⟩))).run Tryz.prog w' = .ok (.tuple #[.int .u64 x, .pointer (some ⟨b, 0, none⟩)]) w' := by
 obtain ⟨D, lf, h1, h2, h3⟩ := h
 rcases h1.next law ty with ⟨h0, hl, hrun⟩ | ⟨key, v, kl, y, w', cnt', hkey, hlk, hv, hat, hrun, hrg, hlt, hgr, hsz, hen⟩
 ·exact Or.inl ⟨fun x hx => by rw [h3 x hx, hl], hrun⟩
 ·obtain ⟨a, rfl, rfl, hwf⟩ := Maps.keyOf_int_inv Tryz.underlying26 hkey
  obtain ⟨b, rfl, rfl⟩ := ptrElem_inv hv
  replace hwf := bounds_u64 hwf
  obtain ⟨x, rfl⟩ := Int.eq_ofNat_of_zero_le hwf.1
  have hx : x < 18446744073709551616 := by omega
  have hp : pg x = some b := by
   rw [h2 x hx]; unfold pgOf; rw [hat]; rfl
  refine Or.inr ⟨x, b, w', cnt', hx, by rw [h3 x hx]; exact hlk, hp, hrun, ⟨D, _, hrg, h2, fun y hy => ?_⟩, hlt, hgr, hsz, hen⟩
  show (left y && !decide (y = x)) = _
  rw [h3 y hy]
  refine congrArg (fun b : Bool => _ && b) ?_
  by_cases e : y = x
  ·subst e
   rw [WideAt.sameKey_self (law.key (keyx hy))]; simp
  ·have : (Lit.int .u64 (y : Int)).sameKey (.int .u64 x) = false := Maps.sameKey_ne (lit_ne e)
   rw [this]; simp [e]
def prow (f : Nat → Nat) : Array Value := ((List.range 512).map fun i => Value.int .u64 (f i : Nat)).toArray
theorem qcc (f : Nat → Nat) : (prow f).size = 512 := by simp [prow]
theorem qdh (f : Nat → Nat) (i : Nat) (h : i < 512) : (prow f)[i]? = some (.int .u64 (f i : Nat)) := by
 simp [prow, h]
theorem qdq {f g : Nat → Nat} (h : ∀ i, i < 512 → f i = g i) : prow f = prow g := by
 exact congrArg List.toArray (List.map_congr_left fun a ha => by rw [h a (List.mem_range.1 ha)])
theorem prow_set (f : Nat → Nat) (i v : Nat) (h : i < 512) : (prow f).setIfInBounds i (.int .u64 v) = prow (fun j => if j = i then v else f j) := by
 apply Array.ext_getElem?
 intro j
 rw [Array.getElem?_setIfInBounds]
 by_cases hj : i = j
 ·subst hj
  rw [if_pos rfl, qcc, if_pos h, qdh _ _ h, if_pos rfl]
 ·rw [if_neg hj]
  by_cases h64 : j < 512
  ·rw [qdh _ _ h64, qdh _ _ h64, if_neg (fun e => hj e.symm)]
  ·rw [Array.getElem?_eq_none (by rw [qcc]; omega), Array.getElem?_eq_none (by rw [qcc]; omega)]
theorem info_page (f : Nat → Nat) : (Tryz.prog.info? 160).map (·.size) = some (prow f).size := by
 rw [qcc]; kernel_rfl
def eqPg (f g : Nat → Nat) : Bool := (List.range 512).all fun i => f i == g i
theorem eqPg_iff (f g : Nat → Nat) : eqPg f g = true ↔ ∀ i, i < 512 → f i = g i := by
 unfold eqPg
 rw [List.all_eq_true]
 constructor
 ·intro h i hi
  simpa using h i (List.mem_range.2 hi)
 ·intro h i hi
  simpa using h i (List.mem_range.1 hi)
theorem sizeU (w : World) : (sizeOf 26).run Tryz.prog w = .ok 1 w := by kernel_rfl
theorem arrU : ∃ e, Tryz.prog.underlying 160 = some (.array 512 e) ∧ Tryz.prog.underlying e = some (.int .u64) ∧ ∀ w, (sizeOf e).run Tryz.prog w = .ok 1 w := ⟨26, by kernel_rfl, Tryz.underlying26, sizeU⟩
theorem run_eqIn (f g : Nat → Nat) (w : World) : (Op.equalIn 10000 160 (.agg (prow f)) (.agg (prow g))).run Tryz.prog w = .ok (eqPg f g) w := by
 obtain ⟨e, ht, he, hsz⟩ := arrU
 show (Op.equalIn (9998 + 2) 160 (.agg (prow f)) (.agg (prow g))).run Tryz.prog w = _
 rw [Op.equalIn]
 unfold eqPg
 rw [List.range_eq_range']
 simp only [Sem.run_bind, run_underlying ht, Result.andThen_ok, hsz, Std.Legacy.Range.forIn_eq_forIn_range', Std.Legacy.Range.size, Nat.sub_zero, Nat.add_sub_cancel, Nat.div_one]
 have hl : ∀ i ∈ List.range' 0 512 1, i < 512 := fun i hi => by simpa using (List.mem_range'_1.1 hi).2
 generalize List.range' 0 512 1 = l at hl ⊢
 induction l with
 | nil => simp
 | cons i l ih =>
  have hi : i < 512 := hl i (by simp)
  have px : (part e (prow f) (i * 1)).run Tryz.prog w = .ok (.int .u64 (f i : Nat)) w := by
   simp [part, isAgg, run_underlying he, qdh f i hi]
  have py : (part e (prow g) (i * 1)).run Tryz.prog w = .ok (.int .u64 (g i : Nat)) w := by
   simp [part, isAgg, run_underlying he, qdh g i hi]
  have pe : (Op.equalIn 9999 e (.int .u64 (f i : Nat)) (.int .u64 (g i : Nat))).run Tryz.prog w = .ok (f i == g i) w := by
   have hq : ((f i : Int) == (g i : Int)) = (f i == g i) := by
    rw [Bool.eq_iff_iff]; simp; omega
   rw [run_equalIn_int w 9998 e .u64 .u64 _ _ he, hq]
  simp only [List.forIn_cons, Sem.run_bind, px, py, pe, Result.andThen_ok, List.all_cons]
  cases hb : (f i == g i)
  ·simp
  ·simp only [Bool.not_true, Bool.false_eq_true, if_false, Sem.run_pure, Result.andThen_ok, Bool.true_and]
   exact ih fun j hj => hl j (by simp [hj])
theorem guardP : Tryz.prog.eqGuardType Tryz.prog.depth 160 = false := by kernel_rfl
section
variable {ops : Array Oper} {rest : List Oper} {o : Oper} {a : Act} {w : World} {Q : Exit → Act → World → Prop}
theorem wpList_eqPage (hg : o.guard = none) (x y : Operand) (t : TypeId) (ho : o.op = .binOp .eql 160 x y t) (f g : Nat → Nat) (hx : a.eval x = .agg (prow f)) (hy : a.eval y = .agg (prow g))
  (h : wpList Tryz.prog ops Q rest (a.put o.dst (.bool (eqPg f g))) w) : wpList Tryz.prog ops Q (o :: rest) a w := by
 refine Great.wpList_runTo hg _ rfl (.bool (eqPg f g)) w ?_ h
 simp only [execOp, ho, hx, hy, Sem.run_bind, run_eqGuard_agg w _ _ _ _ _ _ guardP, Result.andThen_ok, run_eql_struct, run_eqIn]
 rfl
end
theorem zeroA (w : World) : (zeroValue 160).run Tryz.prog w = .ok (.agg (prow fun _ => 0)) w := by kernel_rfl
theorem run_clear (w : World) (ty : TypeId) (b lo hi cap : Nat) (g : Nat → Nat) (hb : w.heap[b]? = some (.cells (prow g) 160 (0, 0))) (h1 : lo ≤ hi) (h2 : hi ≤ 512) :
  (Builtin.clear_ #[158] ty #[.slice (some ⟨b, lo, none⟩) (hi - lo) cap]).run Tryz.prog w = .ok (.tuple #[]) (w.setRow b (prow fun i => if lo ≤ i ∧ i < hi then 0 else g i)) := by
 have hself : lo = hi → w.setRow b (prow fun i => if lo ≤ i ∧ i < hi then 0 else g i) = w := fun e => by
  rw [qdq (g := g) (fun i _ => if_neg (by omega))]
  exact setRow_self w b _ _ _ hb
 by_cases e : lo = hi
 ·rw [hself e]
  subst e
  simp [Builtin.clear_, run_underlying Tryz.underlying158]
 ·obtain ⟨n, hn⟩ : ∃ n, hi - lo = n + 1 := ⟨hi - lo - 1, by omega⟩
  have hz : (zeroValue 26).run Tryz.prog w = .ok (.int .u64 0) w := by kernel_rfl
  have hc : (Builtin.zeroCells (Value.int .u64 0).cells (hi - lo)).toList = List.replicate (hi - lo) (.int .u64 0) := by
   apply List.ext_getElem
   ·simp [Builtin.zeroCells, Value.cells]
   ·intro i h3 h4
    simp [Builtin.zeroCells, Value.cells, Nat.mod_one]
  have hst := run_storeCells_at (P := Tryz.prog) b lo 160 (List.replicate (hi - lo) (.int .u64 0)) 0 (prow g) w hb (by simp [qcc]; omega) (by simp; intro _; rfl)
  have hrow : ((prow g).toList.take (lo + 0) ++ List.replicate (hi - lo) (Value.int .u64 0) ++ (prow g).toList.drop (lo + 0 + (List.replicate (hi - lo) (Value.int .u64 0)).length)).toArray = prow fun i => if lo ≤ i ∧ i < hi then 0 else g i := by
   apply Array.ext_getElem?
   intro i
   have hl : (prow g).toList.length = 512 := by simp [qcc]
   have hg : ∀ j, j < 512 → (prow g).toList[j]? = some (.int .u64 (g j : Nat)) := fun j hj => by simpa using qdh g j hj
   by_cases hi5 : i < 512
   ·rw [qdh _ _ hi5]
    simp only [List.getElem?_toArray]
    by_cases c1 : i < lo
    ·rw [if_neg (by omega), List.append_assoc, List.getElem?_append_left (by simp [qcc]; omega), List.getElem?_take, if_pos (by omega), hg i hi5]
    ·rw [List.append_assoc, List.getElem?_append_right (by simp [qcc]; omega)]
     have e1 : (List.take (lo + 0) (prow g).toList).length = lo := by simp [qcc]; omega
     rw [e1]
     by_cases c2 : i < hi
     ·rw [if_pos (by omega), List.getElem?_append_left (by simp; omega), List.getElem?_replicate, if_pos (by omega)]
      rfl
     ·rw [if_neg (by omega), List.getElem?_append_right (by simp; omega), List.getElem?_drop]
      have e2 : lo + 0 + (List.replicate (hi - lo) (Value.int IntKind.u64 0)).length + (i - lo - (List.replicate (hi - lo) (Value.int IntKind.u64 0)).length) = i := by simp; omega
      rw [e2, hg i hi5]
   ·rw [Array.getElem?_eq_none (by simp [qcc]; omega), Array.getElem?_eq_none (by rw [qcc]; omega)]
  rw [hrow] at hst
  rw [hn] at hc hst ⊢
  simp [Builtin.clear_, run_underlying Tryz.underlying158, hz, hc, hst, Result.andThen]
def dn (x : Nat) : Nat := x / 4096 * 4096
theorem dn_le (x : Nat) : dn x ≤ x := Nat.div_mul_le_self _ _
theorem dn_mod (x : Nat) : dn x % 4096 = 0 := Nat.mul_mod_left _ _
theorem dn_lt (x : Nat) : x < dn x + 4096 := by unfold dn; omega
def plc (x : Nat) : Nat := x % 4096 / 8
theorem plc_lt (x : Nat) : plc x < 512 := by unfold plc; omega
theorem dn_plc {x : Nat} (h : x % 8 = 0) : dn x + 8 * plc x = x := by unfold dn plc; omega
def errA (S x : Nat) : Int := if x % 8 ≠ 0 then 13 else if S ≤ x then 12 else 0
theorem andn_12 (x : Nat) (hx : x < 18446744073709551616) : andn x 4095 = dn x := by
 apply Nat.eq_of_testBit_eq
 intro i
 rw [qek _ _ _ (by decide)]
 have e1 : (4095 : Nat).testBit i = decide (i < 12) := Nat.testBit_two_pow_sub_one 12 i
 have e2 : (dn x).testBit i = (decide (12 ≤ i) && x.testBit i) := by
  show (x / 2 ^ 12 * 2 ^ 12).testBit i = _
  rw [Nat.testBit_mul_two_pow, Nat.testBit_div_two_pow]
  by_cases h : 12 ≤ i
  ·simp [h]
  ·simp [h]
 rw [e1, e2]
 by_cases h : 12 ≤ i
 ·by_cases h6 : i < 64
  ·simp [h, h6]
  ·rw [high_bit x i hx (by omega)]; simp
 ·simp [h]; omega
theorem ones_c (n : Nat) (hn : n = 3 ∨ n = 12) (w : World) :
  Calls Tryz.prog 78 #[.int .i64 n] w fun e w' => e = .returned (.int .u64 ((2 ^ n - 1 : Nat) : Int)) ∧ w = w' := by
 rcases hn with rfl | rfl
 ·go_enter Tryz.func78, Tryz.ntmps78
  go_wp2
  go_ret
  exact ⟨rfl, rfl⟩
 ·go_enter Tryz.func78, Tryz.ntmps78
  go_wp2
  go_ret
  exact ⟨rfl, rfl⟩
theorem down_c (x : Nat) (hx : x < 18446744073709551616) (w : World) :
  Calls Tryz.prog 42 #[.int .u64 x, .int .i64 12] w fun e w' => e = .returned (.int .u64 ((dn x : Nat) : Int)) ∧ w = w' := by
 have hb : bits .andNot .u64 (x : Int) 4095 = ((dn x : Nat) : Int) := by
  have := qfc x 4095 hx (by decide)
  rw [andn_12 x hx] at this
  exact this
 go_enter Tryz.func42, Tryz.ntmps42
 go_wp2_with fail
 refine (ones_c 12 (Or.inr rfl) w).mono ?_
 rintro e w1 ⟨rfl, rfl⟩
 go_wp2
 go_ret
 exact ⟨rfl, rfl⟩
theorem bits_andW (a b : Nat) (ha : a < 18446744073709551616) (hb : b < 18446744073709551616) : bits .and .u64 (a : Int) (b : Int) = ((a &&& b : Nat) : Int) := by
 have h1 : (BitVec.ofInt 64 (a : Int)) = BitVec.ofNat 64 a := BitVec.ofInt_natCast 64 a
 have h2 : (BitVec.ofInt 64 (b : Int)) = BitVec.ofNat 64 b := BitVec.ofInt_natCast 64 b
 show IntKind.u64.wrap ((BitVec.ofInt 64 (a : Int) &&& BitVec.ofInt 64 (b : Int)).toNat : Int) = _
 rw [h1, h2, IntKind.wrap_u64]
 have h3 : (BitVec.ofNat 64 a &&& BitVec.ofNat 64 b).toNat = a &&& b := by
  rw [BitVec.toNat_and, BitVec.toNat_ofNat, BitVec.toNat_ofNat, Nat.mod_eq_of_lt ha, Nat.mod_eq_of_lt hb]
 rw [h3]
 have : a &&& b ≤ a := Nat.and_le_left
 omega
def alB (x n : Nat) : Bool := decide (x % 2 ^ n = 0)
theorem aligned_c (x n : Nat) (hn : n = 3 ∨ n = 12) (hx : x < 18446744073709551616) (w : World) :
  Calls Tryz.prog 51 #[.int .u64 x, .int .i64 n] w fun e w' => e = .returned (.bool (alB x n)) ∧ w = w' := by
 have hl : 2 ^ n - 1 < 18446744073709551616 := by rcases hn with rfl | rfl <;> decide
 have hb := bits_andW x (2 ^ n - 1) hx hl
 rw [Nat.and_two_pow_sub_one_eq_mod] at hb
 have HE : Hid (alB x n = decide (((x % 2 ^ n : Nat) : Int) = 0)) := by
  show alB x n = _
  unfold alB
  rw [decide_eq_decide]; omega
 go_enter Tryz.func51, Tryz.ntmps51
 go_wp2_with fail
 refine (ones_c n hn w).mono ?_
 rintro e w1 ⟨rfl, rfl⟩
 generalize 2 ^ n - 1 = m at *
 generalize x % 2 ^ n = r at *
 go_wp2
 go_ret
 refine ⟨?_, rfl⟩
 rw [HE.out]
 first
  | rfl
  | simp
theorem place_c (x : Nat) (hx : x < 18446744073709551616) (w : World) :
  Calls Tryz.prog 44 #[.int .u64 x] w fun e w' => e = .returned (.int .u64 ((plc x : Nat) : Int)) ∧ w = w' := by
 have HE : Hid (((plc x : Nat) : Int) = ((x : Int) % 4096) / 8) := by
  show ((plc x : Nat) : Int) = _
  unfold plc; omega
 go_enter Tryz.func44, Tryz.ntmps44
 go_wp2
 go_ret
 refine ⟨?_, rfl⟩
 rw [HE.out]
 first
  | rfl
  | (congr 2; done)
  | (congr 2; omega)
structure Mem (w : World) (X : Nat → Prop) (a S n : Nat) (f : Nat → Nat) (mb : Nat) (pg : Nat → Option Nat) : Prop where
 str : w.heap[a]? = some (.cells #[.int .u64 S, .map (some mb)] 128 (0, 0))
 pgs : qcs w mb n pg
 xa : X a
 xm : X mb
 xlt : ∀ i, X i → i < w.heap.size
 s0 : 65536 ≤ S ∧ S ≤ 4294967296 ∧ S % 4096 = 0
 page : ∀ x b, pg x = some b → X b ∧ x % 4096 = 0 ∧ x < S ∧ w.heap[b]? = some (.cells (prow fun i => f (x + 8 * i)) 160 (0, 0)) ∧ ∃ i, i < 512 ∧ f (x + 8 * i) ≠ 0
 inj : ∀ x y b, pg x = some b → pg y = some b → x = y
 zero : ∀ x, x % 4096 = 0 → pg x = none → ∀ i, i < 512 → f (x + 8 * i) = 0
 fl : ∀ x, f x < 18446744073709551616
 out : ∀ x, (x % 8 ≠ 0 ∨ S ≤ x) → f x = 0
def qcw (w : World) (X : Nat → Prop) (a S n : Nat) (f : Nat → Nat) : Prop := ∃ mb pg, Mem w X a S n f mb pg
def Gr (X : Nat → Prop) (w w' : World) : Nat → Prop := fun i => X i ∨ (w.heap.size ≤ i ∧ i < w'.heap.size)
theorem Mem.kept {w w' : World} {X : Nat → Prop} {a S n : Nat} {f : Nat → Nat} {mb : Nat} {pg : Nat → Option Nat} (h : Mem w X a S n f mb pg) (hb : ∀ i, X i → w'.heap[i]? = w.heap[i]?) (hs : w.heap.size ≤ w'.heap.size) : Mem w' X a S n f mb pg :=
 ⟨(hb a h.xa).trans h.str, h.pgs.block (hb mb h.xm), h.xa, h.xm, fun i hi => Nat.lt_of_lt_of_le (h.xlt i hi) hs, h.s0,
  fun x b e => by obtain ⟨h1, h2, h3, h4, h5⟩ := h.page x b e; exact ⟨h1, h2, h3, (hb b h1).trans h4, h5⟩, h.inj, h.zero, h.fl, h.out⟩
theorem Mem.wide {w : World} {X Y : Nat → Prop} {a S n : Nat} {f : Nat → Nat} {mb : Nat} {pg : Nat → Option Nat} (h : Mem w X a S n f mb pg) (hXY : ∀ i, X i → Y i) (hlt : ∀ i, Y i → i < w.heap.size) : Mem w Y a S n f mb pg :=
 ⟨h.str, h.pgs, hXY _ h.xa, hXY _ h.xm, hlt, h.s0, fun x b e => by obtain ⟨h1, h2⟩ := h.page x b e; exact ⟨hXY _ h1, h2⟩, h.inj, h.zero, h.fl, h.out⟩
theorem qcw.below {w w' : World} {X : Nat → Prop} {a S n : Nat} {f : Nat → Nat} (h : qcw w X a S n f) (hb : Below w.heap.size w w') : qcw w' X a S n f := by
 obtain ⟨mb, pg, h⟩ := h
 exact ⟨mb, pg, h.kept (fun i hi => hb.block i (h.xlt i hi)) hb.size⟩
theorem qcw.turn {w w' : World} {X Y : Nat → Prop} {a S n : Nat} {f : Nat → Nat} (h : qcw w X a S n f) (hb : Turn Y w w') (hd : ∀ i, X i → ¬ Y i) : qcw w' X a S n f := by
 obtain ⟨mb, pg, h⟩ := h
 exact ⟨mb, pg, h.kept (fun i hi => hb.block i (h.xlt i hi) (hd i hi)) hb.size⟩
theorem qcw.lt {w : World} {X : Nat → Prop} {a S n : Nat} {f : Nat → Nat} (h : qcw w X a S n f) : ∀ i, X i → i < w.heap.size := by
 obtain ⟨mb, pg, h⟩ := h
 exact h.xlt
theorem Mem.c0 {w : World} {X : Nat → Prop} {a S n : Nat} {f : Nat → Nat} {mb : Nat} {pg : Nat → Option Nat} (h : Mem w X a S n f mb pg) : w.cell? ⟨a, 0, none⟩ = some (.int .u64 S) := by simp [World.cell?, h.str]
theorem Mem.c1 {w : World} {X : Nat → Prop} {a S n : Nat} {f : Nat → Nat} {mb : Nat} {pg : Nat → Option Nat} (h : Mem w X a S n f mb pg) : w.cell? ⟨a, 1, none⟩ = some (.map (some mb)) := by simp [World.cell?, h.str]
theorem zP10x01 {Z : Prop} (z : Z := by
 go_enter Tryz.func40, Tryz.ntmps40
 go_wp2_with fail
 refine (aligned_c x 3 (Or.inl rfl) hx w).mono ?_
 rintro e w1 ⟨rfl, rfl⟩
 rw [hal]
 go_wp2
 go_ret
 exact ⟨by rw [HE.out]; rfl, rfl⟩) : Z := z
theorem check_c {w : World} {a S : Nat} (x : Nat) (hx : x < 18446744073709551616) (c0 : w.cell? ⟨a, 0, none⟩ = some (.int .u64 S)) :
  Calls Tryz.prog 40 #[.pointer (some ⟨a, 0, none⟩), .int .u64 x] w fun e w' => e = .returned (.int .i64 (errA S x)) ∧ w = w' := by
 cases hal : alB x 3
 ·have HE : Hid (errA S x = 13) := by
   show errA S x = 13
   have := of_decide_eq_false hal
   unfold errA; rw [if_pos this]
  exact zP10x01
 ·have h8 := of_decide_eq_true hal
  by_cases hS : S ≤ x
  ·have HE : Hid (errA S x = 12) := by
    show errA S x = 12
    unfold errA; rw [if_neg (fun c => c h8), if_pos hS]
   exact zP10x01
  ·have HE : Hid (errA S x = 0) := by
    show errA S x = 0
    unfold errA; rw [if_neg (fun c => c h8), if_neg hS]
   exact zP10x01
theorem new_ok (S : Nat) (hb : 65536 ≤ S ∧ S ≤ 4294967296 ∧ S % 4096 = 0) (w : World) :
  Calls Tryz.prog 14 #[.int .u64 S] w fun e w' => ∃ a, e = .returned (.tuple #[.pointer (some ⟨a, 0, none⟩), .int .i64 0]) ∧ qcw w' (fun i => w.heap.size ≤ i ∧ i < w'.heap.size) a S 0 (fun _ => 0) ∧ Below w.heap.size w w' := by
 have HB : Hid (65536 ≤ S ∧ S ≤ 4294967296 ∧ S % 4096 = 0) := hb
 have d1 : decide ((S : Int) < 65536) = false := decide_eq_false (by omega)
 have d2 : decide ((4294967296 : Int) < S) = false := decide_eq_false (by omega)
 have hal : alB S 12 = true := decide_eq_true hb.2.2
 have hS : S < 18446744073709551616 := by omega
 clear hb
 have hmm := @run_makeMap Tryz.prog
 go_enter Tryz.func14, Tryz.ntmps14
 go_wp2_with fail
 refine (aligned_c S 12 (Or.inr rfl) hS w).mono ?_
 rintro e w1 ⟨rfl, rfl⟩
 rw [hal]
 go_wp2
 go_ret2
 refine ⟨w.heap.size + 1, rfl, ⟨w.heap.size, fun _ => none, ?_, ?_, ?_, ?_, ?_, HB.out, ?_, ?_, ?_, ?_, ?_⟩, ((Below.refl _ _).alloc (Nat.le_refl _) _).alloc (by simp) _⟩
 ·have := heap_alloc_new (w.alloc (.map #[] 0)) (.cells #[.int .u64 S, .map (some w.heap.size)] 128)
  simpa using this
 ·refine (qcs.made w).block ?_
  exact Below.heap_alloc _ _ _ (by simp)
 ·simp
 ·simp; omega
 ·intro i hi; exact hi.2
 ·intro x b e; cases e
 ·intro x y b e; cases e
 ·intros; rfl
 ·intro x; decide
 ·intros; rfl
theorem size_c {w : World} {a S : Nat} (c0 : w.cell? ⟨a, 0, none⟩ = some (.int .u64 S)) :
  Calls Tryz.prog 151 #[.pointer (some ⟨a, 0, none⟩)] w fun e w' => e = .returned (.int .u64 S) ∧ w = w' := by
 go_enter Tryz.func151, Tryz.ntmps151
 go_wp2
 go_ret
 exact ⟨rfl, rfl⟩
theorem zP10x02 {Z : Prop} (z : Z := by
 unfold errA at he
 by_cases q : x % 8 = 0
 ·rw [if_neg (fun c => c q)] at he
  by_cases q2 : S ≤ x
  ·rw [if_pos q2] at he; cases he
  ·exact ⟨q, by omega⟩
 ·rw [if_pos q] at he; cases he) : Z := z
theorem read_c {w : World} {X : Nat → Prop} {a S n : Nat} {f : Nat → Nat} (h : qcw w X a S n f) (x : Nat) (hx : x < 18446744073709551616) :
  Calls Tryz.prog 34 #[.pointer (some ⟨a, 0, none⟩), .int .u64 x] w fun e w' => e = .returned (.tuple #[.int .u64 (f x : Nat), .int .i64 (errA S x)]) ∧ Below w.heap.size w w' := by
 obtain ⟨mb, pg, h⟩ := h
 have c0 := h.c0
 have c1 := h.c1
 by_cases he : errA S x = 0
 ·have h8 : x % 8 = 0 ∧ x < S := by
   exact zP10x02
  have hdl : dn x < 18446744073709551616 := Nat.lt_of_le_of_lt (dn_le x) hx
  cases hpg : pg (dn x) with
  | none =>
   have hlook : ∀ k, (Instr.lookup 126 (.map (some mb)) (.int .u64 ((dn x : Nat) : Int)) false).run Tryz.prog (w.drewN k) = .ok (.pointer none) (w.drewN k) := fun k => by
    have := (h.pgs.block (w' := w.drewN k) (by rfl)).look hdl
    rw [hpg] at this
    exact this
   have HF : Hid (f x = 0) := by
    show f x = 0
    have := h.zero (dn x) (dn_mod x) hpg (plc x) (plc_lt x)
    rwa [dn_plc h8.1] at this
   have hck := check_c x hx c0
   rw [he] at hck
   clear h
   go_enter Tryz.func34, Tryz.ntmps34
   go_wp2_with fail
   refine hck.mono ?_
   rintro e w1 ⟨rfl, rfl⟩
   go_wp2
   go_quiet ((refine Calls.quiet_of_same ((down_c x hx _).mono (fun e w1 hh => ⟨hh.1, hh.2.symm⟩))))
   go_wp2
   go_ret2
   exact ⟨by rw [HF.out, he]; rfl, ⟨rfl, rfl, rfl, Nat.le_refl _, fun _ _ => rfl⟩⟩
  | some b =>
   obtain ⟨_, _, _, hrow, _⟩ := h.page _ _ hpg
   have hlook : ∀ k, (Instr.lookup 126 (.map (some mb)) (.int .u64 ((dn x : Nat) : Int)) false).run Tryz.prog (w.drewN k) = .ok (.pointer (some ⟨b, 0, none⟩)) (w.drewN k) := fun k => by
    have := (h.pgs.block (w' := w.drewN k) (by rfl)).look hdl
    rw [hpg] at this
    exact this
   have hcell : w.cell? ⟨b, plc x, none⟩ = some (.int .u64 (f x : Nat)) := by
    rw [cell_of_row _ _ _ _ _ _ hrow, qdh _ _ (plc_lt x), dn_plc h8.1]
   have hpl := plc_lt x
   have hck := check_c x hx c0
   rw [he] at hck
   clear h hrow
   have hplace := place_c x hx
   generalize plc x = P at hcell hpl hplace
   go_enter Tryz.func34, Tryz.ntmps34
   go_wp2_with fail
   refine hck.mono ?_
   rintro e w1 ⟨rfl, rfl⟩
   go_wp2
   go_quiet ((refine Calls.quiet_of_same ((down_c x hx _).mono (fun e w1 hh => ⟨hh.1, hh.2.symm⟩))))
   go_wp2
   have hcell1 : (w.drewN nq).cell? ⟨b, P, none⟩ = some (.int .u64 (f x : Nat)) := hcell
   have hB : Below w.heap.size w (w.drewN nq) := ⟨rfl, rfl, rfl, Nat.le_refl _, fun _ _ => rfl⟩
   clear hlook hcell c0 c1 hck
   generalize w.drewN nq = w1 at *
   go_quiet ((refine Calls.quiet_of_same ((hplace _).mono (fun e w1 hh => ⟨hh.1, hh.2.symm⟩))))
   go_wp2
   go_ret2
   exact ⟨by rw [he]; rfl, hB.trans ⟨rfl, rfl, rfl, Nat.le_refl _, fun _ _ => rfl⟩⟩
 ·have hz : f x = 0 := by
   apply h.out
   unfold errA at he
   by_cases q : x % 8 = 0
   ·rw [if_neg (fun c => c q)] at he
    by_cases q2 : S ≤ x
    ·exact Or.inr q2
    ·rw [if_neg q2] at he; exact absurd rfl he
   ·exact Or.inl q
  have HF : Hid (f x = 0) := hz
  have hck := check_c x hx c0
  clear h hz
  generalize hE : errA S x = E at *
  go_enter Tryz.func34, Tryz.ntmps34
  go_wp2_with fail
  refine hck.mono ?_
  rintro e w1 ⟨rfl, rfl⟩
  go_wp2
  go_ret2
  exact ⟨by rw [HF.out]; rfl, Below.refl _ _⟩
theorem qcs.look_at {w : World} {mb n : Nat} {pg : Nat → Option Nat} (h : qcs w mb n pg) {x : Nat} (hx : x < 18446744073709551616) {v : Value} (hv : ptrV (pg x) = v) :
  (Instr.lookup 126 (.map (some mb)) (.int .u64 x) false).run Tryz.prog w = .ok v w := hv ▸ h.look hx
theorem turned_turn {w w' : World} {b : Nat} (h : w.mapTurned w' b) : Turn (fun i => i = b) w w' := qdg h.grown rfl
theorem open_c {w : World} {X : Nat → Prop} {a S n : Nat} {f : Nat → Nat} {mb : Nat} {pg : Nat → Option Nat} (h : Mem w X a S n f mb pg) (hn : n < 100000000) (x : Nat) (hx : x < 18446744073709551616) (hm : x % 4096 = 0) :
  Calls Tryz.prog 43 #[.pointer (some ⟨a, 0, none⟩), .int .u64 x] w fun e w' => ∃ b, e = .returned (.pointer (some ⟨b, 0, none⟩)) ∧ (pg x = some b ∨ (pg x = none ∧ w.heap.size ≤ b)) ∧
   w'.heap[b]? = some (.cells (prow fun i => f (x + 8 * i)) 160 (0, 0)) ∧ qcs w' mb (n + 1) (updPg pg x (some b)) ∧ Turn (fun i => i = mb) w w' := by
 have c0 := h.c0
 have c1 := h.c1
 cases hpg : pg x with
 | some b =>
  obtain ⟨_, _, _, hrow, _⟩ := h.page _ _ hpg
  have hlook := h.pgs.look_at hx (v := .pointer (some ⟨b, 0, none⟩)) (by rw [hpg]; rfl)
  have HR : Hid (w.heap[b]? = some (.cells (prow fun i => f (x + 8 * i)) 160 (0, 0))) := hrow
  have HH : Hid (Mem w X a S n f mb pg) := h
  clear hrow h
  go_enter Tryz.func43, Tryz.ntmps43
  go_wp2
  go_ret
  have h := HH.out
  refine ⟨b, rfl, Or.inl rfl, HR.out, ?_, Turn.refl _ _⟩
  have e : updPg pg x (some b) = pg := by
   funext y
   unfold updPg
   by_cases q : y = x
   ·rw [if_pos q, q, hpg]
   ·rw [if_neg q]
  rw [e]
  exact h.pgs.mono (by omega)
 | none =>
  have hlook := h.pgs.look_at hx (v := .pointer none) (by rw [hpg]; rfl)
  have hnew := heap_alloc_new w (.cells (prow fun _ => 0) 160 (0, 0))
  have ha : a < w.heap.size := h.xlt _ h.xa
  have hmb : mb < w.heap.size := h.xlt _ h.xm
  have hP := h.pgs.block (w' := w.alloc (.cells (prow fun _ => 0) 160 (0, 0))) (Below.heap_alloc _ _ _ hmb)
  obtain ⟨w2, hst, hpg2, htu⟩ := hP.store hn hx w.heap.size
  have HZ : Hid (∀ i, i < 512 → f (x + 8 * i) = 0) := h.zero x hm hpg
  have hzA := zeroA
  clear h hP
  generalize hpr : prow (fun _ => 0) = PR at *
  go_enter Tryz.func43, Tryz.ntmps43
  go_wp2
  go_ret
  refine ⟨w.heap.size, rfl, Or.inr ⟨by trivial, Nat.le_refl _⟩, ?_, hpg2, ?_⟩
  ·rw [htu.grown.block w.heap.size (by simp) (fun e => by cases e; omega), hnew, ← hpr]
   rw [qdq (fun i hi => (HZ.out i hi).symm)]
  ·exact (qak _ ((Below.refl _ _).alloc (Nat.le_refl _) _)).trans (turned_turn htu) (fun i _ hi => hi)
def updF (f : Nat → Nat) (x v : Nat) : Nat → Nat := fun y => if y = x then v else f y
theorem dn_idx {x y i : Nat} (hx : x % 8 = 0) (hy : y % 4096 = 0) (hi : i < 512) : y + 8 * i = x ↔ y = dn x ∧ i = plc x := by unfold dn plc; omega
theorem qdr {w : World} {b mb n : Nat} {pg : Nat → Option Nat} {cs : Array Value} {t : TypeId} (hb : w.heap[b]? = some (.cells cs t (0, 0))) (hP : qcs w mb n pg) : b ≠ mb := by
 obtain ⟨es, clock, hm⟩ := hP.isMap
 intro e
 rw [e, hm] at hb
 cases hb
theorem Mem.a_ne {w : World} {X : Nat → Prop} {a S n : Nat} {f : Nat → Nat} {mb : Nat} {pg : Nat → Option Nat} (h : Mem w X a S n f mb pg) : a ≠ mb := qdr h.str h.pgs
theorem Mem.a_ne_b {w : World} {X : Nat → Prop} {a S n : Nat} {f : Nat → Nat} {mb : Nat} {pg : Nat → Option Nat} (h : Mem w X a S n f mb pg) {x b : Nat} (hb : pg x = some b) : a ≠ b := by
 obtain ⟨_, _, _, hr, _⟩ := h.page x b hb
 intro e
 have h1 := h.str
 rw [e, hr] at h1
 injection h1 with h1
 injection h1 with h1
 have := congrArg Array.size h1
 rw [qcc] at this
 simp at this
theorem Mem.wrote {w w1 : World} {X : Nat → Prop} {a S n : Nat} {f : Nat → Nat} {mb : Nat} {pg : Nat → Option Nat} (h : Mem w X a S n f mb pg) (x v : Nat) (hx8 : x % 8 = 0) (hxS : x < S) (hv0 : v ≠ 0) (hv : v < 18446744073709551616) {b : Nat}
  (hb : pg (dn x) = some b ∨ (pg (dn x) = none ∧ w.heap.size ≤ b)) (hrow : w1.heap[b]? = some (.cells (prow fun i => f (dn x + 8 * i)) 160 (0, 0))) (hP : qcs w1 mb (n + 1) (updPg pg (dn x) (some b))) (hT : Turn (fun i => i = mb) w w1) :
  Mem (w1.setCell ⟨b, plc x, none⟩ (.int .u64 v)) (Gr X w (w1.setCell ⟨b, plc x, none⟩ (.int .u64 v))) a S (n + 1) (updF f x v) mb (updPg pg (dn x) (some b)) ∧ Turn X w (w1.setCell ⟨b, plc x, none⟩ (.int .u64 v)) := by
 have hsz : (w1.setCell ⟨b, plc x, none⟩ (.int .u64 v)).heap.size = w1.heap.size := by simp [World.setCell]
 have hne : b ≠ mb := qdr hrow hP
 have hab : a ≠ b := by
  rcases hb with hb | ⟨_, hb⟩
  ·exact h.a_ne_b hb
  ·have := h.xlt _ h.xa; omega
 have hXb : Gr X w (w1.setCell ⟨b, plc x, none⟩ (.int .u64 v)) b := by
  rcases hb with hb | ⟨_, hb⟩
  ·exact Or.inl (h.page _ _ hb).1
  ·refine Or.inr ⟨hb, ?_⟩
   rw [hsz]
   exact (Array.getElem?_eq_some_iff.1 hrow).1
 have hoth : ∀ i, i ≠ b → (w1.setCell ⟨b, plc x, none⟩ (.int .u64 v)).heap[i]? = w1.heap[i]? := fun i hi => Below.heap_setCell _ _ _ _ hi
 have hT2 : Turn X w (w1.setCell ⟨b, plc x, none⟩ (.int .u64 v)) := by
  refine ⟨hT.os, hT.tape, hT.output, by rw [hsz]; exact hT.size, fun i hi hX => ?_⟩
  rw [hoth i (fun e => by
   rcases hb with hb | ⟨_, hb⟩
   ·exact hX (e ▸ (h.page _ _ hb).1)
   ·omega)]
  exact hT.block i hi (fun e => hX (e ▸ h.xm))
 refine ⟨⟨?_, ?_, Or.inl h.xa, Or.inl h.xm, ?_, h.s0, ?_, ?_, ?_, ?_, ?_⟩, hT2⟩
 ·rw [hoth a hab, hT.block a (h.xlt _ h.xa) h.a_ne]
  exact h.str
 ·exact hP.block (hoth mb hne.symm)
 ·intro i hi
  rw [hsz]
  rcases hi with hi | hi
  ·exact Nat.lt_of_lt_of_le (h.xlt i hi) hT.size
  ·rw [hsz] at hi; exact hi.2
 ·intro y b' hy
  unfold updPg at hy
  by_cases e : y = dn x
  ·subst e
   rw [if_pos rfl] at hy
   cases hy
   refine ⟨hXb, dn_mod x, Nat.lt_of_le_of_lt (dn_le x) hxS, ?_, plc x, plc_lt x, ?_⟩
   ·rw [heap_setCell_same _ _ _ _ _ _ hrow, prow_set _ _ _ (plc_lt x)]
    rw [qdq (g := fun i => updF f x v (dn x + 8 * i)) (fun i hi => ?_)]
    unfold updF
    by_cases q : i = plc x
    ·rw [if_pos q, if_pos ((dn_idx hx8 (dn_mod x) hi).2 ⟨rfl, q⟩)]
    ·rw [if_neg q, if_neg (fun c => q ((dn_idx hx8 (dn_mod x) hi).1 c).2)]
   ·unfold updF
    rw [if_pos (dn_plc hx8)]
    exact hv0
  ·rw [if_neg e] at hy
   obtain ⟨q1, q2, q3, q4, q5⟩ := h.page y b' hy
   have hbb : b' ≠ b := fun c => by
    rcases hb with hb | ⟨_, hb⟩
    ·exact e (h.inj _ _ _ hy (c ▸ hb))
    ·have := h.xlt _ q1; omega
   have hbm : b' ≠ mb := qdr q4 h.pgs
   have hsame : ∀ i, i < 512 → updF f x v (y + 8 * i) = f (y + 8 * i) := fun i hi => by
    unfold updF
    rw [if_neg (fun c => e ((dn_idx hx8 q2 hi).1 c).1)]
   refine ⟨Or.inl q1, q2, q3, ?_, ?_⟩
   ·rw [hoth b' hbb, hT.block b' (h.xlt _ q1) hbm, q4, qdq (fun i hi => (hsame i hi).symm)]
   ·obtain ⟨i, hi, h0⟩ := q5
    exact ⟨i, hi, by rw [hsame i hi]; exact h0⟩
 ·intro y z c hy hz
  unfold updPg at hy hz
  have key : ∀ u, pg u = some b → u = dn x := fun u hu => by
   rcases hb with hb | ⟨_, hb⟩
   ·exact h.inj _ _ _ hu hb
   ·have := h.xlt _ (h.page _ _ hu).1; omega
  by_cases e1 : y = dn x
  ·by_cases e2 : z = dn x
   ·rw [e1, e2]
   ·rw [if_pos e1] at hy
    rw [if_neg e2] at hz
    cases hy
    exact absurd (key z hz) e2
  ·rw [if_neg e1] at hy
   by_cases e2 : z = dn x
   ·rw [if_pos e2] at hz
    cases hz
    exact absurd (key y hy) e1
   ·rw [if_neg e2] at hz
    exact h.inj _ _ _ hy hz
 ·intro y hy hpg i hi
  unfold updPg at hpg
  by_cases e : y = dn x
  ·rw [if_pos e] at hpg; cases hpg
  ·rw [if_neg e] at hpg
   unfold updF
   rw [if_neg (fun c => e ((dn_idx hx8 hy hi).1 c).1)]
   exact h.zero y hy hpg i hi
 ·intro y
  unfold updF
  by_cases e : y = x
  ·rw [if_pos e]; exact hv
  ·rw [if_neg e]; exact h.fl y
 ·intro y hy
  unfold updF
  have e : y ≠ x := fun e => by subst e; omega
  rw [if_neg e]
  exact h.out y hy
def clrP (f : Nat → Nat) (B A E : Nat) : Nat → Nat := fun y => if A ≤ y ∧ y < E ∧ dn y = B then 0 else f y
def zeroF : Nat → Nat := fun _ => 0
def ClrPost (w : World) (f : Nat → Nat) (mb : Nat) (pg : Nat → Option Nat) (B A E : Nat) (w' : World) : Prop :=
 (pg B = none ∧ w' = w) ∨ ∃ b, pg B = some b ∧
  ((eqPg (fun i => clrP f B A E (B + 8 * i)) zeroF = false ∧ w' = w.setRow b (prow fun i => clrP f B A E (B + 8 * i))) ∨
   (eqPg (fun i => clrP f B A E (B + 8 * i)) zeroF = true ∧ (Builtin.delete_ #[126, 26] 0 #[.map (some mb), .int .u64 B]).run Tryz.prog (w.setRow b (prow fun i => clrP f B A E (B + 8 * i))) = .ok (.tuple #[]) w'))
section
variable {ops : Array Oper} {rest : List Oper} {o : Oper} {a : Act} {w : World} {Q : Exit → Act → World → Prop}
theorem wpList_slicePage (hg : o.guard = none) (x l h : Operand) (ho : o.op = .slice 160 x (some l) (some h) none) (b L H : Nat) (hx : a.eval x = .pointer (some ⟨b, 0, none⟩)) (q r : Int) (hl : a.eval l = .int .u64 q) (hh : a.eval h = .int .u64 r)
  (hq : q = (L : Nat)) (hr : r = (H : Nat)) (h1 : L ≤ H) (h2 : H ≤ 512) (h3 : L < 512)
  (k : wpList Tryz.prog ops Q rest (a.put o.dst (.slice (some ⟨b, L, none⟩) (H - L) (512 - L))) w) : wpList Tryz.prog ops Q (o :: rest) a w := by
 refine Great.wpList_runTo hg _ rfl (.slice (some ⟨b, L, none⟩) (H - L) (512 - L)) w ?_ k
 subst hq hr
 obtain ⟨e, ht, he, hsz⟩ := arrU
 have e1 : ¬ (512 = L) := by omega
 have e2 : (0 : Int) ≤ L ∧ (L : Int) ≤ H := by omega
 have e3 : (0 : Int) ≤ H ∧ (H : Int) ≤ 512 := by omega
 simp [execOp, ho, hx, hl, hh, Instr.sliceAt, run_underlying ht, Instr.sureAddr, Instr.sliceBounds, Instr.sliceBound, asIntOf, hsz, Result.andThen, e1, h1, h2, e3, Addr.add]
 omega
theorem wpList_clearRow (hg : o.guard = none) (x : Operand) (ho : o.op = Op.call { callee := Callee.builtin Builtin.clear, args := #[x], argTypes := #[158] }) (b L H cap : Nat) (g : Nat → Nat) (hx : a.eval x = .slice (some ⟨b, L, none⟩) (H - L) cap)
  (hb : w.heap[b]? = some (.cells (prow g) 160 (0, 0))) (h1 : L ≤ H) (h2 : H ≤ 512) {w2 : World} (hw : w.setRow b (prow fun i => if L ≤ i ∧ i < H then 0 else g i) = w2)
  (k : wpList Tryz.prog ops Q rest (a.put o.dst (.tuple #[])) w2) : wpList Tryz.prog ops Q (o :: rest) a w := by
 subst hw
 refine Great.wpList_runTo hg _ rfl (.tuple #[]) _ ?_ k
 simp [execOp, ho, resolve, invoke, builtin, hx, run_clear w o.type b L H cap g hb h1 h2, Result.andThen]
theorem wpList_deleteAt (hg : o.guard = none) (m x : Operand) (ho : o.op = Op.call { callee := Callee.builtin Builtin.delete, args := #[m, x], argTypes := #[126, 26] }) (mb B : Nat) (hm : a.eval m = .map (some mb)) (hx : a.eval x = .int .u64 B) {w' : World}
  (hrun : (Builtin.delete_ #[126, 26] o.type #[.map (some mb), .int .u64 B]).run Tryz.prog w = .ok (.tuple #[]) w')
  (k : wpList Tryz.prog ops Q rest (a.put o.dst (.tuple #[])) w') : wpList Tryz.prog ops Q (o :: rest) a w := by
 refine Great.wpList_runTo hg _ rfl (.tuple #[]) _ ?_ k
 simp [execOp, ho, resolve, invoke, builtin, hm, hx, hrun, Result.andThen]
end
theorem zeroZ (w : World) : (zeroValue 160).run Tryz.prog w = .ok (.agg (prow zeroF)) w := zeroA w
theorem clr_c {w : World} {X : Nat → Prop} {a S n : Nat} {f : Nat → Nat} {mb : Nat} {pg : Nat → Option Nat} (h : Mem w X a S n f mb pg) (B A E : Nat) (hB : B % 4096 = 0) (hBl : B + 4096 < 18446744073709551616) (hA : A < B + 4096) (hAE : A ≤ E) (hBE : B ≤ E)
  (hA8 : A % 8 = 0) (hE8 : E % 8 = 0) (hE : E < 18446744073709551616) :
  Calls Tryz.prog 41 #[.pointer (some ⟨a, 0, none⟩), .int .u64 B, .int .u64 A, .int .u64 E] w fun e w' => e = .returned (.tuple #[]) ∧ ClrPost w f mb pg B A E w' := by
 have c1 := h.c1
 have hBs : B < 18446744073709551616 := by omega
 have hAs : A < 18446744073709551616 := by omega
 cases hpg : pg B with
 | none =>
  have hlook := h.pgs.look_at hBs (v := .pointer none) (by rw [hpg]; rfl)
  have HP : Hid (pg B = none) := hpg
  clear h hpg
  go_enter Tryz.func41, Tryz.ntmps41
  go_wp2
  refine bodyPost_ret (results_none rfl _ _ _) rfl ?_
  exact ⟨rfl, Or.inl ⟨HP.out, rfl⟩⟩
 | some b =>
  obtain ⟨_, _, _, hrow, _⟩ := h.page _ _ hpg
  have hlook := h.pgs.look_at hBs (v := .pointer (some ⟨b, 0, none⟩)) (by rw [hpg]; rfl)
  have HP : Hid (pg B = some b) := hpg
  have hmb := h.pgs.lt
  have hnb : b ≠ mb := qdr hrow h.pgs
  have hna : a ≠ b := h.a_ne_b hpg
  obtain ⟨L, hL⟩ : ∃ L, L = (max A B - B) / 8 := ⟨_, rfl⟩
  obtain ⟨H, hH⟩ : ∃ H, H = (min E (B + 4096) - B) / 8 := ⟨_, rfl⟩
  have h1 : L ≤ H := by omega
  have h2 : H ≤ 512 := by omega
  have h3 : L < 512 := by omega
  have hq1 : max A B - B = 8 * L := by omega
  have hq2 : min E (B + 4096) - B = 8 * H := by omega
  have hcl : ∀ i, i < 512 → (if L ≤ i ∧ i < H then 0 else f (B + 8 * i)) = clrP f B A E (B + 8 * i) := fun i hi => by
   unfold clrP
   have e : dn (B + 8 * i) = B := by unfold dn; omega
   by_cases c : L ≤ i ∧ i < H
   ·rw [if_pos c, if_pos ⟨by omega, by omega, e⟩]
   ·rw [if_neg c, if_neg (fun c2 => c ⟨by omega, by omega⟩)]
  have hrow2 : w.setRow b (prow fun i => if L ≤ i ∧ i < H then 0 else f (B + 8 * i)) = w.setRow b (prow fun i => clrP f B A E (B + 8 * i)) := by rw [qdq hcl]
  have hblk : (w.setRow b (prow fun i => clrP f B A E (B + 8 * i))).heap[b]? = some (.cells (prow fun i => clrP f B A E (B + 8 * i)) 160 (0, 0)) := setRow_heap _ _ _ _ _ _ hrow
  have hP2 := h.pgs.block (w' := w.setRow b (prow fun i => clrP f B A E (B + 8 * i))) (setRow_other _ _ _ _ hnb.symm)
  have c1' : (w.setRow b (prow fun i => clrP f B A E (B + 8 * i))).cell? ⟨a, 1, none⟩ = some (.map (some mb)) := by
   rw [← c1]; exact World.cell?_of_block (setRow_other _ _ _ _ hna)
  obtain ⟨w3, hdel, _, _⟩ := hP2.drop hBs 0
  have HD : Hid ((Builtin.delete_ #[126, 26] 0 #[.map (some mb), .int .u64 B]).run Tryz.prog (w.setRow b (prow fun i => clrP f B A E (B + 8 * i))) = .ok (.tuple #[]) w3) := hdel
  have hbd := zeroZ
  clear h hpg hcl hP2 hdel
  have HM1 : Hid ((max (A : Int) B - B) / 8 = (L : Nat)) := by (show _ = _; omega)
  have HM2 : Hid ((min (E : Int) (B + 4096) - B) / 8 = (H : Nat)) := by (show _ = _; omega)
  have HR : Hid (w.heap[b]? = some (.cells (prow fun i => f (B + 8 * i)) 160 (0, 0))) := hrow
  have HB : Hid ((w.setRow b (prow fun i => clrP f B A E (B + 8 * i))).heap[b]? = some (.cells (prow fun i => clrP f B A E (B + 8 * i)) 160 (0, 0))) := hblk
  have HW : Hid (w.setRow b (prow fun i => if L ≤ i ∧ i < H then 0 else f (B + 8 * i)) = w.setRow b (prow fun i => clrP f B A E (B + 8 * i))) := hrow2
  have HF : Hid (∃ w2, w2 = w.setRow b (prow fun i => clrP f B A E (B + 8 * i))) := ⟨_, rfl⟩
  obtain ⟨w2, hw2⟩ := HF.out
  rw [← hw2] at HW HB HD c1'
  have HW2 : Hid (w2 = w.setRow b (prow fun i => clrP f B A E (B + 8 * i))) := hw2
  clear hrow hblk hrow2 hw2 HF hL hH hq1 hq2
  go_enter Tryz.func41, Tryz.ntmps41
  go_wp2_with (first
   | (refine wpList_slicePage rfl _ _ _ rfl b L H rfl _ _ rfl rfl HM1.out HM2.out h1 h2 h3 ?_)
   | (refine wpList_clearRow rfl _ rfl b L H _ _ rfl HR.out h1 h2 HW.out ?_)
   | (refine wpList_load_row rfl 160 _ rfl b rfl _ _ _ _ HB.out Tryz.underlying160 rfl (info_page _) ?_)
   | (refine wpList_eqPage rfl _ _ _ rfl (fun i => clrP f B A E (B + 8 * i)) zeroF rfl rfl ?_)
   | (refine wpList_deleteAt rfl _ _ rfl mb B rfl rfl HD.out ?_))
  all_goals
   go_end0
   refine ⟨rfl, Or.inr ⟨b, HP.out, ?_⟩⟩
   rw [← HW2.out]
   rename_i hq
   first
    | exact Or.inr ⟨hq, HD.out⟩
    | exact Or.inl ⟨by simpa using hq, rfl⟩
def clrPg (f : Nat → Nat) (pg : Nat → Option Nat) (B A E : Nat) : Nat → Option Nat := if eqPg (fun i => clrP f B A E (B + 8 * i)) zeroF = true then updPg pg B none else pg
theorem clrP_other {f : Nat → Nat} {B A E y i : Nat} (hy : y % 4096 = 0) (hi : i < 512) (hne : y ≠ B) : clrP f B A E (y + 8 * i) = f (y + 8 * i) := by
 unfold clrP
 rw [if_neg]
 intro c
 have : dn (y + 8 * i) = y := by unfold dn; omega
 exact hne (this.symm.trans c.2.2)
theorem clrP_lt {f : Nat → Nat} (h : ∀ x, f x < 18446744073709551616) (B A E : Nat) : ∀ x, clrP f B A E x < 18446744073709551616 := fun x => by
 unfold clrP
 by_cases c : A ≤ x ∧ x < E ∧ dn x = B
 ·rw [if_pos c]; decide
 ·rw [if_neg c]; exact h x
theorem clrP_zero {f : Nat → Nat} {B A E x : Nat} (h : f x = 0) : clrP f B A E x = 0 := by
 unfold clrP
 by_cases c : A ≤ x ∧ x < E ∧ dn x = B
 ·rw [if_pos c]
 ·rw [if_neg c]; exact h
theorem ClrPost.mem {w w' : World} {X : Nat → Prop} {a S n : Nat} {f : Nat → Nat} {mb : Nat} {pg : Nat → Option Nat} (h : Mem w X a S n f mb pg) {B A E : Nat} (hB : B % 4096 = 0) (hBs : B < 18446744073709551616) (hp : ClrPost w f mb pg B A E w') :
  Mem w' X a S n (clrP f B A E) mb (clrPg f pg B A E) ∧ Turn X w w' := by
 rcases hp with ⟨h0, rfl⟩ | ⟨b, hb, hr⟩
 ·have hf : clrP f B A E = f := by
   funext y
   unfold clrP
   by_cases c : A ≤ y ∧ y < E ∧ dn y = B
   ·rw [if_pos c]
    by_cases h8 : y % 8 = 0
    ·have := h.zero B hB h0 (plc y) (plc_lt y)
     rw [← c.2.2, dn_plc h8] at this
     exact this.symm
    ·exact (h.out y (Or.inl h8)).symm
   ·rw [if_neg c]
  have hpg : clrPg f pg B A E = pg := by
   unfold clrPg
   split
   ·funext y
    unfold updPg
    by_cases e : y = B
    ·rw [if_pos e, e, h0]
    ·rw [if_neg e]
   ·rfl
  rw [hf, hpg]
  exact ⟨h, Turn.refl _ _⟩
 ·obtain ⟨q1, q2, q3, q4, q5⟩ := h.page B b hb
  have hnb : b ≠ mb := qdr q4 h.pgs
  have hna : a ≠ b := h.a_ne_b hb
  have hg : w.grownBy (w.setRow b (prow fun i => clrP f B A E (B + 8 * i))) (some b) := ⟨rfl, rfl, rfl, by simp [World.setRow], fun i _ hi => setRow_other _ _ _ _ (fun e => hi (by rw [e]))⟩
  have hpage : ∀ x c, pg x = some c → x ≠ B → X c ∧ x % 4096 = 0 ∧ x < S ∧ (w.setRow b (prow fun i => clrP f B A E (B + 8 * i))).heap[c]? = some (.cells (prow fun i => clrP f B A E (x + 8 * i)) 160 (0, 0)) ∧ ∃ i, i < 512 ∧ clrP f B A E (x + 8 * i) ≠ 0 := by
   intro x c hc hx
   obtain ⟨p1, p2, p3, p4, p5⟩ := h.page x c hc
   have hcb : c ≠ b := fun e => hx (h.inj _ _ _ hc (e ▸ hb))
   refine ⟨p1, p2, p3, ?_, ?_⟩
   ·rw [setRow_other _ _ _ _ hcb, p4, qdq (fun i hi => (clrP_other p2 hi hx).symm)]
   ·obtain ⟨i, hi, h0⟩ := p5
    exact ⟨i, hi, by rw [clrP_other p2 hi hx]; exact h0⟩
  have hz : ∀ x, x % 4096 = 0 → pg x = none → ∀ i, i < 512 → clrP f B A E (x + 8 * i) = 0 := fun x hx hn i hi => clrP_zero (h.zero x hx hn i hi)
  have hs : (w.setRow b (prow fun i => clrP f B A E (B + 8 * i))).heap[a]? = w.heap[a]? := setRow_other _ _ _ _ hna
  have hsz : (w.setRow b (prow fun i => clrP f B A E (B + 8 * i))).heap.size = w.heap.size := by simp [World.setRow]
  rcases hr with ⟨he, rfl⟩ | ⟨he, hd⟩
  ·have hpg : clrPg f pg B A E = pg := by unfold clrPg; rw [he]; rfl
   rw [hpg]
   refine ⟨⟨hs.trans h.str, h.pgs.block (setRow_other _ _ _ _ hnb.symm), h.xa, h.xm, by rw [hsz]; exact h.xlt, h.s0, ?_, h.inj, hz, clrP_lt h.fl B A E, fun x hx => clrP_zero (h.out x hx)⟩, qdg hg q1⟩
   intro x c hc
   by_cases hx : x = B
   ·subst hx
    rw [hb] at hc
    cases hc
    refine ⟨q1, q2, q3, setRow_heap _ _ _ _ _ _ q4, ?_⟩
    rcases Classical.em (∃ i, i < 512 ∧ clrP f x A E (x + 8 * i) ≠ 0) with hh | hh
    ·exact hh
    ·have : eqPg (fun i => clrP f x A E (x + 8 * i)) zeroF = true := (eqPg_iff _ _).2 fun i hi => Decidable.byContradiction fun c => hh ⟨i, hi, c⟩
     rw [this] at he
     cases he
   ·exact hpage x c hc hx
  ·have hpg : clrPg f pg B A E = updPg pg B none := by unfold clrPg; rw [he]; rfl
   rw [hpg]
   obtain ⟨w3, hr3, hP3, hT3⟩ := (h.pgs.block (w' := w.setRow b (prow fun i => clrP f B A E (B + 8 * i))) (setRow_other _ _ _ _ hnb.symm)).drop hBs 0
   rw [hd] at hr3
   injection hr3 with _ hw3
   subst hw3
   have hg3 := hT3.grown
   have hT : Turn X w w' := (qdg hg q1).trans (qdg (X := X) hg3 h.xm) (fun i _ hi => hi)
   refine ⟨⟨?_, hP3, h.xa, h.xm, ?_, h.s0, ?_, ?_, ?_, clrP_lt h.fl B A E, fun x hx => clrP_zero (h.out x hx)⟩, hT⟩
   ·rw [hg3.block a (by rw [hsz]; exact h.xlt _ h.xa) (fun e => by cases e; exact h.a_ne rfl), hs]
    exact h.str
   ·intro i hi
    exact Nat.lt_of_lt_of_le (h.xlt i hi) hT.size
   ·intro x c hc
    unfold updPg at hc
    by_cases hx : x = B
    ·rw [if_pos hx] at hc; cases hc
    ·rw [if_neg hx] at hc
     obtain ⟨p1, p2, p3, p4, p5⟩ := hpage x c hc hx
     refine ⟨p1, p2, p3, ?_, p5⟩
     rw [hg3.block c (by rw [hsz]; exact h.xlt _ p1) (fun e => by cases e; exact qdr p4 (h.pgs.block (setRow_other _ _ _ _ hnb.symm)) rfl)]
     exact p4
   ·intro x y c hx hy
    unfold updPg at hx hy
    by_cases ex : x = B
    ·rw [if_pos ex] at hx; cases hx
    ·by_cases ey : y = B
     ·rw [if_pos ey] at hy; cases hy
     ·rw [if_neg ex] at hx
      rw [if_neg ey] at hy
      exact h.inj _ _ _ hx hy
   ·intro x hx hn i hi
    unfold updPg at hn
    by_cases ex : x = B
    ·subst ex
     exact (eqPg_iff _ _).1 he i hi
    ·rw [if_neg ex] at hn
     exact hz x hx hn i hi
def wrF (f : Nat → Nat) (S x v : Nat) : Nat → Nat := if errA S x = 0 then updF f x v else f
theorem err_ok {S x : Nat} (he : errA S x = 0) : x % 8 = 0 ∧ x < S := by
 exact zP10x02
theorem pcell {w : World} {b i : Nat} {g : Nat → Nat} {t : TypeId} (h : w.heap[b]? = some (.cells (prow g) t (0, 0))) (hi : i < 512) : w.cell? ⟨b, i, none⟩ = some (.int .u64 (g i : Nat)) := by
 rw [cell_of_row _ _ _ _ _ _ h, qdh _ _ hi]
theorem gr_lt {w w' : World} {X : Nat → Prop} (hX : ∀ i, X i → i < w.heap.size) (hs : w.heap.size ≤ w'.heap.size) : ∀ i, Gr X w w' i → i < w'.heap.size := fun i hi => by
 rcases hi with hi | hi
 ·exact Nat.lt_of_lt_of_le (hX i hi) hs
 ·exact hi.2
theorem write_c {w : World} {X : Nat → Prop} {a S n : Nat} {f : Nat → Nat} (h : qcw w X a S n f) (hn : n < 100000000) (x v : Nat) (hx : x < 18446744073709551616) (hv : v < 18446744073709551616) :
  Calls Tryz.prog 11 #[.pointer (some ⟨a, 0, none⟩), .int .u64 x, .int .u64 v] w fun e w' => e = .returned (.int .i64 (errA S x)) ∧ qcw w' (Gr X w w') a S (n + 1) (wrF f S x v) ∧ Turn X w w' := by
 obtain ⟨mb, pg, h⟩ := h
 have c0 := h.c0
 have hck := check_c x hx c0
 by_cases he : errA S x = 0
 ·obtain ⟨h8, hS⟩ := err_ok he
  have hwr : wrF f S x v = updF f x v := by unfold wrF; rw [if_pos he]
  have hdl : dn x < 18446744073709551616 := Nat.lt_of_le_of_lt (dn_le x) hx
  have hs0 := h.s0
  rw [hwr]
  rw [he] at hck ⊢
  by_cases hv0 : v = 0
  ·subst hv0
   have hcl := clr_c h (dn x) x (x + 8) (dn_mod x) (by have := dn_le x; omega) (dn_lt x) (by omega) (by have := dn_le x; omega) h8 (by omega) (by omega)
   have hcast : ((x + 8 : Nat) : Int) = (x : Int) + 8 := by omega
   rw [hcast] at hcl
   have HH : Hid (Mem w X a S n f mb pg) := h
   clear h hcast
   go_enter Tryz.func11, Tryz.ntmps11
   go_wp2_with fail
   refine hck.mono ?_
   rintro e w1 ⟨rfl, rfl⟩
   go_wp2_with fail
   refine (down_c x hx _).mono ?_
   rintro e w1 ⟨rfl, rfl⟩
   go_wp2_with fail
   refine hcl.mono ?_
   rintro e w1 ⟨rfl, hp⟩
   have HP : Hid (ClrPost w f mb pg (dn x) x (x + 8) w1) := hp
   clear hp hcl
   go_wp2
   go_ret
   have h := HH.out
   obtain ⟨hm, ht⟩ := HP.out.mem h (dn_mod x) hdl
   have hf : clrP f (dn x) x (x + 8) = updF f x 0 := by
    funext y
    unfold clrP updF
    by_cases e : y = x
    ·subst e
     rw [if_pos rfl, if_pos ⟨by omega, by omega, rfl⟩]
    ·rw [if_neg e]
     by_cases c : x ≤ y ∧ y < x + 8 ∧ dn y = dn x
     ·rw [if_pos c]
      exact (h.out y (Or.inl (by omega))).symm
     ·rw [if_neg c]
   rw [hf] at hm
   refine ⟨rfl, ⟨mb, clrPg f pg (dn x) x (x + 8), ?_⟩, ht⟩
   have hm2 : Mem w1 X a S (n + 1) (updF f x 0) mb (clrPg f pg (dn x) x (x + 8)) := { hm with pgs := hm.pgs.mono (by omega) }
   exact hm2.wide (fun i hi => Or.inl hi) (gr_lt h.xlt ht.size)
  ·have hd : Mem w.drew X a S n f mb pg := h.kept (fun _ _ => rfl) (Nat.le_refl _)
   have hop := open_c hd hn (dn x) hdl (dn_mod x)
   have hplace := place_c x hx
   have hpl := plc_lt x
   have HH : Hid (Mem w.drew X a S n f mb pg) := hd
   have HN : Hid (v ≠ 0) := hv0
   have hvz : ¬ ((v : Int) = 0) := by omega
   clear h hd hv0
   go_enter Tryz.func11, Tryz.ntmps11
   go_wp2_with fail
   refine hck.mono ?_
   rintro e w1 ⟨rfl, rfl⟩
   go_wp2
   go_region_with (first
    | (go_at_call 42; refine (down_c x hx _).mono ?_; rintro e w1 ⟨rfl, rfl⟩)
    | (go_at_call 44; refine (hplace _).mono ?_; rintro e w1 ⟨rfl, rfl⟩)
    | (go_at_call 43; refine hop.mono ?_; rintro e w1 ⟨b, rfl, hall⟩; have hc := pcell hall.2.1 hpl; have hfz := frozen_of_row _ _ (plc x) _ _ hall.2.1; have HA := Hid.mk hall; clear hall))
   all_goals
    go_wp2
    go_ret
    obtain ⟨hb, hrow, hP, hT⟩ := HA.out
    obtain ⟨hm, ht⟩ := HH.out.wrote x v h8 hS HN.out hv hb hrow hP hT
    exact ⟨rfl, ⟨mb, _, hm⟩, (qak X (Below.refl _ w).drew).trans ht (fun i _ hi => hi)⟩
 ·have hwr : wrF f S x v = f := by unfold wrF; rw [if_neg he]
  rw [hwr]
  have HH : Hid (Mem w X a S n f mb pg) := h
  clear h hwr
  generalize errA S x = E at *
  go_enter Tryz.func11, Tryz.ntmps11
  go_wp2_with fail
  refine hck.mono ?_
  rintro e w1 ⟨rfl, rfl⟩
  go_wp2
  go_ret
  have h := HH.out
  have hm2 : Mem w X a S (n + 1) f mb pg := { h with pgs := h.pgs.mono (by omega) }
  exact ⟨rfl, ⟨mb, pg, hm2.wide (fun i hi => Or.inl hi) (gr_lt h.xlt (Nat.le_refl _))⟩, Turn.refl _ _⟩
end Go.Proofs.YtfdbdeckohaneaaGreatDoor
