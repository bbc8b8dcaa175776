/- Texts: PhysMap PhysRow PhysMem -/
import Derived.Test.YtfohjkgheeiinaaGreatDoorRows
import Derived.Maps.RangeWalk
import Derived.OpenShut
import Derived.Deep.RegionHeld3
import Derived.BigQuiet
import Derived.Deep.QuietTactic
import Derived.Laws.StructEq
import Derived.Great.Walk
import Derived.Test.YtfohjkgheeiinaaGreatDoorQ01
import Derived.Test.YtfohjkgheeiinaaGreatDoorQ02
set_option maxHeartbeats 16000000
set_option maxRecDepth 100000
namespace Go.Proofs.YtfohjkgheeiinaaGreatDoor
open Go.RowKit Go.Maps
open Go.WideElems (Fit rd rg pl rd_key rd_val rg_of)
def ptrElem (v : Value) : Option (DataW Unit × List MemPlace) :=
 match v with
 | .pointer (some a) => if a.off = 0 ∧ a.spot = none then some (.lit (.int .u64 a.block), []) else none
 | _ => none
def ptrV : Option Nat → Value
 | none => .pointer none
 | some b => .pointer (some ⟨b, 0, none⟩)
theorem ptrElem_mk (b : Nat) : ptrElem (.pointer (some ⟨b, 0, none⟩)) = some (.lit (.int .u64 b), []) := by simp [ptrElem]
theorem ptrElem_inv {v : Value} {y : DataW Unit × List MemPlace} (h : ptrElem v = some y) : ∃ b : Nat, v = .pointer (some ⟨b, 0, none⟩) ∧ y = (.lit (.int .u64 b), []) := by
 unfold ptrElem at h
 split at h
 ·rename_i a
  split at h
  ·rename_i hc
   obtain ⟨b, o, s⟩ := a
   obtain ⟨rfl, rfl⟩ := hc
   cases h
   exact ⟨b, rfl, rfl⟩
  ·cases h
 ·cases h
def pgOf (D : DataW Unit) (x : Nat) : Option Nat :=
 match D.atKey (.int .u64 x) .nil with
 | .lit (.int _ b) => some b.toNat
 | _ => none
theorem law : Keyed Tryz.prog 26 := int_keyed Tryz.underlying26
theorem wfu {x : Nat} (h : x < 18446744073709551616) : (Lit.int .u64 (x : Int)).wf = true := by
 simp [Lit.wf, IntKind.min, IntKind.max, IntKind.signed, IntKind.bits]
 omega
theorem keyx {x : Nat} (h : x < 18446744073709551616) : keyOf Tryz.prog 26 (.int .u64 (x : Int)) = some (.int .u64 x) := keyOf_int_mk Tryz.underlying26 (wfu h)
theorem zeroP (w : World) : (zeroValue 135).run Tryz.prog w = .ok (.pointer none) w := by kernel_rfl
def Pages (w : World) (mb n : Nat) (pg : Nat → Option Nat) : Prop := ∃ D : DataW Unit, w.ownsMap Tryz.prog 26 ptrElem mb n D ∧ ∀ x, x < 18446744073709551616 → pg x = pgOf D x
def PRange (w : World) (mb r n : Nat) (pg : Nat → Option Nat) (left : Nat → Bool) (cnt : Nat) : Prop :=
 ∃ (D : DataW Unit) (lf : Lit → Bool), w.ranges Tryz.prog 26 ptrElem mb r n D lf cnt ∧ (∀ x, x < 18446744073709551616 → pg x = pgOf D x) ∧ ∀ x : Nat, x < 18446744073709551616 → left x = lf (.int .u64 x)
theorem look_cases {w : World} {mb n : Nat} {D : DataW Unit} (h : w.ownsMap Tryz.prog 26 ptrElem mb n D) {x : Nat} (hx : x < 18446744073709551616) :
  (Instr.lookup 142 (.map (some mb)) (.int .u64 x) false).run Tryz.prog w = .ok (ptrV (pgOf D x)) w ∧
  ((pgOf D x = none ∧ (∀ z, D.atKey (.int .u64 x) z = z)) ∨ ∃ b : Nat, pgOf D x = some b ∧ ∀ z, D.atKey (.int .u64 x) z = .lit (.int .u64 b)) := by
 obtain ⟨es, clock, hb, F, _, rfl⟩ := h
 rcases Maps.fit_look false law Tryz.underlying142 (zeroP w) hb F (keyx hx) with ⟨hrun, _, hat⟩ | ⟨e0, y, _, _, hrun, hRv, hat, _⟩
 ·have e : pgOf (DataW.map ((es.toList.map (rg Tryz.prog 26 ptrElem)).foldr DataW.insert [])) x = none := by
   unfold pgOf; rw [hat]
  exact ⟨by rw [e]; exact hrun, Or.inl ⟨e, hat⟩⟩
 ·obtain ⟨b, hv, rfl⟩ := ptrElem_inv hRv
  have e : pgOf (DataW.map ((es.toList.map (rg Tryz.prog 26 ptrElem)).foldr DataW.insert [])) x = some b := by
   unfold pgOf; rw [hat]; rfl
  refine ⟨by rw [e]; rw [hv] at hrun; exact hrun, Or.inr ⟨b, e, hat⟩⟩
theorem Pages.look {w : World} {mb n : Nat} {pg : Nat → Option Nat} (h : Pages w mb n pg) {x : Nat} (hx : x < 18446744073709551616) :
  (Instr.lookup 142 (.map (some mb)) (.int .u64 x) false).run Tryz.prog w = .ok (ptrV (pg x)) w := by
 obtain ⟨D, h1, h2⟩ := h
 rw [h2 x hx]
 exact (look_cases h1 hx).1
theorem Pages.lt {w : World} {mb n : Nat} {pg : Nat → Option Nat} (h : Pages w mb n pg) : mb < w.heap.size := by
 obtain ⟨D, h1, _⟩ := h
 exact h1.lt
theorem Pages.isMap {w : World} {mb n : Nat} {pg : Nat → Option Nat} (h : Pages w mb n pg) : ∃ es clock, w.heap[mb]? = some (.map es clock) := by
 obtain ⟨D, ⟨es, clock, hb, _⟩, _⟩ := h
 exact ⟨es, clock, hb⟩
theorem Pages.mono {w : World} {mb n n' : Nat} {pg : Nat → Option Nat} (h : Pages w mb n pg) (hn : n ≤ n') : Pages w mb n' pg := by
 obtain ⟨D, h1, h2⟩ := h
 exact ⟨D, h1.mono hn, h2⟩
theorem Pages.block {w w' : World} {mb n : Nat} {pg : Nat → Option Nat} (h : Pages w mb n pg) (hb : w'.heap[mb]? = w.heap[mb]?) : Pages w' mb n pg := by
 obtain ⟨D, ⟨es, clock, h1, h2⟩, h3⟩ := h
 exact ⟨D, ⟨es, clock, hb.trans h1, h2⟩, h3⟩
theorem Pages.made (w : World) : Pages (w.alloc (.map #[] 0)) w.heap.size 0 fun _ => none :=
 ⟨.map [], World.ownsMap_made _ _ _ _, fun _ _ => rfl⟩
theorem lit_ne {x y : Nat} (h : y ≠ x) : Lit.int .u64 (y : Int) ≠ Lit.int .u64 (x : Int) := fun e => h (by injection e with _ e; exact Int.ofNat_inj.1 e)
def updPg (pg : Nat → Option Nat) (x : Nat) (v : Option Nat) : Nat → Option Nat := fun y => if y = x then v else pg y
theorem Pages.store {w : World} {mb n : Nat} {pg : Nat → Option Nat} (h : Pages w mb n pg) (hn : n < 100000000) {x : Nat} (hx : x < 18446744073709551616) (b : Nat) :
  ∃ w', (Instr.mapUpdate 142 (.map (some mb)) (.int .u64 x) (.pointer (some ⟨b, 0, none⟩))).run Tryz.prog w = .ok () w' ∧ Pages w' mb (n + 1) (updPg pg x (some b)) ∧ w.mapTurned w' mb := by
 obtain ⟨D, h1, h2⟩ := h
 obtain ⟨w', hr, ho, ht⟩ := h1.store law Tryz.underlying142 (by unfold maxLen; omega) (keyx hx) (ptrElem_mk b)
 refine ⟨w', hr, ⟨_, ho, fun y hy => ?_⟩, ht⟩
 unfold updPg pgOf
 by_cases e : y = x
 ·subst e
  rw [if_pos rfl, atKey_put_same h1.isMap (law.key (keyx hx))]
  rfl
 ·rw [if_neg e, atKey_put_other (lit_ne e)]
  exact h2 y hy
theorem Pages.drop {w : World} {mb n : Nat} {pg : Nat → Option Nat} (h : Pages w mb n pg) {x : Nat} (hx : x < 18446744073709551616) (ty : TypeId) :
  ∃ w', (Builtin.delete_ #[142, 26] ty #[.map (some mb), .int .u64 x]).run Tryz.prog w = .ok (.tuple #[]) w' ∧ Pages w' mb n (updPg pg x none) ∧ w.mapTurned w' mb := by
 obtain ⟨D, h1, h2⟩ := h
 obtain ⟨w', hr, ho, ht⟩ := h1.drop law Tryz.underlying142 (keyx hx) ty
 refine ⟨w', hr, ⟨_, ho, fun y hy => ?_⟩, ht⟩
 unfold updPg pgOf
 by_cases e : y = x
 ·subst e
  rw [if_pos rfl, atKey_del_same]
 ·rw [if_neg e, atKey_del_other (lit_ne e)]
  exact h2 y hy
theorem PRange.left_eq {w : World} {mb r n : Nat} {pg : Nat → Option Nat} {left : Nat → Bool} {cnt : Nat} (h : PRange w mb r n pg left cnt) : w.rangeLeft mb r = cnt := by
 obtain ⟨D, lf, h1, h2, _⟩ := h
 exact h1.left_eq
theorem Pages.range {w : World} {mb n : Nat} {pg : Nat → Option Nat} (h : Pages w mb n pg) :
  ∃ w' cnt, (Instr.range 142 (.map (some mb))).run Tryz.prog w = .ok (.pointer (some ⟨w.heap.size, 0, none⟩)) w' ∧ PRange w' mb w.heap.size n pg (fun x => (pg x).isSome) cnt ∧ w.grownBy w' none ∧ w'.heap.size = w.heap.size + 1 ∧ cnt ≤ n := by
 obtain ⟨D, h1, h2⟩ := h
 obtain ⟨w', hr, h3, h4, h5⟩ := h1.range law Tryz.underlying142
 refine ⟨w', _, hr, ⟨D, _, h3, h2, fun x hx => ?_⟩, h4, h5, h1.size_le⟩
 show (pg x).isSome = _
 rw [h2 x hx]
 rcases (look_cases h1 hx).2 with ⟨e, hz⟩ | ⟨b, e, hz⟩
 ·rw [e, Maps.has_false_of_atKey hz]; rfl
 ·rw [e, Maps.has_true_of_atKey hz]; rfl
theorem PRange.next {w : World} {mb r n : Nat} {pg : Nat → Option Nat} {left : Nat → Bool} {cnt : Nat} (h : PRange w mb r n pg left cnt) (ty : TypeId) :
  ((∀ x, x < 18446744073709551616 → left x = false) ∧ (Instr.next (.pointer (some ⟨r, 0, none⟩)) false ty).run Tryz.prog w = .ok (.tuple #[.bool false]) w) ∨
  ∃ x b w' cnt', x < 18446744073709551616 ∧ left x = true ∧ pg x = some b ∧ (Instr.next (.pointer (some ⟨r, 0, none⟩)) false ty).run Tryz.prog w = .ok (.tuple #[.bool true, .int .u64 x, .pointer (some ⟨b, 0, none⟩)]) w' ∧
   PRange w' mb r n pg (fun y => left y && !decide (y = x)) cnt' ∧ cnt' < cnt ∧ w.grownBy w' (some r) ∧ w'.heap.size = w.heap.size ∧
   (Instr.entry (.pointer (some ⟨r, 0, none⟩))).run Tryz.prog w' = .ok (.tuple #[.int .u64 x, .pointer (some ⟨b, 0, none⟩)]) w' := by
 obtain ⟨D, lf, h1, h2, h3⟩ := h
 rcases h1.next law ty with ⟨h0, hl, hrun⟩ | ⟨key, v, kl, y, w', cnt', hkey, hlk, hv, hat, hrun, hrg, hlt, hgr, hsz, hen⟩
 ·exact Or.inl ⟨fun x hx => by rw [h3 x hx, hl], hrun⟩
 ·obtain ⟨a, rfl, rfl, hwf⟩ := Maps.keyOf_int_inv Tryz.underlying26 hkey
  obtain ⟨b, rfl, rfl⟩ := ptrElem_inv hv
  replace hwf := bounds_u64 hwf
  obtain ⟨x, rfl⟩ := Int.eq_ofNat_of_zero_le hwf.1
  have hx : x < 18446744073709551616 := by omega
  have hp : pg x = some b := by
   rw [h2 x hx]; unfold pgOf; rw [hat]; rfl
  refine Or.inr ⟨x, b, w', cnt', hx, by rw [h3 x hx]; exact hlk, hp, hrun, ⟨D, _, hrg, h2, fun y hy => ?_⟩, hlt, hgr, hsz, hen⟩
  show (left y && !decide (y = x)) = _
  rw [h3 y hy]
  refine congrArg (fun b : Bool => _ && b) ?_
  by_cases e : y = x
  ·subst e
   rw [WideAt.sameKey_self (law.key (keyx hy))]; simp
  ·have : (Lit.int .u64 (y : Int)).sameKey (.int .u64 x) = false := Maps.sameKey_ne (lit_ne e)
   rw [this]; simp [e]
end Go.Proofs.YtfohjkgheeiinaaGreatDoor
namespace Go.Proofs.YtfohjkgheeiinaaGreatDoor
open Go.RowKit Go.Maps
def prow (f : Nat → Nat) : Array Value := ((List.range 512).map fun i => Value.int .u64 (f i : Nat)).toArray
theorem prow_size (f : Nat → Nat) : (prow f).size = 512 := by simp [prow]
theorem prow_get (f : Nat → Nat) (i : Nat) (h : i < 512) : (prow f)[i]? = some (.int .u64 (f i : Nat)) := by
 simp [prow, h]
theorem prow_congr {f g : Nat → Nat} (h : ∀ i, i < 512 → f i = g i) : prow f = prow g := by
 exact congrArg List.toArray (List.map_congr_left fun a ha => by rw [h a (List.mem_range.1 ha)])
theorem prow_set (f : Nat → Nat) (i v : Nat) (h : i < 512) : (prow f).setIfInBounds i (.int .u64 v) = prow (fun j => if j = i then v else f j) := by
 apply Array.ext_getElem?
 intro j
 rw [Array.getElem?_setIfInBounds]
 by_cases hj : i = j
 ·subst hj
  rw [if_pos rfl, prow_size, if_pos h, prow_get _ _ h, if_pos rfl]
 ·rw [if_neg hj]
  by_cases h64 : j < 512
  ·rw [prow_get _ _ h64, prow_get _ _ h64, if_neg (fun e => hj e.symm)]
  ·rw [Array.getElem?_eq_none (by rw [prow_size]; omega), Array.getElem?_eq_none (by rw [prow_size]; omega)]
theorem info_page (f : Nat → Nat) : (Tryz.prog.info? 171).map (·.size) = some (prow f).size := by
 rw [prow_size]; kernel_rfl
def eqPg (f g : Nat → Nat) : Bool := (List.range 512).all fun i => f i == g i
theorem eqPg_iff (f g : Nat → Nat) : eqPg f g = true ↔ ∀ i, i < 512 → f i = g i := by
 unfold eqPg
 rw [List.all_eq_true]
 constructor
 ·intro h i hi
  simpa using h i (List.mem_range.2 hi)
 ·intro h i hi
  simpa using h i (List.mem_range.1 hi)
theorem sizeU (w : World) : (sizeOf 26).run Tryz.prog w = .ok 1 w := by kernel_rfl
theorem arrU : ∃ e, Tryz.prog.underlying 171 = some (.array 512 e) ∧ Tryz.prog.underlying e = some (.int .u64) ∧ ∀ w, (sizeOf e).run Tryz.prog w = .ok 1 w := ⟨26, by kernel_rfl, Tryz.underlying26, sizeU⟩
theorem run_eqIn (f g : Nat → Nat) (w : World) : (Op.equalIn 10000 171 (.agg (prow f)) (.agg (prow g))).run Tryz.prog w = .ok (eqPg f g) w := by
 obtain ⟨e, ht, he, hsz⟩ := arrU
 show (Op.equalIn (9998 + 2) 171 (.agg (prow f)) (.agg (prow g))).run Tryz.prog w = _
 rw [Op.equalIn]
 unfold eqPg
 rw [List.range_eq_range']
 simp only [Sem.run_bind, run_underlying ht, Result.andThen_ok, hsz, Std.Legacy.Range.forIn_eq_forIn_range', Std.Legacy.Range.size, Nat.sub_zero, Nat.add_sub_cancel, Nat.div_one]
 have hl : ∀ i ∈ List.range' 0 512 1, i < 512 := fun i hi => by simpa using (List.mem_range'_1.1 hi).2
 generalize List.range' 0 512 1 = l at hl ⊢
 induction l with
 | nil => simp
 | cons i l ih =>
  have hi : i < 512 := hl i (by simp)
  have px : (part e (prow f) (i * 1)).run Tryz.prog w = .ok (.int .u64 (f i : Nat)) w := by
   simp [part, isAgg, run_underlying he, prow_get f i hi]
  have py : (part e (prow g) (i * 1)).run Tryz.prog w = .ok (.int .u64 (g i : Nat)) w := by
   simp [part, isAgg, run_underlying he, prow_get g i hi]
  have pe : (Op.equalIn 9999 e (.int .u64 (f i : Nat)) (.int .u64 (g i : Nat))).run Tryz.prog w = .ok (f i == g i) w := by
   have hq : ((f i : Int) == (g i : Int)) = (f i == g i) := by
    rw [Bool.eq_iff_iff]; simp; omega
   rw [run_equalIn_int w 9998 e .u64 .u64 _ _ he, hq]
  simp only [List.forIn_cons, Sem.run_bind, px, py, pe, Result.andThen_ok, List.all_cons]
  cases hb : (f i == g i)
  ·simp
  ·simp only [Bool.not_true, Bool.false_eq_true, if_false, Sem.run_pure, Result.andThen_ok, Bool.true_and]
   exact ih fun j hj => hl j (by simp [hj])
theorem guardP : Tryz.prog.eqGuardType Tryz.prog.depth 171 = false := by kernel_rfl
section
variable {ops : Array Oper} {rest : List Oper} {o : Oper} {a : Act} {w : World} {Q : Exit → Act → World → Prop}
theorem wpList_eqPage (hg : o.guard = none) (x y : Operand) (t : TypeId) (ho : o.op = .binOp .eql 171 x y t) (f g : Nat → Nat) (hx : a.eval x = .agg (prow f)) (hy : a.eval y = .agg (prow g))
  (h : wpList Tryz.prog ops Q rest (a.put o.dst (.bool (eqPg f g))) w) : wpList Tryz.prog ops Q (o :: rest) a w := by
 refine Great.wpList_runTo hg _ rfl (.bool (eqPg f g)) w ?_ h
 simp only [execOp, ho, hx, hy, Sem.run_bind, run_eqGuard_agg w _ _ _ _ _ _ guardP, Result.andThen_ok, run_eql_struct, run_eqIn]
 rfl
end
theorem zeroA (w : World) : (zeroValue 171).run Tryz.prog w = .ok (.agg (prow fun _ => 0)) w := by kernel_rfl
theorem run_clear (w : World) (ty : TypeId) (b lo hi cap : Nat) (g : Nat → Nat) (hb : w.heap[b]? = some (.cells (prow g) 171 (0, 0))) (h1 : lo ≤ hi) (h2 : hi ≤ 512) :
  (Builtin.clear_ #[45] ty #[.slice (some ⟨b, lo, none⟩) (hi - lo) cap]).run Tryz.prog w = .ok (.tuple #[]) (w.setRow b (prow fun i => if lo ≤ i ∧ i < hi then 0 else g i)) := by
 have hself : lo = hi → w.setRow b (prow fun i => if lo ≤ i ∧ i < hi then 0 else g i) = w := fun e => by
  rw [prow_congr (g := g) (fun i _ => if_neg (by omega))]
  exact setRow_self w b _ _ _ hb
 by_cases e : lo = hi
 ·rw [hself e]
  subst e
  simp [Builtin.clear_, run_underlying Tryz.underlying45]
 ·obtain ⟨n, hn⟩ : ∃ n, hi - lo = n + 1 := ⟨hi - lo - 1, by omega⟩
  have hz : (zeroValue 26).run Tryz.prog w = .ok (.int .u64 0) w := by kernel_rfl
  have hc : (Builtin.zeroCells (Value.int .u64 0).cells (hi - lo)).toList = List.replicate (hi - lo) (.int .u64 0) := by
   apply List.ext_getElem
   ·simp [Builtin.zeroCells, Value.cells]
   ·intro i h3 h4
    simp [Builtin.zeroCells, Value.cells, Nat.mod_one]
  have hst := run_storeCells_at (P := Tryz.prog) b lo 171 (List.replicate (hi - lo) (.int .u64 0)) 0 (prow g) w hb (by simp [prow_size]; omega) (by simp; intro _; rfl)
  have hrow : ((prow g).toList.take (lo + 0) ++ List.replicate (hi - lo) (Value.int .u64 0) ++ (prow g).toList.drop (lo + 0 + (List.replicate (hi - lo) (Value.int .u64 0)).length)).toArray = prow fun i => if lo ≤ i ∧ i < hi then 0 else g i := by
   apply Array.ext_getElem?
   intro i
   have hl : (prow g).toList.length = 512 := by simp [prow_size]
   have hg : ∀ j, j < 512 → (prow g).toList[j]? = some (.int .u64 (g j : Nat)) := fun j hj => by simpa using prow_get g j hj
   by_cases hi5 : i < 512
   ·rw [prow_get _ _ hi5]
    simp only [List.getElem?_toArray]
    by_cases c1 : i < lo
    ·rw [if_neg (by omega), List.append_assoc, List.getElem?_append_left (by simp [prow_size]; omega), List.getElem?_take, if_pos (by omega), hg i hi5]
    ·rw [List.append_assoc, List.getElem?_append_right (by simp [prow_size]; omega)]
     have e1 : (List.take (lo + 0) (prow g).toList).length = lo := by simp [prow_size]; omega
     rw [e1]
     by_cases c2 : i < hi
     ·rw [if_pos (by omega), List.getElem?_append_left (by simp; omega), List.getElem?_replicate, if_pos (by omega)]
      rfl
     ·rw [if_neg (by omega), List.getElem?_append_right (by simp; omega), List.getElem?_drop]
      have e2 : lo + 0 + (List.replicate (hi - lo) (Value.int IntKind.u64 0)).length + (i - lo - (List.replicate (hi - lo) (Value.int IntKind.u64 0)).length) = i := by simp; omega
      rw [e2, hg i hi5]
   ·rw [Array.getElem?_eq_none (by simp [prow_size]; omega), Array.getElem?_eq_none (by rw [prow_size]; omega)]
  rw [hrow] at hst
  rw [hn] at hc hst ⊢
  simp [Builtin.clear_, run_underlying Tryz.underlying45, hz, hc, hst, Result.andThen]
end Go.Proofs.YtfohjkgheeiinaaGreatDoor
namespace Go.Proofs.YtfohjkgheeiinaaGreatDoor
open Go.RowKit Go.Maps
def dn (x : Nat) : Nat := x / 4096 * 4096
theorem dn_le (x : Nat) : dn x ≤ x := Nat.div_mul_le_self _ _
theorem dn_mod (x : Nat) : dn x % 4096 = 0 := Nat.mul_mod_left _ _
theorem dn_lt (x : Nat) : x < dn x + 4096 := by unfold dn; omega
def plc (x : Nat) : Nat := x % 4096 / 8
theorem plc_lt (x : Nat) : plc x < 512 := by unfold plc; omega
theorem dn_plc {x : Nat} (h : x % 8 = 0) : dn x + 8 * plc x = x := by unfold dn plc; omega
def errA (S x : Nat) : Int := if x % 8 ≠ 0 then 13 else if S ≤ x then 12 else 0
theorem andn_12 (x : Nat) (hx : x < 18446744073709551616) : andn x 4095 = dn x := by
 apply Nat.eq_of_testBit_eq
 intro i
 rw [andn_testBit _ _ _ (by decide)]
 have e1 : (4095 : Nat).testBit i = decide (i < 12) := Nat.testBit_two_pow_sub_one 12 i
 have e2 : (dn x).testBit i = (decide (12 ≤ i) && x.testBit i) := by
  show (x / 2 ^ 12 * 2 ^ 12).testBit i = _
  rw [Nat.testBit_mul_two_pow, Nat.testBit_div_two_pow]
  by_cases h : 12 ≤ i
  ·simp [h]
  ·simp [h]
 rw [e1, e2]
 by_cases h : 12 ≤ i
 ·by_cases h6 : i < 64
  ·simp [h, h6]
  ·rw [high_bit x i hx (by omega)]; simp
 ·simp [h]; omega
theorem ones_c (n : Nat) (hn : n = 3 ∨ n = 12) (w : World) :
  Calls Tryz.prog 88 #[.int .i64 n] w fun e w' => e = .returned (.int .u64 ((2 ^ n - 1 : Nat) : Int)) ∧ w = w' := by
 rcases hn with rfl | rfl
 ·go_enter Tryz.func88, Tryz.ntmps88
  go_wp2
  go_ret
  exact ⟨rfl, rfl⟩
 ·go_enter Tryz.func88, Tryz.ntmps88
  go_wp2
  go_ret
  exact ⟨rfl, rfl⟩
theorem down_c (x : Nat) (hx : x < 18446744073709551616) (w : World) :
  Calls Tryz.prog 50 #[.int .u64 x, .int .i64 12] w fun e w' => e = .returned (.int .u64 ((dn x : Nat) : Int)) ∧ w = w' := by
 have hb : bits .andNot .u64 (x : Int) 4095 = ((dn x : Nat) : Int) := by
  have := bits_andNot x 4095 hx (by decide)
  rw [andn_12 x hx] at this
  exact this
 go_enter Tryz.func50, Tryz.ntmps50
 go_wp2_with fail
 refine (ones_c 12 (Or.inr rfl) w).mono ?_
 rintro e w1 ⟨rfl, rfl⟩
 go_wp2
 go_ret
 exact ⟨rfl, rfl⟩
theorem bits_andW (a b : Nat) (ha : a < 18446744073709551616) (hb : b < 18446744073709551616) : bits .and .u64 (a : Int) (b : Int) = ((a &&& b : Nat) : Int) := by
 have h1 : (BitVec.ofInt 64 (a : Int)) = BitVec.ofNat 64 a := BitVec.ofInt_natCast 64 a
 have h2 : (BitVec.ofInt 64 (b : Int)) = BitVec.ofNat 64 b := BitVec.ofInt_natCast 64 b
 show IntKind.u64.wrap ((BitVec.ofInt 64 (a : Int) &&& BitVec.ofInt 64 (b : Int)).toNat : Int) = _
 rw [h1, h2, IntKind.wrap_u64]
 have h3 : (BitVec.ofNat 64 a &&& BitVec.ofNat 64 b).toNat = a &&& b := by
  rw [BitVec.toNat_and, BitVec.toNat_ofNat, BitVec.toNat_ofNat, Nat.mod_eq_of_lt ha, Nat.mod_eq_of_lt hb]
 rw [h3]
 have : a &&& b ≤ a := Nat.and_le_left
 omega
def alB (x n : Nat) : Bool := decide (x % 2 ^ n = 0)
theorem aligned_c (x n : Nat) (hn : n = 3 ∨ n = 12) (hx : x < 18446744073709551616) (w : World) :
  Calls Tryz.prog 59 #[.int .u64 x, .int .i64 n] w fun e w' => e = .returned (.bool (alB x n)) ∧ w = w' := by
 have hl : 2 ^ n - 1 < 18446744073709551616 := by rcases hn with rfl | rfl <;> decide
 have hb := bits_andW x (2 ^ n - 1) hx hl
 rw [Nat.and_two_pow_sub_one_eq_mod] at hb
 have HE : Hid (alB x n = decide (((x % 2 ^ n : Nat) : Int) = 0)) := by
  show alB x n = _
  unfold alB
  rw [decide_eq_decide]; omega
 go_enter Tryz.func59, Tryz.ntmps59
 go_wp2_with fail
 refine (ones_c n hn w).mono ?_
 rintro e w1 ⟨rfl, rfl⟩
 generalize 2 ^ n - 1 = m at *
 generalize x % 2 ^ n = r at *
 go_wp2
 go_ret
 refine ⟨?_, rfl⟩
 rw [HE.out]
 first
  | rfl
  | simp
theorem place_c (x : Nat) (hx : x < 18446744073709551616) (w : World) :
  Calls Tryz.prog 52 #[.int .u64 x] w fun e w' => e = .returned (.int .u64 ((plc x : Nat) : Int)) ∧ w = w' := by
 have HE : Hid (((plc x : Nat) : Int) = ((x : Int) % 4096) / 8) := by
  show ((plc x : Nat) : Int) = _
  unfold plc; omega
 go_enter Tryz.func52, Tryz.ntmps52
 go_wp2
 go_ret
 refine ⟨?_, rfl⟩
 rw [HE.out]
 first
  | rfl
  | (congr 2; done)
  | (congr 2; omega)
structure Mem (w : World) (X : Nat → Prop) (a S n : Nat) (f : Nat → Nat) (mb : Nat) (pg : Nat → Option Nat) : Prop where
 str : w.heap[a]? = some (.cells #[.int .u64 S, .map (some mb)] 144 (0, 0))
 pgs : Pages w mb n pg
 xa : X a
 xm : X mb
 xlt : ∀ i, X i → i < w.heap.size
 s0 : 65536 ≤ S ∧ S ≤ 4294967296 ∧ S % 4096 = 0
 page : ∀ x b, pg x = some b → X b ∧ x % 4096 = 0 ∧ x < S ∧ w.heap[b]? = some (.cells (prow fun i => f (x + 8 * i)) 171 (0, 0)) ∧ ∃ i, i < 512 ∧ f (x + 8 * i) ≠ 0
 inj : ∀ x y b, pg x = some b → pg y = some b → x = y
 zero : ∀ x, x % 4096 = 0 → pg x = none → ∀ i, i < 512 → f (x + 8 * i) = 0
 fl : ∀ x, f x < 18446744073709551616
 out : ∀ x, (x % 8 ≠ 0 ∨ S ≤ x) → f x = 0
def MemAt (w : World) (X : Nat → Prop) (a S n : Nat) (f : Nat → Nat) : Prop := ∃ mb pg, Mem w X a S n f mb pg
def Gr (X : Nat → Prop) (w w' : World) : Nat → Prop := fun i => X i ∨ (w.heap.size ≤ i ∧ i < w'.heap.size)
theorem Mem.kept {w w' : World} {X : Nat → Prop} {a S n : Nat} {f : Nat → Nat} {mb : Nat} {pg : Nat → Option Nat} (h : Mem w X a S n f mb pg) (hb : ∀ i, X i → w'.heap[i]? = w.heap[i]?) (hs : w.heap.size ≤ w'.heap.size) : Mem w' X a S n f mb pg :=
 ⟨(hb a h.xa).trans h.str, h.pgs.block (hb mb h.xm), h.xa, h.xm, fun i hi => Nat.lt_of_lt_of_le (h.xlt i hi) hs, h.s0,
  fun x b e => by obtain ⟨h1, h2, h3, h4, h5⟩ := h.page x b e; exact ⟨h1, h2, h3, (hb b h1).trans h4, h5⟩, h.inj, h.zero, h.fl, h.out⟩
theorem Mem.wide {w : World} {X Y : Nat → Prop} {a S n : Nat} {f : Nat → Nat} {mb : Nat} {pg : Nat → Option Nat} (h : Mem w X a S n f mb pg) (hXY : ∀ i, X i → Y i) (hlt : ∀ i, Y i → i < w.heap.size) : Mem w Y a S n f mb pg :=
 ⟨h.str, h.pgs, hXY _ h.xa, hXY _ h.xm, hlt, h.s0, fun x b e => by obtain ⟨h1, h2⟩ := h.page x b e; exact ⟨hXY _ h1, h2⟩, h.inj, h.zero, h.fl, h.out⟩
theorem MemAt.below {w w' : World} {X : Nat → Prop} {a S n : Nat} {f : Nat → Nat} (h : MemAt w X a S n f) (hb : Below w.heap.size w w') : MemAt w' X a S n f := by
 obtain ⟨mb, pg, h⟩ := h
 exact ⟨mb, pg, h.kept (fun i hi => hb.block i (h.xlt i hi)) hb.size⟩
theorem MemAt.turn {w w' : World} {X Y : Nat → Prop} {a S n : Nat} {f : Nat → Nat} (h : MemAt w X a S n f) (hb : Turn Y w w') (hd : ∀ i, X i → ¬ Y i) : MemAt w' X a S n f := by
 obtain ⟨mb, pg, h⟩ := h
 exact ⟨mb, pg, h.kept (fun i hi => hb.block i (h.xlt i hi) (hd i hi)) hb.size⟩
theorem MemAt.lt {w : World} {X : Nat → Prop} {a S n : Nat} {f : Nat → Nat} (h : MemAt w X a S n f) : ∀ i, X i → i < w.heap.size := by
 obtain ⟨mb, pg, h⟩ := h
 exact h.xlt
theorem Mem.c0 {w : World} {X : Nat → Prop} {a S n : Nat} {f : Nat → Nat} {mb : Nat} {pg : Nat → Option Nat} (h : Mem w X a S n f mb pg) : w.cell? ⟨a, 0, none⟩ = some (.int .u64 S) := by simp [World.cell?, h.str]
theorem Mem.c1 {w : World} {X : Nat → Prop} {a S n : Nat} {f : Nat → Nat} {mb : Nat} {pg : Nat → Option Nat} (h : Mem w X a S n f mb pg) : w.cell? ⟨a, 1, none⟩ = some (.map (some mb)) := by simp [World.cell?, h.str]
theorem check_c {w : World} {a S : Nat} (x : Nat) (hx : x < 18446744073709551616) (c0 : w.cell? ⟨a, 0, none⟩ = some (.int .u64 S)) :
  Calls Tryz.prog 48 #[.pointer (some ⟨a, 0, none⟩), .int .u64 x] w fun e w' => e = .returned (.int .i64 (errA S x)) ∧ w = w' := by
 cases hal : alB x 3
 ·have HE : Hid (errA S x = 13) := by
   show errA S x = 13
   have := of_decide_eq_false hal
   unfold errA; rw [if_pos this]
  go_enter Tryz.func48, Tryz.ntmps48
  go_wp2_with fail
  refine (aligned_c x 3 (Or.inl rfl) hx w).mono ?_
  rintro e w1 ⟨rfl, rfl⟩
  rw [hal]
  go_wp2
  go_ret
  exact ⟨by rw [HE.out]; rfl, rfl⟩
 ·have h8 := of_decide_eq_true hal
  by_cases hS : S ≤ x
  ·have HE : Hid (errA S x = 12) := by
    show errA S x = 12
    unfold errA; rw [if_neg (fun c => c h8), if_pos hS]
   go_enter Tryz.func48, Tryz.ntmps48
   go_wp2_with fail
   refine (aligned_c x 3 (Or.inl rfl) hx w).mono ?_
   rintro e w1 ⟨rfl, rfl⟩
   rw [hal]
   go_wp2
   go_ret
   exact ⟨by rw [HE.out]; rfl, rfl⟩
  ·have HE : Hid (errA S x = 0) := by
    show errA S x = 0
    unfold errA; rw [if_neg (fun c => c h8), if_neg hS]
   go_enter Tryz.func48, Tryz.ntmps48
   go_wp2_with fail
   refine (aligned_c x 3 (Or.inl rfl) hx w).mono ?_
   rintro e w1 ⟨rfl, rfl⟩
   rw [hal]
   go_wp2
   go_ret
   exact ⟨by rw [HE.out]; rfl, rfl⟩
end Go.Proofs.YtfohjkgheeiinaaGreatDoor
