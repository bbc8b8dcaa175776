/- Maps from words to pointers to pages: the library's laws on maps, in plain words. -/
import Derived.Test.YtcmndefjmhcbhaaDoorRows
import Derived.Maps.RangeWalk
import Derived.WalkKit
import Derived.OpenShut
import Derived.WalkSpells
import Derived.WalkLawsBesides
import Derived.Deep.WholeRow
import Derived.Deep.RegionHeld3
import Derived.Laws.CopyOwn
import Derived.BigQuiet
import Derived.Deep.QuietTactic
namespace Go.Proofs.YtcmndefjmhcbhaaDoor
open Go.RowKit Go.Maps
open Go.WideElems (Fit rd rg pl rd_key rd_val rg_of)

/-- How a pointer to a whole block reads: by the block's number. -/
def ptrElem (v : Value) : Option (DataW Unit × List MemPlace) :=
  match v with
  | .pointer (some a) => if a.off = 0 ∧ a.spot = none then some (.lit (.int .u64 a.block), []) else none
  | _ => none

def ptrV : Option Nat → Value
  | none => .pointer none
  | some b => .pointer (some ⟨b, 0, none⟩)

theorem ptrElem_mk (b : Nat) : ptrElem (.pointer (some ⟨b, 0, none⟩)) = some (.lit (.int .u64 b), []) := by simp [ptrElem]
theorem ptrElem_inv {v : Value} {y : DataW Unit × List MemPlace} (h : ptrElem v = some y) : ∃ b : Nat, v = .pointer (some ⟨b, 0, none⟩) ∧ y = (.lit (.int .u64 b), []) := by
  unfold ptrElem at h
  split at h
  · rename_i a
    split at h
    · rename_i hc
      obtain ⟨b, o, s⟩ := a
      obtain ⟨rfl, rfl⟩ := hc
      cases h
      exact ⟨b, rfl, rfl⟩
    · cases h
  · cases h

/-- What a reading has at a word. -/
def pgOf (D : DataW Unit) (x : Nat) : Option Nat :=
  match D.atKey (.int .u64 x) .nil with
  | .lit (.int _ b) => some b.toNat
  | _ => none

theorem law : Keyed Tryd.prog 23 := int_keyed Tryd.underlying23
theorem wfu {x : Nat} (h : x < 18446744073709551616) : (Lit.int .u64 (x : Int)).wf = true := by
  simp [Lit.wf, IntKind.min, IntKind.max, IntKind.signed, IntKind.bits]
  omega
theorem keyx {x : Nat} (h : x < 18446744073709551616) : keyOf Tryd.prog 23 (.int .u64 (x : Int)) = some (.int .u64 x) := keyOf_int_mk Tryd.underlying23 (wfu h)
theorem zeroP (w : World) : (zeroValue 76).run Tryd.prog w = .ok (.pointer none) w := by kernel_rfl

/-- Block mb is a map of at most n entries; at x it has the block pg x. -/
def Pages (w : World) (mb n : Nat) (pg : Nat → Option Nat) : Prop := ∃ D : DataW Unit, w.ownsMap Tryd.prog 23 ptrElem mb n D ∧ ∀ x, x < 18446744073709551616 → pg x = pgOf D x

/-- A loop over it under way, in block r; left x: x is still to come. -/
def PRange (w : World) (mb r n : Nat) (pg : Nat → Option Nat) (left : Nat → Bool) (cnt : Nat) : Prop :=
  ∃ (D : DataW Unit) (lf : Lit → Bool), w.ranges Tryd.prog 23 ptrElem mb r n D lf cnt ∧ (∀ x, x < 18446744073709551616 → pg x = pgOf D x) ∧ ∀ x : Nat, x < 18446744073709551616 → left x = lf (.int .u64 x)

theorem look_cases {w : World} {mb n : Nat} {D : DataW Unit} (h : w.ownsMap Tryd.prog 23 ptrElem mb n D) {x : Nat} (hx : x < 18446744073709551616) :
    (Instr.lookup 79 (.map (some mb)) (.int .u64 x) false).run Tryd.prog w = .ok (ptrV (pgOf D x)) w ∧
    ((pgOf D x = none ∧ (∀ z, D.atKey (.int .u64 x) z = z)) ∨ ∃ b : Nat, pgOf D x = some b ∧ ∀ z, D.atKey (.int .u64 x) z = .lit (.int .u64 b)) := by
  obtain ⟨es, clock, hb, F, _, rfl⟩ := h
  rcases Maps.fit_look false law Tryd.underlying79 (zeroP w) hb F (keyx hx) with ⟨hrun, _, hat⟩ | ⟨e0, y, _, _, hrun, hRv, hat, _⟩
  · have e : pgOf (DataW.map ((es.toList.map (rg Tryd.prog 23 ptrElem)).foldr DataW.insert [])) x = none := by
      unfold pgOf; rw [hat]
    exact ⟨by rw [e]; exact hrun, Or.inl ⟨e, hat⟩⟩
  · obtain ⟨b, hv, rfl⟩ := ptrElem_inv hRv
    have e : pgOf (DataW.map ((es.toList.map (rg Tryd.prog 23 ptrElem)).foldr DataW.insert [])) x = some b := by
      unfold pgOf; rw [hat]; rfl
    refine ⟨by rw [e]; rw [hv] at hrun; exact hrun, Or.inr ⟨b, e, hat⟩⟩

theorem Pages.look {w : World} {mb n : Nat} {pg : Nat → Option Nat} (h : Pages w mb n pg) {x : Nat} (hx : x < 18446744073709551616) :
    (Instr.lookup 79 (.map (some mb)) (.int .u64 x) false).run Tryd.prog w = .ok (ptrV (pg x)) w := by
  obtain ⟨D, h1, h2⟩ := h
  rw [h2 x hx]
  exact (look_cases h1 hx).1

theorem Pages.lt {w : World} {mb n : Nat} {pg : Nat → Option Nat} (h : Pages w mb n pg) : mb < w.heap.size := by
  obtain ⟨D, h1, _⟩ := h
  exact h1.lt

theorem Pages.isMap {w : World} {mb n : Nat} {pg : Nat → Option Nat} (h : Pages w mb n pg) : ∃ es clock, w.heap[mb]? = some (.map es clock) := by
  obtain ⟨D, ⟨es, clock, hb, _⟩, _⟩ := h
  exact ⟨es, clock, hb⟩

theorem Pages.mono {w : World} {mb n n' : Nat} {pg : Nat → Option Nat} (h : Pages w mb n pg) (hn : n ≤ n') : Pages w mb n' pg := by
  obtain ⟨D, h1, h2⟩ := h
  exact ⟨D, h1.mono hn, h2⟩

theorem Pages.block {w w' : World} {mb n : Nat} {pg : Nat → Option Nat} (h : Pages w mb n pg) (hb : w'.heap[mb]? = w.heap[mb]?) : Pages w' mb n pg := by
  obtain ⟨D, ⟨es, clock, h1, h2⟩, h3⟩ := h
  exact ⟨D, ⟨es, clock, hb.trans h1, h2⟩, h3⟩

theorem Pages.made (w : World) : Pages (w.alloc (.map #[] 0)) w.heap.size 0 fun _ => none :=
  ⟨.map [], World.ownsMap_made _ _ _ _, fun _ _ => rfl⟩

theorem lit_ne {x y : Nat} (h : y ≠ x) : Lit.int .u64 (y : Int) ≠ Lit.int .u64 (x : Int) := fun e => h (by injection e with _ e; exact Int.ofNat_inj.1 e)

def updPg (pg : Nat → Option Nat) (x : Nat) (v : Option Nat) : Nat → Option Nat := fun y => if y = x then v else pg y

theorem Pages.store {w : World} {mb n : Nat} {pg : Nat → Option Nat} (h : Pages w mb n pg) (hn : n < 100000000) {x : Nat} (hx : x < 18446744073709551616) (b : Nat) :
    ∃ w', (Instr.mapUpdate 79 (.map (some mb)) (.int .u64 x) (.pointer (some ⟨b, 0, none⟩))).run Tryd.prog w = .ok () w' ∧ Pages w' mb (n + 1) (updPg pg x (some b)) ∧ w.mapTurned w' mb := by
  obtain ⟨D, h1, h2⟩ := h
  obtain ⟨w', hr, ho, ht⟩ := h1.store law Tryd.underlying79 (by unfold maxLen; omega) (keyx hx) (ptrElem_mk b)
  refine ⟨w', hr, ⟨_, ho, fun y hy => ?_⟩, ht⟩
  unfold updPg pgOf
  by_cases e : y = x
  · subst e
    rw [if_pos rfl, atKey_put_same h1.isMap (law.key (keyx hx))]
    rfl
  · rw [if_neg e, atKey_put_other (lit_ne e)]
    exact h2 y hy

theorem Pages.drop {w : World} {mb n : Nat} {pg : Nat → Option Nat} (h : Pages w mb n pg) {x : Nat} (hx : x < 18446744073709551616) (ty : TypeId) :
    ∃ w', (Builtin.delete_ #[79, 23] ty #[.map (some mb), .int .u64 x]).run Tryd.prog w = .ok (.tuple #[]) w' ∧ Pages w' mb n (updPg pg x none) ∧ w.mapTurned w' mb := by
  obtain ⟨D, h1, h2⟩ := h
  obtain ⟨w', hr, ho, ht⟩ := h1.drop law Tryd.underlying79 (keyx hx) ty
  refine ⟨w', hr, ⟨_, ho, fun y hy => ?_⟩, ht⟩
  unfold updPg pgOf
  by_cases e : y = x
  · subst e
    rw [if_pos rfl, atKey_del_same]
  · rw [if_neg e, atKey_del_other (lit_ne e)]
    exact h2 y hy

def litNat : Lit → Nat
  | .int _ x => x.toNat
  | _ => 0

/-- How many there are. -/
theorem Pages.len {w : World} {mb n : Nat} {pg : Nat → Option Nat} (h : Pages w mb n pg) :
    ∃ ks : List Nat, ks.Nodup ∧ (∀ x, x ∈ ks ↔ x < 18446744073709551616 ∧ (pg x).isSome = true) ∧ ks.length ≤ n ∧ ∀ ty, (Builtin.len_ #[79] ty #[.map (some mb)]).run Tryd.prog w = .ok (.int .i64 (ks.length : Nat)) w := by
  obtain ⟨D, h1, h2⟩ := h
  have hlen := fun ty => h1.len Tryd.underlying79 ty
  have hle := h1.size_le
  have hown := h1
  obtain ⟨es, clock, hb, F, _, rfl⟩ := h1
  have hkey : ∀ p ∈ (es.toList.map (rg Tryd.prog 23 ptrElem)).foldr DataW.insert [], ∃ x : Nat, x < 18446744073709551616 ∧ p.1 = .int .u64 x := by
    intro p hp
    obtain ⟨x, hx, rfl⟩ := List.mem_map.1 (mem_sorted.1 hp)
    obtain ⟨y, hy⟩ := F.reads x hx
    obtain ⟨a, _, h4, h5⟩ := Maps.keyOf_int_inv Tryd.underlying23 (rd_key hy)
    rw [rg_of hy]
    have h6 := bounds_u64 h5
    clear h5
    obtain ⟨x, rfl⟩ := Int.eq_ofNat_of_zero_le h6.1
    exact ⟨x, by omega, h4⟩
  have htidy := hown.tidy law
  obtain ⟨es2, e2, hpw⟩ := htidy
  cases e2
  generalize hE : (es.toList.map (rg Tryd.prog 23 ptrElem)).foldr DataW.insert [] = E at *
  refine ⟨E.map fun p => litNat p.1, ?_, fun x => ?_, by simpa [Maps.size] using hle, fun ty => by simpa [Maps.size] using hlen ty⟩
  · unfold List.Nodup
    rw [List.pairwise_map]
    refine List.Pairwise.imp_of_mem ?_ hpw
    intro p q hp hq hne e
    obtain ⟨x, _, hx⟩ := hkey p hp
    obtain ⟨y, _, hy⟩ := hkey q hq
    rw [hx, hy] at e hne
    simp [litNat] at e
    exact hne (by rw [e])
  · have hhas : ∀ x, x < 18446744073709551616 → ((pgOf (.map E) x).isSome = true ↔ Maps.has (.map E) (.int .u64 x) = true) := by
      intro x hx
      rcases (look_cases hown hx).2 with ⟨e, hz⟩ | ⟨b, e, hz⟩
      · rw [e, Maps.has_false_of_atKey hz]; simp
      · rw [e, Maps.has_true_of_atKey hz]; simp
    constructor
    · intro hm
      obtain ⟨p, hp, rfl⟩ := List.mem_map.1 hm
      obtain ⟨x, hx, hpx⟩ := hkey p hp
      rw [hpx]
      simp only [litNat, Int.toNat_natCast]
      refine ⟨hx, ?_⟩
      rw [h2 x hx, hhas x hx]
      exact List.any_eq_true.2 ⟨p, hp, by rw [hpx]; exact WideAt.sameKey_self (law.key (keyx hx))⟩
    · rintro ⟨hx, hs⟩
      rw [h2 x hx, hhas x hx] at hs
      obtain ⟨p, hp, hk⟩ := List.any_eq_true.1 hs
      exact List.mem_map.2 ⟨p, hp, by rw [WideAt.sameKey_eq hk]; simp [litNat]⟩

/-! ### ranging -/
theorem PRange.pages {w : World} {mb r n : Nat} {pg : Nat → Option Nat} {left : Nat → Bool} {cnt : Nat} (h : PRange w mb r n pg left cnt) : Pages w mb n pg := by
  obtain ⟨D, lf, h1, h2, _⟩ := h
  exact ⟨D, h1.owns, h2⟩

theorem PRange.lt {w : World} {mb r n : Nat} {pg : Nat → Option Nat} {left : Nat → Bool} {cnt : Nat} (h : PRange w mb r n pg left cnt) : r < w.heap.size := by
  obtain ⟨D, lf, h1, h2, _⟩ := h
  exact h1.lt

theorem PRange.ne {w : World} {mb r n : Nat} {pg : Nat → Option Nat} {left : Nat → Bool} {cnt : Nat} (h : PRange w mb r n pg left cnt) : r ≠ mb := by
  obtain ⟨D, lf, h1, h2, _⟩ := h
  exact h1.ne

theorem PRange.left_eq {w : World} {mb r n : Nat} {pg : Nat → Option Nat} {left : Nat → Bool} {cnt : Nat} (h : PRange w mb r n pg left cnt) : w.rangeLeft mb r = cnt := by
  obtain ⟨D, lf, h1, h2, _⟩ := h
  exact h1.left_eq

theorem PRange.isIter {w : World} {mb r n : Nat} {pg : Nat → Option Nat} {left : Nat → Bool} {cnt : Nat} (h : PRange w mb r n pg left cnt) : ∃ s c t, w.heap[r]? = some (.mapIter (some mb) s c t) := by
  obtain ⟨D, lf, ⟨es, clock, since, seen, c0, _, _, _, _, hr, _⟩, _⟩ := h
  exact ⟨since, seen, c0, hr⟩

theorem PRange.blocks {w w' : World} {mb r n : Nat} {pg : Nat → Option Nat} {left : Nat → Bool} {cnt : Nat} (h : PRange w mb r n pg left cnt) (hb : w'.heap[mb]? = w.heap[mb]?) (hr : w'.heap[r]? = w.heap[r]?) : PRange w' mb r n pg left cnt := by
  obtain ⟨D, lf, ⟨es, clock, since, seen, c0, h1, h2, h3, h4, h5, h6⟩, h7⟩ := h
  exact ⟨D, lf, ⟨es, clock, since, seen, c0, hb.trans h1, h2, h3, h4, hr.trans h5, h6⟩, h7⟩

theorem Pages.range {w : World} {mb n : Nat} {pg : Nat → Option Nat} (h : Pages w mb n pg) :
    ∃ w' cnt, (Instr.range 79 (.map (some mb))).run Tryd.prog w = .ok (.pointer (some ⟨w.heap.size, 0, none⟩)) w' ∧ PRange w' mb w.heap.size n pg (fun x => (pg x).isSome) cnt ∧ w.grownBy w' none ∧ w'.heap.size = w.heap.size + 1 ∧ cnt ≤ n := by
  obtain ⟨D, h1, h2⟩ := h
  obtain ⟨w', hr, h3, h4, h5⟩ := h1.range law Tryd.underlying79
  refine ⟨w', _, hr, ⟨D, _, h3, h2, fun x hx => ?_⟩, h4, h5, h1.size_le⟩
  show (pg x).isSome = _
  rw [h2 x hx]
  rcases (look_cases h1 hx).2 with ⟨e, hz⟩ | ⟨b, e, hz⟩
  · rw [e, Maps.has_false_of_atKey hz]; rfl
  · rw [e, Maps.has_true_of_atKey hz]; rfl

theorem PRange.next {w : World} {mb r n : Nat} {pg : Nat → Option Nat} {left : Nat → Bool} {cnt : Nat} (h : PRange w mb r n pg left cnt) (ty : TypeId) :
    ((∀ x, x < 18446744073709551616 → left x = false) ∧ (Instr.next (.pointer (some ⟨r, 0, none⟩)) false ty).run Tryd.prog w = .ok (.tuple #[.bool false]) w) ∨
    ∃ x b w' cnt', x < 18446744073709551616 ∧ left x = true ∧ pg x = some b ∧ (Instr.next (.pointer (some ⟨r, 0, none⟩)) false ty).run Tryd.prog w = .ok (.tuple #[.bool true, .int .u64 (x : Nat), .pointer (some ⟨b, 0, none⟩)]) w' ∧
      PRange w' mb r n pg (fun y => left y && !decide (y = x)) cnt' ∧ cnt' < cnt ∧ w.grownBy w' (some r) ∧ w'.heap.size = w.heap.size ∧
      (Instr.entry (.pointer (some ⟨r, 0, none⟩))).run Tryd.prog w' = .ok (.tuple #[.int .u64 (x : Nat), .pointer (some ⟨b, 0, none⟩)]) w' := by
  obtain ⟨D, lf, h1, h2, h3⟩ := h
  rcases h1.next law ty with ⟨h0, hl, hrun⟩ | ⟨key, v, kl, y, w', cnt', hkey, hlk, hv, hat, hrun, hrg, hlt, hgr, hsz, hen⟩
  · exact Or.inl ⟨fun x hx => by rw [h3 x hx, hl], hrun⟩
  · obtain ⟨a, rfl, rfl, hwf⟩ := Maps.keyOf_int_inv Tryd.underlying23 hkey
    obtain ⟨b, rfl, rfl⟩ := ptrElem_inv hv
    replace hwf := bounds_u64 hwf
    obtain ⟨x, rfl⟩ := Int.eq_ofNat_of_zero_le hwf.1
    have hx : x < 18446744073709551616 := by omega
    have hp : pg x = some b := by
      rw [h2 x hx]; unfold pgOf; rw [hat]; rfl
    refine Or.inr ⟨x, b, w', cnt', hx, by rw [h3 x hx]; exact hlk, hp, hrun, ⟨D, _, hrg, h2, fun y hy => ?_⟩, hlt, hgr, hsz, hen⟩
    show (left y && !decide (y = x)) = _
    rw [h3 y hy]
    refine congrArg (fun b : Bool => _ && b) ?_
    by_cases e : y = x
    · subst e
      rw [WideAt.sameKey_self (law.key (keyx hy))]; simp
    · have : (Lit.int .u64 (y : Int)).sameKey (.int .u64 x) = false := Maps.sameKey_ne (lit_ne e)
      rw [this]; simp [e]

theorem PRange.drop {w : World} {mb r n : Nat} {pg : Nat → Option Nat} {left : Nat → Bool} {cnt : Nat} (h : PRange w mb r n pg left cnt) {x : Nat} (hx : x < 18446744073709551616) (ty : TypeId) :
    ∃ w' cnt', (Builtin.delete_ #[79, 23] ty #[.map (some mb), .int .u64 x]).run Tryd.prog w = .ok (.tuple #[]) w' ∧ PRange w' mb r n (updPg pg x none) (fun y => left y && !decide (y = x)) cnt' ∧ cnt' ≤ cnt ∧ w.mapTurned w' mb := by
  obtain ⟨D, lf, h1, h2, h3⟩ := h
  obtain ⟨w', cnt', hr, hrg, hle, ht⟩ := h1.drop law Tryd.underlying79 (keyx hx) ty
  refine ⟨w', cnt', hr, ⟨_, _, hrg, fun y hy => ?_, fun y hy => ?_⟩, hle, ht⟩
  · unfold updPg pgOf
    by_cases e : y = x
    · subst e
      rw [if_pos rfl, atKey_del_same]
    · rw [if_neg e, atKey_del_other (lit_ne e)]
      exact h2 y hy
  · show (left y && !decide (y = x)) = _
    rw [h3 y hy]
    refine congrArg (fun b : Bool => _ && b) ?_
    by_cases e : y = x
    · subst e
      rw [WideAt.sameKey_self (law.key (keyx hy))]; simp
    · have : (Lit.int .u64 (y : Int)).sameKey (.int .u64 x) = false := Maps.sameKey_ne (lit_ne e)
      rw [this]; simp [e]
end Go.Proofs.YtcmndefjmhcbhaaDoor
