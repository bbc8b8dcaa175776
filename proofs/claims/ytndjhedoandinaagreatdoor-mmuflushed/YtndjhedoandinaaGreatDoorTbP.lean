/- Buffers: the walk of Fill. -/
import Derived.Test.YtndjhedoandinaaGreatDoorVirtD
import Derived.Test.YtndjhedoandinaaGreatDoorSegs
import Derived.Deep.AppendLies
import Derived.Laws.StructEq
import Derived.Laws.ResultCell
import Derived.Lib.SliceRun
import Derived.Deep.QuietTactic
import Derived.BigQuiet
import Derived.Deep.RegionLaw

/- Entries of a buffer, in plain Lean and in memory: what one holds, lists of them, rows. -/
namespace Go.Proofs.YtndjhedoandinaaGreatDoor.TB
open Go.RowKit

/-- An entry: ASID, address, level, and the seven parts of a descriptor. -/
structure En where
  aid : Int
  va : Nat
  lv : Int
  k : Int
  o : Nat
  u : Bool
  r : Bool
  x : Bool
  s : Bool
  a : Int

def En.cs (e : En) : List Value := [.int .i64 e.aid, .int .u64 (e.va : Int), .int .i64 e.lv, .int .i64 e.k, .int .u64 (e.o : Int), .bool e.u, .bool e.r, .bool e.x, .bool e.s, .int .i64 e.a]
abbrev En.v (e : En) : Value := .agg #[.int .i64 e.aid, .int .u64 (e.va : Int), .int .i64 e.lv, .int .i64 e.k, .int .u64 (e.o : Int), .bool e.u, .bool e.r, .bool e.x, .bool e.s, .int .i64 e.a]
/-- Its two words are words. -/
def En.ok (e : En) : Prop := e.va < 18446744073709551616 ∧ e.o < 18446744073709551616
def e0 : En := ⟨0, 0, 0, 0, 0, false, false, false, false, 0⟩
/-- Two entries, held against one another; a list's entry at a place. -/
def eqB (e f : En) : Bool := e.aid == f.aid && (e.va == f.va && (e.lv == f.lv && (e.k == f.k && (e.o == f.o && (e.u == f.u && (e.r == f.r && (e.x == f.x && (e.s == f.s && e.a == f.a))))))))
theorem eqB_iff {e f : En} : eqB e f = true ↔ e = f := by
  obtain ⟨a0, a1, a2, a3, a4, a5, a6, a7, a8, a9⟩ := e
  obtain ⟨b0, b1, b2, b3, b4, b5, b6, b7, b8, b9⟩ := f
  unfold eqB
  simp only [Bool.and_eq_true, beq_iff_eq, En.mk.injEq]
theorem eqB_true {e f : En} (h : e = f) : eqB e f = true := eqB_iff.2 h
theorem eqB_false {e f : En} (h : ¬ e = f) : eqB e f = false := by
  cases h1 : eqB e f
  · rfl
  · exact absurd (eqB_iff.1 h1) h
theorem eqB_comm (e f : En) : eqB e f = eqB f e := by
  rw [Bool.eq_iff_iff, eqB_iff, eqB_iff]
  exact eq_comm
def memB (e : En) (l : List En) : Bool := l.any (eqB e)
theorem memB_iff {e : En} {l : List En} : memB e l = true ↔ e ∈ l := by
  unfold memB
  rw [List.any_eq_true]
  constructor
  · rintro ⟨x, hx, h⟩
    rw [eqB_iff.1 h]; exact hx
  · intro h
    exact ⟨e, h, eqB_true rfl⟩
theorem memB_true {e : En} {l : List En} (h : e ∈ l) : memB e l = true := memB_iff.2 h
theorem memB_false {e : En} {l : List En} (h : ¬ e ∈ l) : memB e l = false := by
  cases h1 : memB e l
  · rfl
  · exact absurd (memB_iff.1 h1) h
def gE (l : List En) (i : Nat) : En := l.getD i e0
theorem gE_pos (l : List En) (i : Nat) (h : i < l.length) : gE l i = l[i] := by
  unfold gE
  rw [List.getD_eq_getElem?_getD, List.getElem?_eq_getElem h]; rfl
theorem e0_ok : e0.ok := ⟨by decide, by decide⟩
theorem En.len (e : En) : e.cs.length = 10 := rfl
theorem En.one (e : En) : ∀ u ∈ e.cs, u.oneCell' = true := by
  intro u hu
  simp only [En.cs, List.mem_cons, List.not_mem_nil, or_false] at hu
  rcases hu with rfl | rfl | rfl | rfl | rfl | rfl | rfl | rfl | rfl | rfl <;> rfl

/-- The cells of a list of entries. -/
def ecs : List En → List Value
  | [] => []
  | e :: l => e.cs ++ ecs l
theorem ecs_app (l m : List En) : ecs (l ++ m) = ecs l ++ ecs m := by
  induction l with
  | nil => rfl
  | cons e l ih => show e.cs ++ ecs (l ++ m) = _; rw [ih]; exact (List.append_assoc ..).symm
theorem ecs_len (l : List En) : (ecs l).length = l.length * 10 := by
  induction l with
  | nil => rfl
  | cons e l ih => show (e.cs ++ ecs l).length = _; rw [List.length_append, ih, En.len, List.length_cons]; omega
theorem ecs_one (l : List En) : ∀ u ∈ ecs l, u.oneCell' = true := by
  induction l with
  | nil => intro u hu; cases hu
  | cons e l ih =>
    intro u hu
    rcases List.mem_append.1 hu with h | h
    · exact e.one u h
    · exact ih u h
theorem ecs_get (l : List En) (i j : Nat) (hj : j < 10) (hi : i < l.length) : (ecs l)[i * 10 + j]? = ((gE l i)).cs[j]? := by
  induction l generalizing i with
  | nil => simp at hi
  | cons e l ih =>
    cases i with
    | zero =>
      show (e.cs ++ ecs l)[0 * 10 + j]? = _
      rw [List.getElem?_append_left (by rw [En.len]; omega), Nat.zero_mul, Nat.zero_add]
      rfl
    | succ i =>
      show (e.cs ++ ecs l)[(i + 1) * 10 + j]? = _
      rw [List.getElem?_append_right (by rw [En.len]; omega), En.len, show (i + 1) * 10 + j - 10 = i * 10 + j by omega, ih i (by simpa using hi)]
      rfl
theorem ecs_take (l : List En) (n : Nat) : (ecs l).take (n * 10) = ecs (l.take n) := by
  induction l generalizing n with
  | nil => simp [ecs]
  | cons e l ih =>
    cases n with
    | zero => simp [ecs]
    | succ n =>
      show (e.cs ++ ecs l).take ((n + 1) * 10) = e.cs ++ ecs (l.take n)
      rw [List.take_append, En.len, show (n + 1) * 10 - 10 = n * 10 by omega, ih, List.take_of_length_le (by rw [En.len]; omega)]
theorem ecs_drop (l : List En) (n : Nat) : (ecs l).drop (n * 10) = ecs (l.drop n) := by
  induction l generalizing n with
  | nil => simp [ecs]
  | cons e l ih =>
    cases n with
    | zero => simp
    | succ n =>
      show (e.cs ++ ecs l).drop ((n + 1) * 10) = ecs (l.drop n)
      rw [List.drop_append, En.len, show (n + 1) * 10 - 10 = n * 10 by omega, ih, List.drop_eq_nil_of_le (by rw [En.len]; omega)]
      rfl

/-- A slice of entries, to read: where it lies, if it has any. -/
def RdA (w : World) (ad : Option Addr) (l : List En) : Prop :=
  ∀ i, i < l.length → ∃ g o, ad = some ⟨g, o, none⟩ ∧ g < w.heap.size ∧ ∀ j u, ((gE l i)).cs[j]? = some u → w.cell? ⟨g, o + i * 10 + j, none⟩ = some u
def notIn (X : Nat → Prop) (ad : Option Addr) : Prop := ∀ a, ad = some a → ¬ X a.block
theorem RdA.kept {w w' : World} {ad : Option Addr} {l : List En} (h : RdA w ad l) (hs : w.heap.size ≤ w'.heap.size) (hb : ∀ a, ad = some a → a.block < w.heap.size → w'.heap[a.block]? = w.heap[a.block]?) : RdA w' ad l := fun i hi => by
  obtain ⟨g, o, rfl, hg, hc⟩ := h i hi
  exact ⟨g, o, rfl, Nat.lt_of_lt_of_le hg hs, fun j u hu => (World.cell?_of_block (a := ⟨g, o + i * 10 + j, none⟩) (hb ⟨g, o, none⟩ rfl hg)).trans (hc j u hu)⟩
theorem RdA.later {w w' : World} {ad : Option Addr} {l : List En} (h : RdA w ad l) (hb : Below w.heap.size w w') : RdA w' ad l :=
  h.kept hb.size (fun _ _ hlt => hb.block _ hlt)
theorem RdA.turn {w w' : World} {X : Nat → Prop} {ad : Option Addr} {l : List En} (h : RdA w ad l) (ht : Turn X w w') (hn : notIn X ad) : RdA w' ad l :=
  h.kept ht.size (fun a e hlt => ht.block _ hlt (hn a e))
theorem RdA.nil (w : World) (ad : Option Addr) : RdA w ad [] := fun _ hi => absurd hi (Nat.not_lt_zero _)
theorem RdA.take {w : World} {ad : Option Addr} {l : List En} (h : RdA w ad l) (n : Nat) : RdA w ad (l.take n) := fun i hi => by
  have h1 : i < n ∧ i < l.length := by simpa [Nat.lt_min] using hi
  obtain ⟨g, o, e, hg, hc⟩ := h i h1.2
  have e1 : (gE (l.take n) i) = (gE l i) := by rw [gE_pos (l.take n) i hi, gE_pos l i h1.2, List.getElem_take]
  exact ⟨g, o, e, hg, fun j u hu => hc j u (by rw [← e1]; exact hu)⟩
theorem RdA.drop {w : World} {g o : Nat} {l : List En} (h : RdA w (some ⟨g, o, none⟩) l) (n : Nat) : RdA w (some ⟨g, o + n * 10, none⟩) (l.drop n) := fun i hi => by
  have h1 : n + i < l.length := by simp at hi; omega
  obtain ⟨g', o', e, hg, hc⟩ := h (n + i) h1
  cases e
  refine ⟨g, o + n * 10, rfl, hg, fun j u hu => ?_⟩
  rw [show o + n * 10 + i * 10 + j = o + (n + i) * 10 + j by omega]
  have e1 : (gE (l.drop n) i) = (gE l (n + i)) := by rw [gE_pos (l.drop n) i hi, gE_pos l (n + i) h1, List.getElem_drop]
  exact hc j u (by rw [← e1]; exact hu)
/-- The cells of a slice, one behind another. -/
theorem RdA.cells {w : World} {g o : Nat} {l : List En} (h : RdA w (some ⟨g, o, none⟩) l) : ∀ j u, (ecs l)[j]? = some u → w.cell? ((⟨g, o, none⟩ : Addr).add j) = some u := by
  intro j u hu
  have hj : j < l.length * 10 := by rw [← ecs_len]; exact (List.getElem?_eq_some_iff.1 hu).1
  have e : j = j / 10 * 10 + j % 10 := by omega
  obtain ⟨g', o', e1, hg, hc⟩ := h (j / 10) (by omega)
  cases e1
  rw [e, ecs_get l _ _ (by omega) (by omega)] at hu
  have := hc _ _ hu
  rw [Addr.add_lit]
  rwa [show o + j / 10 * 10 + j % 10 = o + j by omega] at this

/-- A row of the call's own, to read. -/
theorem own_rd {w : World} {base : Nat} {T : TypeId} {v : Value} {l : List En} (h : w.ownsRow base T 10 v l.length (ecs l)) : ∃ ad cap, v = .slice ad l.length cap ∧ RdA w ad l ∧ (∀ a, ad = some a → base ≤ a.block ∧ a.block < w.heap.size) := by
  have hl := h.lt
  rcases h.2 with ⟨rfl, h0⟩ | ⟨g, cap, cur, rfl, hb, hg, hr⟩
  · exact ⟨none, 0, by rw [h0], fun i hi => by omega, fun a ha => by cases ha⟩
  · refine ⟨some ⟨g, 0, none⟩, cap, rfl, fun i hi => ⟨g, 0, rfl, (hl g rfl).2, fun j u hu => ?_⟩, fun a ha => by cases ha; exact hl g rfl⟩
    have hj : j < 10 := by rw [← ((gE l i)).len]; exact (List.getElem?_eq_some_iff.1 hu).1
    have := h.cells rfl (i * 10 + j) u (by rw [ecs_get l i j hj hi]; exact hu)
    rw [Addr.add_lit] at this
    rwa [show 0 + i * 10 + j = 0 + (i * 10 + j) by omega]

/-- Ten cells. -/
theorem cells10 {w1 : World} {g t : Nat} {c0 c1 c2 c3 c4 c5 c6 c7 c8 c9 : Value} (hh : w1.heap[g]? = some (.cells #[c0, c1, c2, c3, c4, c5, c6, c7, c8, c9] t (0, 0))) :
    w1.cell? ⟨g, 0, none⟩ = some c0 ∧ w1.cell? ⟨g, 1, none⟩ = some c1 ∧ w1.cell? ⟨g, 2, none⟩ = some c2 ∧ w1.cell? ⟨g, 3, none⟩ = some c3 ∧ w1.cell? ⟨g, 4, none⟩ = some c4 ∧ w1.cell? ⟨g, 5, none⟩ = some c5 ∧ w1.cell? ⟨g, 6, none⟩ = some c6 ∧ w1.cell? ⟨g, 7, none⟩ = some c7 ∧ w1.cell? ⟨g, 8, none⟩ = some c8 ∧ w1.cell? ⟨g, 9, none⟩ = some c9 := by
  refine ⟨?_, ?_, ?_, ?_, ?_, ?_, ?_, ?_, ?_, ?_⟩
  all_goals (rw [cell_of_row _ _ _ _ _ _ hh]; rfl)
theorem res_row_tmp {P : Program} {fn : Func} {p u : Tmp} {ty : TypeId} (h : fn.results = #[.cell p ty, .tmp u]) (tmps : Array Value) (w : World) (g : Nat) (t : TypeId) (cs : Array Value) (fr : Nat × Nat) (d : TypeDesc)
    (hp : tmps.getD p undef = .pointer (some ⟨g, 0, none⟩)) (hg : w.heap[g]? = some (.cells cs t fr))
    (hu : P.underlying ty = some d) (hd : (match d with | .struct _ | .array _ _ => true | _ => false) = true) (hi : (P.info? ty).map (·.size) = some cs.size) :
    (results fn tmps).run P w = .ok (.tuple #[.agg cs, tmps.getD u undef]) w := by
  rw [results_cell_tmp h, hp]
  simp [asAddr, run_loadVar_row w g t ty cs fr d hg hu hd hi, Result.andThen]

/-- Two integers, two truth values. -/
theorem eq_ways {e f : En} (h : e ≠ f) : e.aid ≠ f.aid ∨ e.aid = f.aid ∧ (e.va ≠ f.va ∨ e.va = f.va ∧ (e.lv ≠ f.lv ∨ e.lv = f.lv ∧ (e.k ≠ f.k ∨ e.k = f.k ∧ (e.o ≠ f.o ∨ e.o = f.o ∧ (e.u ≠ f.u ∨ e.u = f.u ∧ (e.r ≠ f.r ∨ e.r = f.r ∧ (e.x ≠ f.x ∨ e.x = f.x ∧ (e.s ≠ f.s ∨ e.s = f.s ∧ e.a ≠ f.a)))))))) := by
  obtain ⟨a0, a1, a2, a3, a4, a5, a6, a7, a8, a9⟩ := e
  obtain ⟨b0, b1, b2, b3, b4, b5, b6, b7, b8, b9⟩ := f
  simp only [Ne, En.mk.injEq] at h ⊢
  by_cases h0 : a0 = b0
  · refine Or.inr ⟨h0, ?_⟩; subst h0
    by_cases h1 : a1 = b1
    · refine Or.inr ⟨h1, ?_⟩; subst h1
      by_cases h2 : a2 = b2
      · refine Or.inr ⟨h2, ?_⟩; subst h2
        by_cases h3 : a3 = b3
        · refine Or.inr ⟨h3, ?_⟩; subst h3
          by_cases h4 : a4 = b4
          · refine Or.inr ⟨h4, ?_⟩; subst h4
            by_cases h5 : a5 = b5
            · refine Or.inr ⟨h5, ?_⟩; subst h5
              by_cases h6 : a6 = b6
              · refine Or.inr ⟨h6, ?_⟩; subst h6
                by_cases h7 : a7 = b7
                · refine Or.inr ⟨h7, ?_⟩; subst h7
                  by_cases h8 : a8 = b8
                  · refine Or.inr ⟨h8, ?_⟩; subst h8
                    exact fun h9 => h ⟨rfl, rfl, rfl, rfl, rfl, rfl, rfl, rfl, rfl, h9⟩
                  · exact Or.inl h8
                · exact Or.inl h7
              · exact Or.inl h6
            · exact Or.inl h5
          · exact Or.inl h4
        · exact Or.inl h3
      · exact Or.inl h2
    · exact Or.inl h1
  · exact Or.inl h0

/-- The program's '==' of two entries. -/
theorem eqT (e f : En) (w : World) : (binOp .eql 107 e.v f.v).run Tryz.prog w = .ok (.bool (eqB e f)) w := by
  by_cases h : e = f
  · subst h
    rw [eqB_true rfl]
    obtain ⟨a0, a1, a2, a3, a4, a5, a6, a7, a8, a9⟩ := e
    go_simp
  · rw [eqB_false h]
    have hw := eq_ways h
    clear h
    obtain ⟨a0, a1, a2, a3, a4, a5, a6, a7, a8, a9⟩ := e
    obtain ⟨b0, b1, b2, b3, b4, b5, b6, b7, b8, b9⟩ := f
    simp only at hw
    rcases hw with h | ⟨rfl, h | ⟨rfl, h | ⟨rfl, h | ⟨rfl, h | ⟨rfl, h | ⟨rfl, h | ⟨rfl, h | ⟨rfl, h | ⟨rfl, h⟩⟩⟩⟩⟩⟩⟩⟩⟩
    all_goals (go_simp <;> simp_all <;> (intro hq; omega))

/-- The document's '==' of two entries. -/
theorem eqR (e f : En) (w : World) : (binOp .eql 110 e.v f.v).run Tryz.prog w = .ok (.bool (eqB e f)) w := by
  by_cases h : e = f
  · subst h
    rw [eqB_true rfl]
    obtain ⟨a0, a1, a2, a3, a4, a5, a6, a7, a8, a9⟩ := e
    go_simp
  · rw [eqB_false h]
    have hw := eq_ways h
    clear h
    obtain ⟨a0, a1, a2, a3, a4, a5, a6, a7, a8, a9⟩ := e
    obtain ⟨b0, b1, b2, b3, b4, b5, b6, b7, b8, b9⟩ := f
    simp only at hw
    rcases hw with h | ⟨rfl, h | ⟨rfl, h | ⟨rfl, h | ⟨rfl, h | ⟨rfl, h | ⟨rfl, h | ⟨rfl, h | ⟨rfl, h | ⟨rfl, h⟩⟩⟩⟩⟩⟩⟩⟩⟩
    all_goals (go_simp <;> simp_all <;> (intro hq; omega))

end Go.Proofs.YtndjhedoandinaaGreatDoor.TB

/- Entries: what is right, what matches, what meets: the walks of package tlb's functions on entries. -/
namespace Go.Proofs.YtndjhedoandinaaGreatDoor.TB
open Go.RowKit

def baseB (b x : Nat) (l : Int) : Bool := isLv l && decide (baseV x l = b)
/-- The match. -/
def mB (e : En) (i : Int) (x : Nat) : Bool := decide (e.aid = i) && (lowB x && baseB e.va x e.lv)
def leafE (l k : Int) (o : Nat) (u r x s : Bool) (a : Int) : Bool := (decide (k = 2) || decide (k = 3)) && rightP l k o u r x s a
/-- What may be. -/
def rightE (e : En) : Bool := decide (0 ≤ e.aid ∧ e.aid ≤ 255) && (leafE e.lv e.k e.o e.u e.r e.x e.s e.a && (e.s && mB e e.aid e.va))

set_option maxHeartbeats 1000000 in
theorem isBase_any (b x : Nat) (l : Int) (hx : x < 18446744073709551616) (w : World) :
    Calls Tryz.prog 129 #[.int .u64 b, .int .u64 x, .int .i64 l] w fun e w' => e = .returned (.bool (baseB b x l)) ∧ w = w' := by
  cases hl : isLv l
  · have HE : Hid (baseB b x l = false) := by show baseB b x l = _; unfold baseB; rw [hl]; rfl
    have e : lowL l = 0 := lowL_wrong hl
    go_enter Tryz.func129, Tryz.ntmps129
    go_wp2_with (first
      | (go_at_call 109; refine (dbits_any _ _).mono ?_; rintro e w' ⟨rfl, rfl⟩; rw [e])
      | (go_at_call 95; refine (base_any x l hx _).mono ?_; rintro e w' ⟨rfl, rfl⟩))
    go_ret
    exact ⟨by rw [HE.out]; rfl, rfl⟩
  · have HE : Hid (baseB b x l = ((baseV x l : Int) == (b : Int))) := by
      show baseB b x l = _
      unfold baseB; rw [hl, Bool.true_and, Bool.eq_iff_iff, decide_eq_true_eq, beq_iff_eq]; omega
    obtain ⟨e, h1, h2, -⟩ := lowK_eq hl
    have h3 : (0 : Int) < lowL l := by omega
    clear e h1 h2
    generalize hbv : baseV x l = B at *
    have hB := fun w1 => base_any x l hx w1
    rw [hbv] at hB
    clear hbv
    generalize hlv : lowL l = L at *
    have hL := fun w1 => dbits_any l w1
    rw [hlv] at hL
    clear hlv
    go_enter Tryz.func129, Tryz.ntmps129
    go_wp2_with (first
      | (go_at_call 109; refine (hL _).mono ?_; rintro e w' ⟨rfl, rfl⟩)
      | (go_at_call 95; refine (hB _).mono ?_; rintro e w' ⟨rfl, rfl⟩))
    all_goals go_ret
    all_goals exact ⟨by rw [HE.out]; rfl, rfl⟩

set_option maxHeartbeats 1000000 in
theorem matches_any (e : En) (i : Int) (x : Nat) (hx : x < 18446744073709551616) (w : World) :
    Calls Tryz.prog 91 #[e.v, .int .i64 i, .int .u64 x] w fun r w' => r = .returned (.bool (mB e i x)) ∧ Below w.heap.size w w' := by
  unfold mB
  obtain ⟨a0, a1, a2, a3, a4, a5, a6, a7, a8, a9⟩ := e
  simp only [En.v]
  by_cases h0 : a0 = i
  · rw [decide_eq_true h0, Bool.true_and]
    have d0 : (a0 == i) = true := by rw [beq_iff_eq]; exact h0
    cases hl : lowB x
    · go_enter Tryz.func91, Tryz.ntmps91
      go_wp2_with (first
        | (go_at_call 128; refine (low_any x _).mono ?_; rintro e w' ⟨rfl, rfl⟩; rw [hl]))
      all_goals go_ret
      all_goals exact ⟨rfl, below_new _ _⟩
    · rw [Bool.true_and]
      go_enter Tryz.func91, Tryz.ntmps91
      go_wp2_with (first
        | (go_at_call 128; refine (low_any x _).mono ?_; rintro e w' ⟨rfl, rfl⟩; rw [hl])
        | (go_at_call 129; refine (isBase_any a1 x a2 hx _).mono ?_; rintro e w' ⟨rfl, rfl⟩))
      all_goals go_ret
      all_goals exact ⟨rfl, below_new _ _⟩
  · rw [decide_eq_false h0, Bool.false_and]
    have d0 : (a0 == i) = false := by rw [beq_eq_false_iff_ne]; exact h0
    go_enter Tryz.func91, Tryz.ntmps91
    go_wp2
    go_ret
    exact ⟨rfl, below_new _ _⟩

set_option maxHeartbeats 1000000 in
theorem isLeaf_any (l k : Int) (o : Nat) (u r x s : Bool) (a : Int) (ho : o < 18446744073709551616) (w : World) (hF : Flds w) :
    Calls Tryz.prog 150 #[dv k o u r x s a, .int .i64 l] w fun e w' => e = .returned (.bool (leafE l k o u r x s a)) ∧ Below w.heap.size w w' := by
  have hc := fun w1 h1 => right_d l k o u r x s a ho w1 h1
  have hF1 := fun ob => hF.alloc ob
  by_cases h2 : k = 2
  · have HE : Hid (leafE l k o u r x s a = rightP l k o u r x s a) := by show leafE l k o u r x s a = _; unfold leafE; rw [decide_eq_true h2]; rfl
    generalize rightP l k o u r x s a = R at *
    have d2 : (k == 2) = true := by rw [beq_iff_eq]; exact h2
    clear h2
    go_enter Tryz.func150, Tryz.ntmps150
    go_wp2_with (go_at_call 146; refine (hc _ (hF1 _)).mono ?_; rintro e w' ⟨rfl, hb⟩)
    all_goals go_ret
    all_goals exact ⟨by rw [HE.out]; rfl, below_tr (below_new _ _) hb⟩
  by_cases h3 : k = 3
  · have HE : Hid (leafE l k o u r x s a = rightP l k o u r x s a) := by show leafE l k o u r x s a = _; unfold leafE; rw [decide_eq_true h3, Bool.or_true]; rfl
    generalize rightP l k o u r x s a = R at *
    have d2 : (k == 2) = false := by rw [beq_eq_false_iff_ne]; exact h2
    have d3 : (k == 3) = true := by rw [beq_iff_eq]; exact h3
    clear h2 h3
    go_enter Tryz.func150, Tryz.ntmps150
    go_wp2_with (go_at_call 146; refine (hc _ (hF1 _)).mono ?_; rintro e w' ⟨rfl, hb⟩)
    all_goals go_ret
    all_goals exact ⟨by rw [HE.out]; rfl, below_tr (below_new _ _) hb⟩
  · have HE : Hid (leafE l k o u r x s a = false) := by show leafE l k o u r x s a = _; unfold leafE; rw [decide_eq_false h2, decide_eq_false h3]; rfl
    have d2 : (k == 2) = false := by rw [beq_eq_false_iff_ne]; exact h2
    have d3 : (k == 3) = false := by rw [beq_eq_false_iff_ne]; exact h3
    clear h2 h3
    go_enter Tryz.func150, Tryz.ntmps150
    go_wp2
    all_goals go_ret
    all_goals exact ⟨by rw [HE.out]; rfl, below_new _ _⟩

set_option maxHeartbeats 2000000 in
theorem rightE_any (e : En) (he : e.ok) (w : World) (hF : Flds w) :
    Calls Tryz.prog 132 #[e.v] w fun r w' => r = .returned (.bool (rightE e)) ∧ Below w.heap.size w w' := by
  have hm := fun w1 => matches_any e e.aid e.va he.1 w1
  have hlf := fun w1 h1 => isLeaf_any e.lv e.k e.o e.u e.r e.x e.s e.a he.2 w1 h1
  have HE : Hid (rightE e = (decide (0 ≤ e.aid ∧ e.aid ≤ 255) && (leafE e.lv e.k e.o e.u e.r e.x e.s e.a && (e.s && mB e e.aid e.va)))) := rfl
  have hF1 := fun ob => hF.alloc ob
  generalize mB e e.aid e.va = M at *
  generalize leafE e.lv e.k e.o e.u e.r e.x e.s e.a = L at *
  obtain ⟨a0, a1, a2, a3, a4, a5, a6, a7, a8, a9⟩ := e
  simp only [En.v] at *
  by_cases h0 : 0 ≤ a0
  · have d0 : decide (0 ≤ a0) = true := decide_eq_true h0
    by_cases h1 : a0 ≤ 255
    · have d1 : decide (a0 ≤ 255) = true := decide_eq_true h1
      rw [decide_eq_true (show 0 ≤ a0 ∧ a0 ≤ 255 from ⟨h0, h1⟩), Bool.true_and] at HE
      cases L
      · go_enter Tryz.func132, Tryz.ntmps132
        go_wp2_with (go_at_call 150; refine (hlf _ (hF1 _)).mono ?_; rintro e w' ⟨rfl, hb⟩)
        all_goals go_ret
        all_goals exact ⟨by rw [HE.out]; rfl, below_tr (below_new _ _) hb⟩
      · rw [Bool.true_and] at HE
        go_enter Tryz.func132, Tryz.ntmps132
        go_wp2_with fail
        refine (hlf _ (hF1 _)).mono ?_
        rintro e w1 ⟨rfl, hb⟩
        have hK := block_later hb (heap_alloc_new w (.cells #[.int .i64 a0, .int .u64 a1, .int .i64 a2, .int .i64 a3, .int .u64 a4, .bool a5, .bool a6, .bool a7, .bool a8, .int .i64 a9] 107))
        obtain ⟨q0, q1, q2, q3, q4, q5, q6, q7, q8, q9⟩ := cells10 hK
        have hB := below_tr (below_new _ _) hb
        clear hb hK hlf hF1
        cases a8
        · go_wp2
          all_goals go_ret
          all_goals exact ⟨by rw [HE.out]; rfl, hB⟩
        · go_wp2_with fail
          refine (hm _).mono ?_
          rintro e w2 ⟨rfl, hb2⟩
          go_wp2
          all_goals go_ret
          all_goals exact ⟨by rw [HE.out]; rfl, below_tr hB hb2⟩
    · have d1 : decide (a0 ≤ 255) = false := decide_eq_false h1
      rw [decide_eq_false (show ¬ (0 ≤ a0 ∧ a0 ≤ 255) from fun h => h1 h.2), Bool.false_and] at HE
      go_enter Tryz.func132, Tryz.ntmps132
      go_wp2
      all_goals go_ret
      all_goals exact ⟨by rw [HE.out]; rfl, below_new _ _⟩
  · have d0 : decide (0 ≤ a0) = false := decide_eq_false h0
    rw [decide_eq_false (show ¬ (0 ≤ a0 ∧ a0 ≤ 255) from fun h => h0 h.1), Bool.false_and] at HE
    go_enter Tryz.func132, Tryz.ntmps132
    go_wp2
    all_goals go_ret
    all_goals exact ⟨by rw [HE.out]; rfl, below_new _ _⟩

end Go.Proofs.YtndjhedoandinaaGreatDoor.TB

/- Rows of entries: the walks of package slices' Index, Contains, Clone at entries. -/
namespace Go.Proofs.YtndjhedoandinaaGreatDoor.TB
open Go.RowKit

abbrev TE : TypeId := 107
theorem below_dN {w0 w : World} (h : Below w0.heap.size w0 w) : ∀ n, Below w0.heap.size w0 (w.drewN n)
  | 0 => h
  | n + 1 => (below_dN h n).drew

set_option maxHeartbeats 4000000 in
set_option maxRecDepth 100000 in
theorem index_c (l : List En) (e : En) (ad : Option Addr) (cap : Nat) (w : World) (hn : l.length ≤ 1000) (hr : RdA w ad l) :
    Calls Tryz.prog 151 #[.slice ad l.length cap, e.v] w fun r w' => (∃ z : Int, r = .returned (.int .i64 z) ∧ (0 ≤ z ↔ e ∈ l)) ∧ Below w.heap.size w w' := by
  have HR := Hid.mk hr
  have heq := fun y w1 => eqT e y w1
  have HE := Hid.mk (rfl : e = e)
  have hnI : (l.length : Int) ≤ 1000 := by omega
  obtain ⟨f, hf⟩ : ∃ f : En, f = e := ⟨_, rfl⟩
  rw [← hf] at heq ⊢
  have HF := Hid.mk hf
  clear hr hn hf HE
  obtain ⟨a0, a1, a2, a3, a4, a5, a6, a7, a8, a9⟩ := f
  simp only [En.v] at *
  go_enter Tryz.func151, Tryz.ntmps151
  go_wp2
  go_loopw [5, 8] (fun _ s8 wr => ∃ i : Nat, i ≤ l.length ∧ s8 = .int .i64 (i : Nat) ∧ Below w.heap.size w wr ∧ wr.heap[w.heap.size]? = some (.cells #[.int .i64 a0, .int .u64 a1, .int .i64 a2, .int .i64 a3, .int .u64 a4, .bool a5, .bool a6, .bool a7, .bool a8, .int .i64 a9] 107 (0, 0)) ∧ ∀ j, j < i → (gE l j) ≠ e) (fun _ s8 _ => l.length - (RowKit.intOf s8).toNat)
  case atStart => exact ⟨0, by omega, rfl, below_new _ _, heap_alloc_new _ _, fun j hj => absurd hj (Nat.not_lt_zero _)⟩
  case round =>
    obtain ⟨i, hi, rfl, hb, hK, hno⟩ := hrel
    have HB := Hid.mk hb
    have HK := Hid.mk hK
    have HNO := Hid.mk hno
    clear hno
    by_cases hlt : i < l.length
    · have hlt2 : (i : Int) < l.length := by omega
      have HLT := Hid.mk hlt
      have hib : (i : Int) < 1000 := by omega
      obtain ⟨g, o, rfl, hg, hc⟩ := HR.out i hlt
      have d0 := cell_later hb (hc 0 _ rfl)
      have d1 := cell_later hb (hc 1 _ rfl)
      have d2 := cell_later hb (hc 2 _ rfl)
      have d3 := cell_later hb (hc 3 _ rfl)
      have d4 := cell_later hb (hc 4 _ rfl)
      have d5 := cell_later hb (hc 5 _ rfl)
      have d6 := cell_later hb (hc 6 _ rfl)
      have d7 := cell_later hb (hc 7 _ rfl)
      have d8 := cell_later hb (hc 8 _ rfl)
      have d9 := cell_later hb (hc 9 _ rfl)
      rw [Nat.add_zero] at d0
      have hq := heq (gE l i)
      have HY : Hid (eqB ⟨a0, a1, a2, a3, a4, a5, a6, a7, a8, a9⟩ (gE l i) = eqB (gE l i) e) := by
        show _ = _
        rw [HF.out]; exact eqB_comm _ _
      have HM : Hid ((gE l i) ∈ l) := by show _ ∈ _; rw [gE_pos l i hlt]; exact List.getElem_mem hlt
      clear hc hb hi heq hlt
      obtain ⟨q0, q1, q2, q3, q4, q5, q6, q7, q8, q9⟩ := cells10 hK
      clear hK
      rw [HY.out] at hq
      have HEY := Hid.mk (rfl : (gE l i) = (gE l i))
      by_cases hey : (gE l i) = e
      · rw [eqB_true hey] at hq
        have HX : Hid (e ∈ l) := by show _ ∈ _; rw [← hey]; exact HM.out
        clear HY HM HEY hey
        generalize (gE l i) = y at *
        obtain ⟨b0, b1, b2, b3, b4, b5, b6, b7, b8, b9⟩ := y
        simp only at *
        go_wp2
        go_quiet (fail)
        go_wp2
        go_ret
        exact ⟨⟨_, rfl, fun _ => by rw [HF.out]; exact HX.out, fun _ => by omega⟩, below_dN HB.out _⟩
      · rw [eqB_false hey] at hq
        have HX : Hid (∀ j, j < i + 1 → (gE l j) ≠ e) := fun j hj => by
          by_cases h : j = i
          · subst h; exact hey
          · exact HNO.out j (by omega)
        clear HY HM HEY hey
        generalize (gE l i) = y at *
        obtain ⟨b0, b1, b2, b3, b4, b5, b6, b7, b8, b9⟩ := y
        simp only at *
        go_wp2
        go_quiet (fail)
        go_wp2
        exact ⟨⟨i + 1, by have := HLT.out; omega, by go_num, below_dN HB.out _, block_later (below_dN (Below.refl _ _) _) HK.out, HX.out⟩, by have := HLT.out; simp [RowKit.intOf]; omega⟩
    · have hlt2 : ¬ (i : Int) < l.length := by omega
      have HX : Hid (e ∉ l) := fun hm => by
        obtain ⟨j, hj, rfl⟩ := List.getElem_of_mem hm
        exact HNO.out j (by omega) (gE_pos l j hj)
      clear hb hK hi heq hlt
      go_wp2
      go_ret
      exact ⟨⟨_, rfl, fun h => absurd h (by omega), fun h => absurd (HF.out ▸ h) HX.out⟩, HB.out⟩

set_option maxHeartbeats 1000000 in
theorem contains_c (l : List En) (e : En) (ad : Option Addr) (cap : Nat) (w : World) (hn : l.length ≤ 1000) (hr : RdA w ad l) :
    Calls Tryz.prog 133 #[.slice ad l.length cap, e.v] w fun r w' => r = .returned (.bool (memB e l)) ∧ Below w.heap.size w w' := by
  have hc := fun w1 h1 => index_c l e ad cap w1 hn h1
  have HR := Hid.mk hr
  clear hr hn
  have HI : Hid (∀ z : Int, (0 ≤ z ↔ e ∈ l) → memB e l = decide (0 ≤ z)) := fun z hz => by rw [Bool.eq_iff_iff, memB_iff, decide_eq_true_eq]; exact hz.symm
  generalize memB e l = D at *
  obtain ⟨a0, a1, a2, a3, a4, a5, a6, a7, a8, a9⟩ := e
  simp only [En.v] at *
  generalize l.length = n at *
  go_enter Tryz.func133, Tryz.ntmps133
  go_wp2_with fail
  refine (hc _ (HR.out.later (below_new _ _))).mono ?_
  rintro e w1 ⟨⟨z, rfl, hz⟩, hb⟩
  have HZ := Hid.mk (HI.out z hz)
  clear hz hc
  go_wp2
  all_goals go_ret
  all_goals exact ⟨by rw [HZ.out]; rfl, below_tr (below_new _ _) hb⟩

end Go.Proofs.YtndjhedoandinaaGreatDoor.TB

/- Rows of entries, second part: appending; the walks of Clone and IndexFunc. -/
namespace Go.Proofs.YtndjhedoandinaaGreatDoor.TB
open Go.RowKit

theorem infoP {P : Program} {t : TypeId} {z : Option Value} {s b : Nat} (h : (P.info? t).map (fun i => (i.zero, i.size, i.bytes)) = some (z, s, b)) : ∃ i, P.info? t = some i ∧ i.zero = z ∧ i.size = s ∧ i.bytes = b := by
  cases hq : P.info? t with
  | none => rw [hq] at h; cases h
  | some i =>
    rw [hq] at h
    simp only [Option.map_some, Option.some.injEq, Prod.mk.injEq] at h
    exact ⟨i, rfl, h.1, h.2.1, h.2.2⟩
/-- What is asked of a slice type and its elements: entries of the program's, or of the document's. -/
structure ETy (tS tE : TypeId) : Prop where
  sl : Tryz.prog.underlying tS = some (.slice tE)
  info : (Tryz.prog.info? tE).map (fun i => (i.zero, i.size, i.bytes)) = some (some e0.v, 10, 56)
theorem etyT : ETy 101 107 := ⟨Tryz.underlying101, by kernel_rfl⟩

section
variable {ops : Array Oper} {rest : List Oper} {o : Oper} {a : Act} {Q : Exit → Act → World → Prop}
/-- Entries appended to a row of the call's own. -/
theorem wpList_appE {tS tE : TypeId} (hT : ETy tS tE) (w : World) (hg : o.guard = none) (s x : Operand) (hop : o.op = .call { callee := .builtin .append, args := #[s, x], argTypes := #[tS, tS] })
    (base : Nat) (v : Value) (l : List En) (hs : a.eval s = v) (hown : w.ownsRow base tE 10 v l.length (ecs l)) (m : List En) (ad : Addr) (c : Nat) (hx : a.eval x = .slice (some ad) m.length c) (hc : ∀ j u, (ecs m)[j]? = some u → w.cell? (ad.add j) = some u) (hp : 0 < m.length) (hlen : l.length + m.length ≤ 100000) (hbase : base ≤ w.heap.size) (H : Nat) (hH : w.heap.size = H)
    (h : ∀ g cap w', w'.ownsRow base tE 10 (.slice (some ⟨g, 0, none⟩) (l.length + m.length) cap) (l ++ m).length (ecs (l ++ m)) → w.grownBy w' v.ownBlock → (v.ownBlock = some g ∨ g = H) → g < w'.heap.size → wpList Tryz.prog ops Q rest (a.put o.dst (.slice (some ⟨g, 0, none⟩) (l.length + m.length) cap)) w') :
    wpList Tryz.prog ops Q (o :: rest) a w := by
  obtain ⟨i0, hi, hz0, hz1, hz2⟩ := infoP hT.info
  refine wpList_append_lies w hg s x tS hop base tE i0 _ 10 56 hT.sl hi hz0 hz1 hz2 rfl (by decide) v l.length (ecs l) hs hown ad m.length c (ecs m) hx (ecs_len m) hc (ecs_one m) hp (by unfold maxLen; omega) (by omega) hbase H hH ?_
  intro g cap w' hown' hgrow hat hlt
  rw [← ecs_app] at hown'
  exact h g cap w' (by rw [List.length_append]; exact hown') hgrow hat hlt
theorem step_appE {K : Act → World → Prop} {E : Prop} {tS tE : TypeId} (hT : ETy tS tE) (w : World) (hg : o.guard = none) (s x : Operand) (hop : o.op = .call { callee := .builtin .append, args := #[s, x], argTypes := #[tS, tS] })
    (base : Nat) (v : Value) (l : List En) (hs : a.eval s = v) (hown : w.ownsRow base tE 10 v l.length (ecs l)) (m : List En) (ad : Addr) (c : Nat) (hx : a.eval x = .slice (some ad) m.length c) (hc : ∀ j u, (ecs m)[j]? = some u → w.cell? (ad.add j) = some u) (hp : 0 < m.length) (hlen : l.length + m.length ≤ 100000) (hbase : base ≤ w.heap.size) (H : Nat) (hH : w.heap.size = H)
    (h : ∀ g cap w', w'.ownsRow base tE 10 (.slice (some ⟨g, 0, none⟩) (l.length + m.length) cap) (l ++ m).length (ecs (l ++ m)) → w.grownBy w' v.ownBlock → (v.ownBlock = some g ∨ g = H) → g < w'.heap.size → K (a.put o.dst (.slice (some ⟨g, 0, none⟩) (l.length + m.length) cap)) w') :
    if Region.wanted o (yielded ops a.tmps) = true then Oper.wp Tryz.prog o a w K Q else E := by
  obtain ⟨i0, hi, hz0, hz1, hz2⟩ := infoP hT.info
  refine step_append_lies w hg s x tS hop base tE i0 _ 10 56 hT.sl hi hz0 hz1 hz2 rfl (by decide) v l.length (ecs l) hs hown ad m.length c (ecs m) hx (ecs_len m) hc (ecs_one m) hp (by unfold maxLen; omega) (by omega) hbase H hH ?_
  intro g cap w' hown' hgrow hat hlt
  rw [← ecs_app] at hown'
  exact h g cap w' (by rw [List.length_append]; exact hown') hgrow hat hlt
end

/-- A new row, empty. -/
theorem own_new (w : World) (tE : TypeId) : (w.alloc (.cells #[] tE)).ownsRow w.heap.size tE 10 (.slice (some ⟨w.heap.size, 0, none⟩) 0 0) ([] : List En).length (ecs []) :=
  ⟨rfl, Or.inr ⟨w.heap.size, 0, #[], rfl, Nat.le_refl _, heap_alloc_new _ _, Nat.le_refl _, Nat.zero_le _, rfl, rfl⟩⟩

set_option maxHeartbeats 1000000 in
set_option maxRecDepth 100000 in
theorem clone_c (l : List En) (ad : Option Addr) (cap : Nat) (hf : ad = none ∨ ∃ g o, ad = some ⟨g, o, none⟩) (hn : l.length ≤ 1000) (w : World) (hr : RdA w ad l) :
    Calls Tryz.prog 87 #[.slice ad l.length cap] w fun r w' => ∃ ad' cap', r = .returned (.slice ad' l.length cap') ∧ RdA w' ad' l ∧ (∀ b, ad' = some b → w.heap.size ≤ b.block) ∧ Below w.heap.size w w' := by
  have HR := Hid.mk hr
  clear hr
  rcases hf with rfl | ⟨b, o, rfl⟩
  · have h0 : l.length = 0 := by
      rcases Nat.eq_zero_or_pos l.length with h | h
      · exact h
      · obtain ⟨g, o, e, -⟩ := HR.out 0 h; cases e
    obtain rfl := List.length_eq_zero_iff.1 h0
    have hen : ∀ (w : World) (n c : Nat), (binOp .eql 101 (.slice none n c) (.slice none 0 0)).run Tryz.prog w = .ok (.bool true) w := fun _ _ _ => rfl
    go_enter Tryz.func87, Tryz.ntmps87
    go_wp2
    go_ret
    exact ⟨_, _, rfl, RdA.nil _ _, (fun b hb => by cases hb), Below.refl _ _⟩
  · have hen : ∀ (w : World) (n : Nat), (binOp .eql 101 (.slice (some ⟨b, o, none⟩) n cap) (.slice none 0 0)).run Tryz.prog w = .ok (.bool false) w := fun _ _ => rfl
    by_cases h0 : l.length = 0
    · obtain rfl := List.length_eq_zero_iff.1 h0
      go_enter Tryz.func87, Tryz.ntmps87
      go_wp2
      go_ret
      exact ⟨_, _, rfl, RdA.nil _ _, (fun b hb => by cases hb; exact Nat.le_refl _), below_new _ _⟩
    · have hB := fun w' (hgr : World.grownBy (w.alloc (.cells #[] 107)) w' (Value.slice (some ⟨w.heap.size, 0, none⟩) 0 0).ownBlock) => (below_new w (.cells #[] 107)).grown hgr (by simp) (fun q hq => by cases hq; exact Nat.le_refl _)
      go_enter Tryz.func87, Tryz.ntmps87
      go_wp2_with (at_builtin; refine wpList_appE etyT _ rfl _ _ rfl w.heap.size _ [] rfl (own_new w _) l ⟨b, o, none⟩ cap rfl (fun j u hu => cell_later (below_new _ _) (HR.out.cells j u hu)) (by omega) (by simp; omega) (by simp) _ rfl ?_; intro g cap' w2 hown hgr hat hlt; have HO := Hid.mk hown; clear hown)
      go_ret
      obtain ⟨ad', c', e, h1, h2⟩ := own_rd HO.out
      simp only [List.nil_append, List.length_nil, Nat.zero_add] at e h1
      cases e
      exact ⟨_, _, rfl, h1, fun b hb => (h2 b hb).1, hB _ hgr⟩

end Go.Proofs.YtndjhedoandinaaGreatDoor.TB

/- Rows of entries, third part: the walk of IndexFunc. -/
namespace Go.Proofs.YtndjhedoandinaaGreatDoor.TB
open Go.RowKit

/-- None of the first n is such; the one at k is. -/
def NoP (p : En → Bool) (l : List En) (n : Nat) : Prop := ∀ j, j < n → p (gE l j) = false
def IsP (p : En → Bool) (l : List En) (k : Nat) : Prop := p (gE l k) = true

set_option maxHeartbeats 4000000 in
set_option maxRecDepth 100000 in
theorem indexFunc_c (q : Nat) (lb : Array Value) (eg : ∀ args w, (callFunc q args).run Tryz.prog w = .ok (.enter q args) w) (p : En → Bool) (l : List En) (ad : Option Addr) (cap : Nat) (w : World) (hn : l.length ≤ 1000) (hr : RdA w ad l)
    (hp : ∀ W e, Below w.heap.size w W → Calls Tryz.prog q (#[e.v] ++ lb) W fun r w' => r = .returned (.bool (p e)) ∧ Below W.heap.size W w') :
    Calls Tryz.prog 152 #[.slice ad l.length cap, .func (.func q) #[] lb] w fun r w' => ((r = .returned (.int .i64 (-1)) ∧ NoP p l l.length) ∨ ∃ k : Nat, k < l.length ∧ r = .returned (.int .i64 (k : Nat)) ∧ IsP p l k ∧ NoP p l k) ∧ Below w.heap.size w w' := by
  have HR := Hid.mk hr
  have HP := Hid.mk hp
  have hnI : (l.length : Int) ≤ 1000 := by omega
  clear hr hn hp
  go_enter Tryz.func152, Tryz.ntmps152
  go_wp2
  go_loopw [5, 8] (fun _ s8 wr => ∃ i : Nat, i ≤ l.length ∧ s8 = .int .i64 (i : Nat) ∧ Below w.heap.size w wr ∧ NoP p l i) (fun _ s8 _ => l.length - (RowKit.intOf s8).toNat)
  case atStart => exact ⟨0, by omega, rfl, Below.refl _ _, fun j hj => absurd hj (Nat.not_lt_zero _)⟩
  case round =>
    obtain ⟨i, hi, rfl, hb, hno⟩ := hrel
    have HB := Hid.mk hb
    have HNO := Hid.mk hno
    clear hno
    by_cases hlt : i < l.length
    · have hlt2 : (i : Int) < l.length := by omega
      have HLT := Hid.mk hlt
      have hib : (i : Int) < 1000 := by omega
      obtain ⟨g, o, rfl, hg, hc⟩ := HR.out i hlt
      have d0 := cell_later hb (hc 0 _ rfl)
      have d1 := cell_later hb (hc 1 _ rfl)
      have d2 := cell_later hb (hc 2 _ rfl)
      have d3 := cell_later hb (hc 3 _ rfl)
      have d4 := cell_later hb (hc 4 _ rfl)
      have d5 := cell_later hb (hc 5 _ rfl)
      have d6 := cell_later hb (hc 6 _ rfl)
      have d7 := cell_later hb (hc 7 _ rfl)
      have d8 := cell_later hb (hc 8 _ rfl)
      have d9 := cell_later hb (hc 9 _ rfl)
      rw [Nat.add_zero] at d0
      have hcall := HP.out wr (gE l i) hb
      clear hc hb hi hlt
      cases hpy : p (gE l i)
      · have HX : Hid (NoP p l (i + 1)) := fun j hj => by
          by_cases h : j = i
          · subst h; exact hpy
          · exact HNO.out j (by omega)
        rw [hpy] at hcall
        clear hpy
        generalize (gE l i) = y at *
        obtain ⟨b0, b1, b2, b3, b4, b5, b6, b7, b8, b9⟩ := y
        simp only [En.v] at *
        go_wp2_with fail
        refine hcall.mono ?_
        rintro e w' ⟨rfl, hb'⟩
        clear hcall
        go_wp2
        exact ⟨⟨i + 1, by have := HLT.out; omega, by go_num, below_tr HB.out hb', HX.out⟩, by have := HLT.out; simp [RowKit.intOf]; omega⟩
      · have HX : Hid (p (gE l i) = true) := hpy
        rw [hpy] at hcall
        clear hpy
        have HY : Hid (∃ k : Nat, k < l.length ∧ k = i ∧ IsP p l k ∧ NoP p l k) := ⟨i, HLT.out, rfl, HX.out, HNO.out⟩
        generalize (gE l i) = y at *
        obtain ⟨b0, b1, b2, b3, b4, b5, b6, b7, b8, b9⟩ := y
        simp only [En.v] at *
        go_wp2_with fail
        refine hcall.mono ?_
        rintro e w' ⟨rfl, hb'⟩
        clear hcall
        go_wp2
        go_ret
        obtain ⟨k, h1, rfl, h2, h3⟩ := HY.out
        exact ⟨Or.inr ⟨k, h1, rfl, h2, h3⟩, below_tr HB.out hb'⟩
    · have hlt2 : ¬ (i : Int) < l.length := by omega
      have HX : Hid (NoP p l l.length) := fun j hj => HNO.out j (by omega)
      clear hb hi hlt
      go_wp2
      go_ret
      exact ⟨Or.inl ⟨rfl, HX.out⟩, HB.out⟩

end Go.Proofs.YtndjhedoandinaaGreatDoor.TB

/- Rows of entries, fourth part: clearing a row's end; the walk of DeleteFunc. -/
namespace Go.Proofs.YtndjhedoandinaaGreatDoor.TB
open Go.RowKit

section
variable {ops : Array Oper} {rest : List Oper} {o : Oper} {a : Act} {Q : Exit → Act → World → Prop}
theorem zero_one (z : Array Value) (n : Nat) (h1 : ∀ u ∈ z.toList, u.oneCell' = true) (hz : z.size ≠ 0) : ∀ u ∈ (Builtin.zeroCells z n).toList, u.oneCell' = true := by
  intro u hu
  simp only [Builtin.zeroCells] at hu
  simp at hu
  obtain ⟨i, hi, rfl⟩ := hu
  have hlt : i % z.size < z.size := Nat.mod_lt _ (by omega)
  rw [getElem!_pos z _ hlt]
  exact h1 _ (by simp)
/-- 'clear' of entries at a row's end. -/
theorem wpList_clearE (w : World) (hgd : o.guard = none) (hd : o.dst = none) (x : Operand) (ho : o.op = .call { callee := .builtin .clear, args := #[x], argTypes := #[101] })
    (g q n c : Nat) (hn : 0 < n) (hx : a.eval x = .slice (some ⟨g, q, none⟩) n c) (cur : Array Value) (t : TypeId) (hg : w.heap[g]? = some (.cells cur t (0, 0))) (hfit : q + n * 10 ≤ cur.size)
    (h : ∀ wq zs, zs.length = n * 10 → wq.heap[g]? = some (.cells (segA cur q zs) t (0, 0)) → Turn (fun i => i = g) w wq → wpList Tryz.prog ops Q rest a wq) : wpList Tryz.prog ops Q (o :: rest) a w := by
  have hz : ∀ w, (zeroValue 107).run Tryz.prog w = .ok e0.v w := Tryz.zeroValue107
  have hzl : (Builtin.zeroCells e0.v.cells n).toList.length = n * 10 := by simp [Builtin.zeroCells, Value.cells]
  have hst := run_storeCells_at Tryz.prog g q t (Builtin.zeroCells e0.v.cells n).toList 0 cur w hg (by rw [hzl]; omega) (zero_one _ _ (e0.one) (by decide))
  simp only [Nat.add_zero] at hst
  have hrun : ∀ ty, (Builtin.clear_ #[101] ty #[.slice (some ⟨g, q, none⟩) n c]).run Tryz.prog w = .ok (.tuple #[]) (w.setRow g (segA cur q (Builtin.zeroCells e0.v.cells n).toList)) := fun ty => by
    obtain ⟨m, rfl⟩ : ∃ m, n = m + 1 := ⟨n - 1, by omega⟩
    simp only [Builtin.clear_]
    simp [run_underlying Tryz.underlying101, hz, hst, segA]
  refine wpList_plain hgd fun K hK => ?_
  unfold Oper.wp execOp
  simp only [ho, resolve, invoke, builtin, Sem.run_bind, Sem.run_pure, Result.andThen_ok, List.map_toArray, List.map_cons, List.map_nil, hx, hrun]
  refine hK _ _ ?_
  rw [hd]
  exact h _ _ hzl (setRow_heap _ _ _ _ _ _ hg) (turn_setRow _ _ _)
end

/-- A row: entries, and what lies behind them. -/
abbrev rowE (dk : List En) (rest : List Value) : Array Value := (ecs dk ++ rest).toArray
theorem rowE_rd {w : World} {g : Nat} {t : TypeId} {dk : List En} {rest : List Value} (h : w.heap[g]? = some (.cells (rowE dk rest) t (0, 0))) : RdA w (some ⟨g, 0, none⟩) dk := fun i hi => by
  refine ⟨g, 0, rfl, block_lt h, fun j u hu => ?_⟩
  have hj : j < 10 := by rw [← ((gE dk i)).len]; exact (List.getElem?_eq_some_iff.1 hu).1
  rw [cell_of_row _ _ _ _ _ _ h, List.getElem?_toArray, Nat.zero_add, List.getElem?_append_left (by rw [ecs_len]; omega), ecs_get dk i j hj hi]
  exact hu
theorem rowE_set (dk : List En) (rest : List Value) (i : Nat) (e : En) (hi : i < dk.length) : segA (rowE dk rest) (i * 10) e.cs = rowE (dk.set i e) rest := by
  unfold segA
  have e1 : dk.set i e = dk.take i ++ e :: dk.drop (i + 1) := List.set_eq_take_append_cons_drop.trans (if_pos hi)
  rw [e1]
  congr 1
  rw [ecs_app]
  show _ = ecs (dk.take i) ++ (e.cs ++ ecs (dk.drop (i + 1))) ++ rest
  rw [List.take_append_of_le_length (by rw [ecs_len]; omega), ecs_take, En.len, List.drop_append_of_le_length (by rw [ecs_len]; omega), show i * 10 + 10 = (i + 1) * 10 by omega, ecs_drop]
  simp only [List.append_assoc]

/-- Half way through: i are kept of the first j. -/
structure KInv (p : En → Bool) (l : List En) (j i : Nat) (dk : List En) : Prop where
  lt : i < j
  len : dk.length = l.length
  low : dk.take i = (l.take j).filter (fun e => !p e)
  high : dk.drop j = l.drop j
theorem take_succ_g (l : List En) (j : Nat) (hj : j < l.length) : l.take (j + 1) = l.take j ++ [(gE l j)] := by
  rw [List.take_add_one, List.getElem?_eq_getElem hj, gE_pos l j hj]; rfl
theorem filt0 {p : En → Bool} {y : En} (h : p y = true) : [y].filter (fun e => !p e) = [] := by simp [h]
theorem filt1 {p : En → Bool} {y : En} (h : p y = false) : [y].filter (fun e => !p e) = [y] := by simp [h]
theorem KInv.start {p : En → Bool} {l : List En} {k : Nat} (hk : k < l.length) (h1 : NoP p l k) (h2 : IsP p l k) : KInv p l (k + 1) k l := by
  refine ⟨by omega, rfl, ?_, rfl⟩
  rw [take_succ_g l k hk, List.filter_append]
  have e1 : [(gE l k)].filter (fun e => !p e) = [] := filt0 h2
  have e2 : (l.take k).filter (fun e => !p e) = l.take k := List.filter_eq_self.2 fun e he => by
    obtain ⟨j, hj, rfl⟩ := List.getElem_of_mem he
    have hjk : j < k := by simp at hj; omega
    have h3 := h1 j hjk
    rw [gE_pos l j (by omega)] at h3
    rw [List.getElem_take, h3]; rfl
  rw [e1, e2, List.append_nil]
theorem KInv.keep {p : En → Bool} {l : List En} {j i : Nat} {dk : List En} (h : KInv p l j i dk) (hj : j < l.length) (hp : p (gE l j) = false) : KInv p l (j + 1) (i + 1) (dk.set i (gE l j)) := by
  have hl := h.lt
  have hn := h.len
  refine ⟨by omega, by simpa using hn, ?_, ?_⟩
  · rw [take_succ_g l j hj, List.filter_append, ← h.low]
    have e1 : [(gE l j)].filter (fun e => !p e) = [(gE l j)] := filt1 hp
    rw [e1, List.take_add_one, List.take_set_of_le (by omega), List.getElem?_set_self (by omega)]
    rfl
  · have hd := congrArg (List.drop 1) h.high
    rw [List.drop_drop, List.drop_drop] at hd
    rw [List.drop_set_of_lt (by omega)]
    exact hd
theorem KInv.skip {p : En → Bool} {l : List En} {j i : Nat} {dk : List En} (h : KInv p l j i dk) (hj : j < l.length) (hp : p (gE l j) = true) : KInv p l (j + 1) i dk := by
  have hl := h.lt
  refine ⟨by omega, h.len, ?_, ?_⟩
  · rw [take_succ_g l j hj, List.filter_append, ← h.low]
    have e1 : [(gE l j)].filter (fun e => !p e) = [] := filt0 hp
    rw [e1, List.append_nil]
  · have hd := congrArg (List.drop 1) h.high
    rwa [List.drop_drop, List.drop_drop] at hd
theorem KInv.get {p : En → Bool} {l : List En} {j i : Nat} {dk : List En} (h : KInv p l j i dk) (hj : j < l.length) : (gE dk j) = (gE l j) := by
  have hn := h.len
  have h2 := congrArg (fun x => x[0]?) h.high
  simp only [List.getElem?_drop, Nat.add_zero] at h2
  rw [List.getElem?_eq_getElem hj, List.getElem?_eq_getElem (by omega : j < dk.length)] at h2
  rw [gE_pos l j hj, gE_pos dk j (by omega)]
  exact Option.some.inj h2
theorem KInv.done {p : En → Bool} {l : List En} {i : Nat} {dk : List En} (h : KInv p l l.length i dk) : dk.take i = l.filter (fun e => !p e) ∧ i = (l.filter (fun e => !p e)).length := by
  have h1 := h.low
  rw [List.take_length] at h1
  refine ⟨h1, ?_⟩
  rw [← h1, List.length_take, h.len]
  have := h.lt
  omega

/-- Behind DeleteFunc: the row has what is kept. -/
theorem own_kept {w : World} {base g : Nat} {t : TypeId} {cap n i : Nat} {dk : List En} {rest zs : List Value} (hb : base ≤ g) (hi : i ≤ n) (hn : n ≤ cap) (hcap : cap ≤ maxLen) (hd : dk.length = n) (hs : (rowE dk rest).size = cap * 10) (hz : zs.length = (n - i) * 10)
    (h : w.heap[g]? = some (.cells (segA (rowE dk rest) (i * 10) zs) t (0, 0))) : w.ownsRow base t 10 (.slice (some ⟨g, 0, none⟩) i cap) (dk.take i).length (ecs (dk.take i)) := by
  have hl : (dk.take i).length = i := by rw [List.length_take]; omega
  have hsz : (ecs dk ++ rest).length = cap * 10 := by simpa using hs
  refine ⟨by rw [ecs_len], Or.inr ⟨g, cap, _, by rw [hl], hb, h, by omega, hcap, ?_, ?_⟩⟩
  · unfold segA
    have h1 := ecs_len dk
    rw [List.size_toArray, List.length_append, List.length_append, List.length_take, List.length_drop, hsz, hz]
    rw [hd] at h1
    omega
  · unfold segA
    simp only
    rw [hl, List.append_assoc, List.take_append_of_le_length (by rw [List.length_take, hsz]; omega), List.take_take, Nat.min_self, List.take_append_of_le_length (by rw [ecs_len]; omega), ecs_take]

end Go.Proofs.YtndjhedoandinaaGreatDoor.TB

/- Rows of entries, fifth part: the walk of DeleteFunc. -/
namespace Go.Proofs.YtndjhedoandinaaGreatDoor.TB
open Go.RowKit

theorem info_en : (Tryz.prog.info? 107).map (·.size) = some 10 := by kernel_rfl
theorem turn_b {w w1 w2 : World} {X : Nat → Prop} (h : Turn X w w1) (hb : Below w1.heap.size w1 w2) : Turn X w w2 := h.trans (turn_of_below (fun _ => False) hb) (fun _ _ h => absurd h id)
/-- The block of a value's row. -/
def OwnB (v : Value) : Nat → Prop := fun i => v.ownBlock = some i

set_option maxHeartbeats 8000000 in
set_option maxRecDepth 100000 in
theorem deleteFunc_row (q : Nat) (lb : Array Value) (eg : ∀ args w, (callFunc q args).run Tryz.prog w = .ok (.enter q args) w) (p : En → Bool) (l : List En) (g cap base : Nat) (rest : List Value) (w : World) (hn : l.length ≤ 1000) (hcap : l.length ≤ cap) (hcm : cap ≤ maxLen) (hbase : base ≤ g)
    (hg : w.heap[g]? = some (.cells (rowE l rest) 107 (0, 0))) (hs : (rowE l rest).size = cap * 10)
    (hp : ∀ W e, Turn (fun i => i = g) w W → Calls Tryz.prog q (#[e.v] ++ lb) W fun r w' => r = .returned (.bool (p e)) ∧ Below W.heap.size W w') :
    Calls Tryz.prog 135 #[.slice (some ⟨g, 0, none⟩) l.length cap, .func (.func q) #[] lb] w fun r w' => r = .returned (.slice (some ⟨g, 0, none⟩) (l.filter (fun e => !p e)).length cap) ∧ w'.ownsRow base 107 10 (.slice (some ⟨g, 0, none⟩) (l.filter (fun e => !p e)).length cap) (l.filter (fun e => !p e)).length (ecs (l.filter (fun e => !p e))) ∧ Turn (fun i => i = g) w w' := by
  have hI := indexFunc_c q lb eg p l (some ⟨g, 0, none⟩) cap w hn (rowE_rd hg) (fun W e hb => hp W e (turn_of_below _ hb))
  have HG := Hid.mk hg
  have HP := Hid.mk hp
  have HS := Hid.mk hs
  have HC := Hid.mk (And.intro hcap (And.intro hcm hbase))
  have hnI : (l.length : Int) ≤ 1000 := by omega
  have hcI : (l.length : Int) ≤ (cap : Int) := by omega
  clear hg hp hs hcap hcm hbase hn
  go_enter Tryz.func135, Tryz.ntmps135
  go_wp2_with fail
  refine hI.mono ?_
  rintro e w1 ⟨⟨rfl, hno⟩ | ⟨k, hk, rfl, hno, hyes⟩, hb⟩
  · have HX : Hid (l.filter (fun e => !p e) = l) := List.filter_eq_self.2 fun e he => by
      obtain ⟨j, hj, rfl⟩ := List.getElem_of_mem he
      have := hno j hj
      rw [gE_pos l j hj] at this
      rw [this]; rfl
    have HB := Hid.mk hb
    clear hI hno hb
    go_wp2
    go_ret
    rw [HX.out]
    refine ⟨rfl, ⟨ecs_len l, Or.inr ⟨g, cap, _, rfl, HC.out.2.2, block_later HB.out HG.out, HC.out.1, HC.out.2.1, HS.out, ?_⟩⟩, turn_of_below _ HB.out⟩
    show (ecs l ++ rest).take (l.length * 10) = ecs l
    rw [← ecs_len, List.take_left]
  · have HB := Hid.mk hb
    have HI0 := Hid.mk (KInv.start hk hyes hno)
    have hkI : (k : Int) < l.length := by omega
    have HKL := Hid.mk hk
    clear hI hno hyes hb hk
    have hk1 : ¬ ((k : Int) = -1) := by omega
    go_wp2
    go_loopw [5, 6, 7] (fun s5 s6 _ wr => ∃ (i j : Nat) (dk : List En), s5 = .int .i64 (i : Nat) ∧ s6 = .int .i64 (j : Nat) ∧ j ≤ l.length ∧ KInv p l j i dk ∧ wr.heap[g]? = some (.cells (rowE dk rest) 107 (0, 0)) ∧ Turn (fun i => i = g) w wr) (fun _ s6 _ _ => l.length - (RowKit.intOf s6).toNat)
    case atStart => exact ⟨k, k + 1, l, rfl, by go_num, HKL.out, HI0.out, block_later HB.out HG.out, turn_of_below _ HB.out⟩
    case round =>
      obtain ⟨i, j, dk, rfl, rfl, hjl, hK, hgr, hT⟩ := hrel
      have HK := Hid.mk hK
      have HGR := Hid.mk hgr
      have HTU := Hid.mk hT
      have hij := hK.lt
      have hdl := hK.len
      by_cases hlt : j < l.length
      · have hlt2 : (j : Int) < l.length := by omega
        have HLT := Hid.mk hlt
        have hjb : (j : Int) < 1000 := by omega
        have hiI : (i : Int) < l.length := by omega
        have hib : (i : Int) < 1000 := by omega
        obtain ⟨g', o', e1, -, hc⟩ := rowE_rd hgr j (by omega)
        cases e1
        rw [hK.get hlt] at hc
        have d0 := hc 0 _ rfl
        have d1 := hc 1 _ rfl
        have d2 := hc 2 _ rfl
        have d3 := hc 3 _ rfl
        have d4 := hc 4 _ rfl
        have d5 := hc 5 _ rfl
        have d6 := hc 6 _ rfl
        have d7 := hc 7 _ rfl
        have d8 := hc 8 _ rfl
        have d9 := hc 9 _ rfl
        simp only [Nat.add_zero, Nat.zero_add] at d0 d1 d2 d3 d4 d5 d6 d7 d8 d9
        have HFIT : Hid (i * 10 + 10 ≤ (rowE dk rest).size) := by
          show _ ≤ _
          rw [List.size_toArray, List.length_append, ecs_len]; omega
        have HST := Hid.mk (rowE_set dk rest i (gE l j) (by omega))
        have HKP := Hid.mk (fun hp => hK.keep hlt hp)
        have HSK := Hid.mk (fun hp => hK.skip hlt hp)
        clear hK hgr hT hc hij hdl hlt hjl
        cases hpy : p (gE l j)
        · have HKK := Hid.mk (HKP.out hpy)
          have hcall := fun W hW => HP.out W (gE l j) hW
          rw [hpy] at hcall
          clear hpy HKP HSK
          generalize (gE l j) = y at *
          obtain ⟨b0, b1, b2, b3, b4, b5, b6, b7, b8, b9⟩ := y
          simp only [En.v, En.cs] at *
          have HCA := Hid.mk hcall
          clear hcall
          go_wp2_with fail
          refine (HCA.out _ (turn_b HTU.out (below_new _ _))).mono ?_
          rintro e w' ⟨rfl, hb'⟩
          have HB2 := Hid.mk (below_tr (below_new _ _) hb')
          have hK7 := block_later hb' (heap_alloc_new wr (.cells #[.int .i64 b0, .int .u64 b1, .int .i64 b2, .int .i64 b3, .int .u64 b4, .bool b5, .bool b6, .bool b7, .bool b8, .int .i64 b9] 107))
          obtain ⟨q0, q1, q2, q3, q4, q5, q6, q7, q8, q9⟩ := cells10 hK7
          clear hK7 hb' HCA d0 d1 d2 d3 d4 d5 d6 d7 d8 d9
          go_wp2_with (first
            | (refine wpList_store_segTo rfl 107 _ _ rfl rfl g (i * 10) _ #[.int .i64 b0, .int .u64 b1, .int .i64 b2, .int .i64 b3, .int .u64 b4, .bool b5, .bool b6, .bool b7, .bool b8, .int .i64 b9] rfl rfl rfl 107 _ (block_later HB2.out HGR.out) HFIT.out info_en (by simp [Value.oneCell']) _ HST.out ?_
               intro w8 hk8 ht8)
            | fail)
          go_roundw
          case rel => exact ⟨_, _, _, _, _, _, _, _, _, _, _, _, _, _, _, _, _, _, _, _, _, _, _, ⟨i + 1, j + 1, _, by go_num, by go_num, by have := HLT.out; omega, HKK.out, hk8, (turn_b HTU.out HB2.out).trans ht8 (fun _ _ h => h)⟩, rfl⟩
          case measure => have := HLT.out; simp [RowKit.intOf]; omega
        · have HKK := Hid.mk (HSK.out hpy)
          have hcall := fun W hW => HP.out W (gE l j) hW
          rw [hpy] at hcall
          clear hpy HKP HSK HST
          generalize (gE l j) = y at *
          obtain ⟨b0, b1, b2, b3, b4, b5, b6, b7, b8, b9⟩ := y
          simp only [En.v] at *
          have HCA := Hid.mk hcall
          clear hcall
          go_wp2_with fail
          refine (HCA.out _ (turn_b HTU.out (below_new _ _))).mono ?_
          rintro e w' ⟨rfl, hb'⟩
          have HB2 := Hid.mk (below_tr (below_new _ _) hb')
          clear hb' HCA d0 d1 d2 d3 d4 d5 d6 d7 d8 d9
          go_wp2
          go_roundw
          case rel => exact ⟨_, _, _, _, _, _, _, _, _, _, _, _, _, _, _, _, _, _, _, _, _, _, _, ⟨i, j + 1, dk, rfl, by go_num, by have := HLT.out; omega, HKK.out, block_later HB2.out HGR.out, turn_b HTU.out HB2.out⟩, rfl⟩
          case measure => have := HLT.out; simp [RowKit.intOf]; omega
      · obtain rfl : j = l.length := by omega
        have hlt2 : ¬ (l.length : Int) < l.length := by omega
        have hiI : (i : Int) < l.length := by omega
        have hin : i ≤ l.length := by omega
        have HIN := Hid.mk hij
        have hicap : (i : Int) ≤ (cap : Int) := by omega
        have HDN := Hid.mk hK.done
        have HDL := Hid.mk hdl
        have HSZ : Hid ((rowE dk rest).size = cap * 10) := by
          have := HS.out
          show _ = _
          rw [List.size_toArray, List.length_append, ecs_len] at this ⊢
          rw [hdl]; exact this
        clear hK hgr hT hdl hlt hjl hij
        go_wp2_with (first
          | (refine wpList_clearE _ rfl rfl _ rfl g (i * 10) (l.length - i) (cap - i) (by have := HIN.out; omega) rfl _ _ HGR.out (by rw [HSZ.out]; have := HC.out.1; have := HIN.out; omega) ?_
             intro w8 zs hzl hk8 ht8)
          | fail)
        go_ret
        have HO := own_kept HC.out.2.2 hin HC.out.1 HC.out.2.1 HDL.out HSZ.out hzl hk8
        rw [HDN.out.1] at HO
        rw [← HDN.out.2] at HO ⊢
        exact ⟨rfl, HO, HTU.out.trans ht8 (fun _ _ h => h)⟩

end Go.Proofs.YtndjhedoandinaaGreatDoor.TB

/- Rows of entries, sixth part: the walk of Delete of one entry. -/
namespace Go.Proofs.YtndjhedoandinaaGreatDoor.TB
open Go.RowKit

/-- Entries appended in place, as one step of a region that draws. -/
theorem step_roomE {ops : Array Oper} {o : Oper} {a : Act} {Q : Exit → Act → World → Prop} {K : Act → World → Prop} {E : Prop} (w : World) (hgd : o.guard = none) (s x : Operand) (hop : o.op = .call { callee := .builtin .append, args := #[s, x], argTypes := #[101, 101] })
    (g n cap : Nat) (hs : a.eval s = .slice (some ⟨g, 0, none⟩) n cap) (cur : Array Value) (hg : w.heap[g]? = some (.cells cur 107 (0, 0))) (m : List En) (ad : Addr) (k c : Nat) (hk : k = m.length) (hx : a.eval x = .slice (some ad) k c) (hc : ∀ j u, (ecs m)[j]? = some u → w.cell? (ad.add j) = some u) (M : Nat) (hM : n + k = M) (hroom : M ≤ cap) (hfit : M * 10 ≤ cur.size)
    (h : ∀ wq, wq.heap[g]? = some (.cells (segA cur (n * 10) (ecs m)) 107 (0, 0)) → Turn (fun i => i = g) w wq → K (a.put o.dst (.slice (some ⟨g, 0, none⟩) M cap)) wq) :
    if Region.wanted o (yielded ops a.tmps) = true then Oper.wp Tryz.prog o a w K Q else E := by
  have hw : Region.wanted o (yielded ops a.tmps) = true := by simp [Region.wanted, hgd]
  rw [if_pos hw]
  subst hk hM
  obtain ⟨i0, hi, hz0, hz1, hz2⟩ := infoP etyT.info
  have hrun := run_append_room (P := Tryz.prog) w 101 o.type 107 i0 etyT.sl hi g n cap cur hg ad m.length c (ecs m) (by rw [hz1, ecs_len]) hc (ecs_one m) hroom (by rw [hz1, ecs_len]; omega)
  rw [hz1] at hrun
  unfold Oper.wp execOp
  simp only [hop, resolve, invoke, builtin, Sem.run_bind, Sem.run_pure, Result.andThen_ok, List.map_toArray, List.map_cons, List.map_nil, hs, hx, hrun]
  exact h _ (setRow_heap _ _ _ _ _ _ hg) (turn_setRow _ _ _)
theorem seg_size (cur : Array Value) (o : Nat) (vs : List Value) (h : o + vs.length ≤ cur.size) : (segA cur o vs).size = cur.size := by
  unfold segA
  rw [List.size_toArray, List.length_append, List.length_append, List.length_take, List.length_drop, Array.length_toList]
  omega
theorem seg_take (cur : Array Value) (o : Nat) (vs : List Value) (h : o + vs.length ≤ cur.size) : (segA cur o vs).toList.take (o + vs.length) = cur.toList.take o ++ vs := by
  unfold segA
  simp only
  have : (cur.toList.take o ++ vs).length = o + vs.length := by rw [List.length_append, List.length_take, Array.length_toList]; omega
  rw [← this, List.take_left]
theorem seg_take0 (cur : Array Value) (o : Nat) (vs : List Value) (h : o + vs.length ≤ cur.size) : (segA cur o vs).toList.take o = cur.toList.take o := by
  unfold segA
  simp only
  rw [List.append_assoc, List.take_append_of_le_length (by rw [List.length_take, Array.length_toList]; omega), List.take_take, Nat.min_self]
theorem own_erased {w : World} {base g : Nat} {t : TypeId} {cap i : Nat} {l : List En} {rest zs : List Value} (hb : base ≤ g) (hi : i < l.length) (hn : l.length ≤ cap) (hcap : cap ≤ maxLen) (hs : (rowE l rest).size = cap * 10) (hz : zs.length = 10)
    (h : w.heap[g]? = some (.cells (segA (segA (rowE l rest) (i * 10) (ecs (l.drop (i + 1)))) ((l.length - 1) * 10) zs) t (0, 0))) : w.ownsRow base t 10 (.slice (some ⟨g, 0, none⟩) (l.length - 1) cap) (l.eraseIdx i).length (ecs (l.eraseIdx i)) := by
  have hl : (l.eraseIdx i).length = l.length - 1 := List.length_eraseIdx_of_lt hi
  have hd : (ecs (l.drop (i + 1))).length = (l.length - (i + 1)) * 10 := by rw [ecs_len, List.length_drop]
  have h1 := seg_size (rowE l rest) (i * 10) (ecs (l.drop (i + 1))) (by rw [hd, hs]; omega)
  have h2 := seg_size (segA (rowE l rest) (i * 10) (ecs (l.drop (i + 1)))) ((l.length - 1) * 10) zs (by rw [h1, hs, hz]; omega)
  refine ⟨by rw [ecs_len], Or.inr ⟨g, cap, _, by rw [hl], hb, h, by omega, hcap, by rw [h2, h1, hs], ?_⟩⟩
  rw [hl, seg_take0 _ _ _ (by rw [h1, hs, hz]; omega), show (l.length - 1) * 10 = i * 10 + (ecs (l.drop (i + 1))).length by rw [hd]; omega, seg_take _ _ _ (by rw [hd, hs]; omega)]
  show (ecs l ++ rest).take (i * 10) ++ _ = _
  rw [List.take_append_of_le_length (by rw [ecs_len]; omega), ecs_take, ← ecs_app, List.eraseIdx_eq_take_drop_succ]

set_option maxHeartbeats 8000000 in
set_option maxRecDepth 100000 in
theorem delete_row (l : List En) (i g cap base : Nat) (rest : List Value) (w : World) (hn : l.length ≤ 1000) (hi : i < l.length) (hcap : l.length ≤ cap) (hcm : cap ≤ maxLen) (hbase : base ≤ g)
    (hg : w.heap[g]? = some (.cells (rowE l rest) 107 (0, 0))) (hs : (rowE l rest).size = cap * 10) :
    Calls Tryz.prog 96 #[.slice (some ⟨g, 0, none⟩) l.length cap, .int .i64 (i : Nat), .int .i64 ((i : Int) + 1)] w fun r w' => r = .returned (.slice (some ⟨g, 0, none⟩) (l.length - 1) cap) ∧ w'.ownsRow base 107 10 (.slice (some ⟨g, 0, none⟩) (l.length - 1) cap) (l.eraseIdx i).length (ecs (l.eraseIdx i)) ∧ Turn (fun i => i = g) w w' := by
  have HG := Hid.mk hg
  have HS := Hid.mk hs
  have HC := Hid.mk (And.intro hcap (And.intro hcm hbase))
  have HI := Hid.mk hi
  have hnI : (l.length : Int) ≤ 1000 := by omega
  have hcI : (l.length : Int) ≤ (cap : Int) := by omega
  have hiI : (i : Int) < (l.length : Int) := by omega
  have hi1 : (i : Int) + 1 ≤ (l.length : Int) := by omega
  have hic : (i : Int) + 1 ≤ (cap : Int) := by omega
  have hm : (cap : Int) ≤ 9223372036854775807 := by unfold maxLen at hcm; omega
  obtain ⟨M, hM⟩ : ∃ M, M = l.length - 1 := ⟨_, rfl⟩
  have HM := Hid.mk hM
  have hMi : (M : Int) < (l.length : Int) := by omega
  have hMc : (M : Int) ≤ (cap : Int) := by omega
  have hMn : i + (l.length - (i + 1)) = M := by omega
  have hMcap : M ≤ cap := by omega
  have HFIT : Hid (M * 10 ≤ (rowE l rest).size) := by show _ ≤ _; rw [hs]; omega
  have HSZ := Hid.mk (seg_size (rowE l rest) (i * 10) (ecs (l.drop (i + 1))) (by rw [ecs_len, List.length_drop, hs]; omega))
  have HML : Hid (l.length - M = 1) := by show _ = _; omega
  rw [← hM]
  clear hg hs hcap hcm hbase hn hi hM
  have hRD := (rowE_rd HG.out).drop (i + 1)
  rw [Nat.zero_add] at hRD
  have HN : Hid (l.length - (i + 1) = (l.drop (i + 1)).length) := (List.length_drop ..).symm
  have HRD := Hid.mk hRD
  clear hRD
  obtain ⟨A, hA, hsrc⟩ : ∃ A : Addr, (if cap = i + 1 then some (⟨g, 0, none⟩ : Addr) else some ⟨g, (i + 1) * 10, none⟩) = some A ∧ Hid (∀ j u, (ecs (l.drop (i + 1)))[j]? = some u → w.cell? (A.add j) = some u) := by
    by_cases h : cap = i + 1
    · refine ⟨⟨g, 0, none⟩, by simp [h], fun j u hu => ?_⟩
      rw [List.drop_eq_nil_of_le (by omega)] at hu
      cases hu
    · exact ⟨⟨g, (i + 1) * 10, none⟩, by simp [h], HRD.out.cells⟩
  have nic : i ≤ cap := by omega
  have nil1 : i + 1 ≤ l.length := by omega
  have nic1 : i + 1 ≤ cap := by omega
  have h0i : (0 : Int) ≤ (i : Int) + 1 := by omega
  clear HRD
  go_enter Tryz.func96, Tryz.ntmps96
  go_wp2
  go_region_law
    ((refine step_roomE _ rfl _ _ rfl g i cap rfl _ (block_later (Below.refl _ _).drew HG.out) (l.drop (i + 1)) A _ (cap - (i + 1)) HN.out (by rfl) (fun j u hu => cell_later (Below.refl _ _).drew (hsrc.out j u hu)) M hMn hMcap HFIT.out ?_
      intro w2 hk2 ht2
      have HK2 := Hid.mk hk2
      have HT2 := Hid.mk ht2
      clear hk2 ht2))
  have hMl : M ≤ l.length := by omega
  have hMne : ¬ (cap = M) := by omega
  clear hA hsrc hMn nil1 nic1 nic
  go_wp2_with (first
    | (refine wpList_clearE _ rfl rfl _ rfl g (M * 10) (l.length - M) (cap - M) (by have := HML.out; omega) rfl _ _ HK2.out (by rw [HSZ.out, HML.out]; have := HFIT.out; have := HS.out; have := HM.out; have := HC.out.1; have := HI.out; omega) ?_
       intro w8 zs hzl hk8 ht8)
    | fail)
  go_ret
  rw [HML.out, Nat.one_mul] at hzl
  have hk9 := hk8
  rw [HM.out] at hk9
  have HO := own_erased HC.out.2.2 HI.out HC.out.1 HC.out.2.1 HS.out hzl hk9
  rw [← HM.out] at HO
  exact ⟨rfl, HO, ((turn_of_below _ (Below.refl _ _).drew).trans HT2.out (fun _ _ h => h)).trans ht8 (fun _ _ h => h)⟩

end Go.Proofs.YtndjhedoandinaaGreatDoor.TB

/- Buffers: what one holds in memory; the walks of New, List, Drop. -/
namespace Go.Proofs.YtndjhedoandinaaGreatDoor.TB
open Go.RowKit

/-- A buffer at the block t, its row the value v; X: the blocks that are its own. -/
structure BufV (w : World) (X : Nat → Prop) (t : Nat) (most : Int) (v : Value) (l : List En) : Prop where
  row : w.heap[t]? = some (.cells #[.int .i64 most, v] 173 (0, 0))
  own : w.ownsRow 0 107 10 v l.length (ecs l)
  xg : ∀ g, v.ownBlock = some g → X g ∧ g ≠ t
  xt : X t
  lt : ∀ i, X i → i < w.heap.size
  ok : ∀ e ∈ l, e.ok
def Buf (w : World) (X : Nat → Prop) (t : Nat) (most : Int) (l : List En) : Prop := ∃ v, BufV w X t most v l
theorem own_keep {w w' : World} {b : Nat} {T : TypeId} {v : Value} {n : Nat} {xs : List Value} (h : w.ownsRow b T 10 v n xs) (hb : ∀ g, v.ownBlock = some g → w'.heap[g]? = w.heap[g]?) : w'.ownsRow b T 10 v n xs := by
  refine ⟨h.1, ?_⟩
  rcases h.2 with hn | ⟨g, cap, cur, rfl, h1, hg, r⟩
  · exact Or.inl hn
  · exact Or.inr ⟨g, cap, cur, rfl, h1, (hb g rfl).trans hg, r⟩
theorem BufV.kept {w w' : World} {X : Nat → Prop} {t : Nat} {most : Int} {v : Value} {l : List En} (h : BufV w X t most v l) (hb : ∀ i, X i → w'.heap[i]? = w.heap[i]?) (hs : w.heap.size ≤ w'.heap.size) : BufV w' X t most v l :=
  ⟨(hb t h.xt).trans h.row, own_keep h.own (fun g hg => hb g (h.xg g hg).1), h.xg, h.xt, fun i hi => Nat.lt_of_lt_of_le (h.lt i hi) hs, h.ok⟩
theorem BufV.later {w w' : World} {X : Nat → Prop} {t : Nat} {most : Int} {v : Value} {l : List En} (h : BufV w X t most v l) (hb : Below w.heap.size w w') : BufV w' X t most v l :=
  h.kept (fun i hi => hb.block i (h.lt i hi)) hb.size
theorem Buf.later {w w' : World} {X : Nat → Prop} {t : Nat} {most : Int} {l : List En} (h : Buf w X t most l) (hb : Below w.heap.size w w') : Buf w' X t most l := by
  obtain ⟨v, h⟩ := h
  exact ⟨v, h.later hb⟩
/-- Its row, opened. -/
theorem BufV.form {w : World} {X : Nat → Prop} {t : Nat} {most : Int} {v : Value} {l : List En} (h : BufV w X t most v l) : ∃ ad cap, v = .slice ad l.length cap ∧ (ad = none ∨ ∃ g o, ad = some ⟨g, o, none⟩) ∧ RdA w ad l := by
  obtain ⟨ad, cap, rfl, hr, -⟩ := own_rd h.own
  refine ⟨ad, cap, rfl, ?_, hr⟩
  rcases h.own.2 with ⟨e, -⟩ | ⟨g, c, cur, e, -⟩
  · simp only [Value.slice.injEq] at e; exact Or.inl e.1
  · simp only [Value.slice.injEq] at e; exact Or.inr ⟨g, 0, e.1⟩
theorem row2c {w : World} {K : Nat} {a b : Value} {T : TypeId} (h : w.heap[K]? = some (.cells #[a, b] T (0, 0))) : w.cell? ⟨K, 0, none⟩ = some a ∧ w.cell? ⟨K, 1, none⟩ = some b :=
  ⟨(cell_of_row _ _ _ _ _ _ h).trans rfl, (cell_of_row _ _ _ _ _ _ h).trans rfl⟩

set_option maxHeartbeats 1000000 in
theorem new_bad (m : Int) (h : m < 1 ∨ 64 < m) (w : World) :
    Calls Tryz.prog 76 #[.int .i64 m] w fun r w' => r = .returned (.tuple #[.pointer none, .int .i64 12]) ∧ w = w' := by
  by_cases h1 : m < 1
  · have d1 : decide (m < 1) = true := decide_eq_true h1
    go_enter Tryz.func76, Tryz.ntmps76
    go_wp2
    go_ret2
    exact ⟨rfl, rfl⟩
  · have h2 : 64 < m := by omega
    have d1 : decide (m < 1) = false := decide_eq_false h1
    have d2 : decide (64 < m) = true := decide_eq_true h2
    go_enter Tryz.func76, Tryz.ntmps76
    go_wp2
    go_ret2
    exact ⟨rfl, rfl⟩
set_option maxHeartbeats 1000000 in
theorem new_ok (m : Int) (h1 : 1 ≤ m) (h2 : m ≤ 64) (w : World) :
    Calls Tryz.prog 76 #[.int .i64 m] w fun r w' => r = .returned (.tuple #[.pointer (some ⟨w.heap.size, 0, none⟩), .int .i64 0]) ∧ Below w.heap.size w w' ∧ Buf w' (fun i => i = w.heap.size) w.heap.size m [] := by
  have d1 : decide (m < 1) = false := decide_eq_false (by omega)
  have d2 : decide (64 < m) = false := decide_eq_false (by omega)
  have HB : Hid (Buf (w.alloc (.cells #[.int .i64 m, .slice none 0 0] 173)) (fun i => i = w.heap.size) w.heap.size m []) :=
    ⟨_, heap_alloc_new _ _, World.ownsRow_nil _ _ _ _, (fun g hg => by cases hg), rfl, (fun i hi => by rw [hi]; simp), (fun e he => by cases he)⟩
  go_enter Tryz.func76, Tryz.ntmps76
  go_wp2
  go_ret2
  exact ⟨rfl, below_new _ _, HB.out⟩

set_option maxHeartbeats 1000000 in
theorem list_c {w : World} {X : Nat → Prop} {t : Nat} {most : Int} {l : List En} (h : Buf w X t most l) (hn : l.length ≤ 1000) :
    Calls Tryz.prog 47 #[.pointer (some ⟨t, 0, none⟩)] w fun r w' => ∃ ad cap, r = .returned (.slice ad l.length cap) ∧ RdA w' ad l ∧ (∀ b, ad = some b → w.heap.size ≤ b.block) ∧ Below w.heap.size w w' := by
  obtain ⟨v, h⟩ := h
  obtain ⟨ad, cap, rfl, hf, hr⟩ := h.form
  obtain ⟨-, c1⟩ := row2c h.row
  have hc := clone_c l ad cap hf hn w hr
  clear h hf hr
  go_enter Tryz.func47, Tryz.ntmps47
  go_wp2_with fail
  refine hc.mono ?_
  rintro e w1 ⟨ad', cap', rfl, hr, hb, hB⟩
  clear hc c1
  go_wp2
  go_ret
  exact ⟨_, _, rfl, hr, hb, hB⟩

theorem info_sl : (Tryz.prog.info? 101).map (·.size) = some 1 := by kernel_rfl
/-- Behind a change of its row in its own block, and a store of the new slice. -/
theorem BufV.turned {w w1 w2 : World} {X : Nat → Prop} {t : Nat} {most : Int} {v v' : Value} {l l' : List En} (h : BufV w X t most v l) (ht : Turn (OwnB v) w w1) (ho : w1.ownsRow 0 107 10 v' l'.length (ecs l')) (hv : v'.ownBlock = v.ownBlock) (hr : w2.heap[t]? = some (.cells #[.int .i64 most, v'] 173 (0, 0))) (h2 : Turn (fun i => i = t) w1 w2) (hok : ∀ e ∈ l', e.ok) :
    BufV w2 X t most v' l' ∧ Turn X w w2 := by
  have hx : ∀ g, v'.ownBlock = some g → X g ∧ g ≠ t := fun g hg => h.xg g (hv ▸ hg)
  refine ⟨⟨hr, own_keep ho (fun g hg => h2.block g ?_ (hx g hg).2), hx, h.xt, fun i hi => Nat.lt_of_lt_of_le (h.lt i hi) (Nat.le_trans ht.size h2.size), hok⟩, ?_⟩
  · exact (ho.lt g hg).2
  · refine Turn.trans (X := X) (Y := fun i => i = t) ⟨ht.os, ht.tape, ht.output, ht.size, fun i hi hX => ht.block i hi (fun h3 => hX (h.xg i h3).1)⟩ h2 (fun i _ hi => by rw [hi]; exact h.xt)

set_option maxHeartbeats 2000000 in
theorem drop_no {w : World} {X : Nat → Prop} {t : Nat} {most : Int} {l : List En} (h : Buf w X t most l) (n : Int) (hn : n < 0 ∨ (l.length : Int) ≤ n) (hl : l.length ≤ 1000) :
    Calls Tryz.prog 53 #[.pointer (some ⟨t, 0, none⟩), .int .i64 n] w fun r w' => r = .returned (.bool false) ∧ w = w' := by
  obtain ⟨v, h⟩ := h
  obtain ⟨ad, cap, rfl, hf, hr⟩ := h.form
  obtain ⟨-, c1⟩ := row2c h.row
  have hlI : (l.length : Int) ≤ 1000 := by omega
  clear h hf hr hl
  by_cases h1 : n < 0
  · have d1 : decide (n < 0) = true := decide_eq_true h1
    go_enter Tryz.func53, Tryz.ntmps53
    go_wp2
    go_ret
    exact ⟨rfl, rfl⟩
  · have d1 : decide (n < 0) = false := decide_eq_false h1
    have h2 : (l.length : Int) ≤ n := by omega
    have d2 : decide ((l.length : Int) ≤ n) = true := decide_eq_true h2
    go_enter Tryz.func53, Tryz.ntmps53
    go_wp2
    go_ret
    exact ⟨rfl, rfl⟩

set_option maxHeartbeats 2000000 in
theorem drop_yes {w : World} {X : Nat → Prop} {t : Nat} {most : Int} {l : List En} (h : Buf w X t most l) (n : Nat) (hn : n < l.length) (hl : l.length ≤ 1000) :
    Calls Tryz.prog 53 #[.pointer (some ⟨t, 0, none⟩), .int .i64 (n : Nat)] w fun r w' => r = .returned (.bool true) ∧ Buf w' X t most (l.eraseIdx n) ∧ Turn X w w' := by
  obtain ⟨v, h⟩ := h
  obtain ⟨-, c1⟩ := row2c h.row
  have HH := Hid.mk h
  rcases h.own.2 with ⟨-, h0⟩ | ⟨g, cap, cur, rfl, hb, hg, h1, h2, h3, h4⟩
  · omega
  have hcur : cur = rowE l (cur.toList.drop (l.length * 10)) := by
    unfold rowE
    rw [← h4, List.take_append_drop]
  rw [hcur] at hg h3
  have hD := delete_row l n g cap 0 _ w hl hn h1 h2 hb hg h3
  have hlI : (l.length : Int) ≤ 1000 := by omega
  have hnI : (n : Int) < (l.length : Int) := by omega
  have d1 : decide ((n : Int) < 0) = false := decide_eq_false (by omega)
  have d2 : decide (l.length ≤ n) = false := decide_eq_false (by omega)
  have d2' : ¬ l.length ≤ n := by omega
  have HOK : Hid (∀ e ∈ l.eraseIdx n, e.ok) := fun e he => h.ok e (List.mem_of_mem_eraseIdx he)
  have hne := (h.xg g rfl).2
  clear h hg h1 h2 h3 h4 hcur hb hl hn
  go_enter Tryz.func53, Tryz.ntmps53
  go_wp2_with fail
  refine hD.mono ?_
  rintro e w1 ⟨rfl, ho, ht⟩
  have HR1 := Hid.mk (block_turn ht HH.out.row (fun h => hne h.symm))
  have HO := Hid.mk ho
  have HT := Hid.mk ht
  clear hD ho ht c1
  go_wp2_with (first
    | (refine wpList_store_segTo rfl 101 _ _ rfl rfl t 1 _ #[.slice (some ⟨g, 0, none⟩) (l.length - 1) cap] rfl rfl rfl 173 _ HR1.out (show 1 + 1 ≤ 2 by decide) info_sl (by simp [Value.oneCell']) #[.int .i64 most, .slice (some ⟨g, 0, none⟩) (l.length - 1) cap] rfl ?_
       intro w8 hk8 ht8)
    | fail)
  go_ret
  have hfin := HH.out.turned (v' := .slice (some ⟨g, 0, none⟩) (l.length - 1) cap) (Turn.mk HT.out.os HT.out.tape HT.out.output HT.out.size fun i hi hX => HT.out.block i hi fun h3 => hX (by rw [h3]; rfl)) HO.out rfl hk8 ht8 HOK.out
  exact ⟨rfl, ⟨_, hfin.1⟩, hfin.2⟩

end Go.Proofs.YtndjhedoandinaaGreatDoor.TB

/- Buffers: the walks of the flushes. -/
namespace Go.Proofs.YtndjhedoandinaaGreatDoor.TB
open Go.RowKit

/-- A function that has a body is entered. -/
theorem enters_t {P : Program} {f : FuncId} {fn : Func} {c : Code} (hf : P.funcs[f]? = some fn) (hn : (fn.name == "runtime.NumGoroutine") = false) (hb : fn.body = some c) (args : Array Value) (w : World) : (callFunc f args).run P w = .ok (.enter f args) w := by
  have h1 : fn.name ≠ "runtime.NumGoroutine" := by simpa using hn
  simp [callFunc, hf, h1, hb, mark]
/-- Those that are not such. -/
def keepP (p : En → Bool) (l : List En) : List En := l.filter (fun e => !p e)
theorem keep_le (p : En → Bool) (l : List En) : (keepP p l).length ≤ l.length := List.length_filter_le _ _

set_option maxHeartbeats 8000000 in
set_option maxRecDepth 100000 in
theorem flush_c {w : World} {X : Nat → Prop} {t : Nat} {most : Int} {l : List En} (h : Buf w X t most l) (hl : l.length ≤ 1000) (q : Nat) (lb : Array Value) (eg : ∀ args w, (callFunc q args).run Tryz.prog w = .ok (.enter q args) w) (p : En → Bool)
    (hp : ∀ W e, Turn X w W → Calls Tryz.prog q (#[e.v] ++ lb) W fun r w' => r = .returned (.bool (p e)) ∧ Below W.heap.size W w') :
    Calls Tryz.prog 98 #[.pointer (some ⟨t, 0, none⟩), .func (.func q) #[] lb] w fun r w' => r = .returned (.int .i64 ((l.length : Int) - ((keepP p l).length : Int))) ∧ Buf w' X t most (keepP p l) ∧ Turn X w w' := by
  obtain ⟨v, h⟩ := h
  obtain ⟨-, c1⟩ := row2c h.row
  have HH := Hid.mk h
  have HOK : Hid (∀ e ∈ keepP p l, e.ok) := fun e he => h.ok e (List.mem_filter.1 he).1
  have hlI : (l.length : Int) ≤ 1000 := by omega
  rcases h.own.2 with ⟨rfl, h0⟩ | ⟨g, cap, cur, rfl, hb, hg, h1, h2, h3, h4⟩
  · obtain rfl := List.length_eq_zero_iff.1 h0
    have hI := indexFunc_c q lb eg p [] none 0 w (by decide) (RdA.nil _ _) (fun W e hb => hp W e (turn_of_below _ hb))
    have hD : Calls Tryz.prog 135 #[.slice none 0 0, .func (.func q) #[] lb] w fun r w' => r = .returned (.slice none 0 0) ∧ Below w.heap.size w w' := by
      clear c1 h hp
      go_enter Tryz.func135, Tryz.ntmps135
      go_wp2_with fail
      refine hI.mono ?_
      rintro e w1 ⟨⟨rfl, -⟩ | ⟨k, hk, -⟩, hb⟩
      · clear hI
        go_wp2
        go_ret
        exact ⟨rfl, hb⟩
      · exact absurd hk (by simp)
    clear h hp hI
    go_enter Tryz.func98, Tryz.ntmps98
    go_wp2_with fail
    refine hD.mono ?_
    rintro e w1 ⟨rfl, hb⟩
    have HB := Hid.mk hb
    have HR1 := Hid.mk (block_later hb HH.out.row)
    clear hD hb c1
    go_wp2_with (first
      | (refine wpList_store_segTo rfl 101 _ _ rfl rfl t 1 _ #[.slice none 0 0] rfl rfl rfl 173 _ HR1.out (show 1 + 1 ≤ 2 by decide) info_sl (by simp [Value.oneCell']) #[.int .i64 most, .slice none 0 0] rfl ?_
         intro w8 hk8 ht8
         obtain ⟨c0, c1⟩ := row2c hk8)
      | fail)
    go_ret
    have hfin := HH.out.turned (v' := .slice none 0 0) (l' := []) (turn_of_below _ HB.out) (World.ownsRow_nil _ _ _ _) rfl hk8 ht8 (fun e he => by cases he)
    exact ⟨rfl, ⟨_, hfin.1⟩, hfin.2⟩
  · have hcur : cur = rowE l (cur.toList.drop (l.length * 10)) := by
      unfold rowE
      rw [← h4, List.take_append_drop]
    rw [hcur] at hg h3
    have hgX := (h.xg g rfl)
    have hD := deleteFunc_row q lb eg p l g cap 0 _ w hl h1 h2 hb hg h3 (fun W e ht => hp W e ⟨ht.os, ht.tape, ht.output, ht.size, fun i hi hX => ht.block i hi (fun h5 => hX (by rw [h5]; exact hgX.1))⟩)
    have hle := keep_le p l
    have hleI : ((keepP p l).length : Int) ≤ (l.length : Int) := by omega
    have hkI : (0 : Int) ≤ ((keepP p l).length : Int) := by omega
    have hD2 : Calls Tryz.prog 135 #[.slice (some ⟨g, 0, none⟩) l.length cap, .func (.func q) #[] lb] w fun r w' => r = .returned (.slice (some ⟨g, 0, none⟩) (keepP p l).length cap) ∧ w'.ownsRow 0 107 10 (.slice (some ⟨g, 0, none⟩) (keepP p l).length cap) (keepP p l).length (ecs (keepP p l)) ∧ Turn (fun i => i = g) w w' := hD
    have HLE := Hid.mk hle
    clear h hp hg h1 h2 h3 h4 hcur hb hl hD hle
    have hne := hgX.2
    generalize keepP p l = kl at *
    go_enter Tryz.func98, Tryz.ntmps98
    go_wp2_with fail
    refine hD2.mono ?_
    rintro e w1 ⟨rfl, ho, ht⟩
    have HR1 := Hid.mk (block_turn ht HH.out.row (fun h => hne h.symm))
    have HO := Hid.mk ho
    have HT := Hid.mk ht
    clear hD2 ho ht c1
    go_wp2_with (first
      | (refine wpList_store_segTo rfl 101 _ _ rfl rfl t 1 _ #[.slice (some ⟨g, 0, none⟩) kl.length cap] rfl rfl rfl 173 _ HR1.out (show 1 + 1 ≤ 2 by decide) info_sl (by simp [Value.oneCell']) #[.int .i64 most, .slice (some ⟨g, 0, none⟩) kl.length cap] rfl ?_
         intro w8 hk8 ht8
         obtain ⟨c0, c1⟩ := row2c hk8)
      | fail)
    go_ret
    have hfin := HH.out.turned (v' := .slice (some ⟨g, 0, none⟩) kl.length cap) (Turn.mk HT.out.os HT.out.tape HT.out.output HT.out.size fun i hi hX => HT.out.block i hi fun h3 => hX (by rw [h3]; rfl)) HO.out rfl hk8 ht8 HOK.out
    exact ⟨rfl, ⟨_, hfin.1⟩, hfin.2⟩

/-! ### the three closures -/
set_option maxHeartbeats 2000000 in
theorem clo_va (e : En) (i : Int) (x : Nat) (hx : x < 18446744073709551616) (B1 B2 : Nat) (W : World) (h1 : W.cell? ⟨B1, 0, none⟩ = some (.int .i64 i)) (h2 : W.cell? ⟨B2, 0, none⟩ = some (.int .u64 x)) :
    Calls Tryz.prog 99 #[e.v, .pointer (some ⟨B1, 0, none⟩), .pointer (some ⟨B2, 0, none⟩)] W fun r w' => r = .returned (.bool (mB e i x)) ∧ Below W.heap.size W w' := by
  have hM := fun w1 => matches_any e i x hx w1
  have g1 := fun ob => cell_alloc (o := ob) h1
  have g2 := fun ob => cell_alloc (o := ob) h2
  generalize mB e i x = M at *
  obtain ⟨a0, a1, a2, a3, a4, a5, a6, a7, a8, a9⟩ := e
  simp only [En.v] at *
  clear h1 h2 hx
  go_enter Tryz.func99, Tryz.ntmps99
  go_wp2_with fail
  refine (hM _).mono ?_
  rintro e w1 ⟨rfl, hb⟩
  clear hM g1 g2
  go_wp2
  go_ret
  exact ⟨rfl, below_tr (below_new _ _) hb⟩
set_option maxHeartbeats 2000000 in
theorem clo_asid (e : En) (i : Int) (B1 : Nat) (W : World) (h1 : W.cell? ⟨B1, 0, none⟩ = some (.int .i64 i)) :
    Calls Tryz.prog 105 #[e.v, .pointer (some ⟨B1, 0, none⟩)] W fun r w' => r = .returned (.bool (decide (e.aid = i))) ∧ Below W.heap.size W w' := by
  have g1 := fun ob => cell_alloc (o := ob) h1
  have HE : Hid (decide (e.aid = i) = (e.aid == i)) := by show _ = _; rw [Bool.eq_iff_iff, decide_eq_true_eq, beq_iff_eq]
  generalize decide (e.aid = i) = D at *
  obtain ⟨a0, a1, a2, a3, a4, a5, a6, a7, a8, a9⟩ := e
  simp only [En.v] at *
  clear h1
  go_enter Tryz.func105, Tryz.ntmps105
  go_wp2
  go_ret
  exact ⟨by rw [HE.out]; rfl, below_new _ _⟩
set_option maxHeartbeats 2000000 in
theorem clo_all (e : En) (W : World) :
    Calls Tryz.prog 103 #[e.v] W fun r w' => r = .returned (.bool true) ∧ Below W.heap.size W w' := by
  obtain ⟨a0, a1, a2, a3, a4, a5, a6, a7, a8, a9⟩ := e
  simp only [En.v] at *
  go_enter Tryz.func103, Tryz.ntmps103
  go_wp2
  go_ret
  exact ⟨rfl, below_new _ _⟩

theorem turn_cell {w W : World} {X : Nat → Prop} {B i : Nat} {v : Value} (ht : Turn X w W) (hX : ¬ X B) (h : w.cell? ⟨B, i, none⟩ = some v) : W.cell? ⟨B, i, none⟩ = some v :=
  (World.cell?_of_block (a := ⟨B, i, none⟩) (ht.block B (World.block_lt_of_cell? w ⟨B, i, none⟩ h) hX)).trans h
theorem turn_pre {w w1 w2 : World} {X : Nat → Prop} (hb : Below w.heap.size w w1) (h : Turn X w1 w2) : Turn X w w2 := (turn_of_below X hb).trans h (fun _ _ h => h)

theorem flushVa_c {w : World} {X : Nat → Prop} {t : Nat} {most : Int} {l : List En} (h : Buf w X t most l) (hl : l.length ≤ 1000) (i : Int) (x : Nat) (hx : x < 18446744073709551616) :
    Calls Tryz.prog 55 #[.pointer (some ⟨t, 0, none⟩), .int .i64 i, .int .u64 x] w fun r w' => r = .returned (.int .i64 ((l.length : Int) - ((keepP (fun e => mB e i x) l).length : Int))) ∧ Buf w' X t most (keepP (fun e => mB e i x) l) ∧ Turn X w w' := by
  have hB := below_tr (below_new w (.cells #[.int .i64 i] 3)) (below_new (w.alloc (.cells #[.int .i64 i] 3)) (.cells #[.int .u64 x] 26))
  have hlt : ∀ i, X i → i < w.heap.size := by obtain ⟨v, h⟩ := h; exact h.lt
  have eg : ∀ args w, (callFunc 99 args).run Tryz.prog w = .ok (.enter 99 args) w := enters_t Tryz.func99 (by kernel_rfl) rfl
  have hC := flush_c (h.later hB) hl 99 #[.pointer (some ⟨w.heap.size, 0, none⟩), .pointer (some ⟨w.heap.size + 1, 0, none⟩)] eg (fun e => mB e i x) (fun W e ht => clo_va e i x hx w.heap.size (w.heap.size + 1) W
    (turn_cell ht (fun hX => by have := hlt _ hX; omega) (cell_of_row _ _ _ _ _ _ (heap_alloc2_old w _ _)))
    (turn_cell ht (fun hX => by have := hlt _ hX; omega) (cell_of_row _ _ _ _ _ _ (heap_alloc2_new w _ _))))
  generalize keepP (fun e => mB e i x) l = kl at *
  have HB := Hid.mk hB
  clear hB h hlt eg hx
  go_enter Tryz.func55, Tryz.ntmps55
  go_wp2_with fail
  refine hC.mono ?_
  rintro e w1 ⟨rfl, hb, ht⟩
  clear hC
  go_wp2
  go_ret
  exact ⟨rfl, hb, turn_pre HB.out ht⟩
theorem flushAsid_c {w : World} {X : Nat → Prop} {t : Nat} {most : Int} {l : List En} (h : Buf w X t most l) (hl : l.length ≤ 1000) (i : Int) :
    Calls Tryz.prog 60 #[.pointer (some ⟨t, 0, none⟩), .int .i64 i] w fun r w' => r = .returned (.int .i64 ((l.length : Int) - ((keepP (fun e => decide (e.aid = i)) l).length : Int))) ∧ Buf w' X t most (keepP (fun e => decide (e.aid = i)) l) ∧ Turn X w w' := by
  have hB := below_new w (.cells #[.int .i64 i] 3)
  have hlt : ∀ i, X i → i < w.heap.size := by obtain ⟨v, h⟩ := h; exact h.lt
  have eg : ∀ args w, (callFunc 105 args).run Tryz.prog w = .ok (.enter 105 args) w := enters_t Tryz.func105 (by kernel_rfl) rfl
  have hC := flush_c (h.later hB) hl 105 #[.pointer (some ⟨w.heap.size, 0, none⟩)] eg (fun e => decide (e.aid = i)) (fun W e ht => clo_asid e i w.heap.size W
    (turn_cell ht (fun hX => by have := hlt _ hX; omega) (cell_of_row _ _ _ _ _ _ (heap_alloc_new w _))))
  generalize keepP (fun e => decide (e.aid = i)) l = kl at *
  have HB := Hid.mk hB
  clear hB h hlt eg
  go_enter Tryz.func60, Tryz.ntmps60
  go_wp2_with fail
  refine hC.mono ?_
  rintro e w1 ⟨rfl, hb, ht⟩
  clear hC
  go_wp2
  go_ret
  exact ⟨rfl, hb, turn_pre HB.out ht⟩
theorem keep_all (l : List En) : keepP (fun _ => true) l = [] := by unfold keepP; simp
theorem flushAll_c {w : World} {X : Nat → Prop} {t : Nat} {most : Int} {l : List En} (h : Buf w X t most l) (hl : l.length ≤ 1000) :
    Calls Tryz.prog 58 #[.pointer (some ⟨t, 0, none⟩)] w fun r w' => r = .returned (.int .i64 (l.length : Int)) ∧ Buf w' X t most [] ∧ Turn X w w' := by
  have eg : ∀ args w, (callFunc 103 args).run Tryz.prog w = .ok (.enter 103 args) w := enters_t Tryz.func103 (by kernel_rfl) rfl
  have hC := flush_c h hl 103 #[] eg (fun _ => true) (fun W e _ => clo_all e W)
  rw [keep_all] at hC
  have hz : (l.length : Int) - (([] : List En).length : Int) = (l.length : Int) := by simp
  rw [hz] at hC
  clear h eg hz
  go_enter Tryz.func58, Tryz.ntmps58
  go_wp2_with fail
  refine hC.mono ?_
  rintro e w1 ⟨rfl, hb, ht⟩
  clear hC
  go_wp2
  go_ret
  exact ⟨rfl, hb, ht⟩

end Go.Proofs.YtndjhedoandinaaGreatDoor.TB

/- Buffers: the walks of Find and Count. -/
namespace Go.Proofs.YtndjhedoandinaaGreatDoor.TB
open Go.RowKit

/-- An entry's cells, written out. -/
abbrev En.ar (e : En) : Array Value := #[.int .i64 e.aid, .int .u64 (e.va : Int), .int .i64 e.lv, .int .i64 e.k, .int .u64 (e.o : Int), .bool e.u, .bool e.r, .bool e.x, .bool e.s, .int .i64 e.a]
/-- The first of the first i that is such, and how many are. -/
def fstI (p : En → Bool) (l : List En) (i : Nat) : En := ((l.take i).filter p).headD e0
def cntI (p : En → Bool) (l : List En) (i : Nat) : Nat := ((l.take i).filter p).length
theorem fst_zero (p : En → Bool) (l : List En) : fstI p l 0 = e0 := rfl
theorem cnt_zero (p : En → Bool) (l : List En) : cntI p l 0 = 0 := rfl
theorem hits_no {p : En → Bool} {l : List En} {i : Nat} (hi : i < l.length) (h : p (gE l i) = false) : (l.take (i + 1)).filter p = (l.take i).filter p := by
  rw [take_succ_g l i hi, List.filter_append]
  have : [(gE l i)].filter p = [] := by generalize (gE l i) = y at *; simp [h]
  rw [this, List.append_nil]
theorem hits_yes {p : En → Bool} {l : List En} {i : Nat} (hi : i < l.length) (h : p (gE l i) = true) : (l.take (i + 1)).filter p = (l.take i).filter p ++ [(gE l i)] := by
  rw [take_succ_g l i hi, List.filter_append]
  have : [(gE l i)].filter p = [(gE l i)] := by generalize (gE l i) = y at *; simp [h]
  rw [this]
theorem fst_no {p : En → Bool} {l : List En} {i : Nat} (hi : i < l.length) (h : p (gE l i) = false) : fstI p l (i + 1) = fstI p l i ∧ cntI p l (i + 1) = cntI p l i := by
  unfold fstI cntI
  rw [hits_no hi h]; exact ⟨rfl, rfl⟩
theorem fst_yes {p : En → Bool} {l : List En} {i : Nat} (hi : i < l.length) (h : p (gE l i) = true) : fstI p l (i + 1) = (if cntI p l i = 0 then (gE l i) else fstI p l i) ∧ cntI p l (i + 1) = cntI p l i + 1 := by
  unfold fstI cntI
  rw [hits_yes hi h]
  refine ⟨?_, by simp⟩
  cases hq : (l.take i).filter p with
  | nil => rfl
  | cons a m => simp
theorem cnt_le (p : En → Bool) (l : List En) (i : Nat) (hi : i ≤ l.length) : cntI p l i ≤ i := by
  unfold cntI
  have := List.length_filter_le p (l.take i)
  rw [List.length_take] at this
  omega
theorem cnt_all (p : En → Bool) (l : List En) : cntI p l l.length = (l.filter p).length := by unfold cntI; rw [List.take_length]
theorem fst_all (p : En → Bool) (l : List En) : fstI p l l.length = (l.filter p).headD e0 := by unfold fstI; rw [List.take_length]
def fndE (p : En → Bool) (l : List En) : En := (l.filter p).headD e0
def cntE (p : En → Bool) (l : List En) : Nat := (l.filter p).length

set_option maxHeartbeats 8000000 in
set_option maxRecDepth 100000 in
theorem find_c {w : World} {X : Nat → Prop} {t : Nat} {most : Int} {l : List En} (h : Buf w X t most l) (hn : l.length ≤ 1000) (i0 : Int) (x : Nat) (hx : x < 18446744073709551616) :
    Calls Tryz.prog 51 #[.pointer (some ⟨t, 0, none⟩), .int .i64 i0, .int .u64 x] w fun r w' => r = .returned (.tuple #[(fndE (fun e => mB e i0 x) l).v, .int .i64 ((cntE (fun e => mB e i0 x) l : Nat) : Int)]) ∧ Below w.heap.size w w' := by
  obtain ⟨v, h⟩ := h
  obtain ⟨ad, cap, rfl, hf, hr⟩ := h.form
  have hM := fun e w1 => matches_any e i0 x hx w1
  have HRE : Hid (fndE (fun e => mB e i0 x) l = fstI (fun e => mB e i0 x) l l.length ∧ cntE (fun e => mB e i0 x) l = cntI (fun e => mB e i0 x) l l.length) := ⟨(fst_all _ _).symm, (cnt_all _ _).symm⟩
  have HZ : Hid (fstI (fun e => mB e i0 x) l 0 = e0 ∧ cntI (fun e => mB e i0 x) l 0 = 0) := ⟨rfl, rfl⟩
  have HNO : Hid (∀ i, i < l.length → mB (gE l i) i0 x = false → fstI (fun e => mB e i0 x) l (i + 1) = fstI (fun e => mB e i0 x) l i ∧ cntI (fun e => mB e i0 x) l (i + 1) = cntI (fun e => mB e i0 x) l i) := fun i h1 h2 => fst_no h1 h2
  have HYES : Hid (∀ i, i < l.length → mB (gE l i) i0 x = true → fstI (fun e => mB e i0 x) l (i + 1) = (if cntI (fun e => mB e i0 x) l i = 0 then (gE l i) else fstI (fun e => mB e i0 x) l i) ∧ cntI (fun e => mB e i0 x) l (i + 1) = cntI (fun e => mB e i0 x) l i + 1) := fun i h1 h2 => fst_yes h1 h2
  have HCL : Hid (∀ i, i ≤ l.length → cntI (fun e => mB e i0 x) l i ≤ i) := fun i h1 => cnt_le _ _ _ h1
  have HM := Hid.mk hM
  have HR := Hid.mk hr
  have hlI : (l.length : Int) ≤ 1000 := by omega
  obtain ⟨-, c1⟩ := row2c h.row
  have c1a := fun o1 o2 => cell_later (below_new (w.alloc o1) o2) (cell_later (below_new w o1) c1)
  clear h hf hr hM hn hx c1
  generalize fndE (fun e => mB e i0 x) l = FE at *
  generalize cntE (fun e => mB e i0 x) l = CE at *
  generalize fstI (fun e => mB e i0 x) l = fI at *
  generalize cntI (fun e => mB e i0 x) l = cI at *
  go_enter Tryz.func51, Tryz.ntmps51
  go_wp2
  clear c1a
  go_loopw [9, 11, 17] (fun s9 _ s17 wr => ∃ i : Nat, i ≤ l.length ∧ s17 = .int .i64 (i : Nat) ∧ s9 = .int .i64 ((cI i : Nat) : Int) ∧ Below w.heap.size w wr ∧ wr.heap[w.heap.size]? = some (.cells e0.ar 107 (0, 0)) ∧ wr.heap[w.heap.size + 1]? = some (.cells (fI i).ar 107 (0, 0))) (fun _ _ s17 _ => l.length - (RowKit.intOf s17).toNat)
  case atStart =>
    refine ⟨0, by omega, rfl, by rw [HZ.out.2]; rfl, below_tr (below_new _ _) (below_new _ _), heap_alloc2_old _ _ _, ?_⟩
    rw [HZ.out.1]; exact heap_alloc2_new _ _ _
  case round =>
    obtain ⟨i, hi, rfl, rfl, hb, h6, h8⟩ := hrel
    have HB := Hid.mk hb
    have H6 := Hid.mk h6
    have H8 := Hid.mk h8
    have hcl := HCL.out i hi
    by_cases hlt : i < l.length
    · have hlt2 : (i : Int) < l.length := by omega
      have HLT := Hid.mk hlt
      have hib : (i : Int) < 1000 := by omega
      have hcb : ((cI i : Nat) : Int) < 1000 := by omega
      obtain ⟨g, o, rfl, hg, hc⟩ := HR.out i hlt
      have d0 := cell_later hb (hc 0 _ rfl)
      have d1 := cell_later hb (hc 1 _ rfl)
      have d2 := cell_later hb (hc 2 _ rfl)
      have d3 := cell_later hb (hc 3 _ rfl)
      have d4 := cell_later hb (hc 4 _ rfl)
      have d5 := cell_later hb (hc 5 _ rfl)
      have d6 := cell_later hb (hc 6 _ rfl)
      have d7 := cell_later hb (hc 7 _ rfl)
      have d8 := cell_later hb (hc 8 _ rfl)
      have d9 := cell_later hb (hc 9 _ rfl)
      rw [Nat.add_zero] at d0
      have hcall := HM.out (gE l i)
      have HNi := Hid.mk (HNO.out i hlt)
      have HYi := Hid.mk (HYES.out i hlt)
      clear hc hb hi hlt h6 h8 hcl hg
      cases hpy : mB (gE l i) i0 x
      · have HN2 := Hid.mk (HNi.out hpy)
        rw [hpy] at hcall
        clear hpy HNi HYi
        generalize (gE l i) = y at *
        obtain ⟨b0, b1, b2, b3, b4, b5, b6, b7, b8, b9⟩ := y
        simp only [En.v] at *
        go_wp2_with fail
        refine (hcall _).mono ?_
        rintro e w' ⟨rfl, hb'⟩
        clear hcall d0 d1 d2 d3 d4 d5 d6 d7 d8 d9
        have hB2 := Hid.mk (below_tr (below_new _ _) hb')
        clear hb'
        go_wp2
        go_roundw
        case rel =>
          refine ⟨i + 1, by have := HLT.out; omega, by go_num, by rw [HN2.out.2], below_tr HB.out hB2.out, block_later hB2.out H6.out, ?_⟩
          rw [HN2.out.1]; exact block_later hB2.out H8.out
        case measure => have := HLT.out; simp [RowKit.intOf]; omega
      · have HY2 := Hid.mk (HYi.out hpy)
        rw [hpy] at hcall
        clear hpy HNi HYi
        by_cases h0 : cI i = 0
        · rw [if_pos h0] at HY2
          have hz : ((cI i : Nat) : Int) = 0 := by omega
          have HZ0 := Hid.mk h0
          clear h0
          generalize (gE l i) = y at *
          obtain ⟨b0, b1, b2, b3, b4, b5, b6, b7, b8, b9⟩ := y
          simp only [En.v] at *
          go_wp2_with fail
          refine (hcall _).mono ?_
          rintro e w' ⟨rfl, hb'⟩
          clear hcall d0 d1 d2 d3 d4 d5 d6 d7 d8 d9
          have hB2 := Hid.mk (below_tr (below_new wr (.cells #[.int .i64 b0, .int .u64 b1, .int .i64 b2, .int .i64 b3, .int .u64 b4, .bool b5, .bool b6, .bool b7, .bool b8, .int .i64 b9] 107)) hb')
          have hK7 := block_later hb' (heap_alloc_new wr (.cells #[.int .i64 b0, .int .u64 b1, .int .i64 b2, .int .i64 b3, .int .u64 b4, .bool b5, .bool b6, .bool b7, .bool b8, .int .i64 b9] 107))
          obtain ⟨q0, q1, q2, q3, q4, q5, q6, q7, q8, q9⟩ := cells10 hK7
          clear hb' hK7
          go_wp2_with (first
            | (refine wpList_store_segTo rfl 107 _ _ rfl rfl (w.heap.size + 1) 0 _ #[.int .i64 b0, .int .u64 b1, .int .i64 b2, .int .i64 b3, .int .u64 b4, .bool b5, .bool b6, .bool b7, .bool b8, .int .i64 b9] rfl rfl rfl 107 _ (block_later hB2.out H8.out) (show 0 + 10 ≤ 10 by decide) info_en (by simp [Value.oneCell']) #[.int .i64 b0, .int .u64 b1, .int .i64 b2, .int .i64 b3, .int .u64 b4, .bool b5, .bool b6, .bool b7, .bool b8, .int .i64 b9] rfl ?_
               intro w8 hk8 ht8
               clear q0 q1 q2 q3 q4 q5 q6 q7 q8 q9)
            | fail)
          go_roundw
          case rel =>
            refine ⟨i + 1, by have := HLT.out; omega, by go_num, ?_, below_turn (below_tr HB.out hB2.out) ht8 (by omega), block_turn ht8 (block_later hB2.out H6.out) (by omega), ?_⟩
            · rw [HY2.out.2, HZ0.out]; go_num
            · rw [HY2.out.1]; exact hk8
          case measure => have := HLT.out; simp [RowKit.intOf]; omega
        · rw [if_neg h0] at HY2
          have hz : ¬ ((cI i : Nat) : Int) = 0 := by omega
          clear h0
          generalize (gE l i) = y at *
          obtain ⟨b0, b1, b2, b3, b4, b5, b6, b7, b8, b9⟩ := y
          simp only [En.v] at *
          go_wp2_with fail
          refine (hcall _).mono ?_
          rintro e w' ⟨rfl, hb'⟩
          clear hcall d0 d1 d2 d3 d4 d5 d6 d7 d8 d9
          have hB2 := Hid.mk (below_tr (below_new _ _) hb')
          clear hb'
          go_wp2
          go_roundw
          case rel =>
            refine ⟨i + 1, by have := HLT.out; omega, by go_num, by rw [HY2.out.2]; go_num, below_tr HB.out hB2.out, block_later hB2.out H6.out, ?_⟩
            rw [HY2.out.1]; exact block_later hB2.out H8.out
          case measure => have := HLT.out; simp [RowKit.intOf]; omega
    · have hlt2 : ¬ (i : Int) < l.length := by omega
      obtain rfl : i = l.length := by omega
      have HF6 := Hid.mk h6
      have hc8 := cells10 h8
      rw [← HRE.out.1] at hc8
      rw [← HRE.out.2] at hcl ⊢
      obtain ⟨q0, q1, q2, q3, q4, q5, q6, q7, q8, q9⟩ := hc8
      obtain ⟨b0, b1, b2, b3, b4, b5, b6, b7, b8, b9⟩ := FE
      simp only [En.v] at *
      clear h6 h8 hb hi hlt
      go_wp2_with (first
        | (refine wpList_store_segTo rfl 107 _ _ rfl rfl w.heap.size 0 _ #[.int .i64 b0, .int .u64 b1, .int .i64 b2, .int .i64 b3, .int .u64 b4, .bool b5, .bool b6, .bool b7, .bool b8, .int .i64 b9] rfl rfl rfl 107 _ HF6.out (show 0 + 10 ≤ 10 by decide) info_en (by simp [Value.oneCell']) #[.int .i64 b0, .int .u64 b1, .int .i64 b2, .int .i64 b3, .int .u64 b4, .bool b5, .bool b6, .bool b7, .bool b8, .int .i64 b9] rfl ?_
           intro w8 hk8 ht8)
        | fail)
      refine bodyPost_ret (v := .tuple #[.agg #[.int .i64 b0, .int .u64 b1, .int .i64 b2, .int .i64 b3, .int .u64 b4, .bool b5, .bool b6, .bool b7, .bool b8, .int .i64 b9], .int .i64 (CE : Nat)]) ?_ rfl ⟨rfl, below_turn HB.out ht8 (Nat.le_refl _)⟩
      exact res_row_tmp (p := 6) (u := 7) rfl _ _ w.heap.size 107 _ _ _ rfl hk8 Tryz.underlying107 rfl (by kernel_rfl)

end Go.Proofs.YtndjhedoandinaaGreatDoor.TB

namespace Go.Proofs.YtndjhedoandinaaGreatDoor.TB
open Go.RowKit

def fillN (e : En) : Int := if rightE e = true then 0 else 10
def fillL (l : List En) (most : Int) (e : En) : List En := if rightE e = true then (if memB e l = true then l else if most < (l.length : Int) + 1 then (l ++ [e]).eraseIdx 0 else l ++ [e]) else l
/-- X, and what is new. -/
def Xp (X : Nat → Prop) (w w' : World) : Nat → Prop := fun i => X i ∨ (w.heap.size ≤ i ∧ i < w'.heap.size)
theorem Buf.wide {w : World} {X Y : Nat → Prop} {t : Nat} {most : Int} {l : List En} (h : Buf w X t most l) (h1 : ∀ i, X i → Y i) (h2 : ∀ i, Y i → i < w.heap.size) : Buf w Y t most l := by
  obtain ⟨v, h⟩ := h
  exact ⟨v, h.row, h.own, fun g hg => ⟨h1 _ (h.xg g hg).1, (h.xg g hg).2⟩, h1 _ h.xt, h2, h.ok⟩
theorem Buf.xp {w w' : World} {X : Nat → Prop} {t : Nat} {most : Int} {l l' : List En} (h0 : Buf w X t most l') (hs : w.heap.size ≤ w'.heap.size) (h : Buf w' X t most l) : Buf w' (Xp X w w') t most l := by
  obtain ⟨v, h0⟩ := h0
  refine h.wide (fun i hi => Or.inl hi) (fun i hi => ?_)
  rcases hi with hi | hi
  · exact Nat.lt_of_lt_of_le (h0.lt i hi) hs
  · exact hi.2
/-- Behind an append and the store of the new slice. -/
theorem BufV.push {w w1 w4 : World} {X : Nat → Prop} {t : Nat} {most : Int} {v : Value} {l : List En} {e : En} {g n cap : Nat} (h : BufV w X t most v l) (hB : Below w.heap.size w w1) (hgr : w1.grownBy w4 v.ownBlock) (ho : w4.ownsRow 0 107 10 (.slice (some ⟨g, 0, none⟩) n cap) (l ++ [e]).length (ecs (l ++ [e]))) (hat : v.ownBlock = some g ∨ g = w1.heap.size) (hg : g < w4.heap.size) (he : e.ok) :
    BufV (w4.setCell ⟨t, 1, none⟩ (.slice (some ⟨g, 0, none⟩) n cap)) (Xp X w w4) t most (.slice (some ⟨g, 0, none⟩) n cap) (l ++ [e]) ∧ Turn X w (w4.setCell ⟨t, 1, none⟩ (.slice (some ⟨g, 0, none⟩) n cap)) := by
  have htl := h.lt t h.xt
  have hrow : w4.heap[t]? = some (.cells #[.int .i64 most, v] 173 (0, 0)) := (hgr.block t (Nat.lt_of_lt_of_le htl hB.size) (fun c => (h.xg t c.symm).2 rfl)).trans (block_later hB h.row)
  have hgt : g ≠ t := by
    rcases hat with h1 | h1
    · exact (h.xg g h1).2
    · have := hB.size; omega
  have hgX : Xp X w w4 g := by
    rcases hat with h1 | h1
    · exact Or.inl (h.xg g h1).1
    · exact Or.inr ⟨by rw [h1]; exact hB.size, hg⟩
  rw [setCell_eq_setRow w4 t 1 _ _ _ _ hrow]
  refine ⟨⟨setRow_heap _ _ _ _ _ _ hrow, own_keep ho (fun g' hg' => ?_), fun g' hg' => ?_, Or.inl h.xt, fun i hi => ?_, fun x hx => ?_⟩, ?_⟩
  · cases hg'; exact setRow_other _ _ _ _ hgt
  · cases hg'; exact ⟨hgX, hgt⟩
  · show i < (w4.setRow t _).heap.size
    have hsz : (w4.setRow t #[Value.int .i64 most, .slice (some ⟨g, 0, none⟩) n cap]).heap.size = w4.heap.size := by simp
    have hsz' := hgr.size
    have hsz2 := hB.size
    rcases hi with hi | hi
    · have := h.lt i hi
      simp; omega
    · simp; omega
  · rcases List.mem_append.1 hx with h1 | h1
    · exact h.ok x h1
    · rw [List.mem_singleton.1 h1]; exact he
  · refine Turn.trans (X := X) (Y := fun i => i = t) ⟨hgr.os.trans hB.os, hgr.tape.trans hB.tape, hgr.output.trans hB.output, Nat.le_trans hB.size hgr.size, fun i hi hX => (hgr.block i (Nat.lt_of_lt_of_le hi hB.size) (fun c => hX (h.xg i c.symm).1)).trans (hB.block i hi)⟩ (turn_setRow _ _ _) (fun i _ hi => by rw [hi]; exact h.xt)

theorem Xp.mono {X : Nat → Prop} {w w1 w2 : World} (h : w1.heap.size ≤ w2.heap.size) : ∀ i, Xp X w w1 i → Xp X w w2 i := fun i hi => by
  rcases hi with hi | hi
  · exact Or.inl hi
  · exact Or.inr ⟨hi.1, Nat.lt_of_lt_of_le hi.2 h⟩
theorem Buf.xpm {X : Nat → Prop} {w w1 w2 : World} {t : Nat} {most : Int} {l : List En} (h : Buf w2 (Xp X w w1) t most l) (h0 : ∀ i, X i → i < w.heap.size) (h1 : w.heap.size ≤ w1.heap.size) (h2 : w1.heap.size ≤ w2.heap.size) : Buf w2 (Xp X w w2) t most l := by
  refine h.wide (Xp.mono h2) (fun i hi => ?_)
  rcases hi with hi | hi
  · have := h0 i hi; omega
  · exact hi.2
/-- As above, with a call ahead of the append. -/
theorem BufV.push2 {w w0 w1 w4 : World} {X : Nat → Prop} {t : Nat} {most : Int} {v : Value} {l : List En} {e : En} {g n cap : Nat} (h : BufV w X t most v l) (hA : Below w.heap.size w w0) (hB : Below w0.heap.size w0 w1) (hgr : w1.grownBy w4 v.ownBlock) (ho : w4.ownsRow 0 107 10 (.slice (some ⟨g, 0, none⟩) n cap) (l ++ [e]).length (ecs (l ++ [e]))) (hat : v.ownBlock = some g ∨ g = w0.heap.size + 1) (hsz : w1.heap.size = w0.heap.size + 1) (hg : g < w4.heap.size) (he : e.ok) :
    BufV (w4.setCell ⟨t, 1, none⟩ (.slice (some ⟨g, 0, none⟩) n cap)) (Xp X w w4) t most (.slice (some ⟨g, 0, none⟩) n cap) (l ++ [e]) ∧ Turn X w (w4.setCell ⟨t, 1, none⟩ (.slice (some ⟨g, 0, none⟩) n cap)) ∧ (w4.setCell ⟨t, 1, none⟩ (.slice (some ⟨g, 0, none⟩) n cap)).heap.size = w4.heap.size :=
  have h1 := h.push (below_tr hA hB) hgr ho (hat.imp id (fun e => by rw [hsz]; exact e)) hg he
  ⟨h1.1, h1.2, by simp⟩

set_option maxHeartbeats 8000000 in
set_option maxRecDepth 100000 in
theorem fill_c {w : World} {X : Nat → Prop} {t : Nat} {most : Int} {l : List En} (e : En) (he : e.ok) (h : Buf w X t most l) (hn : l.length ≤ 999) (hF : Flds w) :
    Calls Tryz.prog 94 #[.pointer (some ⟨t, 0, none⟩), e.v] w fun r w' => r = .returned (.int .i64 (fillN e)) ∧ Buf w' (Xp X w w') t most (fillL l most e) ∧ Turn X w w' := by
  have hR := fun w1 h1 => rightE_any e he w1 h1
  have HF := Hid.mk hF
  obtain ⟨v, h⟩ := h
  obtain ⟨ad, cap, hv, hf, hr⟩ := h.form
  have HH := Hid.mk h
  have HRD := Hid.mk hr
  have hlI : (l.length : Int) ≤ 999 := by omega
  have hC := fun w1 h1 => contains_c l e ad cap w1 (by omega) h1
  have HN : Hid (fillN e = if rightE e = true then 0 else 10) := rfl
  have HL : Hid (fillL l most e = if rightE e = true then (if memB e l = true then l else if most < (l.length : Int) + 1 then (l ++ [e]).eraseIdx 0 else l ++ [e]) else l) := rfl
  have HEC : Hid (e.cs = e.cs) := rfl
  have HEOK := Hid.mk he
  have HLN := Hid.mk hn
  clear hF h hr hf
  generalize fillN e = FN at *
  generalize fillL l most e = FL at *
  cases hRe : rightE e
  · rw [hRe, if_neg (by decide)] at HN HL
    rw [hRe] at hR
    clear hRe hC hn
    obtain ⟨a0, a1, a2, a3, a4, a5, a6, a7, a8, a9⟩ := e
    simp only [En.v] at *
    go_enter Tryz.func94, Tryz.ntmps94
    go_wp2_with fail
    refine (hR _ (HF.out.alloc _)).mono ?_
    rintro e w1 ⟨rfl, hb⟩
    go_wp2
    go_ret
    have hB := below_tr (below_new w (.cells #[.int .i64 a0, .int .u64 a1, .int .i64 a2, .int .i64 a3, .int .u64 a4, .bool a5, .bool a6, .bool a7, .bool a8, .int .i64 a9] 107)) hb
    rw [HN.out, HL.out]
    exact ⟨rfl, Buf.xp ⟨v, HH.out⟩ hB.size ⟨v, HH.out.later hB⟩, turn_of_below _ hB⟩
  · rw [hRe, if_pos rfl] at HN HL
    rw [hRe] at hR
    by_cases hmem : e ∈ l
    · rw [if_pos (memB_true hmem)] at HL
      rw [memB_true hmem] at hC
      clear hRe hmem hn
      obtain ⟨a0, a1, a2, a3, a4, a5, a6, a7, a8, a9⟩ := e
      simp only [En.v] at *
      subst hv
      go_enter Tryz.func94, Tryz.ntmps94
      go_wp2_with fail
      refine (hR _ (HF.out.alloc _)).mono ?_
      rintro e w1 ⟨rfl, hb⟩
      have HB := Hid.mk (below_tr (below_new w (.cells #[.int .i64 a0, .int .u64 a1, .int .i64 a2, .int .i64 a3, .int .u64 a4, .bool a5, .bool a6, .bool a7, .bool a8, .int .i64 a9] 107)) hb)
      have hK := block_later hb (heap_alloc_new w (.cells #[.int .i64 a0, .int .u64 a1, .int .i64 a2, .int .i64 a3, .int .u64 a4, .bool a5, .bool a6, .bool a7, .bool a8, .int .i64 a9] 107))
      obtain ⟨q0, q1, q2, q3, q4, q5, q6, q7, q8, q9⟩ := cells10 hK
      obtain ⟨c0, c1⟩ := row2c (block_later HB.out HH.out.row)
      clear hb hR hK
      go_wp2
      first | (go_region_with (go_at_call 133; refine (hC _ (HRD.out.later (below_tr HB.out (Below.refl _ _).drew))).mono ?_; rintro e w' ⟨rfl, hb2⟩)) | fail
      all_goals go_wp2
      all_goals go_ret
      all_goals
        have hB := below_tr (below_tr HB.out (Below.refl _ _).drew) hb2
        rw [HN.out, HL.out]
        exact ⟨rfl, Buf.xp ⟨_, HH.out⟩ hB.size ⟨_, HH.out.later hB⟩, turn_of_below _ hB⟩
    · rw [if_neg (by rw [memB_false hmem]; decide)] at HL
      rw [memB_false hmem] at hC
      clear hRe hmem hn
      have HE := Hid.mk (rfl : e = e)
      obtain ⟨f, hf⟩ : ∃ f : En, f = e := ⟨_, rfl⟩
      rw [← hf] at hR hC HEOK HL ⊢
      clear HE HEC he hf
      subst hv
      obtain ⟨a0, a1, a2, a3, a4, a5, a6, a7, a8, a9⟩ := f
      simp only [En.v] at *
      go_enter Tryz.func94, Tryz.ntmps94
      go_wp2_with fail
      refine (hR _ (HF.out.alloc _)).mono ?_
      rintro e w1 ⟨rfl, hb⟩
      have HB := Hid.mk (below_tr (below_new w (.cells #[.int .i64 a0, .int .u64 a1, .int .i64 a2, .int .i64 a3, .int .u64 a4, .bool a5, .bool a6, .bool a7, .bool a8, .int .i64 a9] 107)) hb)
      have hK := block_later hb (heap_alloc_new w (.cells #[.int .i64 a0, .int .u64 a1, .int .i64 a2, .int .i64 a3, .int .u64 a4, .bool a5, .bool a6, .bool a7, .bool a8, .int .i64 a9] 107))
      obtain ⟨q0, q1, q2, q3, q4, q5, q6, q7, q8, q9⟩ := cells10 hK
      obtain ⟨c0, c1⟩ := row2c (block_later HB.out HH.out.row)
      have HK := Hid.mk hK
      clear hb hR hK
      go_wp2
      first | (go_region_with (go_at_call 133; refine (hC _ (HRD.out.later (below_tr HB.out (Below.refl _ _).drew))).mono ?_; rintro e w' ⟨rfl, hb2⟩)) | fail
      all_goals
        have HB3 := Hid.mk (below_tr (below_tr HB.out (Below.refl _ _).drew) hb2)
        have K3 := Hid.mk (block_later (below_tr (Below.refl _ _).drew hb2) HK.out)
        clear q0 q1 q2 q3 q4 q5 q6 q7 q8 q9 c0 c1 hb2 HB HK hC
        have HV3 := Hid.mk (HH.out.later HB3.out)
        obtain ⟨q0, q1, q2, q3, q4, q5, q6, q7, q8, q9⟩ := cells10 K3.out
        obtain ⟨c0, c1⟩ := row2c HV3.out.row
        have HLT := Hid.mk (HV3.out.lt t HV3.out.xt)
        have c1a := fun ob => cell_later (below_new w' ob) c1
        clear K3
        go_wp2
        go_region_law
          ((refine step_appE etyT _ (by rfl) _ _ (by rfl) 0 (.slice ad l.length cap) l (by rfl) ((World.ownsRow.alloc HV3.out.own _).drew) [⟨a0, a1, a2, a3, a4, a5, a6, a7, a8, a9⟩] ⟨w'.heap.size, 0, none⟩ 1 (by rfl) (fun j u hu => World.news_of_block (cs := #[.int .i64 a0, .int .u64 a1, .int .i64 a2, .int .i64 a3, .int .u64 a4, .bool a5, .bool a6, .bool a7, .bool a8, .int .i64 a9]) (t := 107) (fr := (0, 0)) (heap_alloc_new w' _) j u hu) Nat.zero_lt_one (by have := HLN.out; show l.length + 1 ≤ 100000; omega) (Nat.zero_le _) (w'.heap.size + 1) (by simp) ?_
            intro g cap2 w4 hown4 hgrow hat hlt
            have k3 := (hgrow.cell_far ⟨t, 1, none⟩ (by have := HLT.out; show t < (w'.heap.push _).size; simp; omega) (fun c => (HV3.out.xg t c.symm).2 rfl)).trans (c1a _)
            have j3 := (hgrow.frozen_far ⟨t, 1, none⟩ (by have := HLT.out; show t < (w'.heap.push _).size; simp; omega) (fun c => (HV3.out.xg t c.symm).2 rfl)).trans (frozen_of_row _ _ _ _ _ (block_later (below_new w' _).drew HV3.out.row))))
        all_goals
          have HP := Hid.mk (HH.out.push2 HB3.out (below_new w' _).drew hgrow (show w4.ownsRow 0 107 10 (.slice (some ⟨g, 0, none⟩) (l.length + 1) cap2) _ _ from hown4) hat (by simp) hlt HEOK.out)
          have HX0 := Hid.mk HH.out.lt
          have HSZ := Hid.mk (Nat.le_trans HB3.out.size (Nat.le_trans (below_new w' (.cells #[.int .i64 a0, .int .u64 a1, .int .i64 a2, .int .i64 a3, .int .u64 a4, .bool a5, .bool a6, .bool a7, .bool a8, .int .i64 a9] 107)).size hgrow.size))
          clear hgrow hown4 hat hlt k3 j3 c1a HV3 HB3 HLT q0 q1 q2 q3 q4 q5 q6 q7 q8 q9 c0 c1 HH HRD HF
          generalize w4.setCell ⟨t, 1, none⟩ (.slice (some ⟨g, 0, none⟩) (l.length + 1) cap2) = w5 at *
          obtain ⟨c0, c1⟩ := row2c HP.out.1.row
          by_cases hmo : most < (l.length : Int) + 1
          · rw [if_pos hmo] at HL
            have hDr := fun W (hW : Buf W (Xp X w w4) t most (l ++ [⟨a0, a1, a2, a3, a4, a5, a6, a7, a8, a9⟩])) => drop_yes hW 0 (by simp) (by have := HLN.out; simp; omega)
            have HDR := Hid.mk hDr
            clear hDr
            go_wp2
            go_quiet (fail)
            go_wp2_with fail
            refine (HDR.out _ (Buf.later ⟨_, HP.out.1⟩ (below_dN (Below.refl _ _) _))).mono ?_
            rintro e w6 ⟨rfl, hBf, hTu⟩
            clear HDR c0 c1
            go_wp2
            go_ret
            rw [HN.out, HL.out]
            refine ⟨rfl, hBf.xpm HX0.out HSZ.out ?_, (turn_b HP.out.2.1 (below_dN (Below.refl _ _) _)).trans hTu (fun i hi hx => ?_)⟩
            · exact Nat.le_trans (Nat.le_of_eq HP.out.2.2.symm) hTu.size
            · rcases hx with hx | hx
              · exact hx
              · omega
          · rw [if_neg hmo] at HL
            go_wp2
            go_quiet (fail)
            go_wp2
            go_ret
            rw [HN.out, HL.out]
            exact ⟨rfl, (Buf.later ⟨_, HP.out.1⟩ (below_dN (Below.refl _ _) _)).xpm HX0.out HSZ.out (Nat.le_of_eq HP.out.2.2.symm), turn_b HP.out.2.1 (below_dN (Below.refl _ _) _)⟩

end Go.Proofs.YtndjhedoandinaaGreatDoor.TB
