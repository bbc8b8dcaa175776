/- Entries of a buffer, in plain Lean and in memory: what one holds, lists of them, rows. -/
import Derived.Test.YthebhgllnjgjhaaDoorVirtD
import Derived.Test.YthebhgllnjgjhaaDoorSegs
import Derived.Deep.AppendLies
import Derived.Laws.StructEq
import Derived.Laws.ResultCell
import Derived.Lib.SliceRun
namespace Go.Proofs.YthebhgllnjgjhaaDoor
open Go.RowKit

/-- An entry: ASID, address, level, and the seven parts of a descriptor. -/
structure En where
  aid : Int
  va : Nat
  lv : Int
  k : Int
  o : Nat
  u : Bool
  r : Bool
  x : Bool
  s : Bool
  a : Int

def En.cs (e : En) : List Value := [.int .i64 e.aid, .int .u64 (e.va : Int), .int .i64 e.lv, .int .i64 e.k, .int .u64 (e.o : Int), .bool e.u, .bool e.r, .bool e.x, .bool e.s, .int .i64 e.a]
abbrev En.v (e : En) : Value := .agg #[.int .i64 e.aid, .int .u64 (e.va : Int), .int .i64 e.lv, .int .i64 e.k, .int .u64 (e.o : Int), .bool e.u, .bool e.r, .bool e.x, .bool e.s, .int .i64 e.a]
/-- Its two words are words. -/
def En.ok (e : En) : Prop := e.va < 18446744073709551616 ∧ e.o < 18446744073709551616
def e0 : En := ⟨0, 0, 0, 0, 0, false, false, false, false, 0⟩
/-- Two entries, held against one another; a list's entry at a place. -/
def eqB (e f : En) : Bool := e.aid == f.aid && (e.va == f.va && (e.lv == f.lv && (e.k == f.k && (e.o == f.o && (e.u == f.u && (e.r == f.r && (e.x == f.x && (e.s == f.s && e.a == f.a))))))))
theorem eqB_iff {e f : En} : eqB e f = true ↔ e = f := by
  obtain ⟨a0, a1, a2, a3, a4, a5, a6, a7, a8, a9⟩ := e
  obtain ⟨b0, b1, b2, b3, b4, b5, b6, b7, b8, b9⟩ := f
  unfold eqB
  simp only [Bool.and_eq_true, beq_iff_eq, En.mk.injEq]
theorem eqB_true {e f : En} (h : e = f) : eqB e f = true := eqB_iff.2 h
theorem eqB_false {e f : En} (h : ¬ e = f) : eqB e f = false := by
  cases h1 : eqB e f
  · rfl
  · exact absurd (eqB_iff.1 h1) h
theorem eqB_comm (e f : En) : eqB e f = eqB f e := by
  rw [Bool.eq_iff_iff, eqB_iff, eqB_iff]
  exact eq_comm
def memB (e : En) (l : List En) : Bool := l.any (eqB e)
theorem memB_iff {e : En} {l : List En} : memB e l = true ↔ e ∈ l := by
  unfold memB
  rw [List.any_eq_true]
  constructor
  · rintro ⟨x, hx, h⟩
    rw [eqB_iff.1 h]; exact hx
  · intro h
    exact ⟨e, h, eqB_true rfl⟩
theorem memB_true {e : En} {l : List En} (h : e ∈ l) : memB e l = true := memB_iff.2 h
theorem memB_false {e : En} {l : List En} (h : ¬ e ∈ l) : memB e l = false := by
  cases h1 : memB e l
  · rfl
  · exact absurd (memB_iff.1 h1) h
def gE (l : List En) (i : Nat) : En := l.getD i e0
theorem gE_pos (l : List En) (i : Nat) (h : i < l.length) : gE l i = l[i] := by
  unfold gE
  rw [List.getD_eq_getElem?_getD, List.getElem?_eq_getElem h]; rfl
theorem e0_ok : e0.ok := ⟨by decide, by decide⟩
theorem En.len (e : En) : e.cs.length = 10 := rfl
theorem En.one (e : En) : ∀ u ∈ e.cs, u.oneCell' = true := by
  intro u hu
  simp only [En.cs, List.mem_cons, List.not_mem_nil, or_false] at hu
  rcases hu with rfl | rfl | rfl | rfl | rfl | rfl | rfl | rfl | rfl | rfl <;> rfl

/-- The cells of a list of entries. -/
def ecs : List En → List Value
  | [] => []
  | e :: l => e.cs ++ ecs l
theorem ecs_app (l m : List En) : ecs (l ++ m) = ecs l ++ ecs m := by
  induction l with
  | nil => rfl
  | cons e l ih => show e.cs ++ ecs (l ++ m) = _; rw [ih]; exact (List.append_assoc ..).symm
theorem ecs_len (l : List En) : (ecs l).length = l.length * 10 := by
  induction l with
  | nil => rfl
  | cons e l ih => show (e.cs ++ ecs l).length = _; rw [List.length_append, ih, En.len, List.length_cons]; omega
theorem ecs_one (l : List En) : ∀ u ∈ ecs l, u.oneCell' = true := by
  induction l with
  | nil => intro u hu; cases hu
  | cons e l ih =>
    intro u hu
    rcases List.mem_append.1 hu with h | h
    · exact e.one u h
    · exact ih u h
theorem ecs_get (l : List En) (i j : Nat) (hj : j < 10) (hi : i < l.length) : (ecs l)[i * 10 + j]? = ((gE l i)).cs[j]? := by
  induction l generalizing i with
  | nil => simp at hi
  | cons e l ih =>
    cases i with
    | zero =>
      show (e.cs ++ ecs l)[0 * 10 + j]? = _
      rw [List.getElem?_append_left (by rw [En.len]; omega), Nat.zero_mul, Nat.zero_add]
      rfl
    | succ i =>
      show (e.cs ++ ecs l)[(i + 1) * 10 + j]? = _
      rw [List.getElem?_append_right (by rw [En.len]; omega), En.len, show (i + 1) * 10 + j - 10 = i * 10 + j by omega, ih i (by simpa using hi)]
      rfl
theorem ecs_take (l : List En) (n : Nat) : (ecs l).take (n * 10) = ecs (l.take n) := by
  induction l generalizing n with
  | nil => simp [ecs]
  | cons e l ih =>
    cases n with
    | zero => simp [ecs]
    | succ n =>
      show (e.cs ++ ecs l).take ((n + 1) * 10) = e.cs ++ ecs (l.take n)
      rw [List.take_append, En.len, show (n + 1) * 10 - 10 = n * 10 by omega, ih, List.take_of_length_le (by rw [En.len]; omega)]
theorem ecs_drop (l : List En) (n : Nat) : (ecs l).drop (n * 10) = ecs (l.drop n) := by
  induction l generalizing n with
  | nil => simp [ecs]
  | cons e l ih =>
    cases n with
    | zero => simp
    | succ n =>
      show (e.cs ++ ecs l).drop ((n + 1) * 10) = ecs (l.drop n)
      rw [List.drop_append, En.len, show (n + 1) * 10 - 10 = n * 10 by omega, ih, List.drop_eq_nil_of_le (by rw [En.len]; omega)]
      rfl

/-- A slice of entries, to read: where it lies, if it has any. -/
def RdA (w : World) (ad : Option Addr) (l : List En) : Prop :=
  ∀ i, i < l.length → ∃ g o, ad = some ⟨g, o, none⟩ ∧ g < w.heap.size ∧ ∀ j u, ((gE l i)).cs[j]? = some u → w.cell? ⟨g, o + i * 10 + j, none⟩ = some u
def notIn (X : Nat → Prop) (ad : Option Addr) : Prop := ∀ a, ad = some a → ¬ X a.block
theorem RdA.kept {w w' : World} {ad : Option Addr} {l : List En} (h : RdA w ad l) (hs : w.heap.size ≤ w'.heap.size) (hb : ∀ a, ad = some a → a.block < w.heap.size → w'.heap[a.block]? = w.heap[a.block]?) : RdA w' ad l := fun i hi => by
  obtain ⟨g, o, rfl, hg, hc⟩ := h i hi
  exact ⟨g, o, rfl, Nat.lt_of_lt_of_le hg hs, fun j u hu => (World.cell?_of_block (a := ⟨g, o + i * 10 + j, none⟩) (hb ⟨g, o, none⟩ rfl hg)).trans (hc j u hu)⟩
theorem RdA.later {w w' : World} {ad : Option Addr} {l : List En} (h : RdA w ad l) (hb : Below w.heap.size w w') : RdA w' ad l :=
  h.kept hb.size (fun _ _ hlt => hb.block _ hlt)
theorem RdA.turn {w w' : World} {X : Nat → Prop} {ad : Option Addr} {l : List En} (h : RdA w ad l) (ht : Turn X w w') (hn : notIn X ad) : RdA w' ad l :=
  h.kept ht.size (fun a e hlt => ht.block _ hlt (hn a e))
theorem RdA.nil (w : World) (ad : Option Addr) : RdA w ad [] := fun _ hi => absurd hi (Nat.not_lt_zero _)
theorem RdA.take {w : World} {ad : Option Addr} {l : List En} (h : RdA w ad l) (n : Nat) : RdA w ad (l.take n) := fun i hi => by
  have h1 : i < n ∧ i < l.length := by simpa [Nat.lt_min] using hi
  obtain ⟨g, o, e, hg, hc⟩ := h i h1.2
  have e1 : (gE (l.take n) i) = (gE l i) := by rw [gE_pos (l.take n) i hi, gE_pos l i h1.2, List.getElem_take]
  exact ⟨g, o, e, hg, fun j u hu => hc j u (by rw [← e1]; exact hu)⟩
theorem RdA.drop {w : World} {g o : Nat} {l : List En} (h : RdA w (some ⟨g, o, none⟩) l) (n : Nat) : RdA w (some ⟨g, o + n * 10, none⟩) (l.drop n) := fun i hi => by
  have h1 : n + i < l.length := by simp at hi; omega
  obtain ⟨g', o', e, hg, hc⟩ := h (n + i) h1
  cases e
  refine ⟨g, o + n * 10, rfl, hg, fun j u hu => ?_⟩
  rw [show o + n * 10 + i * 10 + j = o + (n + i) * 10 + j by omega]
  have e1 : (gE (l.drop n) i) = (gE l (n + i)) := by rw [gE_pos (l.drop n) i hi, gE_pos l (n + i) h1, List.getElem_drop]
  exact hc j u (by rw [← e1]; exact hu)
/-- The cells of a slice, one behind another. -/
theorem RdA.cells {w : World} {g o : Nat} {l : List En} (h : RdA w (some ⟨g, o, none⟩) l) : ∀ j u, (ecs l)[j]? = some u → w.cell? ((⟨g, o, none⟩ : Addr).add j) = some u := by
  intro j u hu
  have hj : j < l.length * 10 := by rw [← ecs_len]; exact (List.getElem?_eq_some_iff.1 hu).1
  have e : j = j / 10 * 10 + j % 10 := by omega
  obtain ⟨g', o', e1, hg, hc⟩ := h (j / 10) (by omega)
  cases e1
  rw [e, ecs_get l _ _ (by omega) (by omega)] at hu
  have := hc _ _ hu
  rw [Addr.add_lit]
  rwa [show o + j / 10 * 10 + j % 10 = o + j by omega] at this

/-- A row of the call's own, to read. -/
theorem own_rd {w : World} {base : Nat} {T : TypeId} {v : Value} {l : List En} (h : w.ownsRow base T 10 v l.length (ecs l)) : ∃ ad cap, v = .slice ad l.length cap ∧ RdA w ad l ∧ (∀ a, ad = some a → base ≤ a.block ∧ a.block < w.heap.size) := by
  have hl := h.lt
  rcases h.2 with ⟨rfl, h0⟩ | ⟨g, cap, cur, rfl, hb, hg, hr⟩
  · exact ⟨none, 0, by rw [h0], fun i hi => by omega, fun a ha => by cases ha⟩
  · refine ⟨some ⟨g, 0, none⟩, cap, rfl, fun i hi => ⟨g, 0, rfl, (hl g rfl).2, fun j u hu => ?_⟩, fun a ha => by cases ha; exact hl g rfl⟩
    have hj : j < 10 := by rw [← ((gE l i)).len]; exact (List.getElem?_eq_some_iff.1 hu).1
    have := h.cells rfl (i * 10 + j) u (by rw [ecs_get l i j hj hi]; exact hu)
    rw [Addr.add_lit] at this
    rwa [show 0 + i * 10 + j = 0 + (i * 10 + j) by omega]

/-- Ten cells. -/
theorem cells10 {w1 : World} {g t : Nat} {c0 c1 c2 c3 c4 c5 c6 c7 c8 c9 : Value} (hh : w1.heap[g]? = some (.cells #[c0, c1, c2, c3, c4, c5, c6, c7, c8, c9] t (0, 0))) :
    w1.cell? ⟨g, 0, none⟩ = some c0 ∧ w1.cell? ⟨g, 1, none⟩ = some c1 ∧ w1.cell? ⟨g, 2, none⟩ = some c2 ∧ w1.cell? ⟨g, 3, none⟩ = some c3 ∧ w1.cell? ⟨g, 4, none⟩ = some c4 ∧ w1.cell? ⟨g, 5, none⟩ = some c5 ∧ w1.cell? ⟨g, 6, none⟩ = some c6 ∧ w1.cell? ⟨g, 7, none⟩ = some c7 ∧ w1.cell? ⟨g, 8, none⟩ = some c8 ∧ w1.cell? ⟨g, 9, none⟩ = some c9 := by
  refine ⟨?_, ?_, ?_, ?_, ?_, ?_, ?_, ?_, ?_, ?_⟩
  all_goals (rw [cell_of_row _ _ _ _ _ _ hh]; rfl)
theorem res_row_tmp {P : Program} {fn : Func} {p u : Tmp} {ty : TypeId} (h : fn.results = #[.cell p ty, .tmp u]) (tmps : Array Value) (w : World) (g : Nat) (t : TypeId) (cs : Array Value) (fr : Nat × Nat) (d : TypeDesc)
    (hp : tmps.getD p undef = .pointer (some ⟨g, 0, none⟩)) (hg : w.heap[g]? = some (.cells cs t fr))
    (hu : P.underlying ty = some d) (hd : (match d with | .struct _ | .array _ _ => true | _ => false) = true) (hi : (P.info? ty).map (·.size) = some cs.size) :
    (results fn tmps).run P w = .ok (.tuple #[.agg cs, tmps.getD u undef]) w := by
  rw [results_cell_tmp h, hp]
  simp [asAddr, run_loadVar_row w g t ty cs fr d hg hu hd hi, Result.andThen]

/-- Two integers, two truth values. -/
theorem eq_ways {e f : En} (h : e ≠ f) : e.aid ≠ f.aid ∨ e.aid = f.aid ∧ (e.va ≠ f.va ∨ e.va = f.va ∧ (e.lv ≠ f.lv ∨ e.lv = f.lv ∧ (e.k ≠ f.k ∨ e.k = f.k ∧ (e.o ≠ f.o ∨ e.o = f.o ∧ (e.u ≠ f.u ∨ e.u = f.u ∧ (e.r ≠ f.r ∨ e.r = f.r ∧ (e.x ≠ f.x ∨ e.x = f.x ∧ (e.s ≠ f.s ∨ e.s = f.s ∧ e.a ≠ f.a)))))))) := by
  obtain ⟨a0, a1, a2, a3, a4, a5, a6, a7, a8, a9⟩ := e
  obtain ⟨b0, b1, b2, b3, b4, b5, b6, b7, b8, b9⟩ := f
  simp only [Ne, En.mk.injEq] at h ⊢
  by_cases h0 : a0 = b0
  · refine Or.inr ⟨h0, ?_⟩; subst h0
    by_cases h1 : a1 = b1
    · refine Or.inr ⟨h1, ?_⟩; subst h1
      by_cases h2 : a2 = b2
      · refine Or.inr ⟨h2, ?_⟩; subst h2
        by_cases h3 : a3 = b3
        · refine Or.inr ⟨h3, ?_⟩; subst h3
          by_cases h4 : a4 = b4
          · refine Or.inr ⟨h4, ?_⟩; subst h4
            by_cases h5 : a5 = b5
            · refine Or.inr ⟨h5, ?_⟩; subst h5
              by_cases h6 : a6 = b6
              · refine Or.inr ⟨h6, ?_⟩; subst h6
                by_cases h7 : a7 = b7
                · refine Or.inr ⟨h7, ?_⟩; subst h7
                  by_cases h8 : a8 = b8
                  · refine Or.inr ⟨h8, ?_⟩; subst h8
                    exact fun h9 => h ⟨rfl, rfl, rfl, rfl, rfl, rfl, rfl, rfl, rfl, h9⟩
                  · exact Or.inl h8
                · exact Or.inl h7
              · exact Or.inl h6
            · exact Or.inl h5
          · exact Or.inl h4
        · exact Or.inl h3
      · exact Or.inl h2
    · exact Or.inl h1
  · exact Or.inl h0

/-- The program's '==' of two entries. -/
theorem eqT (e f : En) (w : World) : (binOp .eql 33 e.v f.v).run Tryd.prog w = .ok (.bool (eqB e f)) w := by
  by_cases h : e = f
  · subst h
    rw [eqB_true rfl]
    obtain ⟨a0, a1, a2, a3, a4, a5, a6, a7, a8, a9⟩ := e
    go_simp
  · rw [eqB_false h]
    have hw := eq_ways h
    clear h
    obtain ⟨a0, a1, a2, a3, a4, a5, a6, a7, a8, a9⟩ := e
    obtain ⟨b0, b1, b2, b3, b4, b5, b6, b7, b8, b9⟩ := f
    simp only at hw
    rcases hw with h | ⟨rfl, h | ⟨rfl, h | ⟨rfl, h | ⟨rfl, h | ⟨rfl, h | ⟨rfl, h | ⟨rfl, h | ⟨rfl, h | ⟨rfl, h⟩⟩⟩⟩⟩⟩⟩⟩⟩
    all_goals (go_simp <;> simp_all <;> (intro hq; omega))

/-- The document's '==' of two entries. -/
theorem eqR (e f : En) (w : World) : (binOp .eql 51 e.v f.v).run Tryd.prog w = .ok (.bool (eqB e f)) w := by
  by_cases h : e = f
  · subst h
    rw [eqB_true rfl]
    obtain ⟨a0, a1, a2, a3, a4, a5, a6, a7, a8, a9⟩ := e
    go_simp
  · rw [eqB_false h]
    have hw := eq_ways h
    clear h
    obtain ⟨a0, a1, a2, a3, a4, a5, a6, a7, a8, a9⟩ := e
    obtain ⟨b0, b1, b2, b3, b4, b5, b6, b7, b8, b9⟩ := f
    simp only at hw
    rcases hw with h | ⟨rfl, h | ⟨rfl, h | ⟨rfl, h | ⟨rfl, h | ⟨rfl, h | ⟨rfl, h | ⟨rfl, h | ⟨rfl, h | ⟨rfl, h⟩⟩⟩⟩⟩⟩⟩⟩⟩
    all_goals (go_simp <;> simp_all <;> (intro hq; omega))

end Go.Proofs.YthebhgllnjgjhaaDoor
