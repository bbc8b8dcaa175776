/- P09 -/
import Derived.Deep.AppendLies
import Derived.Laws.StructEq
import Derived.Lib.SliceRun
import Derived.Test.YtfdbdeckohaneaaGreatDoorP07
import Derived.Test.YtfdbdeckohaneaaGreatDoorP08
set_option maxHeartbeats 16000000
set_option maxRecDepth 100000
namespace Go.Proofs.YtfdbdeckohaneaaGreatDoor.TR
open Go.RowKit
structure En where
 aid : Int
 va : Nat
 lv : Int
 tb : Nat
def En.cs (e : En) : List Value := [.int .i64 e.aid, .int .u64 (e.va : Int), .int .i64 e.lv, .int .u64 (e.tb : Int)]
abbrev En.v (e : En) : Value := .agg #[.int .i64 e.aid, .int .u64 (e.va : Int), .int .i64 e.lv, .int .u64 (e.tb : Int)]
def En.ok (e : En) : Prop := e.va < 18446744073709551616 ∧ e.tb < 18446744073709551616
def e0 : En := ⟨0, 0, 0, 0⟩
def eqB (e f : En) : Bool := e.aid == f.aid && (e.va == f.va && (e.lv == f.lv && e.tb == f.tb))
theorem qef {e f : En} : eqB e f = true ↔ e = f := by
 obtain ⟨a0, a1, a2, a3⟩ := e
 obtain ⟨b0, b1, b2, b3⟩ := f
 unfold eqB
 simp only [Bool.and_eq_true, beq_iff_eq, En.mk.injEq]
theorem qdn {e f : En} (h : e = f) : eqB e f = true := qef.2 h
theorem qdy {e f : En} (h : ¬ e = f) : eqB e f = false := by
 cases h1 : eqB e f
 ·rfl
 ·exact absurd (qef.1 h1) h
theorem eqB_comm (e f : En) : eqB e f = eqB f e := by
 rw [Bool.eq_iff_iff, qef, qef]
 exact eq_comm
def memB (e : En) (l : List En) : Bool := l.any (eqB e)
theorem qdj {e : En} {l : List En} : memB e l = true ↔ e ∈ l := by
 unfold memB
 rw [List.any_eq_true]
 constructor
 ·rintro ⟨x, hx, h⟩
  rw [qef.1 h]; exact hx
 ·intro h
  exact ⟨e, h, qdn rfl⟩
theorem qdc {e : En} {l : List En} (h : e ∈ l) : memB e l = true := qdj.2 h
theorem qew {e : En} {l : List En} (h : ¬ e ∈ l) : memB e l = false := by
 cases h1 : memB e l
 ·rfl
 ·exact absurd (qdj.1 h1) h
def gE (l : List En) (i : Nat) : En := l.getD i e0
theorem qbp (l : List En) (i : Nat) (h : i < l.length) : gE l i = l[i] := by
 unfold gE
 rw [List.getD_eq_getElem?_getD, List.getElem?_eq_getElem h]; rfl
theorem gE_mem (l : List En) (i : Nat) (h : i < l.length) : gE l i ∈ l := by rw [qbp l i h]; exact List.getElem_mem h
theorem En.len (e : En) : e.cs.length = 4 := rfl
theorem En.one (e : En) : ∀ u ∈ e.cs, u.oneCell' = true := by
 intro u hu
 simp only [En.cs, List.mem_cons, List.not_mem_nil, or_false] at hu
 rcases hu with rfl | rfl | rfl | rfl <;> rfl
def ecs : List En → List Value
 | [] => []
 | e :: l => e.cs ++ ecs l
theorem qed (l m : List En) : ecs (l ++ m) = ecs l ++ ecs m := by
 induction l with
 | nil => rfl
 | cons e l ih => show e.cs ++ ecs (l ++ m) = _; rw [ih]; exact (List.append_assoc ..).symm
theorem qau (l : List En) : (ecs l).length = l.length * 4 := by
 induction l with
 | nil => rfl
 | cons e l ih => show (e.cs ++ ecs l).length = _; rw [List.length_append, ih, En.len, List.length_cons]; omega
theorem qfg (l : List En) : ∀ u ∈ ecs l, u.oneCell' = true := by
 induction l with
 | nil => intro u hu; cases hu
 | cons e l ih =>
  intro u hu
  rcases List.mem_append.1 hu with h | h
  ·exact e.one u h
  ·exact ih u h
theorem qel (l : List En) (i j : Nat) (hj : j < 4) (hi : i < l.length) : (ecs l)[i * 4 + j]? = ((gE l i)).cs[j]? := by
 induction l generalizing i with
 | nil => simp at hi
 | cons e l ih =>
  cases i with
  | zero =>
   show (e.cs ++ ecs l)[0 * 4 + j]? = _
   rw [List.getElem?_append_left (by rw [En.len]; omega), Nat.zero_mul, Nat.zero_add]
   rfl
  | succ i =>
   show (e.cs ++ ecs l)[(i + 1) * 4 + j]? = _
   rw [List.getElem?_append_right (by rw [En.len]; omega), En.len, show (i + 1) * 4 + j - 4 = i * 4 + j by omega, ih i (by simpa using hi)]
   rfl
theorem qfq (l : List En) (n : Nat) : (ecs l).take (n * 4) = ecs (l.take n) := by
 induction l generalizing n with
 | nil => simp [ecs]
 | cons e l ih =>
  cases n with
  | zero => simp [ecs]
  | succ n =>
   show (e.cs ++ ecs l).take ((n + 1) * 4) = e.cs ++ ecs (l.take n)
   rw [List.take_append, En.len, show (n + 1) * 4 - 4 = n * 4 by omega, ih, List.take_of_length_le (by rw [En.len]; omega)]
theorem ecs_drop (l : List En) (n : Nat) : (ecs l).drop (n * 4) = ecs (l.drop n) := by
 induction l generalizing n with
 | nil => simp [ecs]
 | cons e l ih =>
  cases n with
  | zero => simp
  | succ n =>
   show (e.cs ++ ecs l).drop ((n + 1) * 4) = ecs (l.drop n)
   rw [List.drop_append, En.len, show (n + 1) * 4 - 4 = n * 4 by omega, ih, List.drop_eq_nil_of_le (by rw [En.len]; omega)]
   rfl
def RdA (w : World) (ad : Option Addr) (l : List En) : Prop :=
 ∀ i, i < l.length → ∃ g o, ad = some ⟨g, o, none⟩ ∧ g < w.heap.size ∧ ∀ j u, ((gE l i)).cs[j]? = some u → w.cell? ⟨g, o + i * 4 + j, none⟩ = some u
def notIn (X : Nat → Prop) (ad : Option Addr) : Prop := ∀ a, ad = some a → ¬ X a.block
theorem RdA.kept {w w' : World} {ad : Option Addr} {l : List En} (h : RdA w ad l) (hs : w.heap.size ≤ w'.heap.size) (hb : ∀ a, ad = some a → a.block < w.heap.size → w'.heap[a.block]? = w.heap[a.block]?) : RdA w' ad l := fun i hi => by
 obtain ⟨g, o, rfl, hg, hc⟩ := h i hi
 exact ⟨g, o, rfl, Nat.lt_of_lt_of_le hg hs, fun j u hu => (World.cell?_of_block (a := ⟨g, o + i * 4 + j, none⟩) (hb ⟨g, o, none⟩ rfl hg)).trans (hc j u hu)⟩
theorem RdA.later {w w' : World} {ad : Option Addr} {l : List En} (h : RdA w ad l) (hb : Below w.heap.size w w') : RdA w' ad l :=
 h.kept hb.size (fun _ _ hlt => hb.block _ hlt)
theorem RdA.turn {w w' : World} {X : Nat → Prop} {ad : Option Addr} {l : List En} (h : RdA w ad l) (ht : Turn X w w') (hn : notIn X ad) : RdA w' ad l :=
 h.kept ht.size (fun a e hlt => ht.block _ hlt (hn a e))
theorem RdA.nil (w : World) (ad : Option Addr) : RdA w ad [] := fun _ hi => absurd hi (Nat.not_lt_zero _)
theorem RdA.drop {w : World} {g o : Nat} {l : List En} (h : RdA w (some ⟨g, o, none⟩) l) (n : Nat) : RdA w (some ⟨g, o + n * 4, none⟩) (l.drop n) := fun i hi => by
 have h1 : n + i < l.length := by simp at hi; omega
 obtain ⟨g', o', e, hg, hc⟩ := h (n + i) h1
 cases e
 refine ⟨g, o + n * 4, rfl, hg, fun j u hu => ?_⟩
 rw [show o + n * 4 + i * 4 + j = o + (n + i) * 4 + j by omega]
 have e1 : (gE (l.drop n) i) = (gE l (n + i)) := by rw [qbp (l.drop n) i hi, qbp l (n + i) h1, List.getElem_drop]
 exact hc j u (by rw [← e1]; exact hu)
theorem RdA.cells {w : World} {g o : Nat} {l : List En} (h : RdA w (some ⟨g, o, none⟩) l) : ∀ j u, (ecs l)[j]? = some u → w.cell? ((⟨g, o, none⟩ : Addr).add j) = some u := by
 intro j u hu
 have hj : j < l.length * 4 := by rw [← qau]; exact (List.getElem?_eq_some_iff.1 hu).1
 have e : j = j / 4 * 4 + j % 4 := by omega
 obtain ⟨g', o', e1, hg, hc⟩ := h (j / 4) (by omega)
 cases e1
 rw [e, qel l _ _ (by omega) (by omega)] at hu
 have := hc _ _ hu
 rw [Addr.add_lit]
 rwa [show o + j / 4 * 4 + j % 4 = o + j by omega] at this
theorem own_rd {w : World} {base : Nat} {T : TypeId} {v : Value} {l : List En} (h : w.ownsRow base T 4 v l.length (ecs l)) : ∃ ad cap, v = .slice ad l.length cap ∧ RdA w ad l ∧ (∀ a, ad = some a → base ≤ a.block ∧ a.block < w.heap.size) := by
 have hl := h.lt
 rcases h.2 with ⟨rfl, h0⟩ | ⟨g, cap, cur, rfl, hb, hg, hr⟩
 ·exact ⟨none, 0, by rw [h0], fun i hi => by omega, fun a ha => by cases ha⟩
 ·refine ⟨some ⟨g, 0, none⟩, cap, rfl, fun i hi => ⟨g, 0, rfl, (hl g rfl).2, fun j u hu => ?_⟩, fun a ha => by cases ha; exact hl g rfl⟩
  have hj : j < 4 := by rw [← ((gE l i)).len]; exact (List.getElem?_eq_some_iff.1 hu).1
  have := h.cells rfl (i * 4 + j) u (by rw [qel l i j hj hi]; exact hu)
  rw [Addr.add_lit] at this
  rwa [show 0 + i * 4 + j = 0 + (i * 4 + j) by omega]
theorem qca {w1 : World} {g t : Nat} {c0 c1 c2 c3 : Value} (hh : w1.heap[g]? = some (.cells #[c0, c1, c2, c3] t (0, 0))) :
  w1.cell? ⟨g, 0, none⟩ = some c0 ∧ w1.cell? ⟨g, 1, none⟩ = some c1 ∧ w1.cell? ⟨g, 2, none⟩ = some c2 ∧ w1.cell? ⟨g, 3, none⟩ = some c3 := by
 refine ⟨?_, ?_, ?_, ?_⟩
 all_goals (rw [cell_of_row _ _ _ _ _ _ hh]; rfl)
theorem qax {P : Program} {fn : Func} {p u : Tmp} {ty : TypeId} (h : fn.results = #[.cell p ty, .tmp u]) (tmps : Array Value) (w : World) (g : Nat) (t : TypeId) (cs : Array Value) (fr : Nat × Nat) (d : TypeDesc)
  (hp : tmps.getD p undef = .pointer (some ⟨g, 0, none⟩)) (hg : w.heap[g]? = some (.cells cs t fr))
  (hu : P.underlying ty = some d) (hd : (match d with | .struct _ | .array _ _ => true | _ => false) = true) (hi : (P.info? ty).map (·.size) = some cs.size) :
  (results fn tmps).run P w = .ok (.tuple #[.agg cs, tmps.getD u undef]) w := by
 rw [results_cell_tmp h, hp]
 simp [asAddr, run_loadVar_row w g t ty cs fr d hg hu hd hi, Result.andThen]
theorem eq_ways {e f : En} (h : e ≠ f) : e.aid ≠ f.aid ∨ e.aid = f.aid ∧ (e.va ≠ f.va ∨ e.va = f.va ∧ (e.lv ≠ f.lv ∨ e.lv = f.lv ∧ e.tb ≠ f.tb)) := by
 obtain ⟨a0, a1, a2, a3⟩ := e
 obtain ⟨b0, b1, b2, b3⟩ := f
 simp only [Ne, En.mk.injEq] at h ⊢
 by_cases h0 : a0 = b0
 ·refine Or.inr ⟨h0, ?_⟩; subst h0
  by_cases h1 : a1 = b1
  ·refine Or.inr ⟨h1, ?_⟩; subst h1
   by_cases h2 : a2 = b2
   ·refine Or.inr ⟨h2, ?_⟩; subst h2
    exact fun h3 => h ⟨rfl, rfl, rfl, h3⟩
   ·exact Or.inl h2
  ·exact Or.inl h1
 ·exact Or.inl h0
theorem zP09x01 {Z : Prop} (z : Z := by
 by_cases h : e = f
 ·subst h
  rw [qdn rfl]
  obtain ⟨a0, a1, a2, a3⟩ := e
  go_simp
 ·rw [qdy h]
  have hw := eq_ways h
  clear h
  obtain ⟨a0, a1, a2, a3⟩ := e
  obtain ⟨b0, b1, b2, b3⟩ := f
  simp only at hw
  rcases hw with h | ⟨rfl, h | ⟨rfl, h | ⟨rfl, h⟩⟩⟩
  all_goals (go_simp <;> simp_all <;> (intro hq; omega))) : Z := z
theorem eqT (e f : En) (w : World) : (binOp .eql 96 e.v f.v).run Tryz.prog w = .ok (.bool (eqB e f)) w := by
 exact zP09x01
theorem eqR (e f : En) (w : World) : (binOp .eql 97 e.v f.v).run Tryz.prog w = .ok (.bool (eqB e f)) w := by
 exact zP09x01
end Go.Proofs.YtfdbdeckohaneaaGreatDoor.TR
