/- P18 -/
import Derived.Deep.AppendLies
import Derived.Laws.StructEq
import Derived.Lib.SliceRun
import Derived.Test.YtfdbdeckohaneaaGreatDoorP07
import Derived.Test.YtfdbdeckohaneaaGreatDoorP08
set_option maxHeartbeats 16000000
set_option maxRecDepth 100000
namespace Go.Proofs.YtfdbdeckohaneaaGreatDoor.TB
open Go.RowKit
structure En where
 aid : Int
 va : Nat
 lv : Int
 k : Int
 o : Nat
 u : Bool
 r : Bool
 x : Bool
 s : Bool
 a : Int
def En.cs (e : En) : List Value := [.int .i64 e.aid, .int .u64 (e.va : Int), .int .i64 e.lv, .int .i64 e.k, .int .u64 (e.o : Int), .bool e.u, .bool e.r, .bool e.x, .bool e.s, .int .i64 e.a]
abbrev En.v (e : En) : Value := .agg #[.int .i64 e.aid, .int .u64 (e.va : Int), .int .i64 e.lv, .int .i64 e.k, .int .u64 (e.o : Int), .bool e.u, .bool e.r, .bool e.x, .bool e.s, .int .i64 e.a]
def En.ok (e : En) : Prop := e.va < 18446744073709551616 ∧ e.o < 18446744073709551616
def e0 : En := ⟨0, 0, 0, 0, 0, false, false, false, false, 0⟩
def eqB (e f : En) : Bool := e.aid == f.aid && (e.va == f.va && (e.lv == f.lv && (e.k == f.k && (e.o == f.o && (e.u == f.u && (e.r == f.r && (e.x == f.x && (e.s == f.s && e.a == f.a))))))))
theorem qef {e f : En} : eqB e f = true ↔ e = f := by
 obtain ⟨a0, a1, a2, a3, a4, a5, a6, a7, a8, a9⟩ := e
 obtain ⟨b0, b1, b2, b3, b4, b5, b6, b7, b8, b9⟩ := f
 unfold eqB
 simp only [Bool.and_eq_true, beq_iff_eq, En.mk.injEq]
theorem qdn {e f : En} (h : e = f) : eqB e f = true := qef.2 h
theorem qdy {e f : En} (h : ¬ e = f) : eqB e f = false := by
 cases h1 : eqB e f
 ·rfl
 ·exact absurd (qef.1 h1) h
theorem eqB_comm (e f : En) : eqB e f = eqB f e := by
 rw [Bool.eq_iff_iff, qef, qef]
 exact eq_comm
def memB (e : En) (l : List En) : Bool := l.any (eqB e)
theorem qdj {e : En} {l : List En} : memB e l = true ↔ e ∈ l := by
 unfold memB
 rw [List.any_eq_true]
 constructor
 ·rintro ⟨x, hx, h⟩
  rw [qef.1 h]; exact hx
 ·intro h
  exact ⟨e, h, qdn rfl⟩
theorem qdc {e : En} {l : List En} (h : e ∈ l) : memB e l = true := qdj.2 h
theorem qew {e : En} {l : List En} (h : ¬ e ∈ l) : memB e l = false := by
 cases h1 : memB e l
 ·rfl
 ·exact absurd (qdj.1 h1) h
def gE (l : List En) (i : Nat) : En := l.getD i e0
theorem qbp (l : List En) (i : Nat) (h : i < l.length) : gE l i = l[i] := by
 unfold gE
 rw [List.getD_eq_getElem?_getD, List.getElem?_eq_getElem h]; rfl
theorem En.len (e : En) : e.cs.length = 10 := rfl
theorem En.one (e : En) : ∀ u ∈ e.cs, u.oneCell' = true := by
 intro u hu
 simp only [En.cs, List.mem_cons, List.not_mem_nil, or_false] at hu
 rcases hu with rfl | rfl | rfl | rfl | rfl | rfl | rfl | rfl | rfl | rfl <;> rfl
def ecs : List En → List Value
 | [] => []
 | e :: l => e.cs ++ ecs l
theorem qed (l m : List En) : ecs (l ++ m) = ecs l ++ ecs m := by
 induction l with
 | nil => rfl
 | cons e l ih => show e.cs ++ ecs (l ++ m) = _; rw [ih]; exact (List.append_assoc ..).symm
theorem qau (l : List En) : (ecs l).length = l.length * 10 := by
 induction l with
 | nil => rfl
 | cons e l ih => show (e.cs ++ ecs l).length = _; rw [List.length_append, ih, En.len, List.length_cons]; omega
theorem qfg (l : List En) : ∀ u ∈ ecs l, u.oneCell' = true := by
 induction l with
 | nil => intro u hu; cases hu
 | cons e l ih =>
  intro u hu
  rcases List.mem_append.1 hu with h | h
  ·exact e.one u h
  ·exact ih u h
theorem qel (l : List En) (i j : Nat) (hj : j < 10) (hi : i < l.length) : (ecs l)[i * 10 + j]? = ((gE l i)).cs[j]? := by
 induction l generalizing i with
 | nil => simp at hi
 | cons e l ih =>
  cases i with
  | zero =>
   show (e.cs ++ ecs l)[0 * 10 + j]? = _
   rw [List.getElem?_append_left (by rw [En.len]; omega), Nat.zero_mul, Nat.zero_add]
   rfl
  | succ i =>
   show (e.cs ++ ecs l)[(i + 1) * 10 + j]? = _
   rw [List.getElem?_append_right (by rw [En.len]; omega), En.len, show (i + 1) * 10 + j - 10 = i * 10 + j by omega, ih i (by simpa using hi)]
   rfl
theorem qfq (l : List En) (n : Nat) : (ecs l).take (n * 10) = ecs (l.take n) := by
 induction l generalizing n with
 | nil => simp [ecs]
 | cons e l ih =>
  cases n with
  | zero => simp [ecs]
  | succ n =>
   show (e.cs ++ ecs l).take ((n + 1) * 10) = e.cs ++ ecs (l.take n)
   rw [List.take_append, En.len, show (n + 1) * 10 - 10 = n * 10 by omega, ih, List.take_of_length_le (by rw [En.len]; omega)]
theorem ecs_drop (l : List En) (n : Nat) : (ecs l).drop (n * 10) = ecs (l.drop n) := by
 induction l generalizing n with
 | nil => simp [ecs]
 | cons e l ih =>
  cases n with
  | zero => simp
  | succ n =>
   show (e.cs ++ ecs l).drop ((n + 1) * 10) = ecs (l.drop n)
   rw [List.drop_append, En.len, show (n + 1) * 10 - 10 = n * 10 by omega, ih, List.drop_eq_nil_of_le (by rw [En.len]; omega)]
   rfl
def RdA (w : World) (ad : Option Addr) (l : List En) : Prop :=
 ∀ i, i < l.length → ∃ g o, ad = some ⟨g, o, none⟩ ∧ g < w.heap.size ∧ ∀ j u, ((gE l i)).cs[j]? = some u → w.cell? ⟨g, o + i * 10 + j, none⟩ = some u
def notIn (X : Nat → Prop) (ad : Option Addr) : Prop := ∀ a, ad = some a → ¬ X a.block
theorem RdA.kept {w w' : World} {ad : Option Addr} {l : List En} (h : RdA w ad l) (hs : w.heap.size ≤ w'.heap.size) (hb : ∀ a, ad = some a → a.block < w.heap.size → w'.heap[a.block]? = w.heap[a.block]?) : RdA w' ad l := fun i hi => by
 obtain ⟨g, o, rfl, hg, hc⟩ := h i hi
 exact ⟨g, o, rfl, Nat.lt_of_lt_of_le hg hs, fun j u hu => (World.cell?_of_block (a := ⟨g, o + i * 10 + j, none⟩) (hb ⟨g, o, none⟩ rfl hg)).trans (hc j u hu)⟩
theorem RdA.later {w w' : World} {ad : Option Addr} {l : List En} (h : RdA w ad l) (hb : Below w.heap.size w w') : RdA w' ad l :=
 h.kept hb.size (fun _ _ hlt => hb.block _ hlt)
theorem RdA.turn {w w' : World} {X : Nat → Prop} {ad : Option Addr} {l : List En} (h : RdA w ad l) (ht : Turn X w w') (hn : notIn X ad) : RdA w' ad l :=
 h.kept ht.size (fun a e hlt => ht.block _ hlt (hn a e))
theorem RdA.nil (w : World) (ad : Option Addr) : RdA w ad [] := fun _ hi => absurd hi (Nat.not_lt_zero _)
theorem RdA.drop {w : World} {g o : Nat} {l : List En} (h : RdA w (some ⟨g, o, none⟩) l) (n : Nat) : RdA w (some ⟨g, o + n * 10, none⟩) (l.drop n) := fun i hi => by
 have h1 : n + i < l.length := by simp at hi; omega
 obtain ⟨g', o', e, hg, hc⟩ := h (n + i) h1
 cases e
 refine ⟨g, o + n * 10, rfl, hg, fun j u hu => ?_⟩
 rw [show o + n * 10 + i * 10 + j = o + (n + i) * 10 + j by omega]
 have e1 : (gE (l.drop n) i) = (gE l (n + i)) := by rw [qbp (l.drop n) i hi, qbp l (n + i) h1, List.getElem_drop]
 exact hc j u (by rw [← e1]; exact hu)
theorem RdA.cells {w : World} {g o : Nat} {l : List En} (h : RdA w (some ⟨g, o, none⟩) l) : ∀ j u, (ecs l)[j]? = some u → w.cell? ((⟨g, o, none⟩ : Addr).add j) = some u := by
 intro j u hu
 have hj : j < l.length * 10 := by rw [← qau]; exact (List.getElem?_eq_some_iff.1 hu).1
 have e : j = j / 10 * 10 + j % 10 := by omega
 obtain ⟨g', o', e1, hg, hc⟩ := h (j / 10) (by omega)
 cases e1
 rw [e, qel l _ _ (by omega) (by omega)] at hu
 have := hc _ _ hu
 rw [Addr.add_lit]
 rwa [show o + j / 10 * 10 + j % 10 = o + j by omega] at this
theorem own_rd {w : World} {base : Nat} {T : TypeId} {v : Value} {l : List En} (h : w.ownsRow base T 10 v l.length (ecs l)) : ∃ ad cap, v = .slice ad l.length cap ∧ RdA w ad l ∧ (∀ a, ad = some a → base ≤ a.block ∧ a.block < w.heap.size) := by
 have hl := h.lt
 rcases h.2 with ⟨rfl, h0⟩ | ⟨g, cap, cur, rfl, hb, hg, hr⟩
 ·exact ⟨none, 0, by rw [h0], fun i hi => by omega, fun a ha => by cases ha⟩
 ·refine ⟨some ⟨g, 0, none⟩, cap, rfl, fun i hi => ⟨g, 0, rfl, (hl g rfl).2, fun j u hu => ?_⟩, fun a ha => by cases ha; exact hl g rfl⟩
  have hj : j < 10 := by rw [← ((gE l i)).len]; exact (List.getElem?_eq_some_iff.1 hu).1
  have := h.cells rfl (i * 10 + j) u (by rw [qel l i j hj hi]; exact hu)
  rw [Addr.add_lit] at this
  rwa [show 0 + i * 10 + j = 0 + (i * 10 + j) by omega]
theorem qck {w1 : World} {g t : Nat} {c0 c1 c2 c3 c4 c5 c6 c7 c8 c9 : Value} (hh : w1.heap[g]? = some (.cells #[c0, c1, c2, c3, c4, c5, c6, c7, c8, c9] t (0, 0))) :
  w1.cell? ⟨g, 0, none⟩ = some c0 ∧ w1.cell? ⟨g, 1, none⟩ = some c1 ∧ w1.cell? ⟨g, 2, none⟩ = some c2 ∧ w1.cell? ⟨g, 3, none⟩ = some c3 ∧ w1.cell? ⟨g, 4, none⟩ = some c4 ∧ w1.cell? ⟨g, 5, none⟩ = some c5 ∧ w1.cell? ⟨g, 6, none⟩ = some c6 ∧ w1.cell? ⟨g, 7, none⟩ = some c7 ∧ w1.cell? ⟨g, 8, none⟩ = some c8 ∧ w1.cell? ⟨g, 9, none⟩ = some c9 := by
 refine ⟨?_, ?_, ?_, ?_, ?_, ?_, ?_, ?_, ?_, ?_⟩
 all_goals (rw [cell_of_row _ _ _ _ _ _ hh]; rfl)
theorem qax {P : Program} {fn : Func} {p u : Tmp} {ty : TypeId} (h : fn.results = #[.cell p ty, .tmp u]) (tmps : Array Value) (w : World) (g : Nat) (t : TypeId) (cs : Array Value) (fr : Nat × Nat) (d : TypeDesc)
  (hp : tmps.getD p undef = .pointer (some ⟨g, 0, none⟩)) (hg : w.heap[g]? = some (.cells cs t fr))
  (hu : P.underlying ty = some d) (hd : (match d with | .struct _ | .array _ _ => true | _ => false) = true) (hi : (P.info? ty).map (·.size) = some cs.size) :
  (results fn tmps).run P w = .ok (.tuple #[.agg cs, tmps.getD u undef]) w := by
 rw [results_cell_tmp h, hp]
 simp [asAddr, run_loadVar_row w g t ty cs fr d hg hu hd hi, Result.andThen]
theorem eq_ways {e f : En} (h : e ≠ f) : e.aid ≠ f.aid ∨ e.aid = f.aid ∧ (e.va ≠ f.va ∨ e.va = f.va ∧ (e.lv ≠ f.lv ∨ e.lv = f.lv ∧ (e.k ≠ f.k ∨ e.k = f.k ∧ (e.o ≠ f.o ∨ e.o = f.o ∧ (e.u ≠ f.u ∨ e.u = f.u ∧ (e.r ≠ f.r ∨ e.r = f.r ∧ (e.x ≠ f.x ∨ e.x = f.x ∧ (e.s ≠ f.s ∨ e.s = f.s ∧ e.a ≠ f.a)))))))) := by
 obtain ⟨a0, a1, a2, a3, a4, a5, a6, a7, a8, a9⟩ := e
 obtain ⟨b0, b1, b2, b3, b4, b5, b6, b7, b8, b9⟩ := f
 simp only [Ne, En.mk.injEq] at h ⊢
 by_cases h0 : a0 = b0
 ·refine Or.inr ⟨h0, ?_⟩; subst h0
  by_cases h1 : a1 = b1
  ·refine Or.inr ⟨h1, ?_⟩; subst h1
   by_cases h2 : a2 = b2
   ·refine Or.inr ⟨h2, ?_⟩; subst h2
    by_cases h3 : a3 = b3
    ·refine Or.inr ⟨h3, ?_⟩; subst h3
     by_cases h4 : a4 = b4
     ·refine Or.inr ⟨h4, ?_⟩; subst h4
      by_cases h5 : a5 = b5
      ·refine Or.inr ⟨h5, ?_⟩; subst h5
       by_cases h6 : a6 = b6
       ·refine Or.inr ⟨h6, ?_⟩; subst h6
        by_cases h7 : a7 = b7
        ·refine Or.inr ⟨h7, ?_⟩; subst h7
         by_cases h8 : a8 = b8
         ·refine Or.inr ⟨h8, ?_⟩; subst h8
          exact fun h9 => h ⟨rfl, rfl, rfl, rfl, rfl, rfl, rfl, rfl, rfl, h9⟩
         ·exact Or.inl h8
        ·exact Or.inl h7
       ·exact Or.inl h6
      ·exact Or.inl h5
     ·exact Or.inl h4
    ·exact Or.inl h3
   ·exact Or.inl h2
  ·exact Or.inl h1
 ·exact Or.inl h0
theorem zP18x01 {Z : Prop} (z : Z := by
 by_cases h : e = f
 ·subst h
  rw [qdn rfl]
  obtain ⟨a0, a1, a2, a3, a4, a5, a6, a7, a8, a9⟩ := e
  go_simp
 ·rw [qdy h]
  have hw := eq_ways h
  clear h
  obtain ⟨a0, a1, a2, a3, a4, a5, a6, a7, a8, a9⟩ := e
  obtain ⟨b0, b1, b2, b3, b4, b5, b6, b7, b8, b9⟩ := f
  simp only at hw
  rcases hw with h | ⟨rfl, h | ⟨rfl, h | ⟨rfl, h | ⟨rfl, h | ⟨rfl, h | ⟨rfl, h | ⟨rfl, h | ⟨rfl, h | ⟨rfl, h⟩⟩⟩⟩⟩⟩⟩⟩⟩
  all_goals (go_simp <;> simp_all <;> (intro hq; omega))) : Z := z
theorem eqT (e f : En) (w : World) : (binOp .eql 91 e.v f.v).run Tryz.prog w = .ok (.bool (eqB e f)) w := by
 exact zP18x01
theorem eqR (e f : En) (w : World) : (binOp .eql 94 e.v f.v).run Tryz.prog w = .ok (.bool (eqB e f)) w := by
 exact zP18x01
def qdd (b x : Nat) (l : Int) : Bool := isLv l && decide (qbn x l = b)
def mB (e : En) (i : Int) (x : Nat) : Bool := decide (e.aid = i) && (lowB x && qdd e.va x e.lv)
def leafE (l k : Int) (o : Nat) (u r x s : Bool) (a : Int) : Bool := (decide (k = 2) || decide (k = 3)) && qbr l k o u r x s a
def qbe (e : En) : Bool := decide (0 ≤ e.aid ∧ e.aid ≤ 255) && (leafE e.lv e.k e.o e.u e.r e.x e.s e.a && (e.s && mB e e.aid e.va))
theorem isBase_any (b x : Nat) (l : Int) (hx : x < 18446744073709551616) (w : World) :
  Calls Tryz.prog 123 #[.int .u64 b, .int .u64 x, .int .i64 l] w fun e w' => e = .returned (.bool (qdd b x l)) ∧ w = w' := by
 cases hl : isLv l
 ·have HE : Hid (qdd b x l = false) := by show qdd b x l = _; unfold qdd; rw [hl]; rfl
  have e : lowL l = 0 := lowL_wrong hl
  go_enter Tryz.func123, Tryz.ntmps123
  go_wp2_with (first
   | (go_at_call 115; refine (qcd _ _).mono ?_; rintro e w' ⟨rfl, rfl⟩; rw [e])
   | (go_at_call 101; refine (qfd x l hx _).mono ?_; rintro e w' ⟨rfl, rfl⟩))
  go_ret
  exact ⟨by rw [HE.out]; rfl, rfl⟩
 ·have HE : Hid (qdd b x l = ((qbn x l : Int) == (b : Int))) := by
   show qdd b x l = _
   unfold qdd; rw [hl, Bool.true_and, Bool.eq_iff_iff, decide_eq_true_eq, beq_iff_eq]; omega
  obtain ⟨e, h1, h2, -⟩ := qcg hl
  have h3 : (0 : Int) < lowL l := by omega
  clear e h1 h2
  generalize hbv : qbn x l = B at *
  have hB := fun w1 => qfd x l hx w1
  rw [hbv] at hB
  clear hbv
  generalize hlv : lowL l = L at *
  have hL := fun w1 => qcd l w1
  rw [hlv] at hL
  clear hlv
  go_enter Tryz.func123, Tryz.ntmps123
  go_wp2_with (first
   | (go_at_call 115; refine (hL _).mono ?_; rintro e w' ⟨rfl, rfl⟩)
   | (go_at_call 101; refine (hB _).mono ?_; rintro e w' ⟨rfl, rfl⟩))
  all_goals go_ret
  all_goals exact ⟨by rw [HE.out]; rfl, rfl⟩
theorem qcm (e : En) (i : Int) (x : Nat) (hx : x < 18446744073709551616) (w : World) :
  Calls Tryz.prog 86 #[e.v, .int .i64 i, .int .u64 x] w fun r w' => r = .returned (.bool (mB e i x)) ∧ Below w.heap.size w w' := by
 unfold mB
 obtain ⟨a0, a1, a2, a3, a4, a5, a6, a7, a8, a9⟩ := e
 simp only [En.v]
 by_cases h0 : a0 = i
 ·rw [decide_eq_true h0, Bool.true_and]
  have d0 : (a0 == i) = true := by rw [beq_iff_eq]; exact h0
  cases hl : lowB x
  ·go_enter Tryz.func86, Tryz.ntmps86
   go_wp2_with (first
    | (go_at_call 122; refine (low_any x _).mono ?_; rintro e w' ⟨rfl, rfl⟩; rw [hl]))
   all_goals go_ret
   all_goals exact ⟨rfl, qac _ _⟩
  ·rw [Bool.true_and]
   go_enter Tryz.func86, Tryz.ntmps86
   go_wp2_with (first
    | (go_at_call 122; refine (low_any x _).mono ?_; rintro e w' ⟨rfl, rfl⟩; rw [hl])
    | (go_at_call 123; refine (isBase_any a1 x a2 hx _).mono ?_; rintro e w' ⟨rfl, rfl⟩))
   all_goals go_ret
   all_goals exact ⟨rfl, qac _ _⟩
 ·rw [decide_eq_false h0, Bool.false_and]
  have d0 : (a0 == i) = false := by rw [beq_eq_false_iff_ne]; exact h0
  go_enter Tryz.func86, Tryz.ntmps86
  go_wp2
  go_ret
  exact ⟨rfl, qac _ _⟩
theorem zP18x02 {Z : Prop} (z : Z := by
 go_enter Tryz.func146, Tryz.ntmps146
 go_wp2_with (go_at_call 139; refine (hc _ (hF1 _)).mono ?_; rintro e w' ⟨rfl, hb⟩)
 all_goals go_ret
 all_goals exact ⟨by rw [HE.out]; rfl, qab (qac _ _) hb⟩) : Z := z
theorem isLeaf_any (l k : Int) (o : Nat) (u r x s : Bool) (a : Int) (ho : o < 18446744073709551616) (w : World) (hF : Flds w) :
  Calls Tryz.prog 146 #[dv k o u r x s a, .int .i64 l] w fun e w' => e = .returned (.bool (leafE l k o u r x s a)) ∧ Below w.heap.size w w' := by
 have hc := fun w1 h1 => right_d l k o u r x s a ho w1 h1
 have hF1 := fun ob => hF.alloc ob
 by_cases h2 : k = 2
 ·have HE : Hid (leafE l k o u r x s a = qbr l k o u r x s a) := by show leafE l k o u r x s a = _; unfold leafE; rw [decide_eq_true h2]; rfl
  generalize qbr l k o u r x s a = R at *
  have d2 : (k == 2) = true := by rw [beq_iff_eq]; exact h2
  clear h2
  exact zP18x02
 by_cases h3 : k = 3
 ·have HE : Hid (leafE l k o u r x s a = qbr l k o u r x s a) := by show leafE l k o u r x s a = _; unfold leafE; rw [decide_eq_true h3, Bool.or_true]; rfl
  generalize qbr l k o u r x s a = R at *
  have d2 : (k == 2) = false := by rw [beq_eq_false_iff_ne]; exact h2
  have d3 : (k == 3) = true := by rw [beq_iff_eq]; exact h3
  clear h2 h3
  exact zP18x02
 ·have HE : Hid (leafE l k o u r x s a = false) := by show leafE l k o u r x s a = _; unfold leafE; rw [decide_eq_false h2, decide_eq_false h3]; rfl
  have d2 : (k == 2) = false := by rw [beq_eq_false_iff_ne]; exact h2
  have d3 : (k == 3) = false := by rw [beq_eq_false_iff_ne]; exact h3
  clear h2 h3
  go_enter Tryz.func146, Tryz.ntmps146
  go_wp2
  all_goals go_ret
  all_goals exact ⟨by rw [HE.out]; rfl, qac _ _⟩
theorem rightE_any (e : En) (he : e.ok) (w : World) (hF : Flds w) :
  Calls Tryz.prog 132 #[e.v] w fun r w' => r = .returned (.bool (qbe e)) ∧ Below w.heap.size w w' := by
 have hm := fun w1 => qcm e e.aid e.va he.1 w1
 have hlf := fun w1 h1 => isLeaf_any e.lv e.k e.o e.u e.r e.x e.s e.a he.2 w1 h1
 have HE : Hid (qbe e = (decide (0 ≤ e.aid ∧ e.aid ≤ 255) && (leafE e.lv e.k e.o e.u e.r e.x e.s e.a && (e.s && mB e e.aid e.va)))) := rfl
 have hF1 := fun ob => hF.alloc ob
 generalize mB e e.aid e.va = M at *
 generalize leafE e.lv e.k e.o e.u e.r e.x e.s e.a = L at *
 obtain ⟨a0, a1, a2, a3, a4, a5, a6, a7, a8, a9⟩ := e
 simp only [En.v] at *
 by_cases h0 : 0 ≤ a0
 ·have d0 : decide (0 ≤ a0) = true := decide_eq_true h0
  by_cases h1 : a0 ≤ 255
  ·have d1 : decide (a0 ≤ 255) = true := decide_eq_true h1
   rw [decide_eq_true (show 0 ≤ a0 ∧ a0 ≤ 255 from ⟨h0, h1⟩), Bool.true_and] at HE
   cases L
   ·go_enter Tryz.func132, Tryz.ntmps132
    go_wp2_with (go_at_call 146; refine (hlf _ (hF1 _)).mono ?_; rintro e w' ⟨rfl, hb⟩)
    all_goals go_ret
    all_goals exact ⟨by rw [HE.out]; rfl, qab (qac _ _) hb⟩
   ·rw [Bool.true_and] at HE
    go_enter Tryz.func132, Tryz.ntmps132
    go_wp2_with fail
    refine (hlf _ (hF1 _)).mono ?_
    rintro e w1 ⟨rfl, hb⟩
    have hK := qaa hb (heap_alloc_new w (.cells #[.int .i64 a0, .int .u64 a1, .int .i64 a2, .int .i64 a3, .int .u64 a4, .bool a5, .bool a6, .bool a7, .bool a8, .int .i64 a9] 91))
    obtain ⟨q0, q1, q2, q3, q4, q5, q6, q7, q8, q9⟩ := qck hK
    have hB := qab (qac _ _) hb
    clear hb hK hlf hF1
    cases a8
    ·go_wp2
     all_goals go_ret
     all_goals exact ⟨by rw [HE.out]; rfl, hB⟩
    ·go_wp2_with fail
     refine (hm _).mono ?_
     rintro e w2 ⟨rfl, hb2⟩
     go_wp2
     all_goals go_ret
     all_goals exact ⟨by rw [HE.out]; rfl, qab hB hb2⟩
  ·have d1 : decide (a0 ≤ 255) = false := decide_eq_false h1
   rw [decide_eq_false (show ¬ (0 ≤ a0 ∧ a0 ≤ 255) from fun h => h1 h.2), Bool.false_and] at HE
   go_enter Tryz.func132, Tryz.ntmps132
   go_wp2
   all_goals go_ret
   all_goals exact ⟨by rw [HE.out]; rfl, qac _ _⟩
 ·have d0 : decide (0 ≤ a0) = false := decide_eq_false h0
  rw [decide_eq_false (show ¬ (0 ≤ a0 ∧ a0 ≤ 255) from fun h => h0 h.1), Bool.false_and] at HE
  go_enter Tryz.func132, Tryz.ntmps132
  go_wp2
  all_goals go_ret
  all_goals exact ⟨by rw [HE.out]; rfl, qac _ _⟩
end Go.Proofs.YtfdbdeckohaneaaGreatDoor.TB
