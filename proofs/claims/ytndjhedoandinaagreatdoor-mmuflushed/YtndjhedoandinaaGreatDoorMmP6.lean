/- Machines: what the document's machine of noughts comes to. -/
import Derived.Test.YtndjhedoandinaaGreatDoorMmP4
import Derived.Test.YtndjhedoandinaaGreatDoorTrP
import Derived.Test.YtndjhedoandinaaGreatDoorRefWriteW

/- Machines: planned guesses; Plan. -/
namespace Go.Proofs.YtndjhedoandinaaGreatDoor.MM.PL
open Go.RowKit

abbrev En := MM.Pl
abbrev e0 : En := MM.p0
abbrev gE (l : List En) (i : Nat) : En := MM.gP l i
theorem gE_pos (l : List En) (i : Nat) (h : i < l.length) : gE l i = l[i] := by
  unfold gE MM.gP
  rw [List.getD_eq_getElem?_getD, List.getElem?_eq_getElem h]; rfl
theorem len (e : En) : e.cs.length = 4 := rfl
theorem one (e : En) : ∀ u ∈ e.cs, u.oneCell' = true := by
  intro u hu
  simp only [MM.Pl.cs, List.mem_cons, List.not_mem_nil, or_false] at hu
  rcases hu with rfl | rfl | rfl | rfl <;> rfl

/-- The cells of a list of entries. -/
def ecs : List En → List Value
  | [] => []
  | e :: l => e.cs ++ ecs l
theorem ecs_app (l m : List En) : ecs (l ++ m) = ecs l ++ ecs m := by
  induction l with
  | nil => rfl
  | cons e l ih => show e.cs ++ ecs (l ++ m) = _; rw [ih]; exact (List.append_assoc ..).symm
theorem ecs_len (l : List En) : (ecs l).length = l.length * 4 := by
  induction l with
  | nil => rfl
  | cons e l ih => show (e.cs ++ ecs l).length = _; rw [List.length_append, ih, len, List.length_cons]; omega
theorem ecs_one (l : List En) : ∀ u ∈ ecs l, u.oneCell' = true := by
  induction l with
  | nil => intro u hu; cases hu
  | cons e l ih =>
    intro u hu
    rcases List.mem_append.1 hu with h | h
    · exact one e u h
    · exact ih u h
theorem ecs_get (l : List En) (i j : Nat) (hj : j < 4) (hi : i < l.length) : (ecs l)[i * 4 + j]? = ((gE l i)).cs[j]? := by
  induction l generalizing i with
  | nil => simp at hi
  | cons e l ih =>
    cases i with
    | zero =>
      show (e.cs ++ ecs l)[0 * 4 + j]? = _
      rw [List.getElem?_append_left (by rw [len]; omega), Nat.zero_mul, Nat.zero_add]
      rfl
    | succ i =>
      show (e.cs ++ ecs l)[(i + 1) * 4 + j]? = _
      rw [List.getElem?_append_right (by rw [len]; omega), len, show (i + 1) * 4 + j - 4 = i * 4 + j by omega, ih i (by simpa using hi)]
      rfl
theorem ecs_take (l : List En) (n : Nat) : (ecs l).take (n * 4) = ecs (l.take n) := by
  induction l generalizing n with
  | nil => simp [ecs]
  | cons e l ih =>
    cases n with
    | zero => simp [ecs]
    | succ n =>
      show (e.cs ++ ecs l).take ((n + 1) * 4) = e.cs ++ ecs (l.take n)
      rw [List.take_append, len, show (n + 1) * 4 - 4 = n * 4 by omega, ih, List.take_of_length_le (by rw [len]; omega)]
theorem ecs_drop (l : List En) (n : Nat) : (ecs l).drop (n * 4) = ecs (l.drop n) := by
  induction l generalizing n with
  | nil => simp [ecs]
  | cons e l ih =>
    cases n with
    | zero => simp
    | succ n =>
      show (e.cs ++ ecs l).drop ((n + 1) * 4) = ecs (l.drop n)
      rw [List.drop_append, len, show (n + 1) * 4 - 4 = n * 4 by omega, ih, List.drop_eq_nil_of_le (by rw [len]; omega)]
      rfl

/-- A slice of entries, to read: where it lies, if it has any. -/
def RdA (w : World) (ad : Option Addr) (l : List En) : Prop :=
  ∀ i, i < l.length → ∃ g o, ad = some ⟨g, o, none⟩ ∧ g < w.heap.size ∧ ∀ j u, ((gE l i)).cs[j]? = some u → w.cell? ⟨g, o + i * 4 + j, none⟩ = some u
def notIn (X : Nat → Prop) (ad : Option Addr) : Prop := ∀ a, ad = some a → ¬ X a.block
theorem RdA.kept {w w' : World} {ad : Option Addr} {l : List En} (h : RdA w ad l) (hs : w.heap.size ≤ w'.heap.size) (hb : ∀ a, ad = some a → a.block < w.heap.size → w'.heap[a.block]? = w.heap[a.block]?) : RdA w' ad l := fun i hi => by
  obtain ⟨g, o, rfl, hg, hc⟩ := h i hi
  exact ⟨g, o, rfl, Nat.lt_of_lt_of_le hg hs, fun j u hu => (World.cell?_of_block (a := ⟨g, o + i * 4 + j, none⟩) (hb ⟨g, o, none⟩ rfl hg)).trans (hc j u hu)⟩
theorem RdA.later {w w' : World} {ad : Option Addr} {l : List En} (h : RdA w ad l) (hb : Below w.heap.size w w') : RdA w' ad l :=
  h.kept hb.size (fun _ _ hlt => hb.block _ hlt)
theorem RdA.turn {w w' : World} {X : Nat → Prop} {ad : Option Addr} {l : List En} (h : RdA w ad l) (ht : Turn X w w') (hn : notIn X ad) : RdA w' ad l :=
  h.kept ht.size (fun a e hlt => ht.block _ hlt (hn a e))
theorem RdA.nil (w : World) (ad : Option Addr) : RdA w ad [] := fun _ hi => absurd hi (Nat.not_lt_zero _)
theorem RdA.take {w : World} {ad : Option Addr} {l : List En} (h : RdA w ad l) (n : Nat) : RdA w ad (l.take n) := fun i hi => by
  have h1 : i < n ∧ i < l.length := by simpa [Nat.lt_min] using hi
  obtain ⟨g, o, e, hg, hc⟩ := h i h1.2
  have e1 : (gE (l.take n) i) = (gE l i) := by rw [gE_pos (l.take n) i hi, gE_pos l i h1.2, List.getElem_take]
  exact ⟨g, o, e, hg, fun j u hu => hc j u (by rw [← e1]; exact hu)⟩
theorem RdA.drop {w : World} {g o : Nat} {l : List En} (h : RdA w (some ⟨g, o, none⟩) l) (n : Nat) : RdA w (some ⟨g, o + n * 4, none⟩) (l.drop n) := fun i hi => by
  have h1 : n + i < l.length := by simp at hi; omega
  obtain ⟨g', o', e, hg, hc⟩ := h (n + i) h1
  cases e
  refine ⟨g, o + n * 4, rfl, hg, fun j u hu => ?_⟩
  rw [show o + n * 4 + i * 4 + j = o + (n + i) * 4 + j by omega]
  have e1 : (gE (l.drop n) i) = (gE l (n + i)) := by rw [gE_pos (l.drop n) i hi, gE_pos l (n + i) h1, List.getElem_drop]
  exact hc j u (by rw [← e1]; exact hu)
/-- The cells of a slice, one behind another. -/
theorem RdA.cells {w : World} {g o : Nat} {l : List En} (h : RdA w (some ⟨g, o, none⟩) l) : ∀ j u, (ecs l)[j]? = some u → w.cell? ((⟨g, o, none⟩ : Addr).add j) = some u := by
  intro j u hu
  have hj : j < l.length * 4 := by rw [← ecs_len]; exact (List.getElem?_eq_some_iff.1 hu).1
  have e : j = j / 4 * 4 + j % 4 := by omega
  obtain ⟨g', o', e1, hg, hc⟩ := h (j / 4) (by omega)
  cases e1
  rw [e, ecs_get l _ _ (by omega) (by omega)] at hu
  have := hc _ _ hu
  rw [Addr.add_lit]
  rwa [show o + j / 4 * 4 + j % 4 = o + j by omega] at this

/-- A row of the call's own, to read. -/
theorem own_rd {w : World} {base : Nat} {T : TypeId} {v : Value} {l : List En} (h : w.ownsRow base T 4 v l.length (ecs l)) : ∃ ad cap, v = .slice ad l.length cap ∧ RdA w ad l ∧ (∀ a, ad = some a → base ≤ a.block ∧ a.block < w.heap.size) := by
  have hl := h.lt
  rcases h.2 with ⟨rfl, h0⟩ | ⟨g, cap, cur, rfl, hb, hg, hr⟩
  · exact ⟨none, 0, by rw [h0], fun i hi => by omega, fun a ha => by cases ha⟩
  · refine ⟨some ⟨g, 0, none⟩, cap, rfl, fun i hi => ⟨g, 0, rfl, (hl g rfl).2, fun j u hu => ?_⟩, fun a ha => by cases ha; exact hl g rfl⟩
    have hj : j < 4 := by rw [← len (gE l i)]; exact (List.getElem?_eq_some_iff.1 hu).1
    have := h.cells rfl (i * 4 + j) u (by rw [ecs_get l i j hj hi]; exact hu)
    rw [Addr.add_lit] at this
    rwa [show 0 + i * 4 + j = 0 + (i * 4 + j) by omega]

theorem infoP {P : Program} {t : TypeId} {z : Option Value} {s b : Nat} (h : (P.info? t).map (fun i => (i.zero, i.size, i.bytes)) = some (z, s, b)) : ∃ i, P.info? t = some i ∧ i.zero = z ∧ i.size = s ∧ i.bytes = b := by
  cases hq : P.info? t with
  | none => rw [hq] at h; cases h
  | some i =>
    rw [hq] at h
    simp only [Option.map_some, Option.some.injEq, Prod.mk.injEq] at h
    exact ⟨i, rfl, h.1, h.2.1, h.2.2⟩
/-- What is asked of a slice type and its elements: entries of the program's, or of the document's. -/
structure ETy (tS tE : TypeId) : Prop where
  sl : Tryz.prog.underlying tS = some (.slice tE)
  info : (Tryz.prog.info? tE).map (fun i => (i.zero, i.size, i.bytes)) = some (some (.agg #[.int .u64 0, .bool false, .bool false, .bool false]), 4, 16)
theorem etyT : ETy 95 94 := ⟨Tryz.underlying95, by kernel_rfl⟩

section
variable {ops : Array Oper} {rest : List Oper} {o : Oper} {a : Act} {Q : Exit → Act → World → Prop}
/-- Entries appended to a row of the call's own. -/
theorem wpList_appE {tS tE : TypeId} (hT : ETy tS tE) (w : World) (hg : o.guard = none) (s x : Operand) (hop : o.op = .call { callee := .builtin .append, args := #[s, x], argTypes := #[tS, tS] })
    (base : Nat) (v : Value) (l : List En) (hs : a.eval s = v) (hown : w.ownsRow base tE 4 v l.length (ecs l)) (m : List En) (ad : Addr) (c : Nat) (hx : a.eval x = .slice (some ad) m.length c) (hc : ∀ j u, (ecs m)[j]? = some u → w.cell? (ad.add j) = some u) (hp : 0 < m.length) (hlen : l.length + m.length ≤ 100000) (hbase : base ≤ w.heap.size) (H : Nat) (hH : w.heap.size = H)
    (h : ∀ g cap w', w'.ownsRow base tE 4 (.slice (some ⟨g, 0, none⟩) (l.length + m.length) cap) (l ++ m).length (ecs (l ++ m)) → w.grownBy w' v.ownBlock → (v.ownBlock = some g ∨ g = H) → g < w'.heap.size → wpList Tryz.prog ops Q rest (a.put o.dst (.slice (some ⟨g, 0, none⟩) (l.length + m.length) cap)) w') :
    wpList Tryz.prog ops Q (o :: rest) a w := by
  obtain ⟨i0, hi, hz0, hz1, hz2⟩ := infoP hT.info
  refine wpList_append_lies w hg s x tS hop base tE i0 _ 4 16 hT.sl hi hz0 hz1 hz2 rfl (by decide) v l.length (ecs l) hs hown ad m.length c (ecs m) hx (ecs_len m) hc (ecs_one m) hp (by unfold maxLen; omega) (by omega) hbase H hH ?_
  intro g cap w' hown' hgrow hat hlt
  rw [← ecs_app] at hown'
  exact h g cap w' (by rw [List.length_append]; exact hown') hgrow hat hlt
theorem step_appE {K : Act → World → Prop} {E : Prop} {tS tE : TypeId} (hT : ETy tS tE) (w : World) (hg : o.guard = none) (s x : Operand) (hop : o.op = .call { callee := .builtin .append, args := #[s, x], argTypes := #[tS, tS] })
    (base : Nat) (v : Value) (l : List En) (hs : a.eval s = v) (hown : w.ownsRow base tE 4 v l.length (ecs l)) (m : List En) (ad : Addr) (c : Nat) (hx : a.eval x = .slice (some ad) m.length c) (hc : ∀ j u, (ecs m)[j]? = some u → w.cell? (ad.add j) = some u) (hp : 0 < m.length) (hlen : l.length + m.length ≤ 100000) (hbase : base ≤ w.heap.size) (H : Nat) (hH : w.heap.size = H)
    (h : ∀ g cap w', w'.ownsRow base tE 4 (.slice (some ⟨g, 0, none⟩) (l.length + m.length) cap) (l ++ m).length (ecs (l ++ m)) → w.grownBy w' v.ownBlock → (v.ownBlock = some g ∨ g = H) → g < w'.heap.size → K (a.put o.dst (.slice (some ⟨g, 0, none⟩) (l.length + m.length) cap)) w') :
    if Region.wanted o (yielded ops a.tmps) = true then Oper.wp Tryz.prog o a w K Q else E := by
  obtain ⟨i0, hi, hz0, hz1, hz2⟩ := infoP hT.info
  refine step_append_lies w hg s x tS hop base tE i0 _ 4 16 hT.sl hi hz0 hz1 hz2 rfl (by decide) v l.length (ecs l) hs hown ad m.length c (ecs m) hx (ecs_len m) hc (ecs_one m) hp (by unfold maxLen; omega) (by omega) hbase H hH ?_
  intro g cap w' hown' hgrow hat hlt
  rw [← ecs_app] at hown'
  exact h g cap w' (by rw [List.length_append]; exact hown') hgrow hat hlt
end

/-- A new row, empty. -/
theorem own_new (w : World) (tE : TypeId) : (w.alloc (.cells #[] tE)).ownsRow w.heap.size tE 4 (.slice (some ⟨w.heap.size, 0, none⟩) 0 0) ([] : List En).length (ecs []) :=
  ⟨rfl, Or.inr ⟨w.heap.size, 0, #[], rfl, Nat.le_refl _, heap_alloc_new _ _, Nat.le_refl _, Nat.zero_le _, rfl, rfl⟩⟩

set_option maxHeartbeats 1000000 in
set_option maxRecDepth 100000 in
theorem clone_c (l : List En) (ad : Option Addr) (cap : Nat) (hf : ad = none ∨ ∃ g o, ad = some ⟨g, o, none⟩) (hn : l.length ≤ 1000) (w : World) (hr : RdA w ad l) :
    Calls Tryz.prog 80 #[.slice ad l.length cap] w fun r w' => ∃ ad' cap', r = .returned (.slice ad' l.length cap') ∧ RdA w' ad' l ∧ (∀ b, ad' = some b → w.heap.size ≤ b.block ∧ b = ⟨b.block, 0, none⟩) ∧ Below w.heap.size w w' := by
  have HR := Hid.mk hr
  clear hr
  rcases hf with rfl | ⟨b, o, rfl⟩
  · have h0 : l.length = 0 := by
      rcases Nat.eq_zero_or_pos l.length with h | h
      · exact h
      · obtain ⟨g, o, e, -⟩ := HR.out 0 h; cases e
    obtain rfl := List.length_eq_zero_iff.1 h0
    have hen : ∀ (w : World) (n c : Nat), (binOp .eql 95 (.slice none n c) (.slice none 0 0)).run Tryz.prog w = .ok (.bool true) w := fun _ _ _ => rfl
    go_enter Tryz.func80, Tryz.ntmps80
    go_wp2
    go_ret
    exact ⟨_, _, rfl, RdA.nil _ _, (fun b hb => by cases hb), Below.refl _ _⟩
  · have hen : ∀ (w : World) (n : Nat), (binOp .eql 95 (.slice (some ⟨b, o, none⟩) n cap) (.slice none 0 0)).run Tryz.prog w = .ok (.bool false) w := fun _ _ => rfl
    by_cases h0 : l.length = 0
    · obtain rfl := List.length_eq_zero_iff.1 h0
      go_enter Tryz.func80, Tryz.ntmps80
      go_wp2
      go_ret
      exact ⟨_, _, rfl, RdA.nil _ _, (fun b hb => by cases hb; exact ⟨Nat.le_refl _, rfl⟩), below_new _ _⟩
    · have hB := fun w' (hgr : World.grownBy (w.alloc (.cells #[] 94)) w' (Value.slice (some ⟨w.heap.size, 0, none⟩) 0 0).ownBlock) => (below_new w (.cells #[] 94)).grown hgr (by simp) (fun q hq => by cases hq; exact Nat.le_refl _)
      go_enter Tryz.func80, Tryz.ntmps80
      go_wp2_with (at_builtin; refine wpList_appE etyT _ rfl _ _ rfl w.heap.size _ [] rfl (own_new w _) l ⟨b, o, none⟩ cap rfl (fun j u hu => cell_later (below_new _ _) (HR.out.cells j u hu)) (by omega) (by simp; omega) (by simp) _ rfl ?_; intro g cap' w2 hown hgr hat hlt; have HO := Hid.mk hown; clear hown)
      go_ret
      obtain ⟨ad', c', e, h1, h2⟩ := own_rd HO.out
      simp only [List.nil_append, List.length_nil, Nat.zero_add] at e h1
      cases e
      exact ⟨_, _, rfl, h1, (fun b hb => by cases hb; exact ⟨(h2 _ rfl).1, rfl⟩), hB _ hgr⟩

end Go.Proofs.YtndjhedoandinaaGreatDoor.MM.PL
namespace Go.Proofs.YtndjhedoandinaaGreatDoor.MM
open Go.RowKit Go.Maps

def plN (P : List Pl) : Int := if P.length ≤ 8 then 0 else 11
def plS (s : St) (P : List Pl) : St := if P.length ≤ 8 then { s with P := P } else s
theorem info_plans : (Tryz.prog.info? 95).map (·.size) = some 1 := by kernel_rfl
section
variable {w0 w : World} {X : Nat → Prop} {x a n S : Nat} {most : Int} {s : St}
theorem plan_many {w : World} {x : Nat} (N cap : Nat) (ad : Option Addr) (hN : 8 < N) :
    Calls Tryz.prog 37 #[.pointer (some ⟨x, 0, none⟩), .slice ad N cap] w fun r w' => r = .returned (.int .i64 11) ∧ w = w' := by
  have hN2 : (8 : Int) < (N : Int) := by omega
  clear hN
  go_enter Tryz.func37, Tryz.ntmps37
  go_wp2
  go_ret
  exact ⟨rfl, rfl⟩
set_option maxHeartbeats 1000000 in
theorem plan_few (h : Mch w0 w X x a n S most s) (P : List Pl) (cap : Nat) (ad : Option Addr) (hP : P.length ≤ 8) (hf : ad = none ∨ ∃ g o, ad = some ⟨g, o, none⟩) (hr : PL.RdA w ad P) (hv : ∀ p ∈ P, p.va < 18446744073709551616) :
    Calls Tryz.prog 37 #[.pointer (some ⟨x, 0, none⟩), .slice ad P.length cap] w fun r w' => r = .returned (.int .i64 0) ∧ Mch w0 w' (Gr X w w') x a n S most { s with P := P } ∧ Turn X w w' := by
  have H0 := Hid.mk h
  obtain ⟨XM, XB, XT, tb, tr, pv, h⟩ := h
  have H := Hid.mk h
  have HC := Hid.mk (PL.clone_c P ad cap hf (by omega) w hr)
  have HP := Hid.mk (And.intro hP hv)
  have hN2 : ¬ (8 : Int) < (P.length : Int) := by omega
  clear h hr hP hv hf
  go_enter Tryz.func37, Tryz.ntmps37
  go_wp2_with fail
  refine HC.out.mono ?_
  rintro e w1 ⟨ad', cap', rfl, hrd, hnew, hb⟩
  have hrow := block_later hb H.out.row
  obtain ⟨-, -, -, -, c4⟩ := row5 hrow
  have HRD := Hid.mk hrd
  have HNW := Hid.mk hnew
  clear HC hrd hnew
  go_wp2_with
    first
    | (refine wpList_store_segTo rfl 95 _ _ rfl rfl x 4 (.slice ad' P.length cap') #[.slice ad' P.length cap'] rfl rfl rfl 124 _ hrow (show 4 + 1 ≤ 5 by decide) info_plans (by simp [Value.oneCell']) #[.pointer (some ⟨a, 0, none⟩), .pointer (some ⟨tb, 0, none⟩), .pointer (some ⟨tr, 0, none⟩), rgV s.rg, .slice ad' P.length cap'] rfl ?_
       intro wq hq hT)
    | fail
  go_ret
  have hx1 : x < w1.heap.size := block_lt hrow
  refine ⟨rfl, H.out.rowed (rg' := s.rg) (P' := P) hb hT hq ?_ ⟨H.out.wf.m1, H.out.wf.m64, H.out.wf.el, H.out.wf.kl, H.out.wf.er, H.out.wf.eo, H.out.wf.kr, H.out.wf.rr, HP.out.1, HP.out.2, H.out.wf.nd⟩⟩
  refine ⟨ad', cap', rfl, fun i hi => ?_⟩
  obtain ⟨g, o, e1, hg, hc⟩ := HRD.out i hi
  have hq2 := HNW.out _ e1
  have e2 : o = 0 := congrArg Addr.off hq2.2
  subst e2
  have hge : w.heap.size ≤ g := hq2.1
  have hsz := hT.size
  refine ⟨g, e1, by omega, ⟨Or.inr ⟨hge, by omega⟩, fun c => ?_, fun c => ?_, fun c => ?_, fun c => ?_⟩, fun j u hu => ?_⟩
  · have := H.out.lt g (H.out.cm g c); omega
  · have := H.out.lt g (H.out.cb g c); omega
  · have := H.out.lt g (H.out.ct g c); omega
  · have := H.out.lt x H.out.cx; omega
  · have hc2 := hc j u hu
    rw [Nat.zero_add] at hc2
    have hgx : ¬ g = x := fun c => by have := H.out.lt x H.out.cx; omega
    exact TR.turn_cell hT hgx hc2
theorem plan_c (h : Mch w0 w X x a n S most s) (P : List Pl) (cap : Nat) (ad : Option Addr) (hf : ad = none ∨ ∃ g o, ad = some ⟨g, o, none⟩) (hr : PL.RdA w ad P) (hv : ∀ p ∈ P, p.va < 18446744073709551616) :
    Calls Tryz.prog 37 #[.pointer (some ⟨x, 0, none⟩), .slice ad P.length cap] w fun r w' => r = .returned (.int .i64 (plN P)) ∧ Mch w0 w' (Gr X w w') x a n S most (plS s P) ∧ Turn X w w' := by
  unfold plN plS
  by_cases hP : P.length ≤ 8
  · rw [if_pos hP, if_pos hP]
    exact plan_few h P cap ad hP hf hr hv
  · rw [if_neg hP, if_neg hP]
    refine (plan_many P.length cap ad (by omega)).mono ?_
    rintro r w' ⟨rfl, rfl⟩
    exact ⟨rfl, h.gr0 (Below.refl _ _)⟩

/-- Behind a doing, another one, with new blocks between. -/
theorem Mch.gr3 {w1 w2 w3 : World} {m : Nat} {s' : St} (h0 : Mch w0 w X x a n S most s) (hT : Turn X w w1) (hb : Below w1.heap.size w1 w2) (h : Mch w0 w3 (Gr (Gr X w w1) w2 w3) x a m S most s') (hT2 : Turn (Gr X w w1) w2 w3) : Mch w0 w3 (Gr X w w3) x a m S most s' ∧ Turn X w w3 := by
  have e0 := h0.bl.size
  have e1 := hT.size
  have e2 := hb.size
  have e3 := hT2.size
  refine ⟨h.wide (fun i hi => ?_) (fun i hi => gr_in (by omega) h0.ltX h0.loX e0 hi), (hT.trans (turn_of_below X hb) (fun _ _ h => h)).trans hT2 (fun i hi c => ?_)⟩
  · rcases hi with (hi | hi) | hi
    · exact Or.inl hi
    · exact Or.inr (by omega)
    · exact Or.inr (by omega)
  · rcases c with c | c
    · exact c
    · omega
/-- Guesses, one behind another; a word that the kernel writes. -/
def guL (S : Nat) (most : Int) (s : St) : List Pl → St
  | [] => s
  | p :: l => guL S most (guS S most s p.va p.h) l
def kwS (S : Nat) (most : Int) (s : St) (y v : Nat) : St := if errA S y = 0 then guL S most { s with f := wrF s.f S y v } s.P else s
theorem guS_P (va : Nat) (hn : Hn) : (guS S most s va hn).P = s.P := by
  unfold guS
  split
  · rfl
  · unfold lfS
    split
    · rfl
    · rfl
theorem guL_take (S : Nat) (most : Int) : ∀ (l : List Pl) (s : St) (i : Nat), i < l.length → guL S most s (l.take (i + 1)) = guS S most (guL S most s (l.take i)) (gP l i).va (gP l i).h
  | [], s, i, h => absurd h (Nat.not_lt_zero _)
  | p :: l, s, 0, _ => rfl
  | p :: l, s, i + 1, h => by
    show guL S most (guS S most s p.va p.h) (l.take (i + 1)) = _
    rw [guL_take S most l _ i (by simpa using h)]
    rfl
theorem guL_P (S : Nat) (most : Int) : ∀ (l : List Pl) (s : St), (guL S most s l).P = s.P
  | [], s => rfl
  | p :: l, s => by
    show (guL S most (guS S most s p.va p.h) l).P = _
    rw [guL_P S most l, guS_P]

theorem gP_pos (l : List Pl) (i : Nat) (h : i < l.length) : gP l i = l[i] := PL.gE_pos l i h
set_option maxHeartbeats 4000000 in
set_option maxRecDepth 100000 in
theorem kwrite_c (h : Mch w0 w X x a n S most s) (hn : n < 100000000) (y v : Nat) (hy : y < 18446744073709551616) (hv : v < 18446744073709551616) :
    Calls Tryz.prog 38 #[.pointer (some ⟨x, 0, none⟩), .int .u64 y, .int .u64 v] w fun r w' => r = .returned (.int .i64 (errA S y)) ∧ Mch w0 w' (Gr X w w') x a (n + 1) S most (kwS S most s y v) ∧ Turn X w w' := by
  have H0 := Hid.mk h
  obtain ⟨XM, XB, XT, tb, tr, pv, h⟩ := h
  have c0 := (row5 h.row).1
  have HC := Hid.mk (h.write hn y v hy hv)
  have hrow0 := h.row
  have HPV := Hid.mk h.wf.pv
  have hpl := h.wf.pl
  obtain ⟨ad, cap, rfl, hpc⟩ := h.pln
  clear h hn hy hv hpc
  by_cases he : errA S y = 0
  · have HS : Hid (kwS S most s y v = guL S most { s with f := wrF s.f S y v } s.P) := by show _ = _; unfold kwS; rw [if_pos he]
    rw [he] at HC ⊢
    have HT := Hid.mk (fun i hi => guL_take S most s.P { s with f := wrF s.f S y v } i hi)
    have HZ : Hid (∀ i, (guL S most { s with f := wrF s.f S y v } (s.P.take i)).P = s.P) := fun i => by rw [guL_P]
    have HE : Hid (guL S most { s with f := wrF s.f S y v } (s.P.take s.P.length) = kwS S most s y v) := by show _ = _; rw [HS.out, List.take_length]
    have H00 : Hid (guL S most { s with f := wrF s.f S y v } (s.P.take 0) = { s with f := wrF s.f S y v }) := rfl
    clear HS he
    generalize kwS S most s y v = s' at *
    generalize ({ s with f := wrF s.f S y v } : St) = s1 at *
    generalize hPP : s.P = P at *
    go_enter Tryz.func38, Tryz.ntmps38
    go_wp2_with fail
    refine HC.out.mono ?_
    rintro e w1 ⟨rfl, hM1, hT1, hx1⟩
    have HM1 := Hid.mk hM1
    have HT1 := Hid.mk hT1
    have hrow := hx1.trans hrow0
    have HR := Hid.mk hrow
    have c4 := (row5 hrow).2.2.2.2
    clear HC c0 hrow0 hM1 hT1 hx1 hrow
    have hplI : (P.length : Int) ≤ 8 := by omega
    go_wp2
    clear c4
    go_loopw [9, 25] (fun _ s25 wr => ∃ (i : Nat), i ≤ P.length ∧ s25 = .int .i64 (i : Nat) ∧ Mch w0 wr (Gr X w wr) x a (n + 1) S most (guL S most s1 (P.take i)) ∧ Turn X w wr ∧ wr.heap[x]? = w1.heap[x]?) (fun _ s25 _ => P.length - (RowKit.intOf s25).toNat)
    case atStart => exact ⟨0, by omega, rfl, by rw [H00.out]; exact HM1.out, HT1.out, rfl⟩
    case round =>
      obtain ⟨i, hi, rfl, hM, hT, hx⟩ := hrel
      by_cases hlt : i < P.length
      · have hlt2 : (i : Int) < P.length := by omega
        have HLT := Hid.mk hlt
        have hib : (i : Int) < 8 := by omega
        have HM := Hid.mk hM
        have HTt := Hid.mk hT
        have HX := Hid.mk hx
        obtain ⟨XM', XB', XT', tb', tr', pv', h'⟩ := hM
        have h5 := (row5 h'.row).2.2.2.2
        have h6 := (row5 (HX.out.trans HR.out)).2.2.2.2
        have hpv : pv' = .slice ad P.length cap := Option.some.inj (h5.symm.trans h6)
        obtain ⟨ad', cap', e1, hcells⟩ := h'.pln
        rw [hpv, HZ.out i] at e1
        cases e1
        rw [HZ.out i] at hcells
        obtain ⟨g, rfl, hg, hXg, hq⟩ := hcells i hlt
        have HG := Hid.mk (fun W (hb : Below wr.heap.size wr W) => guess_c (HM.out.later hb) (gP P i).va (HPV.out _ (by rw [gP_pos P i hlt]; exact List.getElem_mem hlt)) (gP P i).h)
        rw [← HT.out i hlt] at HG
        clear h5 h6 hpv hcells h' hg hXg hi hlt hx hT
        generalize hsn : guL S most s1 (P.take (i + 1)) = sn at *
        have HSN := Hid.mk hsn
        clear hsn
        generalize gP P i = q at *
        obtain ⟨va, hf, hl, hk⟩ := q
        have d0 := hq 0 _ rfl
        have d1 := hq 1 _ rfl
        have d2 := hq 2 _ rfl
        have d3 := hq 3 _ rfl
        rw [Nat.add_zero] at d0
        clear hq
        simp only at *
        have hbB := Hid.mk (below_new wr (.cells #[.int .u64 (va : Nat), .bool hf, .bool hl, .bool hk] 94))
        have hK := heap_alloc_new wr (.cells #[.int .u64 (va : Nat), .bool hf, .bool hl, .bool hk] 94)
        obtain ⟨k0, k1, k2, k3⟩ := TR.cells4 hK
        clear hK
        go_upto_region 7 with fail
        generalize wr.alloc (.cells #[.int .u64 (va : Nat), .bool hf, .bool hl, .bool hk] 94) = w2 at *
        go_wp2_with fail
        refine (HG.out _ hbB.out).mono ?_
        rintro e w3 ⟨rfl, hM3, hT3, hx3⟩
        have hF := H0.out.gr3 HTt.out hbB.out hM3 hT3
        have HF := Hid.mk hF
        have HX3 := Hid.mk ((hx3.trans (hbB.out.block x (HM.out.ltX x (by obtain ⟨_, _, _, _, _, _, h⟩ := HM.out; exact h.cx)))).trans HX.out)
        clear HG d0 d1 d2 d3 k0 k1 k2 k3 hM3 hT3 hx3 hF
        go_wp2
        exact ⟨⟨i + 1, by have := HLT.out; omega, by go_num, by rw [HSN.out]; exact HF.out.1, HF.out.2, HX3.out⟩, by have := HLT.out; simp [RowKit.intOf]; omega⟩
      · have hlt2 : ¬ (i : Int) < P.length := by omega
        obtain rfl : i = P.length := by omega
        rw [HE.out] at hM
        have HM := Hid.mk (And.intro hM hT)
        clear hM hT hx hi hlt
        go_wp2
        go_ret
        exact ⟨rfl, HM.out.1, HM.out.2⟩
  · have hS : kwS S most s y v = s := if_neg he
    have hne := he
    have hm : wrF s.f S y v = s.f := if_neg he
    rw [hS]
    rw [hm] at HC
    clear hS hm
    have hsf : ({ s with f := s.f } : St) = s := rfl
    rw [hsf] at HC
    generalize errA S y = er at *
    go_enter Tryz.func38, Tryz.ntmps38
    go_wp2_with fail
    refine HC.out.mono ?_
    rintro e w1 ⟨rfl, hM1, hT1, -⟩
    have HM1 := Hid.mk (And.intro hM1 hT1)
    clear HC c0 hM1 hT1
    go_wp2
    go_ret
    exact ⟨rfl, HM1.out.1, HM1.out.2⟩
end
end Go.Proofs.YtndjhedoandinaaGreatDoor.MM

namespace Go.Proofs.YtndjhedoandinaaGreatDoor.MM
open Go.RowKit Go.Maps

abbrev yZ : Array Value := #[.int .u64 0, .slice none 0 0, .int .i64 0, .slice none 0 0, .slice none 0 0, .bool false, .int .u64 0, .int .i64 0, .slice none 0 0]
theorem info_F5 : (Tryz.prog.info? 74).map (·.size) = some 2 := by kernel_rfl
theorem info_X9 : (Tryz.prog.info? 34).map (·.size) = some 9 := by kernel_rfl
theorem info_es : (Tryz.prog.info? 30).map (·.size) = some 1 := by kernel_rfl
theorem info_ks : (Tryz.prog.info? 31).map (·.size) = some 1 := by kernel_rfl
theorem zflush7 (i : Int) (one : Bool) (va : Nat) (w : World) :
    Calls Tryz.prog 78 #[.slice none 0 0, .int .i64 i, .bool one, .int .u64 va] w fun r w' => r = .returned (.slice none 0 0) ∧ Below w.heap.size w w' := by
  go_enter Tryz.func78, Tryz.ntmps78
  go_wp2
  go_loopw [9, 10] (fun s9 s10 wr => s9 = .slice none 0 0 ∧ s10 = .int .i64 0 ∧ Below w.heap.size w wr) (fun _ _ _ => 0)
  case atStart => exact ⟨rfl, rfl, Below.refl _ _⟩
  case round =>
    obtain ⟨rfl, rfl, hb⟩ := hrel
    go_wp2
    go_ret
    exact ⟨rfl, hb⟩
theorem zflush8 (i : Int) (one : Bool) (va : Nat) (w : World) :
    Calls Tryz.prog 79 #[.slice none 0 0, .int .i64 i, .bool one, .int .u64 va] w fun r w' => r = .returned (.slice none 0 0) ∧ Below w.heap.size w w' := by
  go_enter Tryz.func79, Tryz.ntmps79
  go_wp2
  go_loopw [9, 10] (fun s9 s10 wr => s9 = .slice none 0 0 ∧ s10 = .int .i64 0 ∧ Below w.heap.size w wr) (fun _ _ _ => 0)
  case atStart => exact ⟨rfl, rfl, Below.refl _ _⟩
  case round =>
    obtain ⟨rfl, rfl, hb⟩ := hrel
    go_wp2
    go_ret
    exact ⟨rfl, hb⟩
theorem results_cell_cell_tmp {fn : Func} {p q u : Tmp} {ty ty' : TypeId} (h : fn.results = #[.cell p ty, .cell q ty', .tmp u]) (tmps : Array Value) (P : Program) (w : World) :
    (results fn tmps).run P w =
      ((asAddr (tmps.getD p undef)).run P w).andThen fun a w₁ => ((loadVar ty a).run P w₁).andThen fun v w₂ => ((asAddr (tmps.getD q undef)).run P w₂).andThen fun a' w₃ => ((loadVar ty' a').run P w₃).andThen fun v' w₄ => .ok (.tuple #[v, v', tmps.getD u undef]) w₄ := by
  simp only [results, h]
  simp [Sem.run_bind, Result.andThen]
theorem results_row_row_tmp {P : Program} {fn : Func} {p q u : Tmp} {ty ty' : TypeId} (h : fn.results = #[.cell p ty, .cell q ty', .tmp u]) (tmps : Array Value) (w : World) (g g' : Nat) (t t' : TypeId) (cs cs' : Array Value) (fr fr' : Nat × Nat) (d d' : TypeDesc)
    (hp : tmps.getD p undef = .pointer (some ⟨g, 0, none⟩)) (hg : w.heap[g]? = some (.cells cs t fr))
    (hu : P.underlying ty = some d) (hd : (match d with | .struct _ | .array _ _ => true | _ => false) = true) (hi : (P.info? ty).map (·.size) = some cs.size)
    (hq : tmps.getD q undef = .pointer (some ⟨g', 0, none⟩)) (hg' : w.heap[g']? = some (.cells cs' t' fr'))
    (hu' : P.underlying ty' = some d') (hd' : (match d' with | .struct _ | .array _ _ => true | _ => false) = true) (hi' : (P.info? ty').map (·.size) = some cs'.size) :
    (results fn tmps).run P w = .ok (.tuple #[.agg cs, .agg cs', tmps.getD u undef]) w := by
  rw [results_cell_cell_tmp h, hp, hq]
  simp [asAddr, run_loadVar_row w g t ty cs fr d hg hu hd hi, run_loadVar_row w g' t' ty' cs' fr' d' hg' hu' hd' hi', Result.andThen]
set_option maxHeartbeats 2000000 in
set_option maxRecDepth 100000 in
theorem zacc_un (kd : Int) (va wd : Nat) (b0 b1 b2 : Bool) (h8 : ¬ (va : Int) % 8 = 0) (w : World) :
    Calls Tryz.prog 27 #[.agg yZ, .int .i64 kd, .int .u64 va, .int .u64 wd, .agg #[.bool b0, .bool b1, .bool b2]] w fun r w' => r = .returned (.tuple #[.agg yZ, .agg #[.int .i64 5, .int .i64 0], .int .u64 0]) ∧ Below w.heap.size w w' := by
  have g0 := heap4_0 w (.cells #[.int .u64 0, .slice none 0 0, .int .i64 0, .slice none 0 0, .slice none 0 0, .bool false, .int .u64 0, .int .i64 0, .slice none 0 0] 34) (.cells #[.bool b0, .bool b1, .bool b2] 71) (.cells #[.int .u64 0, .slice none 0 0, .int .i64 0, .slice none 0 0, .slice none 0 0, .bool false, .int .u64 0, .int .i64 0, .slice none 0 0] 34) (.cells #[.int .i64 0, .int .i64 0] 74)
  have g2 := heap4_2 w (.cells #[.int .u64 0, .slice none 0 0, .int .i64 0, .slice none 0 0, .slice none 0 0, .bool false, .int .u64 0, .int .i64 0, .slice none 0 0] 34) (.cells #[.bool b0, .bool b1, .bool b2] 71) (.cells #[.int .u64 0, .slice none 0 0, .int .i64 0, .slice none 0 0, .slice none 0 0, .bool false, .int .u64 0, .int .i64 0, .slice none 0 0] 34) (.cells #[.int .i64 0, .int .i64 0] 74)
  have g3 := heap4_3 w (.cells #[.int .u64 0, .slice none 0 0, .int .i64 0, .slice none 0 0, .slice none 0 0, .bool false, .int .u64 0, .int .i64 0, .slice none 0 0] 34) (.cells #[.bool b0, .bool b1, .bool b2] 71) (.cells #[.int .u64 0, .slice none 0 0, .int .i64 0, .slice none 0 0, .slice none 0 0, .bool false, .int .u64 0, .int .i64 0, .slice none 0 0] 34) (.cells #[.int .i64 0, .int .i64 0] 74)
  have hB := below4 w (.cells #[.int .u64 0, .slice none 0 0, .int .i64 0, .slice none 0 0, .slice none 0 0, .bool false, .int .u64 0, .int .i64 0, .slice none 0 0] 34) (.cells #[.bool b0, .bool b1, .bool b2] 71) (.cells #[.int .u64 0, .slice none 0 0, .int .i64 0, .slice none 0 0, .slice none 0 0, .bool false, .int .u64 0, .int .i64 0, .slice none 0 0] 34) (.cells #[.int .i64 0, .int .i64 0] 74)
  go_enter Tryz.func27, Tryz.ntmps27
  go_upto_region 1 with fail
  generalize (((w.alloc (.cells #[.int .u64 0, .slice none 0 0, .int .i64 0, .slice none 0 0, .slice none 0 0, .bool false, .int .u64 0, .int .i64 0, .slice none 0 0] 34)).alloc (.cells #[.bool b0, .bool b1, .bool b2] 71)).alloc (.cells #[.int .u64 0, .slice none 0 0, .int .i64 0, .slice none 0 0, .slice none 0 0, .bool false, .int .u64 0, .int .i64 0, .slice none 0 0] 34)).alloc (.cells #[.int .i64 0, .int .i64 0] 74) = W at *
  obtain ⟨c0, c1, c2, c3, c4, c5, c6, c7, c8⟩ := cells9 g0
  go_wp2_with
    first
    | (refine wpList_store_segTo rfl 34 _ _ rfl rfl (w.heap.size + 1 + 1) 0 _ #[.int .u64 0, .slice none 0 0, .int .i64 0, .slice none 0 0, .slice none 0 0, .bool false, .int .u64 0, .int .i64 0, .slice none 0 0] rfl rfl rfl 34 _ g2 (show 0 + 9 ≤ 9 by decide) info_X9 (by simp [Value.oneCell']) #[.int .u64 0, .slice none 0 0, .int .i64 0, .slice none 0 0, .slice none 0 0, .bool false, .int .u64 0, .int .i64 0, .slice none 0 0] rfl ?_
       intro wa hra hta
       replace g3 := block_turn hta g3 (by omega))
    | (refine wpList_store_segTo rfl 74 _ _ rfl rfl (w.heap.size + 1 + 1 + 1) 0 _ #[.int .i64 5, .int .i64 0] rfl rfl rfl 74 _ g3 (show 0 + 2 ≤ 2 by decide) info_F5 (by simp [Value.oneCell']) #[.int .i64 5, .int .i64 0] rfl ?_
       intro wb hrb htb
       replace hra := block_turn htb hra (by omega))
    | fail
  refine bodyPost_ret (v := .tuple #[.agg yZ, .agg #[.int .i64 5, .int .i64 0], .int .u64 0]) ?_ rfl ⟨rfl, below_turn (below_turn hB hta (by omega)) htb (by omega)⟩
  exact results_row_row_tmp (p := 10) (q := 11) (u := 12) rfl _ _ (w.heap.size + 1 + 1) (w.heap.size + 1 + 1 + 1) 34 74 _ _ (0, 0) (0, 0) _ _ rfl hra Tryz.underlying34 rfl info_X9 rfl hrb Tryz.underlying74 rfl info_F5

set_option maxHeartbeats 2000000 in
set_option maxRecDepth 100000 in
theorem zacc_off (kd : Int) (va wd : Nat) (b0 b1 b2 : Bool) (h8 : (va : Int) % 8 = 0) (w : World) :
    Calls Tryz.prog 27 #[.agg yZ, .int .i64 kd, .int .u64 va, .int .u64 wd, .agg #[.bool b0, .bool b1, .bool b2]] w fun r w' => r = .returned (.tuple #[.agg yZ, .agg #[.int .i64 1, .int .i64 0], .int .u64 0]) ∧ Below w.heap.size w w' := by
  have g0 := heap4_0 w (.cells #[.int .u64 0, .slice none 0 0, .int .i64 0, .slice none 0 0, .slice none 0 0, .bool false, .int .u64 0, .int .i64 0, .slice none 0 0] 34) (.cells #[.bool b0, .bool b1, .bool b2] 71) (.cells #[.int .u64 0, .slice none 0 0, .int .i64 0, .slice none 0 0, .slice none 0 0, .bool false, .int .u64 0, .int .i64 0, .slice none 0 0] 34) (.cells #[.int .i64 0, .int .i64 0] 74)
  have g2 := heap4_2 w (.cells #[.int .u64 0, .slice none 0 0, .int .i64 0, .slice none 0 0, .slice none 0 0, .bool false, .int .u64 0, .int .i64 0, .slice none 0 0] 34) (.cells #[.bool b0, .bool b1, .bool b2] 71) (.cells #[.int .u64 0, .slice none 0 0, .int .i64 0, .slice none 0 0, .slice none 0 0, .bool false, .int .u64 0, .int .i64 0, .slice none 0 0] 34) (.cells #[.int .i64 0, .int .i64 0] 74)
  have g3 := heap4_3 w (.cells #[.int .u64 0, .slice none 0 0, .int .i64 0, .slice none 0 0, .slice none 0 0, .bool false, .int .u64 0, .int .i64 0, .slice none 0 0] 34) (.cells #[.bool b0, .bool b1, .bool b2] 71) (.cells #[.int .u64 0, .slice none 0 0, .int .i64 0, .slice none 0 0, .slice none 0 0, .bool false, .int .u64 0, .int .i64 0, .slice none 0 0] 34) (.cells #[.int .i64 0, .int .i64 0] 74)
  have hB := below4 w (.cells #[.int .u64 0, .slice none 0 0, .int .i64 0, .slice none 0 0, .slice none 0 0, .bool false, .int .u64 0, .int .i64 0, .slice none 0 0] 34) (.cells #[.bool b0, .bool b1, .bool b2] 71) (.cells #[.int .u64 0, .slice none 0 0, .int .i64 0, .slice none 0 0, .slice none 0 0, .bool false, .int .u64 0, .int .i64 0, .slice none 0 0] 34) (.cells #[.int .i64 0, .int .i64 0] 74)
  go_enter Tryz.func27, Tryz.ntmps27
  go_upto_region 1 with fail
  generalize (((w.alloc (.cells #[.int .u64 0, .slice none 0 0, .int .i64 0, .slice none 0 0, .slice none 0 0, .bool false, .int .u64 0, .int .i64 0, .slice none 0 0] 34)).alloc (.cells #[.bool b0, .bool b1, .bool b2] 71)).alloc (.cells #[.int .u64 0, .slice none 0 0, .int .i64 0, .slice none 0 0, .slice none 0 0, .bool false, .int .u64 0, .int .i64 0, .slice none 0 0] 34)).alloc (.cells #[.int .i64 0, .int .i64 0] 74) = W at *
  obtain ⟨c0, c1, c2, c3, c4, c5, c6, c7, c8⟩ := cells9 g0
  go_wp2_with
    first
    | (refine wpList_store_segTo rfl 34 _ _ rfl rfl (w.heap.size + 1 + 1) 0 _ #[.int .u64 0, .slice none 0 0, .int .i64 0, .slice none 0 0, .slice none 0 0, .bool false, .int .u64 0, .int .i64 0, .slice none 0 0] rfl rfl rfl 34 _ g2 (show 0 + 9 ≤ 9 by decide) info_X9 (by simp [Value.oneCell']) #[.int .u64 0, .slice none 0 0, .int .i64 0, .slice none 0 0, .slice none 0 0, .bool false, .int .u64 0, .int .i64 0, .slice none 0 0] rfl ?_
       intro wa hra hta
       replace g3 := block_turn hta g3 (by omega))
    | (refine wpList_store_segTo rfl 74 _ _ rfl rfl (w.heap.size + 1 + 1 + 1) 0 _ #[.int .i64 1, .int .i64 0] rfl rfl rfl 74 _ g3 (show 0 + 2 ≤ 2 by decide) info_F5 (by simp [Value.oneCell']) #[.int .i64 1, .int .i64 0] rfl ?_
       intro wb hrb htb
       replace hra := block_turn htb hra (by omega))
    | fail
  refine bodyPost_ret (v := .tuple #[.agg yZ, .agg #[.int .i64 1, .int .i64 0], .int .u64 0]) ?_ rfl ⟨rfl, below_turn (below_turn hB hta (by omega)) htb (by omega)⟩
  exact results_row_row_tmp (p := 10) (q := 11) (u := 12) rfl _ _ (w.heap.size + 1 + 1) (w.heap.size + 1 + 1 + 1) 34 74 _ _ (0, 0) (0, 0) _ _ rfl hra Tryz.underlying34 rfl info_X9 rfl hrb Tryz.underlying74 rfl info_F5

set_option maxHeartbeats 2000000 in
theorem zguess (va : Nat) (b0 b1 b2 : Bool) (w : World) :
    Calls Tryz.prog 33 #[.agg yZ, .int .u64 va, .agg #[.bool b0, .bool b1, .bool b2]] w fun r w' => r = .returned (.agg yZ) ∧ Below w.heap.size w w' := by
  have g0 := heap3_0 w (.cells #[.int .u64 0, .slice none 0 0, .int .i64 0, .slice none 0 0, .slice none 0 0, .bool false, .int .u64 0, .int .i64 0, .slice none 0 0] 34) (.cells #[.bool b0, .bool b1, .bool b2] 71) (.cells #[.int .u64 0, .slice none 0 0, .int .i64 0, .slice none 0 0, .slice none 0 0, .bool false, .int .u64 0, .int .i64 0, .slice none 0 0] 34)
  have g2 := heap3_2 w (.cells #[.int .u64 0, .slice none 0 0, .int .i64 0, .slice none 0 0, .slice none 0 0, .bool false, .int .u64 0, .int .i64 0, .slice none 0 0] 34) (.cells #[.bool b0, .bool b1, .bool b2] 71) (.cells #[.int .u64 0, .slice none 0 0, .int .i64 0, .slice none 0 0, .slice none 0 0, .bool false, .int .u64 0, .int .i64 0, .slice none 0 0] 34)
  have hB := below3 w (.cells #[.int .u64 0, .slice none 0 0, .int .i64 0, .slice none 0 0, .slice none 0 0, .bool false, .int .u64 0, .int .i64 0, .slice none 0 0] 34) (.cells #[.bool b0, .bool b1, .bool b2] 71) (.cells #[.int .u64 0, .slice none 0 0, .int .i64 0, .slice none 0 0, .slice none 0 0, .bool false, .int .u64 0, .int .i64 0, .slice none 0 0] 34)
  go_enter Tryz.func33, Tryz.ntmps33
  go_upto_region 1 with fail
  generalize ((w.alloc (.cells #[.int .u64 0, .slice none 0 0, .int .i64 0, .slice none 0 0, .slice none 0 0, .bool false, .int .u64 0, .int .i64 0, .slice none 0 0] 34)).alloc (.cells #[.bool b0, .bool b1, .bool b2] 71)).alloc (.cells #[.int .u64 0, .slice none 0 0, .int .i64 0, .slice none 0 0, .slice none 0 0, .bool false, .int .u64 0, .int .i64 0, .slice none 0 0] 34) = W at *
  obtain ⟨c0, c1, c2, c3, c4, c5, c6, c7, c8⟩ := cells9 g0
  go_wp2_with
    first
    | (refine wpList_store_segTo rfl 34 _ _ rfl rfl (w.heap.size + 1 + 1) 0 _ #[.int .u64 0, .slice none 0 0, .int .i64 0, .slice none 0 0, .slice none 0 0, .bool false, .int .u64 0, .int .i64 0, .slice none 0 0] rfl rfl rfl 34 _ g2 (show 0 + 9 ≤ 9 by decide) info_X9 (by simp [Value.oneCell']) #[.int .u64 0, .slice none 0 0, .int .i64 0, .slice none 0 0, .slice none 0 0, .bool false, .int .u64 0, .int .i64 0, .slice none 0 0] rfl ?_
       intro wa hra hta)
    | fail
  refine bodyPost_ret (v := .agg yZ) ?_ rfl ⟨rfl, below_turn hB hta (by omega)⟩
  exact results_cell_row rfl _ _ (w.heap.size + 1 + 1) 34 _ _ _ rfl hra Tryz.underlying34 rfl info_X9

set_option maxHeartbeats 4000000 in
set_option maxRecDepth 100000 in
theorem zdrop (n : Int) (m : Bool) (w : World) :
    Calls Tryz.prog 34 #[.agg yZ, .int .i64 n, .bool m] w fun r w' => r = .returned (.agg yZ) ∧ Below w.heap.size w w' := by
  have g0 := heap2_0 w (.cells #[.int .u64 0, .slice none 0 0, .int .i64 0, .slice none 0 0, .slice none 0 0, .bool false, .int .u64 0, .int .i64 0, .slice none 0 0] 34) (.cells #[.int .u64 0, .slice none 0 0, .int .i64 0, .slice none 0 0, .slice none 0 0, .bool false, .int .u64 0, .int .i64 0, .slice none 0 0] 34)
  have g2 := heap_alloc2_new w (.cells #[.int .u64 0, .slice none 0 0, .int .i64 0, .slice none 0 0, .slice none 0 0, .bool false, .int .u64 0, .int .i64 0, .slice none 0 0] 34) (.cells #[.int .u64 0, .slice none 0 0, .int .i64 0, .slice none 0 0, .slice none 0 0, .bool false, .int .u64 0, .int .i64 0, .slice none 0 0] 34)
  have hB := below2 w (.cells #[.int .u64 0, .slice none 0 0, .int .i64 0, .slice none 0 0, .slice none 0 0, .bool false, .int .u64 0, .int .i64 0, .slice none 0 0] 34) (.cells #[.int .u64 0, .slice none 0 0, .int .i64 0, .slice none 0 0, .slice none 0 0, .bool false, .int .u64 0, .int .i64 0, .slice none 0 0] 34)
  go_enter Tryz.func34, Tryz.ntmps34
  go_upto_region 1 with fail
  generalize (w.alloc (.cells #[.int .u64 0, .slice none 0 0, .int .i64 0, .slice none 0 0, .slice none 0 0, .bool false, .int .u64 0, .int .i64 0, .slice none 0 0] 34)).alloc (.cells #[.int .u64 0, .slice none 0 0, .int .i64 0, .slice none 0 0, .slice none 0 0, .bool false, .int .u64 0, .int .i64 0, .slice none 0 0] 34) = W at *
  obtain ⟨c0, c1, c2, c3, c4, c5, c6, c7, c8⟩ := cells9 g0
  go_wp2
  go_loopw [7, 8] (fun s7 s8 wr => s7 = .slice none 0 0 ∧ s8 = .int .i64 0 ∧ wr = W) (fun _ _ _ => 0)
  case atStart => exact ⟨rfl, rfl, rfl⟩
  case round =>
    obtain ⟨rfl, rfl, rfl⟩ := hrel
    go_wp2
    go_loopw [9, 10] (fun s9 s10 wq => s9 = .slice none 0 0 ∧ s10 = .int .i64 0 ∧ wq = wr) (fun _ _ _ => 0)
    case atStart => exact ⟨rfl, rfl, rfl⟩
    case round =>
      obtain ⟨rfl, rfl, rfl⟩ := hrel
      have hsz : w.heap.size + 1 < wr.heap.size := block_lt g2
      go_wp2_with
        first
        | (refine wpList_store_segTo rfl 30 _ _ rfl rfl w.heap.size 3 _ #[.slice none 0 0] rfl rfl rfl 34 _ g0 (show 3 + 1 ≤ 9 by decide) info_es (by simp [Value.oneCell']) #[.int .u64 0, .slice none 0 0, .int .i64 0, .slice none 0 0, .slice none 0 0, .bool false, .int .u64 0, .int .i64 0, .slice none 0 0] rfl ?_
           intro wa hra hta
           replace g2 := block_turn hta g2 (by omega))
        | (refine wpList_store_segTo rfl 31 _ _ rfl rfl w.heap.size 4 _ #[.slice none 0 0] rfl rfl rfl 34 _ hra (show 4 + 1 ≤ 9 by decide) info_ks (by simp [Value.oneCell']) #[.int .u64 0, .slice none 0 0, .int .i64 0, .slice none 0 0, .slice none 0 0, .bool false, .int .u64 0, .int .i64 0, .slice none 0 0] rfl ?_
           intro wb hrb htb
           replace g2 := block_turn htb g2 (by omega)
           obtain ⟨c0, c1, c2, c3, c4, c5, c6, c7, c8⟩ := cells9 hrb)
        | (refine wpList_store_segTo rfl 34 _ _ rfl rfl (w.heap.size + 1) 0 _ #[.int .u64 0, .slice none 0 0, .int .i64 0, .slice none 0 0, .slice none 0 0, .bool false, .int .u64 0, .int .i64 0, .slice none 0 0] rfl rfl rfl 34 _ g2 (show 0 + 9 ≤ 9 by decide) info_X9 (by simp [Value.oneCell']) #[.int .u64 0, .slice none 0 0, .int .i64 0, .slice none 0 0, .slice none 0 0, .bool false, .int .u64 0, .int .i64 0, .slice none 0 0] rfl ?_
           intro wc hrc htc)
        | fail
      refine bodyPost_ret (v := .agg yZ) ?_ rfl ⟨rfl, below_turn (below_turn (below_turn hB hta (by omega)) htb (by omega)) htc (by omega)⟩
      exact results_cell_row rfl _ _ (w.heap.size + 1) 34 _ _ _ rfl hrc Tryz.underlying34 rfl info_X9

set_option maxHeartbeats 4000000 in
set_option maxRecDepth 100000 in
theorem zflush (i : Int) (one : Bool) (va : Nat) (w : World) :
    Calls Tryz.prog 35 #[.agg yZ, .int .i64 i, .bool one, .int .u64 va] w fun r w' => r = .returned (.agg yZ) ∧ Below w.heap.size w w' := by
  have g0 := heap2_0 w (.cells #[.int .u64 0, .slice none 0 0, .int .i64 0, .slice none 0 0, .slice none 0 0, .bool false, .int .u64 0, .int .i64 0, .slice none 0 0] 34) (.cells #[.int .u64 0, .slice none 0 0, .int .i64 0, .slice none 0 0, .slice none 0 0, .bool false, .int .u64 0, .int .i64 0, .slice none 0 0] 34)
  have g2 := heap_alloc2_new w (.cells #[.int .u64 0, .slice none 0 0, .int .i64 0, .slice none 0 0, .slice none 0 0, .bool false, .int .u64 0, .int .i64 0, .slice none 0 0] 34) (.cells #[.int .u64 0, .slice none 0 0, .int .i64 0, .slice none 0 0, .slice none 0 0, .bool false, .int .u64 0, .int .i64 0, .slice none 0 0] 34)
  have hB := below2 w (.cells #[.int .u64 0, .slice none 0 0, .int .i64 0, .slice none 0 0, .slice none 0 0, .bool false, .int .u64 0, .int .i64 0, .slice none 0 0] 34) (.cells #[.int .u64 0, .slice none 0 0, .int .i64 0, .slice none 0 0, .slice none 0 0, .bool false, .int .u64 0, .int .i64 0, .slice none 0 0] 34)
  go_enter Tryz.func35, Tryz.ntmps35
  go_upto_region 1 with fail
  generalize (w.alloc (.cells #[.int .u64 0, .slice none 0 0, .int .i64 0, .slice none 0 0, .slice none 0 0, .bool false, .int .u64 0, .int .i64 0, .slice none 0 0] 34)).alloc (.cells #[.int .u64 0, .slice none 0 0, .int .i64 0, .slice none 0 0, .slice none 0 0, .bool false, .int .u64 0, .int .i64 0, .slice none 0 0] 34) = W at *
  obtain ⟨-, -, -, c3, c4, -⟩ := cells9 g0
  go_wp2_with fail
  refine (zflush7 i one va W).mono ?_
  rintro e w1 ⟨rfl, hb⟩
  replace g0 := block_later hb g0
  replace g2 := block_later hb g2
  replace hB := below_tr hB hb
  replace c4 := cell_later hb c4
  clear c3 hb
  have hsz : w.heap.size + 1 < w1.heap.size := block_lt g2
  go_wp2_with
    first
    | (refine wpList_store_segTo rfl 30 _ _ rfl rfl w.heap.size 3 _ #[.slice none 0 0] rfl rfl rfl 34 _ g0 (show 3 + 1 ≤ 9 by decide) info_es (by simp [Value.oneCell']) #[.int .u64 0, .slice none 0 0, .int .i64 0, .slice none 0 0, .slice none 0 0, .bool false, .int .u64 0, .int .i64 0, .slice none 0 0] rfl ?_
       intro wa hra hta
       replace g2 := block_turn hta g2 (by omega)
       replace c4 := (cells9 hra).2.2.2.2.1)
    | fail
  refine (zflush8 i one va _).mono ?_
  rintro e w2 ⟨rfl, hb⟩
  replace hra := block_later hb hra
  replace g2 := block_later hb g2
  have hB2 := below_tr (below_turn hB hta (by omega)) hb
  clear c4 hb
  go_wp2_with
    first
    | (refine wpList_store_segTo rfl 31 _ _ rfl rfl w.heap.size 4 _ #[.slice none 0 0] rfl rfl rfl 34 _ hra (show 4 + 1 ≤ 9 by decide) info_ks (by simp [Value.oneCell']) #[.int .u64 0, .slice none 0 0, .int .i64 0, .slice none 0 0, .slice none 0 0, .bool false, .int .u64 0, .int .i64 0, .slice none 0 0] rfl ?_
       intro wb hrb htb
       replace g2 := block_turn htb g2 (by omega)
       obtain ⟨c0, c1, c2, c3, c4, c5, c6, c7, c8⟩ := cells9 hrb)
    | (refine wpList_store_segTo rfl 34 _ _ rfl rfl (w.heap.size + 1) 0 _ #[.int .u64 0, .slice none 0 0, .int .i64 0, .slice none 0 0, .slice none 0 0, .bool false, .int .u64 0, .int .i64 0, .slice none 0 0] rfl rfl rfl 34 _ g2 (show 0 + 9 ≤ 9 by decide) info_X9 (by simp [Value.oneCell']) #[.int .u64 0, .slice none 0 0, .int .i64 0, .slice none 0 0, .slice none 0 0, .bool false, .int .u64 0, .int .i64 0, .slice none 0 0] rfl ?_
       intro wc hrc htc)
    | fail
  refine bodyPost_ret (v := .agg yZ) ?_ rfl ⟨rfl, below_turn (below_turn hB2 htb (by omega)) htc (by omega)⟩
  exact results_cell_row rfl _ _ (w.heap.size + 1) 34 _ _ _ rfl hrc Tryz.underlying34 rfl info_X9

theorem zmwrite (y v : Nat) (w : World) :
    Calls Tryz.prog 31 #[.agg #[.int .u64 0, .slice none 0 0], .int .u64 (y : Nat), .int .u64 (v : Nat)] w fun e w1 => ∃ p c, e = .returned (.tuple #[.agg #[.int .u64 0, .slice p 0 c], .int .i64 (errA 0 y)]) ∧ Below w.heap.size w w1 := by
  have he : errA 0 y ≠ 0 := by
    unfold errA
    split
    · decide
    · rw [if_pos (Nat.zero_le _)]; decide
  refine (rwrite_c (S := 0) (w := w) (B := fun _ => False) (v := .slice none 0 0) (L := []) (Or.inl ⟨rfl, rfl⟩) (by decide) y v).mono ?_
  rintro e w1 ⟨v', q1, q2, q3⟩
  rw [if_neg he] at q2
  obtain ⟨p, c, rfl, -⟩ := q2.form
  exact ⟨p, c, q1, q3⟩
theorem zerr (y : Nat) : errA 0 y ≠ 0 := by
  unfold errA
  split
  · decide
  · rw [if_pos (Nat.zero_le _)]; decide
set_option maxHeartbeats 4000000 in
theorem zwrite (y v : Nat) (w : World) :
    Calls Tryz.prog 39 #[.agg yZ, .int .u64 (y : Nat), .int .u64 (v : Nat)] w fun r w' => r = .returned (.tuple #[.agg yZ, .int .i64 (errA 0 y)]) ∧ Below w.heap.size w w' := by
  have g0 := heap2_0 w (.cells #[.int .u64 0, .slice none 0 0, .int .i64 0, .slice none 0 0, .slice none 0 0, .bool false, .int .u64 0, .int .i64 0, .slice none 0 0] 34) (.cells #[.int .u64 0, .slice none 0 0, .int .i64 0, .slice none 0 0, .slice none 0 0, .bool false, .int .u64 0, .int .i64 0, .slice none 0 0] 34)
  have g2 := heap_alloc2_new w (.cells #[.int .u64 0, .slice none 0 0, .int .i64 0, .slice none 0 0, .slice none 0 0, .bool false, .int .u64 0, .int .i64 0, .slice none 0 0] 34) (.cells #[.int .u64 0, .slice none 0 0, .int .i64 0, .slice none 0 0, .slice none 0 0, .bool false, .int .u64 0, .int .i64 0, .slice none 0 0] 34)
  have hB := below2 w (.cells #[.int .u64 0, .slice none 0 0, .int .i64 0, .slice none 0 0, .slice none 0 0, .bool false, .int .u64 0, .int .i64 0, .slice none 0 0] 34) (.cells #[.int .u64 0, .slice none 0 0, .int .i64 0, .slice none 0 0, .slice none 0 0, .bool false, .int .u64 0, .int .i64 0, .slice none 0 0] 34)
  have he := zerr y
  have HW := Hid.mk (zmwrite y v)
  generalize errA 0 y = er at *
  go_enter Tryz.func39, Tryz.ntmps39
  go_upto_region 1 with fail
  generalize (w.alloc (.cells #[.int .u64 0, .slice none 0 0, .int .i64 0, .slice none 0 0, .slice none 0 0, .bool false, .int .u64 0, .int .i64 0, .slice none 0 0] 34)).alloc (.cells #[.int .u64 0, .slice none 0 0, .int .i64 0, .slice none 0 0, .slice none 0 0, .bool false, .int .u64 0, .int .i64 0, .slice none 0 0] 34) = W at *
  obtain ⟨c0, c1, c2, c3, c4, c5, c6, c7, c8⟩ := cells9 g0
  go_wp2_with fail
  refine (HW.out W).mono ?_
  rintro e w1 ⟨p, c, rfl, hb⟩
  have hb2 := below_new w1 (.cells #[.int .u64 0, .slice p 0 c] 29)
  clear c0 c1 c2 c3 c4 c5 c6 c7 c8
  go_upto_region 2 with fail
  generalize w1.alloc (.cells #[.int .u64 0, .slice p 0 c] 29) = w2 at *
  replace g0 := block_later hb2 (block_later hb g0)
  replace g2 := block_later hb2 (block_later hb g2)
  replace hB := below_tr (below_tr hB hb) hb2
  obtain ⟨c0, c1, c2, c3, c4, c5, c6, c7, c8⟩ := cells9 g0
  go_wp2_with
    first
    | (refine wpList_store_segTo rfl 34 _ _ rfl rfl (w.heap.size + 1) 0 _ #[.int .u64 0, .slice none 0 0, .int .i64 0, .slice none 0 0, .slice none 0 0, .bool false, .int .u64 0, .int .i64 0, .slice none 0 0] rfl rfl rfl 34 _ g2 (show 0 + 9 ≤ 9 by decide) info_X9 (by simp [Value.oneCell']) #[.int .u64 0, .slice none 0 0, .int .i64 0, .slice none 0 0, .slice none 0 0, .bool false, .int .u64 0, .int .i64 0, .slice none 0 0] rfl ?_
       intro wc hrc htc)
    | fail
  refine bodyPost_ret (v := .tuple #[.agg yZ, .int .i64 er]) ?_ rfl ⟨rfl, below_turn hB htc (by omega)⟩
  exact TR.res_row_tmp (p := 6) (u := 7) rfl _ _ (w.heap.size + 1) 34 _ _ _ rfl hrc Tryz.underlying34 rfl info_X9
end Go.Proofs.YtndjhedoandinaaGreatDoor.MM
