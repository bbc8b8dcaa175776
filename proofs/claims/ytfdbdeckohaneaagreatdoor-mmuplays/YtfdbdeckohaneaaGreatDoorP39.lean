/- P39 -/
import Derived.Test.YtfdbdeckohaneaaGreatDoorP35
import Derived.Test.YtfdbdeckohaneaaGreatDoorP33
set_option maxHeartbeats 16000000
set_option maxRecDepth 100000
namespace Go.Proofs.YtfdbdeckohaneaaGreatDoor.MM.PL
open Go.RowKit
abbrev En := MM.Pl
abbrev gE (l : List En) (i : Nat) : En := MM.gP l i
theorem qbp (l : List En) (i : Nat) (h : i < l.length) : gE l i = l[i] := by
 unfold gE MM.gP
 rw [List.getD_eq_getElem?_getD, List.getElem?_eq_getElem h]; rfl
theorem len (e : En) : e.cs.length = 4 := rfl
theorem one (e : En) : ∀ u ∈ e.cs, u.oneCell' = true := by
 intro u hu
 simp only [MM.Pl.cs, List.mem_cons, List.not_mem_nil, or_false] at hu
 rcases hu with rfl | rfl | rfl | rfl <;> rfl
def ecs : List En → List Value
 | [] => []
 | e :: l => e.cs ++ ecs l
theorem qed (l m : List En) : ecs (l ++ m) = ecs l ++ ecs m := by
 induction l with
 | nil => rfl
 | cons e l ih => show e.cs ++ ecs (l ++ m) = _; rw [ih]; exact (List.append_assoc ..).symm
theorem qau (l : List En) : (ecs l).length = l.length * 4 := by
 induction l with
 | nil => rfl
 | cons e l ih => show (e.cs ++ ecs l).length = _; rw [List.length_append, ih, len, List.length_cons]; omega
theorem qfg (l : List En) : ∀ u ∈ ecs l, u.oneCell' = true := by
 induction l with
 | nil => intro u hu; cases hu
 | cons e l ih =>
  intro u hu
  rcases List.mem_append.1 hu with h | h
  ·exact one e u h
  ·exact ih u h
theorem qel (l : List En) (i j : Nat) (hj : j < 4) (hi : i < l.length) : (ecs l)[i * 4 + j]? = ((gE l i)).cs[j]? := by
 induction l generalizing i with
 | nil => simp at hi
 | cons e l ih =>
  cases i with
  | zero =>
   show (e.cs ++ ecs l)[0 * 4 + j]? = _
   rw [List.getElem?_append_left (by rw [len]; omega), Nat.zero_mul, Nat.zero_add]
   rfl
  | succ i =>
   show (e.cs ++ ecs l)[(i + 1) * 4 + j]? = _
   rw [List.getElem?_append_right (by rw [len]; omega), len, show (i + 1) * 4 + j - 4 = i * 4 + j by omega, ih i (by simpa using hi)]
   rfl
def RdA (w : World) (ad : Option Addr) (l : List En) : Prop :=
 ∀ i, i < l.length → ∃ g o, ad = some ⟨g, o, none⟩ ∧ g < w.heap.size ∧ ∀ j u, ((gE l i)).cs[j]? = some u → w.cell? ⟨g, o + i * 4 + j, none⟩ = some u
theorem RdA.kept {w w' : World} {ad : Option Addr} {l : List En} (h : RdA w ad l) (hs : w.heap.size ≤ w'.heap.size) (hb : ∀ a, ad = some a → a.block < w.heap.size → w'.heap[a.block]? = w.heap[a.block]?) : RdA w' ad l := fun i hi => by
 obtain ⟨g, o, rfl, hg, hc⟩ := h i hi
 exact ⟨g, o, rfl, Nat.lt_of_lt_of_le hg hs, fun j u hu => (World.cell?_of_block (a := ⟨g, o + i * 4 + j, none⟩) (hb ⟨g, o, none⟩ rfl hg)).trans (hc j u hu)⟩
theorem RdA.later {w w' : World} {ad : Option Addr} {l : List En} (h : RdA w ad l) (hb : Below w.heap.size w w') : RdA w' ad l :=
 h.kept hb.size (fun _ _ hlt => hb.block _ hlt)
theorem RdA.nil (w : World) (ad : Option Addr) : RdA w ad [] := fun _ hi => absurd hi (Nat.not_lt_zero _)
theorem RdA.cells {w : World} {g o : Nat} {l : List En} (h : RdA w (some ⟨g, o, none⟩) l) : ∀ j u, (ecs l)[j]? = some u → w.cell? ((⟨g, o, none⟩ : Addr).add j) = some u := by
 intro j u hu
 have hj : j < l.length * 4 := by rw [← qau]; exact (List.getElem?_eq_some_iff.1 hu).1
 have e : j = j / 4 * 4 + j % 4 := by omega
 obtain ⟨g', o', e1, hg, hc⟩ := h (j / 4) (by omega)
 cases e1
 rw [e, qel l _ _ (by omega) (by omega)] at hu
 have := hc _ _ hu
 rw [Addr.add_lit]
 rwa [show o + j / 4 * 4 + j % 4 = o + j by omega] at this
theorem own_rd {w : World} {base : Nat} {T : TypeId} {v : Value} {l : List En} (h : w.ownsRow base T 4 v l.length (ecs l)) : ∃ ad cap, v = .slice ad l.length cap ∧ RdA w ad l ∧ (∀ a, ad = some a → base ≤ a.block ∧ a.block < w.heap.size) := by
 have hl := h.lt
 rcases h.2 with ⟨rfl, h0⟩ | ⟨g, cap, cur, rfl, hb, hg, hr⟩
 ·exact ⟨none, 0, by rw [h0], fun i hi => by omega, fun a ha => by cases ha⟩
 ·refine ⟨some ⟨g, 0, none⟩, cap, rfl, fun i hi => ⟨g, 0, rfl, (hl g rfl).2, fun j u hu => ?_⟩, fun a ha => by cases ha; exact hl g rfl⟩
  have hj : j < 4 := by rw [← len (gE l i)]; exact (List.getElem?_eq_some_iff.1 hu).1
  have := h.cells rfl (i * 4 + j) u (by rw [qel l i j hj hi]; exact hu)
  rw [Addr.add_lit] at this
  rwa [show 0 + i * 4 + j = 0 + (i * 4 + j) by omega]
theorem infoP {P : Program} {t : TypeId} {z : Option Value} {s b : Nat} (h : (P.info? t).map (fun i => (i.zero, i.size, i.bytes)) = some (z, s, b)) : ∃ i, P.info? t = some i ∧ i.zero = z ∧ i.size = s ∧ i.bytes = b := by
 cases hq : P.info? t with
 | none => rw [hq] at h; cases h
 | some i =>
  rw [hq] at h
  simp only [Option.map_some, Option.some.injEq, Prod.mk.injEq] at h
  exact ⟨i, rfl, h.1, h.2.1, h.2.2⟩
structure ETy (tS tE : TypeId) : Prop where
 sl : Tryz.prog.underlying tS = some (.slice tE)
 info : (Tryz.prog.info? tE).map (fun i => (i.zero, i.size, i.bytes)) = some (some (.agg #[.int .u64 0, .bool false, .bool false, .bool false]), 4, 16)
theorem etyT : ETy 77 76 := ⟨Tryz.underlying77, by kernel_rfl⟩
section
variable {ops : Array Oper} {rest : List Oper} {o : Oper} {a : Act} {Q : Exit → Act → World → Prop}
theorem qbc {tS tE : TypeId} (hT : ETy tS tE) (w : World) (hg : o.guard = none) (s x : Operand) (hop : o.op = .call { callee := .builtin .append, args := #[s, x], argTypes := #[tS, tS] })
  (base : Nat) (v : Value) (l : List En) (hs : a.eval s = v) (hown : w.ownsRow base tE 4 v l.length (ecs l)) (m : List En) (ad : Addr) (c : Nat) (hx : a.eval x = .slice (some ad) m.length c) (hc : ∀ j u, (ecs m)[j]? = some u → w.cell? (ad.add j) = some u) (hp : 0 < m.length) (hlen : l.length + m.length ≤ 100000) (hbase : base ≤ w.heap.size) (H : Nat) (hH : w.heap.size = H)
  (h : ∀ g cap w', w'.ownsRow base tE 4 (.slice (some ⟨g, 0, none⟩) (l.length + m.length) cap) (l ++ m).length (ecs (l ++ m)) → w.grownBy w' v.ownBlock → (v.ownBlock = some g ∨ g = H) → g < w'.heap.size → wpList Tryz.prog ops Q rest (a.put o.dst (.slice (some ⟨g, 0, none⟩) (l.length + m.length) cap)) w') :
  wpList Tryz.prog ops Q (o :: rest) a w := by
 obtain ⟨i0, hi, hz0, hz1, hz2⟩ := infoP hT.info
 refine wpList_append_lies w hg s x tS hop base tE i0 _ 4 16 hT.sl hi hz0 hz1 hz2 rfl (by decide) v l.length (ecs l) hs hown ad m.length c (ecs m) hx (qau m) hc (qfg m) hp (by unfold maxLen; omega) (by omega) hbase H hH ?_
 intro g cap w' hown' hgrow hat hlt
 rw [← qed] at hown'
 exact h g cap w' (by rw [List.length_append]; exact hown') hgrow hat hlt
end
theorem own_new (w : World) (tE : TypeId) : (w.alloc (.cells #[] tE)).ownsRow w.heap.size tE 4 (.slice (some ⟨w.heap.size, 0, none⟩) 0 0) ([] : List En).length (ecs []) :=
 ⟨rfl, Or.inr ⟨w.heap.size, 0, #[], rfl, Nat.le_refl _, heap_alloc_new _ _, Nat.le_refl _, Nat.zero_le _, rfl, rfl⟩⟩
theorem clone_c (l : List En) (ad : Option Addr) (cap : Nat) (hf : ad = none ∨ ∃ g o, ad = some ⟨g, o, none⟩) (hn : l.length ≤ 1000) (w : World) (hr : RdA w ad l) :
  Calls Tryz.prog 70 #[.slice ad l.length cap] w fun r w' => ∃ ad' cap', r = .returned (.slice ad' l.length cap') ∧ RdA w' ad' l ∧ (∀ b, ad' = some b → w.heap.size ≤ b.block ∧ b = ⟨b.block, 0, none⟩) ∧ Below w.heap.size w w' := by
 have HR := Hid.mk hr
 clear hr
 rcases hf with rfl | ⟨b, o, rfl⟩
 ·have h0 : l.length = 0 := by
   rcases Nat.eq_zero_or_pos l.length with h | h
   ·exact h
   ·obtain ⟨g, o, e, -⟩ := HR.out 0 h; cases e
  obtain rfl := List.length_eq_zero_iff.1 h0
  have hen : ∀ (w : World) (n c : Nat), (binOp .eql 77 (.slice none n c) (.slice none 0 0)).run Tryz.prog w = .ok (.bool true) w := fun _ _ _ => rfl
  go_enter Tryz.func70, Tryz.ntmps70
  go_wp2
  go_ret
  exact ⟨_, _, rfl, RdA.nil _ _, (fun b hb => by cases hb), Below.refl _ _⟩
 ·have hen : ∀ (w : World) (n : Nat), (binOp .eql 77 (.slice (some ⟨b, o, none⟩) n cap) (.slice none 0 0)).run Tryz.prog w = .ok (.bool false) w := fun _ _ => rfl
  by_cases h0 : l.length = 0
  ·obtain rfl := List.length_eq_zero_iff.1 h0
   go_enter Tryz.func70, Tryz.ntmps70
   go_wp2
   go_ret
   exact ⟨_, _, rfl, RdA.nil _ _, (fun b hb => by cases hb; exact ⟨Nat.le_refl _, rfl⟩), qac _ _⟩
  ·have hB := fun w' (hgr : World.grownBy (w.alloc (.cells #[] 76)) w' (Value.slice (some ⟨w.heap.size, 0, none⟩) 0 0).ownBlock) => (qac w (.cells #[] 76)).grown hgr (by simp) (fun q hq => by cases hq; exact Nat.le_refl _)
   go_enter Tryz.func70, Tryz.ntmps70
   go_wp2_with (at_builtin; refine qbc etyT _ rfl _ _ rfl w.heap.size _ [] rfl (own_new w _) l ⟨b, o, none⟩ cap rfl (fun j u hu => cell_later (qac _ _) (HR.out.cells j u hu)) (by omega) (by simp; omega) (by simp) _ rfl ?_; intro g cap' w2 hown hgr hat hlt; have HO := Hid.mk hown; clear hown)
   go_ret
   obtain ⟨ad', c', e, h1, h2⟩ := own_rd HO.out
   simp only [List.nil_append, List.length_nil, Nat.zero_add] at e h1
   cases e
   exact ⟨_, _, rfl, h1, (fun b hb => by cases hb; exact ⟨(h2 _ rfl).1, rfl⟩), hB _ hgr⟩
end Go.Proofs.YtfdbdeckohaneaaGreatDoor.MM.PL
namespace Go.Proofs.YtfdbdeckohaneaaGreatDoor.MM
open Go.RowKit Go.Maps
theorem info_plans : (Tryz.prog.info? 77).map (·.size) = some 1 := by kernel_rfl
section
variable {w0 w : World} {X : Nat → Prop} {x a n S : Nat} {most : Int} {s : St}
theorem plan_many {w : World} {x : Nat} (N cap : Nat) (ad : Option Addr) (hN : 8 < N) :
  Calls Tryz.prog 27 #[.pointer (some ⟨x, 0, none⟩), .slice ad N cap] w fun r w' => r = .returned (.int .i64 11) ∧ w = w' := by
 have hN2 : (8 : Int) < (N : Int) := by omega
 clear hN
 go_enter Tryz.func27, Tryz.ntmps27
 go_wp2
 go_ret
 exact ⟨rfl, rfl⟩
theorem plan_few (h : Mch w0 w X x a n S most s) (P : List Pl) (cap : Nat) (ad : Option Addr) (hP : P.length ≤ 8) (hf : ad = none ∨ ∃ g o, ad = some ⟨g, o, none⟩) (hr : PL.RdA w ad P) (hv : ∀ p ∈ P, p.va < 18446744073709551616) :
  Calls Tryz.prog 27 #[.pointer (some ⟨x, 0, none⟩), .slice ad P.length cap] w fun r w' => r = .returned (.int .i64 0) ∧ Mch w0 w' (Gr X w w') x a n S most { s with P := P } ∧ Turn X w w' := by
 have H0 := Hid.mk h
 obtain ⟨XM, XB, XT, tb, tr, pv, h⟩ := h
 have H := Hid.mk h
 have HC := Hid.mk (PL.clone_c P ad cap hf (by omega) w hr)
 have HP := Hid.mk (And.intro hP hv)
 have hN2 : ¬ (8 : Int) < (P.length : Int) := by omega
 clear h hr hP hv hf
 go_enter Tryz.func27, Tryz.ntmps27
 go_wp2_with fail
 refine HC.out.mono ?_
 rintro e w1 ⟨ad', cap', rfl, hrd, hnew, hb⟩
 have hrow := qaa hb H.out.row
 obtain ⟨-, -, -, -, c4⟩ := row5 hrow
 have HRD := Hid.mk hrd
 have HNW := Hid.mk hnew
 clear HC hrd hnew
 go_wp2_with
  first
  | (refine qad rfl 77 _ _ rfl rfl x 4 (.slice ad' P.length cap') #[.slice ad' P.length cap'] rfl rfl rfl 110 _ hrow (show 4 + 1 ≤ 5 by decide) info_plans (by simp [Value.oneCell']) #[.pointer (some ⟨a, 0, none⟩), .pointer (some ⟨tb, 0, none⟩), .pointer (some ⟨tr, 0, none⟩), rgV s.rg, .slice ad' P.length cap'] rfl ?_
     intro wq hq hT)
  | fail
 go_ret
 have hx1 : x < w1.heap.size := qag hrow
 refine ⟨rfl, H.out.rowed (rg' := s.rg) (P' := P) hb hT hq ?_ ⟨H.out.wf.m1, H.out.wf.m64, H.out.wf.el, H.out.wf.kl, H.out.wf.er, H.out.wf.eo, H.out.wf.kr, H.out.wf.rr, HP.out.1, HP.out.2, H.out.wf.nd⟩⟩
 refine ⟨ad', cap', rfl, fun i hi => ?_⟩
 obtain ⟨g, o, e1, hg, hc⟩ := HRD.out i hi
 have hq2 := HNW.out _ e1
 have e2 : o = 0 := congrArg Addr.off hq2.2
 subst e2
 have hge : w.heap.size ≤ g := hq2.1
 have hsz := hT.size
 refine ⟨g, e1, by omega, ⟨Or.inr ⟨hge, by omega⟩, fun c => ?_, fun c => ?_, fun c => ?_, fun c => ?_⟩, fun j u hu => ?_⟩
 ·have := H.out.lt g (H.out.cm g c); omega
 ·have := H.out.lt g (H.out.cb g c); omega
 ·have := H.out.lt g (H.out.ct g c); omega
 ·have := H.out.lt x H.out.cx; omega
 ·have hc2 := hc j u hu
  rw [Nat.zero_add] at hc2
  have hgx : ¬ g = x := fun c => by have := H.out.lt x H.out.cx; omega
  exact TR.qam hT hgx hc2
theorem Mch.gr3 {w1 w2 w3 : World} {m : Nat} {s' : St} (h0 : Mch w0 w X x a n S most s) (hT : Turn X w w1) (hb : Below w1.heap.size w1 w2) (h : Mch w0 w3 (Gr (Gr X w w1) w2 w3) x a m S most s') (hT2 : Turn (Gr X w w1) w2 w3) : Mch w0 w3 (Gr X w w3) x a m S most s' ∧ Turn X w w3 := by
 have e0 := h0.bl.size
 have e1 := hT.size
 have e2 := hb.size
 have e3 := hT2.size
 refine ⟨h.wide (fun i hi => ?_) (fun i hi => gr_in (by omega) h0.ltX h0.loX e0 hi), (hT.trans (qak X hb) (fun _ _ h => h)).trans hT2 (fun i hi c => ?_)⟩
 ·rcases hi with (hi | hi) | hi
  ·exact Or.inl hi
  ·exact Or.inr (by omega)
  ·exact Or.inr (by omega)
 ·rcases c with c | c
  ·exact c
  ·omega
def guL (S : Nat) (most : Int) (s : St) : List Pl → St
 | [] => s
 | p :: l => guL S most (guS S most s p.va p.h) l
def kwS (S : Nat) (most : Int) (s : St) (y v : Nat) : St := if errA S y = 0 then guL S most { s with f := wrF s.f S y v } s.P else s
theorem guS_P (va : Nat) (hn : Hn) : (guS S most s va hn).P = s.P := by
 unfold guS
 split
 ·rfl
 ·unfold lfS
  split
  ·rfl
  ·rfl
theorem guL_take (S : Nat) (most : Int) : ∀ (l : List Pl) (s : St) (i : Nat), i < l.length → guL S most s (l.take (i + 1)) = guS S most (guL S most s (l.take i)) (gP l i).va (gP l i).h
 | [], s, i, h => absurd h (Nat.not_lt_zero _)
 | p :: l, s, 0, _ => rfl
 | p :: l, s, i + 1, h => by
  show guL S most (guS S most s p.va p.h) (l.take (i + 1)) = _
  rw [guL_take S most l _ i (by simpa using h)]
  rfl
theorem guL_P (S : Nat) (most : Int) : ∀ (l : List Pl) (s : St), (guL S most s l).P = s.P
 | [], s => rfl
 | p :: l, s => by
  show (guL S most (guS S most s p.va p.h) l).P = _
  rw [guL_P S most l, guS_P]
theorem gP_pos (l : List Pl) (i : Nat) (h : i < l.length) : gP l i = l[i] := PL.qbp l i h
theorem kwrite_c (h : Mch w0 w X x a n S most s) (hn : n < 100000000) (y v : Nat) (hy : y < 18446744073709551616) (hv : v < 18446744073709551616) :
  Calls Tryz.prog 28 #[.pointer (some ⟨x, 0, none⟩), .int .u64 y, .int .u64 v] w fun r w' => r = .returned (.int .i64 (errA S y)) ∧ Mch w0 w' (Gr X w w') x a (n + 1) S most (kwS S most s y v) ∧ Turn X w w' := by
 have H0 := Hid.mk h
 obtain ⟨XM, XB, XT, tb, tr, pv, h⟩ := h
 have c0 := (row5 h.row).1
 have HC := Hid.mk (h.write hn y v hy hv)
 have hrow0 := h.row
 have HPV := Hid.mk h.wf.pv
 have hpl := h.wf.pl
 obtain ⟨ad, cap, rfl, hpc⟩ := h.pln
 clear h hn hy hv hpc
 by_cases he : errA S y = 0
 ·have HS : Hid (kwS S most s y v = guL S most { s with f := wrF s.f S y v } s.P) := by show _ = _; unfold kwS; rw [if_pos he]
  rw [he] at HC ⊢
  have HT := Hid.mk (fun i hi => guL_take S most s.P { s with f := wrF s.f S y v } i hi)
  have HZ : Hid (∀ i, (guL S most { s with f := wrF s.f S y v } (s.P.take i)).P = s.P) := fun i => by rw [guL_P]
  have HE : Hid (guL S most { s with f := wrF s.f S y v } (s.P.take s.P.length) = kwS S most s y v) := by show _ = _; rw [HS.out, List.take_length]
  have H00 : Hid (guL S most { s with f := wrF s.f S y v } (s.P.take 0) = { s with f := wrF s.f S y v }) := rfl
  clear HS he
  generalize kwS S most s y v = s' at *
  generalize ({ s with f := wrF s.f S y v } : St) = s1 at *
  generalize hPP : s.P = P at *
  go_enter Tryz.func28, Tryz.ntmps28
  go_wp2_with fail
  refine HC.out.mono ?_
  rintro e w1 ⟨rfl, hM1, hT1, hx1⟩
  have HM1 := Hid.mk hM1
  have HT1 := Hid.mk hT1
  have hrow := hx1.trans hrow0
  have HR := Hid.mk hrow
  have c4 := (row5 hrow).2.2.2.2
  clear HC c0 hrow0 hM1 hT1 hx1 hrow
  have hplI : (P.length : Int) ≤ 8 := by omega
  go_wp2
  clear c4
  go_loopw [9, 25] (fun _ s25 wr => ∃ (i : Nat), i ≤ P.length ∧ s25 = .int .i64 i ∧ Mch w0 wr (Gr X w wr) x a (n + 1) S most (guL S most s1 (P.take i)) ∧ Turn X w wr ∧ wr.heap[x]? = w1.heap[x]?) (fun _ s25 _ => P.length - (RowKit.intOf s25).toNat)
  case atStart => exact ⟨0, by omega, rfl, by rw [H00.out]; exact HM1.out, HT1.out, rfl⟩
  case round =>
   obtain ⟨i, hi, rfl, hM, hT, hx⟩ := hrel
   by_cases hlt : i < P.length
   ·have hlt2 : (i : Int) < P.length := by omega
    have HLT := Hid.mk hlt
    have hib : (i : Int) < 8 := by omega
    have HM := Hid.mk hM
    have HTt := Hid.mk hT
    have HX := Hid.mk hx
    obtain ⟨XM', XB', XT', tb', tr', pv', h'⟩ := hM
    have h5 := (row5 h'.row).2.2.2.2
    have h6 := (row5 (HX.out.trans HR.out)).2.2.2.2
    have hpv : pv' = .slice ad P.length cap := Option.some.inj (h5.symm.trans h6)
    obtain ⟨ad', cap', e1, hcells⟩ := h'.pln
    rw [hpv, HZ.out i] at e1
    cases e1
    rw [HZ.out i] at hcells
    obtain ⟨g, rfl, hg, hXg, hq⟩ := hcells i hlt
    have HG := Hid.mk (fun W (hb : Below wr.heap.size wr W) => guess_c (HM.out.later hb) (gP P i).va (HPV.out _ (by rw [gP_pos P i hlt]; exact List.getElem_mem hlt)) (gP P i).h)
    rw [← HT.out i hlt] at HG
    clear h5 h6 hpv hcells h' hg hXg hi hlt hx hT
    generalize hsn : guL S most s1 (P.take (i + 1)) = sn at *
    have HSN := Hid.mk hsn
    clear hsn
    generalize gP P i = q at *
    obtain ⟨va, hf, hl, hk⟩ := q
    have d0 := hq 0 _ rfl
    have d1 := hq 1 _ rfl
    have d2 := hq 2 _ rfl
    have d3 := hq 3 _ rfl
    rw [Nat.add_zero] at d0
    clear hq
    simp only at *
    have hbB := Hid.mk (qac wr (.cells #[.int .u64 va, .bool hf, .bool hl, .bool hk] 76))
    have hK := heap_alloc_new wr (.cells #[.int .u64 va, .bool hf, .bool hl, .bool hk] 76)
    obtain ⟨k0, k1, k2, k3⟩ := TR.qca hK
    clear hK
    go_upto_region 7 with fail
    generalize wr.alloc (.cells #[.int .u64 va, .bool hf, .bool hl, .bool hk] 76) = w2 at *
    go_wp2_with fail
    refine (HG.out _ hbB.out).mono ?_
    rintro e w3 ⟨rfl, hM3, hT3, hx3⟩
    have hF := H0.out.gr3 HTt.out hbB.out hM3 hT3
    have HF := Hid.mk hF
    have HX3 := Hid.mk ((hx3.trans (hbB.out.block x (HM.out.ltX x (by obtain ⟨_, _, _, _, _, _, h⟩ := HM.out; exact h.cx)))).trans HX.out)
    clear HG d0 d1 d2 d3 k0 k1 k2 k3 hM3 hT3 hx3 hF
    go_wp2
    exact ⟨⟨i + 1, by have := HLT.out; omega, by go_num, by rw [HSN.out]; exact HF.out.1, HF.out.2, HX3.out⟩, by have := HLT.out; simp [RowKit.intOf]; omega⟩
   ·have hlt2 : ¬ (i : Int) < P.length := by omega
    obtain rfl : i = P.length := by omega
    rw [HE.out] at hM
    have HM := Hid.mk (And.intro hM hT)
    clear hM hT hx hi hlt
    go_wp2
    go_ret
    exact ⟨rfl, HM.out.1, HM.out.2⟩
 ·have hS : kwS S most s y v = s := if_neg he
  have hne := he
  have hm : wrF s.f S y v = s.f := if_neg he
  rw [hS]
  rw [hm] at HC
  clear hS hm
  have hsf : ({ s with f := s.f } : St) = s := rfl
  rw [hsf] at HC
  generalize errA S y = er at *
  go_enter Tryz.func28, Tryz.ntmps28
  go_wp2_with fail
  refine HC.out.mono ?_
  rintro e w1 ⟨rfl, hM1, hT1, -⟩
  have HM1 := Hid.mk (And.intro hM1 hT1)
  clear HC c0 hM1 hT1
  go_wp2
  go_ret
  exact ⟨rfl, HM1.out.1, HM1.out.2⟩
end
end Go.Proofs.YtfdbdeckohaneaaGreatDoor.MM
