/- P23 -/
import Derived.Test.YtfdbdeckohaneaaGreatDoorP09
import Derived.Deep.QuietTactic
import Derived.BigQuiet
import Derived.Deep.RegionLaw
set_option maxHeartbeats 16000000
set_option maxRecDepth 100000
namespace Go.Proofs.YtfdbdeckohaneaaGreatDoor.TR
open Go.RowKit
structure Flds (w : World) : Prop where
 d : Go.Proofs.YtfdbdeckohaneaaGreatDoor.Flds w
 t0 : w.cell? ⟨3, 0, none⟩ = some (.int .i64 12)
 t1 : w.cell? ⟨3, 1, none⟩ = some (.int .i64 36)
theorem Flds.later {w w' : World} (h : Flds w) (hb : Below w.heap.size w w') : Flds w' :=
 ⟨h.d.later hb, cell_later hb h.t0, cell_later hb h.t1⟩
theorem Flds.alloc {w : World} (h : Flds w) (o : Obj) : Flds (w.alloc o) := h.later (qac w o)
def qdd (b x : Nat) (l : Int) : Bool := isLv l && decide (qbn x l = b)
def mB (e : En) (i : Int) (x : Nat) : Bool := decide (e.aid = i) && (lowB x && qdd e.va x (e.lv - 1))
def tabB (t : Nat) : Bool := qdk t [(12, 36)] == 0
def qbe (e : En) : Bool := decide (0 ≤ e.aid ∧ e.aid ≤ 255 ∧ 1 ≤ e.lv ∧ e.lv ≤ 3) && (tabB e.tb && mB e e.aid e.va)
def En.okR (e : En) : Prop := e.ok ∧ qbe e = true
theorem qej {e : En} (h : qbe e = true) : 1 ≤ e.lv ∧ e.lv ≤ 3 := by
 unfold qbe at h
 rw [Bool.and_eq_true, decide_eq_true_eq] at h
 exact h.1.2.2
theorem isBase_any (b x : Nat) (l : Int) (hx : x < 18446744073709551616) (w : World) :
  Calls Tryz.prog 125 #[.int .u64 b, .int .u64 x, .int .i64 l] w fun e w' => e = .returned (.bool (qdd b x l)) ∧ w = w' := by
 cases hl : isLv l
 ·have HE : Hid (qdd b x l = false) := by show qdd b x l = _; unfold qdd; rw [hl]; rfl
  have e : lowL l = 0 := lowL_wrong hl
  go_enter Tryz.func125, Tryz.ntmps125
  go_wp2_with (first
   | (go_at_call 115; refine (qcd _ _).mono ?_; rintro e w' ⟨rfl, rfl⟩; rw [e])
   | (go_at_call 101; refine (qfd x l hx _).mono ?_; rintro e w' ⟨rfl, rfl⟩))
  go_ret
  exact ⟨by rw [HE.out]; rfl, rfl⟩
 ·have HE : Hid (qdd b x l = ((qbn x l : Int) == (b : Int))) := by
   show qdd b x l = _
   unfold qdd; rw [hl, Bool.true_and, Bool.eq_iff_iff, decide_eq_true_eq, beq_iff_eq]; omega
  obtain ⟨e, h1, h2, -⟩ := qcg hl
  have h3 : (0 : Int) < lowL l := by omega
  clear e h1 h2
  generalize hbv : qbn x l = B at *
  have hB := fun w1 => qfd x l hx w1
  rw [hbv] at hB
  clear hbv
  generalize hlv : lowL l = L at *
  have hL := fun w1 => qcd l w1
  rw [hlv] at hL
  clear hlv
  go_enter Tryz.func125, Tryz.ntmps125
  go_wp2_with (first
   | (go_at_call 115; refine (hL _).mono ?_; rintro e w' ⟨rfl, rfl⟩)
   | (go_at_call 101; refine (hB _).mono ?_; rintro e w' ⟨rfl, rfl⟩))
  all_goals go_ret
  all_goals exact ⟨by rw [HE.out]; rfl, rfl⟩
theorem qcm (e : En) (h1 : 1 ≤ e.lv) (h3 : e.lv ≤ 3) (i : Int) (x : Nat) (hx : x < 18446744073709551616) (w : World) :
  Calls Tryz.prog 89 #[e.v, .int .i64 i, .int .u64 x] w fun r w' => r = .returned (.bool (mB e i x)) ∧ Below w.heap.size w w' := by
 unfold mB
 obtain ⟨a0, a1, a2, a3⟩ := e
 simp only [En.v] at *
 by_cases h0 : a0 = i
 ·rw [decide_eq_true h0, Bool.true_and]
  have d0 : (a0 == i) = true := by rw [beq_iff_eq]; exact h0
  cases hl : lowB x
  ·go_enter Tryz.func89, Tryz.ntmps89
   go_wp2_with (first
    | (go_at_call 122; refine (low_any x _).mono ?_; rintro e w' ⟨rfl, rfl⟩; rw [hl]))
   all_goals go_ret
   all_goals exact ⟨rfl, qac _ _⟩
  ·rw [Bool.true_and]
   go_enter Tryz.func89, Tryz.ntmps89
   go_wp2_with (first
    | (go_at_call 122; refine (low_any x _).mono ?_; rintro e w' ⟨rfl, rfl⟩; rw [hl])
    | (go_at_call 125; refine (isBase_any a1 x (a2 - 1) hx _).mono ?_; rintro e w' ⟨rfl, rfl⟩))
   all_goals go_ret
   all_goals exact ⟨rfl, qac _ _⟩
 ·rw [decide_eq_false h0, Bool.false_and]
  have d0 : (a0 == i) = false := by rw [beq_eq_false_iff_ne]; exact h0
  go_enter Tryz.func89, Tryz.ntmps89
  go_wp2
  go_ret
  exact ⟨rfl, qac _ _⟩
theorem zP23x01 {Z : Prop} (z : Z := by
 clear hm hR t0 t1
 go_enter Tryz.func144, Tryz.ntmps144
 go_wp2
 all_goals go_ret
 all_goals exact ⟨by rw [HE.out]; rfl, qac _ _⟩) : Z := z
theorem rightE_any (e : En) (he : e.ok) (w : World) (hF : Flds w) :
  Calls Tryz.prog 144 #[e.v] w fun r w' => r = .returned (.bool (qbe e)) ∧ Below w.heap.size w w' := by
 have hm := fun (h1 : 1 ≤ e.lv) (h3 : e.lv ≤ 3) w1 => qcm e h1 h3 e.aid e.va he.1 w1
 have HT : Hid (tabB e.tb = (qdk e.tb [(12, 36)] == 0)) := rfl
 have HE : Hid (qbe e = (decide (0 ≤ e.aid ∧ e.aid ≤ 255 ∧ 1 ≤ e.lv ∧ e.lv ≤ 3) && (tabB e.tb && mB e e.aid e.va))) := rfl
 have hR := fun b c w1 h1 h2 => rest_some e.tb he.2 [(12, 36)] b c (by decide) w1 h1 h2
 generalize qbe e = RE at *
 generalize mB e e.aid e.va = M at *
 have t0 := fun ob => cell_later (qac w ob) hF.t0
 have t1 := fun ob => cell_later (qac w ob) hF.t1
 clear hF
 obtain ⟨a0, a1, a2, a3⟩ := e
 simp only [En.v] at *
 by_cases h0 : 0 ≤ a0
 ·by_cases h1 : a0 ≤ 255
  ·by_cases h2 : 1 ≤ a2
   ·by_cases h3 : a2 ≤ 3
    ·rw [decide_eq_true (show 0 ≤ a0 ∧ a0 ≤ 255 ∧ 1 ≤ a2 ∧ a2 ≤ 3 from ⟨h0, h1, h2, h3⟩), Bool.true_and] at HE
     have d0 : decide (a0 < 0) = false := decide_eq_false (by omega)
     have d1 : decide (255 < a0) = false := decide_eq_false (by omega)
     have d2 : decide (a2 < 1) = false := decide_eq_false (by omega)
     have d3 : decide (3 < a2) = false := decide_eq_false (by omega)
     have hM := hm h2 h3
     clear hm
     generalize qdk a3 [(12, 36)] = y at *
     by_cases hy : y = 0
     ·rw [hy] at HT hR
      rw [HT.out] at HE
      go_enter Tryz.func144, Tryz.ntmps144
      go_wp2_with fail
      refine (hR _ _ _ (fun i hi => ?_) (fun i hi => ?_)).mono ?_
      ·obtain rfl : i = 0 := by simp at hi; exact hi
       simp
      ·obtain rfl : i = 0 := by simp at hi; exact hi
       simp
      rintro e w1 ⟨rfl, hb⟩
      have hK := qaa hb (heap_alloc2_old w (.cells #[.int .i64 a0, .int .u64 a1, .int .i64 a2, .int .u64 a3] 96) _)
      obtain ⟨q0, q1, q2, q3⟩ := qca hK
      have hB := qab (qab (qac _ _) (qac _ _)) hb
      clear hb hK hR t0 t1
      go_wp2_with fail
      refine (hM _).mono ?_
      rintro e w2 ⟨rfl, hb2⟩
      go_wp2
      all_goals go_ret
      all_goals exact ⟨by rw [HE.out]; rfl, qab hB hb2⟩
     ·have hy2 : ((y : Int) == 0) = false := by rw [beq_eq_false_iff_ne]; omega
      rw [show (y == 0) = false by rw [beq_eq_false_iff_ne]; exact hy] at HT
      rw [HT.out] at HE
      go_enter Tryz.func144, Tryz.ntmps144
      go_wp2_with fail
      refine (hR _ _ _ (fun i hi => ?_) (fun i hi => ?_)).mono ?_
      ·obtain rfl : i = 0 := by simp at hi; exact hi
       simp
      ·obtain rfl : i = 0 := by simp at hi; exact hi
       simp
      rintro e w1 ⟨rfl, hb⟩
      have hB := qab (qab (qac _ _) (qac _ _)) hb
      clear hb hR t0 t1 hM
      go_wp2
      all_goals go_ret
      all_goals exact ⟨by rw [HE.out]; rfl, hB⟩
    ·rw [decide_eq_false (show ¬ (0 ≤ a0 ∧ a0 ≤ 255 ∧ 1 ≤ a2 ∧ a2 ≤ 3) by omega), Bool.false_and] at HE
     have d0 : decide (a0 < 0) = false := decide_eq_false (by omega)
     have d1 : decide (255 < a0) = false := decide_eq_false (by omega)
     have d2 : decide (a2 < 1) = false := decide_eq_false (by omega)
     have d3 : decide (3 < a2) = true := decide_eq_true (by omega)
     exact zP23x01
   ·rw [decide_eq_false (show ¬ (0 ≤ a0 ∧ a0 ≤ 255 ∧ 1 ≤ a2 ∧ a2 ≤ 3) by omega), Bool.false_and] at HE
    have d0 : decide (a0 < 0) = false := decide_eq_false (by omega)
    have d1 : decide (255 < a0) = false := decide_eq_false (by omega)
    have d2 : decide (a2 < 1) = true := decide_eq_true (by omega)
    exact zP23x01
  ·rw [decide_eq_false (show ¬ (0 ≤ a0 ∧ a0 ≤ 255 ∧ 1 ≤ a2 ∧ a2 ≤ 3) by omega), Bool.false_and] at HE
   have d0 : decide (a0 < 0) = false := decide_eq_false (by omega)
   have d1 : decide (255 < a0) = true := decide_eq_true (by omega)
   exact zP23x01
 ·rw [decide_eq_false (show ¬ (0 ≤ a0 ∧ a0 ≤ 255 ∧ 1 ≤ a2 ∧ a2 ≤ 3) by omega), Bool.false_and] at HE
  have d0 : decide (a0 < 0) = true := decide_eq_true (by omega)
  exact zP23x01
theorem qav {w0 w : World} (h : Below w0.heap.size w0 w) : ∀ n, Below w0.heap.size w0 (w.drewN n)
 | 0 => h
 | n + 1 => (qav h n).drew
theorem index_c (l : List En) (e : En) (ad : Option Addr) (cap : Nat) (w : World) (hn : l.length ≤ 1000) (hr : RdA w ad l) :
  Calls Tryz.prog 150 #[.slice ad l.length cap, e.v] w fun r w' => (∃ z : Int, r = .returned (.int .i64 z) ∧ (0 ≤ z ↔ e ∈ l)) ∧ Below w.heap.size w w' := by
 have HR := Hid.mk hr
 have heq := fun y w1 => eqT e y w1
 have HE := Hid.mk (rfl : e = e)
 have hnI : (l.length : Int) ≤ 1000 := by omega
 obtain ⟨f, hf⟩ : ∃ f : En, f = e := ⟨_, rfl⟩
 rw [← hf] at heq ⊢
 have HF := Hid.mk hf
 clear hr hn hf HE
 obtain ⟨a0, a1, a2, a3⟩ := f
 simp only [En.v] at *
 go_enter Tryz.func150, Tryz.ntmps150
 go_wp2
 go_loopw [5, 8] (fun _ s8 wr => ∃ i : Nat, i ≤ l.length ∧ s8 = .int .i64 i ∧ Below w.heap.size w wr ∧ wr.heap[w.heap.size]? = some (.cells #[.int .i64 a0, .int .u64 a1, .int .i64 a2, .int .u64 a3] 96 (0, 0)) ∧ ∀ j, j < i → (gE l j) ≠ e) (fun _ s8 _ => l.length - (RowKit.intOf s8).toNat)
 case atStart => exact ⟨0, by omega, rfl, qac _ _, heap_alloc_new _ _, fun j hj => absurd hj (Nat.not_lt_zero _)⟩
 case round =>
  obtain ⟨i, hi, rfl, hb, hK, hno⟩ := hrel
  have HB := Hid.mk hb
  have HK := Hid.mk hK
  have HNO := Hid.mk hno
  clear hno
  by_cases hlt : i < l.length
  ·have hlt2 : (i : Int) < l.length := by omega
   have HLT := Hid.mk hlt
   have hib : (i : Int) < 1000 := by omega
   obtain ⟨g, o, rfl, hg, hc⟩ := HR.out i hlt
   have d0 := cell_later hb (hc 0 _ rfl)
   have d1 := cell_later hb (hc 1 _ rfl)
   have d2 := cell_later hb (hc 2 _ rfl)
   have d3 := cell_later hb (hc 3 _ rfl)
   rw [Nat.add_zero] at d0
   have hq := heq (gE l i)
   have HY : Hid (eqB ⟨a0, a1, a2, a3⟩ (gE l i) = eqB (gE l i) e) := by
    show _ = _
    rw [HF.out]; exact eqB_comm _ _
   have HM : Hid ((gE l i) ∈ l) := by show _ ∈ _; rw [qbp l i hlt]; exact List.getElem_mem hlt
   clear hc hb hi heq hlt
   obtain ⟨q0, q1, q2, q3⟩ := qca hK
   clear hK
   rw [HY.out] at hq
   have HEY := Hid.mk (rfl : (gE l i) = (gE l i))
   by_cases hey : (gE l i) = e
   ·rw [qdn hey] at hq
    have HX : Hid (e ∈ l) := by show _ ∈ _; rw [← hey]; exact HM.out
    clear HY HM HEY hey
    generalize (gE l i) = y at *
    obtain ⟨b0, b1, b2, b3⟩ := y
    simp only at *
    go_wp2
    go_quiet (fail)
    go_wp2
    go_ret
    exact ⟨⟨_, rfl, fun _ => by rw [HF.out]; exact HX.out, fun _ => by omega⟩, qav HB.out _⟩
   ·rw [qdy hey] at hq
    have HX : Hid (∀ j, j < i + 1 → (gE l j) ≠ e) := fun j hj => by
     by_cases h : j = i
     ·subst h; exact hey
     ·exact HNO.out j (by omega)
    clear HY HM HEY hey
    generalize (gE l i) = y at *
    obtain ⟨b0, b1, b2, b3⟩ := y
    simp only at *
    go_wp2
    go_quiet (fail)
    go_wp2
    exact ⟨⟨i + 1, by have := HLT.out; omega, by go_num, qav HB.out _, qaa (qav (Below.refl _ _) _) HK.out, HX.out⟩, by have := HLT.out; simp [RowKit.intOf]; omega⟩
  ·have hlt2 : ¬ (i : Int) < l.length := by omega
   have HX : Hid (e ∉ l) := fun hm => by
    obtain ⟨j, hj, rfl⟩ := List.getElem_of_mem hm
    exact HNO.out j (by omega) (qbp l j hj)
   clear hb hK hi heq hlt
   go_wp2
   go_ret
   exact ⟨⟨_, rfl, fun h => absurd h (by omega), fun h => absurd (HF.out ▸ h) HX.out⟩, HB.out⟩
theorem contains_c (l : List En) (e : En) (ad : Option Addr) (cap : Nat) (w : World) (hn : l.length ≤ 1000) (hr : RdA w ad l) :
  Calls Tryz.prog 145 #[.slice ad l.length cap, e.v] w fun r w' => r = .returned (.bool (memB e l)) ∧ Below w.heap.size w w' := by
 have hc := fun w1 h1 => index_c l e ad cap w1 hn h1
 have HR := Hid.mk hr
 clear hr hn
 have HI : Hid (∀ z : Int, (0 ≤ z ↔ e ∈ l) → memB e l = decide (0 ≤ z)) := fun z hz => by rw [Bool.eq_iff_iff, qdj, decide_eq_true_eq]; exact hz.symm
 generalize memB e l = D at *
 obtain ⟨a0, a1, a2, a3⟩ := e
 simp only [En.v] at *
 generalize l.length = n at *
 go_enter Tryz.func145, Tryz.ntmps145
 go_wp2_with fail
 refine (hc _ (HR.out.later (qac _ _))).mono ?_
 rintro e w1 ⟨⟨z, rfl, hz⟩, hb⟩
 have HZ := Hid.mk (HI.out z hz)
 clear hz hc
 go_wp2
 all_goals go_ret
 all_goals exact ⟨by rw [HZ.out]; rfl, qab (qac _ _) hb⟩
theorem infoP {P : Program} {t : TypeId} {z : Option Value} {s b : Nat} (h : (P.info? t).map (fun i => (i.zero, i.size, i.bytes)) = some (z, s, b)) : ∃ i, P.info? t = some i ∧ i.zero = z ∧ i.size = s ∧ i.bytes = b := by
 cases hq : P.info? t with
 | none => rw [hq] at h; cases h
 | some i =>
  rw [hq] at h
  simp only [Option.map_some, Option.some.injEq, Prod.mk.injEq] at h
  exact ⟨i, rfl, h.1, h.2.1, h.2.2⟩
structure ETy (tS tE : TypeId) : Prop where
 sl : Tryz.prog.underlying tS = some (.slice tE)
 info : (Tryz.prog.info? tE).map (fun i => (i.zero, i.size, i.bytes)) = some (some e0.v, 4, 32)
theorem etyT : ETy 85 96 := ⟨Tryz.underlying85, by kernel_rfl⟩
section
variable {ops : Array Oper} {rest : List Oper} {o : Oper} {a : Act} {Q : Exit → Act → World → Prop}
theorem qbc {tS tE : TypeId} (hT : ETy tS tE) (w : World) (hg : o.guard = none) (s x : Operand) (hop : o.op = .call { callee := .builtin .append, args := #[s, x], argTypes := #[tS, tS] })
  (base : Nat) (v : Value) (l : List En) (hs : a.eval s = v) (hown : w.ownsRow base tE 4 v l.length (ecs l)) (m : List En) (ad : Addr) (c : Nat) (hx : a.eval x = .slice (some ad) m.length c) (hc : ∀ j u, (ecs m)[j]? = some u → w.cell? (ad.add j) = some u) (hp : 0 < m.length) (hlen : l.length + m.length ≤ 100000) (hbase : base ≤ w.heap.size) (H : Nat) (hH : w.heap.size = H)
  (h : ∀ g cap w', w'.ownsRow base tE 4 (.slice (some ⟨g, 0, none⟩) (l.length + m.length) cap) (l ++ m).length (ecs (l ++ m)) → w.grownBy w' v.ownBlock → (v.ownBlock = some g ∨ g = H) → g < w'.heap.size → wpList Tryz.prog ops Q rest (a.put o.dst (.slice (some ⟨g, 0, none⟩) (l.length + m.length) cap)) w') :
  wpList Tryz.prog ops Q (o :: rest) a w := by
 obtain ⟨i0, hi, hz0, hz1, hz2⟩ := infoP hT.info
 refine wpList_append_lies w hg s x tS hop base tE i0 _ 4 32 hT.sl hi hz0 hz1 hz2 rfl (by decide) v l.length (ecs l) hs hown ad m.length c (ecs m) hx (qau m) hc (qfg m) hp (by unfold maxLen; omega) (by omega) hbase H hH ?_
 intro g cap w' hown' hgrow hat hlt
 rw [← qed] at hown'
 exact h g cap w' (by rw [List.length_append]; exact hown') hgrow hat hlt
theorem step_appE {K : Act → World → Prop} {E : Prop} {tS tE : TypeId} (hT : ETy tS tE) (w : World) (hg : o.guard = none) (s x : Operand) (hop : o.op = .call { callee := .builtin .append, args := #[s, x], argTypes := #[tS, tS] })
  (base : Nat) (v : Value) (l : List En) (hs : a.eval s = v) (hown : w.ownsRow base tE 4 v l.length (ecs l)) (m : List En) (ad : Addr) (c : Nat) (hx : a.eval x = .slice (some ad) m.length c) (hc : ∀ j u, (ecs m)[j]? = some u → w.cell? (ad.add j) = some u) (hp : 0 < m.length) (hlen : l.length + m.length ≤ 100000) (hbase : base ≤ w.heap.size) (H : Nat) (hH : w.heap.size = H)
  (h : ∀ g cap w', w'.ownsRow base tE 4 (.slice (some ⟨g, 0, none⟩) (l.length + m.length) cap) (l ++ m).length (ecs (l ++ m)) → w.grownBy w' v.ownBlock → (v.ownBlock = some g ∨ g = H) → g < w'.heap.size → K (a.put o.dst (.slice (some ⟨g, 0, none⟩) (l.length + m.length) cap)) w') :
  if Region.wanted o (yielded ops a.tmps) = true then Oper.wp Tryz.prog o a w K Q else E := by
 obtain ⟨i0, hi, hz0, hz1, hz2⟩ := infoP hT.info
 refine step_append_lies w hg s x tS hop base tE i0 _ 4 32 hT.sl hi hz0 hz1 hz2 rfl (by decide) v l.length (ecs l) hs hown ad m.length c (ecs m) hx (qau m) hc (qfg m) hp (by unfold maxLen; omega) (by omega) hbase H hH ?_
 intro g cap w' hown' hgrow hat hlt
 rw [← qed] at hown'
 exact h g cap w' (by rw [List.length_append]; exact hown') hgrow hat hlt
end
theorem own_new (w : World) (tE : TypeId) : (w.alloc (.cells #[] tE)).ownsRow w.heap.size tE 4 (.slice (some ⟨w.heap.size, 0, none⟩) 0 0) ([] : List En).length (ecs []) :=
 ⟨rfl, Or.inr ⟨w.heap.size, 0, #[], rfl, Nat.le_refl _, heap_alloc_new _ _, Nat.le_refl _, Nat.zero_le _, rfl, rfl⟩⟩
theorem clone_c (l : List En) (ad : Option Addr) (cap : Nat) (hf : ad = none ∨ ∃ g o, ad = some ⟨g, o, none⟩) (hn : l.length ≤ 1000) (w : World) (hr : RdA w ad l) :
  Calls Tryz.prog 81 #[.slice ad l.length cap] w fun r w' => ∃ ad' cap', r = .returned (.slice ad' l.length cap') ∧ RdA w' ad' l ∧ (∀ b, ad' = some b → w.heap.size ≤ b.block) ∧ Below w.heap.size w w' := by
 have HR := Hid.mk hr
 clear hr
 rcases hf with rfl | ⟨b, o, rfl⟩
 ·have h0 : l.length = 0 := by
   rcases Nat.eq_zero_or_pos l.length with h | h
   ·exact h
   ·obtain ⟨g, o, e, -⟩ := HR.out 0 h; cases e
  obtain rfl := List.length_eq_zero_iff.1 h0
  have hen : ∀ (w : World) (n c : Nat), (binOp .eql 85 (.slice none n c) (.slice none 0 0)).run Tryz.prog w = .ok (.bool true) w := fun _ _ _ => rfl
  go_enter Tryz.func81, Tryz.ntmps81
  go_wp2
  go_ret
  exact ⟨_, _, rfl, RdA.nil _ _, (fun b hb => by cases hb), Below.refl _ _⟩
 ·have hen : ∀ (w : World) (n : Nat), (binOp .eql 85 (.slice (some ⟨b, o, none⟩) n cap) (.slice none 0 0)).run Tryz.prog w = .ok (.bool false) w := fun _ _ => rfl
  by_cases h0 : l.length = 0
  ·obtain rfl := List.length_eq_zero_iff.1 h0
   go_enter Tryz.func81, Tryz.ntmps81
   go_wp2
   go_ret
   exact ⟨_, _, rfl, RdA.nil _ _, (fun b hb => by cases hb; exact Nat.le_refl _), qac _ _⟩
  ·have hB := fun w' (hgr : World.grownBy (w.alloc (.cells #[] 96)) w' (Value.slice (some ⟨w.heap.size, 0, none⟩) 0 0).ownBlock) => (qac w (.cells #[] 96)).grown hgr (by simp) (fun q hq => by cases hq; exact Nat.le_refl _)
   go_enter Tryz.func81, Tryz.ntmps81
   go_wp2_with (at_builtin; refine qbc etyT _ rfl _ _ rfl w.heap.size _ [] rfl (own_new w _) l ⟨b, o, none⟩ cap rfl (fun j u hu => cell_later (qac _ _) (HR.out.cells j u hu)) (by omega) (by simp; omega) (by simp) _ rfl ?_; intro g cap' w2 hown hgr hat hlt; have HO := Hid.mk hown; clear hown)
   go_ret
   obtain ⟨ad', c', e, h1, h2⟩ := own_rd HO.out
   simp only [List.nil_append, List.length_nil, Nat.zero_add] at e h1
   cases e
   exact ⟨_, _, rfl, h1, fun b hb => (h2 b hb).1, hB _ hgr⟩
end Go.Proofs.YtfdbdeckohaneaaGreatDoor.TR
