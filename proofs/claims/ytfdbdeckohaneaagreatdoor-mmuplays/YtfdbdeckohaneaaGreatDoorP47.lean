/- P47 -/
import Derived.Test.YtfdbdeckohaneaaGreatDoorP45
set_option maxHeartbeats 16000000
set_option maxRecDepth 100000
namespace Go.Proofs.YtfdbdeckohaneaaGreatDoor.MM
open Go.RowKit Go.Maps
def tbO (L : WL) : Nat → Bool
 | 0 => true
 | k + 1 => tbO L k && (decide (k < L.length) && TR.isT (k : Int) L[k]!.2)
def tbT (L : WL) (R : Nat) : Nat → Nat
 | 0 => R
 | k + 1 => rdO L[k]!.2
def tbA (L : WL) (R k : Nat) : Nat := if tbO L k = true then tbT L R k else 0
theorem tbO_no {L : WL} {k : Nat} (h : (decide (k < L.length) && TR.isT (k : Int) L[k]!.2) = false) : ∀ {n : Nat}, k < n → tbO L n = false
 | 0, hn => absurd hn (Nat.not_lt_zero _)
 | n + 1, hn => by
  by_cases e : k = n
  ·subst e
   show (tbO L k && _) = false
   rw [h, Bool.and_false]
  ·show (tbO L n && _) = false
   rw [tbO_no h (by omega), Bool.false_and]
theorem tbO_yes {L : WL} {k : Nat} (h0 : tbO L k = true) (h1 : k < L.length) (h2 : TR.isT (k : Int) L[k]!.2 = true) : tbO L (k + 1) = true := by
 show (tbO L k && (decide (k < L.length) && TR.isT (k : Int) L[k]!.2)) = true
 rw [h0, decide_eq_true h1, h2]; rfl
theorem fld6 (c0 c1 c2 c3 c4 c5 c6 c7 c8 c9 c10 : Value) (W : World) : (Instr.field 138 (.agg #[c0, c1, c2, c3, c4, c5, c6, c7, c8, c9, c10]) 3).run Tryz.prog W = .ok c10 W := by
 simp [Instr.field, run_underlying Tryz.underlying138, Sem.run_bind, asAgg, part, Tryz.isAgg136]
section
variable {w : World} {B : Nat → Prop} {m S : Nat} {most : Int} {s : St} {d : Yd}
theorem ytable_c (h : YOk w B m s d) (hf : Fm S s.f) (hm : m < 1000000) (va lv : Nat) (h3 : lv ≤ 3) (hR : d.R < 18446744073709551616) :
  Calls Tryz.prog 72 #[.agg (d.cs S most s), .int .u64 va, .int .i64 lv] w fun r w' => r = .returned (.tuple #[.int .u64 (tbA (wk0 S s.f 0 d.R va).1 d.R lv : Nat), .bool (tbO (wk0 S s.f 0 d.R va).1 lv)]) ∧ Below w.heap.size w w' := by
 have HFR : Hid (∀ W, Below w.heap.size w W → Calls Tryz.prog 71 #[.agg #[.int .u64 S, d.vm], .int .i64 0, .int .u64 (d.R : Nat), .int .u64 va] W fun e w' => ∃ p cap, e = .returned (.agg (lC (lfR (wk0 S s.f 0 d.R va).2) (ftR (wk0 S s.f 0 d.R va).2) (.slice p (wk0 S s.f 0 d.R va).1.length cap))) ∧ Psl w' (fun g => W.heap.size ≤ g) (.slice p (wk0 S s.f 0 d.R va).1.length cap) (wk0 S s.f 0 d.R va).1 ∧ Below W.heap.size W w') :=
  Hid.mk (fun _ hb => qeq (h.later hb) hf hm _ _ _ hR)
 have hlt := TR.wk0_lt (S := S) (f := s.f) (va := va) (tb := d.R) (l := 0) hf.fl hf.hS
 have hl4 := wk0_len S s.f 0 d.R va
 clear h hf hR
 obtain ⟨vm, L0, aE, cE, aK, cK, aP, cP, on', R, I⟩ := d
 dsimp only at *
 generalize lfR (wk0 S s.f 0 R va).2 = lf at *
 generalize ftR (wk0 S s.f 0 R va).2 = ft at *
 generalize (wk0 S s.f 0 R va).1 = L at *
 obtain ⟨l, k, o, u, r, y, q, t⟩ := lf
 obtain ⟨f1, f2⟩ := ft
 dsimp only [lC] at HFR
 have hfd := fun (p : Option Addr) (cap : Nat) W => fld6 (.int .i64 l) (.int .i64 k) (.int .u64 o) (.bool u) (.bool r) (.bool y) (.bool q) (.int .i64 t) (.int .i64 f1) (.int .i64 f2) (.slice p L.length cap) W
 have HA0 : Hid (tbO L lv = false → tbA L R lv = 0) := Hid.mk (fun hn => by unfold tbA; rw [if_neg (by rw [hn]; decide)])
 have HA1 : Hid (tbO L lv = true → tbA L R lv = tbT L R lv) := Hid.mk (fun hn => by unfold tbA; rw [if_pos hn])
 generalize tbA L R lv = TA at HA0 HA1 ⊢
 have HLT := Hid.mk hlt
 have g0 := heap_alloc_new w (.cells #[.int .u64 S, vm, .int .i64 most, .slice aE s.E.length cE, .slice aK s.K.length cK, .bool on', .int .u64 R, .int .i64 I, .slice aP s.P.length cP] 34)
 have hB := qac w (.cells #[.int .u64 S, vm, .int .i64 most, .slice aE s.E.length cE, .slice aK s.K.length cK, .bool on', .int .u64 R, .int .i64 I, .slice aP s.P.length cP] 34)
 clear hlt
 go_enter Tryz.func72, Tryz.ntmps72
 go_upto_region 1 with fail
 generalize w.alloc (.cells #[.int .u64 S, vm, .int .i64 most, .slice aE s.E.length cE, .slice aK s.K.length cK, .bool on', .int .u64 R, .int .i64 I, .slice aP s.P.length cP] 34) = W1 at *
 obtain ⟨c0, c1, c2, c3, c4, c5, c6, c7, c8⟩ := qal g0
 go_wp2_with fail
 refine (HFR.out _ hB).mono ?_
 rintro e w2 ⟨p, cap, rfl, hps, hb⟩
 replace hB := qab hB hb
 have hst : StepsAt w2 p L.length (fun j => L[j]!.1) (fun j => L[j]!.2) := by
  refine ⟨fun i hi => ?_, fun i => (HLT.out i).1, fun i => (HLT.out i).2⟩
  obtain ⟨p', cap', e, hc⟩ := hps.form
  cases e
  obtain ⟨g, rfl, hg, q1, q2⟩ := hc i hi
  exact ⟨g, 0, rfl, hg, by rw [Nat.zero_add]; exact q1, by rw [Nat.zero_add]; exact q2⟩
 have HS := Hid.mk hst
 have HB := Hid.mk hB
 clear hst hps hb hB c0 c1 c2 c3 c4 c5 c6 c7 c8 g0 HFR
 go_wp2
 go_loopw [8, 10] (fun s8 s10 wr => ∃ k : Nat, k ≤ lv ∧ s10 = .int .i64 k ∧ s8 = .int .u64 (tbT L R k : Nat) ∧ tbO L k = true ∧ Below w2.heap.size w2 wr) (fun _ i _ => lv - (RowKit.intOf i).toNat)
 case atStart => exact ⟨0, by omega, rfl, rfl, rfl, Below.refl _ _⟩
 case round =>
  obtain ⟨k, hk, rfl, rfl, hT, hb⟩ := hrel
  have HT := Hid.mk hT
  have HBR := Hid.mk (qab HB.out hb)
  clear hT
  by_cases hkl : k < lv
  ·have hkl2 : (k : Int) < (lv : Int) := by omega
   by_cases hlen : k < L.length
   ·have hlen2 : ¬ (L.length : Int) ≤ (k : Int) := by omega
    have dl2 : decide ((L.length : Int) ≤ (k : Int)) = false := decide_eq_false hlen2
    have hlen3 : (k : Int) < (L.length : Int) := by omega
    obtain ⟨g, o', rfl, hg, q1, q2⟩ := HS.out.cells k hlen
    have d2 : wr.cell? ⟨g, o' + k * 2 + 1, none⟩ = some (.int .u64 (L[k]!.2 : Nat)) := cell_later hb q2
    have HVI := Hid.mk (HLT.out k).2
    have hb2 := Hid.mk hb
    clear q1 q2 hg hb
    cases hTi : TR.isT (k : Int) L[k]!.2
    ·have HDE := Hid.mk (fun W => TR.rdec_no (show isLv (k : Int) = true by unfold isLv; rw [decide_eq_true_eq]; omega) hTi HVI.out W)
     have HNO : Hid (tbO L lv = false) := Hid.mk (tbO_no (by rw [hTi, Bool.and_false]) hkl)
     clear hTi hlen
     generalize L[k]!.2 = wv at *
     go_wp2_with fail
     refine (HDE.out _).mono ?_
     rintro e w3 ⟨kk, oo, uu, rr, yy, ss, aa, z, rfl, hz, hb3⟩
     clear HDE d2
     rcases hz with rfl | ⟨rfl, hz⟩
     ·go_wp2
      go_ret2
      exact ⟨by rw [HA0.out HNO.out, HNO.out]; rfl, qab HBR.out (qab hb3 (qac _ _))⟩
     ·have hz2 : (kk != 1) = true := by rw [bne_iff_ne]; exact hz
      go_wp2
      go_ret2
      exact ⟨by rw [HA0.out HNO.out, HNO.out]; rfl, qab HBR.out (qab hb3 (qac _ _))⟩
    ·have HDE := Hid.mk (fun W => TR.rdec_yes hTi HVI.out W)
     have HYE := Hid.mk (tbO_yes HT.out hlen hTi)
     have HTT : Hid (tbT L R (k + 1) = rdO L[k]!.2) := rfl
     clear hTi hlen
     generalize rdO L[k]!.2 = ov at *
     generalize L[k]!.2 = wv at *
     go_wp2_with fail
     refine (HDE.out _).mono ?_
     rintro e w3 ⟨uu, rr, yy, ss, aa, rfl, hb3⟩
     clear HDE d2
     go_wp2
     exact ⟨⟨k + 1, by omega, by go_num, by rw [HTT.out], HYE.out, qab hb2.out (qab hb3 (qac _ _))⟩, by simp [RowKit.intOf]; omega⟩
   ·have hlen2 : (L.length : Int) ≤ (k : Int) := by omega
    have HNO : Hid (tbO L lv = false) := Hid.mk (tbO_no (by rw [decide_eq_false hlen, Bool.false_and]) hkl)
    clear hlen
    go_wp2
    go_ret2
    exact ⟨by rw [HA0.out HNO.out, HNO.out]; rfl, HBR.out⟩
  ·have e : k = lv := by omega
   subst e
   go_wp2
   go_ret2
   exact ⟨by rw [HA1.out HT.out, HT.out]; rfl, HBR.out⟩
end
theorem wk_tab {S : Nat} {f : Nat → Nat} {va : Nat} : ∀ {k tb j : Nat}, k ≤ 4 → j + 1 < (wk S f va k tb).1.length → TR.isT ((4 : Int) - k + j) (wk S f va k tb).1[j]!.2 = true
 | 0, tb, j, _, h => by unfold wk at h; exact absurd h (Nat.not_lt_zero _)
 | k + 1, tb, j, hk, h => by
  by_cases he : errA S (tb + 8 * idxN va (3 - k)) = 0
  ·by_cases hm : mf S (3 - k) (f (tb + 8 * idxN va (3 - k))) = 0
   ·by_cases hr : rdK (3 - k) (f (tb + 8 * idxN va (3 - k))) = 1
    ·rw [wk_table rfl rfl he hm hr] at h ⊢
     match j, h with
     | 0, _ =>
      show TR.isT ((4 : Int) - ((k + 1 : Nat) : Int) + ((0 : Nat) : Int)) (f (tb + 8 * idxN va (3 - k))) = true
      rw [show (4 : Int) - ((k + 1 : Nat) : Int) + ((0 : Nat) : Int) = 3 - (k : Int) by omega]
      unfold TR.isT
      have hg : qde (3 - (k : Int)) (f (tb + 8 * idxN va (3 - k))) = true := by
       unfold mf at hm
       cases hg : qde (3 - (k : Int)) (f (tb + 8 * idxN va (3 - k)))
       ·rw [if_pos hg] at hm; exact absurd hm (by decide)
       ·rfl
      rw [hg, hr]
      unfold isLv
      rw [decide_eq_true (by omega)]
      rfl
     | j + 1, h =>
      have h2 : j + 1 < (wk S f va k (rdO (f (tb + 8 * idxN va (3 - k))))).1.length := Nat.lt_of_succ_lt_succ h
      have ih := wk_tab (k := k) (tb := rdO (f (tb + 8 * idxN va (3 - k)))) (j := j) (by omega) h2
      rw [show (4 : Int) - ((k + 1 : Nat) : Int) + ((j + 1 : Nat) : Int) = 4 - (k : Int) + (j : Int) by omega]
      exact ih
    ·rw [wk_leaf rfl rfl he hm hr] at h
     exact absurd h (by simp)
   ·rw [qfi rfl rfl he hm] at h
    exact absurd h (by simp)
  ·rw [wk_err rfl rfl he] at h
   exact absurd h (by simp)
theorem wk0_tab {S : Nat} {f : Nat → Nat} {R va j : Nat} (h : j + 1 < (wk0 S f 0 R va).1.length) : TR.isT (j : Int) (wk0 S f 0 R va).1[j]!.2 = true := by
 by_cases hq : isLv 0 = true ∧ R % 4096 = 0 ∧ va < 281474976710656
 ·have e : wk0 S f 0 R va = wk S f va 4 R := if_pos hq
  rw [e] at h ⊢
  have := wk_tab (k := 4) (by omega) h
  rw [show (4 : Int) - ((4 : Nat) : Int) + (j : Int) = (j : Int) by omega] at this
  exact this
 ·have e : wk0 S f 0 R va = ([], 1, 0, 0) := if_neg hq
  rw [e] at h
  exact absurd h (Nat.not_lt_zero _)
theorem tbO_lt {S : Nat} {f : Nat → Nat} {R va : Nat} : ∀ {n : Nat}, n < (wk0 S f 0 R va).1.length → tbO (wk0 S f 0 R va).1 n = true
 | 0, _ => rfl
 | n + 1, h => tbO_yes (tbO_lt (by omega)) (by omega) (wk0_tab h)
theorem tb_th {S : Nat} {f : Nat → Nat} {R : Nat} (e : TR.En) (h1 : 1 ≤ e.lv) : (tbO (wk0 S f 0 R e.va).1 e.lv.toNat && decide (tbA (wk0 S f 0 R e.va).1 R e.lv.toNat = e.tb)) = thB S f R e := by
 obtain ⟨n, hn⟩ : ∃ n : Nat, e.lv = (n : Int) + 1 := ⟨(e.lv - 1).toNat, by omega⟩
 have e1 : e.lv.toNat = n + 1 := by omega
 have e2 : (e.lv - 1).toNat = n := by omega
 have e3 : e.lv - 1 = (n : Int) := by omega
 unfold thB
 rw [e1, e2, e3]
 by_cases hl : n < (wk0 S f 0 R e.va).1.length
 ·have ho := tbO_lt hl
  have es : tbO (wk0 S f 0 R e.va).1 (n + 1) = TR.isT (n : Int) (wk0 S f 0 R e.va).1[n]!.2 := by
   show (tbO _ n && (decide _ && _)) = _
   rw [ho, decide_eq_true hl, Bool.true_and, Bool.true_and]
  rw [decide_eq_true hl, Bool.true_and]
  unfold tbA
  rw [es]
  cases ht : TR.isT (n : Int) (wk0 S f 0 R e.va).1[n]!.2
  ·rfl
  ·rfl
 ·have es : tbO (wk0 S f 0 R e.va).1 (n + 1) = false := by
   show (tbO _ n && (decide _ && _)) = _
   rw [decide_eq_false hl, Bool.false_and, Bool.and_false]
  rw [es, decide_eq_false hl]
  rfl
def eqD7 (p q : Lf) : Bool := p.k == q.k && (p.o == q.o && (p.u == q.u && (p.r == q.r && (p.x == q.x && (p.s == q.s && p.a == q.a)))))
theorem eqF_7 (p q : Lf) : eqF p q = (p.l == q.l && eqD7 p q) := rfl
abbrev Lf.dv (q : Lf) : Value := .agg #[.int .i64 q.k, .int .u64 (q.o : Nat), .bool q.u, .bool q.r, .bool q.x, .bool q.s, .int .i64 q.a]
theorem neD (p q : Lf) (w : World) : (binOp .neq 92 p.dv q.dv).run Tryz.prog w = .ok (.bool (!eqD7 p q)) w := by
 obtain ⟨al, a1, a2, a3, a4, a5, a6, a7⟩ := p
 obtain ⟨bl, b1, b2, b3, b4, b5, b6, b7⟩ := q
 simp only [Lf.dv, eqD7]
 by_cases h1 : a1 = b1
 ·subst h1
  by_cases h2 : a2 = b2
  ·subst h2
   by_cases h3 : a3 = b3
   ·subst h3
    by_cases h4 : a4 = b4
    ·subst h4
     by_cases h5 : a5 = b5
     ·subst h5
      by_cases h6 : a6 = b6
      ·subst h6
       by_cases h7 : a7 = b7
       ·subst h7
        first | (go_simp; done) | (go_simp <;> simp_all)
       ·go_simp <;> (first | (simp_all; done) | (rw [if_neg (by omega), beq_eq_false_iff_ne.2 (by assumption)]; rfl))
      ·go_simp <;> (first | (simp_all; done) | (rw [if_neg (by omega), beq_eq_false_iff_ne.2 (by assumption)]; rfl))
     ·go_simp <;> (first | (simp_all; done) | (rw [if_neg (by omega), beq_eq_false_iff_ne.2 (by assumption)]; rfl))
    ·go_simp <;> (first | (simp_all; done) | (rw [if_neg (by omega), beq_eq_false_iff_ne.2 (by assumption)]; rfl))
   ·go_simp <;> (first | (simp_all; done) | (rw [if_neg (by omega), beq_eq_false_iff_ne.2 (by assumption)]; rfl))
  ·go_simp <;> (first | (simp_all; done) | (rw [if_neg (by omega), beq_eq_false_iff_ne.2 (by assumption)]; rfl))
 ·go_simp <;> (first | (simp_all; done) | (rw [if_neg (by omega), beq_eq_false_iff_ne.2 (by assumption)]; rfl))
theorem cm_fault {S : Nat} {f : Nat → Nat} {R : Nat} {e : TB.En} (hr : TB.qbe e = true) (hf : (ftR (wk0 S f 0 R e.va).2).1 ≠ 0) : cmT S f R e = false := by
 have hse := (rentry hr).2.2.2
 cases hc : cmT S f R e
 ·rfl
 ·unfold cmT at hc
  have hq := eqF_iff.1 hc
  have hss : (lfR (wk0 S f 0 R e.va).2).s = true := by rw [hq]; exact hse
  rw [(lfR_s hss).2.2] at hf
  exact absurd rfl hf
theorem cells10z {w : World} {g t : Nat} {c0 c1 c2 c3 c4 c5 c6 c7 c8 c9 : Value} (hh : w.heap[g]? = some (.cells #[c0, c1, c2, c3, c4, c5, c6, c7, c8, c9] t (0, 0))) : w.cell? ⟨g, 0, none⟩ = some c0 ∧ w.cell? ⟨g, 1, none⟩ = some c1 ∧ w.cell? ⟨g, 2, none⟩ = some c2 ∧ w.cell? ⟨g, 3, none⟩ = some c3 ∧ w.cell? ⟨g, 4, none⟩ = some c4 ∧ w.cell? ⟨g, 5, none⟩ = some c5 ∧ w.cell? ⟨g, 6, none⟩ = some c6 ∧ w.cell? ⟨g, 7, none⟩ = some c7 ∧ w.cell? ⟨g, 8, none⟩ = some c8 ∧ w.cell? ⟨g, 9, none⟩ = some c9 := by
 refine ⟨?_, ?_, ?_, ?_, ?_, ?_, ?_, ?_, ?_, ?_⟩
 all_goals (rw [cell_of_row _ _ _ _ _ _ hh]; rfl)
section
variable {w : World} {B : Nat → Prop} {m S : Nat} {most : Int} {s : St} {d : Yd}
theorem ysound_off (h : YOk w B m s d) (hg : s.rg = none) :
  Calls Tryz.prog 32 #[.agg (d.cs S most s)] w fun r w' => r = .returned (.bool (sndB S s)) ∧ Below w.heap.size w w' := by
 have e : sndB S s = true := by unfold sndB; rw [hg]
 have e3 : false = d.on := by have := h.on; rw [hg] at this; exact this.symm
 rw [e]
 clear h e hg
 obtain ⟨vm, L, aE, cE, aK, cK, aP, cP, on', R, I⟩ := d
 dsimp only at e3
 subst e3
 go_enter Tryz.func32, Tryz.ntmps32
 go_wp2
 go_ret
 exact ⟨rfl, qac _ _⟩
theorem ysound_on (h : YOk w B m s d) (hf : Fm S s.f) (hw : Wf most s) (hm : m < 1000000) (R I : Nat) (hg : s.rg = some (R, I)) :
  Calls Tryz.prog 32 #[.agg (d.cs S most s)] w fun r w' => r = .returned (.bool (sndB S s)) ∧ Below w.heap.size w w' := by
 have hR := (hw.rr R I hg).1
 have e1 : R = d.R := (h.rg R I hg).1.symm
 have e2 : I = d.I := (h.rg R I hg).2.symm
 have e3 : true = d.on := by have := h.on; rw [hg] at this; exact this.symm
 have HFR : Hid (∀ (va : Nat) W, Below w.heap.size w W → Calls Tryz.prog 71 #[.agg #[.int .u64 S, d.vm], .int .i64 0, .int .u64 R, .int .u64 va] W fun e w' => ∃ p cap, e = .returned (.agg (lC (lfR (wk0 S s.f 0 R va).2) (ftR (wk0 S s.f 0 R va).2) (.slice p (wk0 S s.f 0 R va).1.length cap))) ∧ Below W.heap.size W w') :=
  Hid.mk (fun va W hb => (qeq (h.later hb) hf hm _ _ _ (by omega)).mono (fun _ _ ⟨p, c, q1, _, q3⟩ => ⟨p, c, q1, q3⟩))
 have HTB : Hid (∀ (y : TR.En) W, 1 ≤ y.lv → y.lv ≤ 3 → Below w.heap.size w W → Calls Tryz.prog 72 #[.agg (d.cs S most s), .int .u64 (y.va : Nat), .int .i64 y.lv] W fun r w' => ∃ TA TO, r = .returned (.tuple #[.int .u64 (TA : Nat), .bool TO]) ∧ (TO && decide (TA = y.tb)) = thB S s.f R y ∧ Below W.heap.size W w') :=
  Hid.mk (fun y W h1 h3 hb => by
   have hc := ytable_c (S := S) (most := most) (h.later hb) hf hm y.va y.lv.toNat (by omega) (by omega)
   rw [show ((y.lv.toNat : Nat) : Int) = y.lv by omega] at hc
   refine hc.mono ?_
   rintro r w' ⟨rfl, hb2⟩
   refine ⟨_, _, rfl, ?_, hb2⟩
   rw [← e1]
   exact tb_th y h1)
 have HLV : Hid (∀ i, i < s.K.length → 1 ≤ (TR.gE s.K i).lv ∧ (TR.gE s.K i).lv ≤ 3) := fun i hi => TR.qej (hw.kr _ (by rw [TR.qbp s.K i hi]; exact List.getElem_mem hi)).2
 have HER : Hid (∀ i, i < s.E.length → TB.qbe (TB.gE s.E i) = true) := fun i hi => hw.er _ (by rw [TB.qbp s.E i hi]; exact List.getElem_mem hi)
 have hD : sndB S s = (s.E.all (sE S s.f R I) && s.K.all (sK S s.f R I)) := by unfold sndB; rw [hg]
 have HD1 : Hid (∀ i, i < s.E.length → sE S s.f R I (TB.gE s.E i) = false → sndB S s = false) := fun i hi h => by rw [hD, allE_false hi h]; rfl
 have HD2 : Hid (∀ i, i < s.K.length → sK S s.f R I (TR.gE s.K i) = false → sndB S s = false) := fun i hi h => by rw [hD, allK_false hi h, Bool.and_false]
 have HD3 : Hid ((∀ i, i < s.E.length → sE S s.f R I (TB.gE s.E i) = true) → (∀ i, i < s.K.length → sK S s.f R I (TR.gE s.K i) = true) → sndB S s = true) := fun h1 h2 => by rw [hD, allE_true h1, allK_true h2]; rfl
 have HP : Hid (∀ e : TB.En, (e.aid ≠ (I : Int) → sE S s.f R I e = true) ∧ (e.aid = (I : Int) → sE S s.f R I e = cmT S s.f R e)) := fun e => ⟨fun h => by unfold sE; rw [decide_eq_false h]; rfl, fun h => by unfold sE; rw [decide_eq_true h]; rfl⟩
 have HQ : Hid (∀ e : TR.En, (e.aid ≠ (I : Int) → sK S s.f R I e = true) ∧ (e.aid = (I : Int) → sK S s.f R I e = thB S s.f R e)) := fun e => ⟨fun h => by unfold sK; rw [decide_eq_false h]; rfl, fun h => by unfold sK; rw [decide_eq_true h]; rfl⟩
 have HRE := Hid.mk h.re.rd
 have HRK := Hid.mk h.rk.rd
 have hl := hw.el
 have hl2 := hw.kl
 have hl3 := hw.m64
 have hlE : (s.E.length : Int) ≤ 64 := by omega
 have hlK : (s.K.length : Int) ≤ 64 := by omega
 clear hD h hg hR hl hl2 hl3 hw hf hm
 obtain ⟨vm, L, aE, cE, aK, cK, aP, cP, on', R', I'⟩ := d
 dsimp only at e1 e2 e3
 subst e1 e2 e3
 dsimp only at HRE HRK
 generalize sndB S s = D at *
 generalize sE S s.f R I = pE at *
 generalize sK S s.f R I = pK at *
 have g0 := heap_alloc_new w (.cells #[.int .u64 S, vm, .int .i64 most, .slice aE s.E.length cE, .slice aK s.K.length cK, .bool true, .int .u64 R, .int .i64 I, .slice aP s.P.length cP] 34)
 have hB := qac w (.cells #[.int .u64 S, vm, .int .i64 most, .slice aE s.E.length cE, .slice aK s.K.length cK, .bool true, .int .u64 R, .int .i64 I, .slice aP s.P.length cP] 34)
 go_enter Tryz.func32, Tryz.ntmps32
 go_upto_region 1 with fail
 generalize w.alloc (.cells #[.int .u64 S, vm, .int .i64 most, .slice aE s.E.length cE, .slice aK s.K.length cK, .bool true, .int .u64 R, .int .i64 I, .slice aP s.P.length cP] 34) = W1 at *
 obtain ⟨c0, c1, c2, c3, c4, c5, c6, c7, c8⟩ := qal g0
 have HG := Hid.mk g0
 have HB1 := Hid.mk hB
 clear g0 hB
 go_wp2
 go_loopw [3, 4, 5] (fun s3 _ _ wr => ∃ i : Nat, i ≤ s.E.length ∧ s3 = .int .i64 i ∧ Below W1.heap.size W1 wr ∧ (∀ j, j < i → pE (TB.gE s.E j) = true)) (fun s3 _ _ _ => s.E.length - (RowKit.intOf s3).toNat)
 case atStart => exact ⟨0, by omega, rfl, Below.refl _ _, fun j hj => absurd hj (Nat.not_lt_zero _)⟩
 case round =>
  clear c0 c1 c2 c3 c4 c5 c6 c7 c8
  obtain ⟨i, hi, rfl, hb, hno⟩ := hrel
  have HB := Hid.mk hb
  have HNO := Hid.mk hno
  have HBw := Hid.mk (qab HB1.out hb)
  have g0 := qaa hb HG.out
  obtain ⟨c0, c1, c2, c3, c4, c5, c6, c7, c8⟩ := qal g0
  clear hno
  by_cases hlt : i < s.E.length
  ·have hlt2 : (i : Int) < s.E.length := by omega
   have HLT := Hid.mk hlt
   have hib : (i : Int) < 64 := by omega
   obtain ⟨g, oo, rfl, hg, hc⟩ := HRE.out i hlt
   have d0 := cell_later HBw.out (hc 0 _ rfl)
   have d1 := cell_later HBw.out (hc 1 _ rfl)
   have d2 := cell_later HBw.out (hc 2 _ rfl)
   have d3 := cell_later HBw.out (hc 3 _ rfl)
   have d4 := cell_later HBw.out (hc 4 _ rfl)
   have d5 := cell_later HBw.out (hc 5 _ rfl)
   have d6 := cell_later HBw.out (hc 6 _ rfl)
   have d7 := cell_later HBw.out (hc 7 _ rfl)
   have d8 := cell_later HBw.out (hc 8 _ rfl)
   have d9 := cell_later HBw.out (hc 9 _ rfl)
   rw [Nat.add_zero] at d0
   have hPy := HP.out (TB.gE s.E i)
   have HF := Hid.mk (HD1.out i hlt)
   have hri := HER.out i hlt
   have HN : Hid (pE (TB.gE s.E i) = true → ∀ j, j < i + 1 → pE (TB.gE s.E j) = true) := fun h j hj => by
    by_cases hji : j = i
    ·rw [hji]; exact h
    ·exact HNO.out j (by omega)
   clear hc hi hlt hg hb
   generalize pE (TB.gE s.E i) = PE at *
   generalize TB.gE s.E i = ye at *
   have HCF := Hid.mk (fun h => cm_fault (S := S) (f := s.f) (R := R) hri h)
   have HCM : Hid (cmT S s.f R ye = eqF (lfR (wk0 S s.f 0 R ye.va).2) (enL ye)) := rfl
   have HFy := Hid.mk (HFR.out ye.va)
   have HND := Hid.mk (fun W => neD (lfR (wk0 S s.f 0 R ye.va).2) (enL ye) W)
   clear hri
   generalize cmT S s.f R ye = C at *
   generalize lfR (wk0 S s.f 0 R ye.va).2 = lf at *
   generalize ftR (wk0 S s.f 0 R ye.va).2 = ft at *
   generalize (wk0 S s.f 0 R ye.va).1.length = nS at *
   rw [eqF_7] at HCM
   generalize hdq : eqD7 lf (enL ye) = DQ at *
   clear hdq
   obtain ⟨b0, b1, b2, b3, b4, b5, b6, b7, b8, b9⟩ := ye
   obtain ⟨l, k, o, u, r, y, q, t⟩ := lf
   obtain ⟨f1, f2⟩ := ft
   dsimp only [lC, Lf.dv, enL] at *
   have gE := heap_alloc_new wr (.cells #[.int .i64 b0, .int .u64 b1, .int .i64 b2, .int .i64 b3, .int .u64 b4, .bool b5, .bool b6, .bool b7, .bool b8, .int .i64 b9] 94)
   have hbE := qac wr (.cells #[.int .i64 b0, .int .u64 b1, .int .i64 b2, .int .i64 b3, .int .u64 b4, .bool b5, .bool b6, .bool b7, .bool b8, .int .i64 b9] 94)
   go_upto_region 7 with fail
   generalize wr.alloc (.cells #[.int .i64 b0, .int .u64 b1, .int .i64 b2, .int .i64 b3, .int .u64 b4, .bool b5, .bool b6, .bool b7, .bool b8, .int .i64 b9] 94) = w3 at *
   replace g0 := qaa hbE g0
   have HBa := Hid.mk (qab HBw.out hbE)
   have HBb := Hid.mk (qab HB.out hbE)
   generalize wr.heap.size = KE at *
   clear c0 c1 c2 c3 c4 c5 c6 c7 c8 d0 d1 d2 d3 d4 d5 d6 d7 d8 d9 hbE HBw HB
   obtain ⟨c0, c1, c2, c3, c4, c5, c6, c7, c8⟩ := qal g0
   obtain ⟨d0, d1, d2, d3, d4, d5, d6, d7, d8, d9⟩ := cells10z gE
   go_wp2_with fail
   refine (HFy.out _ HBa.out).mono ?_
   rintro e w4 ⟨p, cap, rfl, hb4⟩
   have gL := heap_alloc_new w4 (.cells #[.int .i64 l, .int .i64 k, .int .u64 o, .bool u, .bool r, .bool y, .bool q, .int .i64 t, .int .i64 f1, .int .i64 f2, .slice p nS cap] 138)
   have hbL := qac w4 (.cells #[.int .i64 l, .int .i64 k, .int .u64 o, .bool u, .bool r, .bool y, .bool q, .int .i64 t, .int .i64 f1, .int .i64 f2, .slice p nS cap] 138)
   clear c0 c1 c2 c3 c4 c5 c6 c7 c8 d0 d1 d2 d3 d4 d5 d6 d7 d8 d9
   go_upto_region 8 with fail
   generalize w4.alloc (.cells #[.int .i64 l, .int .i64 k, .int .u64 o, .bool u, .bool r, .bool y, .bool q, .int .i64 t, .int .i64 f1, .int .i64 f2, .slice p nS cap] 138) = w5 at *
   replace g0 := qaa hbL (qaa hb4 g0)
   replace gE := qaa hbL (qaa hb4 gE)
   have HBc := Hid.mk (qab HBa.out (qab hb4 hbL))
   have HBd := Hid.mk (qab HBb.out (qab hb4 hbL))
   generalize w4.heap.size = KL at *
   clear hb4 hbL HBa HBb
   obtain ⟨-, -, -, -, -, -, -, c7, -⟩ := qal g0
   obtain ⟨d0, d1, d2, d3, d4, d5, d6, d7, d8, d9⟩ := cells10z gE
   obtain ⟨m0, m1, m2, m3, m4, m5, m6, m7, m8, m9, -⟩ := qbb gL
   clear g0 gE gL
   by_cases hai : b0 = (I : Int)
   ·subst hai
    have hpe := hPy.2 rfl
    have HPE := Hid.mk hpe
    clear hPy hpe
    by_cases hf1 : f1 = 0
    ·subst hf1
     by_cases hl1 : l = b2
     ·subst hl1
      have HC2 : Hid (C = DQ) := by show _ = _; rw [HCM.out]; simp
      have hne := HND.out
      cases DQ
      ·go_wp2
       go_ret
       exact ⟨by rw [HF.out (by rw [HPE.out, HC2.out])]; rfl, HBc.out⟩
      ·go_wp2
       exact ⟨⟨i + 1, by have := HLT.out; omega, by go_num, HBd.out, HN.out (by rw [HPE.out, HC2.out])⟩, by have := HLT.out; simp [RowKit.intOf]; omega⟩
     ·have hl2 : (l != b2) = true := by rw [bne_iff_ne]; exact hl1
      have HC2 : Hid (C = false) := by show _ = _; rw [HCM.out, beq_eq_false_iff_ne.2 hl1]; rfl
      clear hl1
      go_wp2
      go_ret
      exact ⟨by rw [HF.out (by rw [HPE.out, HC2.out])]; rfl, HBc.out⟩
    ·have hf2 : (f1 != 0) = true := by rw [bne_iff_ne]; exact hf1
     have HC2 := Hid.mk (HCF.out hf1)
     clear hf1
     go_wp2
     go_ret
     exact ⟨by rw [HF.out (by rw [HPE.out, HC2.out])]; rfl, HBc.out⟩
   ·have hai2 : (b0 == (I : Int)) = false := beq_eq_false_iff_ne.2 hai
    have hpe := hPy.1 hai
    have HPE := Hid.mk hpe
    clear hPy hai hpe
    go_wp2
    exact ⟨⟨i + 1, by have := HLT.out; omega, by go_num, HBd.out, HN.out HPE.out⟩, by have := HLT.out; simp [RowKit.intOf]; omega⟩
  ·have e : i = s.E.length := by omega
   subst e
   have HNE := HNO
   clear HNO hi hlt HRE HP HFR HER HD1 hb
   have HB2 := HB
   have HBw2 := HBw
   have HG2 := Hid.mk g0
   clear HB HBw g0
   go_wp2
   go_loopw [6, 7, 8] (fun s6 _ _ wq => ∃ i : Nat, i ≤ s.K.length ∧ s6 = .int .i64 i ∧ Below wr.heap.size wr wq ∧ (∀ j, j < i → pK (TR.gE s.K j) = true)) (fun s6 _ _ _ => s.K.length - (RowKit.intOf s6).toNat)
   case atStart => exact ⟨0, by omega, rfl, Below.refl _ _, fun j hj => absurd hj (Nat.not_lt_zero _)⟩
   case round =>
    clear c0 c1 c2 c3 c4 c5 c6 c7 c8
    obtain ⟨i, hi, rfl, hb, hno⟩ := hrel
    have HNO := Hid.mk hno
    have HBw := Hid.mk (qab HBw2.out hb)
    have HB := Hid.mk hb
    have g0 := qaa hb HG2.out
    obtain ⟨c0, c1, c2, c3, c4, c5, c6, c7, c8⟩ := qal g0
    clear hno g0
    by_cases hlt : i < s.K.length
    ·have hlt2 : (i : Int) < s.K.length := by omega
     have HLT := Hid.mk hlt
     have hib : (i : Int) < 64 := by omega
     obtain ⟨g, oo, rfl, hg, hc⟩ := HRK.out i hlt
     have d0 := cell_later HBw.out (hc 0 _ rfl)
     have d1 := cell_later HBw.out (hc 1 _ rfl)
     have d2 := cell_later HBw.out (hc 2 _ rfl)
     have d3 := cell_later HBw.out (hc 3 _ rfl)
     rw [Nat.add_zero] at d0
     have hQy := HQ.out (TR.gE s.K i)
     have HF := Hid.mk (HD2.out i hlt)
     have HTy := Hid.mk (fun W hb => HTB.out (TR.gE s.K i) W (HLV.out i hlt).1 (HLV.out i hlt).2 hb)
     have HN : Hid (pK (TR.gE s.K i) = true → ∀ j, j < i + 1 → pK (TR.gE s.K j) = true) := fun h j hj => by
      by_cases hji : j = i
      ·rw [hji]; exact h
      ·exact HNO.out j (by omega)
     clear hc hi hlt hg hb
     generalize pK (TR.gE s.K i) = PK at *
     generalize thB S s.f R (TR.gE s.K i) = TH at *
     generalize TR.gE s.K i = ye at *
     obtain ⟨b0, b1, b2, b3⟩ := ye
     dsimp only at *
     go_upto_region 13 with fail
     go_cut [7, 8] (fun s7 s8 wc => ∃ TA TO, s7 = .int .u64 (TA : Nat) ∧ s8 = .bool TO ∧ (TO && decide (TA = b3)) = TH ∧ Below wr.heap.size wr wc)
     case first =>
      go_region_held3 (fun w' => (w'.cell? ⟨w.heap.size, 0, none⟩ = some (.int .u64 S) ∧ w'.cell? ⟨w.heap.size, 1, none⟩ = some (vm) ∧ w'.cell? ⟨w.heap.size, 2, none⟩ = some (.int .i64 most) ∧ w'.cell? ⟨w.heap.size, 3, none⟩ = some (.slice aE s.E.length cE) ∧ w'.cell? ⟨w.heap.size, 4, none⟩ = some (.slice (some ⟨g, oo, none⟩) s.K.length cK) ∧ w'.cell? ⟨w.heap.size, 5, none⟩ = some (.bool true) ∧ w'.cell? ⟨w.heap.size, 6, none⟩ = some (.int .u64 R) ∧ w'.cell? ⟨w.heap.size, 7, none⟩ = some (.int .i64 I) ∧ w'.cell? ⟨w.heap.size, 8, none⟩ = some (.slice aP s.P.length cP)) ∧
        (w'.cell? ⟨g, oo + i * 4 + 1, none⟩ = some (.int .u64 b1) ∧ w'.cell? ⟨g, oo + i * 4 + 2, none⟩ = some (.int .i64 b2)) ∧ Below wr.heap.size wr w')
       ((go_split_ands; refine ⟨⟨?_, ?_, ?_, ?_, ?_, ?_, ?_, ?_, ?_⟩, ⟨?_, ?_⟩, ?_⟩ <;> first | (with_reducible assumption; done) | with_reducible exact cell_later hbm (by assumption) | with_reducible exact qab (by assumption) hbm | exact (Below.refl _ _).drew | exact cell_later (Below.refl _ _).drew (by assumption) | (go_keep; done)))
       ((go_at_call 72; refine (HTy.out _ (qab HBw.out (by go_split_ands; assumption))).mono ?_; rintro e w' ⟨TA, TO, rfl, hth, hbm⟩))
      all_goals
       go_wp2
       go_meet
       exact ⟨TA, TO, rfl, rfl, hth, by go_split_ands; assumption⟩
     case rest =>
     obtain ⟨TA, TO, rfl, rfl, hth, hbq⟩ := hcut
     have HTH := Hid.mk hth
     obtain ⟨c4, c7, d0, d3⟩ := cl4 hbq c4 c7 d0 d3
     have HBc := Hid.mk (qab HBw.out hbq)
     have HBd := Hid.mk (qab HB.out hbq)
     clear c0 c1 c2 c3 c5 c6 c8 d1 d2 hth hbq HTy
     by_cases hai : b0 = (I : Int)
     ·subst hai
      have HPE := Hid.mk (hQy.2 rfl)
      clear hQy
      cases TO
      ·have HT2 : Hid (TH = false) := by show _ = _; rw [← HTH.out]; rfl
       go_wp2
       go_quiet (fail)
       go_wp2
       go_ret
       exact ⟨by rw [HF.out (by rw [HPE.out, HT2.out])]; rfl, qab HBc.out (TB.qav (Below.refl _ _) _)⟩
      ·by_cases hta : TA = b3
       ·have HT2 : Hid (TH = true) := by show _ = _; rw [← HTH.out, decide_eq_true hta]; rfl
        have hne : ((TA : Int) != (b3 : Int)) = false := by rw [hta]; simp
        clear hta
        go_wp2
        go_quiet (fail)
        go_wp2
        exact ⟨⟨i + 1, by have := HLT.out; omega, by go_num, qab HBd.out (TB.qav (Below.refl _ _) _), HN.out (by rw [HPE.out, HT2.out])⟩, by have := HLT.out; simp [RowKit.intOf]; omega⟩
       ·have HT2 : Hid (TH = false) := by show _ = _; rw [← HTH.out, decide_eq_false hta]; rfl
        have hne : ((TA : Int) != (b3 : Int)) = true := by rw [bne_iff_ne]; omega
        clear hta
        go_wp2
        go_quiet (fail)
        go_wp2
        go_ret
        exact ⟨by rw [HF.out (by rw [HPE.out, HT2.out])]; rfl, qab HBc.out (TB.qav (Below.refl _ _) _)⟩
     ·have hai2 : (b0 == (I : Int)) = false := beq_eq_false_iff_ne.2 hai
      have HPE := Hid.mk (hQy.1 hai)
      clear hQy hai
      go_wp2
      go_quiet (fail)
      go_wp2
      exact ⟨⟨i + 1, by have := HLT.out; omega, by go_num, qab HBd.out (TB.qav (Below.refl _ _) _), HN.out HPE.out⟩, by have := HLT.out; simp [RowKit.intOf]; omega⟩
    ·have e : i = s.K.length := by omega
     subst e
     go_wp2
     go_ret
     exact ⟨by rw [HD3.out HNE.out HNO.out]; rfl, HBw.out⟩
theorem ysound_c (h : YOk w B m s d) (hf : Fm S s.f) (hw : Wf most s) (hm : m < 1000000) :
  Calls Tryz.prog 32 #[.agg (d.cs S most s)] w fun r w' => r = .returned (.bool (sndB S s)) ∧ Below w.heap.size w w' := by
 cases hg : s.rg with
 | none => exact ysound_off h hg
 | some q =>
  obtain ⟨R, I⟩ := q
  exact ysound_on h hf hw hm R I hg
end
end Go.Proofs.YtfdbdeckohaneaaGreatDoor.MM
namespace Go.Proofs.YtfdbdeckohaneaaGreatDoor
open Go.RowKit Go.Maps
section
variable (w : World) {ops : Array Oper} {rest : List Oper} {o : Oper} {a : Act} {Q : Exit → Act → World → Prop}
theorem wpList_rangeP (hg : o.guard = none) (m : Operand) (hop : o.op = Op.range 126 m) (mb n : Nat) (pg : Nat → Option Nat) (hm : a.eval m = .map (some mb)) (h : qcs w mb n pg)
  (hK : ∀ w' cnt, PRange w' mb w.heap.size n pg (fun x => (pg x).isSome) cnt → Below w.heap.size w w' → w'.heap.size = w.heap.size + 1 → cnt ≤ n → wpList Tryz.prog ops Q rest (a.put o.dst (.pointer (some ⟨w.heap.size, 0, none⟩))) w') :
  wpList Tryz.prog ops Q (o :: rest) a w := by
 obtain ⟨w', cnt, hrun, h1, h2, h3, h4⟩ := h.range
 refine Great.wpList_runTo hg _ rfl (.pointer (some ⟨w.heap.size, 0, none⟩)) w' ?_ (hK w' cnt h1 ⟨h2.os, h2.tape, h2.output, h2.size, fun k hk => h2.block k hk (by simp)⟩ h3 h4)
 simp [execOp, hop, hm, hrun, Result.andThen]
theorem wpList_nextP (hg : o.guard = none) (it : Operand) (hop : o.op = Op.next it false) (mb r n : Nat) (pg : Nat → Option Nat) (left : Nat → Bool) (cnt : Nat) (hit : a.eval it = .pointer (some ⟨r, 0, none⟩)) (h : PRange w mb r n pg left cnt)
  (hDone : (∀ x, x < 18446744073709551616 → left x = false) → wpList Tryz.prog ops Q rest (a.put o.dst (.tuple #[.bool false])) w)
  (hMore : ∀ x b w' cnt', x < 18446744073709551616 → left x = true → pg x = some b → PRange w' mb r n pg (fun y => left y && !decide (y = x)) cnt' → cnt' < cnt → w.grownBy w' (some r) → w'.heap.size = w.heap.size →
   (Instr.entry (.pointer (some ⟨r, 0, none⟩))).run Tryz.prog w' = .ok (.tuple #[.int .u64 x, .pointer (some ⟨b, 0, none⟩)]) w' →
   wpList Tryz.prog ops Q rest (a.put o.dst (.tuple #[.bool true, .int .u64 x, .pointer (some ⟨b, 0, none⟩)])) w') :
  wpList Tryz.prog ops Q (o :: rest) a w := by
 rcases h.next o.type with ⟨hl, hrun⟩ | ⟨x, b, w', cnt', h1, h2, h3, hrun, h4, h5, h6, h7, h8⟩
 ·refine Great.wpList_runTo hg _ rfl (.tuple #[.bool false]) w ?_ (hDone hl)
  simp [execOp, hop, hit, hrun, Result.andThen]
 ·refine Great.wpList_runTo hg _ rfl (.tuple #[.bool true, .int .u64 x, .pointer (some ⟨b, 0, none⟩)]) w' ?_ (hMore x b w' cnt' h1 h2 h3 h4 h5 h6 h7 h8)
  simp [execOp, hop, hit, hrun, Result.andThen]
end
section
variable {P : Program} {ops : Array Oper} {rest : List Oper} {o : Oper} {a : Act} {C : World → Prop} {Q : Act → Prop}
end
def cnt (p : Nat → Bool) (N : Nat) : Nat := (List.range N).countP p
theorem qez (p : Nat → Bool) (N : Nat) : cnt p (N + 1) = cnt p N + (if p N then 1 else 0) := by
 unfold cnt
 rw [List.range_succ, List.countP_append, List.countP_singleton]
theorem cnt_le (p : Nat → Bool) (N : Nat) : cnt p N ≤ N := by
 have := List.countP_le_length (p := p) (l := List.range N)
 simpa [cnt] using this
theorem cnt_congr {p q : Nat → Bool} {N : Nat} (h : ∀ i, i < N → p i = q i) : cnt p N = cnt q N := by
 unfold cnt
 apply List.countP_congr
 intro i hi
 rw [h i (List.mem_range.1 hi)]
theorem cnt_zero {p : Nat → Bool} {N : Nat} (h : ∀ i, i < N → p i = false) : cnt p N = 0 := by
 induction N with
 | zero => rfl
 | succ N ih => rw [qez, ih (fun i hi => h i (by omega)), h N (by omega)]; rfl
theorem cnt_or {p q : Nat → Bool} : ∀ {N : Nat}, (∀ i, i < N → ¬ (p i = true ∧ q i = true)) → cnt (fun i => p i || q i) N = cnt p N + cnt q N
 | 0, _ => rfl
 | N + 1, h => by
  rw [qez, qez, qez, cnt_or (fun i hi => h i (by omega))]
  have := h N (by omega)
  cases hp : p N <;> cases hq : q N <;> simp_all <;> omega
theorem cnt_add (p : Nat → Bool) (a : Nat) : ∀ m, cnt p (a + m) = cnt p a + cnt (fun j => p (a + j)) m
 | 0 => by simp [cnt]
 | m + 1 => by rw [← Nat.add_assoc, qez, cnt_add p a m, qez]; omega
theorem cnt_win (p : Nat → Bool) (a m r : Nat) (h : ∀ i, p i = true → a ≤ i ∧ i < a + m) : cnt p (a + m + r) = cnt (fun j => p (a + j)) m := by
 rw [cnt_add, cnt_add, cnt_zero (N := a) (fun i hi => ?_), cnt_zero (N := r) (fun i hi => ?_)]
 ·omega
 ·cases hp : p (a + m + i)
  ·rfl
  ·have := h _ hp; omega
 ·cases hp : p i
  ·rfl
  ·have := h _ hp; omega
def wordsN (f : Nat → Nat) (S : Nat) : Nat := cnt (fun i => f (8 * i) != 0) (S / 8)
def wordsL (f : Nat → Nat) (S : Nat) (left : Nat → Bool) : Nat := cnt (fun i => f (8 * i) != 0 && !left (dn (8 * i))) (S / 8)
theorem wordsL_le (f : Nat → Nat) (S : Nat) (left : Nat → Bool) : wordsL f S left ≤ S / 8 := cnt_le _ _
theorem wordsL_step {f : Nat → Nat} {S x : Nat} {left : Nat → Bool} (hS : S % 4096 = 0) (hx : x % 4096 = 0) (hxS : x < S) (hl : left x = true) :
  wordsL f S (fun y => left y && !decide (y = x)) = wordsL f S left + cnt (fun j => f (x + 8 * j) != 0) 512 := by
 have h1 : wordsL f S (fun y => left y && !decide (y = x)) = cnt (fun i => (f (8 * i) != 0 && !left (dn (8 * i))) || (f (8 * i) != 0 && decide (dn (8 * i) = x))) (S / 8) := by
  unfold wordsL
  apply cnt_congr
  intro i _
  by_cases e : dn (8 * i) = x
  ·rw [e, hl]; simp
  ·simp [e]
 rw [h1, cnt_or (fun i _ => ?_)]
 ·have e1 : S / 8 = x / 8 + 512 + (S / 8 - x / 8 - 512) := by omega
  have e4 : cnt (fun i => f (8 * i) != 0 && decide (dn (8 * i) = x)) (x / 8 + 512 + (S / 8 - x / 8 - 512)) = cnt (fun j => f (x + 8 * j) != 0) 512 := by
   rw [cnt_win _ (x / 8) 512 _ (fun i hi => ?_)]
   ·apply cnt_congr
    intro j hj
    have e2 : 8 * (x / 8 + j) = x + 8 * j := by omega
    have e3 : dn (x + 8 * j) = x := by unfold dn; omega
    rw [e2, e3]; simp
   ·simp only [Bool.and_eq_true, decide_eq_true_eq] at hi
    have := hi.2
    unfold dn at this
    omega
  rw [← e1] at e4
  rw [e4]
  rfl
 ·rintro ⟨q1, q2⟩
  simp only [Bool.and_eq_true, decide_eq_true_eq, Bool.not_eq_true'] at q1 q2
  rw [q2.2, hl] at q1
  cases q1.2
theorem wordsL_start {w : World} {X : Nat → Prop} {a S n : Nat} {f : Nat → Nat} {mb : Nat} {pg : Nat → Option Nat} (h : Mem w X a S n f mb pg) : wordsL f S (fun x => (pg x).isSome) = 0 := by
 apply cnt_zero
 intro i _
 cases e : pg (dn (8 * i)) with
 | some _ => simp [e]
 | none =>
  have := h.zero _ (dn_mod _) e (plc (8 * i)) (plc_lt _)
  rw [dn_plc (by omega)] at this
  simp [this]
theorem wordsL_end {f : Nat → Nat} {S : Nat} {left : Nat → Bool} (hS : S ≤ 4294967296) (hl : ∀ x, x < 18446744073709551616 → left x = false) : wordsL f S left = wordsN f S := by
 apply cnt_congr
 intro i hi
 have : dn (8 * i) < 18446744073709551616 := by have := dn_le (8 * i); omega
 rw [hl _ this]; simp
structure WordsRel (w : World) (n : Nat) (mb r : Nat) (pg : Nat → Option Nat) (wr : World) (left : Nat → Bool) (cn : Nat) : Prop where
 rg : PRange wr mb r n pg left cn
 bel : Below r w wr
theorem words_c {w : World} {X : Nat → Prop} {a S n : Nat} {f : Nat → Nat} (h : qcw w X a S n f) :
  Calls Tryz.prog 33 #[.pointer (some ⟨a, 0, none⟩)] w fun e w' => e = .returned (.int .i64 (wordsN f S : Nat)) ∧ Below w.heap.size w w' := by
 obtain ⟨mb, pg, h⟩ := h
 have c1 := h.c1
 have hP := h.pgs
 have H1 : Hid (Mem w X a S n f mb pg) := h
 clear h
 go_enter Tryz.func33, Tryz.ntmps33
 go_wp2_with (first
  | (at_range; refine wpList_rangeP _ rfl _ rfl mb n pg rfl hP ?_; intro w9 cnt9 hrg9 hg9 hs9 hcn9)
  | go_in)
 go_frame
 have hR0 : WordsRel w n mb w.heap.size pg w9 (fun x => (pg x).isSome) cnt9 := ⟨hrg9, hg9⟩
 clear hrg9 hg9 hs9 hcn9 hP c1
 go_loopw [3] (fun v wr => ∃ left cn, v = .int .i64 (wordsL f S left : Nat) ∧ WordsRel w n mb w.heap.size pg wr left cn) (fun _ wr => wr.rangeLeft mb w.heap.size)
 case atStart => exact ⟨_, _, by rw [wordsL_start H1.out]; rfl, hR0⟩
 case round =>
  clear hR0
  obtain ⟨left, cn, rfl, hR⟩ := hrel
  have hrg := hR.rg
  have HR : Hid (WordsRel w n mb w.heap.size pg wr left cn) := hR
  clear hR
  go_wp2_with (first
   | (at_next; refine wpList_nextP _ rfl _ rfl mb w.heap.size n pg left cn rfl hrg ?_ ?_)
   | go_in)
  ·intro hl
   have HL : Hid (∀ x, x < 18446744073709551616 → left x = false) := hl
   clear hl hrg
   go_wp2
   go_ret
   exact ⟨by rw [← wordsL_end H1.out.s0.2.1 HL.out]; rfl, HR.out.bel⟩
  ·intro x c w1 cnt1 hx hlx hpx hrg1 hlt hg1 hs1 hen
   have h := H1.out
   have hR := HR.out
   obtain ⟨p1, p2, p3, p4, _⟩ := h.page x c hpx
   have hs0 := h.s0
   have hbel1 : Below w.heap.size w w1 := hR.bel.trans ⟨hg1.os, hg1.tape, hg1.output, hg1.size, fun i hi => hg1.block i (by have := hR.bel.size; omega) (fun e => by have := Option.some.inj e; omega)⟩
   have hrow : w1.heap[c]? = some (.cells (prow fun i => f (x + 8 * i)) 160 (0, 0)) := by
    rw [hbel1.block c (h.xlt _ p1)]; exact p4
   have HN : Hid (WordsRel w n mb w.heap.size pg w1 (fun y => left y && !decide (y = x)) cnt1 ∧ w1.rangeLeft mb w.heap.size < wr.rangeLeft mb w.heap.size) := ⟨⟨hrg1, hbel1⟩, by rw [hrg1.left_eq, hrg.left_eq]; exact hlt⟩
   have HS : Hid (wordsL f S (fun y => left y && !decide (y = x)) = wordsL f S left + cnt (fun j => f (x + 8 * j) != 0) 512) := wordsL_step hs0.2.2 p2 p3 hlx
   have hbig : wordsL f S left ≤ 536870912 := Nat.le_trans (wordsL_le _ _ _) (by omega)
   have HC : Hid (∀ i, i < 512 → w1.cell? ⟨c, i, none⟩ = some (.int .u64 (f (x + 8 * i) : Nat))) := fun i hi => pcell hrow hi
   have HCt : Hid (∀ k, cnt (fun j => f (x + 8 * j) != 0) (k + 1) = cnt (fun j => f (x + 8 * j) != 0) k + (if f (x + 8 * k) != 0 then 1 else 0)) := fun k => qez _ k
   have HCl : Hid (∀ k, cnt (fun j => f (x + 8 * j) != 0) k ≤ k) := fun k => cnt_le _ k
   have HC0 : Hid (cnt (fun j => f (x + 8 * j) != 0) 0 = 0) := rfl
   generalize wordsL f S left = N0 at *
   generalize cnt (fun j => f (x + 8 * j) != 0) = CT at *
   clear h hR hrg hrg1 hlt hg1 hs1 hbel1 p1 p2 p3 p4 hrow hs0 hlx hpx
   go_wp2
   go_loop [3, 18] (fun v i => ∃ k : Nat, k ≤ 512 ∧ i = .int .i64 k ∧ v = .int .i64 ((N0 + CT k : Nat) : Int)) (fun _ i => 512 - (intOf i).toNat)
   case atStart => exact ⟨0, by omega, rfl, by rw [HC0.out]; rfl⟩
   case round =>
    obtain ⟨k, hk, rfl, rfl⟩ := hrel
    have hcl := HCl.out k
    by_cases hlt : k < 512
    ·have hc := HC.out k hlt
     have hct := HCt.out k
     by_cases hz : f (x + 8 * k) = 0
     ·have HE : Hid (CT (k + 1) = CT k) := by
       show CT (k + 1) = CT k
       rw [hct, hz]; rfl
      rw [hz] at hc
      clear hct hz
      go_wp2
      refine ⟨⟨k + 1, by omega, by go_num, by rw [HE.out]⟩, by simp [intOf]; omega⟩
     ·have HE : Hid (CT (k + 1) = CT k + 1) := by
       show CT (k + 1) = CT k + 1
       rw [hct, if_pos (by simpa using hz)]
      have hzi : ¬ ((f (x + 8 * k) : Int) = 0) := by omega
      generalize f (x + 8 * k) = fv at *
      clear hct hz
      go_wp2
      refine ⟨⟨k + 1, by omega, by go_num, ?_⟩, by simp [intOf]; omega⟩
      rw [HE.out]
      go_num
    ·obtain rfl : k = 512 := by omega
     go_wp2
     go_roundw
     case rel => exact ⟨_, _, by rw [HS.out], HN.out.1⟩
     case measure => exact HN.out.2
end Go.Proofs.YtfdbdeckohaneaaGreatDoor
namespace Go.Proofs.YtfdbdeckohaneaaGreatDoor.MM
open Go.RowKit Go.Maps
theorem asc_eqy {l l' : List Nat} (h : l.Pairwise (fun a b => a < b)) (h' : l'.Pairwise (fun a b => a < b)) (hm : ∀ x, x ∈ l ↔ x ∈ l') : l = l' := by
 have n1 : l.Nodup := h.imp fun h => Nat.ne_of_lt h
 have n2 : l'.Nodup := h'.imp fun h => Nat.ne_of_lt h
 exact List.Perm.eq_of_pairwise (le := fun a b => a < b) (fun a b _ _ h1 h2 => by omega) h h' ((List.perm_ext_iff_of_nodup n1 n2).2 hm)
theorem ref_words {L : WL} {f : Nat → Nat} (h : Ref L f) {S : Nat} (hS : S % 8 = 0) (ho : ∀ x, (x % 8 ≠ 0 ∨ S ≤ x) → f x = 0) : wordsN f S = L.length := by
 have h1 : L.map (·.1) = ((List.range (S / 8)).filter (fun i => f (8 * i) != 0)).map (fun i => 8 * i) := by
  refine asc_eqy ?_ ?_ ?_
  ·rw [List.pairwise_map]; exact h.1
  ·rw [List.pairwise_map]
   refine List.Pairwise.imp ?_ (List.Pairwise.filter _ List.pairwise_lt_range)
   intro a b hab
   show 8 * a < 8 * b
   omega
  ·intro x
   rw [List.mem_map, List.mem_map]
   constructor
   ·rintro ⟨⟨y, z⟩, hm, rfl⟩
    obtain ⟨rfl, h0⟩ := (h.2 y z).1 hm
    have h8 : y % 8 = 0 := Classical.byContradiction fun c => h0 (ho y (Or.inl c))
    have hl : y < S := Classical.byContradiction fun c => h0 (ho y (Or.inr (by omega)))
    refine ⟨y / 8, List.mem_filter.2 ⟨List.mem_range.2 (by omega), ?_⟩, by show 8 * (y / 8) = y; omega⟩
    have e : 8 * (y / 8) = y := by omega
    rw [e]
    simpa using h0
   ·rintro ⟨i, hi, rfl⟩
    obtain ⟨_, hi2⟩ := List.mem_filter.1 hi
    exact ⟨(8 * i, f (8 * i)), (h.2 _ _).2 ⟨rfl, by simpa using hi2⟩, rfl⟩
 have h2 := congrArg List.length h1
 rw [List.length_map, List.length_map] at h2
 rw [h2]
 unfold wordsN cnt
 rw [List.countP_eq_length_filter]
theorem nE_same (b0 : Int) (b1 : Nat) (b2 b3 : Int) (b4 : Nat) (b5 b6 b7 b8 : Bool) (b9 : Int) (w : World) : (binOp .neq 94 (.agg #[.int .i64 b0, .int .u64 b1, .int .i64 b2, .int .i64 b3, .int .u64 b4, .bool b5, .bool b6, .bool b7, .bool b8, .int .i64 b9]) (.agg #[.int .i64 b0, .int .u64 b1, .int .i64 b2, .int .i64 b3, .int .u64 b4, .bool b5, .bool b6, .bool b7, .bool b8, .int .i64 b9])).run Tryz.prog w = .ok (.bool false) w := by
 first | (go_simp; done) | (go_simp <;> simp_all)
theorem nK_same (b0 : Int) (b1 : Nat) (b2 : Int) (b3 : Nat) (w : World) : (binOp .neq 97 (.agg #[.int .i64 b0, .int .u64 b1, .int .i64 b2, .int .u64 b3]) (.agg #[.int .i64 b0, .int .u64 b1, .int .i64 b2, .int .u64 b3])).run Tryz.prog w = .ok (.bool false) w := by
 first | (go_simp; done) | (go_simp <;> simp_all)
theorem or_reg (R I : Nat) (hR : R < 281474976710656) (hI : I ≤ 255) : bits .or .u64 (R : Int) (IntKind.u64.wrap ((I : Int) * 281474976710656)) = ((R + I * 281474976710656 : Nat) : Int) := by
 have e : IntKind.u64.wrap ((I : Int) * 281474976710656) = ((I * 281474976710656 : Nat) : Int) := by rw [IntKind.wrap_u64]; omega
 rw [e, bits_or_u64_nat _ _ (by omega) (by omega)]
 have h2 : R ||| I * 281474976710656 = R + I * 281474976710656 := by
  have := Nat.two_pow_add_eq_or_of_lt (i := 48) (b := R) hR I
  rw [show (2 : Nat) ^ 48 = 281474976710656 by decide, Nat.mul_comm] at this
  rw [Nat.or_comm, ← this, Nat.add_comm]
 rw [h2]
section
variable {w0 w : World} {XX B : Nat → Prop} {x a n m S : Nat} {most : Int} {s : St} {d : Yd}
theorem zP47x01 {Z : Prop} (z : Z := by
 clear gE
 go_quiet (fail)
 go_wp2
 exact ⟨⟨i + 1, by have := HLT.out; omega, by go_num, qab HBx.out (TB.qav (Below.refl _ _) _)⟩, by have := HLT.out; simp [RowKit.intOf]; omega⟩) : Z := z
theorem same_c (h : Mch w0 w XX x a n S most s) (hy : YOk w B m s d) (hf : Fm S s.f) (hm : m < 1000000) :
  Calls Tryz.prog 7 #[.pointer (some ⟨x, 0, none⟩), .agg (d.cs S most s)] w fun r w' => r = .returned (.bool true) ∧ Below w.heap.size w w' := by
 have hw := h.wfm
 have HSN : Hid (∀ W, Below w.heap.size w W → Calls Tryz.prog 12 #[.pointer (some ⟨x, 0, none⟩)] W fun r w' => r = .returned (.bool (sndB S s)) ∧ Below W.heap.size W w') := Hid.mk (fun _ hb => sound_c (h.later hb))
 have HYS : Hid (∀ W, Below w.heap.size w W → Calls Tryz.prog 32 #[.agg (d.cs S most s)] W fun r w' => r = .returned (.bool (sndB S s)) ∧ Below W.heap.size W w') := Hid.mk (fun _ hb => ysound_c (hy.later hb) hf hw hm)
 have HMM : Hid (∀ W, Below w.heap.size w W → Calls Tryz.prog 10 #[.pointer (some ⟨x, 0, none⟩)] W fun r w' => r = .returned (.pointer (some ⟨a, 0, none⟩)) ∧ Below W.heap.size W w') := Hid.mk (fun _ hb => (memory_c (h.later hb)).mono (fun r w' hh => ⟨hh.1, by rw [← hh.2]; exact Below.refl _ _⟩))
 have HEN : Hid (∀ W, Below w.heap.size w W → Calls Tryz.prog 30 #[.pointer (some ⟨x, 0, none⟩)] W fun r w' => ∃ ad cap, r = .returned (.slice ad s.E.length cap) ∧ TB.RdA w' ad s.E ∧ (∀ b, ad = some b → W.heap.size ≤ b.block) ∧ Below W.heap.size W w') := Hid.mk (fun _ hb => entries_c (h.later hb))
 have HMK : Hid (∀ W, Below w.heap.size w W → Calls Tryz.prog 31 #[.pointer (some ⟨x, 0, none⟩)] W fun r w' => ∃ ad cap, r = .returned (.slice ad s.K.length cap) ∧ TR.RdA w' ad s.K ∧ (∀ b, ad = some b → W.heap.size ≤ b.block) ∧ Below W.heap.size W w') := Hid.mk (fun _ hb => marks_c (h.later hb))
 have HRG : Hid (∀ W, Below w.heap.size w W → Calls Tryz.prog 35 #[.pointer (some ⟨x, 0, none⟩)] W fun r w' => r = .returned (.tuple #[.int .u64 (regW s.rg : Nat), .bool s.rg.isSome]) ∧ Below W.heap.size W w') := Hid.mk (fun _ hb => register_c (h.later hb))
 have hS8 : S % 8 = 0 := by
  obtain ⟨XM, XB, XT, tb, tr, pv, h⟩ := h
  obtain ⟨mb, pg, hmm⟩ := h.mem
  have := hmm.s0
  omega
 have hout : ∀ y, (y % 8 ≠ 0 ∨ S ≤ y) → s.f y = 0 := fun y hq => hf.outs y (by unfold errA; split; decide; rw [if_pos (by omega)]; decide)
 have HWD : Hid (∀ W, Below w.heap.size w W → Calls Tryz.prog 33 #[.pointer (some ⟨a, 0, none⟩)] W fun r w' => r = .returned (.int .i64 (d.L.length : Nat)) ∧ Below W.heap.size W w') := Hid.mk (fun _ hb => by
  obtain ⟨XM, XB, XT, tb, tr, pv, h⟩ := h.later hb
  have := words_c h.mem
  rw [ref_words hy.ref hS8 hout] at this
  exact this)
 have HRD : Hid (∀ i, i < d.L.length → ∀ W, Below w.heap.size w W → Calls Tryz.prog 34 #[.pointer (some ⟨a, 0, none⟩), .int .u64 (d.L[i]!.1 : Nat)] W fun r w' => r = .returned (.tuple #[.int .u64 (d.L[i]!.2 : Nat), .int .i64 0]) ∧ Below W.heap.size W w') := Hid.mk (fun i hi W hb => by
  obtain ⟨XM, XB, XT, tb, tr, pv, h⟩ := h.later hb
  obtain ⟨e1, e2⟩ := hy.ref.mem hi
  have e3 : errA S d.L[i]!.1 = 0 := Classical.byContradiction fun c => e2 (e1.trans (hf.outs _ c))
  have hlt : d.L[i]!.1 < 18446744073709551616 := by
   have := hf.hS
   unfold errA at e3
   split at e3
   ·exact absurd e3 (by decide)
   ·split at e3
    ·exact absurd e3 (by decide)
    ·omega
  have := read_c h.mem _ hlt
  rw [e3, ← e1] at this
  exact this)
 have HRE := Hid.mk hy.re.rd
 have HRK := Hid.mk hy.rk.rd
 obtain ⟨pW, cW, hvm, hcW⟩ := hy.psl.form
 have HPW := Hid.mk hcW
 have HON : Hid (d.on = s.rg.isSome) := Hid.mk hy.on
 have HRI : Hid (∀ R I, s.rg = some (R, I) → d.R = R ∧ d.I = I) := Hid.mk hy.rg
 have HRR : Hid (∀ R I, s.rg = some (R, I) → R < 281474976710656 ∧ I ≤ 255) := Hid.mk (fun R I hq => ⟨(hw.rr R I hq).1, (hw.rr R I hq).2.2⟩)
 have hlE : (s.E.length : Int) ≤ 64 := by have := hw.el; have := hw.m64; omega
 have hlK : (s.K.length : Int) ≤ 64 := by have := hw.kl; have := hw.m64; omega
 have hlL : (d.L.length : Int) < 1000000 := by have := hy.len; omega
 clear h hy hf hm hw hS8 hout hcW
 obtain ⟨vm, L, aE, cE, aK, cK, aP, cP, on, R, I⟩ := d
 dsimp only at hvm HRE HRK HON HRI HPW HWD HRD hlL
 subst hvm
 generalize sndB S s = SB at *
 have g0 := heap_alloc_new w (.cells #[.int .u64 S, .slice pW L.length cW, .int .i64 most, .slice aE s.E.length cE, .slice aK s.K.length cK, .bool on, .int .u64 R, .int .i64 I, .slice aP s.P.length cP] 34)
 have hB := qac w (.cells #[.int .u64 S, .slice pW L.length cW, .int .i64 most, .slice aE s.E.length cE, .slice aK s.K.length cK, .bool on, .int .u64 R, .int .i64 I, .slice aP s.P.length cP] 34)
 go_enter Tryz.func7, Tryz.ntmps7
 go_upto_region 1 with fail
 generalize w.alloc (.cells #[.int .u64 S, .slice pW L.length cW, .int .i64 most, .slice aE s.E.length cE, .slice aK s.K.length cK, .bool on, .int .u64 R, .int .i64 I, .slice aP s.P.length cP] 34) = W1 at *
 go_wp2_with fail
 refine (HEN.out _ hB).mono ?_
 rintro e w2 ⟨ad, cap, rfl, hes, -, hb2⟩
 replace hB := qab hB hb2
 replace g0 := qaa hb2 g0
 go_wp2_with fail
 refine (HMK.out _ hB).mono ?_
 rintro e w3 ⟨ad2, cap2, rfl, hks, -, hb3⟩
 replace hB := qab hB hb3
 replace g0 := qaa hb3 g0
 replace hes := hes.later hb3
 have HES := Hid.mk hes
 have HKS := Hid.mk hks
 clear hb2 hb3 HEN HMK hes hks
 obtain ⟨c0, c1, c2, c3, c4, c5, c6, c7, c8⟩ := qal g0
 go_upto_region 2 with fail
 have HB3 := Hid.mk hB
 go_cut [51] (fun t wc => t = .bool false ∧ Below w3.heap.size w3 wc)
 case first =>
  go_region_held3 (fun w' => (w'.cell? ⟨w.heap.size, 0, none⟩ = some (.int .u64 S) ∧ w'.cell? ⟨w.heap.size, 1, none⟩ = some (.slice pW L.length cW) ∧ w'.cell? ⟨w.heap.size, 2, none⟩ = some (.int .i64 most) ∧ w'.cell? ⟨w.heap.size, 3, none⟩ = some (.slice aE s.E.length cE) ∧ w'.cell? ⟨w.heap.size, 4, none⟩ = some (.slice aK s.K.length cK) ∧ w'.cell? ⟨w.heap.size, 5, none⟩ = some (.bool on) ∧ w'.cell? ⟨w.heap.size, 6, none⟩ = some (.int .u64 R) ∧ w'.cell? ⟨w.heap.size, 7, none⟩ = some (.int .i64 I) ∧ w'.cell? ⟨w.heap.size, 8, none⟩ = some (.slice aP s.P.length cP)) ∧ Below w3.heap.size w3 w')
   ((go_split_ands; refine ⟨⟨?_, ?_, ?_, ?_, ?_, ?_, ?_, ?_, ?_⟩, ?_⟩ <;> first | (with_reducible assumption; done) | with_reducible exact cell_later hbm (by assumption) | with_reducible exact qab (by assumption) hbm | exact (Below.refl _ _).drew | exact cell_later (Below.refl _ _).drew (by assumption) | (go_keep; done)))
   (first
    | (go_at_call 12; refine (HSN.out _ (qab HB3.out (by go_split_ands; assumption))).mono ?_; rintro e w' ⟨rfl, hbm⟩)
    | (go_at_call 32; refine (HYS.out _ (qab HB3.out (by go_split_ands; assumption))).mono ?_; rintro e w' ⟨rfl, hbm⟩)
    | (go_at_call 10; refine (HMM.out _ (qab HB3.out (by go_split_ands; assumption))).mono ?_; rintro e w' ⟨rfl, hbm⟩)
    | (go_at_call 33; refine (HWD.out _ (qab HB3.out (by go_split_ands; assumption))).mono ?_; rintro e w' ⟨rfl, hbm⟩))
  all_goals
   go_wp2
   go_meet
   exact ⟨by simp, by go_split_ands; assumption⟩
 case rest =>
 obtain ⟨rfl, hbc⟩ := hcut
 replace g0 := qaa hbc g0
 replace HES := Hid.mk (HES.out.later hbc)
 replace HKS := Hid.mk (HKS.out.later hbc)
 have HBc := Hid.mk (qab HB3.out hbc)
 have HG := Hid.mk g0
 clear c0 c1 c2 c3 c4 c5 c6 c7 c8 hbc HB3 hB g0 HSN HYS HWD
 go_wp2
 go_loopw [7, 8, 54] (fun _ _ s54 wr => ∃ i : Nat, i ≤ s.E.length ∧ s54 = .int .i64 i ∧ Below wc.heap.size wc wr) (fun _ _ s54 _ => s.E.length - (RowKit.intOf s54).toNat)
 case atStart => exact ⟨0, by omega, rfl, Below.refl _ _⟩
 case round =>
  obtain ⟨i, hi, rfl, hb⟩ := hrel
  have HB := Hid.mk hb
  have HBw := Hid.mk (qab HBc.out hb)
  have g0 := qaa hb HG.out
  by_cases hlt : i < s.E.length
  ·have hlt2 : (i : Int) < s.E.length := by omega
   have HLT := Hid.mk hlt
   have hib : (i : Int) < 64 := by omega
   obtain ⟨g, oo, rfl, hg, hc⟩ := HES.out i hlt
   obtain ⟨g', oo', hq, hg', hc'⟩ := HRE.out i hlt
   (try dsimp only at hq)
   have d0 := cell_later hb (hc 0 _ rfl)
   have d1 := cell_later hb (hc 1 _ rfl)
   have d2 := cell_later hb (hc 2 _ rfl)
   have d3 := cell_later hb (hc 3 _ rfl)
   have d4 := cell_later hb (hc 4 _ rfl)
   have d5 := cell_later hb (hc 5 _ rfl)
   have d6 := cell_later hb (hc 6 _ rfl)
   have d7 := cell_later hb (hc 7 _ rfl)
   have d8 := cell_later hb (hc 8 _ rfl)
   have d9 := cell_later hb (hc 9 _ rfl)
   have f0 := cell_later HBw.out (hc' 0 _ rfl)
   have f1 := cell_later HBw.out (hc' 1 _ rfl)
   have f2 := cell_later HBw.out (hc' 2 _ rfl)
   have f3 := cell_later HBw.out (hc' 3 _ rfl)
   have f4 := cell_later HBw.out (hc' 4 _ rfl)
   have f5 := cell_later HBw.out (hc' 5 _ rfl)
   have f6 := cell_later HBw.out (hc' 6 _ rfl)
   have f7 := cell_later HBw.out (hc' 7 _ rfl)
   have f8 := cell_later HBw.out (hc' 8 _ rfl)
   have f9 := cell_later HBw.out (hc' 9 _ rfl)
   rw [Nat.add_zero] at d0 f0
   have hne := fun W => nE_same (TB.gE s.E i).aid (TB.gE s.E i).va (TB.gE s.E i).lv (TB.gE s.E i).k (TB.gE s.E i).o (TB.gE s.E i).u (TB.gE s.E i).r (TB.gE s.E i).x (TB.gE s.E i).s (TB.gE s.E i).a W
   clear hc hc' hi hlt hg hg' hb
   generalize TB.gE s.E i = ye at *
   obtain ⟨b0, b1, b2, b3, b4, b5, b6, b7, b8, b9⟩ := ye
   dsimp only at *
   have gE := heap_alloc_new wr (.cells #[.int .i64 b0, .int .u64 b1, .int .i64 b2, .int .i64 b3, .int .u64 b4, .bool b5, .bool b6, .bool b7, .bool b8, .int .i64 b9] 91)
   have hbE := qac wr (.cells #[.int .i64 b0, .int .u64 b1, .int .i64 b2, .int .i64 b3, .int .u64 b4, .bool b5, .bool b6, .bool b7, .bool b8, .int .i64 b9] 91)
   subst hq
   go_upto_region 7 with fail
   generalize wr.alloc (.cells #[.int .i64 b0, .int .u64 b1, .int .i64 b2, .int .i64 b3, .int .u64 b4, .bool b5, .bool b6, .bool b7, .bool b8, .int .i64 b9] 91) = w5 at *
   have HBx := Hid.mk (qab HB.out hbE)
   replace g0 := qaa hbE g0
   obtain ⟨f0, f1, f2, f3, f4⟩ := cl5 hbE f0 f1 f2 f3 f4
   obtain ⟨f5, f6, f7, f8, f9⟩ := cl5 hbE f5 f6 f7 f8 f9
   generalize wr.heap.size = KE at *
   obtain ⟨-, -, -, c3, -⟩ := qal g0
   clear d0 d1 d2 d3 d4 d5 d6 d7 d8 d9 g0 hbE
   obtain ⟨d0, d1, d2, d3, d4, d5, d6, d7, d8, d9⟩ := cells10z gE
   exact zP47x01
  ·have e : i = s.E.length := by omega
   subst e
   have HB2 := HBw
   have HBq := HB
   have HG2 := Hid.mk g0
   clear HB HBw g0 hb hlt hi HES HRE
   go_wp2
   go_loopw [9, 10, 77] (fun _ _ s77 wq => ∃ i : Nat, i ≤ s.K.length ∧ s77 = .int .i64 i ∧ Below wr.heap.size wr wq) (fun _ _ s77 _ => s.K.length - (RowKit.intOf s77).toNat)
   case atStart => exact ⟨0, by omega, rfl, Below.refl _ _⟩
   case round =>
    obtain ⟨i, hi, rfl, hb⟩ := hrel
    have HB := Hid.mk hb
    have HBw := Hid.mk (qab HB2.out hb)
    have HBr := Hid.mk (qab HBq.out hb)
    have g0 := qaa hb HG2.out
    by_cases hlt : i < s.K.length
    ·have hlt2 : (i : Int) < s.K.length := by omega
     have HLT := Hid.mk hlt
     have hib : (i : Int) < 64 := by omega
     obtain ⟨g, oo, rfl, hg, hc⟩ := HKS.out i hlt
     obtain ⟨g', oo', hq, hg', hc'⟩ := HRK.out i hlt
     (try dsimp only at hq)
     have d0 := cell_later HBr.out (hc 0 _ rfl)
     have d1 := cell_later HBr.out (hc 1 _ rfl)
     have d2 := cell_later HBr.out (hc 2 _ rfl)
     have d3 := cell_later HBr.out (hc 3 _ rfl)
     have f0 := cell_later HBw.out (hc' 0 _ rfl)
     have f1 := cell_later HBw.out (hc' 1 _ rfl)
     have f2 := cell_later HBw.out (hc' 2 _ rfl)
     have f3 := cell_later HBw.out (hc' 3 _ rfl)
     rw [Nat.add_zero] at d0 f0
     have hne := fun W => nK_same (TR.gE s.K i).aid (TR.gE s.K i).va (TR.gE s.K i).lv (TR.gE s.K i).tb W
     clear hc hc' hi hlt hg hg' hb
     generalize TR.gE s.K i = ye at *
     obtain ⟨b0, b1, b2, b3⟩ := ye
     (try dsimp only at *)
     have gE := heap_alloc_new wr (.cells #[.int .i64 b0, .int .u64 b1, .int .i64 b2, .int .u64 b3] 96)
     have hbE := qac wr (.cells #[.int .i64 b0, .int .u64 b1, .int .i64 b2, .int .u64 b3] 96)
     subst hq
     go_upto_region 13 with fail
     generalize wr.alloc (.cells #[.int .i64 b0, .int .u64 b1, .int .i64 b2, .int .u64 b3] 96) = w5 at *
     have HBx := Hid.mk (qab HB.out hbE)
     replace g0 := qaa hbE g0
     obtain ⟨f0, f1, f2, f3⟩ := cl4 hbE f0 f1 f2 f3
     generalize wr.heap.size = KE at *
     obtain ⟨-, -, -, -, c4, -⟩ := qal g0
     clear d0 d1 d2 d3 g0 hbE
     obtain ⟨d0, d1, d2, d3⟩ := cells4y gE
     exact zP47x01
    ·have e : i = s.K.length := by omega
     subst e
     have HB3 := HBw
     have HG3 := Hid.mk g0
     obtain ⟨-, c1, -⟩ := qal g0
     clear HB HBw HBr HB2 HBq g0 hb hlt hi HKS HRK
     go_wp2
     go_loopw [12, 13, 14, 94] (fun _ _ _ s94 wq => ∃ i : Nat, i ≤ L.length ∧ s94 = .int .i64 i ∧ Below wr.heap.size wr wq) (fun _ _ _ s94 _ => L.length - (RowKit.intOf s94).toNat)
     case atStart => exact ⟨0, by omega, rfl, Below.refl _ _⟩
     case round =>
      obtain ⟨i, hi, rfl, hb⟩ := hrel
      have HB := Hid.mk hb
      have HBw := Hid.mk (qab HB3.out hb)
      have g0 := qaa hb HG3.out
      clear c1
      by_cases hlt : i < L.length
      ·have hlt2 : (i : Int) < L.length := by omega
       have HLT := Hid.mk hlt
       have hib : (i : Int) < 1000000 := by omega
       obtain ⟨g, rfl, hg, q1, q2⟩ := HPW.out i hlt
       have d0 := cell_later HBw.out q1
       have d1 := cell_later HBw.out q2
       have HRi := Hid.mk (HRD.out i hlt)
       clear q1 q2 hi hlt hg hb g0
       generalize L[i]!.1 = y1 at *
       generalize L[i]!.2 = y2 at *
       have gE := heap_alloc_new wr (.cells #[.int .u64 y1, .int .u64 y2] 98)
       have hbE := qac wr (.cells #[.int .u64 y1, .int .u64 y2] 98)
       go_upto_region 19 with fail
       generalize wr.alloc (.cells #[.int .u64 y1, .int .u64 y2] 98) = w5 at *
       have HBx := Hid.mk (qab HB.out hbE)
       have HBy := Hid.mk (qab HBw.out hbE)
       clear d0 d1 hbE
       generalize wr.heap.size = KE at *
       obtain ⟨d0, d1⟩ := TR.qaz gE
       clear gE
       go_region_held3 (fun w' => (w'.cell? ⟨KE, 0, none⟩ = some (.int .u64 y1) ∧ w'.cell? ⟨KE, 1, none⟩ = some (.int .u64 y2)) ∧ Below w5.heap.size w5 w')
        ((go_split_ands; refine ⟨⟨?_, ?_⟩, ?_⟩ <;> first | (with_reducible assumption; done) | with_reducible exact cell_later hbm (by assumption) | with_reducible exact qab (by assumption) hbm | exact (Below.refl _ _).drew | exact cell_later (Below.refl _ _).drew (by assumption) | (go_keep; done)))
        (first
         | (go_at_call 10; refine (HMM.out _ (qab HBy.out (by go_split_ands; assumption))).mono ?_; rintro e w' ⟨rfl, hbm⟩)
         | (go_at_call 34; refine (HRi.out _ (qab HBy.out (by go_split_ands; assumption))).mono ?_; rintro e w' ⟨rfl, hbm⟩))
       all_goals
        go_split_ands
        go_wp2
        exact ⟨⟨i + 1, by have := HLT.out; omega, by go_num, qab HBx.out (by assumption)⟩, by have := HLT.out; simp [RowKit.intOf]; omega⟩
      ·have e : i = L.length := by omega
       subst e
       obtain ⟨-, -, -, -, -, c5, c6, c7, -⟩ := qal g0
       clear HB g0 hb hlt hi
       go_wp2_with fail
       refine (HRG.out _ HBw.out).mono ?_
       rintro e w9 ⟨rfl, hb9⟩
       obtain ⟨c5, c6, c7⟩ := cl3 hb9 c5 c6 c7
       have HBz := Hid.mk (qab HBw.out hb9)
       clear hb9 HRG
       have hon := HON.out
       cases hrg : s.rg with
       | none =>
        rw [hrg] at hon
        have e1 : on = false := hon
        subst e1
        have e2 : regW none = 0 := rfl
        simp only [e2, Option.isSome_none]
        clear hon
        go_wp2
        go_ret
        exact ⟨rfl, HBz.out⟩
       | some q =>
        obtain ⟨R', I'⟩ := q
        obtain ⟨h1, h2⟩ := HRI.out R' I' hrg
        obtain ⟨h3, h4⟩ := HRR.out R' I' hrg
        (try dsimp only at h1 h2)
        rw [hrg] at hon
        have e1 : on = true := hon
        subst e1 h1 h2
        have e2 : regW (some (R, I)) = R + I * 281474976710656 := rfl
        simp only [e2, Option.isSome_some]
        have hor : Hid (bits .or .u64 (R : Int) ((I : Int) * 281474976710656) = (R : Int) + (I : Int) * 281474976710656) := Hid.mk (by
         have := or_reg R I h3 h4
         rw [show IntKind.u64.wrap ((I : Int) * 281474976710656) = (I : Int) * 281474976710656 by rw [IntKind.wrap_u64]; omega] at this
         rw [this]; omega)
        have hcv : IntKind.u64.wrap (I : Int) = (I : Int) := by rw [IntKind.wrap_u64]; omega
        clear hon
        go_wp2
        go_ret
        exact ⟨by rw [hor.out]; simp, HBz.out⟩
end
end Go.Proofs.YtfdbdeckohaneaaGreatDoor.MM
