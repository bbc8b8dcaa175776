/- Texts: MmYD MmYE MmYF -/
import Derived.Test.YtfohjkgheeiinaaGreatDoorQ45
set_option maxHeartbeats 16000000
set_option maxRecDepth 100000
namespace Go.Proofs.YtfohjkgheeiinaaGreatDoor.MM
open Go.RowKit Go.Maps
def tbO (L : WL) : Nat → Bool
 | 0 => true
 | k + 1 => tbO L k && (decide (k < L.length) && TR.isT (k : Int) L[k]!.2)
def tbT (L : WL) (R : Nat) : Nat → Nat
 | 0 => R
 | k + 1 => rdO L[k]!.2
def tbA (L : WL) (R k : Nat) : Nat := if tbO L k = true then tbT L R k else 0
theorem tbO_no {L : WL} {k : Nat} (h : (decide (k < L.length) && TR.isT (k : Int) L[k]!.2) = false) : ∀ {n : Nat}, k < n → tbO L n = false
 | 0, hn => absurd hn (Nat.not_lt_zero _)
 | n + 1, hn => by
  by_cases e : k = n
  ·subst e
   show (tbO L k && _) = false
   rw [h, Bool.and_false]
  ·show (tbO L n && _) = false
   rw [tbO_no h (by omega), Bool.false_and]
theorem tbO_yes {L : WL} {k : Nat} (h0 : tbO L k = true) (h1 : k < L.length) (h2 : TR.isT (k : Int) L[k]!.2 = true) : tbO L (k + 1) = true := by
 show (tbO L k && (decide (k < L.length) && TR.isT (k : Int) L[k]!.2)) = true
 rw [h0, decide_eq_true h1, h2]; rfl
theorem fld6 (c0 c1 c2 c3 c4 c5 c6 c7 c8 c9 c10 : Value) (W : World) : (Instr.field 121 (.agg #[c0, c1, c2, c3, c4, c5, c6, c7, c8, c9, c10]) 3).run Tryz.prog W = .ok c10 W := by
 simp [Instr.field, run_underlying Tryz.underlying121, Sem.run_bind, asAgg, part, Tryz.isAgg119]
section
variable {w : World} {B : Nat → Prop} {m S : Nat} {most : Int} {s : St} {d : Yd}
theorem ytable_c (h : YOk w B m s d) (hf : Fm S s.f) (hm : m < 1000000) (va lv : Nat) (h3 : lv ≤ 3) (hR : d.R < 18446744073709551616) :
  Calls Tryz.prog 75 #[.agg (d.cs S most s), .int .u64 va, .int .i64 lv] w fun r w' => r = .returned (.tuple #[.int .u64 (tbA (wk0 S s.f 0 d.R va).1 d.R lv : Nat), .bool (tbO (wk0 S s.f 0 d.R va).1 lv)]) ∧ Below w.heap.size w w' := by
 have HFR : Hid (∀ W, Below w.heap.size w W → Calls Tryz.prog 74 #[.agg #[.int .u64 S, d.vm], .int .i64 0, .int .u64 (d.R : Nat), .int .u64 va] W fun e w' => ∃ p cap, e = .returned (.agg (lC (lfR (wk0 S s.f 0 d.R va).2) (ftR (wk0 S s.f 0 d.R va).2) (.slice p (wk0 S s.f 0 d.R va).1.length cap))) ∧ Psl w' (fun g => W.heap.size ≤ g) (.slice p (wk0 S s.f 0 d.R va).1.length cap) (wk0 S s.f 0 d.R va).1 ∧ Below W.heap.size W w') :=
  Hid.mk (fun W hb => yfrom_c (h.later hb) hf hm _ _ _ hR)
 have hlt := TR.wk0_lt (S := S) (f := s.f) (va := va) (tb := d.R) (l := 0) hf.fl hf.hS
 have hl4 := wk0_len S s.f 0 d.R va
 clear h hf hR
 obtain ⟨vm, L0, aE, cE, aK, cK, aP, cP, on', R, I⟩ := d
 dsimp only at *
 generalize lfR (wk0 S s.f 0 R va).2 = lf at *
 generalize ftR (wk0 S s.f 0 R va).2 = ft at *
 generalize (wk0 S s.f 0 R va).1 = L at *
 obtain ⟨l, k, o, u, r, y, q, t⟩ := lf
 obtain ⟨f1, f2⟩ := ft
 dsimp only [lC] at HFR
 have hfd := fun (p : Option Addr) (cap : Nat) W => fld6 (.int .i64 l) (.int .i64 k) (.int .u64 o) (.bool u) (.bool r) (.bool y) (.bool q) (.int .i64 t) (.int .i64 f1) (.int .i64 f2) (.slice p L.length cap) W
 have HA0 : Hid (tbO L lv = false → tbA L R lv = 0) := Hid.mk (fun hn => by unfold tbA; rw [if_neg (by rw [hn]; decide)])
 have HA1 : Hid (tbO L lv = true → tbA L R lv = tbT L R lv) := Hid.mk (fun hn => by unfold tbA; rw [if_pos hn])
 generalize tbA L R lv = TA at HA0 HA1 ⊢
 have HLT := Hid.mk hlt
 have g0 := heap_alloc_new w (.cells #[.int .u64 S, vm, .int .i64 most, .slice aE s.E.length cE, .slice aK s.K.length cK, .bool on', .int .u64 R, .int .i64 I, .slice aP s.P.length cP] 34)
 have hB := below_new w (.cells #[.int .u64 S, vm, .int .i64 most, .slice aE s.E.length cE, .slice aK s.K.length cK, .bool on', .int .u64 R, .int .i64 I, .slice aP s.P.length cP] 34)
 clear hlt
 go_enter Tryz.func75, Tryz.ntmps75
 go_upto_region 1 with fail
 generalize w.alloc (.cells #[.int .u64 S, vm, .int .i64 most, .slice aE s.E.length cE, .slice aK s.K.length cK, .bool on', .int .u64 R, .int .i64 I, .slice aP s.P.length cP] 34) = W1 at *
 obtain ⟨c0, c1, c2, c3, c4, c5, c6, c7, c8⟩ := cells9y g0
 go_wp2_with fail
 refine (HFR.out _ hB).mono ?_
 rintro e w2 ⟨p, cap, rfl, hps, hb⟩
 replace hB := below_tr hB hb
 have hst : StepsAt w2 p L.length (fun j => L[j]!.1) (fun j => L[j]!.2) := by
  refine ⟨fun i hi => ?_, fun i => (HLT.out i).1, fun i => (HLT.out i).2⟩
  obtain ⟨p', cap', e, hc⟩ := hps.form
  cases e
  obtain ⟨g, rfl, hg, q1, q2⟩ := hc i hi
  exact ⟨g, 0, rfl, hg, by rw [Nat.zero_add]; exact q1, by rw [Nat.zero_add]; exact q2⟩
 have HS := Hid.mk hst
 have HB := Hid.mk hB
 clear hst hps hb hB c0 c1 c2 c3 c4 c5 c6 c7 c8 g0 HFR
 go_wp2
 go_loopw [8, 10] (fun s8 s10 wr => ∃ k : Nat, k ≤ lv ∧ s10 = .int .i64 k ∧ s8 = .int .u64 (tbT L R k : Nat) ∧ tbO L k = true ∧ Below w2.heap.size w2 wr) (fun _ i _ => lv - (RowKit.intOf i).toNat)
 case atStart => exact ⟨0, by omega, rfl, rfl, rfl, Below.refl _ _⟩
 case round =>
  obtain ⟨k, hk, rfl, rfl, hT, hb⟩ := hrel
  have HT := Hid.mk hT
  have HBR := Hid.mk (below_tr HB.out hb)
  clear hT
  by_cases hkl : k < lv
  ·have hkl2 : (k : Int) < (lv : Int) := by omega
   by_cases hlen : k < L.length
   ·have hlen2 : ¬ (L.length : Int) ≤ (k : Int) := by omega
    have dl2 : decide ((L.length : Int) ≤ (k : Int)) = false := decide_eq_false hlen2
    have hlen3 : (k : Int) < (L.length : Int) := by omega
    obtain ⟨g, o', rfl, hg, q1, q2⟩ := HS.out.cells k hlen
    have d2 : wr.cell? ⟨g, o' + k * 2 + 1, none⟩ = some (.int .u64 (L[k]!.2 : Nat)) := cell_later hb q2
    have HVI := Hid.mk (HLT.out k).2
    have hb2 := Hid.mk hb
    clear q1 q2 hg hb
    cases hTi : TR.isT (k : Int) L[k]!.2
    ·have HDE := Hid.mk (fun W => TR.rdec_no (show isLv (k : Int) = true by unfold isLv; rw [decide_eq_true_eq]; omega) hTi HVI.out W)
     have HNO : Hid (tbO L lv = false) := Hid.mk (tbO_no (by rw [hTi, Bool.and_false]) hkl)
     clear hTi hlen
     generalize L[k]!.2 = wv at *
     go_wp2_with fail
     refine (HDE.out _).mono ?_
     rintro e w3 ⟨kk, oo, uu, rr, yy, ss, aa, z, rfl, hz, hb3⟩
     clear HDE d2
     rcases hz with rfl | ⟨rfl, hz⟩
     ·go_wp2
      go_ret2
      exact ⟨by rw [HA0.out HNO.out, HNO.out]; rfl, below_tr HBR.out (below_tr hb3 (below_new _ _))⟩
     ·have hz2 : (kk != 1) = true := by rw [bne_iff_ne]; exact hz
      go_wp2
      go_ret2
      exact ⟨by rw [HA0.out HNO.out, HNO.out]; rfl, below_tr HBR.out (below_tr hb3 (below_new _ _))⟩
    ·have HDE := Hid.mk (fun W => TR.rdec_yes hTi HVI.out W)
     have HYE := Hid.mk (tbO_yes HT.out hlen hTi)
     have HTT : Hid (tbT L R (k + 1) = rdO L[k]!.2) := rfl
     clear hTi hlen
     generalize rdO L[k]!.2 = ov at *
     generalize L[k]!.2 = wv at *
     go_wp2_with fail
     refine (HDE.out _).mono ?_
     rintro e w3 ⟨uu, rr, yy, ss, aa, rfl, hb3⟩
     clear HDE d2
     go_wp2
     exact ⟨⟨k + 1, by omega, by go_num, by rw [HTT.out], HYE.out, below_tr hb2.out (below_tr hb3 (below_new _ _))⟩, by simp [RowKit.intOf]; omega⟩
   ·have hlen2 : (L.length : Int) ≤ (k : Int) := by omega
    have HNO : Hid (tbO L lv = false) := Hid.mk (tbO_no (by rw [decide_eq_false hlen, Bool.false_and]) hkl)
    clear hlen
    go_wp2
    go_ret2
    exact ⟨by rw [HA0.out HNO.out, HNO.out]; rfl, HBR.out⟩
  ·have e : k = lv := by omega
   subst e
   go_wp2
   go_ret2
   exact ⟨by rw [HA1.out HT.out, HT.out]; rfl, HBR.out⟩
end
end Go.Proofs.YtfohjkgheeiinaaGreatDoor.MM
namespace Go.Proofs.YtfohjkgheeiinaaGreatDoor.MM
open Go.RowKit Go.Maps
theorem wk_tab {S : Nat} {f : Nat → Nat} {va : Nat} : ∀ {k tb j : Nat}, k ≤ 4 → j + 1 < (wk S f va k tb).1.length → TR.isT ((4 : Int) - k + j) (wk S f va k tb).1[j]!.2 = true
 | 0, tb, j, _, h => by unfold wk at h; exact absurd h (Nat.not_lt_zero _)
 | k + 1, tb, j, hk, h => by
  by_cases he : errA S (tb + 8 * idxN va (3 - k)) = 0
  ·by_cases hm : mf S (3 - k) (f (tb + 8 * idxN va (3 - k))) = 0
   ·by_cases hr : rdK (3 - k) (f (tb + 8 * idxN va (3 - k))) = 1
    ·rw [wk_table rfl rfl he hm hr] at h ⊢
     match j, h with
     | 0, _ =>
      show TR.isT ((4 : Int) - ((k + 1 : Nat) : Int) + ((0 : Nat) : Int)) (f (tb + 8 * idxN va (3 - k))) = true
      rw [show (4 : Int) - ((k + 1 : Nat) : Int) + ((0 : Nat) : Int) = 3 - (k : Int) by omega]
      unfold TR.isT
      have hg : goodD (3 - (k : Int)) (f (tb + 8 * idxN va (3 - k))) = true := by
       unfold mf at hm
       cases hg : goodD (3 - (k : Int)) (f (tb + 8 * idxN va (3 - k)))
       ·rw [if_pos hg] at hm; exact absurd hm (by decide)
       ·rfl
      rw [hg, hr]
      unfold isLv
      rw [decide_eq_true (by omega)]
      rfl
     | j + 1, h =>
      have h2 : j + 1 < (wk S f va k (rdO (f (tb + 8 * idxN va (3 - k))))).1.length := Nat.lt_of_succ_lt_succ h
      have ih := wk_tab (k := k) (tb := rdO (f (tb + 8 * idxN va (3 - k)))) (j := j) (by omega) h2
      rw [show (4 : Int) - ((k + 1 : Nat) : Int) + ((j + 1 : Nat) : Int) = 4 - (k : Int) + (j : Int) by omega]
      exact ih
    ·rw [wk_leaf rfl rfl he hm hr] at h
     exact absurd h (by simp)
   ·rw [wk_fault rfl rfl he hm] at h
    exact absurd h (by simp)
  ·rw [wk_err rfl rfl he] at h
   exact absurd h (by simp)
theorem wk0_tab {S : Nat} {f : Nat → Nat} {R va j : Nat} (h : j + 1 < (wk0 S f 0 R va).1.length) : TR.isT (j : Int) (wk0 S f 0 R va).1[j]!.2 = true := by
 by_cases hq : isLv 0 = true ∧ R % 4096 = 0 ∧ va < 281474976710656
 ·have e : wk0 S f 0 R va = wk S f va 4 R := if_pos hq
  rw [e] at h ⊢
  have := wk_tab (k := 4) (by omega) h
  rw [show (4 : Int) - ((4 : Nat) : Int) + (j : Int) = (j : Int) by omega] at this
  exact this
 ·have e : wk0 S f 0 R va = ([], 1, 0, 0) := if_neg hq
  rw [e] at h
  exact absurd h (Nat.not_lt_zero _)
theorem tbO_lt {S : Nat} {f : Nat → Nat} {R va : Nat} : ∀ {n : Nat}, n < (wk0 S f 0 R va).1.length → tbO (wk0 S f 0 R va).1 n = true
 | 0, _ => rfl
 | n + 1, h => tbO_yes (tbO_lt (by omega)) (by omega) (wk0_tab h)
theorem tb_th {S : Nat} {f : Nat → Nat} {R : Nat} (e : TR.En) (h1 : 1 ≤ e.lv) : (tbO (wk0 S f 0 R e.va).1 e.lv.toNat && decide (tbA (wk0 S f 0 R e.va).1 R e.lv.toNat = e.tb)) = thB S f R e := by
 obtain ⟨n, hn⟩ : ∃ n : Nat, e.lv = (n : Int) + 1 := ⟨(e.lv - 1).toNat, by omega⟩
 have e1 : e.lv.toNat = n + 1 := by omega
 have e2 : (e.lv - 1).toNat = n := by omega
 have e3 : e.lv - 1 = (n : Int) := by omega
 unfold thB
 rw [e1, e2, e3]
 by_cases hl : n < (wk0 S f 0 R e.va).1.length
 ·have ho := tbO_lt hl
  have es : tbO (wk0 S f 0 R e.va).1 (n + 1) = TR.isT (n : Int) (wk0 S f 0 R e.va).1[n]!.2 := by
   show (tbO _ n && (decide _ && _)) = _
   rw [ho, decide_eq_true hl, Bool.true_and, Bool.true_and]
  rw [decide_eq_true hl, Bool.true_and]
  unfold tbA
  rw [es]
  cases ht : TR.isT (n : Int) (wk0 S f 0 R e.va).1[n]!.2
  ·rfl
  ·rfl
 ·have es : tbO (wk0 S f 0 R e.va).1 (n + 1) = false := by
   show (tbO _ n && (decide _ && _)) = _
   rw [decide_eq_false hl, Bool.false_and, Bool.and_false]
  rw [es, decide_eq_false hl]
  rfl
def eqD7 (p q : Lf) : Bool := p.k == q.k && (p.o == q.o && (p.u == q.u && (p.r == q.r && (p.x == q.x && (p.s == q.s && p.a == q.a)))))
theorem eqF_7 (p q : Lf) : eqF p q = (p.l == q.l && eqD7 p q) := rfl
abbrev Lf.dv (q : Lf) : Value := .agg #[.int .i64 q.k, .int .u64 (q.o : Nat), .bool q.u, .bool q.r, .bool q.x, .bool q.s, .int .i64 q.a]
theorem neD (p q : Lf) (w : World) : (binOp .neq 98 p.dv q.dv).run Tryz.prog w = .ok (.bool (!eqD7 p q)) w := by
 obtain ⟨al, a1, a2, a3, a4, a5, a6, a7⟩ := p
 obtain ⟨bl, b1, b2, b3, b4, b5, b6, b7⟩ := q
 simp only [Lf.dv, eqD7]
 by_cases h1 : a1 = b1
 ·subst h1
  by_cases h2 : a2 = b2
  ·subst h2
   by_cases h3 : a3 = b3
   ·subst h3
    by_cases h4 : a4 = b4
    ·subst h4
     by_cases h5 : a5 = b5
     ·subst h5
      by_cases h6 : a6 = b6
      ·subst h6
       by_cases h7 : a7 = b7
       ·subst h7
        first | (go_simp; done) | (go_simp <;> simp_all)
       ·go_simp <;> (first | (simp_all; done) | (rw [if_neg (by omega), beq_eq_false_iff_ne.2 (by assumption)]; rfl))
      ·go_simp <;> (first | (simp_all; done) | (rw [if_neg (by omega), beq_eq_false_iff_ne.2 (by assumption)]; rfl))
     ·go_simp <;> (first | (simp_all; done) | (rw [if_neg (by omega), beq_eq_false_iff_ne.2 (by assumption)]; rfl))
    ·go_simp <;> (first | (simp_all; done) | (rw [if_neg (by omega), beq_eq_false_iff_ne.2 (by assumption)]; rfl))
   ·go_simp <;> (first | (simp_all; done) | (rw [if_neg (by omega), beq_eq_false_iff_ne.2 (by assumption)]; rfl))
  ·go_simp <;> (first | (simp_all; done) | (rw [if_neg (by omega), beq_eq_false_iff_ne.2 (by assumption)]; rfl))
 ·go_simp <;> (first | (simp_all; done) | (rw [if_neg (by omega), beq_eq_false_iff_ne.2 (by assumption)]; rfl))
theorem cm_fault {S : Nat} {f : Nat → Nat} {R : Nat} {e : TB.En} (hr : TB.rightE e = true) (hf : (ftR (wk0 S f 0 R e.va).2).1 ≠ 0) : cmT S f R e = false := by
 have hse := (rentry hr).2.2.2
 cases hc : cmT S f R e
 ·rfl
 ·unfold cmT at hc
  have hq := eqF_iff.1 hc
  have hss : (lfR (wk0 S f 0 R e.va).2).s = true := by rw [hq]; exact hse
  rw [(lfR_s hss).2.2] at hf
  exact absurd rfl hf
end Go.Proofs.YtfohjkgheeiinaaGreatDoor.MM
namespace Go.Proofs.YtfohjkgheeiinaaGreatDoor.MM
open Go.RowKit Go.Maps
theorem cells10z {w : World} {g t : Nat} {c0 c1 c2 c3 c4 c5 c6 c7 c8 c9 : Value} (hh : w.heap[g]? = some (.cells #[c0, c1, c2, c3, c4, c5, c6, c7, c8, c9] t (0, 0))) : w.cell? ⟨g, 0, none⟩ = some c0 ∧ w.cell? ⟨g, 1, none⟩ = some c1 ∧ w.cell? ⟨g, 2, none⟩ = some c2 ∧ w.cell? ⟨g, 3, none⟩ = some c3 ∧ w.cell? ⟨g, 4, none⟩ = some c4 ∧ w.cell? ⟨g, 5, none⟩ = some c5 ∧ w.cell? ⟨g, 6, none⟩ = some c6 ∧ w.cell? ⟨g, 7, none⟩ = some c7 ∧ w.cell? ⟨g, 8, none⟩ = some c8 ∧ w.cell? ⟨g, 9, none⟩ = some c9 := by
 refine ⟨?_, ?_, ?_, ?_, ?_, ?_, ?_, ?_, ?_, ?_⟩
 all_goals (rw [cell_of_row _ _ _ _ _ _ hh]; rfl)
section
variable {w : World} {B : Nat → Prop} {m S : Nat} {most : Int} {s : St} {d : Yd}
theorem ysound_off (h : YOk w B m s d) (hg : s.rg = none) :
  Calls Tryz.prog 35 #[.agg (d.cs S most s)] w fun r w' => r = .returned (.bool (sndB S s)) ∧ Below w.heap.size w w' := by
 have e : sndB S s = true := by unfold sndB; rw [hg]
 have e3 : false = d.on := by have := h.on; rw [hg] at this; exact this.symm
 rw [e]
 clear h e hg
 obtain ⟨vm, L, aE, cE, aK, cK, aP, cP, on', R, I⟩ := d
 dsimp only at e3
 subst e3
 go_enter Tryz.func35, Tryz.ntmps35
 go_wp2
 go_ret
 exact ⟨rfl, below_new _ _⟩
theorem ysound_on (h : YOk w B m s d) (hf : Fm S s.f) (hw : Wf most s) (hm : m < 1000000) (R I : Nat) (hg : s.rg = some (R, I)) :
  Calls Tryz.prog 35 #[.agg (d.cs S most s)] w fun r w' => r = .returned (.bool (sndB S s)) ∧ Below w.heap.size w w' := by
 have hR := (hw.rr R I hg).1
 have e1 : R = d.R := (h.rg R I hg).1.symm
 have e2 : I = d.I := (h.rg R I hg).2.symm
 have e3 : true = d.on := by have := h.on; rw [hg] at this; exact this.symm
 have HFR : Hid (∀ (va : Nat) W, Below w.heap.size w W → Calls Tryz.prog 74 #[.agg #[.int .u64 S, d.vm], .int .i64 0, .int .u64 R, .int .u64 va] W fun e w' => ∃ p cap, e = .returned (.agg (lC (lfR (wk0 S s.f 0 R va).2) (ftR (wk0 S s.f 0 R va).2) (.slice p (wk0 S s.f 0 R va).1.length cap))) ∧ Below W.heap.size W w') :=
  Hid.mk (fun va W hb => (yfrom_c (h.later hb) hf hm _ _ _ (by omega)).mono (fun _ _ ⟨p, c, q1, _, q3⟩ => ⟨p, c, q1, q3⟩))
 have HTB : Hid (∀ (y : TR.En) W, 1 ≤ y.lv → y.lv ≤ 3 → Below w.heap.size w W → Calls Tryz.prog 75 #[.agg (d.cs S most s), .int .u64 (y.va : Nat), .int .i64 y.lv] W fun r w' => ∃ TA TO, r = .returned (.tuple #[.int .u64 (TA : Nat), .bool TO]) ∧ (TO && decide (TA = y.tb)) = thB S s.f R y ∧ Below W.heap.size W w') :=
  Hid.mk (fun y W h1 h3 hb => by
   have hc := ytable_c (S := S) (most := most) (h.later hb) hf hm y.va y.lv.toNat (by omega) (by omega)
   rw [show ((y.lv.toNat : Nat) : Int) = y.lv by omega] at hc
   refine hc.mono ?_
   rintro r w' ⟨rfl, hb2⟩
   refine ⟨_, _, rfl, ?_, hb2⟩
   rw [← e1]
   exact tb_th y h1)
 have HLV : Hid (∀ i, i < s.K.length → 1 ≤ (TR.gE s.K i).lv ∧ (TR.gE s.K i).lv ≤ 3) := fun i hi => TR.right_lv (hw.kr _ (by rw [TR.gE_pos s.K i hi]; exact List.getElem_mem hi)).2
 have HER : Hid (∀ i, i < s.E.length → TB.rightE (TB.gE s.E i) = true) := fun i hi => hw.er _ (by rw [TB.gE_pos s.E i hi]; exact List.getElem_mem hi)
 have hD : sndB S s = (s.E.all (sE S s.f R I) && s.K.all (sK S s.f R I)) := by unfold sndB; rw [hg]
 have HD1 : Hid (∀ i, i < s.E.length → sE S s.f R I (TB.gE s.E i) = false → sndB S s = false) := fun i hi h => by rw [hD, allE_false hi h]; rfl
 have HD2 : Hid (∀ i, i < s.K.length → sK S s.f R I (TR.gE s.K i) = false → sndB S s = false) := fun i hi h => by rw [hD, allK_false hi h, Bool.and_false]
 have HD3 : Hid ((∀ i, i < s.E.length → sE S s.f R I (TB.gE s.E i) = true) → (∀ i, i < s.K.length → sK S s.f R I (TR.gE s.K i) = true) → sndB S s = true) := fun h1 h2 => by rw [hD, allE_true h1, allK_true h2]; rfl
 have HP : Hid (∀ e : TB.En, (e.aid ≠ (I : Int) → sE S s.f R I e = true) ∧ (e.aid = (I : Int) → sE S s.f R I e = cmT S s.f R e)) := fun e => ⟨fun h => by unfold sE; rw [decide_eq_false h]; rfl, fun h => by unfold sE; rw [decide_eq_true h]; rfl⟩
 have HQ : Hid (∀ e : TR.En, (e.aid ≠ (I : Int) → sK S s.f R I e = true) ∧ (e.aid = (I : Int) → sK S s.f R I e = thB S s.f R e)) := fun e => ⟨fun h => by unfold sK; rw [decide_eq_false h]; rfl, fun h => by unfold sK; rw [decide_eq_true h]; rfl⟩
 have HRE := Hid.mk h.re.rd
 have HRK := Hid.mk h.rk.rd
 have hl := hw.el
 have hl2 := hw.kl
 have hl3 := hw.m64
 have hlE : (s.E.length : Int) ≤ 64 := by omega
 have hlK : (s.K.length : Int) ≤ 64 := by omega
 clear hD h hg hR hl hl2 hl3 hw hf hm
 obtain ⟨vm, L, aE, cE, aK, cK, aP, cP, on', R', I'⟩ := d
 dsimp only at e1 e2 e3
 subst e1 e2 e3
 dsimp only at HRE HRK
 generalize sndB S s = D at *
 generalize sE S s.f R I = pE at *
 generalize sK S s.f R I = pK at *
 have g0 := heap_alloc_new w (.cells #[.int .u64 S, vm, .int .i64 most, .slice aE s.E.length cE, .slice aK s.K.length cK, .bool true, .int .u64 R, .int .i64 I, .slice aP s.P.length cP] 34)
 have hB := below_new w (.cells #[.int .u64 S, vm, .int .i64 most, .slice aE s.E.length cE, .slice aK s.K.length cK, .bool true, .int .u64 R, .int .i64 I, .slice aP s.P.length cP] 34)
 go_enter Tryz.func35, Tryz.ntmps35
 go_upto_region 1 with fail
 generalize w.alloc (.cells #[.int .u64 S, vm, .int .i64 most, .slice aE s.E.length cE, .slice aK s.K.length cK, .bool true, .int .u64 R, .int .i64 I, .slice aP s.P.length cP] 34) = W1 at *
 obtain ⟨c0, c1, c2, c3, c4, c5, c6, c7, c8⟩ := cells9y g0
 have HG := Hid.mk g0
 have HB1 := Hid.mk hB
 clear g0 hB
 go_wp2
 go_loopw [3, 4, 5] (fun s3 _ _ wr => ∃ i : Nat, i ≤ s.E.length ∧ s3 = .int .i64 i ∧ Below W1.heap.size W1 wr ∧ (∀ j, j < i → pE (TB.gE s.E j) = true)) (fun s3 _ _ _ => s.E.length - (RowKit.intOf s3).toNat)
 case atStart => exact ⟨0, by omega, rfl, Below.refl _ _, fun j hj => absurd hj (Nat.not_lt_zero _)⟩
 case round =>
  clear c0 c1 c2 c3 c4 c5 c6 c7 c8
  obtain ⟨i, hi, rfl, hb, hno⟩ := hrel
  have HB := Hid.mk hb
  have HNO := Hid.mk hno
  have HBw := Hid.mk (below_tr HB1.out hb)
  have g0 := block_later hb HG.out
  obtain ⟨c0, c1, c2, c3, c4, c5, c6, c7, c8⟩ := cells9y g0
  clear hno
  by_cases hlt : i < s.E.length
  ·have hlt2 : (i : Int) < s.E.length := by omega
   have HLT := Hid.mk hlt
   have hib : (i : Int) < 64 := by omega
   obtain ⟨g, oo, rfl, hg, hc⟩ := HRE.out i hlt
   have d0 := cell_later HBw.out (hc 0 _ rfl)
   have d1 := cell_later HBw.out (hc 1 _ rfl)
   have d2 := cell_later HBw.out (hc 2 _ rfl)
   have d3 := cell_later HBw.out (hc 3 _ rfl)
   have d4 := cell_later HBw.out (hc 4 _ rfl)
   have d5 := cell_later HBw.out (hc 5 _ rfl)
   have d6 := cell_later HBw.out (hc 6 _ rfl)
   have d7 := cell_later HBw.out (hc 7 _ rfl)
   have d8 := cell_later HBw.out (hc 8 _ rfl)
   have d9 := cell_later HBw.out (hc 9 _ rfl)
   rw [Nat.add_zero] at d0
   have hPy := HP.out (TB.gE s.E i)
   have HF := Hid.mk (HD1.out i hlt)
   have hri := HER.out i hlt
   have HN : Hid (pE (TB.gE s.E i) = true → ∀ j, j < i + 1 → pE (TB.gE s.E j) = true) := fun h j hj => by
    by_cases hji : j = i
    ·rw [hji]; exact h
    ·exact HNO.out j (by omega)
   clear hc hi hlt hg hb
   generalize pE (TB.gE s.E i) = PE at *
   generalize TB.gE s.E i = ye at *
   have HCF := Hid.mk (fun h => cm_fault (S := S) (f := s.f) (R := R) hri h)
   have HCM : Hid (cmT S s.f R ye = eqF (lfR (wk0 S s.f 0 R ye.va).2) (enL ye)) := rfl
   have HFy := Hid.mk (HFR.out ye.va)
   have HND := Hid.mk (fun W => neD (lfR (wk0 S s.f 0 R ye.va).2) (enL ye) W)
   clear hri
   generalize cmT S s.f R ye = C at *
   generalize lfR (wk0 S s.f 0 R ye.va).2 = lf at *
   generalize ftR (wk0 S s.f 0 R ye.va).2 = ft at *
   generalize (wk0 S s.f 0 R ye.va).1.length = nS at *
   rw [eqF_7] at HCM
   generalize hdq : eqD7 lf (enL ye) = DQ at *
   clear hdq
   obtain ⟨b0, b1, b2, b3, b4, b5, b6, b7, b8, b9⟩ := ye
   obtain ⟨l, k, o, u, r, y, q, t⟩ := lf
   obtain ⟨f1, f2⟩ := ft
   dsimp only [lC, Lf.dv, enL] at *
   have gE := heap_alloc_new wr (.cells #[.int .i64 b0, .int .u64 b1, .int .i64 b2, .int .i64 b3, .int .u64 b4, .bool b5, .bool b6, .bool b7, .bool b8, .int .i64 b9] 100)
   have hbE := below_new wr (.cells #[.int .i64 b0, .int .u64 b1, .int .i64 b2, .int .i64 b3, .int .u64 b4, .bool b5, .bool b6, .bool b7, .bool b8, .int .i64 b9] 100)
   go_upto_region 7 with fail
   generalize wr.alloc (.cells #[.int .i64 b0, .int .u64 b1, .int .i64 b2, .int .i64 b3, .int .u64 b4, .bool b5, .bool b6, .bool b7, .bool b8, .int .i64 b9] 100) = w3 at *
   replace g0 := block_later hbE g0
   have HBa := Hid.mk (below_tr HBw.out hbE)
   have HBb := Hid.mk (below_tr HB.out hbE)
   generalize wr.heap.size = KE at *
   clear c0 c1 c2 c3 c4 c5 c6 c7 c8 d0 d1 d2 d3 d4 d5 d6 d7 d8 d9 hbE HBw HB
   obtain ⟨c0, c1, c2, c3, c4, c5, c6, c7, c8⟩ := cells9y g0
   obtain ⟨d0, d1, d2, d3, d4, d5, d6, d7, d8, d9⟩ := cells10z gE
   go_wp2_with fail
   refine (HFy.out _ HBa.out).mono ?_
   rintro e w4 ⟨p, cap, rfl, hb4⟩
   have gL := heap_alloc_new w4 (.cells #[.int .i64 l, .int .i64 k, .int .u64 o, .bool u, .bool r, .bool y, .bool q, .int .i64 t, .int .i64 f1, .int .i64 f2, .slice p nS cap] 121)
   have hbL := below_new w4 (.cells #[.int .i64 l, .int .i64 k, .int .u64 o, .bool u, .bool r, .bool y, .bool q, .int .i64 t, .int .i64 f1, .int .i64 f2, .slice p nS cap] 121)
   clear c0 c1 c2 c3 c4 c5 c6 c7 c8 d0 d1 d2 d3 d4 d5 d6 d7 d8 d9
   go_upto_region 8 with fail
   generalize w4.alloc (.cells #[.int .i64 l, .int .i64 k, .int .u64 o, .bool u, .bool r, .bool y, .bool q, .int .i64 t, .int .i64 f1, .int .i64 f2, .slice p nS cap] 121) = w5 at *
   replace g0 := block_later hbL (block_later hb4 g0)
   replace gE := block_later hbL (block_later hb4 gE)
   have HBc := Hid.mk (below_tr HBa.out (below_tr hb4 hbL))
   have HBd := Hid.mk (below_tr HBb.out (below_tr hb4 hbL))
   generalize w4.heap.size = KL at *
   clear hb4 hbL HBa HBb
   obtain ⟨-, -, -, -, -, -, -, c7, -⟩ := cells9y g0
   obtain ⟨d0, d1, d2, d3, d4, d5, d6, d7, d8, d9⟩ := cells10z gE
   obtain ⟨m0, m1, m2, m3, m4, m5, m6, m7, m8, m9, -⟩ := cells11y gL
   clear g0 gE gL
   by_cases hai : b0 = (I : Int)
   ·subst hai
    have hpe := hPy.2 rfl
    have HPE := Hid.mk hpe
    clear hPy hpe
    by_cases hf1 : f1 = 0
    ·subst hf1
     by_cases hl1 : l = b2
     ·subst hl1
      have HC2 : Hid (C = DQ) := by show _ = _; rw [HCM.out]; simp
      have hne := HND.out
      cases DQ
      ·go_wp2
       go_ret
       exact ⟨by rw [HF.out (by rw [HPE.out, HC2.out])]; rfl, HBc.out⟩
      ·go_wp2
       exact ⟨⟨i + 1, by have := HLT.out; omega, by go_num, HBd.out, HN.out (by rw [HPE.out, HC2.out])⟩, by have := HLT.out; simp [RowKit.intOf]; omega⟩
     ·have hl2 : (l != b2) = true := by rw [bne_iff_ne]; exact hl1
      have HC2 : Hid (C = false) := by show _ = _; rw [HCM.out, beq_eq_false_iff_ne.2 hl1]; rfl
      clear hl1
      go_wp2
      go_ret
      exact ⟨by rw [HF.out (by rw [HPE.out, HC2.out])]; rfl, HBc.out⟩
    ·have hf2 : (f1 != 0) = true := by rw [bne_iff_ne]; exact hf1
     have HC2 := Hid.mk (HCF.out hf1)
     clear hf1
     go_wp2
     go_ret
     exact ⟨by rw [HF.out (by rw [HPE.out, HC2.out])]; rfl, HBc.out⟩
   ·have hai2 : (b0 == (I : Int)) = false := beq_eq_false_iff_ne.2 hai
    have hpe := hPy.1 hai
    have HPE := Hid.mk hpe
    clear hPy hai hpe
    go_wp2
    exact ⟨⟨i + 1, by have := HLT.out; omega, by go_num, HBd.out, HN.out HPE.out⟩, by have := HLT.out; simp [RowKit.intOf]; omega⟩
  ·have e : i = s.E.length := by omega
   subst e
   have HNE := HNO
   clear HNO hi hlt HRE HP HFR HER HD1 hb
   have HB2 := HB
   have HBw2 := HBw
   have HG2 := Hid.mk g0
   clear HB HBw g0
   go_wp2
   go_loopw [6, 7, 8] (fun s6 _ _ wq => ∃ i : Nat, i ≤ s.K.length ∧ s6 = .int .i64 i ∧ Below wr.heap.size wr wq ∧ (∀ j, j < i → pK (TR.gE s.K j) = true)) (fun s6 _ _ _ => s.K.length - (RowKit.intOf s6).toNat)
   case atStart => exact ⟨0, by omega, rfl, Below.refl _ _, fun j hj => absurd hj (Nat.not_lt_zero _)⟩
   case round =>
    clear c0 c1 c2 c3 c4 c5 c6 c7 c8
    obtain ⟨i, hi, rfl, hb, hno⟩ := hrel
    have HNO := Hid.mk hno
    have HBw := Hid.mk (below_tr HBw2.out hb)
    have HB := Hid.mk hb
    have g0 := block_later hb HG2.out
    obtain ⟨c0, c1, c2, c3, c4, c5, c6, c7, c8⟩ := cells9y g0
    clear hno g0
    by_cases hlt : i < s.K.length
    ·have hlt2 : (i : Int) < s.K.length := by omega
     have HLT := Hid.mk hlt
     have hib : (i : Int) < 64 := by omega
     obtain ⟨g, oo, rfl, hg, hc⟩ := HRK.out i hlt
     have d0 := cell_later HBw.out (hc 0 _ rfl)
     have d1 := cell_later HBw.out (hc 1 _ rfl)
     have d2 := cell_later HBw.out (hc 2 _ rfl)
     have d3 := cell_later HBw.out (hc 3 _ rfl)
     rw [Nat.add_zero] at d0
     have hQy := HQ.out (TR.gE s.K i)
     have HF := Hid.mk (HD2.out i hlt)
     have HTy := Hid.mk (fun W hb => HTB.out (TR.gE s.K i) W (HLV.out i hlt).1 (HLV.out i hlt).2 hb)
     have HN : Hid (pK (TR.gE s.K i) = true → ∀ j, j < i + 1 → pK (TR.gE s.K j) = true) := fun h j hj => by
      by_cases hji : j = i
      ·rw [hji]; exact h
      ·exact HNO.out j (by omega)
     clear hc hi hlt hg hb
     generalize pK (TR.gE s.K i) = PK at *
     generalize thB S s.f R (TR.gE s.K i) = TH at *
     generalize TR.gE s.K i = ye at *
     obtain ⟨b0, b1, b2, b3⟩ := ye
     dsimp only at *
     go_upto_region 13 with fail
     go_cut [7, 8] (fun s7 s8 wc => ∃ TA TO, s7 = .int .u64 (TA : Nat) ∧ s8 = .bool TO ∧ (TO && decide (TA = b3)) = TH ∧ Below wr.heap.size wr wc)
     case first =>
      go_region_held3 (fun w' => (w'.cell? ⟨w.heap.size, 0, none⟩ = some (.int .u64 S) ∧ w'.cell? ⟨w.heap.size, 1, none⟩ = some (vm) ∧ w'.cell? ⟨w.heap.size, 2, none⟩ = some (.int .i64 most) ∧ w'.cell? ⟨w.heap.size, 3, none⟩ = some (.slice aE s.E.length cE) ∧ w'.cell? ⟨w.heap.size, 4, none⟩ = some (.slice (some ⟨g, oo, none⟩) s.K.length cK) ∧ w'.cell? ⟨w.heap.size, 5, none⟩ = some (.bool true) ∧ w'.cell? ⟨w.heap.size, 6, none⟩ = some (.int .u64 R) ∧ w'.cell? ⟨w.heap.size, 7, none⟩ = some (.int .i64 I) ∧ w'.cell? ⟨w.heap.size, 8, none⟩ = some (.slice aP s.P.length cP)) ∧
        (w'.cell? ⟨g, oo + i * 4 + 1, none⟩ = some (.int .u64 b1) ∧ w'.cell? ⟨g, oo + i * 4 + 2, none⟩ = some (.int .i64 b2)) ∧ Below wr.heap.size wr w')
       ((go_split_ands; refine ⟨⟨?_, ?_, ?_, ?_, ?_, ?_, ?_, ?_, ?_⟩, ⟨?_, ?_⟩, ?_⟩ <;> first | (with_reducible assumption; done) | with_reducible exact cell_later hbm (by assumption) | with_reducible exact below_tr (by assumption) hbm | exact (Below.refl _ _).drew | exact cell_later (Below.refl _ _).drew (by assumption) | (go_keep; done)))
       ((go_at_call 75; refine (HTy.out _ (below_tr HBw.out (by go_split_ands; assumption))).mono ?_; rintro e w' ⟨TA, TO, rfl, hth, hbm⟩))
      all_goals
       go_wp2
       go_meet
       exact ⟨TA, TO, rfl, rfl, hth, by go_split_ands; assumption⟩
     case rest =>
     obtain ⟨TA, TO, rfl, rfl, hth, hbq⟩ := hcut
     have HTH := Hid.mk hth
     obtain ⟨c4, c7, d0, d3⟩ := cl4 hbq c4 c7 d0 d3
     have HBc := Hid.mk (below_tr HBw.out hbq)
     have HBd := Hid.mk (below_tr HB.out hbq)
     clear c0 c1 c2 c3 c5 c6 c8 d1 d2 hth hbq HTy
     by_cases hai : b0 = (I : Int)
     ·subst hai
      have HPE := Hid.mk (hQy.2 rfl)
      clear hQy
      cases TO
      ·have HT2 : Hid (TH = false) := by show _ = _; rw [← HTH.out]; rfl
       go_wp2
       go_quiet (fail)
       go_wp2
       go_ret
       exact ⟨by rw [HF.out (by rw [HPE.out, HT2.out])]; rfl, below_tr HBc.out (TB.below_dN (Below.refl _ _) _)⟩
      ·by_cases hta : TA = b3
       ·have HT2 : Hid (TH = true) := by show _ = _; rw [← HTH.out, decide_eq_true hta]; rfl
        have hne : ((TA : Int) != (b3 : Int)) = false := by rw [hta]; simp
        clear hta
        go_wp2
        go_quiet (fail)
        go_wp2
        exact ⟨⟨i + 1, by have := HLT.out; omega, by go_num, below_tr HBd.out (TB.below_dN (Below.refl _ _) _), HN.out (by rw [HPE.out, HT2.out])⟩, by have := HLT.out; simp [RowKit.intOf]; omega⟩
       ·have HT2 : Hid (TH = false) := by show _ = _; rw [← HTH.out, decide_eq_false hta]; rfl
        have hne : ((TA : Int) != (b3 : Int)) = true := by rw [bne_iff_ne]; omega
        clear hta
        go_wp2
        go_quiet (fail)
        go_wp2
        go_ret
        exact ⟨by rw [HF.out (by rw [HPE.out, HT2.out])]; rfl, below_tr HBc.out (TB.below_dN (Below.refl _ _) _)⟩
     ·have hai2 : (b0 == (I : Int)) = false := beq_eq_false_iff_ne.2 hai
      have HPE := Hid.mk (hQy.1 hai)
      clear hQy hai
      go_wp2
      go_quiet (fail)
      go_wp2
      exact ⟨⟨i + 1, by have := HLT.out; omega, by go_num, below_tr HBd.out (TB.below_dN (Below.refl _ _) _), HN.out HPE.out⟩, by have := HLT.out; simp [RowKit.intOf]; omega⟩
    ·have e : i = s.K.length := by omega
     subst e
     go_wp2
     go_ret
     exact ⟨by rw [HD3.out HNE.out HNO.out]; rfl, HBw.out⟩
theorem ysound_c (h : YOk w B m s d) (hf : Fm S s.f) (hw : Wf most s) (hm : m < 1000000) :
  Calls Tryz.prog 35 #[.agg (d.cs S most s)] w fun r w' => r = .returned (.bool (sndB S s)) ∧ Below w.heap.size w w' := by
 cases hg : s.rg with
 | none => exact ysound_off h hg
 | some q =>
  obtain ⟨R, I⟩ := q
  exact ysound_on h hf hw hm R I hg
end
end Go.Proofs.YtfohjkgheeiinaaGreatDoor.MM
