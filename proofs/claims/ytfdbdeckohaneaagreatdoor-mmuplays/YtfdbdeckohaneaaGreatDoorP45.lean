/- P45 -/
import Derived.Test.YtfdbdeckohaneaaGreatDoorP44
set_option maxHeartbeats 16000000
set_option maxRecDepth 100000
namespace Go.Proofs.YtfdbdeckohaneaaGreatDoor.MM
open Go.RowKit Go.Maps
theorem qao : (Tryz.prog.info? 34).map (·.size) = some 9 := by kernel_rfl
theorem info_es : (Tryz.prog.info? 30).map (·.size) = some 1 := by kernel_rfl
theorem info_ks : (Tryz.prog.info? 31).map (·.size) = some 1 := by kernel_rfl
theorem qal {w : World} {g t : Nat} {c0 c1 c2 c3 c4 c5 c6 c7 c8 : Value} (hh : w.heap[g]? = some (.cells #[c0, c1, c2, c3, c4, c5, c6, c7, c8] t (0, 0))) : w.cell? ⟨g, 0, none⟩ = some c0 ∧ w.cell? ⟨g, 1, none⟩ = some c1 ∧ w.cell? ⟨g, 2, none⟩ = some c2 ∧ w.cell? ⟨g, 3, none⟩ = some c3 ∧ w.cell? ⟨g, 4, none⟩ = some c4 ∧ w.cell? ⟨g, 5, none⟩ = some c5 ∧ w.cell? ⟨g, 6, none⟩ = some c6 ∧ w.cell? ⟨g, 7, none⟩ = some c7 ∧ w.cell? ⟨g, 8, none⟩ = some c8 := by
 refine ⟨?_, ?_, ?_, ?_, ?_, ?_, ?_, ?_, ?_⟩
 all_goals (rw [cell_of_row _ _ _ _ _ _ hh]; rfl)
theorem qbb {w : World} {g t : Nat} {c0 c1 c2 c3 c4 c5 c6 c7 c8 c9 c10 : Value} (hh : w.heap[g]? = some (.cells #[c0, c1, c2, c3, c4, c5, c6, c7, c8, c9, c10] t (0, 0))) : w.cell? ⟨g, 0, none⟩ = some c0 ∧ w.cell? ⟨g, 1, none⟩ = some c1 ∧ w.cell? ⟨g, 2, none⟩ = some c2 ∧ w.cell? ⟨g, 3, none⟩ = some c3 ∧ w.cell? ⟨g, 4, none⟩ = some c4 ∧ w.cell? ⟨g, 5, none⟩ = some c5 ∧ w.cell? ⟨g, 6, none⟩ = some c6 ∧ w.cell? ⟨g, 7, none⟩ = some c7 ∧ w.cell? ⟨g, 8, none⟩ = some c8 ∧ w.cell? ⟨g, 9, none⟩ = some c9 ∧ w.cell? ⟨g, 10, none⟩ = some c10 := by
 refine ⟨?_, ?_, ?_, ?_, ?_, ?_, ?_, ?_, ?_, ?_, ?_⟩
 all_goals (rw [cell_of_row _ _ _ _ _ _ hh]; rfl)
theorem cells4y {w : World} {g t : Nat} {c0 c1 c2 c3 : Value} (hh : w.heap[g]? = some (.cells #[c0, c1, c2, c3] t (0, 0))) : w.cell? ⟨g, 0, none⟩ = some c0 ∧ w.cell? ⟨g, 1, none⟩ = some c1 ∧ w.cell? ⟨g, 2, none⟩ = some c2 ∧ w.cell? ⟨g, 3, none⟩ = some c3 := by
 refine ⟨?_, ?_, ?_, ?_⟩
 all_goals (rw [cell_of_row _ _ _ _ _ _ hh]; rfl)
abbrev lC (q : Lf) (f : Int × Int) (v : Value) : Array Value := #[.int .i64 q.l, .int .i64 q.k, .int .u64 (q.o : Nat), .bool q.u, .bool q.r, .bool q.x, .bool q.s, .int .i64 q.a, .int .i64 f.1, .int .i64 f.2, v]
section
variable {w : World} {B : Nat → Prop} {m S : Nat} {most : Int} {s : St} {d : Yd}
theorem pbe (h : YOk w B m s d) (hw : Wf most s) (I va : Nat) (hva : va < 18446744073709551616) : Hid (∀ W, Below w.heap.size w W → Calls Tryz.prog 91 #[.slice d.aK s.K.length d.cK, .int .i64 I, .int .u64 va] W fun r w' => r = .returned (bst s I va).v ∧ Below W.heap.size W w') := Hid.mk (fun _ hb => ybest_c (h.later hb) hw I va hva)
theorem pfr (h : YOk w B m s d) (hf : Fm S s.f) (hw : Wf most s) (hm : m < 1000000) (R I : Nat) (hg : s.rg = some (R, I)) (va : Nat) (hn : Hn) : Hid (∀ W, Below w.heap.size w W → Calls Tryz.prog 71 #[.agg #[.int .u64 S, d.vm], .int .i64 (stL s I va hn), .int .u64 (stT s R I va hn : Nat), .int .u64 va] W fun e w' => ∃ p cap, e = .returned (.agg (lC (lfR (wkO S s R I va hn).2) (ftR (wkO S s R I va hn).2) (.slice p (wkO S s R I va hn).1.length cap))) ∧ Psl w' (fun g => W.heap.size ≤ g) (.slice p (wkO S s R I va hn).1.length cap) (wkO S s R I va hn).1 ∧ Below W.heap.size W w') := Hid.mk (fun _ hb => qeq (h.later hb) hf hm _ _ _ (qei hw (hw.rr R I hg).1 I va hn))
theorem zP45x03 {Z : Prop} (z : Z := by
 intro wsa hrq htq
 obtain ⟨k0, k1, k2, k3, k4⟩ := tc5 htq k0 k1 k2 k3 k4
 obtain ⟨k5, k6, k7, k8, k9⟩ := tc5 htq k5 k6 k7 k8 k9
 obtain ⟨k10, k11, k12, k13, k14⟩ := tc5 htq k10 k11 k12 k13 k14
 obtain ⟨k15, k16, k17, k18, k19⟩ := tc5 htq k15 k16 k17 k18 k19
 obtain ⟨g0, g1, g3, g4⟩ := bt4 htq g0 g1 g3 g4
 replace g2 := hrq
 replace HY := Hid.mk (HY.out.turn htq (fun i hi c => by have c' : i = w.heap.size + 1 + 1 := c; rcases hi with hi | hi <;> omega))
 replace hB := qaf hB htq (by omega)
 refine hK.out _ _ ⟨k0, k1, k2, k3, k4, k5, k6, k7, k8, k9, k10, k11, k12, k13, k14, k15, k16, k17, k18, k19⟩ (fun hHeldsa => ?_)
 clear hK hrq
 try simp only [Act.put, sq]
 refine rd1 3 (h := fun K hK => ?_)
 refine qah rfl rfl 138 _ _ rfl (w.heap.size + 1 + 1 + 1) 0 _ #[.int .i64 l, .int .i64 k, .int .u64 o, .bool u, .bool r, .bool y, .bool q, .int .i64 t, .int .i64 f1, .int .i64 f2, .slice p LW.length cap] rfl rfl rfl 138 _ g3 (show 0 + 11 ≤ 11 by decide) qbz (by simp [Value.oneCell']) #[.int .i64 l, .int .i64 k, .int .u64 o, .bool u, .bool r, .bool y, .bool q, .int .i64 t, .int .i64 f1, .int .i64 f2, .slice p LW.length cap] rfl ?_
 intro wsb hrq htq
 obtain ⟨k0, k1, k2, k3, k4⟩ := tc5 htq k0 k1 k2 k3 k4
 obtain ⟨k5, k6, k7, k8, k9⟩ := tc5 htq k5 k6 k7 k8 k9
 obtain ⟨k10, k11, k12, k13, k14⟩ := tc5 htq k10 k11 k12 k13 k14
 obtain ⟨k15, k16, k17, k18, k19⟩ := tc5 htq k15 k16 k17 k18 k19
 obtain ⟨g0, g1, g2, g4⟩ := bt4 htq g0 g1 g2 g4
 replace g3 := hrq
 replace HY := Hid.mk (HY.out.turn htq (fun i hi c => by have c' : i = w.heap.size + 1 + 1 + 1 := c; rcases hi with hi | hi <;> omega))
 replace hB := qaf hB htq (by omega)
 refine hK.out _ _ ⟨k0, k1, k2, k3, k4, k5, k6, k7, k8, k9, k10, k11, k12, k13, k14, k15, k16, k17, k18, k19⟩ (fun hHeldsb => ?_)
 clear hK hrq
 try simp only [Act.put, sq]
 refine wpAnyH_done (by kernel_rfl) ?_ _
 refine NoPanic.normal ?_
 clear k0 k1 k2 k3 k4 k5 k6 k7 k8 k9 k10 k11 k12 k13 k14 k15 k16 k17 k18 k19
 go_wp2
 refine bodyPost_ret (qas rfl _ _ (w.heap.size + 1 + 1) (w.heap.size + 1 + 1 + 1) _ _ _ _ _ _ _ _ rfl g2 Tryz.underlying34 rfl qao rfl g3 Tryz.underlying138 rfl qbz) rfl ?_
 rw [HWS.out]
 first
 | exact ⟨⟨vm, L, aE, cE, aK, cK, aP, cP, true, R, I⟩, .slice p LW.length cap, rfl, rfl, HY.out.mono (fun i hi => by rcases hi with hi | hi; exact Or.inl hi.1; exact Or.inr (by omega)), hB⟩
 | exact ⟨⟨vm, L, aE, cE, a5, c5', aP, cP, true, R, I⟩, .slice p LW.length cap, rfl, rfl, HY.out.mono (fun i hi => by rcases hi with hi | hi; exact Or.inl hi.1; exact Or.inr (by omega)), hB⟩) : Z := z
theorem zP45x06 {Z : Prop} (z : Z := by
 obtain ⟨-, d1, -⟩ := qan g1
 obtain ⟨-, -, m2, m3⟩ := cells4y g4
 have HLE := Hid.mk HLED
 clear HLV HTV HFR HY HWS g0 g1 g2 g3 g4 HLED
 cases hl'
 ·have HL0 := HLE.out
  rw [Bool.false_and] at HL0
  subst HL0
  clear HLE
  go_wp2
  go_meet
  exact ⟨rfl, rfl⟩
 ·by_cases h1 : 1 ≤ bl
  ·have h2 : 0 < bl := by omega
   have d3 : decide (0 < bl) = true := decide_eq_true h2
   have HL0 := HLE.out
   rw [Bool.true_and, decide_eq_true h1] at HL0
   subst HL0
   clear HLE h1
   go_wp2
   go_meet
   exact ⟨rfl, rfl⟩
  ·have h2 : ¬ 0 < bl := by omega
   have d3 : decide (0 < bl) = false := decide_eq_false h2
   have HL0 := HLE.out
   rw [Bool.true_and, decide_eq_false h1] at HL0
   subst HL0
   clear HLE h1
   go_wp2
   go_meet
   exact ⟨rfl, rfl⟩) : Z := z
theorem zP45x07 {Z : Prop} (z : Z := by
 obtain ⟨c0, c1, c2, c3, c4, c5, c6, c7, c8⟩ := qal g0
 obtain ⟨-, -, m2, m3⟩ := cells4y g4
 have HL := HLV
 have HT := HTV
 clear HLV HTV HFR HY HWS g0 g1 g2 g3 g4 c0 c1 c2 c3 c4 c5 c7 c8
 cases LED
 ·rw [if_neg (by decide)] at HL HT
  go_wp2
  go_meet
  exact ⟨by rw [HL.out], by rw [HT.out], rfl⟩
 ·rw [if_pos rfl] at HL HT
  go_wp2
  go_meet
  exact ⟨by rw [HL.out], by rw [HT.out], rfl⟩) : Z := z
theorem zP45x13 {Z : Prop} (z : Z := by
 replace g0 := qaa hb4 (qaa hb3 g0)
 replace g1 := qaa hb4 (qaa hb3 g1)
 replace g2 := qaa hb4 (qaa hb3 g2)
 replace g3 := qaa hb4 (qaa hb3 g3)
 replace hB := qab (qab hB hb3) hb4
 replace hsz := Nat.le_trans hsz hb3.size
 replace HY := Hid.mk (HY.out.later hB)
 clear hb3 hb4
 generalize w3.heap.size = KL at *
 have hKL := qag g4
 obtain ⟨c0, c1, c2, c3, c4, c5, c6, c7, c8⟩ := qal g0
 obtain ⟨d0, d1, d2⟩ := qan g1
 obtain ⟨m0, m1, m2, m3, m4, m5, m6, m7, m8, m9, m10⟩ := qbb g4
 go_upto_region 12 with fail
 clear c0 c1 c2 c3 c4 c5 c6 c7 c8 d0 d1 d2 m0 m1 m2 m3 m4 m5 m6 m7 m8 m9 m10
 have hl4 := qag g4
 obtain ⟨k0, k1, k2, k3, k4, k5, k6, k7, k8⟩ := qal g0
 obtain ⟨k9, k10, k11, k12, k13, k14, k15, k16, k17, k18, k19⟩ := qbb g4
 obtain ⟨k0, k1, k2, k3, k4⟩ := cl5 (Below.refl _ w4).drew k0 k1 k2 k3 k4
 obtain ⟨k5, k6, k7, k8, k9⟩ := cl5 (Below.refl _ w4).drew k5 k6 k7 k8 k9
 obtain ⟨k10, k11, k12, k13, k14⟩ := cl5 (Below.refl _ w4).drew k10 k11 k12 k13 k14
 obtain ⟨k15, k16, k17, k18, k19⟩ := cl5 (Below.refl _ w4).drew k15 k16 k17 k18 k19
 refine hd20 k0 k1 k2 k3 k4 k5 k6 k7 k8 k9 k10 k11 k12 k13 k14 k15 k16 k17 k18 k19 (h := fun hHeld => ?_)
 obtain ⟨g0, g1, g2, g3, g4⟩ := bl5 (Below.refl _ w4).drew g0 g1 g2 g3 g4
 replace HY := Hid.mk (HY.out.later (Below.refl _ w4).drew)
 replace hB := qab hB (Below.refl _ w4).drew
 generalize w4.drew = Wd at *
 refine tk 0 84 (h := ?_)
 refine tk 1 85 (h := ?_)
 refine rd1 2 (h := fun K hK => ?_)
 refine qah rfl rfl 34 _ _ rfl (w.heap.size + 1 + 1) 0 _ #[.int .u64 S, vm, .int .i64 most, .slice aE s.E.length cE, .slice aK s.K.length cK, .bool true, .int .u64 R, .int .i64 I, .slice aP s.P.length cP] rfl rfl rfl 34 _ g2 (show 0 + 9 ≤ 9 by decide) qao (all_oneCell_toArray (fun u hu => by simp only [List.mem_cons, List.not_mem_nil, or_false] at hu; rcases hu with rfl | rfl | rfl | rfl | rfl | rfl | rfl | rfl | rfl <;> first | rfl | exact HV1.out)) #[.int .u64 S, vm, .int .i64 most, .slice aE s.E.length cE, .slice aK s.K.length cK, .bool true, .int .u64 R, .int .i64 I, .slice aP s.P.length cP] rfl ?_
 first
 | exact zP45x03
 | exact zP45x05) : Z := z
theorem zP45x21 {Z : Prop} (z : Z := by
 replace hsz := Nat.le_of_eq hsz.symm
 go_enter Tryz.func56, Tryz.ntmps56
 go_upto_region 1 with fail
 (try rw [hW4])
 clear hW4
 obtain ⟨c0, c1, c2, c3, c4, c5, c6, c7, c8⟩ := qal g0
 obtain ⟨d0, d1, d2⟩ := qan g1
 go_wp2_with fail
 refine (HBE.out _ hB).mono ?_
 rintro e w1 ⟨rfl, hb1⟩
 have hb2 := qac w1 (.cells #[.int .i64 ba, .int .u64 bv, .int .i64 bl, .int .u64 bt] 97)
 have g4 := heap_alloc_new w1 (.cells #[.int .i64 ba, .int .u64 bv, .int .i64 bl, .int .u64 bt] 97)
 clear HBE c0 c1 c2 c3 c4 c5 c6 c7 c8 d0 d1 d2
 go_upto_region 4 with fail
 generalize w1.alloc (.cells #[.int .i64 ba, .int .u64 bv, .int .i64 bl, .int .u64 bt] 97) = w2 at *
 replace g0 := qaa hb2 (qaa hb1 g0)
 replace g1 := qaa hb2 (qaa hb1 g1)
 replace g2 := qaa hb2 (qaa hb1 g2)
 replace g3 := qaa hb2 (qaa hb1 g3)
 replace hB := qab (qab hB hb1) hb2
 replace hsz := Nat.le_trans hsz (Nat.le_trans hb1.size hb2.size)
 clear hb1 hb2
 obtain ⟨LED, HLED⟩ : ∃ LED, (hl' && decide (1 ≤ bl)) = LED := ⟨_, rfl⟩
 rw [HLED] at HLV HTV
 go_cut [26] (fun t wc => t = .bool LED ∧ wc = w2)
 case first =>
  exact zP45x06
 case rest =>
 obtain ⟨rfl, rfl⟩ := hcut
 clear HLED
 apply_assumption
 go_cut [8, 9] (fun a b wd => a = .int .i64 LV ∧ b = .int .u64 TV ∧ wd = wc)
 case first =>
  exact zP45x07
 case rest =>
 obtain ⟨rfl, rfl, rfl⟩ := hcut
 clear HLV HTV g4
 obtain ⟨c0, c1, c2, c3, c4, c5, c6, c7, c8⟩ := qal g0
 obtain ⟨d0, d1, d2⟩ := qan g1
 go_wp2_with fail
 refine (HFR.out _ hB).mono ?_
 rintro e w3 ⟨p, cap, rfl, hps, hb3⟩
 have hb4 := qac w3 (.cells #[.int .i64 l, .int .i64 k, .int .u64 o, .bool u, .bool r, .bool y, .bool q, .int .i64 t, .int .i64 f1, .int .i64 f2, .slice p LW.length cap] 138)
 have g4 := heap_alloc_new w3 (.cells #[.int .i64 l, .int .i64 k, .int .u64 o, .bool u, .bool r, .bool y, .bool q, .int .i64 t, .int .i64 f1, .int .i64 f2, .slice p LW.length cap] 138)
 replace hps := hps.below hb4
 clear HFR c0 c1 c2 c3 c4 c5 c6 c7 c8 d0 d1 d2
 go_upto_region 8 with fail
 generalize w3.alloc (.cells #[.int .i64 l, .int .i64 k, .int .u64 o, .bool u, .bool r, .bool y, .bool q, .int .i64 t, .int .i64 f1, .int .i64 f2, .slice p LW.length cap] 138) = w4 at *
 first
 | exact zP45x13
 | exact zP45x11) : Z := z
theorem ywalk_0n (h : YOk w B m s d) (hf : Fm S s.f) (hw : Wf most s) (hm : m < 1000000) (R I : Nat) (hg : s.rg = some (R, I)) (va : Nat) (hva : va < 18446744073709551616) (hn : Hn) (hk : hn.keep = false) (hfl : hn.fill = false) :
  Calls Tryz.prog 56 #[.agg (d.cs S most s), .int .u64 va, hn.v] w fun r w' => ∃ d' v, r = .returned (.tuple #[.agg (d'.cs S most (wdS S most s R I va hn)), .agg (lC (lfR (wkO S s R I va hn).2) (ftR (wkO S s R I va hn).2) v)]) ∧ v.oneCell' = true ∧ YOk w' (fun g => B g ∨ w.heap.size ≤ g) m (wdS S most s R I va hn) d' ∧ Below w.heap.size w w' := by
 obtain ⟨hR, -, hI⟩ := hw.rr R I hg
 have e1 : R = d.R := (h.rg R I hg).1.symm
 have e2 : I = d.I := (h.rg R I hg).2.symm
 have e3 : true = d.on := by have := h.on; rw [hg] at this; exact this.symm
 have HFR := pfr h hf hw hm R I hg va hn
 have HBE := pbe h hw I va hva
 have HEK : Hid (kK S most s R I va hn = s.K) := by show _ = _; unfold kK; rw [if_neg (by rw [hk]; decide)]
 have HEE : Hid (kE S most s R I va hn = s.E) := by show _ = _; unfold kE; rw [if_neg (by rw [hfl, Bool.false_and]; decide)]
 have HWS : Hid (wdS S most s R I va hn = { s with E := kE S most s R I va hn, K := kK S most s R I va hn }) := rfl
 have HLV : Hid (stL s I va hn = if (hn.led && decide (1 ≤ (bst s I va).lv)) = true then (bst s I va).lv else 0) := rfl
 have HTV : Hid (stT s R I va hn = if (hn.led && decide (1 ≤ (bst s I va).lv)) = true then (bst s I va).tb else R) := rfl
 have HY : Hid (YOk w (fun g => (B g ∧ g < w.heap.size) ∨ w.heap.size + 1 + 1 + 1 + 1 ≤ g) m s d) := Hid.mk (h.tight.mono (fun _ hi => Or.inl hi))
 have HV1 := Hid.mk h.vm1
 clear h hf hw hva hR hI hg
 obtain ⟨vm, L, aE, cE, aK, cK, aP, cP, on', R', I'⟩ := d
 dsimp only at e1 e2 e3
 subst e1 e2 e3
 generalize wdS S most s R I va hn = s' at *
 rw [HEE.out] at HWS
 rw [HEK.out] at HWS
 clear HEE
 generalize kE S most s R I va hn = E' at *
 generalize wkO S s R I va hn = wr at *
 generalize stL s I va hn = LV at *
 generalize stT s R I va hn = TV at *
 generalize bst s I va = be at *
 obtain ⟨ba, bv, bl, bt⟩ := be
 generalize lfR wr.2 = lf at *
 generalize ftR wr.2 = ft at *
 obtain ⟨LW, r0⟩ := wr
 obtain ⟨l, k, o, u, r, y, q, t⟩ := lf
 obtain ⟨f1, f2⟩ := ft
 obtain ⟨hf', hl', hk'⟩ := hn
 simp only at hk hfl
 subst hk hfl
 obtain ⟨W4, hW4, g0, g1, g2, g3, hB, hsz⟩ := hp4 w (.cells #[.int .u64 S, vm, .int .i64 most, .slice aE s.E.length cE, .slice aK s.K.length cK, .bool true, .int .u64 R, .int .i64 I, .slice aP s.P.length cP] 34) (.cells #[.bool false, .bool hl', .bool false] 64) (.cells #[.int .u64 0, .slice none 0 0, .int .i64 0, .slice none 0 0, .slice none 0 0, .bool false, .int .u64 0, .int .i64 0, .slice none 0 0] 34) (.cells #[.int .i64 0, .int .i64 0, .int .u64 0, .bool false, .bool false, .bool false, .bool false, .int .i64 0, .int .i64 0, .int .i64 0, .slice none 0 0] 138)
 exact zP45x21
theorem zP45x04 {Z : Prop} (z : Z := by
 intro wsa hrq htq
 obtain ⟨k0, k1, k2, k3, k4⟩ := tc5 htq k0 k1 k2 k3 k4
 obtain ⟨k5, k6, k7, k8, k9⟩ := tc5 htq k5 k6 k7 k8 k9
 obtain ⟨k10, k11, k12, k13, k14⟩ := tc5 htq k10 k11 k12 k13 k14
 obtain ⟨k15, k16, k17, k18, k19⟩ := tc5 htq k15 k16 k17 k18 k19
 obtain ⟨g0, g1, g3, g4⟩ := bt4 htq g0 g1 g3 g4
 replace g2 := hrq
 replace HY := Hid.mk (HY.out.turn htq (fun i hi c => by have c' : i = w.heap.size + 1 + 1 := c; rcases hi with hi | hi <;> omega))
 replace hB := qaf hB htq (by omega)
 refine hK.out _ _ ⟨k0, k1, k2, k3, k4, k5, k6, k7, k8, k9, k10, k11, k12, k13, k14, k15, k16, k17, k18, k19⟩ (fun hHeldsa => ?_)
 clear hK hrq
 try simp only [Act.put, sq]
 refine rd1 3 (h := fun K hK => ?_)
 refine qah rfl rfl 138 _ _ rfl (w.heap.size + 1 + 1 + 1) 0 _ #[.int .i64 l, .int .i64 k, .int .u64 o, .bool u, .bool r, .bool y, .bool false, .int .i64 t, .int .i64 f1, .int .i64 f2, .slice p LW.length cap] rfl rfl rfl 138 _ g3 (show 0 + 11 ≤ 11 by decide) qbz (by simp [Value.oneCell']) #[.int .i64 l, .int .i64 k, .int .u64 o, .bool u, .bool r, .bool y, .bool false, .int .i64 t, .int .i64 f1, .int .i64 f2, .slice p LW.length cap] rfl ?_
 intro wsb hrq htq
 obtain ⟨k0, k1, k2, k3, k4⟩ := tc5 htq k0 k1 k2 k3 k4
 obtain ⟨k5, k6, k7, k8, k9⟩ := tc5 htq k5 k6 k7 k8 k9
 obtain ⟨k10, k11, k12, k13, k14⟩ := tc5 htq k10 k11 k12 k13 k14
 obtain ⟨k15, k16, k17, k18, k19⟩ := tc5 htq k15 k16 k17 k18 k19
 obtain ⟨g0, g1, g2, g4⟩ := bt4 htq g0 g1 g2 g4
 replace g3 := hrq
 replace HY := Hid.mk (HY.out.turn htq (fun i hi c => by have c' : i = w.heap.size + 1 + 1 + 1 := c; rcases hi with hi | hi <;> omega))
 replace hB := qaf hB htq (by omega)
 refine hK.out _ _ ⟨k0, k1, k2, k3, k4, k5, k6, k7, k8, k9, k10, k11, k12, k13, k14, k15, k16, k17, k18, k19⟩ (fun hHeldsb => ?_)
 clear hK hrq
 try simp only [Act.put, sq]
 refine wpAnyH_done (by kernel_rfl) ?_ _
 refine NoPanic.normal ?_
 clear k0 k1 k2 k3 k4 k5 k6 k7 k8 k9 k10 k11 k12 k13 k14 k15 k16 k17 k18 k19
 go_wp2
 refine bodyPost_ret (qas rfl _ _ (w.heap.size + 1 + 1) (w.heap.size + 1 + 1 + 1) _ _ _ _ _ _ _ _ rfl g2 Tryz.underlying34 rfl qao rfl g3 Tryz.underlying138 rfl qbz) rfl ?_
 rw [HWS.out]
 first
 | exact ⟨⟨vm, L, aE, cE, aK, cK, aP, cP, true, R, I⟩, .slice p LW.length cap, rfl, rfl, HY.out.mono (fun i hi => by rcases hi with hi | hi; exact Or.inl hi.1; exact Or.inr (by omega)), hB⟩
 | exact ⟨⟨vm, L, aE, cE, a5, c5', aP, cP, true, R, I⟩, .slice p LW.length cap, rfl, rfl, HY.out.mono (fun i hi => by rcases hi with hi | hi; exact Or.inl hi.1; exact Or.inr (by omega)), hB⟩) : Z := z
theorem ywalk_0f (h : YOk w B m s d) (hf : Fm S s.f) (hw : Wf most s) (hm : m < 1000000) (R I : Nat) (hg : s.rg = some (R, I)) (va : Nat) (hva : va < 18446744073709551616) (hn : Hn) (hk : hn.keep = false) (hfl : hn.fill = true) (hu : (lfR (wkO S s R I va hn).2).s = false) (hft : (ftR (wkO S s R I va hn).2).1 ≠ 0) :
  Calls Tryz.prog 56 #[.agg (d.cs S most s), .int .u64 va, hn.v] w fun r w' => ∃ d' v, r = .returned (.tuple #[.agg (d'.cs S most (wdS S most s R I va hn)), .agg (lC (lfR (wkO S s R I va hn).2) (ftR (wkO S s R I va hn).2) v)]) ∧ v.oneCell' = true ∧ YOk w' (fun g => B g ∨ w.heap.size ≤ g) m (wdS S most s R I va hn) d' ∧ Below w.heap.size w w' := by
 obtain ⟨hR, -, hI⟩ := hw.rr R I hg
 have e1 : R = d.R := (h.rg R I hg).1.symm
 have e2 : I = d.I := (h.rg R I hg).2.symm
 have e3 : true = d.on := by have := h.on; rw [hg] at this; exact this.symm
 have HFR := pfr h hf hw hm R I hg va hn
 have HBE := pbe h hw I va hva
 have HEK : Hid (kK S most s R I va hn = s.K) := by show _ = _; unfold kK; rw [if_neg (by rw [hk]; decide)]
 have HEE : Hid (kE S most s R I va hn = s.E) := by show _ = _; unfold kE; rw [if_neg (by rw [hfl, hu]; decide)]
 have HWS : Hid (wdS S most s R I va hn = { s with E := kE S most s R I va hn, K := kK S most s R I va hn }) := rfl
 have HLV : Hid (stL s I va hn = if (hn.led && decide (1 ≤ (bst s I va).lv)) = true then (bst s I va).lv else 0) := rfl
 have HTV : Hid (stT s R I va hn = if (hn.led && decide (1 ≤ (bst s I va).lv)) = true then (bst s I va).tb else R) := rfl
 have HY : Hid (YOk w (fun g => (B g ∧ g < w.heap.size) ∨ w.heap.size + 1 + 1 + 1 + 1 ≤ g) m s d) := Hid.mk (h.tight.mono (fun _ hi => Or.inl hi))
 have HV1 := Hid.mk h.vm1
 clear h hf hw hva hR hI hg
 obtain ⟨vm, L, aE, cE, aK, cK, aP, cP, on', R', I'⟩ := d
 dsimp only at e1 e2 e3
 subst e1 e2 e3
 generalize wdS S most s R I va hn = s' at *
 rw [HEE.out] at HWS
 rw [HEK.out] at HWS
 clear HEE
 generalize kE S most s R I va hn = E' at *
 generalize wkO S s R I va hn = wr at *
 generalize stL s I va hn = LV at *
 generalize stT s R I va hn = TV at *
 generalize bst s I va = be at *
 obtain ⟨ba, bv, bl, bt⟩ := be
 generalize lfR wr.2 = lf at *
 generalize ftR wr.2 = ft at *
 obtain ⟨LW, r0⟩ := wr
 obtain ⟨l, k, o, u, r, y, q, t⟩ := lf
 obtain ⟨f1, f2⟩ := ft
 obtain ⟨hf', hl', hk'⟩ := hn
 simp only at hk hfl hu hft
 subst hk hfl hu
 obtain ⟨W4, hW4, g0, g1, g2, g3, hB, hsz⟩ := hp4 w (.cells #[.int .u64 S, vm, .int .i64 most, .slice aE s.E.length cE, .slice aK s.K.length cK, .bool true, .int .u64 R, .int .i64 I, .slice aP s.P.length cP] 34) (.cells #[.bool true, .bool hl', .bool false] 64) (.cells #[.int .u64 0, .slice none 0 0, .int .i64 0, .slice none 0 0, .slice none 0 0, .bool false, .int .u64 0, .int .i64 0, .slice none 0 0] 34) (.cells #[.int .i64 0, .int .i64 0, .int .u64 0, .bool false, .bool false, .bool false, .bool false, .int .i64 0, .int .i64 0, .int .i64 0, .slice none 0 0] 138)
 replace hsz := Nat.le_of_eq hsz.symm
 go_enter Tryz.func56, Tryz.ntmps56
 go_upto_region 1 with fail
 (try rw [hW4])
 clear hW4
 obtain ⟨c0, c1, c2, c3, c4, c5, c6, c7, c8⟩ := qal g0
 obtain ⟨d0, d1, d2⟩ := qan g1
 go_wp2_with fail
 refine (HBE.out _ hB).mono ?_
 rintro e w1 ⟨rfl, hb1⟩
 have hb2 := qac w1 (.cells #[.int .i64 ba, .int .u64 bv, .int .i64 bl, .int .u64 bt] 97)
 have g4 := heap_alloc_new w1 (.cells #[.int .i64 ba, .int .u64 bv, .int .i64 bl, .int .u64 bt] 97)
 clear HBE c0 c1 c2 c3 c4 c5 c6 c7 c8 d0 d1 d2
 go_upto_region 4 with fail
 generalize w1.alloc (.cells #[.int .i64 ba, .int .u64 bv, .int .i64 bl, .int .u64 bt] 97) = w2 at *
 replace g0 := qaa hb2 (qaa hb1 g0)
 replace g1 := qaa hb2 (qaa hb1 g1)
 replace g2 := qaa hb2 (qaa hb1 g2)
 replace g3 := qaa hb2 (qaa hb1 g3)
 replace hB := qab (qab hB hb1) hb2
 replace hsz := Nat.le_trans hsz (Nat.le_trans hb1.size hb2.size)
 clear hb1 hb2
 obtain ⟨LED, HLED⟩ : ∃ LED, (hl' && decide (1 ≤ bl)) = LED := ⟨_, rfl⟩
 rw [HLED] at HLV HTV
 go_cut [26] (fun t wc => t = .bool LED ∧ wc = w2)
 case first =>
  exact zP45x06
 case rest =>
 obtain ⟨rfl, rfl⟩ := hcut
 clear HLED
 apply_assumption
 go_cut [8, 9] (fun a b wd => a = .int .i64 LV ∧ b = .int .u64 TV ∧ wd = wc)
 case first =>
  exact zP45x07
 case rest =>
 obtain ⟨rfl, rfl, rfl⟩ := hcut
 clear HLV HTV g4
 obtain ⟨c0, c1, c2, c3, c4, c5, c6, c7, c8⟩ := qal g0
 obtain ⟨d0, d1, d2⟩ := qan g1
 go_wp2_with fail
 refine (HFR.out _ hB).mono ?_
 rintro e w3 ⟨p, cap, rfl, hps, hb3⟩
 have hb4 := qac w3 (.cells #[.int .i64 l, .int .i64 k, .int .u64 o, .bool u, .bool r, .bool y, .bool false, .int .i64 t, .int .i64 f1, .int .i64 f2, .slice p LW.length cap] 138)
 have g4 := heap_alloc_new w3 (.cells #[.int .i64 l, .int .i64 k, .int .u64 o, .bool u, .bool r, .bool y, .bool false, .int .i64 t, .int .i64 f1, .int .i64 f2, .slice p LW.length cap] 138)
 replace hps := hps.below hb4
 clear HFR c0 c1 c2 c3 c4 c5 c6 c7 c8 d0 d1 d2
 go_upto_region 8 with fail
 generalize w3.alloc (.cells #[.int .i64 l, .int .i64 k, .int .u64 o, .bool u, .bool r, .bool y, .bool false, .int .i64 t, .int .i64 f1, .int .i64 f2, .slice p LW.length cap] 138) = w4 at *
 replace g0 := qaa hb4 (qaa hb3 g0)
 replace g1 := qaa hb4 (qaa hb3 g1)
 replace g2 := qaa hb4 (qaa hb3 g2)
 replace g3 := qaa hb4 (qaa hb3 g3)
 replace hB := qab (qab hB hb3) hb4
 replace hsz := Nat.le_trans hsz hb3.size
 replace HY := Hid.mk (HY.out.later hB)
 clear hb3 hb4
 generalize w3.heap.size = KL at *
 have hKL := qag g4
 obtain ⟨c0, c1, c2, c3, c4, c5, c6, c7, c8⟩ := qal g0
 obtain ⟨d0, d1, d2⟩ := qan g1
 obtain ⟨m0, m1, m2, m3, m4, m5, m6, m7, m8, m9, m10⟩ := qbb g4
 have hft2 : (f1 == 0) = false := by rw [beq_eq_false_iff_ne]; exact hft
 go_upto_region 12 with fail
 clear c0 c1 c2 c3 c4 c5 c6 c7 c8 d0 d1 d2 m0 m1 m2 m3 m4 m5 m6 m7 m8 m9 m10
 have hl4 := qag g4
 obtain ⟨k0, k1, k2, k3, k4, k5, k6, k7, k8⟩ := qal g0
 obtain ⟨k9, k10, k11, k12, k13, k14, k15, k16, k17, k18, k19⟩ := qbb g4
 obtain ⟨k0, k1, k2, k3, k4⟩ := cl5 (Below.refl _ w4).drew k0 k1 k2 k3 k4
 obtain ⟨k5, k6, k7, k8, k9⟩ := cl5 (Below.refl _ w4).drew k5 k6 k7 k8 k9
 obtain ⟨k10, k11, k12, k13, k14⟩ := cl5 (Below.refl _ w4).drew k10 k11 k12 k13 k14
 obtain ⟨k15, k16, k17, k18, k19⟩ := cl5 (Below.refl _ w4).drew k15 k16 k17 k18 k19
 refine hd20 k0 k1 k2 k3 k4 k5 k6 k7 k8 k9 k10 k11 k12 k13 k14 k15 k16 k17 k18 k19 (h := fun hHeld => ?_)
 obtain ⟨g0, g1, g2, g3, g4⟩ := bl5 (Below.refl _ w4).drew g0 g1 g2 g3 g4
 replace HY := Hid.mk (HY.out.later (Below.refl _ w4).drew)
 replace hB := qab hB (Below.refl _ w4).drew
 generalize w4.drew = Wd at *
 refine tk 0 84 (h := ?_)
 refine tk 1 85 (h := ?_)
 refine rd1 2 (h := fun K hK => ?_)
 refine qah rfl rfl 34 _ _ rfl (w.heap.size + 1 + 1) 0 _ #[.int .u64 S, vm, .int .i64 most, .slice aE s.E.length cE, .slice aK s.K.length cK, .bool true, .int .u64 R, .int .i64 I, .slice aP s.P.length cP] rfl rfl rfl 34 _ g2 (show 0 + 9 ≤ 9 by decide) qao (all_oneCell_toArray (fun u hu => by simp only [List.mem_cons, List.not_mem_nil, or_false] at hu; rcases hu with rfl | rfl | rfl | rfl | rfl | rfl | rfl | rfl | rfl <;> first | rfl | exact HV1.out)) #[.int .u64 S, vm, .int .i64 most, .slice aE s.E.length cE, .slice aK s.K.length cK, .bool true, .int .u64 R, .int .i64 I, .slice aP s.P.length cP] rfl ?_
 exact zP45x04
theorem zP45x05 {Z : Prop} (z : Z := by
 intro wsa hrq htq
 obtain ⟨k0, k1, k2, k3, k4⟩ := tc5 htq k0 k1 k2 k3 k4
 obtain ⟨k5, k6, k7, k8, k9⟩ := tc5 htq k5 k6 k7 k8 k9
 obtain ⟨k10, k11, k12, k13, k14⟩ := tc5 htq k10 k11 k12 k13 k14
 obtain ⟨k15, k16, k17, k18, k19⟩ := tc5 htq k15 k16 k17 k18 k19
 obtain ⟨g0, g1, g3, g4⟩ := bt4 htq g0 g1 g3 g4
 replace g2 := hrq
 replace HY := Hid.mk (HY.out.turn htq (fun i hi c => by have c' : i = w.heap.size + 1 + 1 := c; rcases hi with hi | hi <;> omega))
 replace hB := qaf hB htq (by omega)
 refine hK.out _ _ ⟨k0, k1, k2, k3, k4, k5, k6, k7, k8, k9, k10, k11, k12, k13, k14, k15, k16, k17, k18, k19⟩ (fun hHeldsa => ?_)
 clear hK hrq
 try simp only [Act.put, sq]
 refine rd1 3 (h := fun K hK => ?_)
 refine qah rfl rfl 138 _ _ rfl (w.heap.size + 1 + 1 + 1) 0 _ #[.int .i64 l, .int .i64 k, .int .u64 o, .bool u, .bool r, .bool y, .bool false, .int .i64 t, .int .i64 0, .int .i64 f2, .slice p LW.length cap] rfl rfl rfl 138 _ g3 (show 0 + 11 ≤ 11 by decide) qbz (by simp [Value.oneCell']) #[.int .i64 l, .int .i64 k, .int .u64 o, .bool u, .bool r, .bool y, .bool false, .int .i64 t, .int .i64 0, .int .i64 f2, .slice p LW.length cap] rfl ?_
 intro wsb hrq htq
 obtain ⟨k0, k1, k2, k3, k4⟩ := tc5 htq k0 k1 k2 k3 k4
 obtain ⟨k5, k6, k7, k8, k9⟩ := tc5 htq k5 k6 k7 k8 k9
 obtain ⟨k10, k11, k12, k13, k14⟩ := tc5 htq k10 k11 k12 k13 k14
 obtain ⟨k15, k16, k17, k18, k19⟩ := tc5 htq k15 k16 k17 k18 k19
 obtain ⟨g0, g1, g2, g4⟩ := bt4 htq g0 g1 g2 g4
 replace g3 := hrq
 replace HY := Hid.mk (HY.out.turn htq (fun i hi c => by have c' : i = w.heap.size + 1 + 1 + 1 := c; rcases hi with hi | hi <;> omega))
 replace hB := qaf hB htq (by omega)
 refine hK.out _ _ ⟨k0, k1, k2, k3, k4, k5, k6, k7, k8, k9, k10, k11, k12, k13, k14, k15, k16, k17, k18, k19⟩ (fun hHeldsb => ?_)
 clear hK hrq
 try simp only [Act.put, sq]
 refine wpAnyH_done (by kernel_rfl) ?_ _
 refine NoPanic.normal ?_
 clear k0 k1 k2 k3 k4 k5 k6 k7 k8 k9 k10 k11 k12 k13 k14 k15 k16 k17 k18 k19
 go_wp2
 refine bodyPost_ret (qas rfl _ _ (w.heap.size + 1 + 1) (w.heap.size + 1 + 1 + 1) _ _ _ _ _ _ _ _ rfl g2 Tryz.underlying34 rfl qao rfl g3 Tryz.underlying138 rfl qbz) rfl ?_
 rw [HWS.out]
 first
 | exact ⟨⟨vm, L, aE, cE, aK, cK, aP, cP, true, R, I⟩, .slice p LW.length cap, rfl, rfl, HY.out.mono (fun i hi => by rcases hi with hi | hi; exact Or.inl hi.1; exact Or.inr (by omega)), hB⟩
 | exact ⟨⟨vm, L, aE, cE, a5, c5', aP, cP, true, R, I⟩, .slice p LW.length cap, rfl, rfl, HY.out.mono (fun i hi => by rcases hi with hi | hi; exact Or.inl hi.1; exact Or.inr (by omega)), hB⟩) : Z := z
theorem zP45x22 {Z : Prop} (z : Z := by
 replace hsz := Nat.le_of_eq hsz.symm
 go_enter Tryz.func56, Tryz.ntmps56
 go_upto_region 1 with fail
 (try rw [hW4])
 clear hW4
 obtain ⟨c0, c1, c2, c3, c4, c5, c6, c7, c8⟩ := qal g0
 obtain ⟨d0, d1, d2⟩ := qan g1
 go_wp2_with fail
 refine (HBE.out _ hB).mono ?_
 rintro e w1 ⟨rfl, hb1⟩
 have hb2 := qac w1 (.cells #[.int .i64 ba, .int .u64 bv, .int .i64 bl, .int .u64 bt] 97)
 have g4 := heap_alloc_new w1 (.cells #[.int .i64 ba, .int .u64 bv, .int .i64 bl, .int .u64 bt] 97)
 clear HBE c0 c1 c2 c3 c4 c5 c6 c7 c8 d0 d1 d2
 go_upto_region 4 with fail
 generalize w1.alloc (.cells #[.int .i64 ba, .int .u64 bv, .int .i64 bl, .int .u64 bt] 97) = w2 at *
 replace g0 := qaa hb2 (qaa hb1 g0)
 replace g1 := qaa hb2 (qaa hb1 g1)
 replace g2 := qaa hb2 (qaa hb1 g2)
 replace g3 := qaa hb2 (qaa hb1 g3)
 replace hB := qab (qab hB hb1) hb2
 replace hsz := Nat.le_trans hsz (Nat.le_trans hb1.size hb2.size)
 clear hb1 hb2
 obtain ⟨LED, HLED⟩ : ∃ LED, (hl' && decide (1 ≤ bl)) = LED := ⟨_, rfl⟩
 rw [HLED] at HLV HTV
 go_cut [26] (fun t wc => t = .bool LED ∧ wc = w2)
 case first =>
  exact zP45x06
 case rest =>
 obtain ⟨rfl, rfl⟩ := hcut
 clear HLED
 apply_assumption
 go_cut [8, 9] (fun a b wd => a = .int .i64 LV ∧ b = .int .u64 TV ∧ wd = wc)
 case first =>
  exact zP45x07
 case rest =>
 obtain ⟨rfl, rfl, rfl⟩ := hcut
 clear HLV HTV g4
 obtain ⟨c0, c1, c2, c3, c4, c5, c6, c7, c8⟩ := qal g0
 obtain ⟨d0, d1, d2⟩ := qan g1
 go_wp2_with fail
 refine (HFR.out _ hB).mono ?_
 rintro e w3 ⟨p, cap, rfl, hps, hb3⟩
 have hb4 := qac w3 (.cells #[.int .i64 l, .int .i64 k, .int .u64 o, .bool u, .bool r, .bool y, .bool false, .int .i64 t, .int .i64 0, .int .i64 f2, .slice p LW.length cap] 138)
 have g4 := heap_alloc_new w3 (.cells #[.int .i64 l, .int .i64 k, .int .u64 o, .bool u, .bool r, .bool y, .bool false, .int .i64 t, .int .i64 0, .int .i64 f2, .slice p LW.length cap] 138)
 replace hps := hps.below hb4
 clear HFR c0 c1 c2 c3 c4 c5 c6 c7 c8 d0 d1 d2
 go_upto_region 8 with fail
 generalize w3.alloc (.cells #[.int .i64 l, .int .i64 k, .int .u64 o, .bool u, .bool r, .bool y, .bool false, .int .i64 t, .int .i64 0, .int .i64 f2, .slice p LW.length cap] 138) = w4 at *
 first
 | exact zP45x13
 | exact zP45x11) : Z := z
theorem ywalk_0u (h : YOk w B m s d) (hf : Fm S s.f) (hw : Wf most s) (hm : m < 1000000) (R I : Nat) (hg : s.rg = some (R, I)) (va : Nat) (hva : va < 18446744073709551616) (hn : Hn) (hk : hn.keep = false) (hfl : hn.fill = true) (hu : (lfR (wkO S s R I va hn).2).s = false) (hft : (ftR (wkO S s R I va hn).2).1 = 0) :
  Calls Tryz.prog 56 #[.agg (d.cs S most s), .int .u64 va, hn.v] w fun r w' => ∃ d' v, r = .returned (.tuple #[.agg (d'.cs S most (wdS S most s R I va hn)), .agg (lC (lfR (wkO S s R I va hn).2) (ftR (wkO S s R I va hn).2) v)]) ∧ v.oneCell' = true ∧ YOk w' (fun g => B g ∨ w.heap.size ≤ g) m (wdS S most s R I va hn) d' ∧ Below w.heap.size w w' := by
 obtain ⟨hR, -, hI⟩ := hw.rr R I hg
 have e1 : R = d.R := (h.rg R I hg).1.symm
 have e2 : I = d.I := (h.rg R I hg).2.symm
 have e3 : true = d.on := by have := h.on; rw [hg] at this; exact this.symm
 have HFR := pfr h hf hw hm R I hg va hn
 have HBE := pbe h hw I va hva
 have HEK : Hid (kK S most s R I va hn = s.K) := by show _ = _; unfold kK; rw [if_neg (by rw [hk]; decide)]
 have HEE : Hid (kE S most s R I va hn = s.E) := by show _ = _; unfold kE; rw [if_neg (by rw [hfl, hu]; decide)]
 have HWS : Hid (wdS S most s R I va hn = { s with E := kE S most s R I va hn, K := kK S most s R I va hn }) := rfl
 have HLV : Hid (stL s I va hn = if (hn.led && decide (1 ≤ (bst s I va).lv)) = true then (bst s I va).lv else 0) := rfl
 have HTV : Hid (stT s R I va hn = if (hn.led && decide (1 ≤ (bst s I va).lv)) = true then (bst s I va).tb else R) := rfl
 have HY : Hid (YOk w (fun g => (B g ∧ g < w.heap.size) ∨ w.heap.size + 1 + 1 + 1 + 1 ≤ g) m s d) := Hid.mk (h.tight.mono (fun _ hi => Or.inl hi))
 have HV1 := Hid.mk h.vm1
 clear h hf hw hva hR hI hg
 obtain ⟨vm, L, aE, cE, aK, cK, aP, cP, on', R', I'⟩ := d
 dsimp only at e1 e2 e3
 subst e1 e2 e3
 generalize wdS S most s R I va hn = s' at *
 rw [HEE.out] at HWS
 rw [HEK.out] at HWS
 clear HEE
 generalize kE S most s R I va hn = E' at *
 generalize wkO S s R I va hn = wr at *
 generalize stL s I va hn = LV at *
 generalize stT s R I va hn = TV at *
 generalize bst s I va = be at *
 obtain ⟨ba, bv, bl, bt⟩ := be
 generalize lfR wr.2 = lf at *
 generalize ftR wr.2 = ft at *
 obtain ⟨LW, r0⟩ := wr
 obtain ⟨l, k, o, u, r, y, q, t⟩ := lf
 obtain ⟨f1, f2⟩ := ft
 obtain ⟨hf', hl', hk'⟩ := hn
 simp only at hk hfl hu hft
 subst hk hfl hu hft
 obtain ⟨W4, hW4, g0, g1, g2, g3, hB, hsz⟩ := hp4 w (.cells #[.int .u64 S, vm, .int .i64 most, .slice aE s.E.length cE, .slice aK s.K.length cK, .bool true, .int .u64 R, .int .i64 I, .slice aP s.P.length cP] 34) (.cells #[.bool true, .bool hl', .bool false] 64) (.cells #[.int .u64 0, .slice none 0 0, .int .i64 0, .slice none 0 0, .slice none 0 0, .bool false, .int .u64 0, .int .i64 0, .slice none 0 0] 34) (.cells #[.int .i64 0, .int .i64 0, .int .u64 0, .bool false, .bool false, .bool false, .bool false, .int .i64 0, .int .i64 0, .int .i64 0, .slice none 0 0] 138)
 exact zP45x22
theorem zP45x01 {Z : Prop} (z : Z := by
 refine rd1 15 (h := fun K hK => ?_)
 go_simp
 have hs8 := qag g4
 refine (yfill_c HY.out HEL.out.2 HEL.out.1 ⟨(I : Int), qbn va l, l, k, o, u, r, y, true, t⟩ HEO.out).mono ?_
 rintro e w8 ⟨a8, c8z, rfl, hy8, hb8⟩
 go_wp2_with fail
 replace hy8 := hy8.back (by omega)
 obtain ⟨k0, k1, k2, k3, k4⟩ := cl5 hb8 k0 k1 k2 k3 k4
 obtain ⟨k5, k6, k7, k8, k9⟩ := cl5 hb8 k5 k6 k7 k8 k9
 obtain ⟨k10, k11, k12, k13, k14⟩ := cl5 hb8 k10 k11 k12 k13 k14
 obtain ⟨k15, k16, k17, k18⟩ := cl4 hb8 k15 k16 k17 k18
 obtain ⟨g0, g1, g2, g3, g4⟩ := bl5 hb8 g0 g1 g2 g3 g4
 replace hB := qab hB hb8
 clear HY hb8 kx
 have HY := Hid.mk hy8
 clear hy8
 refine hK.out _ _ ⟨k0, k1, k2, k3, k4, k5, k6, k7, k8, k9, k10, k11, k12, k13, k14, k15, k16, k17, k18⟩ (fun hHeld2 => ?_)
 clear hK
 try simp only [Act.put, sq]
 refine tk 16 83 (h := ?_)
 refine rd1 17 (h := fun K hK => ?_)
 refine qah rfl rfl 30 _ _ rfl (w.heap.size) 3 _ #[.slice a8 (TB.qbt s.E most ⟨(I : Int), qbn va l, l, k, o, u, r, y, true, t⟩).length c8z] rfl rfl rfl 34 _ g0 (show 3 + 1 ≤ 9 by decide) info_es (by simp [Value.oneCell']) #[.int .u64 S, vm, .int .i64 most, .slice a8 (TB.qbt s.E most ⟨(I : Int), qbn va l, l, k, o, u, r, y, true, t⟩).length c8z, .slice aK s.K.length cK, .bool true, .int .u64 R, .int .i64 I, .slice aP s.P.length cP] rfl ?_
 intro ws9 hrq htq
 obtain ⟨g1, g2, g3, g4⟩ := bt4 htq g1 g2 g3 g4
 replace g0 := hrq
 have hl4 := qag g4
 obtain ⟨c0, c1, c2, c3, c4, c5, c6, c7, c8⟩ := qal hrq
 replace k0 := c0
 replace k1 := c1
 replace k2 := c2
 replace k3 := c4
 replace k4 := c5
 replace k5 := c6
 replace k6 := c7
 replace k7 := c8
 obtain ⟨k8, k9, k10, k11, k12⟩ := tc5 htq k8 k9 k10 k11 k12
 obtain ⟨k13, k14, k15⟩ := tc3 htq k13 k14 k15
 obtain ⟨k16, k17, k18⟩ := tc3 htq k16 k17 k18
 clear c0 c1 c2 c3 c4 c5 c6 c7 c8
 replace HY := Hid.mk (HY.out.turn htq (fun i hi c => by have c' : i = w.heap.size := c; rcases hi with hi | hi <;> omega))
 replace hB := qaf hB htq (by omega)
 refine hK.out _ _ ⟨k0, k1, k2, k3, k4, k5, k6, k7, k8, k9, k10, k11, k12, k13, k14, k15, k16, k17, k18⟩ (fun hHelds9 => ?_)
 clear hK hrq
 try simp only [Act.put, sq]
 refine wpAnyH_done (by kernel_rfl) ?_ _
 refine NoPanic.normal ?_
 clear hl4 k0 k1 k2 k3 k4 k5 k6 k7 k8 k9 k10 k11 k12 k13 k14 k15 k16 k17 k18
 go_upto_region 12 with fail
 have hl4 := qag g4
 obtain ⟨k0, k1, k2, k3, k4, k5, k6, k7, k8⟩ := qal g0
 obtain ⟨k9, k10, k11, k12, k13, k14, k15, k16, k17, k18, k19⟩ := qbb g4
 obtain ⟨k0, k1, k2, k3, k4⟩ := cl5 (Below.refl _ ws9).drew k0 k1 k2 k3 k4
 obtain ⟨k5, k6, k7, k8, k9⟩ := cl5 (Below.refl _ ws9).drew k5 k6 k7 k8 k9
 obtain ⟨k10, k11, k12, k13, k14⟩ := cl5 (Below.refl _ ws9).drew k10 k11 k12 k13 k14
 obtain ⟨k15, k16, k17, k18, k19⟩ := cl5 (Below.refl _ ws9).drew k15 k16 k17 k18 k19
 refine hd20 k0 k1 k2 k3 k4 k5 k6 k7 k8 k9 k10 k11 k12 k13 k14 k15 k16 k17 k18 k19 (h := fun hHeld => ?_)
 obtain ⟨g0, g1, g2, g3, g4⟩ := bl5 (Below.refl _ ws9).drew g0 g1 g2 g3 g4
 replace HY := Hid.mk (HY.out.later (Below.refl _ ws9).drew)
 replace hB := qab hB (Below.refl _ ws9).drew
 generalize ws9.drew = Wd at *
 refine tk 0 84 (h := ?_)
 refine tk 1 85 (h := ?_)
 refine rd1 2 (h := fun K hK => ?_)
 refine qah rfl rfl 34 _ _ rfl (w.heap.size + 1 + 1) 0 _ #[.int .u64 S, vm, .int .i64 most, .slice a8 (TB.qbt s.E most ⟨(I : Int), qbn va l, l, k, o, u, r, y, true, t⟩).length c8z, .slice aK s.K.length cK, .bool true, .int .u64 R, .int .i64 I, .slice aP s.P.length cP] rfl rfl rfl 34 _ g2 (show 0 + 9 ≤ 9 by decide) qao (all_oneCell_toArray (fun u hu => by simp only [List.mem_cons, List.not_mem_nil, or_false] at hu; rcases hu with rfl | rfl | rfl | rfl | rfl | rfl | rfl | rfl | rfl <;> first | rfl | exact HV1.out)) #[.int .u64 S, vm, .int .i64 most, .slice a8 (TB.qbt s.E most ⟨(I : Int), qbn va l, l, k, o, u, r, y, true, t⟩).length c8z, .slice aK s.K.length cK, .bool true, .int .u64 R, .int .i64 I, .slice aP s.P.length cP] rfl ?_
 intro wsa hrq htq
 obtain ⟨k0, k1, k2, k3, k4⟩ := tc5 htq k0 k1 k2 k3 k4
 obtain ⟨k5, k6, k7, k8, k9⟩ := tc5 htq k5 k6 k7 k8 k9
 obtain ⟨k10, k11, k12, k13, k14⟩ := tc5 htq k10 k11 k12 k13 k14
 obtain ⟨k15, k16, k17, k18, k19⟩ := tc5 htq k15 k16 k17 k18 k19
 obtain ⟨g0, g1, g3, g4⟩ := bt4 htq g0 g1 g3 g4
 replace g2 := hrq
 replace HY := Hid.mk (HY.out.turn htq (fun i hi c => by have c' : i = w.heap.size + 1 + 1 := c; rcases hi with hi | hi <;> omega))
 replace hB := qaf hB htq (by omega)
 refine hK.out _ _ ⟨k0, k1, k2, k3, k4, k5, k6, k7, k8, k9, k10, k11, k12, k13, k14, k15, k16, k17, k18, k19⟩ (fun hHeldsa => ?_)
 clear hK hrq
 try simp only [Act.put, sq]
 refine rd1 3 (h := fun K hK => ?_)
 refine qah rfl rfl 138 _ _ rfl (w.heap.size + 1 + 1 + 1) 0 _ #[.int .i64 l, .int .i64 k, .int .u64 o, .bool u, .bool r, .bool y, .bool true, .int .i64 t, .int .i64 0, .int .i64 0, .slice p LW.length cap] rfl rfl rfl 138 _ g3 (show 0 + 11 ≤ 11 by decide) qbz (by simp [Value.oneCell']) #[.int .i64 l, .int .i64 k, .int .u64 o, .bool u, .bool r, .bool y, .bool true, .int .i64 t, .int .i64 0, .int .i64 0, .slice p LW.length cap] rfl ?_
 intro wsb hrq htq
 obtain ⟨k0, k1, k2, k3, k4⟩ := tc5 htq k0 k1 k2 k3 k4
 obtain ⟨k5, k6, k7, k8, k9⟩ := tc5 htq k5 k6 k7 k8 k9
 obtain ⟨k10, k11, k12, k13, k14⟩ := tc5 htq k10 k11 k12 k13 k14
 obtain ⟨k15, k16, k17, k18, k19⟩ := tc5 htq k15 k16 k17 k18 k19
 obtain ⟨g0, g1, g2, g4⟩ := bt4 htq g0 g1 g2 g4
 replace g3 := hrq
 replace HY := Hid.mk (HY.out.turn htq (fun i hi c => by have c' : i = w.heap.size + 1 + 1 + 1 := c; rcases hi with hi | hi <;> omega))
 replace hB := qaf hB htq (by omega)
 refine hK.out _ _ ⟨k0, k1, k2, k3, k4, k5, k6, k7, k8, k9, k10, k11, k12, k13, k14, k15, k16, k17, k18, k19⟩ (fun hHeldsb => ?_)
 clear hK hrq
 try simp only [Act.put, sq]
 refine wpAnyH_done (by kernel_rfl) ?_ _
 refine NoPanic.normal ?_
 clear k0 k1 k2 k3 k4 k5 k6 k7 k8 k9 k10 k11 k12 k13 k14 k15 k16 k17 k18 k19
 go_wp2
 refine bodyPost_ret (qas rfl _ _ (w.heap.size + 1 + 1) (w.heap.size + 1 + 1 + 1) _ _ _ _ _ _ _ _ rfl g2 Tryz.underlying34 rfl qao rfl g3 Tryz.underlying138 rfl qbz) rfl ?_
 rw [HWS.out]
 exact ⟨⟨vm, L, a8, c8z, aK, cK, aP, cP, true, R, I⟩, .slice p LW.length cap, rfl, rfl, HY.out.mono (fun i hi => by rcases hi with hi | hi; exact Or.inl hi.1; exact Or.inr (by omega)), hB⟩) : Z := z
theorem zP45x12 {Z : Prop} (z : Z := by
 refine tk 0 67 (h := ?_)
 refine tk 2 69 (h := ?_)
 refine tk 3 70 (h := ?_)
 refine tk 4 71 (h := ?_)
 refine tk 5 72 (h := ?_)
 refine tk 6 73 (h := ?_)
 refine tk 7 74 (h := ?_)
 refine tk 8 75 (h := ?_)
 refine tk 10 77 (h := ?_)
 refine tk 11 78 (h := ?_)
 refine tk 12 79 (h := ?_)
 refine tk 13 80 (h := ?_)
 refine wpAnyH_ready (rs := [1, 9]) (by kernel_rfl) (by simp) ?_
 refine AllReadyH.cons rfl (fun K hK => ?_) (AllReadyH.cons rfl (fun K hK => ?_) AllReadyH.nil)
 ·go_simp
  refine hK.out _ _ ⟨k0, k1, k2, k3, k4, k5, k6, k7, k8, k9, k10, k11, k12, k13, k14, k15, k16, k17, k18⟩ (fun hHeld0 => ?_)
  clear hK
  try simp only [Act.put, sq]
  refine rd1 9 (h := fun K hK => ?_)
  go_simp
  refine (HBA.out _).mono ?_
  rintro e wc1 ⟨rfl, hb7⟩
  go_wp2_with fail
  obtain ⟨k0, k1, k2, k3, k4⟩ := cl5 hb7 k0 k1 k2 k3 k4
  obtain ⟨k5, k6, k7, k8, k9⟩ := cl5 hb7 k5 k6 k7 k8 k9
  obtain ⟨k10, k11, k12, k13, k14⟩ := cl5 hb7 k10 k11 k12 k13 k14
  obtain ⟨k15, k16, k17, k18⟩ := cl4 hb7 k15 k16 k17 k18
  obtain ⟨g0, g1, g2, g3, g4⟩ := bl5 hb7 g0 g1 g2 g3 g4
  replace HY := Hid.mk (HY.out.later hb7)
  replace hB := qab hB hb7
  clear hb7
  refine hK.out _ _ ⟨k0, k1, k2, k3, k4, k5, k6, k7, k8, k9, k10, k11, k12, k13, k14, k15, k16, k17, k18⟩ (fun hHeld1 => ?_)
  clear hK
  try simp only [Act.put, sq]
  refine tk 14 81 (h := ?_)
  first
  | exact zP45x01
  | exact zP45x02
 ·go_simp
  refine (HBA.out _).mono ?_
  rintro e wc1 ⟨rfl, hb7⟩
  go_wp2_with fail
  obtain ⟨k0, k1, k2, k3, k4⟩ := cl5 hb7 k0 k1 k2 k3 k4
  obtain ⟨k5, k6, k7, k8, k9⟩ := cl5 hb7 k5 k6 k7 k8 k9
  obtain ⟨k10, k11, k12, k13, k14⟩ := cl5 hb7 k10 k11 k12 k13 k14
  obtain ⟨k15, k16, k17, k18⟩ := cl4 hb7 k15 k16 k17 k18
  obtain ⟨g0, g1, g2, g3, g4⟩ := bl5 hb7 g0 g1 g2 g3 g4
  replace HY := Hid.mk (HY.out.later hb7)
  replace hB := qab hB hb7
  replace kx := cell_later hb7 kx
  clear hb7
  refine hK.out _ _ ⟨k0, k1, k2, k3, k4, k5, k6, k7, k8, k9, k10, k11, k12, k13, k14, k15, k16, k17, k18⟩ (fun hHeld1 => ?_)
  clear hK
  try simp only [Act.put, sq]
  refine tk 14 81 (h := ?_)
  refine rd1 1 (h := fun K hK => ?_)
  go_simp
  refine hK.out _ _ ⟨k0, k1, k2, k3, k4, k5, k6, k7, k8, k9, k10, k11, k12, k13, k14, k15, k16, k17, k18⟩ (fun hHeld0 => ?_)
  clear hK
  try simp only [Act.put, sq]
  first
  | exact zP45x01
  | exact zP45x02) : Z := z
theorem ywalk_0y (h : YOk w B m s d) (hf : Fm S s.f) (hw : Wf most s) (hm : m < 1000000) (R I : Nat) (hg : s.rg = some (R, I)) (va : Nat) (hva : va < 18446744073709551616) (hn : Hn) (hk : hn.keep = false) (hfl : hn.fill = true) (hu : (lfR (wkO S s R I va hn).2).s = true) :
  Calls Tryz.prog 56 #[.agg (d.cs S most s), .int .u64 va, hn.v] w fun r w' => ∃ d' v, r = .returned (.tuple #[.agg (d'.cs S most (wdS S most s R I va hn)), .agg (lC (lfR (wkO S s R I va hn).2) (ftR (wkO S s R I va hn).2) v)]) ∧ v.oneCell' = true ∧ YOk w' (fun g => B g ∨ w.heap.size ≤ g) m (wdS S most s R I va hn) d' ∧ Below w.heap.size w w' := by
 obtain ⟨hR, -, hI⟩ := hw.rr R I hg
 have e1 : R = d.R := (h.rg R I hg).1.symm
 have e2 : I = d.I := (h.rg R I hg).2.symm
 have e3 : true = d.on := by have := h.on; rw [hg] at this; exact this.symm
 have HFR := pfr h hf hw hm R I hg va hn
 have HBE := pbe h hw I va hva
 have HEK : Hid (kK S most s R I va hn = s.K) := by show _ = _; unfold kK; rw [if_neg (by rw [hk]; decide)]
 have HEE : Hid (kE S most s R I va hn = TB.qbt s.E most ((lfR (wkO S s R I va hn).2).en I va)) := by show _ = _; unfold kE; rw [if_pos (by rw [hfl, hu]; rfl)]
 have HEO : Hid (TB.qbe ((lfR (wkO S s R I va hn).2).en I va) = true) := Hid.mk (leaf_right hI hu)
 have HBA := Hid.mk (fun W => qcz va (lfR (wkO S s R I va hn).2).l (rentry (leaf_right hI hu)).2.2.1 hva W)
 have hft : ftR (wkO S s R I va hn).2 = (0, 0) := (lfR_s hu).2.2
 have HEL : Hid (s.E.length ≤ 900 ∧ 1 ≤ most) := ⟨by have := hw.el; have := hw.m64; omega, hw.m1⟩
 have HWS : Hid (wdS S most s R I va hn = { s with E := kE S most s R I va hn, K := kK S most s R I va hn }) := rfl
 have HLV : Hid (stL s I va hn = if (hn.led && decide (1 ≤ (bst s I va).lv)) = true then (bst s I va).lv else 0) := rfl
 have HTV : Hid (stT s R I va hn = if (hn.led && decide (1 ≤ (bst s I va).lv)) = true then (bst s I va).tb else R) := rfl
 have HY : Hid (YOk w (fun g => (B g ∧ g < w.heap.size) ∨ w.heap.size + 1 + 1 + 1 + 1 ≤ g) m s d) := Hid.mk (h.tight.mono (fun _ hi => Or.inl hi))
 have HV1 := Hid.mk h.vm1
 clear h hf hw hva hR hI hg
 obtain ⟨vm, L, aE, cE, aK, cK, aP, cP, on', R', I'⟩ := d
 dsimp only at e1 e2 e3
 subst e1 e2 e3
 generalize wdS S most s R I va hn = s' at *
 rw [HEE.out] at HWS
 rw [HEK.out] at HWS
 clear HEE
 generalize kE S most s R I va hn = E' at *
 generalize wkO S s R I va hn = wr at *
 generalize stL s I va hn = LV at *
 generalize stT s R I va hn = TV at *
 generalize bst s I va = be at *
 obtain ⟨ba, bv, bl, bt⟩ := be
 generalize lfR wr.2 = lf at *
 generalize ftR wr.2 = ft at *
 obtain ⟨LW, r0⟩ := wr
 obtain ⟨l, k, o, u, r, y, q, t⟩ := lf
 obtain ⟨f1, f2⟩ := ft
 obtain ⟨hf', hl', hk'⟩ := hn
 simp only at hk hfl hu
 subst hk hfl hu
 obtain ⟨rfl, rfl⟩ := Prod.mk.inj hft
 clear hft
 simp only [Lf.en] at *
 obtain ⟨W4, hW4, g0, g1, g2, g3, hB, hsz⟩ := hp4 w (.cells #[.int .u64 S, vm, .int .i64 most, .slice aE s.E.length cE, .slice aK s.K.length cK, .bool true, .int .u64 R, .int .i64 I, .slice aP s.P.length cP] 34) (.cells #[.bool true, .bool hl', .bool false] 64) (.cells #[.int .u64 0, .slice none 0 0, .int .i64 0, .slice none 0 0, .slice none 0 0, .bool false, .int .u64 0, .int .i64 0, .slice none 0 0] 34) (.cells #[.int .i64 0, .int .i64 0, .int .u64 0, .bool false, .bool false, .bool false, .bool false, .int .i64 0, .int .i64 0, .int .i64 0, .slice none 0 0] 138)
 replace hsz := Nat.le_of_eq hsz.symm
 go_enter Tryz.func56, Tryz.ntmps56
 go_upto_region 1 with fail
 (try rw [hW4])
 clear hW4
 obtain ⟨c0, c1, c2, c3, c4, c5, c6, c7, c8⟩ := qal g0
 obtain ⟨d0, d1, d2⟩ := qan g1
 go_wp2_with fail
 refine (HBE.out _ hB).mono ?_
 rintro e w1 ⟨rfl, hb1⟩
 have hb2 := qac w1 (.cells #[.int .i64 ba, .int .u64 bv, .int .i64 bl, .int .u64 bt] 97)
 have g4 := heap_alloc_new w1 (.cells #[.int .i64 ba, .int .u64 bv, .int .i64 bl, .int .u64 bt] 97)
 clear HBE c0 c1 c2 c3 c4 c5 c6 c7 c8 d0 d1 d2
 go_upto_region 4 with fail
 generalize w1.alloc (.cells #[.int .i64 ba, .int .u64 bv, .int .i64 bl, .int .u64 bt] 97) = w2 at *
 replace g0 := qaa hb2 (qaa hb1 g0)
 replace g1 := qaa hb2 (qaa hb1 g1)
 replace g2 := qaa hb2 (qaa hb1 g2)
 replace g3 := qaa hb2 (qaa hb1 g3)
 replace hB := qab (qab hB hb1) hb2
 replace hsz := Nat.le_trans hsz (Nat.le_trans hb1.size hb2.size)
 clear hb1 hb2
 obtain ⟨LED, HLED⟩ : ∃ LED, (hl' && decide (1 ≤ bl)) = LED := ⟨_, rfl⟩
 rw [HLED] at HLV HTV
 go_cut [26] (fun t wc => t = .bool LED ∧ wc = w2)
 case first =>
  exact zP45x06
 case rest =>
 obtain ⟨rfl, rfl⟩ := hcut
 clear HLED
 apply_assumption
 go_cut [8, 9] (fun a b wd => a = .int .i64 LV ∧ b = .int .u64 TV ∧ wd = wc)
 case first =>
  exact zP45x07
 case rest =>
 obtain ⟨rfl, rfl, rfl⟩ := hcut
 clear HLV HTV g4
 obtain ⟨c0, c1, c2, c3, c4, c5, c6, c7, c8⟩ := qal g0
 obtain ⟨d0, d1, d2⟩ := qan g1
 go_wp2_with fail
 refine (HFR.out _ hB).mono ?_
 rintro e w3 ⟨p, cap, rfl, hps, hb3⟩
 have hb4 := qac w3 (.cells #[.int .i64 l, .int .i64 k, .int .u64 o, .bool u, .bool r, .bool y, .bool true, .int .i64 t, .int .i64 0, .int .i64 0, .slice p LW.length cap] 138)
 have g4 := heap_alloc_new w3 (.cells #[.int .i64 l, .int .i64 k, .int .u64 o, .bool u, .bool r, .bool y, .bool true, .int .i64 t, .int .i64 0, .int .i64 0, .slice p LW.length cap] 138)
 replace hps := hps.below hb4
 clear HFR c0 c1 c2 c3 c4 c5 c6 c7 c8 d0 d1 d2
 go_upto_region 8 with fail
 generalize w3.alloc (.cells #[.int .i64 l, .int .i64 k, .int .u64 o, .bool u, .bool r, .bool y, .bool true, .int .i64 t, .int .i64 0, .int .i64 0, .slice p LW.length cap] 138) = w4 at *
 replace g0 := qaa hb4 (qaa hb3 g0)
 replace g1 := qaa hb4 (qaa hb3 g1)
 replace g2 := qaa hb4 (qaa hb3 g2)
 replace g3 := qaa hb4 (qaa hb3 g3)
 replace hB := qab (qab hB hb3) hb4
 replace hsz := Nat.le_trans hsz hb3.size
 replace HY := Hid.mk (HY.out.later hB)
 clear hb3 hb4
 generalize w3.heap.size = KL at *
 have hKL := qag g4
 obtain ⟨c0, c1, c2, c3, c4, c5, c6, c7, c8⟩ := qal g0
 obtain ⟨d0, d1, d2⟩ := qan g1
 obtain ⟨m0, m1, m2, m3, m4, m5, m6, m7, m8, m9, m10⟩ := qbb g4
 go_upto_region 11 with fail
 have k0 := c0
 have k1 := c1
 have k2 := c2
 have k3 := c4
 have k4 := c5
 have k5 := c6
 have k6 := c7
 have k7 := c8
 have k8 := m0
 have k9 := m1
 have k10 := m2
 have k11 := m3
 have k12 := m4
 have k13 := m5
 have k14 := m6
 have k15 := m7
 have k16 := m8
 have k17 := m9
 have k18 := m10
 have kx := c3
 clear c0 c1 c2 c4 c5 c6 c7 c8 m0 m1 m2 m3 m4 m5 m6 m7 m8 m9 m10 c3 d0 d1 d2
 obtain ⟨k0, k1, k2, k3, k4⟩ := cl5 (Below.refl _ w4).drew k0 k1 k2 k3 k4
 obtain ⟨k5, k6, k7, k8, k9⟩ := cl5 (Below.refl _ w4).drew k5 k6 k7 k8 k9
 obtain ⟨k10, k11, k12, k13, k14⟩ := cl5 (Below.refl _ w4).drew k10 k11 k12 k13 k14
 obtain ⟨k15, k16, k17, k18⟩ := cl4 (Below.refl _ w4).drew k15 k16 k17 k18
 refine hd19 k0 k1 k2 k3 k4 k5 k6 k7 k8 k9 k10 k11 k12 k13 k14 k15 k16 k17 k18 (h := fun hHeld => ?_)
 obtain ⟨g0, g1, g2, g3, g4⟩ := bl5 (Below.refl _ w4).drew g0 g1 g2 g3 g4
 replace HY := Hid.mk (HY.out.later (Below.refl _ w4).drew)
 replace hB := qab hB (Below.refl _ w4).drew
 replace kx := cell_later (Below.refl _ w4).drew kx
 generalize w4.drew = Wd at *
 exact zP45x12
theorem zP45x11 {Z : Prop} (z : Z := by
 replace g0 := qaa hb4 (qaa hb3 g0)
 replace g1 := qaa hb4 (qaa hb3 g1)
 replace g2 := qaa hb4 (qaa hb3 g2)
 replace g3 := qaa hb4 (qaa hb3 g3)
 replace hB := qab (qab hB hb3) hb4
 replace hsz := Nat.le_trans hsz hb3.size
 replace HY := Hid.mk (HY.out.later hB)
 clear hb3 hb4
 generalize w3.heap.size = KL at *
 have hKL := qag g4
 obtain ⟨c0, c1, c2, c3, c4, c5, c6, c7, c8⟩ := qal g0
 obtain ⟨d0, d1, d2⟩ := qan g1
 obtain ⟨m0, m1, m2, m3, m4, m5, m6, m7, m8, m9, m10⟩ := qbb g4
 go_wp2_with fail
 refine (HWK.out _ hB _ p cap hps).mono ?_
 rintro e w5 ⟨kk, a5, c5', rfl, hy5, hb5⟩
 obtain ⟨g0, g1, g2, g3, g4⟩ := bl5 hb5 g0 g1 g2 g3 g4
 replace hy5 := hy5.back (Nat.le_trans hsz (Nat.le_of_lt hKL))
 replace hB := qab hB hb5
 replace hKL := qag g4
 clear hb5 HY HWK c0 c1 c2 c3 c4 c5 c6 c7 c8 d0 d1 d2 m0 m1 m2 m3 m4 m5 m6 m7 m8 m9 m10 hps
 have HY := Hid.mk hy5
 clear hy5
 go_wp2_with
  first
  | (refine qad rfl 31 _ _ rfl rfl w.heap.size 4 _ #[.slice a5 K'.length c5'] rfl rfl rfl 34 _ g0 (show 4 + 1 ≤ 9 by decide) info_ks (by simp [Value.oneCell']) #[.int .u64 S, vm, .int .i64 most, .slice aE s.E.length cE, .slice a5 K'.length c5', .bool true, .int .u64 R, .int .i64 I, .slice aP s.P.length cP] rfl ?_
     intro w6 hrq htq
     replace HY := Hid.mk (HY.out.turn htq (fun i hi c => by have c' : i = w.heap.size := c; rcases hi with hi | hi <;> omega))
     replace g0 := hrq
     obtain ⟨g1, g2, g3, g4⟩ := bt4 htq g1 g2 g3 g4
     replace hB := qaf hB htq (by omega)
     clear hrq htq
     obtain ⟨c0, c1, c2, c3, c4, c5, c6, c7, c8⟩ := qal g0
     obtain ⟨d0, d1, d2⟩ := qan g1
     obtain ⟨m0, m1, m2, m3, m4, m5, m6, m7, m8, m9, m10⟩ := qbb g4)
  | fail
 go_upto_region 12 with fail
 clear c0 c1 c2 c3 c4 c5 c6 c7 c8 d0 d1 d2 m0 m1 m2 m3 m4 m5 m6 m7 m8 m9 m10
 have hl4 := qag g4
 obtain ⟨k0, k1, k2, k3, k4, k5, k6, k7, k8⟩ := qal g0
 obtain ⟨k9, k10, k11, k12, k13, k14, k15, k16, k17, k18, k19⟩ := qbb g4
 obtain ⟨k0, k1, k2, k3, k4⟩ := cl5 (Below.refl _ w6).drew k0 k1 k2 k3 k4
 obtain ⟨k5, k6, k7, k8, k9⟩ := cl5 (Below.refl _ w6).drew k5 k6 k7 k8 k9
 obtain ⟨k10, k11, k12, k13, k14⟩ := cl5 (Below.refl _ w6).drew k10 k11 k12 k13 k14
 obtain ⟨k15, k16, k17, k18, k19⟩ := cl5 (Below.refl _ w6).drew k15 k16 k17 k18 k19
 refine hd20 k0 k1 k2 k3 k4 k5 k6 k7 k8 k9 k10 k11 k12 k13 k14 k15 k16 k17 k18 k19 (h := fun hHeld => ?_)
 obtain ⟨g0, g1, g2, g3, g4⟩ := bl5 (Below.refl _ w6).drew g0 g1 g2 g3 g4
 replace HY := Hid.mk (HY.out.later (Below.refl _ w6).drew)
 replace hB := qab hB (Below.refl _ w6).drew
 generalize w6.drew = Wd at *
 refine tk 0 84 (h := ?_)
 refine tk 1 85 (h := ?_)
 refine rd1 2 (h := fun K hK => ?_)
 refine qah rfl rfl 34 _ _ rfl (w.heap.size + 1 + 1) 0 _ #[.int .u64 S, vm, .int .i64 most, .slice aE s.E.length cE, .slice a5 K'.length c5', .bool true, .int .u64 R, .int .i64 I, .slice aP s.P.length cP] rfl rfl rfl 34 _ g2 (show 0 + 9 ≤ 9 by decide) qao (all_oneCell_toArray (fun u hu => by simp only [List.mem_cons, List.not_mem_nil, or_false] at hu; rcases hu with rfl | rfl | rfl | rfl | rfl | rfl | rfl | rfl | rfl <;> first | rfl | exact HV1.out)) #[.int .u64 S, vm, .int .i64 most, .slice aE s.E.length cE, .slice a5 K'.length c5', .bool true, .int .u64 R, .int .i64 I, .slice aP s.P.length cP] rfl ?_
 first
 | exact zP45x03
 | exact zP45x05) : Z := z
theorem ywalk_1n (h : YOk w B m s d) (hf : Fm S s.f) (hw : Wf most s) (hm : m < 1000000) (R I : Nat) (hg : s.rg = some (R, I)) (va : Nat) (hva : va < 18446744073709551616) (hn : Hn) (hk : hn.keep = true) (hfl : hn.fill = false) :
  Calls Tryz.prog 56 #[.agg (d.cs S most s), .int .u64 va, hn.v] w fun r w' => ∃ d' v, r = .returned (.tuple #[.agg (d'.cs S most (wdS S most s R I va hn)), .agg (lC (lfR (wkO S s R I va hn).2) (ftR (wkO S s R I va hn).2) v)]) ∧ v.oneCell' = true ∧ YOk w' (fun g => B g ∨ w.heap.size ≤ g) m (wdS S most s R I va hn) d' ∧ Below w.heap.size w w' := by
 obtain ⟨hR, -, hI⟩ := hw.rr R I hg
 have e1 : R = d.R := (h.rg R I hg).1.symm
 have e2 : I = d.I := (h.rg R I hg).2.symm
 have e3 : true = d.on := by have := h.on; rw [hg] at this; exact this.symm
 have HFR := pfr h hf hw hm R I hg va hn
 have HBE := pbe h hw I va hva
 have HWK : Hid (∀ W (_ : Below w.heap.size w W) (B' : Nat → Prop) p cap, Psl W B' (.slice p (wkO S s R I va hn).1.length cap) (wkO S s R I va hn).1 → Calls Tryz.prog 92 #[.slice d.aK s.K.length d.cK, .int .i64 most, .int .i64 I, .int .u64 va, .int .i64 (stL s I va hn), .slice p (wkO S s R I va hn).1.length cap] W fun r w' => ∃ (k : Int) (a' : Option Addr) (c' : Nat), r = .returned (.tuple #[.slice a' (kK S most s R I va hn).length c', .int .i64 k]) ∧
   YOk w' (fun g => ((B g ∧ g < w.heap.size) ∨ w.heap.size + 1 + 1 + 1 + 1 ≤ g) ∨ W.heap.size ≤ g) m { s with K := kK S most s R I va hn } { d with aK := a', cK := c' } ∧ Below W.heap.size W w') := Hid.mk (fun W hb B' p cap hp => by
  have e : kK S most s R I va hn = TR.wdL most (I : Int) va (stL s I va hn) (fun j => (wkO S s R I va hn).1[j]!.2) s.K (tkn (stL s I va hn) (wkO S s R I va hn).1) := by unfold kK; rw [if_pos hk]
  rw [e]
  exact ywalked_c ((h.tight.later hb).mono (fun _ hi => Or.inl hi)) hf hw I va hva (stL s I va hn) (stT s R I va hn) p cap hp)
 have HEE : Hid (kE S most s R I va hn = s.E) := by show _ = _; unfold kE; rw [if_neg (by rw [hfl, Bool.false_and]; decide)]
 have HWS : Hid (wdS S most s R I va hn = { s with E := kE S most s R I va hn, K := kK S most s R I va hn }) := rfl
 have HLV : Hid (stL s I va hn = if (hn.led && decide (1 ≤ (bst s I va).lv)) = true then (bst s I va).lv else 0) := rfl
 have HTV : Hid (stT s R I va hn = if (hn.led && decide (1 ≤ (bst s I va).lv)) = true then (bst s I va).tb else R) := rfl
 have HY : Hid (YOk w (fun g => (B g ∧ g < w.heap.size) ∨ w.heap.size + 1 + 1 + 1 + 1 ≤ g) m s d) := Hid.mk (h.tight.mono (fun _ hi => Or.inl hi))
 have HV1 := Hid.mk h.vm1
 clear h hf hw hva hR hI hg
 obtain ⟨vm, L, aE, cE, aK, cK, aP, cP, on', R', I'⟩ := d
 dsimp only at e1 e2 e3
 subst e1 e2 e3
 generalize wdS S most s R I va hn = s' at *
 rw [HEE.out] at HWS
 generalize kK S most s R I va hn = K' at *
 clear HEE
 generalize kE S most s R I va hn = E' at *
 generalize wkO S s R I va hn = wr at *
 generalize stL s I va hn = LV at *
 generalize stT s R I va hn = TV at *
 generalize bst s I va = be at *
 obtain ⟨ba, bv, bl, bt⟩ := be
 generalize lfR wr.2 = lf at *
 generalize ftR wr.2 = ft at *
 obtain ⟨LW, r0⟩ := wr
 obtain ⟨l, k, o, u, r, y, q, t⟩ := lf
 obtain ⟨f1, f2⟩ := ft
 obtain ⟨hf', hl', hk'⟩ := hn
 simp only at hk hfl
 subst hk hfl
 obtain ⟨W4, hW4, g0, g1, g2, g3, hB, hsz⟩ := hp4 w (.cells #[.int .u64 S, vm, .int .i64 most, .slice aE s.E.length cE, .slice aK s.K.length cK, .bool true, .int .u64 R, .int .i64 I, .slice aP s.P.length cP] 34) (.cells #[.bool false, .bool hl', .bool true] 64) (.cells #[.int .u64 0, .slice none 0 0, .int .i64 0, .slice none 0 0, .slice none 0 0, .bool false, .int .u64 0, .int .i64 0, .slice none 0 0] 34) (.cells #[.int .i64 0, .int .i64 0, .int .u64 0, .bool false, .bool false, .bool false, .bool false, .int .i64 0, .int .i64 0, .int .i64 0, .slice none 0 0] 138)
 exact zP45x21
theorem ywalk_1f (h : YOk w B m s d) (hf : Fm S s.f) (hw : Wf most s) (hm : m < 1000000) (R I : Nat) (hg : s.rg = some (R, I)) (va : Nat) (hva : va < 18446744073709551616) (hn : Hn) (hk : hn.keep = true) (hfl : hn.fill = true) (hu : (lfR (wkO S s R I va hn).2).s = false) (hft : (ftR (wkO S s R I va hn).2).1 ≠ 0) :
  Calls Tryz.prog 56 #[.agg (d.cs S most s), .int .u64 va, hn.v] w fun r w' => ∃ d' v, r = .returned (.tuple #[.agg (d'.cs S most (wdS S most s R I va hn)), .agg (lC (lfR (wkO S s R I va hn).2) (ftR (wkO S s R I va hn).2) v)]) ∧ v.oneCell' = true ∧ YOk w' (fun g => B g ∨ w.heap.size ≤ g) m (wdS S most s R I va hn) d' ∧ Below w.heap.size w w' := by
 obtain ⟨hR, -, hI⟩ := hw.rr R I hg
 have e1 : R = d.R := (h.rg R I hg).1.symm
 have e2 : I = d.I := (h.rg R I hg).2.symm
 have e3 : true = d.on := by have := h.on; rw [hg] at this; exact this.symm
 have HFR := pfr h hf hw hm R I hg va hn
 have HBE := pbe h hw I va hva
 have HWK : Hid (∀ W (_ : Below w.heap.size w W) (B' : Nat → Prop) p cap, Psl W B' (.slice p (wkO S s R I va hn).1.length cap) (wkO S s R I va hn).1 → Calls Tryz.prog 92 #[.slice d.aK s.K.length d.cK, .int .i64 most, .int .i64 I, .int .u64 va, .int .i64 (stL s I va hn), .slice p (wkO S s R I va hn).1.length cap] W fun r w' => ∃ (k : Int) (a' : Option Addr) (c' : Nat), r = .returned (.tuple #[.slice a' (kK S most s R I va hn).length c', .int .i64 k]) ∧
   YOk w' (fun g => ((B g ∧ g < w.heap.size) ∨ w.heap.size + 1 + 1 + 1 + 1 ≤ g) ∨ W.heap.size ≤ g) m { s with K := kK S most s R I va hn } { d with aK := a', cK := c' } ∧ Below W.heap.size W w') := Hid.mk (fun W hb B' p cap hp => by
  have e : kK S most s R I va hn = TR.wdL most (I : Int) va (stL s I va hn) (fun j => (wkO S s R I va hn).1[j]!.2) s.K (tkn (stL s I va hn) (wkO S s R I va hn).1) := by unfold kK; rw [if_pos hk]
  rw [e]
  exact ywalked_c ((h.tight.later hb).mono (fun _ hi => Or.inl hi)) hf hw I va hva (stL s I va hn) (stT s R I va hn) p cap hp)
 have HEE : Hid (kE S most s R I va hn = s.E) := by show _ = _; unfold kE; rw [if_neg (by rw [hfl, hu]; decide)]
 have HWS : Hid (wdS S most s R I va hn = { s with E := kE S most s R I va hn, K := kK S most s R I va hn }) := rfl
 have HLV : Hid (stL s I va hn = if (hn.led && decide (1 ≤ (bst s I va).lv)) = true then (bst s I va).lv else 0) := rfl
 have HTV : Hid (stT s R I va hn = if (hn.led && decide (1 ≤ (bst s I va).lv)) = true then (bst s I va).tb else R) := rfl
 have HY : Hid (YOk w (fun g => (B g ∧ g < w.heap.size) ∨ w.heap.size + 1 + 1 + 1 + 1 ≤ g) m s d) := Hid.mk (h.tight.mono (fun _ hi => Or.inl hi))
 have HV1 := Hid.mk h.vm1
 clear h hf hw hva hR hI hg
 obtain ⟨vm, L, aE, cE, aK, cK, aP, cP, on', R', I'⟩ := d
 dsimp only at e1 e2 e3
 subst e1 e2 e3
 generalize wdS S most s R I va hn = s' at *
 rw [HEE.out] at HWS
 generalize kK S most s R I va hn = K' at *
 clear HEE
 generalize kE S most s R I va hn = E' at *
 generalize wkO S s R I va hn = wr at *
 generalize stL s I va hn = LV at *
 generalize stT s R I va hn = TV at *
 generalize bst s I va = be at *
 obtain ⟨ba, bv, bl, bt⟩ := be
 generalize lfR wr.2 = lf at *
 generalize ftR wr.2 = ft at *
 obtain ⟨LW, r0⟩ := wr
 obtain ⟨l, k, o, u, r, y, q, t⟩ := lf
 obtain ⟨f1, f2⟩ := ft
 obtain ⟨hf', hl', hk'⟩ := hn
 simp only at hk hfl hu hft
 subst hk hfl hu
 obtain ⟨W4, hW4, g0, g1, g2, g3, hB, hsz⟩ := hp4 w (.cells #[.int .u64 S, vm, .int .i64 most, .slice aE s.E.length cE, .slice aK s.K.length cK, .bool true, .int .u64 R, .int .i64 I, .slice aP s.P.length cP] 34) (.cells #[.bool true, .bool hl', .bool true] 64) (.cells #[.int .u64 0, .slice none 0 0, .int .i64 0, .slice none 0 0, .slice none 0 0, .bool false, .int .u64 0, .int .i64 0, .slice none 0 0] 34) (.cells #[.int .i64 0, .int .i64 0, .int .u64 0, .bool false, .bool false, .bool false, .bool false, .int .i64 0, .int .i64 0, .int .i64 0, .slice none 0 0] 138)
 replace hsz := Nat.le_of_eq hsz.symm
 go_enter Tryz.func56, Tryz.ntmps56
 go_upto_region 1 with fail
 (try rw [hW4])
 clear hW4
 obtain ⟨c0, c1, c2, c3, c4, c5, c6, c7, c8⟩ := qal g0
 obtain ⟨d0, d1, d2⟩ := qan g1
 go_wp2_with fail
 refine (HBE.out _ hB).mono ?_
 rintro e w1 ⟨rfl, hb1⟩
 have hb2 := qac w1 (.cells #[.int .i64 ba, .int .u64 bv, .int .i64 bl, .int .u64 bt] 97)
 have g4 := heap_alloc_new w1 (.cells #[.int .i64 ba, .int .u64 bv, .int .i64 bl, .int .u64 bt] 97)
 clear HBE c0 c1 c2 c3 c4 c5 c6 c7 c8 d0 d1 d2
 go_upto_region 4 with fail
 generalize w1.alloc (.cells #[.int .i64 ba, .int .u64 bv, .int .i64 bl, .int .u64 bt] 97) = w2 at *
 replace g0 := qaa hb2 (qaa hb1 g0)
 replace g1 := qaa hb2 (qaa hb1 g1)
 replace g2 := qaa hb2 (qaa hb1 g2)
 replace g3 := qaa hb2 (qaa hb1 g3)
 replace hB := qab (qab hB hb1) hb2
 replace hsz := Nat.le_trans hsz (Nat.le_trans hb1.size hb2.size)
 clear hb1 hb2
 obtain ⟨LED, HLED⟩ : ∃ LED, (hl' && decide (1 ≤ bl)) = LED := ⟨_, rfl⟩
 rw [HLED] at HLV HTV
 go_cut [26] (fun t wc => t = .bool LED ∧ wc = w2)
 case first =>
  exact zP45x06
 case rest =>
 obtain ⟨rfl, rfl⟩ := hcut
 clear HLED
 apply_assumption
 go_cut [8, 9] (fun a b wd => a = .int .i64 LV ∧ b = .int .u64 TV ∧ wd = wc)
 case first =>
  exact zP45x07
 case rest =>
 obtain ⟨rfl, rfl, rfl⟩ := hcut
 clear HLV HTV g4
 obtain ⟨c0, c1, c2, c3, c4, c5, c6, c7, c8⟩ := qal g0
 obtain ⟨d0, d1, d2⟩ := qan g1
 go_wp2_with fail
 refine (HFR.out _ hB).mono ?_
 rintro e w3 ⟨p, cap, rfl, hps, hb3⟩
 have hb4 := qac w3 (.cells #[.int .i64 l, .int .i64 k, .int .u64 o, .bool u, .bool r, .bool y, .bool false, .int .i64 t, .int .i64 f1, .int .i64 f2, .slice p LW.length cap] 138)
 have g4 := heap_alloc_new w3 (.cells #[.int .i64 l, .int .i64 k, .int .u64 o, .bool u, .bool r, .bool y, .bool false, .int .i64 t, .int .i64 f1, .int .i64 f2, .slice p LW.length cap] 138)
 replace hps := hps.below hb4
 clear HFR c0 c1 c2 c3 c4 c5 c6 c7 c8 d0 d1 d2
 go_upto_region 8 with fail
 generalize w3.alloc (.cells #[.int .i64 l, .int .i64 k, .int .u64 o, .bool u, .bool r, .bool y, .bool false, .int .i64 t, .int .i64 f1, .int .i64 f2, .slice p LW.length cap] 138) = w4 at *
 replace g0 := qaa hb4 (qaa hb3 g0)
 replace g1 := qaa hb4 (qaa hb3 g1)
 replace g2 := qaa hb4 (qaa hb3 g2)
 replace g3 := qaa hb4 (qaa hb3 g3)
 replace hB := qab (qab hB hb3) hb4
 replace hsz := Nat.le_trans hsz hb3.size
 replace HY := Hid.mk (HY.out.later hB)
 clear hb3 hb4
 generalize w3.heap.size = KL at *
 have hKL := qag g4
 obtain ⟨c0, c1, c2, c3, c4, c5, c6, c7, c8⟩ := qal g0
 obtain ⟨d0, d1, d2⟩ := qan g1
 obtain ⟨m0, m1, m2, m3, m4, m5, m6, m7, m8, m9, m10⟩ := qbb g4
 go_wp2_with fail
 refine (HWK.out _ hB _ p cap hps).mono ?_
 rintro e w5 ⟨kk, a5, c5', rfl, hy5, hb5⟩
 obtain ⟨g0, g1, g2, g3, g4⟩ := bl5 hb5 g0 g1 g2 g3 g4
 replace hy5 := hy5.back (Nat.le_trans hsz (Nat.le_of_lt hKL))
 replace hB := qab hB hb5
 replace hKL := qag g4
 clear hb5 HY HWK c0 c1 c2 c3 c4 c5 c6 c7 c8 d0 d1 d2 m0 m1 m2 m3 m4 m5 m6 m7 m8 m9 m10 hps
 have HY := Hid.mk hy5
 clear hy5
 go_wp2_with
  first
  | (refine qad rfl 31 _ _ rfl rfl w.heap.size 4 _ #[.slice a5 K'.length c5'] rfl rfl rfl 34 _ g0 (show 4 + 1 ≤ 9 by decide) info_ks (by simp [Value.oneCell']) #[.int .u64 S, vm, .int .i64 most, .slice aE s.E.length cE, .slice a5 K'.length c5', .bool true, .int .u64 R, .int .i64 I, .slice aP s.P.length cP] rfl ?_
     intro w6 hrq htq
     replace HY := Hid.mk (HY.out.turn htq (fun i hi c => by have c' : i = w.heap.size := c; rcases hi with hi | hi <;> omega))
     replace g0 := hrq
     obtain ⟨g1, g2, g3, g4⟩ := bt4 htq g1 g2 g3 g4
     replace hB := qaf hB htq (by omega)
     clear hrq htq
     obtain ⟨c0, c1, c2, c3, c4, c5, c6, c7, c8⟩ := qal g0
     obtain ⟨d0, d1, d2⟩ := qan g1
     obtain ⟨m0, m1, m2, m3, m4, m5, m6, m7, m8, m9, m10⟩ := qbb g4)
  | fail
 have hft2 : (f1 == 0) = false := by rw [beq_eq_false_iff_ne]; exact hft
 go_upto_region 12 with fail
 clear c0 c1 c2 c3 c4 c5 c6 c7 c8 d0 d1 d2 m0 m1 m2 m3 m4 m5 m6 m7 m8 m9 m10
 have hl4 := qag g4
 obtain ⟨k0, k1, k2, k3, k4, k5, k6, k7, k8⟩ := qal g0
 obtain ⟨k9, k10, k11, k12, k13, k14, k15, k16, k17, k18, k19⟩ := qbb g4
 obtain ⟨k0, k1, k2, k3, k4⟩ := cl5 (Below.refl _ w6).drew k0 k1 k2 k3 k4
 obtain ⟨k5, k6, k7, k8, k9⟩ := cl5 (Below.refl _ w6).drew k5 k6 k7 k8 k9
 obtain ⟨k10, k11, k12, k13, k14⟩ := cl5 (Below.refl _ w6).drew k10 k11 k12 k13 k14
 obtain ⟨k15, k16, k17, k18, k19⟩ := cl5 (Below.refl _ w6).drew k15 k16 k17 k18 k19
 refine hd20 k0 k1 k2 k3 k4 k5 k6 k7 k8 k9 k10 k11 k12 k13 k14 k15 k16 k17 k18 k19 (h := fun hHeld => ?_)
 obtain ⟨g0, g1, g2, g3, g4⟩ := bl5 (Below.refl _ w6).drew g0 g1 g2 g3 g4
 replace HY := Hid.mk (HY.out.later (Below.refl _ w6).drew)
 replace hB := qab hB (Below.refl _ w6).drew
 generalize w6.drew = Wd at *
 refine tk 0 84 (h := ?_)
 refine tk 1 85 (h := ?_)
 refine rd1 2 (h := fun K hK => ?_)
 refine qah rfl rfl 34 _ _ rfl (w.heap.size + 1 + 1) 0 _ #[.int .u64 S, vm, .int .i64 most, .slice aE s.E.length cE, .slice a5 K'.length c5', .bool true, .int .u64 R, .int .i64 I, .slice aP s.P.length cP] rfl rfl rfl 34 _ g2 (show 0 + 9 ≤ 9 by decide) qao (all_oneCell_toArray (fun u hu => by simp only [List.mem_cons, List.not_mem_nil, or_false] at hu; rcases hu with rfl | rfl | rfl | rfl | rfl | rfl | rfl | rfl | rfl <;> first | rfl | exact HV1.out)) #[.int .u64 S, vm, .int .i64 most, .slice aE s.E.length cE, .slice a5 K'.length c5', .bool true, .int .u64 R, .int .i64 I, .slice aP s.P.length cP] rfl ?_
 exact zP45x04
theorem ywalk_1u (h : YOk w B m s d) (hf : Fm S s.f) (hw : Wf most s) (hm : m < 1000000) (R I : Nat) (hg : s.rg = some (R, I)) (va : Nat) (hva : va < 18446744073709551616) (hn : Hn) (hk : hn.keep = true) (hfl : hn.fill = true) (hu : (lfR (wkO S s R I va hn).2).s = false) (hft : (ftR (wkO S s R I va hn).2).1 = 0) :
  Calls Tryz.prog 56 #[.agg (d.cs S most s), .int .u64 va, hn.v] w fun r w' => ∃ d' v, r = .returned (.tuple #[.agg (d'.cs S most (wdS S most s R I va hn)), .agg (lC (lfR (wkO S s R I va hn).2) (ftR (wkO S s R I va hn).2) v)]) ∧ v.oneCell' = true ∧ YOk w' (fun g => B g ∨ w.heap.size ≤ g) m (wdS S most s R I va hn) d' ∧ Below w.heap.size w w' := by
 obtain ⟨hR, -, hI⟩ := hw.rr R I hg
 have e1 : R = d.R := (h.rg R I hg).1.symm
 have e2 : I = d.I := (h.rg R I hg).2.symm
 have e3 : true = d.on := by have := h.on; rw [hg] at this; exact this.symm
 have HFR := pfr h hf hw hm R I hg va hn
 have HBE := pbe h hw I va hva
 have HWK : Hid (∀ W (_ : Below w.heap.size w W) (B' : Nat → Prop) p cap, Psl W B' (.slice p (wkO S s R I va hn).1.length cap) (wkO S s R I va hn).1 → Calls Tryz.prog 92 #[.slice d.aK s.K.length d.cK, .int .i64 most, .int .i64 I, .int .u64 va, .int .i64 (stL s I va hn), .slice p (wkO S s R I va hn).1.length cap] W fun r w' => ∃ (k : Int) (a' : Option Addr) (c' : Nat), r = .returned (.tuple #[.slice a' (kK S most s R I va hn).length c', .int .i64 k]) ∧
   YOk w' (fun g => ((B g ∧ g < w.heap.size) ∨ w.heap.size + 1 + 1 + 1 + 1 ≤ g) ∨ W.heap.size ≤ g) m { s with K := kK S most s R I va hn } { d with aK := a', cK := c' } ∧ Below W.heap.size W w') := Hid.mk (fun W hb B' p cap hp => by
  have e : kK S most s R I va hn = TR.wdL most (I : Int) va (stL s I va hn) (fun j => (wkO S s R I va hn).1[j]!.2) s.K (tkn (stL s I va hn) (wkO S s R I va hn).1) := by unfold kK; rw [if_pos hk]
  rw [e]
  exact ywalked_c ((h.tight.later hb).mono (fun _ hi => Or.inl hi)) hf hw I va hva (stL s I va hn) (stT s R I va hn) p cap hp)
 have HEE : Hid (kE S most s R I va hn = s.E) := by show _ = _; unfold kE; rw [if_neg (by rw [hfl, hu]; decide)]
 have HWS : Hid (wdS S most s R I va hn = { s with E := kE S most s R I va hn, K := kK S most s R I va hn }) := rfl
 have HLV : Hid (stL s I va hn = if (hn.led && decide (1 ≤ (bst s I va).lv)) = true then (bst s I va).lv else 0) := rfl
 have HTV : Hid (stT s R I va hn = if (hn.led && decide (1 ≤ (bst s I va).lv)) = true then (bst s I va).tb else R) := rfl
 have HY : Hid (YOk w (fun g => (B g ∧ g < w.heap.size) ∨ w.heap.size + 1 + 1 + 1 + 1 ≤ g) m s d) := Hid.mk (h.tight.mono (fun _ hi => Or.inl hi))
 have HV1 := Hid.mk h.vm1
 clear h hf hw hva hR hI hg
 obtain ⟨vm, L, aE, cE, aK, cK, aP, cP, on', R', I'⟩ := d
 dsimp only at e1 e2 e3
 subst e1 e2 e3
 generalize wdS S most s R I va hn = s' at *
 rw [HEE.out] at HWS
 generalize kK S most s R I va hn = K' at *
 clear HEE
 generalize kE S most s R I va hn = E' at *
 generalize wkO S s R I va hn = wr at *
 generalize stL s I va hn = LV at *
 generalize stT s R I va hn = TV at *
 generalize bst s I va = be at *
 obtain ⟨ba, bv, bl, bt⟩ := be
 generalize lfR wr.2 = lf at *
 generalize ftR wr.2 = ft at *
 obtain ⟨LW, r0⟩ := wr
 obtain ⟨l, k, o, u, r, y, q, t⟩ := lf
 obtain ⟨f1, f2⟩ := ft
 obtain ⟨hf', hl', hk'⟩ := hn
 simp only at hk hfl hu hft
 subst hk hfl hu hft
 obtain ⟨W4, hW4, g0, g1, g2, g3, hB, hsz⟩ := hp4 w (.cells #[.int .u64 S, vm, .int .i64 most, .slice aE s.E.length cE, .slice aK s.K.length cK, .bool true, .int .u64 R, .int .i64 I, .slice aP s.P.length cP] 34) (.cells #[.bool true, .bool hl', .bool true] 64) (.cells #[.int .u64 0, .slice none 0 0, .int .i64 0, .slice none 0 0, .slice none 0 0, .bool false, .int .u64 0, .int .i64 0, .slice none 0 0] 34) (.cells #[.int .i64 0, .int .i64 0, .int .u64 0, .bool false, .bool false, .bool false, .bool false, .int .i64 0, .int .i64 0, .int .i64 0, .slice none 0 0] 138)
 exact zP45x22
theorem zP45x02 {Z : Prop} (z : Z := by
 refine rd1 15 (h := fun K hK => ?_)
 go_simp
 have hs8 := qag g4
 refine (yfill_c HY.out HEL.out.2 HEL.out.1 ⟨(I : Int), qbn va l, l, k, o, u, r, y, true, t⟩ HEO.out).mono ?_
 rintro e w8 ⟨a8, c8z, rfl, hy8, hb8⟩
 go_wp2_with fail
 replace hy8 := hy8.back (by omega)
 obtain ⟨k0, k1, k2, k3, k4⟩ := cl5 hb8 k0 k1 k2 k3 k4
 obtain ⟨k5, k6, k7, k8, k9⟩ := cl5 hb8 k5 k6 k7 k8 k9
 obtain ⟨k10, k11, k12, k13, k14⟩ := cl5 hb8 k10 k11 k12 k13 k14
 obtain ⟨k15, k16, k17, k18⟩ := cl4 hb8 k15 k16 k17 k18
 obtain ⟨g0, g1, g2, g3, g4⟩ := bl5 hb8 g0 g1 g2 g3 g4
 replace hB := qab hB hb8
 clear HY hb8 kx
 have HY := Hid.mk hy8
 clear hy8
 refine hK.out _ _ ⟨k0, k1, k2, k3, k4, k5, k6, k7, k8, k9, k10, k11, k12, k13, k14, k15, k16, k17, k18⟩ (fun hHeld2 => ?_)
 clear hK
 try simp only [Act.put, sq]
 refine tk 16 83 (h := ?_)
 refine rd1 17 (h := fun K hK => ?_)
 refine qah rfl rfl 30 _ _ rfl (w.heap.size) 3 _ #[.slice a8 (TB.qbt s.E most ⟨(I : Int), qbn va l, l, k, o, u, r, y, true, t⟩).length c8z] rfl rfl rfl 34 _ g0 (show 3 + 1 ≤ 9 by decide) info_es (by simp [Value.oneCell']) #[.int .u64 S, vm, .int .i64 most, .slice a8 (TB.qbt s.E most ⟨(I : Int), qbn va l, l, k, o, u, r, y, true, t⟩).length c8z, .slice a5 K'.length c5', .bool true, .int .u64 R, .int .i64 I, .slice aP s.P.length cP] rfl ?_
 intro ws9 hrq htq
 obtain ⟨g1, g2, g3, g4⟩ := bt4 htq g1 g2 g3 g4
 replace g0 := hrq
 have hl4 := qag g4
 obtain ⟨c0, c1, c2, c3, c4, c5, c6, c7, c8⟩ := qal hrq
 replace k0 := c0
 replace k1 := c1
 replace k2 := c2
 replace k3 := c4
 replace k4 := c5
 replace k5 := c6
 replace k6 := c7
 replace k7 := c8
 obtain ⟨k8, k9, k10, k11, k12⟩ := tc5 htq k8 k9 k10 k11 k12
 obtain ⟨k13, k14, k15⟩ := tc3 htq k13 k14 k15
 obtain ⟨k16, k17, k18⟩ := tc3 htq k16 k17 k18
 clear c0 c1 c2 c3 c4 c5 c6 c7 c8
 replace HY := Hid.mk (HY.out.turn htq (fun i hi c => by have c' : i = w.heap.size := c; rcases hi with hi | hi <;> omega))
 replace hB := qaf hB htq (by omega)
 refine hK.out _ _ ⟨k0, k1, k2, k3, k4, k5, k6, k7, k8, k9, k10, k11, k12, k13, k14, k15, k16, k17, k18⟩ (fun hHelds9 => ?_)
 clear hK hrq
 try simp only [Act.put, sq]
 refine wpAnyH_done (by kernel_rfl) ?_ _
 refine NoPanic.normal ?_
 clear hl4 k0 k1 k2 k3 k4 k5 k6 k7 k8 k9 k10 k11 k12 k13 k14 k15 k16 k17 k18
 go_upto_region 12 with fail
 have hl4 := qag g4
 obtain ⟨k0, k1, k2, k3, k4, k5, k6, k7, k8⟩ := qal g0
 obtain ⟨k9, k10, k11, k12, k13, k14, k15, k16, k17, k18, k19⟩ := qbb g4
 obtain ⟨k0, k1, k2, k3, k4⟩ := cl5 (Below.refl _ ws9).drew k0 k1 k2 k3 k4
 obtain ⟨k5, k6, k7, k8, k9⟩ := cl5 (Below.refl _ ws9).drew k5 k6 k7 k8 k9
 obtain ⟨k10, k11, k12, k13, k14⟩ := cl5 (Below.refl _ ws9).drew k10 k11 k12 k13 k14
 obtain ⟨k15, k16, k17, k18, k19⟩ := cl5 (Below.refl _ ws9).drew k15 k16 k17 k18 k19
 refine hd20 k0 k1 k2 k3 k4 k5 k6 k7 k8 k9 k10 k11 k12 k13 k14 k15 k16 k17 k18 k19 (h := fun hHeld => ?_)
 obtain ⟨g0, g1, g2, g3, g4⟩ := bl5 (Below.refl _ ws9).drew g0 g1 g2 g3 g4
 replace HY := Hid.mk (HY.out.later (Below.refl _ ws9).drew)
 replace hB := qab hB (Below.refl _ ws9).drew
 generalize ws9.drew = Wd at *
 refine tk 0 84 (h := ?_)
 refine tk 1 85 (h := ?_)
 refine rd1 2 (h := fun K hK => ?_)
 refine qah rfl rfl 34 _ _ rfl (w.heap.size + 1 + 1) 0 _ #[.int .u64 S, vm, .int .i64 most, .slice a8 (TB.qbt s.E most ⟨(I : Int), qbn va l, l, k, o, u, r, y, true, t⟩).length c8z, .slice a5 K'.length c5', .bool true, .int .u64 R, .int .i64 I, .slice aP s.P.length cP] rfl rfl rfl 34 _ g2 (show 0 + 9 ≤ 9 by decide) qao (all_oneCell_toArray (fun u hu => by simp only [List.mem_cons, List.not_mem_nil, or_false] at hu; rcases hu with rfl | rfl | rfl | rfl | rfl | rfl | rfl | rfl | rfl <;> first | rfl | exact HV1.out)) #[.int .u64 S, vm, .int .i64 most, .slice a8 (TB.qbt s.E most ⟨(I : Int), qbn va l, l, k, o, u, r, y, true, t⟩).length c8z, .slice a5 K'.length c5', .bool true, .int .u64 R, .int .i64 I, .slice aP s.P.length cP] rfl ?_
 intro wsa hrq htq
 obtain ⟨k0, k1, k2, k3, k4⟩ := tc5 htq k0 k1 k2 k3 k4
 obtain ⟨k5, k6, k7, k8, k9⟩ := tc5 htq k5 k6 k7 k8 k9
 obtain ⟨k10, k11, k12, k13, k14⟩ := tc5 htq k10 k11 k12 k13 k14
 obtain ⟨k15, k16, k17, k18, k19⟩ := tc5 htq k15 k16 k17 k18 k19
 obtain ⟨g0, g1, g3, g4⟩ := bt4 htq g0 g1 g3 g4
 replace g2 := hrq
 replace HY := Hid.mk (HY.out.turn htq (fun i hi c => by have c' : i = w.heap.size + 1 + 1 := c; rcases hi with hi | hi <;> omega))
 replace hB := qaf hB htq (by omega)
 refine hK.out _ _ ⟨k0, k1, k2, k3, k4, k5, k6, k7, k8, k9, k10, k11, k12, k13, k14, k15, k16, k17, k18, k19⟩ (fun hHeldsa => ?_)
 clear hK hrq
 try simp only [Act.put, sq]
 refine rd1 3 (h := fun K hK => ?_)
 refine qah rfl rfl 138 _ _ rfl (w.heap.size + 1 + 1 + 1) 0 _ #[.int .i64 l, .int .i64 k, .int .u64 o, .bool u, .bool r, .bool y, .bool true, .int .i64 t, .int .i64 0, .int .i64 0, .slice p LW.length cap] rfl rfl rfl 138 _ g3 (show 0 + 11 ≤ 11 by decide) qbz (by simp [Value.oneCell']) #[.int .i64 l, .int .i64 k, .int .u64 o, .bool u, .bool r, .bool y, .bool true, .int .i64 t, .int .i64 0, .int .i64 0, .slice p LW.length cap] rfl ?_
 intro wsb hrq htq
 obtain ⟨k0, k1, k2, k3, k4⟩ := tc5 htq k0 k1 k2 k3 k4
 obtain ⟨k5, k6, k7, k8, k9⟩ := tc5 htq k5 k6 k7 k8 k9
 obtain ⟨k10, k11, k12, k13, k14⟩ := tc5 htq k10 k11 k12 k13 k14
 obtain ⟨k15, k16, k17, k18, k19⟩ := tc5 htq k15 k16 k17 k18 k19
 obtain ⟨g0, g1, g2, g4⟩ := bt4 htq g0 g1 g2 g4
 replace g3 := hrq
 replace HY := Hid.mk (HY.out.turn htq (fun i hi c => by have c' : i = w.heap.size + 1 + 1 + 1 := c; rcases hi with hi | hi <;> omega))
 replace hB := qaf hB htq (by omega)
 refine hK.out _ _ ⟨k0, k1, k2, k3, k4, k5, k6, k7, k8, k9, k10, k11, k12, k13, k14, k15, k16, k17, k18, k19⟩ (fun hHeldsb => ?_)
 clear hK hrq
 try simp only [Act.put, sq]
 refine wpAnyH_done (by kernel_rfl) ?_ _
 refine NoPanic.normal ?_
 clear k0 k1 k2 k3 k4 k5 k6 k7 k8 k9 k10 k11 k12 k13 k14 k15 k16 k17 k18 k19
 go_wp2
 refine bodyPost_ret (qas rfl _ _ (w.heap.size + 1 + 1) (w.heap.size + 1 + 1 + 1) _ _ _ _ _ _ _ _ rfl g2 Tryz.underlying34 rfl qao rfl g3 Tryz.underlying138 rfl qbz) rfl ?_
 rw [HWS.out]
 exact ⟨⟨vm, L, a8, c8z, a5, c5', aP, cP, true, R, I⟩, .slice p LW.length cap, rfl, rfl, HY.out.mono (fun i hi => by rcases hi with hi | hi; exact Or.inl hi.1; exact Or.inr (by omega)), hB⟩) : Z := z
theorem ywalk_1y (h : YOk w B m s d) (hf : Fm S s.f) (hw : Wf most s) (hm : m < 1000000) (R I : Nat) (hg : s.rg = some (R, I)) (va : Nat) (hva : va < 18446744073709551616) (hn : Hn) (hk : hn.keep = true) (hfl : hn.fill = true) (hu : (lfR (wkO S s R I va hn).2).s = true) :
  Calls Tryz.prog 56 #[.agg (d.cs S most s), .int .u64 va, hn.v] w fun r w' => ∃ d' v, r = .returned (.tuple #[.agg (d'.cs S most (wdS S most s R I va hn)), .agg (lC (lfR (wkO S s R I va hn).2) (ftR (wkO S s R I va hn).2) v)]) ∧ v.oneCell' = true ∧ YOk w' (fun g => B g ∨ w.heap.size ≤ g) m (wdS S most s R I va hn) d' ∧ Below w.heap.size w w' := by
 obtain ⟨hR, -, hI⟩ := hw.rr R I hg
 have e1 : R = d.R := (h.rg R I hg).1.symm
 have e2 : I = d.I := (h.rg R I hg).2.symm
 have e3 : true = d.on := by have := h.on; rw [hg] at this; exact this.symm
 have HFR := pfr h hf hw hm R I hg va hn
 have HBE := pbe h hw I va hva
 have HWK : Hid (∀ W (_ : Below w.heap.size w W) (B' : Nat → Prop) p cap, Psl W B' (.slice p (wkO S s R I va hn).1.length cap) (wkO S s R I va hn).1 → Calls Tryz.prog 92 #[.slice d.aK s.K.length d.cK, .int .i64 most, .int .i64 I, .int .u64 va, .int .i64 (stL s I va hn), .slice p (wkO S s R I va hn).1.length cap] W fun r w' => ∃ (k : Int) (a' : Option Addr) (c' : Nat), r = .returned (.tuple #[.slice a' (kK S most s R I va hn).length c', .int .i64 k]) ∧
   YOk w' (fun g => ((B g ∧ g < w.heap.size) ∨ w.heap.size + 1 + 1 + 1 + 1 ≤ g) ∨ W.heap.size ≤ g) m { s with K := kK S most s R I va hn } { d with aK := a', cK := c' } ∧ Below W.heap.size W w') := Hid.mk (fun W hb B' p cap hp => by
  have e : kK S most s R I va hn = TR.wdL most (I : Int) va (stL s I va hn) (fun j => (wkO S s R I va hn).1[j]!.2) s.K (tkn (stL s I va hn) (wkO S s R I va hn).1) := by unfold kK; rw [if_pos hk]
  rw [e]
  exact ywalked_c ((h.tight.later hb).mono (fun _ hi => Or.inl hi)) hf hw I va hva (stL s I va hn) (stT s R I va hn) p cap hp)
 have HEE : Hid (kE S most s R I va hn = TB.qbt s.E most ((lfR (wkO S s R I va hn).2).en I va)) := by show _ = _; unfold kE; rw [if_pos (by rw [hfl, hu]; rfl)]
 have HEO : Hid (TB.qbe ((lfR (wkO S s R I va hn).2).en I va) = true) := Hid.mk (leaf_right hI hu)
 have HBA := Hid.mk (fun W => qcz va (lfR (wkO S s R I va hn).2).l (rentry (leaf_right hI hu)).2.2.1 hva W)
 have hft : ftR (wkO S s R I va hn).2 = (0, 0) := (lfR_s hu).2.2
 have HEL : Hid (s.E.length ≤ 900 ∧ 1 ≤ most) := ⟨by have := hw.el; have := hw.m64; omega, hw.m1⟩
 have HWS : Hid (wdS S most s R I va hn = { s with E := kE S most s R I va hn, K := kK S most s R I va hn }) := rfl
 have HLV : Hid (stL s I va hn = if (hn.led && decide (1 ≤ (bst s I va).lv)) = true then (bst s I va).lv else 0) := rfl
 have HTV : Hid (stT s R I va hn = if (hn.led && decide (1 ≤ (bst s I va).lv)) = true then (bst s I va).tb else R) := rfl
 have HY : Hid (YOk w (fun g => (B g ∧ g < w.heap.size) ∨ w.heap.size + 1 + 1 + 1 + 1 ≤ g) m s d) := Hid.mk (h.tight.mono (fun _ hi => Or.inl hi))
 have HV1 := Hid.mk h.vm1
 clear h hf hw hva hR hI hg
 obtain ⟨vm, L, aE, cE, aK, cK, aP, cP, on', R', I'⟩ := d
 dsimp only at e1 e2 e3
 subst e1 e2 e3
 generalize wdS S most s R I va hn = s' at *
 rw [HEE.out] at HWS
 generalize kK S most s R I va hn = K' at *
 clear HEE
 generalize kE S most s R I va hn = E' at *
 generalize wkO S s R I va hn = wr at *
 generalize stL s I va hn = LV at *
 generalize stT s R I va hn = TV at *
 generalize bst s I va = be at *
 obtain ⟨ba, bv, bl, bt⟩ := be
 generalize lfR wr.2 = lf at *
 generalize ftR wr.2 = ft at *
 obtain ⟨LW, r0⟩ := wr
 obtain ⟨l, k, o, u, r, y, q, t⟩ := lf
 obtain ⟨f1, f2⟩ := ft
 obtain ⟨hf', hl', hk'⟩ := hn
 simp only at hk hfl hu
 subst hk hfl hu
 obtain ⟨rfl, rfl⟩ := Prod.mk.inj hft
 clear hft
 simp only [Lf.en] at *
 obtain ⟨W4, hW4, g0, g1, g2, g3, hB, hsz⟩ := hp4 w (.cells #[.int .u64 S, vm, .int .i64 most, .slice aE s.E.length cE, .slice aK s.K.length cK, .bool true, .int .u64 R, .int .i64 I, .slice aP s.P.length cP] 34) (.cells #[.bool true, .bool hl', .bool true] 64) (.cells #[.int .u64 0, .slice none 0 0, .int .i64 0, .slice none 0 0, .slice none 0 0, .bool false, .int .u64 0, .int .i64 0, .slice none 0 0] 34) (.cells #[.int .i64 0, .int .i64 0, .int .u64 0, .bool false, .bool false, .bool false, .bool false, .int .i64 0, .int .i64 0, .int .i64 0, .slice none 0 0] 138)
 replace hsz := Nat.le_of_eq hsz.symm
 go_enter Tryz.func56, Tryz.ntmps56
 go_upto_region 1 with fail
 (try rw [hW4])
 clear hW4
 obtain ⟨c0, c1, c2, c3, c4, c5, c6, c7, c8⟩ := qal g0
 obtain ⟨d0, d1, d2⟩ := qan g1
 go_wp2_with fail
 refine (HBE.out _ hB).mono ?_
 rintro e w1 ⟨rfl, hb1⟩
 have hb2 := qac w1 (.cells #[.int .i64 ba, .int .u64 bv, .int .i64 bl, .int .u64 bt] 97)
 have g4 := heap_alloc_new w1 (.cells #[.int .i64 ba, .int .u64 bv, .int .i64 bl, .int .u64 bt] 97)
 clear HBE c0 c1 c2 c3 c4 c5 c6 c7 c8 d0 d1 d2
 go_upto_region 4 with fail
 generalize w1.alloc (.cells #[.int .i64 ba, .int .u64 bv, .int .i64 bl, .int .u64 bt] 97) = w2 at *
 replace g0 := qaa hb2 (qaa hb1 g0)
 replace g1 := qaa hb2 (qaa hb1 g1)
 replace g2 := qaa hb2 (qaa hb1 g2)
 replace g3 := qaa hb2 (qaa hb1 g3)
 replace hB := qab (qab hB hb1) hb2
 replace hsz := Nat.le_trans hsz (Nat.le_trans hb1.size hb2.size)
 clear hb1 hb2
 obtain ⟨LED, HLED⟩ : ∃ LED, (hl' && decide (1 ≤ bl)) = LED := ⟨_, rfl⟩
 rw [HLED] at HLV HTV
 go_cut [26] (fun t wc => t = .bool LED ∧ wc = w2)
 case first =>
  exact zP45x06
 case rest =>
 obtain ⟨rfl, rfl⟩ := hcut
 clear HLED
 apply_assumption
 go_cut [8, 9] (fun a b wd => a = .int .i64 LV ∧ b = .int .u64 TV ∧ wd = wc)
 case first =>
  exact zP45x07
 case rest =>
 obtain ⟨rfl, rfl, rfl⟩ := hcut
 clear HLV HTV g4
 obtain ⟨c0, c1, c2, c3, c4, c5, c6, c7, c8⟩ := qal g0
 obtain ⟨d0, d1, d2⟩ := qan g1
 go_wp2_with fail
 refine (HFR.out _ hB).mono ?_
 rintro e w3 ⟨p, cap, rfl, hps, hb3⟩
 have hb4 := qac w3 (.cells #[.int .i64 l, .int .i64 k, .int .u64 o, .bool u, .bool r, .bool y, .bool true, .int .i64 t, .int .i64 0, .int .i64 0, .slice p LW.length cap] 138)
 have g4 := heap_alloc_new w3 (.cells #[.int .i64 l, .int .i64 k, .int .u64 o, .bool u, .bool r, .bool y, .bool true, .int .i64 t, .int .i64 0, .int .i64 0, .slice p LW.length cap] 138)
 replace hps := hps.below hb4
 clear HFR c0 c1 c2 c3 c4 c5 c6 c7 c8 d0 d1 d2
 go_upto_region 8 with fail
 generalize w3.alloc (.cells #[.int .i64 l, .int .i64 k, .int .u64 o, .bool u, .bool r, .bool y, .bool true, .int .i64 t, .int .i64 0, .int .i64 0, .slice p LW.length cap] 138) = w4 at *
 replace g0 := qaa hb4 (qaa hb3 g0)
 replace g1 := qaa hb4 (qaa hb3 g1)
 replace g2 := qaa hb4 (qaa hb3 g2)
 replace g3 := qaa hb4 (qaa hb3 g3)
 replace hB := qab (qab hB hb3) hb4
 replace hsz := Nat.le_trans hsz hb3.size
 replace HY := Hid.mk (HY.out.later hB)
 clear hb3 hb4
 generalize w3.heap.size = KL at *
 have hKL := qag g4
 obtain ⟨c0, c1, c2, c3, c4, c5, c6, c7, c8⟩ := qal g0
 obtain ⟨d0, d1, d2⟩ := qan g1
 obtain ⟨m0, m1, m2, m3, m4, m5, m6, m7, m8, m9, m10⟩ := qbb g4
 go_wp2_with fail
 refine (HWK.out _ hB _ p cap hps).mono ?_
 rintro e w5 ⟨kk, a5, c5', rfl, hy5, hb5⟩
 obtain ⟨g0, g1, g2, g3, g4⟩ := bl5 hb5 g0 g1 g2 g3 g4
 replace hy5 := hy5.back (Nat.le_trans hsz (Nat.le_of_lt hKL))
 replace hB := qab hB hb5
 replace hKL := qag g4
 clear hb5 HY HWK c0 c1 c2 c3 c4 c5 c6 c7 c8 d0 d1 d2 m0 m1 m2 m3 m4 m5 m6 m7 m8 m9 m10 hps
 have HY := Hid.mk hy5
 clear hy5
 go_wp2_with
  first
  | (refine qad rfl 31 _ _ rfl rfl w.heap.size 4 _ #[.slice a5 K'.length c5'] rfl rfl rfl 34 _ g0 (show 4 + 1 ≤ 9 by decide) info_ks (by simp [Value.oneCell']) #[.int .u64 S, vm, .int .i64 most, .slice aE s.E.length cE, .slice a5 K'.length c5', .bool true, .int .u64 R, .int .i64 I, .slice aP s.P.length cP] rfl ?_
     intro w6 hrq htq
     replace HY := Hid.mk (HY.out.turn htq (fun i hi c => by have c' : i = w.heap.size := c; rcases hi with hi | hi <;> omega))
     replace g0 := hrq
     obtain ⟨g1, g2, g3, g4⟩ := bt4 htq g1 g2 g3 g4
     replace hB := qaf hB htq (by omega)
     clear hrq htq
     obtain ⟨c0, c1, c2, c3, c4, c5, c6, c7, c8⟩ := qal g0
     obtain ⟨d0, d1, d2⟩ := qan g1
     obtain ⟨m0, m1, m2, m3, m4, m5, m6, m7, m8, m9, m10⟩ := qbb g4)
  | fail
 go_upto_region 11 with fail
 have k0 := c0
 have k1 := c1
 have k2 := c2
 have k3 := c4
 have k4 := c5
 have k5 := c6
 have k6 := c7
 have k7 := c8
 have k8 := m0
 have k9 := m1
 have k10 := m2
 have k11 := m3
 have k12 := m4
 have k13 := m5
 have k14 := m6
 have k15 := m7
 have k16 := m8
 have k17 := m9
 have k18 := m10
 have kx := c3
 clear c0 c1 c2 c4 c5 c6 c7 c8 m0 m1 m2 m3 m4 m5 m6 m7 m8 m9 m10 c3 d0 d1 d2
 obtain ⟨k0, k1, k2, k3, k4⟩ := cl5 (Below.refl _ w6).drew k0 k1 k2 k3 k4
 obtain ⟨k5, k6, k7, k8, k9⟩ := cl5 (Below.refl _ w6).drew k5 k6 k7 k8 k9
 obtain ⟨k10, k11, k12, k13, k14⟩ := cl5 (Below.refl _ w6).drew k10 k11 k12 k13 k14
 obtain ⟨k15, k16, k17, k18⟩ := cl4 (Below.refl _ w6).drew k15 k16 k17 k18
 refine hd19 k0 k1 k2 k3 k4 k5 k6 k7 k8 k9 k10 k11 k12 k13 k14 k15 k16 k17 k18 (h := fun hHeld => ?_)
 obtain ⟨g0, g1, g2, g3, g4⟩ := bl5 (Below.refl _ w6).drew g0 g1 g2 g3 g4
 replace HY := Hid.mk (HY.out.later (Below.refl _ w6).drew)
 replace hB := qab hB (Below.refl _ w6).drew
 replace kx := cell_later (Below.refl _ w6).drew kx
 generalize w6.drew = Wd at *
 exact zP45x12
theorem ywalk_c (h : YOk w B m s d) (hf : Fm S s.f) (hw : Wf most s) (hm : m < 1000000) (R I : Nat) (hg : s.rg = some (R, I)) (va : Nat) (hva : va < 18446744073709551616) (hn : Hn) :
  Calls Tryz.prog 56 #[.agg (d.cs S most s), .int .u64 va, hn.v] w fun r w' => ∃ d' v, r = .returned (.tuple #[.agg (d'.cs S most (wdS S most s R I va hn)), .agg (lC (lfR (wkO S s R I va hn).2) (ftR (wkO S s R I va hn).2) v)]) ∧ v.oneCell' = true ∧ YOk w' (fun g => B g ∨ w.heap.size ≤ g) m (wdS S most s R I va hn) d' ∧ Below w.heap.size w w' := by
 cases hk : hn.keep
 ·cases hfl : hn.fill
  ·exact ywalk_0n h hf hw hm R I hg va hva hn hk hfl
  ·cases hu : (lfR (wkO S s R I va hn).2).s
   ·by_cases hft : (ftR (wkO S s R I va hn).2).1 = 0
    ·exact ywalk_0u h hf hw hm R I hg va hva hn hk hfl hu hft
    ·exact ywalk_0f h hf hw hm R I hg va hva hn hk hfl hu hft
   ·exact ywalk_0y h hf hw hm R I hg va hva hn hk hfl hu
 ·cases hfl : hn.fill
  ·exact ywalk_1n h hf hw hm R I hg va hva hn hk hfl
  ·cases hu : (lfR (wkO S s R I va hn).2).s
   ·by_cases hft : (ftR (wkO S s R I va hn).2).1 = 0
    ·exact ywalk_1u h hf hw hm R I hg va hva hn hk hfl hu hft
    ·exact ywalk_1f h hf hw hm R I hg va hva hn hk hfl hu hft
   ·exact ywalk_1y h hf hw hm R I hg va hva hn hk hfl hu
end
end Go.Proofs.YtfdbdeckohaneaaGreatDoor.MM
