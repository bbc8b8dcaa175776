/- P48 -/
import Derived.Test.YtfdbdeckohaneaaGreatDoorP46
import Derived.Test.YtfdbdeckohaneaaGreatDoorP47
set_option maxHeartbeats 16000000
set_option maxRecDepth 100000
namespace Go.Proofs.YtfdbdeckohaneaaGreatDoor
open Go.RowKit
end Go.Proofs.YtfdbdeckohaneaaGreatDoor
namespace Go.Proofs.YtfdbdeckohaneaaGreatDoor.MM
open Go.RowKit Go.Maps
section
variable {w w' : World} {B B' : Nat → Prop} {m S : Nat} {most : Int} {s : St} {d : Yd}
theorem qdm {S R I : Nat} {most : Int} {vm : Value} {a1 a2 a3 : Option Addr} {l1 l2 l3 c1 c2 c3 : Nat} {on : Bool} (h : vm.oneCell' = true) : (#[.int .u64 S, vm, .int .i64 most, .slice a1 l1 c1, .slice a2 l2 c2, .bool on, .int .u64 R, .int .i64 I, .slice a3 l3 c3] : Array Value).all (·.oneCell') = true := by
 exact all_oneCell_toArray (fun u hu => by
  simp only [List.mem_cons, List.not_mem_nil, or_false] at hu
  rcases hu with rfl | rfl | rfl | rfl | rfl | rfl | rfl | rfl | rfl
  all_goals first | rfl | exact h)
theorem ygu_off (h : YOk w B m s d) (va : Nat) (hn : Hn) (hg : s.rg = none) : Calls Tryz.prog 19 #[.agg (d.cs S most s), .int .u64 va, hn.v] w fun r w' => ∃ d', r = .returned (.agg (d'.cs S most (guS S most s va hn))) ∧ YOk w' (fun g => B g ∨ w.heap.size ≤ g) m (guS S most s va hn) d' ∧ Below w.heap.size w w' := by
 have HS : Hid (guS S most s va hn = s) := by show _ = _; unfold guS; rw [hg]
 have e3 : false = d.on := by have := h.on; rw [hg] at this; exact this.symm
 have HY : Hid (YOk w (fun g => B g ∧ g < w.heap.size) m s d) := Hid.mk h.tight
 have HV1 := Hid.mk h.vm1
 clear h hg
 obtain ⟨vm, L, aE, cE, aK, cK, aP, cP, on', R', I'⟩ := d
 obtain ⟨b0', b1', b2'⟩ := hn
 dsimp only at e3
 subst e3
 generalize guS S most s va ⟨b0', b1', b2'⟩ = sA at *
 obtain ⟨W4, hW4, g0, g1, g2, hB, hsz⟩ := hp3 w (.cells #[.int .u64 S, vm, .int .i64 most, .slice aE s.E.length cE, .slice aK s.K.length cK, .bool false, .int .u64 R', .int .i64 I', .slice aP s.P.length cP] 34) (.cells #[.bool b0', .bool b1', .bool b2'] 64) (.cells #[.int .u64 0, .slice none 0 0, .int .i64 0, .slice none 0 0, .slice none 0 0, .bool false, .int .u64 0, .int .i64 0, .slice none 0 0] 34)
 go_enter Tryz.func19, Tryz.ntmps19
 go_upto_region 1 with fail
 (try rw [hW4])
 clear hW4
 replace HY := Hid.mk (HY.out.later hB)
 obtain ⟨c0, c1, c2, c3, c4, c5, c6, c7, c8⟩ := qal g0
 go_wp2_with (first
  | (refine qad rfl 34 _ _ rfl rfl (w.heap.size + 1 + 1) 0 _ #[.int .u64 S, vm, .int .i64 most, .slice aE s.E.length cE, .slice aK s.K.length cK, .bool false, .int .u64 R', .int .i64 I', .slice aP s.P.length cP] rfl rfl rfl 34 _ g2 (show 0 + 9 ≤ 9 by decide) qao (qdm HV1.out) #[.int .u64 S, vm, .int .i64 most, .slice aE s.E.length cE, .slice aK s.K.length cK, .bool false, .int .u64 R', .int .i64 I', .slice aP s.P.length cP] rfl ?_; intro wq hrq htq)
  | fail)
 refine bodyPost_ret (results_cell_row rfl _ wq (w.heap.size + 1 + 1) 34 #[.int .u64 S, vm, .int .i64 most, .slice aE s.E.length cE, .slice aK s.K.length cK, .bool false, .int .u64 R', .int .i64 I', .slice aP s.P.length cP] (0, 0) _ rfl hrq Tryz.underlying34 rfl qao) rfl ?_
 rw [HS.out]
 exact ⟨⟨vm, L, aE, cE, aK, cK, aP, cP, false, R', I'⟩, rfl, (HY.out.turn htq (fun i hi c => by have c' : i = w.heap.size + 1 + 1 := c; (try dsimp only at hi); omega)).mono (fun i hi => Or.inl hi.1), qaf hB htq (by omega)⟩
theorem ygu_hit (h : YOk w B m s d) (hw : Wf most s) (va : Nat) (hva : va < 18446744073709551616) (hn : Hn) (R I : Nat) (hg : s.rg = some (R, I)) (hN : ¬ fdN s I va = 0) : Calls Tryz.prog 19 #[.agg (d.cs S most s), .int .u64 va, hn.v] w fun r w' => ∃ d', r = .returned (.agg (d'.cs S most (guS S most s va hn))) ∧ YOk w' (fun g => B g ∨ w.heap.size ≤ g) m (guS S most s va hn) d' ∧ Below w.heap.size w w' := by
 have HS : Hid (guS S most s va hn = s) := by show _ = _; unfold guS; rw [hg]; show lfS S most s R I va hn = s; unfold lfS; rw [if_neg hN]
 have e1 : R = d.R := (h.rg R I hg).1.symm
 have e2 : I = d.I := (h.rg R I hg).2.symm
 have e3 : true = d.on := by have := h.on; rw [hg] at this; exact this.symm
 have HFD := pfd h hw I va hva
 have HY : Hid (YOk w (fun g => B g ∧ g < w.heap.size) m s d) := Hid.mk h.tight
 have HV1 := Hid.mk h.vm1
 clear h hg hw hva
 obtain ⟨vm, L, aE, cE, aK, cK, aP, cP, on', R', I'⟩ := d
 obtain ⟨b0', b1', b2'⟩ := hn
 dsimp only at e1 e2 e3
 subst e1 e2 e3
 generalize guS S most s va ⟨b0', b1', b2'⟩ = sA at *
 generalize fdN s I va = N at *
 generalize fdE s I va = ee at *
 obtain ⟨ea, ev, el, ek, eo, eu, er, ex, es, et⟩ := ee
 have dN : decide ((0 : Int) < (N : Int)) = true := decide_eq_true (by omega)
 have dN2 : decide (0 < N) = true := decide_eq_true (by omega)
 clear hN
 obtain ⟨W4, hW4, g0, g1, g2, hB, hsz⟩ := hp3 w (.cells #[.int .u64 S, vm, .int .i64 most, .slice aE s.E.length cE, .slice aK s.K.length cK, .bool true, .int .u64 R, .int .i64 I, .slice aP s.P.length cP] 34) (.cells #[.bool b0', .bool b1', .bool b2'] 64) (.cells #[.int .u64 0, .slice none 0 0, .int .i64 0, .slice none 0 0, .slice none 0 0, .bool false, .int .u64 0, .int .i64 0, .slice none 0 0] 34)
 go_enter Tryz.func19, Tryz.ntmps19
 go_upto_region 1 with fail
 (try rw [hW4])
 clear hW4
 replace HY := Hid.mk (HY.out.later hB)
 obtain ⟨c0, c1, c2, c3, c4, c5, c6, c7, c8⟩ := qal g0
 go_wp2_with fail
 refine (HFD.out _ hB).mono ?_
 rintro e w1 ⟨rfl, hb1⟩
 have hb2 := qac w1 (.cells #[.int .i64 ea, .int .u64 ev, .int .i64 el, .int .i64 ek, .int .u64 eo, .bool eu, .bool er, .bool ex, .bool es, .int .i64 et] 94)
 clear HFD c0 c1 c2 c3 c4 c5 c6 c7 c8
 go_upto_region 4 with fail
 generalize w1.alloc (.cells #[.int .i64 ea, .int .u64 ev, .int .i64 el, .int .i64 ek, .int .u64 eo, .bool eu, .bool er, .bool ex, .bool es, .int .i64 et] 94) = w2 at *
 obtain ⟨g0, g1, g2⟩ := bl3 hb1 g0 g1 g2
 obtain ⟨g0, g1, g2⟩ := bl3 hb2 g0 g1 g2
 replace hB := qab (qab hB hb1) hb2
 replace HY := Hid.mk ((HY.out.later hb1).later hb2)
 replace hsz := Nat.le_trans (Nat.le_of_eq hsz.symm) (Nat.le_trans hb1.size hb2.size)
 clear hb1 hb2
 obtain ⟨c0, c1, c2, c3, c4, c5, c6, c7, c8⟩ := qal g0
 obtain ⟨d0, d1, d2⟩ := qan g1
 go_wp2_with (first
  | (refine qad rfl 34 _ _ rfl rfl (w.heap.size + 1 + 1) 0 _ #[.int .u64 S, vm, .int .i64 most, .slice aE s.E.length cE, .slice aK s.K.length cK, .bool true, .int .u64 R, .int .i64 I, .slice aP s.P.length cP] rfl rfl rfl 34 _ g2 (show 0 + 9 ≤ 9 by decide) qao (qdm HV1.out) #[.int .u64 S, vm, .int .i64 most, .slice aE s.E.length cE, .slice aK s.K.length cK, .bool true, .int .u64 R, .int .i64 I, .slice aP s.P.length cP] rfl ?_; intro wq hrq htq)
  | fail)
 refine bodyPost_ret (results_cell_row rfl _ wq (w.heap.size + 1 + 1) 34 #[.int .u64 S, vm, .int .i64 most, .slice aE s.E.length cE, .slice aK s.K.length cK, .bool true, .int .u64 R, .int .i64 I, .slice aP s.P.length cP] (0, 0) _ rfl hrq Tryz.underlying34 rfl qao) rfl ?_
 rw [HS.out]
 exact ⟨⟨vm, L, aE, cE, aK, cK, aP, cP, true, R, I⟩, rfl, (HY.out.turn htq (fun i hi c => by have c' : i = w.heap.size + 1 + 1 := c; (try dsimp only at hi); omega)).mono (fun i hi => Or.inl hi.1), qaf hB htq (by omega)⟩
theorem ygu_walk (h : YOk w B m s d) (hf : Fm S s.f) (hw : Wf most s) (hm : m < 1000000) (va : Nat) (hva : va < 18446744073709551616) (hn : Hn) (R I : Nat) (hg : s.rg = some (R, I)) (hN : fdN s I va = 0) : Calls Tryz.prog 19 #[.agg (d.cs S most s), .int .u64 va, hn.v] w fun r w' => ∃ d', r = .returned (.agg (d'.cs S most (guS S most s va hn))) ∧ YOk w' (fun g => B g ∨ w.heap.size ≤ g) m (guS S most s va hn) d' ∧ Below w.heap.size w w' := by
 have HS : Hid (guS S most s va hn = wdS S most s R I va hn) := by show _ = _; unfold guS; rw [hg]; show lfS S most s R I va hn = _; unfold lfS; rw [if_pos hN]
 have e1 : R = d.R := (h.rg R I hg).1.symm
 have e2 : I = d.I := (h.rg R I hg).2.symm
 have e3 : true = d.on := by have := h.on; rw [hg] at this; exact this.symm
 have HFD := pfd h hw I va hva
 have HY : Hid (YOk w (fun g => B g ∧ g < w.heap.size) m s d) := Hid.mk h.tight
 have HV1 := Hid.mk h.vm1
 have HWK : Hid (∀ W (B' : Nat → Prop), YOk W B' m s d → Calls Tryz.prog 56 #[.agg (d.cs S most s), .int .u64 va, hn.v] W fun r w' => ∃ d' v, r = .returned (.tuple #[.agg (d'.cs S most (wdS S most s R I va hn)), .agg (lC (lfR (wkO S s R I va hn).2) (ftR (wkO S s R I va hn).2) v)]) ∧ v.oneCell' = true ∧ YOk w' (fun g => B' g ∨ W.heap.size ≤ g) m (wdS S most s R I va hn) d' ∧ Below W.heap.size W w') := Hid.mk (fun W B' hy => ywalk_c hy hf hw hm R I hg va hva hn)
 clear h hg hw hva hf
 obtain ⟨vm, L, aE, cE, aK, cK, aP, cP, on', R', I'⟩ := d
 obtain ⟨b0', b1', b2'⟩ := hn
 dsimp only at e1 e2 e3
 subst e1 e2 e3
 generalize guS S most s va ⟨b0', b1', b2'⟩ = sA at *
 generalize wdS S most s R I va ⟨b0', b1', b2'⟩ = s1 at *
 generalize lfR (wkO S s R I va ⟨b0', b1', b2'⟩).2 = lf at *
 generalize ftR (wkO S s R I va ⟨b0', b1', b2'⟩).2 = ft at *
 obtain ⟨ql, qk, qo, qu, qr, qx, qs, qa⟩ := lf
 obtain ⟨f1, f2⟩ := ft
 generalize fdN s I va = N at *
 subst hN
 generalize fdE s I va = ee at *
 obtain ⟨ea, ev, el, ek, eo, eu, er, ex, es, et⟩ := ee
 obtain ⟨W4, hW4, g0, g1, g2, hB, hsz⟩ := hp3 w (.cells #[.int .u64 S, vm, .int .i64 most, .slice aE s.E.length cE, .slice aK s.K.length cK, .bool true, .int .u64 R, .int .i64 I, .slice aP s.P.length cP] 34) (.cells #[.bool b0', .bool b1', .bool b2'] 64) (.cells #[.int .u64 0, .slice none 0 0, .int .i64 0, .slice none 0 0, .slice none 0 0, .bool false, .int .u64 0, .int .i64 0, .slice none 0 0] 34)
 go_enter Tryz.func19, Tryz.ntmps19
 go_upto_region 1 with fail
 (try rw [hW4])
 clear hW4
 replace HY := Hid.mk (HY.out.later hB)
 obtain ⟨c0, c1, c2, c3, c4, c5, c6, c7, c8⟩ := qal g0
 go_wp2_with fail
 refine (HFD.out _ hB).mono ?_
 rintro e w1 ⟨rfl, hb1⟩
 have hb2 := qac w1 (.cells #[.int .i64 ea, .int .u64 ev, .int .i64 el, .int .i64 ek, .int .u64 eo, .bool eu, .bool er, .bool ex, .bool es, .int .i64 et] 94)
 clear HFD c0 c1 c2 c3 c4 c5 c6 c7 c8
 go_upto_region 4 with fail
 generalize w1.alloc (.cells #[.int .i64 ea, .int .u64 ev, .int .i64 el, .int .i64 ek, .int .u64 eo, .bool eu, .bool er, .bool ex, .bool es, .int .i64 et] 94) = w2 at *
 obtain ⟨g0, g1, g2⟩ := bl3 hb1 g0 g1 g2
 obtain ⟨g0, g1, g2⟩ := bl3 hb2 g0 g1 g2
 replace hB := qab (qab hB hb1) hb2
 replace HY := Hid.mk ((HY.out.later hb1).later hb2)
 replace hsz := Nat.le_trans (Nat.le_of_eq hsz.symm) (Nat.le_trans hb1.size hb2.size)
 clear hb1 hb2
 obtain ⟨c0, c1, c2, c3, c4, c5, c6, c7, c8⟩ := qal g0
 obtain ⟨d0, d1, d2⟩ := qan g1
 go_wp2_with fail
 refine (HWK.out _ _ HY.out).mono ?_
 rintro e w4 ⟨d1', v1, rfl, hv1, hy1, hb⟩
 obtain ⟨vm1, L1, aE1, cE1, aK1, cK1, aP1, cP1, on1, R1, I1⟩ := d1'
 have HV2 : Hid (vm1.oneCell' = true) := hy1.vm1
 clear HY HWK HV1 hv1 c0 c1 c2 c3 c4 c5 c6 c7 c8 d0 d1 d2
 have HY := Hid.mk hy1
 clear hy1
 obtain ⟨g0, g1, g2⟩ := bl3 hb g0 g1 g2
 replace hB := qab hB hb
 clear hb
 go_upto_region 7 with (first
  | (refine qad rfl 34 _ _ rfl rfl (w.heap.size) 0 _ #[.int .u64 S, vm1, .int .i64 most, .slice aE1 s1.E.length cE1, .slice aK1 s1.K.length cK1, .bool on1, .int .u64 R1, .int .i64 I1, .slice aP1 s1.P.length cP1] rfl rfl rfl 34 _ g0 (show 0 + 9 ≤ 9 by decide) qao (qdm HV2.out) #[.int .u64 S, vm1, .int .i64 most, .slice aE1 s1.E.length cE1, .slice aK1 s1.K.length cK1, .bool on1, .int .u64 R1, .int .i64 I1, .slice aP1 s1.P.length cP1] rfl ?_; intro wq hrq htq)
  | fail)
 replace g2 := qae htq g2 (by omega)
 replace HY := Hid.mk (HY.out.turn htq (fun i hi c => by have c' : i = w.heap.size := c; (try dsimp only at hi); omega))
 replace hB := qaf hB htq (by omega)
 replace g0 := hrq
 clear hrq htq
 generalize wq = wz at *
 obtain ⟨c0, c1, c2, c3, c4, c5, c6, c7, c8⟩ := qal g0
 go_wp2_with (first
  | (refine qad rfl 34 _ _ rfl rfl (w.heap.size + 1 + 1) 0 _ #[.int .u64 S, vm1, .int .i64 most, .slice aE1 s1.E.length cE1, .slice aK1 s1.K.length cK1, .bool on1, .int .u64 R1, .int .i64 I1, .slice aP1 s1.P.length cP1] rfl rfl rfl 34 _ g2 (show 0 + 9 ≤ 9 by decide) qao (qdm HV2.out) #[.int .u64 S, vm1, .int .i64 most, .slice aE1 s1.E.length cE1, .slice aK1 s1.K.length cK1, .bool on1, .int .u64 R1, .int .i64 I1, .slice aP1 s1.P.length cP1] rfl ?_; intro wq hrq htq)
  | fail)
 refine bodyPost_ret (results_cell_row rfl _ wq (w.heap.size + 1 + 1) 34 #[.int .u64 S, vm1, .int .i64 most, .slice aE1 s1.E.length cE1, .slice aK1 s1.K.length cK1, .bool on1, .int .u64 R1, .int .i64 I1, .slice aP1 s1.P.length cP1] (0, 0) _ rfl hrq Tryz.underlying34 rfl qao) rfl ?_
 rw [HS.out]
 exact ⟨⟨vm1, L1, aE1, cE1, aK1, cK1, aP1, cP1, on1, R1, I1⟩, rfl, (HY.out.turn htq (fun i hi c => by have c' : i = w.heap.size + 1 + 1 := c; (try dsimp only at hi); omega)).mono (fun i hi => by rcases hi with hi | hi; exact Or.inl hi.1; exact Or.inr (by omega)), qaf hB htq (by omega)⟩
theorem yguess_c (h : YOk w B m s d) (hf : Fm S s.f) (hw : Wf most s) (hm : m < 1000000) (va : Nat) (hva : va < 18446744073709551616) (hn : Hn) : Calls Tryz.prog 19 #[.agg (d.cs S most s), .int .u64 va, hn.v] w fun r w' => ∃ d', r = .returned (.agg (d'.cs S most (guS S most s va hn))) ∧ YOk w' (fun g => B g ∨ w.heap.size ≤ g) m (guS S most s va hn) d' ∧ Below w.heap.size w w' := by
 cases hg : s.rg with
 | none => exact ygu_off h va hn hg
 | some q =>
  obtain ⟨R, I⟩ := q
  by_cases hN : fdN s I va = 0
  ·exact ygu_walk h hf hw hm va hva hn R I hg hN
  ·exact ygu_hit h hw va hva hn R I hg hN
end
theorem zP48x04 {Z : Prop} (z : Z := by
 have HLT := Hid.mk hlt
 have hib : (i : Int) < 1000 := by omega
 clear hlt hi hb
 go_wp2
 go_roundw
 case rel => exact ⟨i + 1, by have := HLT.out; omega, by go_num, rfl, HB.out⟩
 case measure => have := HLT.out; simp [RowKit.intOf]; omega) : Z := z
theorem zP48x11 {Z : Prop} (z : Z := by
 go_wp2
 go_loopw [9, 10, 11] (fun s9 s10 _ wr => ∃ i : Nat, i ≤ n ∧ s10 = .int .i64 i ∧ s9 = .slice none 0 0 ∧ Below w.heap.size w wr) (fun _ s10 _ _ => n - (RowKit.intOf s10).toNat)
 case atStart => exact ⟨0, by omega, rfl, rfl, Below.refl _ _⟩
 case round =>
  obtain ⟨i, hi, rfl, rfl, hb⟩ := hrel
  have HB := Hid.mk hb
  by_cases hlt : i < n
  ·have hlt2 : (i : Int) < n := by omega
   exact zP48x04
  ·have hlt2 : ¬ (i : Int) < n := by omega
   clear hlt hi hb
   go_wp2
   go_ret
   exact ⟨rfl, HB.out⟩) : Z := z
theorem rall7 {w : World} (n : Nat) (hn : n ≤ 900) (ad : Option Addr) (cap : Nat) :
  Calls Tryz.prog 64 #[.slice ad n cap, .int .i64 (-1), .bool false, .int .u64 0] w fun r w' => r = .returned (.slice none 0 0) ∧ Below w.heap.size w w' := by
 have hnI : (n : Int) ≤ 900 := by omega
 go_enter Tryz.func64, Tryz.ntmps64
 exact zP48x11
theorem rall8 {w : World} (n : Nat) (hn : n ≤ 900) (ad : Option Addr) (cap : Nat) :
  Calls Tryz.prog 65 #[.slice ad n cap, .int .i64 (-1), .bool false, .int .u64 0] w fun r w' => r = .returned (.slice none 0 0) ∧ Below w.heap.size w w' := by
 have hnI : (n : Int) ≤ 900 := by omega
 go_enter Tryz.func65, Tryz.ntmps65
 exact zP48x11
section
variable {w w' : World} {B B' : Nat → Prop} {m S : Nat} {most : Int} {s : St} {d : Yd}
theorem info_s30 : (Tryz.prog.info? 30).map (·.size) = some 1 := by kernel_rfl
theorem info_s31 : (Tryz.prog.info? 31).map (·.size) = some 1 := by kernel_rfl
theorem yflush_mk (h : YOk w B m s d) (i0 : Int) (one : Bool) (va : Nat) (E' : List TB.En) (K' : List TR.En)
  (H7 : ∀ W, Below w.heap.size w W → Calls Tryz.prog 64 #[.slice d.aE s.E.length d.cE, .int .i64 i0, .bool one, .int .u64 va] W fun r w' => ∃ a' c', r = .returned (.slice a' E'.length c') ∧ TB.RLst w' a' c' E' ∧ (∀ b, a' = some b → W.heap.size ≤ b.block) ∧ Below W.heap.size W w')
  (H8 : ∀ W, Below w.heap.size w W → Calls Tryz.prog 65 #[.slice d.aK s.K.length d.cK, .int .i64 i0, .bool one, .int .u64 va] W fun r w' => ∃ a' c', r = .returned (.slice a' K'.length c') ∧ TR.RLst w' a' c' K' ∧ (∀ b, a' = some b → W.heap.size ≤ b.block) ∧ Below W.heap.size W w') :
  Calls Tryz.prog 23 #[.agg (d.cs S most s), .int .i64 i0, .bool one, .int .u64 va] w fun r w' => ∃ d', r = .returned (.agg (d'.cs S most { s with E := E', K := K' })) ∧ YOk w' (fun g => B g ∨ w.heap.size ≤ g) m { s with E := E', K := K' } d' ∧ Below w.heap.size w w' := by
 have HY : Hid (YOk w (fun g => B g ∧ g < w.heap.size) m s d) := Hid.mk h.tight
 have HV1 := Hid.mk h.vm1
 have G7 := Hid.mk H7
 have G8 := Hid.mk H8
 clear h H7 H8
 obtain ⟨vm, L, aE, cE, aK, cK, aP, cP, on', R', I'⟩ := d
 dsimp only at HV1 G7 G8
 obtain ⟨W4, hW4, g0, g1, hB, hsz⟩ := hp2 w (.cells #[.int .u64 S, vm, .int .i64 most, .slice aE s.E.length cE, .slice aK s.K.length cK, .bool on', .int .u64 R', .int .i64 I', .slice aP s.P.length cP] 34) (.cells #[.int .u64 0, .slice none 0 0, .int .i64 0, .slice none 0 0, .slice none 0 0, .bool false, .int .u64 0, .int .i64 0, .slice none 0 0] 34)
 go_enter Tryz.func23, Tryz.ntmps23
 go_upto_region 1 with fail
 (try rw [hW4])
 clear hW4
 replace HY := Hid.mk (HY.out.later hB)
 obtain ⟨c0, c1, c2, c3, c4, c5, c6, c7, c8⟩ := qal g0
 go_wp2_with fail
 refine (G7.out _ hB).mono ?_
 clear c0 c1 c2 c3 c4 c5 c6 c7 c8
 rintro e w1 ⟨a1, c1, rfl, hr1, hn1, hb1⟩
 have HY1 := Hid.mk (HY.out.setE hr1 hb1 (Or.inr hn1))
 obtain ⟨g0, g1⟩ := bl2 hb1 g0 g1
 replace hB := qab hB hb1
 clear HY hr1 hn1 hb1 G7
 dsimp only at HY1
 go_upto_region 2 with (first
  | (refine qad rfl 30 _ _ rfl rfl w.heap.size 3 _ #[.slice a1 E'.length c1] rfl rfl rfl 34 _ g0 (show 3 + 1 ≤ 9 by decide) info_s30 (by simp [Value.oneCell']) #[.int .u64 S, vm, .int .i64 most, .slice a1 E'.length c1, .slice aK s.K.length cK, .bool on', .int .u64 R', .int .i64 I', .slice aP s.P.length cP] rfl ?_; intro wq hrq htq)
  | fail)
 replace g1 := qae htq g1 (by omega)
 replace HY1 := Hid.mk (HY1.out.turn htq (fun i hi c => by have c' : i = w.heap.size := c; (try dsimp only at hi); omega))
 replace hB := qaf hB htq (by omega)
 replace g0 := hrq
 clear hrq htq
 generalize wq = w2 at *
 obtain ⟨k0, k1, k2, k3, k4, k5, k6, k7, k8⟩ := qal g0
 go_wp2_with fail
 refine (G8.out _ hB).mono ?_
 clear k0 k1 k2 k3 k4 k5 k6 k7 k8
 rintro e w3 ⟨a2, c2, rfl, hr2, hn2, hb2⟩
 have hs2 : w.heap.size + 1 < w2.heap.size := qag g1
 have HY2 := Hid.mk (HY1.out.setK hr2 hb2 (Or.inr hn2))
 obtain ⟨g0, g1⟩ := bl2 hb2 g0 g1
 replace hB := qab hB hb2
 clear HY1 hr2 hn2 hb2 G8
 dsimp only at HY2
 go_upto_region 3 with (first
  | (refine qad rfl 31 _ _ rfl rfl w.heap.size 4 _ #[.slice a2 K'.length c2] rfl rfl rfl 34 _ g0 (show 4 + 1 ≤ 9 by decide) info_s31 (by simp [Value.oneCell']) #[.int .u64 S, vm, .int .i64 most, .slice a1 E'.length c1, .slice a2 K'.length c2, .bool on', .int .u64 R', .int .i64 I', .slice aP s.P.length cP] rfl ?_; intro wq hrq htq)
  | fail)
 replace g1 := qae htq g1 (by omega)
 replace HY2 := Hid.mk (HY2.out.turn htq (fun i hi c => by have c' : i = w.heap.size := c; (try dsimp only at hi); omega))
 replace hB := qaf hB htq (by omega)
 replace g0 := hrq
 clear hrq htq
 generalize wq = w4 at *
 obtain ⟨k0, k1, k2, k3, k4, k5, k6, k7, k8⟩ := qal g0
 go_wp2_with (first
  | (refine qad rfl 34 _ _ rfl rfl (w.heap.size + 1) 0 _ #[.int .u64 S, vm, .int .i64 most, .slice a1 E'.length c1, .slice a2 K'.length c2, .bool on', .int .u64 R', .int .i64 I', .slice aP s.P.length cP] rfl rfl rfl 34 _ g1 (show 0 + 9 ≤ 9 by decide) qao (qdm HV1.out) #[.int .u64 S, vm, .int .i64 most, .slice a1 E'.length c1, .slice a2 K'.length c2, .bool on', .int .u64 R', .int .i64 I', .slice aP s.P.length cP] rfl ?_; intro wq hrq htq)
  | fail)
 refine bodyPost_ret (results_cell_row rfl _ wq (w.heap.size + 1) 34 #[.int .u64 S, vm, .int .i64 most, .slice a1 E'.length c1, .slice a2 K'.length c2, .bool on', .int .u64 R', .int .i64 I', .slice aP s.P.length cP] (0, 0) _ rfl hrq Tryz.underlying34 rfl qao) rfl ?_
 exact ⟨⟨vm, L, a1, c1, a2, c2, aP, cP, on', R', I'⟩, rfl, (HY2.out.turn htq (fun i hi c => by have c' : i = w.heap.size + 1 := c; (try dsimp only at hi); omega)).mono (fun i hi => by
  rcases hi with (hi | hi) | hi
  ·exact Or.inl hi.1
  ·exact Or.inr (by omega)
  ·exact Or.inr (by omega)), qaf hB htq (by omega)⟩
theorem yflush_va (h : YOk w B m s d) (hw : Wf most s) (i0 : Int) (va : Nat) (hva : va < 18446744073709551616) :
  Calls Tryz.prog 23 #[.agg (d.cs S most s), .int .i64 i0, .bool true, .int .u64 va] w fun r w' => ∃ d', r = .returned (.agg (d'.cs S most (flVa s i0 va))) ∧ YOk w' (fun g => B g ∨ w.heap.size ≤ g) m (flVa s i0 va) d' ∧ Below w.heap.size w w' := by
 have he := hw.el
 have hk := hw.kl
 have h64 := hw.m64
 exact yflush_mk h i0 true va _ _ (fun _ hb => TB.rflush_va s.E d.aE d.cE (h.later hb).re.rd (fun e q => (rentry (hw.er e q)).2.2.1) (by omega) i0 va hva) (fun _ hb => TR.rflush_va s.K d.aK d.cK (h.later hb).rk.rd (fun e q => TR.qej (hw.kr e q).2) (by omega) i0 va hva)
theorem yflush_as (h : YOk w B m s d) (hw : Wf most s) (i0 : Int) (h0 : 0 ≤ i0) :
  Calls Tryz.prog 23 #[.agg (d.cs S most s), .int .i64 i0, .bool false, .int .u64 0] w fun r w' => ∃ d', r = .returned (.agg (d'.cs S most (flAs s i0))) ∧ YOk w' (fun g => B g ∨ w.heap.size ≤ g) m (flAs s i0) d' ∧ Below w.heap.size w w' := by
 have he := hw.el
 have hk := hw.kl
 have h64 := hw.m64
 exact yflush_mk h i0 false 0 _ _ (fun _ hb => TB.rflush_as s.E d.aE d.cE (h.later hb).re.rd (by omega) i0 h0) (fun _ hb => TR.rflush_as s.K d.aK d.cK (h.later hb).rk.rd (by omega) i0 h0)
theorem rl_nil7 (w : World) : TB.RLst w none 0 [] := ⟨fun i hi => absurd hi (Nat.not_lt_zero _), Nat.le_refl _, by unfold maxLen; omega, Or.inl rfl, fun a ha => by cases ha⟩
theorem rl_nil8 (w : World) : TR.RLst w none 0 [] := ⟨fun i hi => absurd hi (Nat.not_lt_zero _), Nat.le_refl _, by unfold maxLen; omega, Or.inl rfl, fun a ha => by cases ha⟩
theorem yflush_all (h : YOk w B m s d) (hw : Wf most s) :
  Calls Tryz.prog 23 #[.agg (d.cs S most s), .int .i64 (-1), .bool false, .int .u64 0] w fun r w' => ∃ d', r = .returned (.agg (d'.cs S most (flAll s))) ∧ YOk w' (fun g => B g ∨ w.heap.size ≤ g) m (flAll s) d' ∧ Below w.heap.size w w' := by
 have he := hw.el
 have hk := hw.kl
 have h64 := hw.m64
 refine yflush_mk h (-1) false 0 [] [] (fun W hb => ?_) (fun W hb => ?_)
 ·exact (rall7 s.E.length (by omega) d.aE d.cE).mono (fun r w' q => ⟨none, 0, q.1, rl_nil7 _, (fun b hb => by cases hb), q.2⟩)
 ·exact (rall8 s.K.length (by omega) d.aK d.cK).mono (fun r w' q => ⟨none, 0, q.1, rl_nil8 _, (fun b hb => by cases hb), q.2⟩)
end
def kpI {α : Type} (g : Nat → α) (p : Nat → Bool) : Nat → List α
 | 0 => []
 | i + 1 => if p i = true then kpI g p i ++ [g i] else kpI g p i
theorem kp_len {α : Type} (g : Nat → α) (p : Nat → Bool) : ∀ i, (kpI g p i).length ≤ i
 | 0 => Nat.le_refl _
 | i + 1 => by
  have := kp_len g p i
  unfold kpI
  by_cases h : p i = true
  ·rw [if_pos h, List.length_append]; simp; omega
  ·rw [if_neg h]; omega
theorem kp_all {α : Type} (l : List α) (g : Nat → α) (hg : ∀ i, i < l.length → l.take (i + 1) = l.take i ++ [g i]) : ∀ i, i ≤ l.length → kpI g (fun _ => true) i = l.take i
 | 0, _ => rfl
 | i + 1, h => by
  unfold kpI
  rw [if_pos rfl, kp_all l g hg i (by omega), hg i (by omega)]
theorem kp_drop {α : Type} (l : List α) (g : Nat → α) (hg : ∀ i, i < l.length → l.take (i + 1) = l.take i ++ [g i]) (n : Int) : ∀ i, i ≤ l.length → kpI g (fun j => decide (¬ (j : Int) = n)) i = if n < 0 ∨ (i : Int) ≤ n then l.take i else (l.take i).eraseIdx n.toNat
 | 0, _ => by
  have e : kpI g (fun j => decide (¬ (j : Int) = n)) 0 = [] := rfl
  rw [e]
  by_cases h : n < 0 ∨ ((0 : Nat) : Int) ≤ n
  ·rw [if_pos h]; rfl
  ·omega
 | i + 1, h => by
  have ih := kp_drop l g hg n i (by omega)
  have hl : (l.take i).length = i := by rw [List.length_take]; omega
  unfold kpI
  by_cases hq : (i : Int) = n
  ·rw [if_neg (by simp [hq]), ih, if_pos (Or.inr (by omega)), if_neg (by omega), hg i (by omega), List.eraseIdx_append_of_length_le (by omega)]
   rw [hl, show n.toNat - i = 0 by omega]
   simp
  ·rw [if_pos (by simp [hq]), ih, hg i (by omega)]
   by_cases hc : n < 0 ∨ (i : Int) ≤ n
   ·rw [if_pos hc, if_pos (by omega)]
   ·rw [if_neg hc, if_neg (by omega), List.eraseIdx_append_of_lt_length (by omega)]
theorem kp_end {α : Type} (l : List α) (g : Nat → α) (hg : ∀ i, i < l.length → l.take (i + 1) = l.take i ++ [g i]) (n : Int) : kpI g (fun j => decide (¬ (j : Int) = n)) l.length = qce l n := by
 rw [kp_drop l g hg n l.length (Nat.le_refl _), List.take_length]
 unfold qce
 by_cases h0 : n < 0
 ·rw [if_pos (Or.inl h0), if_pos h0]
 ·by_cases h1 : (l.length : Int) ≤ n
  ·rw [if_pos (Or.inr h1), if_neg h0, List.eraseIdx_of_length_le (by omega)]
  ·rw [if_neg (by omega), if_neg h0]
theorem kp_all_end {α : Type} (l : List α) (g : Nat → α) (hg : ∀ i, i < l.length → l.take (i + 1) = l.take i ++ [g i]) : kpI g (fun _ => true) l.length = l := by
 rw [kp_all l g hg l.length (Nat.le_refl _), List.take_length]
section
variable {w w' : World} {B B' : Nat → Prop} {m S : Nat} {most : Int} {s : St} {d : Yd}
theorem zP48x01 {Z : Prop} (z : Z := by
 dsimp only at HY2
 generalize wr = W6 at *
 obtain ⟨-, -, -, -, k4, -, -, -, -⟩ := qal g0
 go_upto_region 14 with (first
  | (refine qad rfl 30 _ _ rfl rfl w.heap.size 3 _ #[.slice adE (KPE s.E.length).length capE] rfl rfl rfl 34 _ g0 (show 3 + 1 ≤ 9 by decide) info_s30 (by simp [Value.oneCell']) #[.int .u64 S, vm, .int .i64 most, .slice adE (KPE s.E.length).length capE, .slice aK s.K.length cK, .bool on', .int .u64 R', .int .i64 I', .slice aP s.P.length cP] rfl ?_; intro wq hrq htq)
  | fail)
 replace g1 := qae htq g1 (by omega)
 replace HY2 := Hid.mk (HY2.out.turn htq (fun i hi c => by have c' : i = w.heap.size := c; (try dsimp only at hi); have := HZ4.out; omega))
 replace HB2 := Hid.mk (qaf HB2.out htq (by omega))
 replace g0 := hrq
 clear hrq htq k4
 generalize wq = w5 at *
 go_upto_region 15 with (first
  | (refine qad rfl 31 _ _ rfl rfl w.heap.size 4 _ #[.slice adK (KPK s.K.length).length capK] rfl rfl rfl 34 _ g0 (show 4 + 1 ≤ 9 by decide) info_s31 (by simp [Value.oneCell']) #[.int .u64 S, vm, .int .i64 most, .slice adE (KPE s.E.length).length capE, .slice adK (KPK s.K.length).length capK, .bool on', .int .u64 R', .int .i64 I', .slice aP s.P.length cP] rfl ?_; intro wq hrq htq)
  | fail)
 replace g1 := qae htq g1 (by omega)
 replace HY2 := Hid.mk (HY2.out.turn htq (fun i hi c => by have c' : i = w.heap.size := c; (try dsimp only at hi); have := HZ4.out; omega))
 replace HB2 := Hid.mk (qaf HB2.out htq (by omega))
 replace g0 := hrq
 clear hrq htq
 generalize wq = w6 at *
 obtain ⟨k0, k1, k2, k3, k4, k5, k6, k7, k8⟩ := qal g0
 go_wp2_with (first
  | (refine qad rfl 34 _ _ rfl rfl (w.heap.size + 1) 0 _ #[.int .u64 S, vm, .int .i64 most, .slice adE (KPE s.E.length).length capE, .slice adK (KPK s.K.length).length capK, .bool on', .int .u64 R', .int .i64 I', .slice aP s.P.length cP] rfl rfl rfl 34 _ g1 (show 0 + 9 ≤ 9 by decide) qao (qdm HV1.out) #[.int .u64 S, vm, .int .i64 most, .slice adE (KPE s.E.length).length capE, .slice adK (KPK s.K.length).length capK, .bool on', .int .u64 R', .int .i64 I', .slice aP s.P.length cP] rfl ?_; intro wq hrq htq)
  | fail)
 refine bodyPost_ret (results_cell_row rfl _ wq (w.heap.size + 1) 34 #[.int .u64 S, vm, .int .i64 most, .slice adE (KPE s.E.length).length capE, .slice adK (KPK s.K.length).length capK, .bool on', .int .u64 R', .int .i64 I', .slice aP s.P.length cP] (0, 0) _ rfl hrq Tryz.underlying34 rfl qao) rfl ?_
 have HF := (HY2.out.turn htq (fun i hi c => by have c' : i = w.heap.size + 1 := c; (try dsimp only at hi); have := HZ4.out; omega)).mono (B' := fun g => B g ∨ w.heap.size ≤ g) (fun i hi => by
  rcases hi with (hi | hi) | hi
  ·exact Or.inl hi.1
  ·exact Or.inr (by have := HZ4.out; omega)
  ·exact Or.inr (by have := HZ4.out; omega))
 rw [AE.out, AK.out] at HF ⊢
 exact ⟨⟨vm, L, adE, capE, adK, capK, aP, cP, on', R', I'⟩, rfl, HF, qaf HB2.out htq (by omega)⟩) : Z := z
theorem zP48x02 {Z : Prop} (z : Z := by
 have HOq := Hid.mk HO.out
 clear hc hb hi hlt hg
 generalize (TB.gE s.E i) = y at *
 obtain ⟨b0, b1, b2, b3, b4, b5, b6, b7, b8, b9⟩ := y
 simp only at *
 go_wp2_with (first
  | (at_builtin
     refine TB.qbc TB.etyR _ rfl _ _ rfl W4.heap.size v (KPE i) rfl ((World.ownsRow.alloc HOq.out _)) [⟨b0, b1, b2, b3, b4, b5, b6, b7, b8, b9⟩] ⟨wr.heap.size, 0, none⟩ 1 rfl (fun j u hu => World.news_of_block (cs := #[.int .i64 b0, .int .u64 b1, .int .i64 b2, .int .i64 b3, .int .u64 b4, .bool b5, .bool b6, .bool b7, .bool b8, .int .i64 b9]) (t := 94) (fr := (0, 0)) (heap_alloc_new wr _) j u hu) Nat.zero_lt_one (by have := HKLi.out; show (KPE i).length + 1 ≤ 100000; omega) (by have := HB.out.size; simp; omega) _ rfl ?_
     intro g2 cap2 w4 hown4 hgrow hat hlt4
     have HO4 := Hid.mk hown4
     have HG4 := Hid.mk hgrow
     clear hown4 hgrow hat hlt4)
  | fail)
 go_roundw
 case rel =>
  refine ⟨i + 1, _, by have := HLT.out; omega, by go_num, rfl, TB.qcb HB.out (qac wr _) HOq.out (Nat.le_refl _) HG4.out, ?_⟩
  rw [HN2.out]
  exact HO4.out
 case measure => have := HLT.out; simp [RowKit.intOf]; omega) : Z := z
theorem zP48x03 {Z : Prop} (z : Z := by
 have HOq := Hid.mk HO.out
 clear hc hb hi hlt hg
 generalize (TR.gE s.K i) = y at *
 obtain ⟨b0, b1, b2, b3⟩ := y
 simp only at *
 go_wp2_with (first
  | (at_builtin
     refine TR.qbc TR.etyR _ rfl _ _ rfl W5.heap.size v (KPK i) rfl ((World.ownsRow.alloc HOq.out _)) [⟨b0, b1, b2, b3⟩] ⟨wr.heap.size, 0, none⟩ 1 rfl (fun j u hu => World.news_of_block (cs := #[.int .i64 b0, .int .u64 b1, .int .i64 b2, .int .u64 b3]) (t := 97) (fr := (0, 0)) (heap_alloc_new wr _) j u hu) Nat.zero_lt_one (by have := HKLi.out; show (KPK i).length + 1 ≤ 100000; omega) (by have := HB.out.size; simp; omega) _ rfl ?_
     intro g2 cap2 w4 hown4 hgrow hat hlt4
     have HO4 := Hid.mk hown4
     have HG4 := Hid.mk hgrow
     clear hown4 hgrow hat hlt4)
  | fail)
 go_roundw
 case rel =>
  refine ⟨i + 1, _, by have := HLT.out; omega, by go_num, rfl, TR.qcb HB.out (qac wr _) HOq.out (Nat.le_refl _) HG4.out, ?_⟩
  rw [HN2.out]
  exact HO4.out
 case measure => have := HLT.out; simp [RowKit.intOf]; omega) : Z := z
theorem zP48x05 {Z : Prop} (z : Z := by
 go_roundw
 case rel =>
  refine ⟨i + 1, _, by have := HLT.out; omega, by go_num, rfl, HB.out, ?_⟩
  rw [HY2.out]
  exact HO.out
 case measure => have := HLT.out; simp [RowKit.intOf]; omega) : Z := z
theorem ydrop_E (h : YOk w B m s d) (hw : Wf most s) (n0 : Int) :
  Calls Tryz.prog 20 #[.agg (d.cs S most s), .int .i64 n0, .bool false] w fun r w' => ∃ d', r = .returned (.agg (d'.cs S most { s with E := qce s.E n0 })) ∧ YOk w' (fun g => B g ∨ w.heap.size ≤ g) m { s with E := qce s.E n0 } d' ∧ Below w.heap.size w w' := by
 have he := hw.el
 have hk := hw.kl
 have h64 := hw.m64
 have hEl : s.E.length ≤ 900 := by omega
 have hKl : s.K.length ≤ 900 := by omega
 have HY : Hid (YOk w (fun g => B g ∧ g < w.heap.size) m s d) := Hid.mk h.tight
 have HV1 := Hid.mk h.vm1
 obtain ⟨KPE, hKPE⟩ : ∃ KP : Nat → List TB.En, KP = kpI (TB.gE s.E) (fun j => decide (¬ (j : Int) = n0)) := ⟨_, rfl⟩
 have ZE : Hid (KPE 0 = []) := by show _ = _; rw [hKPE]; rfl
 have LE : Hid (∀ i, i ≤ s.E.length → (KPE i).length ≤ 900) := fun i hi => by rw [hKPE]; have := kp_len (TB.gE s.E) (fun j => decide (¬ (j : Int) = n0)) i; omega
 have NE : Hid (∀ i : Nat, ¬ (i : Int) = n0 → KPE (i + 1) = KPE i ++ [TB.gE s.E i]) := fun i hq => by rw [hKPE]; show (if _ then _ else _) = _; rw [if_pos (by simp [hq])]
 have YE : Hid (∀ i : Nat, (i : Int) = n0 → KPE (i + 1) = KPE i) := fun i hq => by rw [hKPE]; show (if _ then _ else _) = _; rw [if_neg (by simp [hq])]
 have AE : Hid (KPE s.E.length = qce s.E n0) := by show _ = _; rw [hKPE]; exact kp_end s.E (TB.gE s.E) (fun i hi => TB.qat s.E i hi) n0
 clear hKPE
 obtain ⟨KPK, hKPK⟩ : ∃ KP : Nat → List TR.En, KP = kpI (TR.gE s.K) (fun _ => true) := ⟨_, rfl⟩
 have ZK : Hid (KPK 0 = []) := by show _ = _; rw [hKPK]; rfl
 have LK : Hid (∀ i, i ≤ s.K.length → (KPK i).length ≤ 900) := fun i hi => by rw [hKPK]; have := kp_len (TR.gE s.K) (fun _ => true) i; omega
 have NK : Hid (∀ i : Nat, KPK (i + 1) = KPK i ++ [TR.gE s.K i]) := fun i => by rw [hKPK]; rfl
 have AK : Hid (KPK s.K.length = s.K) := by show _ = _; rw [hKPK]; exact kp_all_end s.K (TR.gE s.K) (fun i hi => TR.qat s.K i hi)
 clear hKPK
 have hEI : (s.E.length : Int) ≤ 900 := by omega
 have hKI : (s.K.length : Int) ≤ 900 := by omega
 clear h hw he hk h64 hEl hKl
 obtain ⟨vm, L, aE, cE, aK, cK, aP, cP, on', R', I'⟩ := d
 dsimp only at HV1
 obtain ⟨W4, hW4, g0, g1, hB, hsz⟩ := hp2 w (.cells #[.int .u64 S, vm, .int .i64 most, .slice aE s.E.length cE, .slice aK s.K.length cK, .bool on', .int .u64 R', .int .i64 I', .slice aP s.P.length cP] 34) (.cells #[.int .u64 0, .slice none 0 0, .int .i64 0, .slice none 0 0, .slice none 0 0, .bool false, .int .u64 0, .int .i64 0, .slice none 0 0] 34)
 go_enter Tryz.func20, Tryz.ntmps20
 go_upto_region 1 with fail
 (try rw [hW4])
 clear hW4
 replace HY := Hid.mk (HY.out.later hB)
 have HZ4 := Hid.mk hsz
 have HE := Hid.mk HY.out.re.rd
 have HK := Hid.mk HY.out.rk.rd
 obtain ⟨-, -, -, k3, k4, -, -, -, -⟩ := qal g0
 go_wp2
 go_loopw [7, 8] (fun s7 s8 wr => ∃ (i : Nat) (v : Value), i ≤ s.E.length ∧ s8 = .int .i64 i ∧ v = s7 ∧ Below W4.heap.size W4 wr ∧ wr.ownsRow W4.heap.size 94 10 v (KPE i).length (TB.ecs (KPE i))) (fun _ s8 _ => s.E.length - (RowKit.intOf s8).toNat)
 case atStart =>
  refine ⟨0, _, by omega, rfl, rfl, Below.refl _ _, ?_⟩
  rw [ZE.out]
  exact World.ownsRow_nil _ _ _ _
 case round =>
  obtain ⟨i, v, hi, rfl, rfl, hb, hown⟩ := hrel
  have HB := Hid.mk hb
  have HO := Hid.mk hown
  have HKLi := Hid.mk (LE.out i hi)
  clear hown
  have c3 := cell_later hb k3
  by_cases hlt : i < s.E.length
  ·have hlt2 : (i : Int) < s.E.length := by omega
   have HLT := Hid.mk hlt
   have hib : (i : Int) < 1000 := by omega
   obtain ⟨g, o, e0, hg, hc⟩ := HE.out i hlt
   (try simp only at e0)
   subst e0
   have d0 := cell_later hb (hc 0 _ rfl)
   have d1 := cell_later hb (hc 1 _ rfl)
   have d2 := cell_later hb (hc 2 _ rfl)
   have d3 := cell_later hb (hc 3 _ rfl)
   have d4 := cell_later hb (hc 4 _ rfl)
   have d5 := cell_later hb (hc 5 _ rfl)
   have d6 := cell_later hb (hc 6 _ rfl)
   have d7 := cell_later hb (hc 7 _ rfl)
   have d8 := cell_later hb (hc 8 _ rfl)
   have d9 := cell_later hb (hc 9 _ rfl)
   rw [Nat.add_zero] at d0
   by_cases hq : (i : Int) = n0
   ·have dq : ((i : Int) != n0) = false := by rw [bne_eq_false_iff_eq]; exact hq
    have HY2 := Hid.mk (YE.out i hq)
    clear hc hb hi hlt hg hq
    go_wp2
    exact zP48x05
   ·have dq : ((i : Int) != n0) = true := by rw [bne_iff_ne]; exact hq
    have HN2 := Hid.mk (NE.out i hq)
    exact zP48x02
  ·have hlt2 : ¬ (i : Int) < s.E.length := by omega
   obtain rfl : i = s.E.length := by omega
   have HO2 := HO.out
   obtain ⟨adE, capE, rfl, hRE, hNE⟩ := TB.own_rl HO2
   clear hlt hi HO HO2 HKLi
   have HY1 := Hid.mk (HY.out.setE hRE HB.out (Or.inr (fun a ha => (hNE a ha).1)))
   obtain ⟨g0, g1⟩ := bl2 HB.out g0 g1
   have HB1 := Hid.mk (qab hB HB.out)
   have hsz1 := Nat.le_trans (Nat.le_of_eq hsz.symm) HB.out.size
   clear hB hsz HY hRE hNE HB HE ZE LE NE YE k3 k4 c3 hlt2 hb
   dsimp only at HY1
   replace HK := Hid.mk HY1.out.rk.rd
   obtain ⟨-, -, -, k3, k4, -, -, -, -⟩ := qal g0
   generalize wr = W5 at *
   go_wp2
   go_loopw [9, 10] (fun s9 s10 wr => ∃ (i : Nat) (v : Value), i ≤ s.K.length ∧ s10 = .int .i64 i ∧ v = s9 ∧ Below W5.heap.size W5 wr ∧ wr.ownsRow W5.heap.size 97 4 v (KPK i).length (TR.ecs (KPK i))) (fun _ s10 _ => s.K.length - (RowKit.intOf s10).toNat)
   case atStart =>
    refine ⟨0, _, by omega, rfl, rfl, Below.refl _ _, ?_⟩
    rw [ZK.out]
    exact World.ownsRow_nil _ _ _ _
   case round =>
    obtain ⟨i, v, hi, rfl, rfl, hb, hown⟩ := hrel
    have HB := Hid.mk hb
    have HO := Hid.mk hown
    have HKLi := Hid.mk (LK.out i hi)
    clear hown
    have c4 := cell_later hb k4
    by_cases hlt : i < s.K.length
    ·have hlt2 : (i : Int) < s.K.length := by omega
     have HLT := Hid.mk hlt
     have hib : (i : Int) < 1000 := by omega
     obtain ⟨g, o, e0, hg, hc⟩ := HK.out i hlt
     (try simp only at e0)
     subst e0
     have d0 := cell_later hb (hc 0 _ rfl)
     have d1 := cell_later hb (hc 1 _ rfl)
     have d2 := cell_later hb (hc 2 _ rfl)
     have d3 := cell_later hb (hc 3 _ rfl)
     rw [Nat.add_zero] at d0
     have HN2 := Hid.mk (NK.out i)
     exact zP48x03
    ·have hlt2 : ¬ (i : Int) < s.K.length := by omega
     obtain rfl : i = s.K.length := by omega
     have HO2 := HO.out
     obtain ⟨adK, capK, rfl, hRK, hNK⟩ := TR.own_rl HO2
     clear hlt hi HO HO2 HKLi
     have HY2 := Hid.mk (HY1.out.setK hRK HB.out (Or.inr (fun a ha => (hNK a ha).1)))
     obtain ⟨g0, g1⟩ := bl2 HB.out g0 g1
     have hs2 : w.heap.size + 1 < W5.heap.size := hsz1
     have HB2 := Hid.mk (qab HB1.out HB.out)
     clear HB1 HY1 hRK hNK HB HK ZK LK NK k3 k4 c4 hlt2 hb
     exact zP48x01
theorem ydrop_K (h : YOk w B m s d) (hw : Wf most s) (n0 : Int) :
  Calls Tryz.prog 20 #[.agg (d.cs S most s), .int .i64 n0, .bool true] w fun r w' => ∃ d', r = .returned (.agg (d'.cs S most { s with K := qce s.K n0 })) ∧ YOk w' (fun g => B g ∨ w.heap.size ≤ g) m { s with K := qce s.K n0 } d' ∧ Below w.heap.size w w' := by
 have he := hw.el
 have hk := hw.kl
 have h64 := hw.m64
 have hEl : s.E.length ≤ 900 := by omega
 have hKl : s.K.length ≤ 900 := by omega
 have HY : Hid (YOk w (fun g => B g ∧ g < w.heap.size) m s d) := Hid.mk h.tight
 have HV1 := Hid.mk h.vm1
 obtain ⟨KPE, hKPE⟩ : ∃ KP : Nat → List TB.En, KP = kpI (TB.gE s.E) (fun _ => true) := ⟨_, rfl⟩
 have ZE : Hid (KPE 0 = []) := by show _ = _; rw [hKPE]; rfl
 have LE : Hid (∀ i, i ≤ s.E.length → (KPE i).length ≤ 900) := fun i hi => by rw [hKPE]; have := kp_len (TB.gE s.E) (fun _ => true) i; omega
 have NE : Hid (∀ i : Nat, KPE (i + 1) = KPE i ++ [TB.gE s.E i]) := fun i => by rw [hKPE]; rfl
 have AE : Hid (KPE s.E.length = s.E) := by show _ = _; rw [hKPE]; exact kp_all_end s.E (TB.gE s.E) (fun i hi => TB.qat s.E i hi)
 clear hKPE
 obtain ⟨KPK, hKPK⟩ : ∃ KP : Nat → List TR.En, KP = kpI (TR.gE s.K) (fun j => decide (¬ (j : Int) = n0)) := ⟨_, rfl⟩
 have ZK : Hid (KPK 0 = []) := by show _ = _; rw [hKPK]; rfl
 have LK : Hid (∀ i, i ≤ s.K.length → (KPK i).length ≤ 900) := fun i hi => by rw [hKPK]; have := kp_len (TR.gE s.K) (fun j => decide (¬ (j : Int) = n0)) i; omega
 have NK : Hid (∀ i : Nat, ¬ (i : Int) = n0 → KPK (i + 1) = KPK i ++ [TR.gE s.K i]) := fun i hq => by rw [hKPK]; show (if _ then _ else _) = _; rw [if_pos (by simp [hq])]
 have YK : Hid (∀ i : Nat, (i : Int) = n0 → KPK (i + 1) = KPK i) := fun i hq => by rw [hKPK]; show (if _ then _ else _) = _; rw [if_neg (by simp [hq])]
 have AK : Hid (KPK s.K.length = qce s.K n0) := by show _ = _; rw [hKPK]; exact kp_end s.K (TR.gE s.K) (fun i hi => TR.qat s.K i hi) n0
 clear hKPK
 have hEI : (s.E.length : Int) ≤ 900 := by omega
 have hKI : (s.K.length : Int) ≤ 900 := by omega
 clear h hw he hk h64 hEl hKl
 obtain ⟨vm, L, aE, cE, aK, cK, aP, cP, on', R', I'⟩ := d
 dsimp only at HV1
 obtain ⟨W4, hW4, g0, g1, hB, hsz⟩ := hp2 w (.cells #[.int .u64 S, vm, .int .i64 most, .slice aE s.E.length cE, .slice aK s.K.length cK, .bool on', .int .u64 R', .int .i64 I', .slice aP s.P.length cP] 34) (.cells #[.int .u64 0, .slice none 0 0, .int .i64 0, .slice none 0 0, .slice none 0 0, .bool false, .int .u64 0, .int .i64 0, .slice none 0 0] 34)
 go_enter Tryz.func20, Tryz.ntmps20
 go_upto_region 1 with fail
 (try rw [hW4])
 clear hW4
 replace HY := Hid.mk (HY.out.later hB)
 have HZ4 := Hid.mk hsz
 have HE := Hid.mk HY.out.re.rd
 have HK := Hid.mk HY.out.rk.rd
 obtain ⟨-, -, -, k3, k4, -, -, -, -⟩ := qal g0
 go_wp2
 go_loopw [7, 8] (fun s7 s8 wr => ∃ (i : Nat) (v : Value), i ≤ s.E.length ∧ s8 = .int .i64 i ∧ v = s7 ∧ Below W4.heap.size W4 wr ∧ wr.ownsRow W4.heap.size 94 10 v (KPE i).length (TB.ecs (KPE i))) (fun _ s8 _ => s.E.length - (RowKit.intOf s8).toNat)
 case atStart =>
  refine ⟨0, _, by omega, rfl, rfl, Below.refl _ _, ?_⟩
  rw [ZE.out]
  exact World.ownsRow_nil _ _ _ _
 case round =>
  obtain ⟨i, v, hi, rfl, rfl, hb, hown⟩ := hrel
  have HB := Hid.mk hb
  have HO := Hid.mk hown
  have HKLi := Hid.mk (LE.out i hi)
  clear hown
  have c3 := cell_later hb k3
  by_cases hlt : i < s.E.length
  ·have hlt2 : (i : Int) < s.E.length := by omega
   have HLT := Hid.mk hlt
   have hib : (i : Int) < 1000 := by omega
   obtain ⟨g, o, e0, hg, hc⟩ := HE.out i hlt
   (try simp only at e0)
   subst e0
   have d0 := cell_later hb (hc 0 _ rfl)
   have d1 := cell_later hb (hc 1 _ rfl)
   have d2 := cell_later hb (hc 2 _ rfl)
   have d3 := cell_later hb (hc 3 _ rfl)
   have d4 := cell_later hb (hc 4 _ rfl)
   have d5 := cell_later hb (hc 5 _ rfl)
   have d6 := cell_later hb (hc 6 _ rfl)
   have d7 := cell_later hb (hc 7 _ rfl)
   have d8 := cell_later hb (hc 8 _ rfl)
   have d9 := cell_later hb (hc 9 _ rfl)
   rw [Nat.add_zero] at d0
   have HN2 := Hid.mk (NE.out i)
   exact zP48x02
  ·have hlt2 : ¬ (i : Int) < s.E.length := by omega
   obtain rfl : i = s.E.length := by omega
   have HO2 := HO.out
   obtain ⟨adE, capE, rfl, hRE, hNE⟩ := TB.own_rl HO2
   clear hlt hi HO HO2 HKLi
   have HY1 := Hid.mk (HY.out.setE hRE HB.out (Or.inr (fun a ha => (hNE a ha).1)))
   obtain ⟨g0, g1⟩ := bl2 HB.out g0 g1
   have HB1 := Hid.mk (qab hB HB.out)
   have hsz1 := Nat.le_trans (Nat.le_of_eq hsz.symm) HB.out.size
   clear hB hsz HY hRE hNE HB HE ZE LE NE k3 k4 c3 hlt2 hb
   dsimp only at HY1
   replace HK := Hid.mk HY1.out.rk.rd
   obtain ⟨-, -, -, k3, k4, -, -, -, -⟩ := qal g0
   generalize wr = W5 at *
   go_wp2
   go_loopw [9, 10] (fun s9 s10 wr => ∃ (i : Nat) (v : Value), i ≤ s.K.length ∧ s10 = .int .i64 i ∧ v = s9 ∧ Below W5.heap.size W5 wr ∧ wr.ownsRow W5.heap.size 97 4 v (KPK i).length (TR.ecs (KPK i))) (fun _ s10 _ => s.K.length - (RowKit.intOf s10).toNat)
   case atStart =>
    refine ⟨0, _, by omega, rfl, rfl, Below.refl _ _, ?_⟩
    rw [ZK.out]
    exact World.ownsRow_nil _ _ _ _
   case round =>
    obtain ⟨i, v, hi, rfl, rfl, hb, hown⟩ := hrel
    have HB := Hid.mk hb
    have HO := Hid.mk hown
    have HKLi := Hid.mk (LK.out i hi)
    clear hown
    have c4 := cell_later hb k4
    by_cases hlt : i < s.K.length
    ·have hlt2 : (i : Int) < s.K.length := by omega
     have HLT := Hid.mk hlt
     have hib : (i : Int) < 1000 := by omega
     obtain ⟨g, o, e0, hg, hc⟩ := HK.out i hlt
     (try simp only at e0)
     subst e0
     have d0 := cell_later hb (hc 0 _ rfl)
     have d1 := cell_later hb (hc 1 _ rfl)
     have d2 := cell_later hb (hc 2 _ rfl)
     have d3 := cell_later hb (hc 3 _ rfl)
     rw [Nat.add_zero] at d0
     by_cases hq : (i : Int) = n0
     ·have dq : ((i : Int) != n0) = false := by rw [bne_eq_false_iff_eq]; exact hq
      have HY2 := Hid.mk (YK.out i hq)
      clear hc hb hi hlt hg hq
      go_wp2
      exact zP48x05
     ·have dq : ((i : Int) != n0) = true := by rw [bne_iff_ne]; exact hq
      have HN2 := Hid.mk (NK.out i hq)
      exact zP48x03
    ·have hlt2 : ¬ (i : Int) < s.K.length := by omega
     obtain rfl : i = s.K.length := by omega
     have HO2 := HO.out
     obtain ⟨adK, capK, rfl, hRK, hNK⟩ := TR.own_rl HO2
     clear hlt hi HO HO2 HKLi
     have HY2 := Hid.mk (HY1.out.setK hRK HB.out (Or.inr (fun a ha => (hNK a ha).1)))
     obtain ⟨g0, g1⟩ := bl2 HB.out g0 g1
     have hs2 : w.heap.size + 1 < W5.heap.size := hsz1
     have HB2 := Hid.mk (qab HB1.out HB.out)
     clear HB1 HY1 hRK hNK HB HK ZK LK NK YK k3 k4 c4 hlt2 hb
     exact zP48x01
end
end Go.Proofs.YtfdbdeckohaneaaGreatDoor.MM
