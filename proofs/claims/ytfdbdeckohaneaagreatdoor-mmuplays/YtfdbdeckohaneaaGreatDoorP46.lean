/- P46 -/
import Derived.Test.YtfdbdeckohaneaaGreatDoorP45
set_option maxHeartbeats 16000000
set_option maxRecDepth 100000
namespace Go.Proofs.YtfdbdeckohaneaaGreatDoor.MM
open Go.RowKit Go.Maps
theorem qcq : (Tryz.prog.info? 65).map (·.size) = some 2 := by kernel_rfl
theorem info_M3 : (Tryz.prog.info? 29).map (·.size) = some 2 := by kernel_rfl
theorem results_cct {fn : Func} {p q u : Tmp} {ty ty' : TypeId} (h : fn.results = #[.cell p ty, .cell q ty', .tmp u]) (tmps : Array Value) (P : Program) (w : World) :
  (results fn tmps).run P w =
   ((asAddr (tmps.getD p undef)).run P w).andThen fun a w₁ => ((loadVar ty a).run P w₁).andThen fun v w₂ => ((asAddr (tmps.getD q undef)).run P w₂).andThen fun a' w₃ => ((loadVar ty' a').run P w₃).andThen fun v' w₄ => .ok (.tuple #[v, v', tmps.getD u undef]) w₄ := by
 simp only [results, h]
 simp [Sem.run_bind, Result.andThen]
theorem qfa {P : Program} {fn : Func} {p q u : Tmp} {ty ty' : TypeId} (h : fn.results = #[.cell p ty, .cell q ty', .tmp u]) (tmps : Array Value) (w : World) (g g' : Nat) (t t' : TypeId) (cs cs' : Array Value) (fr fr' : Nat × Nat) (d d' : TypeDesc)
  (hp : tmps.getD p undef = .pointer (some ⟨g, 0, none⟩)) (hg : w.heap[g]? = some (.cells cs t fr))
  (hu : P.underlying ty = some d) (hd : (match d with | .struct _ | .array _ _ => true | _ => false) = true) (hi : (P.info? ty).map (·.size) = some cs.size)
  (hq : tmps.getD q undef = .pointer (some ⟨g', 0, none⟩)) (hg' : w.heap[g']? = some (.cells cs' t' fr'))
  (hu' : P.underlying ty' = some d') (hd' : (match d' with | .struct _ | .array _ _ => true | _ => false) = true) (hi' : (P.info? ty').map (·.size) = some cs'.size) :
  (results fn tmps).run P w = .ok (.tuple #[.agg cs, .agg cs', tmps.getD u undef]) w := by
 rw [results_cct h, hp, hq]
 simp [asAddr, run_loadVar_row w g t ty cs fr d hg hu hd hi, run_loadVar_row w g' t' ty' cs' fr' d' hg' hu' hd' hi', Result.andThen]
theorem cells10y {w : World} {g t : Nat} {c0 c1 c2 c3 c4 c5 c6 c7 c8 c9 : Value} (hh : w.heap[g]? = some (.cells #[c0, c1, c2, c3, c4, c5, c6, c7, c8, c9] t (0, 0))) : w.cell? ⟨g, 0, none⟩ = some c0 ∧ w.cell? ⟨g, 1, none⟩ = some c1 ∧ w.cell? ⟨g, 2, none⟩ = some c2 ∧ w.cell? ⟨g, 3, none⟩ = some c3 ∧ w.cell? ⟨g, 4, none⟩ = some c4 ∧ w.cell? ⟨g, 5, none⟩ = some c5 ∧ w.cell? ⟨g, 6, none⟩ = some c6 ∧ w.cell? ⟨g, 7, none⟩ = some c7 ∧ w.cell? ⟨g, 8, none⟩ = some c8 ∧ w.cell? ⟨g, 9, none⟩ = some c9 := by
 refine ⟨?_, ?_, ?_, ?_, ?_, ?_, ?_, ?_, ?_, ?_⟩
 all_goals (rw [cell_of_row _ _ _ _ _ _ hh]; rfl)
theorem fd_in {s : St} {I va : Nat} (h : fdN s I va = 1) : fdE s I va ∈ s.E := by
 unfold fdN TB.cntE at h
 unfold fdE TB.fndE
 cases hq : s.E.filter (fun e => TB.mB e (I : Int) va) with
 | nil => rw [hq] at h; cases h
 | cons x l =>
  have hx : x ∈ s.E.filter (fun e => TB.mB e (I : Int) va) := by rw [hq]; exact List.mem_cons_self
  exact (List.mem_filter.1 hx).1
theorem wk_lv {S : Nat} {f : Nat → Nat} {l0 : Int} {tb va : Nat} (h : (ftR (wk0 S f l0 tb va).2).1 = 0) : isLv (lfR (wk0 S f l0 tb va).2).l = true ∧ (lfR (wk0 S f l0 tb va).2).o < 281474976710656 ∧ (ftR (wk0 S f l0 tb va).2).2 = 0 := by
 have h1 : (wk0 S f l0 tb va).2.1 = 0 := by
  unfold ftR at h
  split at h
  ·assumption
  ·exact h
 have hw : (wk0 S f l0 tb va).2 = (0, (wk0 S f l0 tb va).2.2.1, (wk0 S f l0 tb va).2.2.2) := Prod.ext h1 rfl
 have hl := (wk0_leaf hw).2.2.2.2.1
 rw [hw]
 exact ⟨hl, rdO_48 _, rfl⟩
section
variable {w : World} {B : Nat → Prop} {m S : Nat} {most : Int} {s : St} {d : Yd}
theorem pfd (h : YOk w B m s d) (hw : Wf most s) (I va : Nat) (hva : va < 18446744073709551616) : Hid (∀ W, Below w.heap.size w W → Calls Tryz.prog 55 #[.slice d.aE s.E.length d.cE, .int .i64 I, .int .u64 va] W fun r w' => r = .returned (.tuple #[(fdE s I va).v, .int .i64 ((fdN s I va : Nat) : Int)]) ∧ Below W.heap.size W w') := Hid.mk (fun _ hb => qen (h.later hb) hw I va hva)
theorem yread_c (h : YOk w B m s d) (hf : Fm S s.f) (hm : m < 1000000) (x : Nat) :
  Calls Tryz.prog 59 #[.agg #[.int .u64 S, d.vm], .int .u64 x] w fun e w' => e = .returned (.tuple #[.int .u64 (s.f x : Nat), .int .i64 (errA S x)]) ∧ Below w.heap.size w w' :=
 rread_c h.psl h.ref (by have := h.len; omega) x (hf.outs x)
theorem ywrite_c (h : YOk w B m s d) (hm : m < 1000000) (x v : Nat) :
  Calls Tryz.prog 15 #[.agg #[.int .u64 S, d.vm], .int .u64 x, .int .u64 v] w fun e w' => ∃ v' L', e = .returned (.tuple #[.agg #[.int .u64 S, v'], .int .i64 (errA S x)]) ∧ v'.oneCell' = true ∧ YOk w' (fun g => B g ∨ w.heap.size ≤ g) (m + 1) { s with f := wrF s.f S x v } { d with vm := v', L := L' } ∧ Below w.heap.size w w' := by
 refine (rwrite_c h.psl (by have := h.len; omega) x v).mono ?_
 rintro e w1 ⟨v', rfl, hp, hb⟩
 have h2 := (h.later hb).mono (B' := fun g => B g ∨ w.heap.size ≤ g) (fun _ hi => Or.inl hi)
 refine ⟨v', _, rfl, ?_, ⟨?_, ?_, hp, h2.re, h2.rk, h2.rp, h2.be, h2.bk, h2.bp, h2.on, h2.rg⟩, hb⟩
 ·obtain ⟨p, c, e, -⟩ := hp.form
  rw [e]; rfl
 ·show Ref (if errA S x = 0 then outW x v d.L else d.L) (wrF s.f S x v)
  unfold wrF
  split
  ·exact h.ref.write x v
  ·exact h.ref
 ·show (if errA S x = 0 then outW x v d.L else d.L).length ≤ m + 1
  have h1 := outW_len x v d.L
  have h3 := h.len
  split <;> omega
theorem zP46x05 {Z : Prop} (z : Z := by
 refine bodyPost_ret (qfa (p := 10) (q := 11) (u := 12) rfl _ _ (w.heap.size + 1 + 1) (w.heap.size + 1 + 1 + 1) _ _ _ _ _ _ _ _ rfl g2 Tryz.underlying34 rfl qao rfl g3 Tryz.underlying65 rfl qcq) rfl ?_
 rw [HAF.out, HAW.out, HAS.out]
 first
 | exact ⟨_, rfl, (HY.out.mono (fun i hi => Or.inl hi.1)).up (Nat.le_succ _), hB⟩
 | exact ⟨_, rfl, (HY.out.mono (fun i hi => by rcases hi with ⟨hi | hi, -⟩; exact Or.inl hi.1; exact Or.inr (by omega))).up (Nat.le_succ _), hB⟩) : Z := z
theorem yacc_U (h : YOk w B m s d) (kind : Int) (va v : Nat) (hva : va < 18446744073709551616) (hn : Hn) (h8 : ¬ (va : Int) % 8 = 0) :
  Calls Tryz.prog 17 #[.agg (d.cs S most s), .int .i64 kind, .int .u64 va, .int .u64 v, hn.v] w fun r w' => ∃ d', r = .returned (.tuple #[.agg (d'.cs S most (accS S most s kind va v hn)), .agg #[.int .i64 (accF (qai S s va hn) kind).1, .int .i64 (accF (qai S s va hn) kind).2], .int .u64 (accW s.f (qai S s va hn) kind va : Nat)]) ∧ YOk w' (fun g => B g ∨ w.heap.size ≤ g) (m + 1) (accS S most s kind va v hn) d' ∧ Below w.heap.size w w' := by
 have hal : qaq va 3 = false := by rw [show qaq va 3 = qaq va ((3 : Nat) : Int) from rfl, qbl va (by omega) (by omega)]; exact decide_eq_false (by omega)
 have HAF : Hid (accF (qai S s va hn) kind = (5, 0)) := by show _ = _; unfold qai; rw [if_pos hal]; rfl
 have HAW : Hid (accW s.f (qai S s va hn) kind va = 0) := by show _ = _; unfold accW; rw [HAF.out]; rfl
 have HAS : Hid (accS S most s kind va v hn = s) := by show _ = _; unfold accS accM; rw [HAF.out]; unfold qba; rw [if_pos hal]; rfl
 have HY : Hid (YOk w (fun g => B g ∧ g < w.heap.size) m s d) := Hid.mk h.tight
 have HV1 := Hid.mk h.vm1
 clear h hal
 obtain ⟨vm, L, aE, cE, aK, cK, aP, cP, on', R', I'⟩ := d
 obtain ⟨b0', b1', b2'⟩ := hn
 generalize accS S most s kind va v ⟨b0', b1', b2'⟩ = sA at *
 generalize accF (qai S s va ⟨b0', b1', b2'⟩) kind = FA at *
 generalize accW s.f (qai S s va ⟨b0', b1', b2'⟩) kind va = WA at *
 obtain ⟨W4, hW4, g0, g1, g2, g3, hB, hsz⟩ := hp4 w (.cells #[.int .u64 S, vm, .int .i64 most, .slice aE s.E.length cE, .slice aK s.K.length cK, .bool on', .int .u64 R', .int .i64 I', .slice aP s.P.length cP] 34) (.cells #[.bool b0', .bool b1', .bool b2'] 64) (.cells #[.int .u64 0, .slice none 0 0, .int .i64 0, .slice none 0 0, .slice none 0 0, .bool false, .int .u64 0, .int .i64 0, .slice none 0 0] 34) (.cells #[.int .i64 0, .int .i64 0] 65)
 replace hsz := Nat.le_of_eq hsz.symm
 go_enter Tryz.func17, Tryz.ntmps17
 go_upto_region 1 with fail
 (try rw [hW4])
 clear hW4
 replace HY := Hid.mk (HY.out.later hB)
 obtain ⟨c0, c1, c2, c3, c4, c5, c6, c7, c8⟩ := qal g0
 obtain ⟨d0, d1, d2⟩ := qan g1
 go_wp2_with
  first
  | (refine qad rfl 34 _ _ rfl rfl (w.heap.size + 1 + 1) 0 _ #[.int .u64 S, vm, .int .i64 most, .slice aE s.E.length cE, .slice aK s.K.length cK, .bool on', .int .u64 R', .int .i64 I', .slice aP s.P.length cP] rfl rfl rfl 34 _ g2 (show 0 + 9 ≤ 9 by decide) qao (all_oneCell_toArray (fun u hu => by simp only [List.mem_cons, List.not_mem_nil, or_false] at hu; rcases hu with rfl | rfl | rfl | rfl | rfl | rfl | rfl | rfl | rfl <;> first | rfl | exact HV1.out)) #[.int .u64 S, vm, .int .i64 most, .slice aE s.E.length cE, .slice aK s.K.length cK, .bool on', .int .u64 R', .int .i64 I', .slice aP s.P.length cP] rfl ?_
     intro wa hrq htq
     replace g3 := qae htq g3 (by omega)
     replace HY := Hid.mk (HY.out.turn htq (fun i hi c => by have c' : i = w.heap.size + 1 + 1 := c; (try dsimp only at hi); omega))
     replace hB := qaf hB htq (by omega)
     replace g2 := hrq
     clear hrq htq)
  | (refine qad rfl 65 _ _ rfl rfl (w.heap.size + 1 + 1 + 1) 0 _ #[.int .i64 5, .int .i64 0] rfl rfl rfl 65 _ g3 (show 0 + 2 ≤ 2 by decide) qcq (by simp [Value.oneCell']) #[.int .i64 5, .int .i64 0] rfl ?_
     intro wb hrq htq
     replace g2 := qae htq g2 (by omega)
     replace HY := Hid.mk (HY.out.turn htq (fun i hi c => by have c' : i = w.heap.size + 1 + 1 + 1 := c; (try dsimp only at hi); omega))
     replace hB := qaf hB htq (by omega)
     replace g3 := hrq
     clear hrq htq)
  | fail
 exact zP46x05
theorem yacc_O (h : YOk w B m s d) (kind : Int) (va v : Nat) (hva : va < 18446744073709551616) (hn : Hn) (h8 : (va : Int) % 8 = 0) (hg : s.rg = none) :
  Calls Tryz.prog 17 #[.agg (d.cs S most s), .int .i64 kind, .int .u64 va, .int .u64 v, hn.v] w fun r w' => ∃ d', r = .returned (.tuple #[.agg (d'.cs S most (accS S most s kind va v hn)), .agg #[.int .i64 (accF (qai S s va hn) kind).1, .int .i64 (accF (qai S s va hn) kind).2], .int .u64 (accW s.f (qai S s va hn) kind va : Nat)]) ∧ YOk w' (fun g => B g ∨ w.heap.size ≤ g) (m + 1) (accS S most s kind va v hn) d' ∧ Below w.heap.size w w' := by
 have hal : ¬ qaq va 3 = false := by rw [show qaq va 3 = qaq va ((3 : Nat) : Int) from rfl, qbl va (by omega) (by omega), decide_eq_true (by omega)]; decide
 have HAF : Hid (accF (qai S s va hn) kind = (1, 0)) := by show _ = _; unfold qai; rw [if_neg hal, hg]; rfl
 have HAW : Hid (accW s.f (qai S s va hn) kind va = 0) := by show _ = _; unfold accW; rw [HAF.out]; rfl
 have HAS : Hid (accS S most s kind va v hn = s) := by show _ = _; unfold accS accM; rw [HAF.out]; unfold qba; rw [if_neg hal, hg]; rfl
 have e3 : false = d.on := by have := h.on; rw [hg] at this; exact this.symm
 have HY : Hid (YOk w (fun g => B g ∧ g < w.heap.size) m s d) := Hid.mk h.tight
 have HV1 := Hid.mk h.vm1
 clear h hal hg
 obtain ⟨vm, L, aE, cE, aK, cK, aP, cP, on', R', I'⟩ := d
 obtain ⟨b0', b1', b2'⟩ := hn
 dsimp only at e3
 subst e3
 generalize accS S most s kind va v ⟨b0', b1', b2'⟩ = sA at *
 generalize accF (qai S s va ⟨b0', b1', b2'⟩) kind = FA at *
 generalize accW s.f (qai S s va ⟨b0', b1', b2'⟩) kind va = WA at *
 obtain ⟨W4, hW4, g0, g1, g2, g3, hB, hsz⟩ := hp4 w (.cells #[.int .u64 S, vm, .int .i64 most, .slice aE s.E.length cE, .slice aK s.K.length cK, .bool false, .int .u64 R', .int .i64 I', .slice aP s.P.length cP] 34) (.cells #[.bool b0', .bool b1', .bool b2'] 64) (.cells #[.int .u64 0, .slice none 0 0, .int .i64 0, .slice none 0 0, .slice none 0 0, .bool false, .int .u64 0, .int .i64 0, .slice none 0 0] 34) (.cells #[.int .i64 0, .int .i64 0] 65)
 replace hsz := Nat.le_of_eq hsz.symm
 go_enter Tryz.func17, Tryz.ntmps17
 go_upto_region 1 with fail
 (try rw [hW4])
 clear hW4
 replace HY := Hid.mk (HY.out.later hB)
 obtain ⟨c0, c1, c2, c3, c4, c5, c6, c7, c8⟩ := qal g0
 obtain ⟨d0, d1, d2⟩ := qan g1
 go_wp2_with
  first
  | (refine qad rfl 34 _ _ rfl rfl (w.heap.size + 1 + 1) 0 _ #[.int .u64 S, vm, .int .i64 most, .slice aE s.E.length cE, .slice aK s.K.length cK, .bool false, .int .u64 R', .int .i64 I', .slice aP s.P.length cP] rfl rfl rfl 34 _ g2 (show 0 + 9 ≤ 9 by decide) qao (all_oneCell_toArray (fun u hu => by simp only [List.mem_cons, List.not_mem_nil, or_false] at hu; rcases hu with rfl | rfl | rfl | rfl | rfl | rfl | rfl | rfl | rfl <;> first | rfl | exact HV1.out)) #[.int .u64 S, vm, .int .i64 most, .slice aE s.E.length cE, .slice aK s.K.length cK, .bool false, .int .u64 R', .int .i64 I', .slice aP s.P.length cP] rfl ?_
     intro wa hrq htq
     replace g3 := qae htq g3 (by omega)
     replace HY := Hid.mk (HY.out.turn htq (fun i hi c => by have c' : i = w.heap.size + 1 + 1 := c; (try dsimp only at hi); omega))
     replace hB := qaf hB htq (by omega)
     replace g2 := hrq
     clear hrq htq)
  | (refine qad rfl 65 _ _ rfl rfl (w.heap.size + 1 + 1 + 1) 0 _ #[.int .i64 1, .int .i64 0] rfl rfl rfl 65 _ g3 (show 0 + 2 ≤ 2 by decide) qcq (by simp [Value.oneCell']) #[.int .i64 1, .int .i64 0] rfl ?_
     intro wb hrq htq
     replace g2 := qae htq g2 (by omega)
     replace HY := Hid.mk (HY.out.turn htq (fun i hi c => by have c' : i = w.heap.size + 1 + 1 + 1 := c; (try dsimp only at hi); omega))
     replace hB := qaf hB htq (by omega)
     replace g3 := hrq
     clear hrq htq)
  | fail
 exact zP46x05
theorem yacc_C (h : YOk w B m s d) (hw : Wf most s) (kind : Int) (va v : Nat) (hva : va < 18446744073709551616) (hn : Hn) (h8 : (va : Int) % 8 = 0) (R I : Nat) (hg : s.rg = some (R, I)) (hN : 1 < fdN s I va) :
  Calls Tryz.prog 17 #[.agg (d.cs S most s), .int .i64 kind, .int .u64 va, .int .u64 v, hn.v] w fun r w' => ∃ d', r = .returned (.tuple #[.agg (d'.cs S most (accS S most s kind va v hn)), .agg #[.int .i64 (accF (qai S s va hn) kind).1, .int .i64 (accF (qai S s va hn) kind).2], .int .u64 (accW s.f (qai S s va hn) kind va : Nat)]) ∧ YOk w' (fun g => B g ∨ w.heap.size ≤ g) (m + 1) (accS S most s kind va v hn) d' ∧ Below w.heap.size w w' := by
 have hal : ¬ qaq va 3 = false := by rw [show qaq va 3 = qaq va ((3 : Nat) : Int) from rfl, qbl va (by omega) (by omega), decide_eq_true (by omega)]; decide
 have e1 : R = d.R := (h.rg R I hg).1.symm
 have e2 : I = d.I := (h.rg R I hg).2.symm
 have e3 : true = d.on := by have := h.on; rw [hg] at this; exact this.symm
 have HFD := pfd h hw I va hva
 have hlo : qai S s va hn = (lf0, 6, 0) := by unfold qai; rw [if_neg hal, hg]; show lfO S s R I va hn = _; unfold lfO; rw [if_neg (by omega), if_neg (by omega)]
 have hls : qba S most s va hn = s := by unfold qba; rw [if_neg hal, hg]; show lfS S most s R I va hn = _; unfold lfS; rw [if_neg (by omega)]
 have HAF : Hid (accF (qai S s va hn) kind = (6, 0)) := by show _ = _; rw [hlo]; rfl
 have HAW : Hid (accW s.f (qai S s va hn) kind va = 0) := by show _ = _; unfold accW; rw [HAF.out]; rfl
 have HAS : Hid (accS S most s kind va v hn = s) := by show _ = _; unfold accS accM; rw [HAF.out, hls]; rfl
 have HY : Hid (YOk w (fun g => B g ∧ g < w.heap.size) m s d) := Hid.mk h.tight
 have HV1 := Hid.mk h.vm1
 clear h hal hg hw hlo hls
 obtain ⟨vm, L, aE, cE, aK, cK, aP, cP, on', R', I'⟩ := d
 obtain ⟨b0', b1', b2'⟩ := hn
 dsimp only at e1 e2 e3
 subst e1 e2 e3
 generalize accS S most s kind va v ⟨b0', b1', b2'⟩ = sA at *
 generalize accF (qai S s va ⟨b0', b1', b2'⟩) kind = FA at *
 generalize accW s.f (qai S s va ⟨b0', b1', b2'⟩) kind va = WA at *
 generalize fdN s I va = N at *
 generalize fdE s I va = ee at *
 obtain ⟨ea, ev, el, ek, eo, eu, er, ex, es, et⟩ := ee
 have hN2 : (1 : Int) < (N : Int) := by omega
 obtain ⟨W4, hW4, g0, g1, g2, g3, hB, hsz⟩ := hp4 w (.cells #[.int .u64 S, vm, .int .i64 most, .slice aE s.E.length cE, .slice aK s.K.length cK, .bool true, .int .u64 R, .int .i64 I, .slice aP s.P.length cP] 34) (.cells #[.bool b0', .bool b1', .bool b2'] 64) (.cells #[.int .u64 0, .slice none 0 0, .int .i64 0, .slice none 0 0, .slice none 0 0, .bool false, .int .u64 0, .int .i64 0, .slice none 0 0] 34) (.cells #[.int .i64 0, .int .i64 0] 65)
 replace hsz := Nat.le_of_eq hsz.symm
 go_enter Tryz.func17, Tryz.ntmps17
 go_upto_region 1 with fail
 (try rw [hW4])
 clear hW4
 replace HY := Hid.mk (HY.out.later hB)
 obtain ⟨c0, c1, c2, c3, c4, c5, c6, c7, c8⟩ := qal g0
 obtain ⟨d0, d1, d2⟩ := qan g1
 go_wp2_with fail
 refine (HFD.out _ hB).mono ?_
 rintro e w1 ⟨rfl, hb1⟩
 have hb2 := qac w1 (.cells #[.int .i64 ea, .int .u64 ev, .int .i64 el, .int .i64 ek, .int .u64 eo, .bool eu, .bool er, .bool ex, .bool es, .int .i64 et] 94)
 have g4 := heap_alloc_new w1 (.cells #[.int .i64 ea, .int .u64 ev, .int .i64 el, .int .i64 ek, .int .u64 eo, .bool eu, .bool er, .bool ex, .bool es, .int .i64 et] 94)
 clear HFD c0 c1 c2 c3 c4 c5 c6 c7 c8 d0 d1 d2
 go_upto_region 6 with fail
 generalize w1.alloc (.cells #[.int .i64 ea, .int .u64 ev, .int .i64 el, .int .i64 ek, .int .u64 eo, .bool eu, .bool er, .bool ex, .bool es, .int .i64 et] 94) = w2 at *
 replace g0 := qaa hb2 (qaa hb1 g0)
 replace g1 := qaa hb2 (qaa hb1 g1)
 replace g2 := qaa hb2 (qaa hb1 g2)
 replace g3 := qaa hb2 (qaa hb1 g3)
 replace hB := qab (qab hB hb1) hb2
 replace hsz := Nat.le_trans hsz hb1.size
 replace HY := Hid.mk ((HY.out.later hb1).later hb2)
 clear hb1 hb2
 generalize w1.heap.size = KE at *
 have hKE := qag g4
 obtain ⟨c0, c1, c2, c3, c4, c5, c6, c7, c8⟩ := qal g0
 go_wp2_with
  first
  | (refine qad rfl 34 _ _ rfl rfl (w.heap.size + 1 + 1) 0 _ #[.int .u64 S, vm, .int .i64 most, .slice aE s.E.length cE, .slice aK s.K.length cK, .bool true, .int .u64 R, .int .i64 I, .slice aP s.P.length cP] rfl rfl rfl 34 _ g2 (show 0 + 9 ≤ 9 by decide) qao (all_oneCell_toArray (fun u hu => by simp only [List.mem_cons, List.not_mem_nil, or_false] at hu; rcases hu with rfl | rfl | rfl | rfl | rfl | rfl | rfl | rfl | rfl <;> first | rfl | exact HV1.out)) #[.int .u64 S, vm, .int .i64 most, .slice aE s.E.length cE, .slice aK s.K.length cK, .bool true, .int .u64 R, .int .i64 I, .slice aP s.P.length cP] rfl ?_
     intro wa hrq htq
     replace g3 := qae htq g3 (by omega)
     replace HY := Hid.mk (HY.out.turn htq (fun i hi c => by have c' : i = w.heap.size + 1 + 1 := c; (try dsimp only at hi); omega))
     replace hB := qaf hB htq (by omega)
     replace g2 := hrq
     clear hrq htq)
  | (refine qad rfl 65 _ _ rfl rfl (w.heap.size + 1 + 1 + 1) 0 _ #[.int .i64 6, .int .i64 0] rfl rfl rfl 65 _ g3 (show 0 + 2 ≤ 2 by decide) qcq (by simp [Value.oneCell']) #[.int .i64 6, .int .i64 0] rfl ?_
     intro wb hrq htq
     replace g2 := qae htq g2 (by omega)
     replace HY := Hid.mk (HY.out.turn htq (fun i hi c => by have c' : i = w.heap.size + 1 + 1 + 1 := c; (try dsimp only at hi); omega))
     replace hB := qaf hB htq (by omega)
     replace g3 := hrq
     clear hrq htq)
  | fail
 exact zP46x05
theorem yacc_0F (h : YOk w B m s d) (hf : Fm S s.f) (hw : Wf most s) (hm : m < 1000000) (kind : Int) (va v : Nat) (hva : va < 18446744073709551616) (hn : Hn) (h8 : (va : Int) % 8 = 0) (R I : Nat) (hg : s.rg = some (R, I)) (hN : fdN s I va = 0) (hf1 : (qai S s va hn).2.1 ≠ 0) :
  Calls Tryz.prog 17 #[.agg (d.cs S most s), .int .i64 kind, .int .u64 va, .int .u64 v, hn.v] w fun r w' => ∃ d', r = .returned (.tuple #[.agg (d'.cs S most (accS S most s kind va v hn)), .agg #[.int .i64 (accF (qai S s va hn) kind).1, .int .i64 (accF (qai S s va hn) kind).2], .int .u64 (accW s.f (qai S s va hn) kind va : Nat)]) ∧ YOk w' (fun g => B g ∨ w.heap.size ≤ g) (m + 1) (accS S most s kind va v hn) d' ∧ Below w.heap.size w w' := by
 have hal : ¬ qaq va 3 = false := by rw [show qaq va 3 = qaq va ((3 : Nat) : Int) from rfl, qbl va (by omega) (by omega), decide_eq_true (by omega)]; decide
 have e1 : R = d.R := (h.rg R I hg).1.symm
 have e2 : I = d.I := (h.rg R I hg).2.symm
 have e3 : true = d.on := by have := h.on; rw [hg] at this; exact this.symm
 have HFD := pfd h hw I va hva
 have hlo : qai S s va hn = (lfR (wkO S s R I va hn).2, ftR (wkO S s R I va hn).2) := by unfold qai; rw [if_neg hal, hg]; show lfO S s R I va hn = _; unfold lfO; rw [if_pos hN]
 have hls : qba S most s va hn = wdS S most s R I va hn := by unfold qba; rw [if_neg hal, hg]; show lfS S most s R I va hn = _; unfold lfS; rw [if_pos hN]
 have hlf : (qba S most s va hn).f = s.f := leafS_f va hn
 have HAF : Hid (accF (qai S s va hn) kind = (qai S s va hn).2) := by show _ = _; unfold accF; rw [if_neg hf1]
 have HAW : Hid (accW s.f (qai S s va hn) kind va = 0) := by show _ = _; unfold accW; rw [HAF.out, if_neg (fun c => hf1 c.1)]
 have HAS : Hid (accS S most s kind va v hn = qba S most s va hn) := by show _ = _; unfold accS accM; rw [HAF.out, if_neg (fun c => hf1 c.1), ← hlf]
 have HY : Hid (YOk w (fun g => B g ∧ g < w.heap.size) m s d) := Hid.mk h.tight
 have HV1 := Hid.mk h.vm1
 have HWK : Hid (∀ W (B' : Nat → Prop), YOk W B' m s d → Calls Tryz.prog 56 #[.agg (d.cs S most s), .int .u64 va, hn.v] W fun r w' => ∃ d' v, r = .returned (.tuple #[.agg (d'.cs S most (qba S most s va hn)), .agg (lC (qai S s va hn).1 (qai S s va hn).2 v)]) ∧ v.oneCell' = true ∧ YOk w' (fun g => B' g ∨ W.heap.size ≤ g) m (qba S most s va hn) d' ∧ Below W.heap.size W w') := Hid.mk (fun W B' hy => by rw [hlo, hls]; exact ywalk_c hy hf hw hm R I hg va hva hn)
 clear h hal hg hw hlf hf hva hlo hls
 obtain ⟨vm, L, aE, cE, aK, cK, aP, cP, on', R', I'⟩ := d
 obtain ⟨b0', b1', b2'⟩ := hn
 dsimp only at e1 e2 e3
 subst e1 e2 e3
 generalize accS S most s kind va v ⟨b0', b1', b2'⟩ = sA at *
 generalize accF (qai S s va ⟨b0', b1', b2'⟩) kind = FA at *
 generalize accW s.f (qai S s va ⟨b0', b1', b2'⟩) kind va = WA at *
 generalize qba S most s va ⟨b0', b1', b2'⟩ = s1 at *
 generalize qai S s va ⟨b0', b1', b2'⟩ = Q at *
 obtain ⟨⟨ql, qk, qo, qu, qr, qx, qs, qa⟩, f1, f2⟩ := Q
 generalize fdN s I va = N at *
 generalize fdE s I va = ee at *
 obtain ⟨ea, ev, el, ek, eo, eu, er, ex, es, et⟩ := ee
 subst hN
 (try dsimp only at hf1)
 have hf1b : (f1 == 0) = false := by rw [beq_eq_false_iff_ne]; exact hf1
 have hf1c : (f1 != 0) = true := by rw [bne_iff_ne]; exact hf1
 obtain ⟨W4, hW4, g0, g1, g2, g3, hB, hsz⟩ := hp4 w (.cells #[.int .u64 S, vm, .int .i64 most, .slice aE s.E.length cE, .slice aK s.K.length cK, .bool true, .int .u64 R, .int .i64 I, .slice aP s.P.length cP] 34) (.cells #[.bool b0', .bool b1', .bool b2'] 64) (.cells #[.int .u64 0, .slice none 0 0, .int .i64 0, .slice none 0 0, .slice none 0 0, .bool false, .int .u64 0, .int .i64 0, .slice none 0 0] 34) (.cells #[.int .i64 0, .int .i64 0] 65)
 replace hsz := Nat.le_of_eq hsz.symm
 go_enter Tryz.func17, Tryz.ntmps17
 go_upto_region 1 with fail
 (try rw [hW4])
 clear hW4
 replace HY := Hid.mk (HY.out.later hB)
 obtain ⟨c0, c1, c2, c3, c4, c5, c6, c7, c8⟩ := qal g0
 obtain ⟨d0, d1, d2⟩ := qan g1
 go_wp2_with fail
 refine (HFD.out _ hB).mono ?_
 rintro e w1 ⟨rfl, hb1⟩
 have hb2 := qac w1 (.cells #[.int .i64 ea, .int .u64 ev, .int .i64 el, .int .i64 ek, .int .u64 eo, .bool eu, .bool er, .bool ex, .bool es, .int .i64 et] 94)
 have g4 := heap_alloc_new w1 (.cells #[.int .i64 ea, .int .u64 ev, .int .i64 el, .int .i64 ek, .int .u64 eo, .bool eu, .bool er, .bool ex, .bool es, .int .i64 et] 94)
 clear HFD c0 c1 c2 c3 c4 c5 c6 c7 c8 d0 d1 d2
 go_upto_region 6 with fail
 generalize w1.alloc (.cells #[.int .i64 ea, .int .u64 ev, .int .i64 el, .int .i64 ek, .int .u64 eo, .bool eu, .bool er, .bool ex, .bool es, .int .i64 et] 94) = w2 at *
 replace g0 := qaa hb2 (qaa hb1 g0)
 replace g1 := qaa hb2 (qaa hb1 g1)
 replace g2 := qaa hb2 (qaa hb1 g2)
 replace g3 := qaa hb2 (qaa hb1 g3)
 replace hB := qab (qab hB hb1) hb2
 replace hsz := Nat.le_trans hsz hb1.size
 replace HY := Hid.mk ((HY.out.later hb1).later hb2)
 clear hb1 hb2
 generalize w1.heap.size = KE at *
 have hKE := qag g4
 obtain ⟨c0, c1, c2, c3, c4, c5, c6, c7, c8⟩ := qal g0
 obtain ⟨-, -, m2, m3, m4, m5, m6, m7, m8, m9⟩ := cells10y g4
 have hb2 := qac w2 (.cells #[.int .i64 el, .int .i64 ek, .int .u64 eo, .bool eu, .bool er, .bool ex, .bool es, .int .i64 et, .int .i64 0, .int .i64 0, .slice none 0 0] 138)
 have g5 := heap_alloc_new w2 (.cells #[.int .i64 el, .int .i64 ek, .int .u64 eo, .bool eu, .bool er, .bool ex, .bool es, .int .i64 et, .int .i64 0, .int .i64 0, .slice none 0 0] 138)
 clear g4
 go_upto_region 9 with fail
 generalize w2.alloc (.cells #[.int .i64 el, .int .i64 ek, .int .u64 eo, .bool eu, .bool er, .bool ex, .bool es, .int .i64 et, .int .i64 0, .int .i64 0, .slice none 0 0] 138) = w3 at *
 clear m2 m3 m4 m5 m6 m7 m8 m9 c0 c1 c2 c3 c4 c5 c6 c7 c8
 obtain ⟨g0, g1, g2, g3⟩ := bl4 hb2 g0 g1 g2 g3
 replace hB := qab hB hb2
 have hKL : w.heap.size + 1 + 1 + 1 + 1 ≤ w2.heap.size := Nat.le_trans hsz (Nat.le_of_lt hKE)
 replace HY := Hid.mk (HY.out.later hb2)
 clear hb2
 generalize w2.heap.size = KL at *
 obtain ⟨c0, c1, c2, c3, c4, c5, c6, c7, c8⟩ := qal g0
 obtain ⟨d0, d1, d2⟩ := qan g1
 have hl5 := qag g5
 go_wp2_with fail
 refine (HWK.out _ _ HY.out).mono ?_
 rintro e w4 ⟨d1', v1, rfl, hv1, hy1, hb⟩
 obtain ⟨vm1, L1, aE1, cE1, aK1, cK1, aP1, cP1, on1, R1, I1⟩ := d1'
 have HV2 := Hid.mk hy1.vm1
 have HV3 := Hid.mk hv1
 clear HY HWK HV1 hv1 c0 c1 c2 c3 c4 c5 c6 c7 c8 d0 d1 d2 g1
 have HY := Hid.mk hy1
 have HV1 := HV2
 clear hy1
 dsimp only at HV1 HV2
 obtain ⟨g0, g2, g3, g5⟩ := bl4 hb g0 g2 g3 g5
 replace hB := qab hB hb
 clear hb
 go_upto_region 11 with
  first
  | (refine qad rfl 34 _ _ rfl rfl (w.heap.size) 0 _ #[.int .u64 S, vm1, .int .i64 most, .slice aE1 s1.E.length cE1, .slice aK1 s1.K.length cK1, .bool on1, .int .u64 R1, .int .i64 I1, .slice aP1 s1.P.length cP1] rfl rfl rfl 34 _ g0 (show 0 + 9 ≤ 9 by decide) qao (all_oneCell_toArray (fun u hu => by simp only [List.mem_cons, List.not_mem_nil, or_false] at hu; rcases hu with rfl | rfl | rfl | rfl | rfl | rfl | rfl | rfl | rfl <;> first | rfl | exact HV1.out | exact HV2.out)) #[.int .u64 S, vm1, .int .i64 most, .slice aE1 s1.E.length cE1, .slice aK1 s1.K.length cK1, .bool on1, .int .u64 R1, .int .i64 I1, .slice aP1 s1.P.length cP1] rfl ?_
     intro wa hrq htq
     obtain ⟨g2, g3, g5⟩ := bt3 htq g2 g3 g5
     replace HY := Hid.mk (HY.out.turn htq (fun i hi c => by have c' : i = w.heap.size := c; (try dsimp only at hi); omega))
     replace hB := qaf hB htq (by omega)
     replace g0 := hrq
     clear hrq htq)
  | (refine qad rfl 138 _ _ rfl rfl KL 0 _ #[.int .i64 ql, .int .i64 qk, .int .u64 qo, .bool qu, .bool qr, .bool qx, .bool qs, .int .i64 qa, .int .i64 f1, .int .i64 f2, v1] rfl rfl rfl 138 _ g5 (show 0 + 11 ≤ 11 by decide) qbz (all_oneCell_toArray (fun u hu => by simp only [List.mem_cons, List.not_mem_nil, or_false] at hu; rcases hu with rfl | rfl | rfl | rfl | rfl | rfl | rfl | rfl | rfl | rfl | rfl <;> first | rfl | exact HV3.out)) #[.int .i64 ql, .int .i64 qk, .int .u64 qo, .bool qu, .bool qr, .bool qx, .bool qs, .int .i64 qa, .int .i64 f1, .int .i64 f2, v1] rfl ?_
     intro wb hrq htq
     obtain ⟨g0, g2, g3⟩ := bt3 htq g0 g2 g3
     replace HY := Hid.mk (HY.out.turn htq (fun i hi c => by have c' : i = KL := c; (try dsimp only at hi); omega))
     replace hB := qaf hB htq (by omega)
     replace g5 := hrq
     clear hrq htq
     obtain ⟨m0, m1, m2, m3, m4, m5, m6, m7, m8, m9, m10⟩ := qbb g5)
  | fail
 have hl5' := qag g5
 have hl3 := qag g3
 replace HY := Hid.mk HY.out.tight
 have hb2 := qac wb (.cells #[.int .i64 f1, .int .i64 f2] 65)
 have g6 := heap_alloc_new wb (.cells #[.int .i64 f1, .int .i64 f2] 65)
 go_upto_region 12 with fail
 generalize wb.alloc (.cells #[.int .i64 f1, .int .i64 f2] 65) = w5 at *
 clear m0 m1 m2 m3 m4 m5 m6 m7 m8 m9 m10
 obtain ⟨g0, g2, g3, g5⟩ := bl4 hb2 g0 g2 g3 g5
 replace hB := qab hB hb2
 replace HY := Hid.mk (HY.out.later hb2)
 clear hb2
 generalize wb.heap.size = KF at *
 have hl6 := qag g6
 obtain ⟨n0, n1⟩ := TR.qaz g6
 go_upto_region 15 with fail
 (try clear c0 c1 c2 c3 c4 c5 c6 c7 c8)
 (try clear n0 n1)
 obtain ⟨c0, c1, c2, c3, c4, c5, c6, c7, c8⟩ := qal g0
 obtain ⟨n0, n1⟩ := TR.qaz g6
 have hl9 := qag g6
 have k0 := c0
 have k1 := c1
 have k2 := c2
 have k3 := c3
 have k4 := c4
 have k5 := c5
 have k6 := c6
 have k7 := c7
 have k8 := c8
 have k9 := n0
 have k10 := n1
 clear c0 c1 c2 c3 c4 c5 c6 c7 c8 n0 n1
 clear g5
 obtain ⟨k0, k1, k2, k3, k4⟩ := cl5 (Below.refl _ w5).drew k0 k1 k2 k3 k4
 obtain ⟨k5, k6, k7⟩ := cl3 (Below.refl _ w5).drew k5 k6 k7
 obtain ⟨k8, k9, k10⟩ := cl3 (Below.refl _ w5).drew k8 k9 k10
 refine hd11 k0 k1 k2 k3 k4 k5 k6 k7 k8 k9 k10 (h := fun hHeld => ?_)
 obtain ⟨g0, g2, g3, g6⟩ := bl4 (Below.refl _ w5).drew g0 g2 g3 g6
 replace HY := Hid.mk (HY.out.later (Below.refl _ w5).drew)
 replace hB := qab hB (Below.refl _ w5).drew
 generalize w5.drew = Wd at *
 refine tk 0 71 (h := ?_)
 refine tk 1 72 (h := ?_)
 refine rd1 2 (h := fun K hK => ?_)
 refine qah rfl rfl 34 _ _ rfl (w.heap.size + 1 + 1) 0 _ #[.int .u64 S, vm1, .int .i64 most, .slice aE1 s1.E.length cE1, .slice aK1 s1.K.length cK1, .bool on1, .int .u64 R1, .int .i64 I1, .slice aP1 s1.P.length cP1] rfl rfl rfl 34 _ g2 (show 0 + 9 ≤ 9 by decide) qao (all_oneCell_toArray (fun u hu => by simp only [List.mem_cons, List.not_mem_nil, or_false] at hu; rcases hu with rfl | rfl | rfl | rfl | rfl | rfl | rfl | rfl | rfl <;> first | rfl | exact HV1.out | exact HV2.out)) #[.int .u64 S, vm1, .int .i64 most, .slice aE1 s1.E.length cE1, .slice aK1 s1.K.length cK1, .bool on1, .int .u64 R1, .int .i64 I1, .slice aP1 s1.P.length cP1] rfl ?_
 intro wsa hrq htq
 obtain ⟨k0, k1, k2, k3, k4⟩ := tc5 htq k0 k1 k2 k3 k4
 obtain ⟨k5, k6, k7⟩ := tc3 htq k5 k6 k7
 obtain ⟨k8, k9, k10⟩ := tc3 htq k8 k9 k10
 obtain ⟨g0, g3, g6⟩ := bt3 htq g0 g3 g6
 replace g2 := hrq
 replace HY := Hid.mk (HY.out.turn htq (fun i hi c => by have c' : i = w.heap.size + 1 + 1 := c; (try dsimp only at hi); omega))
 replace hB := qaf hB htq (by omega)
 refine hK.out _ _ ⟨k0, k1, k2, k3, k4, k5, k6, k7, k8, k9, k10⟩ (fun hHeldsa => ?_)
 clear hK hrq
 try simp only [Act.put, sq]
 refine rd1 3 (h := fun K hK => ?_)
 refine qah rfl rfl 65 _ _ rfl (w.heap.size + 1 + 1 + 1) 0 _ #[.int .i64 f1, .int .i64 f2] rfl rfl rfl 65 _ g3 (show 0 + 2 ≤ 2 by decide) qcq (by simp [Value.oneCell']) #[.int .i64 f1, .int .i64 f2] rfl ?_
 intro wsb hrq htq
 obtain ⟨k0, k1, k2, k3, k4⟩ := tc5 htq k0 k1 k2 k3 k4
 obtain ⟨k5, k6, k7⟩ := tc3 htq k5 k6 k7
 obtain ⟨k8, k9, k10⟩ := tc3 htq k8 k9 k10
 obtain ⟨g0, g2, g6⟩ := bt3 htq g0 g2 g6
 replace g3 := hrq
 replace HY := Hid.mk (HY.out.turn htq (fun i hi c => by have c' : i = w.heap.size + 1 + 1 + 1 := c; (try dsimp only at hi); omega))
 replace hB := qaf hB htq (by omega)
 refine hK.out _ _ ⟨k0, k1, k2, k3, k4, k5, k6, k7, k8, k9, k10⟩ (fun hHeldsb => ?_)
 clear hK hrq
 try simp only [Act.put, sq]
 refine tk 4 12 (h := ?_)
 refine wpAnyH_done (by kernel_rfl) ?_ _
 refine NoPanic.normal ?_
 clear k0 k1 k2 k3 k4 k5 k6 k7 k8 k9 k10
 go_wp2
 exact zP46x05
theorem zP46x01 {Z : Prop} (z : Z := by
 intro wsa hrq htq
 obtain ⟨k0, k1, k2, k3, k4⟩ := tc5 htq k0 k1 k2 k3 k4
 obtain ⟨k5, k6, k7⟩ := tc3 htq k5 k6 k7
 obtain ⟨k8, k9, k10⟩ := tc3 htq k8 k9 k10
 obtain ⟨g0, g3, g6⟩ := bt3 htq g0 g3 g6
 replace g2 := hrq
 replace HY := Hid.mk (HY.out.turn htq (fun i hi c => by have c' : i = w.heap.size + 1 + 1 := c; (try dsimp only at hi); omega))
 replace hB := qaf hB htq (by omega)
 refine hK.out _ _ ⟨k0, k1, k2, k3, k4, k5, k6, k7, k8, k9, k10⟩ (fun hHeldsa => ?_)
 clear hK hrq
 try simp only [Act.put, sq]
 refine rd1 3 (h := fun K hK => ?_)
 refine qah rfl rfl 65 _ _ rfl (w.heap.size + 1 + 1 + 1) 0 _ #[.int .i64 lk, .int .i64 ll] rfl rfl rfl 65 _ g3 (show 0 + 2 ≤ 2 by decide) qcq (by simp [Value.oneCell']) #[.int .i64 lk, .int .i64 ll] rfl ?_
 intro wsb hrq htq
 obtain ⟨k0, k1, k2, k3, k4⟩ := tc5 htq k0 k1 k2 k3 k4
 obtain ⟨k5, k6, k7⟩ := tc3 htq k5 k6 k7
 obtain ⟨k8, k9, k10⟩ := tc3 htq k8 k9 k10
 obtain ⟨g0, g2, g6⟩ := bt3 htq g0 g2 g6
 replace g3 := hrq
 replace HY := Hid.mk (HY.out.turn htq (fun i hi c => by have c' : i = w.heap.size + 1 + 1 + 1 := c; (try dsimp only at hi); omega))
 replace hB := qaf hB htq (by omega)
 refine hK.out _ _ ⟨k0, k1, k2, k3, k4, k5, k6, k7, k8, k9, k10⟩ (fun hHeldsb => ?_)
 clear hK hrq
 try simp only [Act.put, sq]
 refine tk 4 12 (h := ?_)
 refine wpAnyH_done (by kernel_rfl) ?_ _
 refine NoPanic.normal ?_
 clear k0 k1 k2 k3 k4 k5 k6 k7 k8 k9 k10
 go_wp2
 refine bodyPost_ret (qfa (p := 10) (q := 11) (u := 12) rfl _ _ (w.heap.size + 1 + 1) (w.heap.size + 1 + 1 + 1) _ _ _ _ _ _ _ _ rfl g2 Tryz.underlying34 rfl qao rfl g3 Tryz.underlying65 rfl qcq) rfl ?_
 rw [HAF.out, HAW.out, HAS.out]
 first
 | exact ⟨_, rfl, (HY.out.mono (fun i hi => by rcases hi with ⟨hi | hi, -⟩; exact Or.inl hi.1; exact Or.inr (by omega))).up (Nat.le_succ _), hB⟩
 | exact ⟨_, rfl, (HY.out.mono (fun i hi => Or.inl hi.1)).up (Nat.le_succ _), hB⟩) : Z := z
theorem zP46x11 {Z : Prop} (z : Z := by
 refine qah rfl rfl 34 _ _ rfl (w.heap.size + 1 + 1) 0 _ #[.int .u64 S, vm1, .int .i64 most, .slice aE1 s1.E.length cE1, .slice aK1 s1.K.length cK1, .bool on1, .int .u64 R1, .int .i64 I1, .slice aP1 s1.P.length cP1] rfl rfl rfl 34 _ g2 (show 0 + 9 ≤ 9 by decide) qao (all_oneCell_toArray (fun u hu => by simp only [List.mem_cons, List.not_mem_nil, or_false] at hu; rcases hu with rfl | rfl | rfl | rfl | rfl | rfl | rfl | rfl | rfl <;> first | rfl | exact HV1.out | exact HV2.out)) #[.int .u64 S, vm1, .int .i64 most, .slice aE1 s1.E.length cE1, .slice aK1 s1.K.length cK1, .bool on1, .int .u64 R1, .int .i64 I1, .slice aP1 s1.P.length cP1] rfl ?_
 first
 | exact zP46x01
 | exact zP46x03) : Z := z
theorem zP46x22 {Z : Prop} (z : Z := by
 go_upto_region 15 with fail
 (try clear c0 c1 c2 c3 c4 c5 c6 c7 c8)
 (try clear n0 n1)
 obtain ⟨c0, c1, c2, c3, c4, c5, c6, c7, c8⟩ := qal g0
 obtain ⟨n0, n1⟩ := TR.qaz g6
 have hl9 := qag g6
 have k0 := c0
 have k1 := c1
 have k2 := c2
 have k3 := c3
 have k4 := c4
 have k5 := c5
 have k6 := c6
 have k7 := c7
 have k8 := c8
 have k9 := n0
 have k10 := n1
 clear c0 c1 c2 c3 c4 c5 c6 c7 c8 n0 n1
 clear g5
 obtain ⟨k0, k1, k2, k3, k4⟩ := cl5 (Below.refl _ w7).drew k0 k1 k2 k3 k4
 obtain ⟨k5, k6, k7⟩ := cl3 (Below.refl _ w7).drew k5 k6 k7
 obtain ⟨k8, k9, k10⟩ := cl3 (Below.refl _ w7).drew k8 k9 k10
 refine hd11 k0 k1 k2 k3 k4 k5 k6 k7 k8 k9 k10 (h := fun hHeld => ?_)
 obtain ⟨g0, g2, g3, g6⟩ := bl4 (Below.refl _ w7).drew g0 g2 g3 g6
 replace HY := Hid.mk (HY.out.later (Below.refl _ w7).drew)
 replace hB := qab hB (Below.refl _ w7).drew
 generalize w7.drew = Wd at *
 refine tk 0 71 (h := ?_)
 refine tk 1 72 (h := ?_)
 refine rd1 2 (h := fun K hK => ?_)
 first
 | exact zP46x11
 | exact zP46x12) : Z := z
theorem zP46x31 {Z : Prop} (z : Z := by
 have hl6 := qag g6
 obtain ⟨n0, n1⟩ := TR.qaz g6
 obtain ⟨m0, m1, m2, m3, m4, m5, m6, m7, m8, m9, m10⟩ := qbb g5
 go_wp2_with fail
 refine (HLT.out _).mono ?_
 rintro e w6 ⟨rfl, hb⟩
 clear m0 m1 m2 m3 m4 m5 m6 m7 m8 m9 m10 n0 n1 HLT
 obtain ⟨g0, g2, g3, g5, g6⟩ := bl5 hb g0 g2 g3 g5 g6
 replace hB := qab hB hb
 replace HY := Hid.mk (HY.out.later hb)
 clear hb
 go_wp2_with
  first
  | (refine qad rfl 65 _ _ rfl rfl KF 0 _ #[.int .i64 lk, .int .i64 ll] rfl rfl rfl 65 _ g6 (show 0 + 2 ≤ 2 by decide) qcq (by simp [Value.oneCell']) #[.int .i64 lk, .int .i64 ll] rfl ?_
     intro w7 hrq htq
     obtain ⟨g0, g2, g3, g5⟩ := bt4 htq g0 g2 g3 g5
     replace HY := Hid.mk (HY.out.turn htq (fun i hi c => by have c' : i = KF := c; (try dsimp only at hi); omega))
     replace hB := qaf hB htq (by omega)
     replace g6 := hrq
     clear hrq htq
     obtain ⟨n0, n1⟩ := TR.qaz g6)
  | fail
 exact zP46x22) : Z := z
theorem zP46x41 {Z : Prop} (z : Z := by
 obtain ⟨W4, hW4, g0, g1, g2, g3, hB, hsz⟩ := hp4 w (.cells #[.int .u64 S, vm, .int .i64 most, .slice aE s.E.length cE, .slice aK s.K.length cK, .bool true, .int .u64 R, .int .i64 I, .slice aP s.P.length cP] 34) (.cells #[.bool b0', .bool b1', .bool b2'] 64) (.cells #[.int .u64 0, .slice none 0 0, .int .i64 0, .slice none 0 0, .slice none 0 0, .bool false, .int .u64 0, .int .i64 0, .slice none 0 0] 34) (.cells #[.int .i64 0, .int .i64 0] 65)
 replace hsz := Nat.le_of_eq hsz.symm
 go_enter Tryz.func17, Tryz.ntmps17
 go_upto_region 1 with fail
 (try rw [hW4])
 clear hW4
 replace HY := Hid.mk (HY.out.later hB)
 obtain ⟨c0, c1, c2, c3, c4, c5, c6, c7, c8⟩ := qal g0
 obtain ⟨d0, d1, d2⟩ := qan g1
 go_wp2_with fail
 refine (HFD.out _ hB).mono ?_
 rintro e w1 ⟨rfl, hb1⟩
 have hb2 := qac w1 (.cells #[.int .i64 ea, .int .u64 ev, .int .i64 el, .int .i64 ek, .int .u64 eo, .bool eu, .bool er, .bool ex, .bool es, .int .i64 et] 94)
 have g4 := heap_alloc_new w1 (.cells #[.int .i64 ea, .int .u64 ev, .int .i64 el, .int .i64 ek, .int .u64 eo, .bool eu, .bool er, .bool ex, .bool es, .int .i64 et] 94)
 clear HFD c0 c1 c2 c3 c4 c5 c6 c7 c8 d0 d1 d2
 go_upto_region 6 with fail
 generalize w1.alloc (.cells #[.int .i64 ea, .int .u64 ev, .int .i64 el, .int .i64 ek, .int .u64 eo, .bool eu, .bool er, .bool ex, .bool es, .int .i64 et] 94) = w2 at *
 replace g0 := qaa hb2 (qaa hb1 g0)
 replace g1 := qaa hb2 (qaa hb1 g1)
 replace g2 := qaa hb2 (qaa hb1 g2)
 replace g3 := qaa hb2 (qaa hb1 g3)
 replace hB := qab (qab hB hb1) hb2
 replace hsz := Nat.le_trans hsz hb1.size
 replace HY := Hid.mk ((HY.out.later hb1).later hb2)
 clear hb1 hb2
 generalize w1.heap.size = KE at *
 have hKE := qag g4
 obtain ⟨c0, c1, c2, c3, c4, c5, c6, c7, c8⟩ := qal g0
 obtain ⟨-, -, m2, m3, m4, m5, m6, m7, m8, m9⟩ := cells10y g4
 have hb2 := qac w2 (.cells #[.int .i64 el, .int .i64 ek, .int .u64 eo, .bool eu, .bool er, .bool ex, .bool es, .int .i64 et, .int .i64 0, .int .i64 0, .slice none 0 0] 138)
 have g5 := heap_alloc_new w2 (.cells #[.int .i64 el, .int .i64 ek, .int .u64 eo, .bool eu, .bool er, .bool ex, .bool es, .int .i64 et, .int .i64 0, .int .i64 0, .slice none 0 0] 138)
 clear g4
 go_upto_region 9 with fail
 generalize w2.alloc (.cells #[.int .i64 el, .int .i64 ek, .int .u64 eo, .bool eu, .bool er, .bool ex, .bool es, .int .i64 et, .int .i64 0, .int .i64 0, .slice none 0 0] 138) = w3 at *
 clear m2 m3 m4 m5 m6 m7 m8 m9 c0 c1 c2 c3 c4 c5 c6 c7 c8
 obtain ⟨g0, g1, g2, g3⟩ := bl4 hb2 g0 g1 g2 g3
 replace hB := qab hB hb2
 have hKL : w.heap.size + 1 + 1 + 1 + 1 ≤ w2.heap.size := Nat.le_trans hsz (Nat.le_of_lt hKE)
 replace HY := Hid.mk (HY.out.later hb2)
 clear hb2
 generalize w2.heap.size = KL at *
 obtain ⟨c0, c1, c2, c3, c4, c5, c6, c7, c8⟩ := qal g0
 obtain ⟨d0, d1, d2⟩ := qan g1
 have hl5 := qag g5
 go_wp2_with fail
 refine (HWK.out _ _ HY.out).mono ?_
 rintro e w4 ⟨d1', v1, rfl, hv1, hy1, hb⟩
 obtain ⟨vm1, L1, aE1, cE1, aK1, cK1, aP1, cP1, on1, R1, I1⟩ := d1'
 have HV2 := Hid.mk hy1.vm1
 have HV3 := Hid.mk hv1
 clear HY HWK HV1 hv1 c0 c1 c2 c3 c4 c5 c6 c7 c8 d0 d1 d2 g1
 have HY := Hid.mk hy1
 have HV1 := HV2
 clear hy1
 dsimp only at HV1 HV2
 obtain ⟨g0, g2, g3, g5⟩ := bl4 hb g0 g2 g3 g5
 replace hB := qab hB hb
 clear hb
 go_upto_region 11 with
  first
  | (refine qad rfl 34 _ _ rfl rfl (w.heap.size) 0 _ #[.int .u64 S, vm1, .int .i64 most, .slice aE1 s1.E.length cE1, .slice aK1 s1.K.length cK1, .bool on1, .int .u64 R1, .int .i64 I1, .slice aP1 s1.P.length cP1] rfl rfl rfl 34 _ g0 (show 0 + 9 ≤ 9 by decide) qao (all_oneCell_toArray (fun u hu => by simp only [List.mem_cons, List.not_mem_nil, or_false] at hu; rcases hu with rfl | rfl | rfl | rfl | rfl | rfl | rfl | rfl | rfl <;> first | rfl | exact HV1.out | exact HV2.out)) #[.int .u64 S, vm1, .int .i64 most, .slice aE1 s1.E.length cE1, .slice aK1 s1.K.length cK1, .bool on1, .int .u64 R1, .int .i64 I1, .slice aP1 s1.P.length cP1] rfl ?_
     intro wa hrq htq
     obtain ⟨g2, g3, g5⟩ := bt3 htq g2 g3 g5
     replace HY := Hid.mk (HY.out.turn htq (fun i hi c => by have c' : i = w.heap.size := c; (try dsimp only at hi); omega))
     replace hB := qaf hB htq (by omega)
     replace g0 := hrq
     clear hrq htq)
  | (refine qad rfl 138 _ _ rfl rfl KL 0 _ #[.int .i64 ql, .int .i64 qk, .int .u64 qo, .bool qu, .bool qr, .bool qx, .bool qs, .int .i64 qa, .int .i64 0, .int .i64 0, v1] rfl rfl rfl 138 _ g5 (show 0 + 11 ≤ 11 by decide) qbz (all_oneCell_toArray (fun u hu => by simp only [List.mem_cons, List.not_mem_nil, or_false] at hu; rcases hu with rfl | rfl | rfl | rfl | rfl | rfl | rfl | rfl | rfl | rfl | rfl <;> first | rfl | exact HV3.out)) #[.int .i64 ql, .int .i64 qk, .int .u64 qo, .bool qu, .bool qr, .bool qx, .bool qs, .int .i64 qa, .int .i64 0, .int .i64 0, v1] rfl ?_
     intro wb hrq htq
     obtain ⟨g0, g2, g3⟩ := bt3 htq g0 g2 g3
     replace HY := Hid.mk (HY.out.turn htq (fun i hi c => by have c' : i = KL := c; (try dsimp only at hi); omega))
     replace hB := qaf hB htq (by omega)
     replace g5 := hrq
     clear hrq htq
     obtain ⟨m0, m1, m2, m3, m4, m5, m6, m7, m8, m9, m10⟩ := qbb g5)
  | fail
 have hl5' := qag g5
 have hl3 := qag g3
 replace HY := Hid.mk HY.out.tight
 have hb2 := qac wb (.cells #[.int .i64 0, .int .i64 0] 65)
 have g6 := heap_alloc_new wb (.cells #[.int .i64 0, .int .i64 0] 65)
 go_upto_region 12 with fail
 generalize wb.alloc (.cells #[.int .i64 0, .int .i64 0] 65) = w5 at *
 clear m0 m1 m2 m3 m4 m5 m6 m7 m8 m9 m10
 obtain ⟨g0, g2, g3, g5⟩ := bl4 hb2 g0 g2 g3 g5
 replace hB := qab hB hb2
 replace HY := Hid.mk (HY.out.later hb2)
 clear hb2
 generalize wb.heap.size = KF at *
 first
 | exact zP46x31
 | exact zP46x21) : Z := z
theorem zP46x52 {Z : Prop} (z : Z := by
 unfold letF at hlt HAF
 (try dsimp only at hlt HAF HLT HLV HAW HAS)
 generalize letK qu qr qx qs kind = lk at *
 generalize letL qu qr qx qs ql kind = ll at *
 have hl1b : (lk != 0) = true := by rw [bne_iff_ne]; exact hlt
 first
 | exact zP46x41
 | exact zP46x42) : Z := z
theorem yacc_0P (h : YOk w B m s d) (hf : Fm S s.f) (hw : Wf most s) (hm : m < 1000000) (kind : Int) (va v : Nat) (hva : va < 18446744073709551616) (hn : Hn) (h8 : (va : Int) % 8 = 0) (R I : Nat) (hg : s.rg = some (R, I)) (hN : fdN s I va = 0) (hf1 : (qai S s va hn).2.1 = 0) (hlt : (letF (qai S s va hn).1 kind).1 ≠ 0) :
  Calls Tryz.prog 17 #[.agg (d.cs S most s), .int .i64 kind, .int .u64 va, .int .u64 v, hn.v] w fun r w' => ∃ d', r = .returned (.tuple #[.agg (d'.cs S most (accS S most s kind va v hn)), .agg #[.int .i64 (accF (qai S s va hn) kind).1, .int .i64 (accF (qai S s va hn) kind).2], .int .u64 (accW s.f (qai S s va hn) kind va : Nat)]) ∧ YOk w' (fun g => B g ∨ w.heap.size ≤ g) (m + 1) (accS S most s kind va v hn) d' ∧ Below w.heap.size w w' := by
 have hal : ¬ qaq va 3 = false := by rw [show qaq va 3 = qaq va ((3 : Nat) : Int) from rfl, qbl va (by omega) (by omega), decide_eq_true (by omega)]; decide
 have e1 : R = d.R := (h.rg R I hg).1.symm
 have e2 : I = d.I := (h.rg R I hg).2.symm
 have e3 : true = d.on := by have := h.on; rw [hg] at this; exact this.symm
 have HFD := pfd h hw I va hva
 have hlo : qai S s va hn = (lfR (wkO S s R I va hn).2, ftR (wkO S s R I va hn).2) := by unfold qai; rw [if_neg hal, hg]; show lfO S s R I va hn = _; unfold lfO; rw [if_pos hN]
 have hls : qba S most s va hn = wdS S most s R I va hn := by unfold qba; rw [if_neg hal, hg]; show lfS S most s R I va hn = _; unfold lfS; rw [if_pos hN]
 have hlf : (qba S most s va hn).f = s.f := leafS_f va hn
 have HLV : Hid (isLv (qai S s va hn).1.l = true ∧ (qai S s va hn).1.o < 281474976710656 ∧ (qai S s va hn).2.2 = 0) := by show _ ∧ _; rw [hlo] at hf1 ⊢; exact wk_lv hf1
 have HAF : Hid (accF (qai S s va hn) kind = letF (qai S s va hn).1 kind) := by show _ = _; unfold accF; rw [if_pos hf1]
 have HLT := Hid.mk (fun W => qds (qai S s va hn).1.k (qai S s va hn).1.o (qai S s va hn).1.u (qai S s va hn).1.r (qai S s va hn).1.x (qai S s va hn).1.s (qai S s va hn).1.a (qai S s va hn).1.l kind W)
 have HAW : Hid (accW s.f (qai S s va hn) kind va = 0) := by show _ = _; unfold accW; rw [HAF.out, if_neg (fun c => hlt c.1)]
 have HAS : Hid (accS S most s kind va v hn = qba S most s va hn) := by show _ = _; unfold accS accM; rw [HAF.out, if_neg (fun c => hlt c.1), ← hlf]
 have HY : Hid (YOk w (fun g => B g ∧ g < w.heap.size) m s d) := Hid.mk h.tight
 have HV1 := Hid.mk h.vm1
 have HWK : Hid (∀ W (B' : Nat → Prop), YOk W B' m s d → Calls Tryz.prog 56 #[.agg (d.cs S most s), .int .u64 va, hn.v] W fun r w' => ∃ d' v, r = .returned (.tuple #[.agg (d'.cs S most (qba S most s va hn)), .agg (lC (qai S s va hn).1 (qai S s va hn).2 v)]) ∧ v.oneCell' = true ∧ YOk w' (fun g => B' g ∨ W.heap.size ≤ g) m (qba S most s va hn) d' ∧ Below W.heap.size W w') := Hid.mk (fun W B' hy => by rw [hlo, hls]; exact ywalk_c hy hf hw hm R I hg va hva hn)
 clear h hal hg hw hlf hf hva hlo hls
 obtain ⟨vm, L, aE, cE, aK, cK, aP, cP, on', R', I'⟩ := d
 obtain ⟨b0', b1', b2'⟩ := hn
 dsimp only at e1 e2 e3
 subst e1 e2 e3
 generalize accS S most s kind va v ⟨b0', b1', b2'⟩ = sA at *
 generalize accF (qai S s va ⟨b0', b1', b2'⟩) kind = FA at *
 generalize accW s.f (qai S s va ⟨b0', b1', b2'⟩) kind va = WA at *
 generalize qba S most s va ⟨b0', b1', b2'⟩ = s1 at *
 generalize qai S s va ⟨b0', b1', b2'⟩ = Q at *
 obtain ⟨⟨ql, qk, qo, qu, qr, qx, qs, qa⟩, f1, f2⟩ := Q
 generalize fdN s I va = N at *
 generalize fdE s I va = ee at *
 obtain ⟨ea, ev, el, ek, eo, eu, er, ex, es, et⟩ := ee
 subst hN
 (try dsimp only at hf1)
 (try dsimp only at HLV)
 have hf2 := HLV.out.2.2
 (try dsimp only at hf2)
 subst hf1 hf2
 exact zP46x52
theorem zP46x02 {Z : Prop} (z : Z := by
 intro wsa hrq htq
 obtain ⟨k0, k1, k2, k3, k4⟩ := tc5 htq k0 k1 k2 k3 k4
 obtain ⟨k5, k6, k7⟩ := tc3 htq k5 k6 k7
 obtain ⟨k8, k9, k10⟩ := tc3 htq k8 k9 k10
 obtain ⟨g0, g3, g6⟩ := bt3 htq g0 g3 g6
 replace g2 := hrq
 replace HY := Hid.mk (HY.out.turn htq (fun i hi c => by have c' : i = w.heap.size + 1 + 1 := c; (try dsimp only at hi); omega))
 replace hB := qaf hB htq (by omega)
 refine hK.out _ _ ⟨k0, k1, k2, k3, k4, k5, k6, k7, k8, k9, k10⟩ (fun hHeldsa => ?_)
 clear hK hrq
 try simp only [Act.put, sq]
 refine rd1 3 (h := fun K hK => ?_)
 refine qah rfl rfl 65 _ _ rfl (w.heap.size + 1 + 1 + 1) 0 _ #[.int .i64 0, .int .i64 0] rfl rfl rfl 65 _ g3 (show 0 + 2 ≤ 2 by decide) qcq (by simp [Value.oneCell']) #[.int .i64 0, .int .i64 0] rfl ?_
 intro wsb hrq htq
 obtain ⟨k0, k1, k2, k3, k4⟩ := tc5 htq k0 k1 k2 k3 k4
 obtain ⟨k5, k6, k7⟩ := tc3 htq k5 k6 k7
 obtain ⟨k8, k9, k10⟩ := tc3 htq k8 k9 k10
 obtain ⟨g0, g2, g6⟩ := bt3 htq g0 g2 g6
 replace g3 := hrq
 replace HY := Hid.mk (HY.out.turn htq (fun i hi c => by have c' : i = w.heap.size + 1 + 1 + 1 := c; (try dsimp only at hi); omega))
 replace hB := qaf hB htq (by omega)
 refine hK.out _ _ ⟨k0, k1, k2, k3, k4, k5, k6, k7, k8, k9, k10⟩ (fun hHeldsb => ?_)
 clear hK hrq
 try simp only [Act.put, sq]
 refine tk 4 12 (h := ?_)
 refine wpAnyH_done (by kernel_rfl) ?_ _
 refine NoPanic.normal ?_
 clear k0 k1 k2 k3 k4 k5 k6 k7 k8 k9 k10
 go_wp2
 refine bodyPost_ret (qfa (p := 10) (q := 11) (u := 12) rfl _ _ (w.heap.size + 1 + 1) (w.heap.size + 1 + 1 + 1) _ _ _ _ _ _ _ _ rfl g2 Tryz.underlying34 rfl qao rfl g3 Tryz.underlying65 rfl qcq) rfl ?_
 rw [HAF.out, HAW.out, HAS.out]
 first
 | exact ⟨_, rfl, (HY.out.mono (fun i hi => by rcases hi with ⟨hi | hi, -⟩ | hi; exact Or.inl hi.1; exact Or.inr (by omega); exact Or.inr (by omega))), hB⟩
 | exact ⟨_, rfl, (HY.out.mono (fun i hi => by rcases hi with hi | hi; exact Or.inl hi.1; exact Or.inr (by omega))), hB⟩) : Z := z
theorem yacc_0S (h : YOk w B m s d) (hf : Fm S s.f) (hw : Wf most s) (hm : m < 1000000) (kind : Int) (va v : Nat) (hva : va < 18446744073709551616) (hn : Hn) (h8 : (va : Int) % 8 = 0) (R I : Nat) (hg : s.rg = some (R, I)) (hN : fdN s I va = 0) (hf1 : (qai S s va hn).2.1 = 0) (hlt : (letF (qai S s va hn).1 kind).1 = 0) (hkd : kind = 2) :
  Calls Tryz.prog 17 #[.agg (d.cs S most s), .int .i64 kind, .int .u64 va, .int .u64 v, hn.v] w fun r w' => ∃ d', r = .returned (.tuple #[.agg (d'.cs S most (accS S most s kind va v hn)), .agg #[.int .i64 (accF (qai S s va hn) kind).1, .int .i64 (accF (qai S s va hn) kind).2], .int .u64 (accW s.f (qai S s va hn) kind va : Nat)]) ∧ YOk w' (fun g => B g ∨ w.heap.size ≤ g) (m + 1) (accS S most s kind va v hn) d' ∧ Below w.heap.size w w' := by
 have hal : ¬ qaq va 3 = false := by rw [show qaq va 3 = qaq va ((3 : Nat) : Int) from rfl, qbl va (by omega) (by omega), decide_eq_true (by omega)]; decide
 have e1 : R = d.R := (h.rg R I hg).1.symm
 have e2 : I = d.I := (h.rg R I hg).2.symm
 have e3 : true = d.on := by have := h.on; rw [hg] at this; exact this.symm
 have HFD := pfd h hw I va hva
 have hlo : qai S s va hn = (lfR (wkO S s R I va hn).2, ftR (wkO S s R I va hn).2) := by unfold qai; rw [if_neg hal, hg]; show lfO S s R I va hn = _; unfold lfO; rw [if_pos hN]
 have hls : qba S most s va hn = wdS S most s R I va hn := by unfold qba; rw [if_neg hal, hg]; show lfS S most s R I va hn = _; unfold lfS; rw [if_pos hN]
 have hlf : (qba S most s va hn).f = s.f := leafS_f va hn
 have HLV : Hid (isLv (qai S s va hn).1.l = true ∧ (qai S s va hn).1.o < 281474976710656 ∧ (qai S s va hn).2.2 = 0) := by show _ ∧ _; rw [hlo] at hf1 ⊢; exact wk_lv hf1
 have HAF : Hid (accF (qai S s va hn) kind = letF (qai S s va hn).1 kind) := by show _ = _; unfold accF; rw [if_pos hf1]
 have HLT := Hid.mk (fun W => qds (qai S s va hn).1.k (qai S s va hn).1.o (qai S s va hn).1.u (qai S s va hn).1.r (qai S s va hn).1.x (qai S s va hn).1.s (qai S s va hn).1.a (qai S s va hn).1.l kind W)
 have hl2 : (letF (qai S s va hn).1 kind).2 = 0 := qdv hlt
 have HOF := Hid.mk (fun W => qdl va (qai S s va hn).1.l HLV.out.1 hva W)
 have HOV := Hid.mk (offV_lt va (qai S s va hn).1.l)
 have HAW : Hid (accW s.f (qai S s va hn) kind va = 0) := by show _ = _; unfold accW; rw [if_neg (fun c => c.2 hkd)]
 have HAS : Hid (accS S most s kind va v hn = { qba S most s va hn with f := wrF (qba S most s va hn).f S ((qai S s va hn).1.o + offV va (qai S s va hn).1.l) v }) := by show _ = _; unfold accS accM; rw [HAF.out, if_pos ⟨hlt, hkd⟩, hlf]; rfl
 have HY : Hid (YOk w (fun g => B g ∧ g < w.heap.size) m s d) := Hid.mk h.tight
 have HV1 := Hid.mk h.vm1
 have HWK : Hid (∀ W (B' : Nat → Prop), YOk W B' m s d → Calls Tryz.prog 56 #[.agg (d.cs S most s), .int .u64 va, hn.v] W fun r w' => ∃ d' v, r = .returned (.tuple #[.agg (d'.cs S most (qba S most s va hn)), .agg (lC (qai S s va hn).1 (qai S s va hn).2 v)]) ∧ v.oneCell' = true ∧ YOk w' (fun g => B' g ∨ W.heap.size ≤ g) m (qba S most s va hn) d' ∧ Below W.heap.size W w') := Hid.mk (fun W B' hy => by rw [hlo, hls]; exact ywalk_c hy hf hw hm R I hg va hva hn)
 clear h hal hg hw hlf hf hva hlo hls
 obtain ⟨vm, L, aE, cE, aK, cK, aP, cP, on', R', I'⟩ := d
 obtain ⟨b0', b1', b2'⟩ := hn
 dsimp only at e1 e2 e3
 subst e1 e2 e3
 generalize accS S most s kind va v ⟨b0', b1', b2'⟩ = sA at *
 generalize accF (qai S s va ⟨b0', b1', b2'⟩) kind = FA at *
 generalize accW s.f (qai S s va ⟨b0', b1', b2'⟩) kind va = WA at *
 generalize qba S most s va ⟨b0', b1', b2'⟩ = s1 at *
 generalize qai S s va ⟨b0', b1', b2'⟩ = Q at *
 obtain ⟨⟨ql, qk, qo, qu, qr, qx, qs, qa⟩, f1, f2⟩ := Q
 generalize fdN s I va = N at *
 generalize fdE s I va = ee at *
 obtain ⟨ea, ev, el, ek, eo, eu, er, ex, es, et⟩ := ee
 subst hN
 (try dsimp only at hf1)
 (try dsimp only at HLV)
 have hf2 := HLV.out.2.2
 (try dsimp only at hf2)
 subst hf1 hf2
 unfold letF at hlt hl2 HAF
 (try dsimp only at hlt HAF HLT HLV hl2 HOF HOV HAW HAS)
 generalize letK qu qr qx qs kind = lk at *
 generalize letL qu qr qx qs ql kind = ll at *
 subst hlt hl2
 have hov := HOV.out
 have hqo := HLV.out.2.1
 generalize offV va ql = of at *
 have hatw : IntKind.u64.wrap ((qo : Int) + (of : Int)) = ((qo + of : Nat) : Int) := by rw [IntKind.wrap_u64]; omega
 have HAT := Hid.mk hatw
 subst hkd
 clear hov hqo hatw
 obtain ⟨W4, hW4, g0, g1, g2, g3, hB, hsz⟩ := hp4 w (.cells #[.int .u64 S, vm, .int .i64 most, .slice aE s.E.length cE, .slice aK s.K.length cK, .bool true, .int .u64 R, .int .i64 I, .slice aP s.P.length cP] 34) (.cells #[.bool b0', .bool b1', .bool b2'] 64) (.cells #[.int .u64 0, .slice none 0 0, .int .i64 0, .slice none 0 0, .slice none 0 0, .bool false, .int .u64 0, .int .i64 0, .slice none 0 0] 34) (.cells #[.int .i64 0, .int .i64 0] 65)
 replace hsz := Nat.le_of_eq hsz.symm
 go_enter Tryz.func17, Tryz.ntmps17
 go_upto_region 1 with fail
 (try rw [hW4])
 clear hW4
 replace HY := Hid.mk (HY.out.later hB)
 obtain ⟨c0, c1, c2, c3, c4, c5, c6, c7, c8⟩ := qal g0
 obtain ⟨d0, d1, d2⟩ := qan g1
 go_wp2_with fail
 refine (HFD.out _ hB).mono ?_
 rintro e w1 ⟨rfl, hb1⟩
 have hb2 := qac w1 (.cells #[.int .i64 ea, .int .u64 ev, .int .i64 el, .int .i64 ek, .int .u64 eo, .bool eu, .bool er, .bool ex, .bool es, .int .i64 et] 94)
 have g4 := heap_alloc_new w1 (.cells #[.int .i64 ea, .int .u64 ev, .int .i64 el, .int .i64 ek, .int .u64 eo, .bool eu, .bool er, .bool ex, .bool es, .int .i64 et] 94)
 clear HFD c0 c1 c2 c3 c4 c5 c6 c7 c8 d0 d1 d2
 go_upto_region 6 with fail
 generalize w1.alloc (.cells #[.int .i64 ea, .int .u64 ev, .int .i64 el, .int .i64 ek, .int .u64 eo, .bool eu, .bool er, .bool ex, .bool es, .int .i64 et] 94) = w2 at *
 replace g0 := qaa hb2 (qaa hb1 g0)
 replace g1 := qaa hb2 (qaa hb1 g1)
 replace g2 := qaa hb2 (qaa hb1 g2)
 replace g3 := qaa hb2 (qaa hb1 g3)
 replace hB := qab (qab hB hb1) hb2
 replace hsz := Nat.le_trans hsz hb1.size
 replace HY := Hid.mk ((HY.out.later hb1).later hb2)
 clear hb1 hb2
 generalize w1.heap.size = KE at *
 have hKE := qag g4
 obtain ⟨c0, c1, c2, c3, c4, c5, c6, c7, c8⟩ := qal g0
 obtain ⟨-, -, m2, m3, m4, m5, m6, m7, m8, m9⟩ := cells10y g4
 have hb2 := qac w2 (.cells #[.int .i64 el, .int .i64 ek, .int .u64 eo, .bool eu, .bool er, .bool ex, .bool es, .int .i64 et, .int .i64 0, .int .i64 0, .slice none 0 0] 138)
 have g5 := heap_alloc_new w2 (.cells #[.int .i64 el, .int .i64 ek, .int .u64 eo, .bool eu, .bool er, .bool ex, .bool es, .int .i64 et, .int .i64 0, .int .i64 0, .slice none 0 0] 138)
 clear g4
 go_upto_region 9 with fail
 generalize w2.alloc (.cells #[.int .i64 el, .int .i64 ek, .int .u64 eo, .bool eu, .bool er, .bool ex, .bool es, .int .i64 et, .int .i64 0, .int .i64 0, .slice none 0 0] 138) = w3 at *
 clear m2 m3 m4 m5 m6 m7 m8 m9 c0 c1 c2 c3 c4 c5 c6 c7 c8
 obtain ⟨g0, g1, g2, g3⟩ := bl4 hb2 g0 g1 g2 g3
 replace hB := qab hB hb2
 have hKL : w.heap.size + 1 + 1 + 1 + 1 ≤ w2.heap.size := Nat.le_trans hsz (Nat.le_of_lt hKE)
 replace HY := Hid.mk (HY.out.later hb2)
 clear hb2
 generalize w2.heap.size = KL at *
 obtain ⟨c0, c1, c2, c3, c4, c5, c6, c7, c8⟩ := qal g0
 obtain ⟨d0, d1, d2⟩ := qan g1
 have hl5 := qag g5
 go_wp2_with fail
 refine (HWK.out _ _ HY.out).mono ?_
 rintro e w4 ⟨d1', v1, rfl, hv1, hy1, hb⟩
 obtain ⟨vm1, L1, aE1, cE1, aK1, cK1, aP1, cP1, on1, R1, I1⟩ := d1'
 have HV2 := Hid.mk hy1.vm1
 have HV3 := Hid.mk hv1
 clear HY HWK HV1 hv1 c0 c1 c2 c3 c4 c5 c6 c7 c8 d0 d1 d2 g1
 have HY := Hid.mk hy1
 have HV1 := HV2
 clear hy1
 dsimp only at HV1 HV2
 obtain ⟨g0, g2, g3, g5⟩ := bl4 hb g0 g2 g3 g5
 replace hB := qab hB hb
 clear hb
 go_upto_region 11 with
  first
  | (refine qad rfl 34 _ _ rfl rfl (w.heap.size) 0 _ #[.int .u64 S, vm1, .int .i64 most, .slice aE1 s1.E.length cE1, .slice aK1 s1.K.length cK1, .bool on1, .int .u64 R1, .int .i64 I1, .slice aP1 s1.P.length cP1] rfl rfl rfl 34 _ g0 (show 0 + 9 ≤ 9 by decide) qao (all_oneCell_toArray (fun u hu => by simp only [List.mem_cons, List.not_mem_nil, or_false] at hu; rcases hu with rfl | rfl | rfl | rfl | rfl | rfl | rfl | rfl | rfl <;> first | rfl | exact HV1.out | exact HV2.out)) #[.int .u64 S, vm1, .int .i64 most, .slice aE1 s1.E.length cE1, .slice aK1 s1.K.length cK1, .bool on1, .int .u64 R1, .int .i64 I1, .slice aP1 s1.P.length cP1] rfl ?_
     intro wa hrq htq
     obtain ⟨g2, g3, g5⟩ := bt3 htq g2 g3 g5
     replace HY := Hid.mk (HY.out.turn htq (fun i hi c => by have c' : i = w.heap.size := c; (try dsimp only at hi); omega))
     replace hB := qaf hB htq (by omega)
     replace g0 := hrq
     clear hrq htq)
  | (refine qad rfl 138 _ _ rfl rfl KL 0 _ #[.int .i64 ql, .int .i64 qk, .int .u64 qo, .bool qu, .bool qr, .bool qx, .bool qs, .int .i64 qa, .int .i64 0, .int .i64 0, v1] rfl rfl rfl 138 _ g5 (show 0 + 11 ≤ 11 by decide) qbz (all_oneCell_toArray (fun u hu => by simp only [List.mem_cons, List.not_mem_nil, or_false] at hu; rcases hu with rfl | rfl | rfl | rfl | rfl | rfl | rfl | rfl | rfl | rfl | rfl <;> first | rfl | exact HV3.out)) #[.int .i64 ql, .int .i64 qk, .int .u64 qo, .bool qu, .bool qr, .bool qx, .bool qs, .int .i64 qa, .int .i64 0, .int .i64 0, v1] rfl ?_
     intro wb hrq htq
     obtain ⟨g0, g2, g3⟩ := bt3 htq g0 g2 g3
     replace HY := Hid.mk (HY.out.turn htq (fun i hi c => by have c' : i = KL := c; (try dsimp only at hi); omega))
     replace hB := qaf hB htq (by omega)
     replace g5 := hrq
     clear hrq htq
     obtain ⟨m0, m1, m2, m3, m4, m5, m6, m7, m8, m9, m10⟩ := qbb g5)
  | fail
 have hl5' := qag g5
 have hl3 := qag g3
 replace HY := Hid.mk HY.out.tight
 have hb2 := qac wb (.cells #[.int .i64 0, .int .i64 0] 65)
 have g6 := heap_alloc_new wb (.cells #[.int .i64 0, .int .i64 0] 65)
 go_upto_region 12 with fail
 generalize wb.alloc (.cells #[.int .i64 0, .int .i64 0] 65) = w5 at *
 clear m0 m1 m2 m3 m4 m5 m6 m7 m8 m9 m10
 obtain ⟨g0, g2, g3, g5⟩ := bl4 hb2 g0 g2 g3 g5
 replace hB := qab hB hb2
 replace HY := Hid.mk (HY.out.later hb2)
 clear hb2
 generalize wb.heap.size = KF at *
 have hl6 := qag g6
 obtain ⟨n0, n1⟩ := TR.qaz g6
 obtain ⟨m0, m1, m2, m3, m4, m5, m6, m7, m8, m9, m10⟩ := qbb g5
 go_wp2_with fail
 refine (HLT.out _).mono ?_
 rintro e w6 ⟨rfl, hb⟩
 clear m0 m1 m2 m3 m4 m5 m6 m7 m8 m9 m10 n0 n1 HLT
 obtain ⟨g0, g2, g3, g5, g6⟩ := bl5 hb g0 g2 g3 g5 g6
 replace hB := qab hB hb
 replace HY := Hid.mk (HY.out.later hb)
 clear hb
 go_wp2_with
  first
  | (refine qad rfl 65 _ _ rfl rfl KF 0 _ #[.int .i64 0, .int .i64 0] rfl rfl rfl 65 _ g6 (show 0 + 2 ≤ 2 by decide) qcq (by simp [Value.oneCell']) #[.int .i64 0, .int .i64 0] rfl ?_
     intro w7 hrq htq
     obtain ⟨g0, g2, g3, g5⟩ := bt4 htq g0 g2 g3 g5
     replace HY := Hid.mk (HY.out.turn htq (fun i hi c => by have c' : i = KF := c; (try dsimp only at hi); omega))
     replace hB := qaf hB htq (by omega)
     replace g6 := hrq
     clear hrq htq
     obtain ⟨n0, n1⟩ := TR.qaz g6)
  | fail
 obtain ⟨m0, m1, m2, m3, m4, m5, m6, m7, m8, m9, m10⟩ := qbb g5
 go_region_held3 (fun w' => (w'.cell? ⟨KL, 0, none⟩ = some (.int .i64 ql) ∧ w'.cell? ⟨KL, 2, none⟩ = some (.int .u64 qo)) ∧ Below w7.heap.size w7 w')
  ((go_split_ands; refine ⟨⟨?_, ?_⟩, ?_⟩ <;> first | (with_reducible assumption; done) | with_reducible exact cell_later hbm (by assumption) | with_reducible exact qab (by assumption) hbm | exact (Below.refl _ _).drew | (go_keep; done)))
  ((go_at_call 58; refine (HOF.out _).mono ?_; rintro e w' ⟨rfl, hbm⟩))
 obtain ⟨-, hb⟩ : _ ∧ Below w7.heap.size w7 w' := by go_split_ands; exact ⟨trivial, by assumption⟩
 rw [HAT.out]
 clear m0 m1 m2 m3 m4 m5 m6 m7 m8 m9 m10 n0 n1 HOF HAT
 obtain ⟨g0, g2, g3, g5, g6⟩ := bl5 hb g0 g2 g3 g5 g6
 replace hB := qab hB hb
 replace HY := Hid.mk (HY.out.later hb)
 obtain ⟨c0, c1, c2, c3, c4, c5, c6, c7, c8⟩ := qal g0
 go_wp2_with fail
 refine (ywrite_c HY.out hm (qo + of) v).mono ?_
 rintro e w9 ⟨vm3, L3, rfl, hv3, hy3, hb9⟩
 have HV3' := Hid.mk hv3
 have hw9 := qag g6
 clear HY hb c0 c1 c2 c3 c4 c5 c6 c7 c8
 have HY := Hid.mk hy3
 clear hy3 hv3
 obtain ⟨g0, g2, g3, g5, g6⟩ := bl5 hb9 g0 g2 g3 g5 g6
 replace hB := qab hB hb9
 clear hb9
 go_wp2_with
  first
  | (refine qad rfl 29 _ _ rfl rfl (w.heap.size) 0 _ #[.int .u64 S, vm3] rfl rfl rfl 34 _ g0 (show 0 + 2 ≤ 9 by decide) info_M3 (all_oneCell_toArray (fun u hu => by simp only [List.mem_cons, List.not_mem_nil, or_false] at hu; rcases hu with rfl | rfl <;> first | rfl | exact HV3'.out)) #[.int .u64 S, vm3, .int .i64 most, .slice aE1 s1.E.length cE1, .slice aK1 s1.K.length cK1, .bool on1, .int .u64 R1, .int .i64 I1, .slice aP1 s1.P.length cP1] rfl ?_
     intro wc hrq htq
     obtain ⟨g2, g3, g5, g6⟩ := bt4 htq g2 g3 g5 g6
     replace HY := Hid.mk (HY.out.turn htq (fun i hi c => by have c' : i = w.heap.size := c; (try dsimp only at hi); omega))
     replace hB := qaf hB htq (by omega)
     replace g0 := hrq
     clear hrq htq)
  | fail
 go_upto_region 19 with fail
 (try clear c0 c1 c2 c3 c4 c5 c6 c7 c8)
 (try clear n0 n1)
 obtain ⟨c0, c1, c2, c3, c4, c5, c6, c7, c8⟩ := qal g0
 obtain ⟨n0, n1⟩ := TR.qaz g6
 have hl9 := qag g6
 have k0 := c0
 have k1 := c1
 have k2 := c2
 have k3 := c3
 have k4 := c4
 have k5 := c5
 have k6 := c6
 have k7 := c7
 have k8 := c8
 have k9 := n0
 have k10 := n1
 clear c0 c1 c2 c3 c4 c5 c6 c7 c8 n0 n1
 clear g5
 obtain ⟨k0, k1, k2, k3, k4⟩ := cl5 (Below.refl _ wc).drew k0 k1 k2 k3 k4
 obtain ⟨k5, k6, k7⟩ := cl3 (Below.refl _ wc).drew k5 k6 k7
 obtain ⟨k8, k9, k10⟩ := cl3 (Below.refl _ wc).drew k8 k9 k10
 refine hd11 k0 k1 k2 k3 k4 k5 k6 k7 k8 k9 k10 (h := fun hHeld => ?_)
 obtain ⟨g0, g2, g3, g6⟩ := bl4 (Below.refl _ wc).drew g0 g2 g3 g6
 replace HY := Hid.mk (HY.out.later (Below.refl _ wc).drew)
 replace hB := qab hB (Below.refl _ wc).drew
 generalize wc.drew = Wd at *
 refine tk 0 92 (h := ?_)
 refine tk 1 93 (h := ?_)
 refine rd1 2 (h := fun K hK => ?_)
 refine qah rfl rfl 34 _ _ rfl (w.heap.size + 1 + 1) 0 _ #[.int .u64 S, vm3, .int .i64 most, .slice aE1 s1.E.length cE1, .slice aK1 s1.K.length cK1, .bool on1, .int .u64 R1, .int .i64 I1, .slice aP1 s1.P.length cP1] rfl rfl rfl 34 _ g2 (show 0 + 9 ≤ 9 by decide) qao (all_oneCell_toArray (fun u hu => by simp only [List.mem_cons, List.not_mem_nil, or_false] at hu; rcases hu with rfl | rfl | rfl | rfl | rfl | rfl | rfl | rfl | rfl <;> first | rfl | exact HV1.out | exact HV2.out | exact HV3'.out)) #[.int .u64 S, vm3, .int .i64 most, .slice aE1 s1.E.length cE1, .slice aK1 s1.K.length cK1, .bool on1, .int .u64 R1, .int .i64 I1, .slice aP1 s1.P.length cP1] rfl ?_
 exact zP46x02
theorem zP46x03 {Z : Prop} (z : Z := by
 intro wsa hrq htq
 obtain ⟨k0, k1, k2, k3, k4⟩ := tc5 htq k0 k1 k2 k3 k4
 obtain ⟨k5, k6, k7⟩ := tc3 htq k5 k6 k7
 obtain ⟨k8, k9, k10⟩ := tc3 htq k8 k9 k10
 obtain ⟨g0, g3, g6⟩ := bt3 htq g0 g3 g6
 replace g2 := hrq
 replace HY := Hid.mk (HY.out.turn htq (fun i hi c => by have c' : i = w.heap.size + 1 + 1 := c; (try dsimp only at hi); omega))
 replace hB := qaf hB htq (by omega)
 refine hK.out _ _ ⟨k0, k1, k2, k3, k4, k5, k6, k7, k8, k9, k10⟩ (fun hHeldsa => ?_)
 clear hK hrq
 try simp only [Act.put, sq]
 refine rd1 4 (h := fun K hK => ?_)
 refine qah rfl rfl 65 _ _ rfl (w.heap.size + 1 + 1 + 1) 0 _ #[.int .i64 0, .int .i64 0] rfl rfl rfl 65 _ g3 (show 0 + 2 ≤ 2 by decide) qcq (by simp [Value.oneCell']) #[.int .i64 0, .int .i64 0] rfl ?_
 intro wsb hrq htq
 obtain ⟨k0, k1, k2, k3, k4⟩ := tc5 htq k0 k1 k2 k3 k4
 obtain ⟨k5, k6, k7⟩ := tc3 htq k5 k6 k7
 obtain ⟨k8, k9, k10⟩ := tc3 htq k8 k9 k10
 obtain ⟨g0, g2, g6⟩ := bt3 htq g0 g2 g6
 replace g3 := hrq
 replace HY := Hid.mk (HY.out.turn htq (fun i hi c => by have c' : i = w.heap.size + 1 + 1 + 1 := c; (try dsimp only at hi); omega))
 replace hB := qaf hB htq (by omega)
 refine hK.out _ _ ⟨k0, k1, k2, k3, k4, k5, k6, k7, k8, k9, k10⟩ (fun hHeldsb => ?_)
 clear hK hrq
 try simp only [Act.put, sq]
 refine tk 5 12 (h := ?_)
 refine wpAnyH_done (by kernel_rfl) ?_ _
 refine NoPanic.normal ?_
 clear k0 k1 k2 k3 k4 k5 k6 k7 k8 k9 k10
 go_wp2
 refine bodyPost_ret (qfa (p := 10) (q := 11) (u := 12) rfl _ _ (w.heap.size + 1 + 1) (w.heap.size + 1 + 1 + 1) _ _ _ _ _ _ _ _ rfl g2 Tryz.underlying34 rfl qao rfl g3 Tryz.underlying65 rfl qcq) rfl ?_
 rw [HAF.out, HAW.out, HAS.out]
 first
 | exact ⟨_, rfl, (HY.out.mono (fun i hi => by rcases hi with ⟨hi | hi, -⟩; exact Or.inl hi.1; exact Or.inr (by omega))).up (Nat.le_succ _), hB⟩
 | exact ⟨_, rfl, (HY.out.mono (fun i hi => Or.inl hi.1)).up (Nat.le_succ _), hB⟩) : Z := z
theorem zP46x21 {Z : Prop} (z : Z := by
 have hl6 := qag g6
 obtain ⟨n0, n1⟩ := TR.qaz g6
 obtain ⟨m0, m1, m2, m3, m4, m5, m6, m7, m8, m9, m10⟩ := qbb g5
 go_wp2_with fail
 refine (HLT.out _).mono ?_
 rintro e w6 ⟨rfl, hb⟩
 clear m0 m1 m2 m3 m4 m5 m6 m7 m8 m9 m10 n0 n1 HLT
 obtain ⟨g0, g2, g3, g5, g6⟩ := bl5 hb g0 g2 g3 g5 g6
 replace hB := qab hB hb
 replace HY := Hid.mk (HY.out.later hb)
 clear hb
 go_wp2_with
  first
  | (refine qad rfl 65 _ _ rfl rfl KF 0 _ #[.int .i64 0, .int .i64 0] rfl rfl rfl 65 _ g6 (show 0 + 2 ≤ 2 by decide) qcq (by simp [Value.oneCell']) #[.int .i64 0, .int .i64 0] rfl ?_
     intro w7 hrq htq
     obtain ⟨g0, g2, g3, g5⟩ := bt4 htq g0 g2 g3 g5
     replace HY := Hid.mk (HY.out.turn htq (fun i hi c => by have c' : i = KF := c; (try dsimp only at hi); omega))
     replace hB := qaf hB htq (by omega)
     replace g6 := hrq
     clear hrq htq
     obtain ⟨n0, n1⟩ := TR.qaz g6)
  | fail
 obtain ⟨m0, m1, m2, m3, m4, m5, m6, m7, m8, m9, m10⟩ := qbb g5
 go_region_held3 (fun w' => (w'.cell? ⟨KL, 0, none⟩ = some (.int .i64 ql) ∧ w'.cell? ⟨KL, 2, none⟩ = some (.int .u64 qo)) ∧ Below w7.heap.size w7 w')
  ((go_split_ands; refine ⟨⟨?_, ?_⟩, ?_⟩ <;> first | (with_reducible assumption; done) | with_reducible exact cell_later hbm (by assumption) | with_reducible exact qab (by assumption) hbm | exact (Below.refl _ _).drew | (go_keep; done)))
  ((go_at_call 58; refine (HOF.out _).mono ?_; rintro e w' ⟨rfl, hbm⟩))
 obtain ⟨-, hb⟩ : _ ∧ Below w7.heap.size w7 w' := by go_split_ands; exact ⟨trivial, by assumption⟩
 rw [HAT.out]
 clear m0 m1 m2 m3 m4 m5 m6 m7 m8 m9 m10 n0 n1 HOF HAT
 obtain ⟨g0, g2, g3, g5, g6⟩ := bl5 hb g0 g2 g3 g5 g6
 replace hB := qab hB hb
 replace HY := Hid.mk (HY.out.later hb)
 obtain ⟨c0, c1, c2, c3, c4, c5, c6, c7, c8⟩ := qal g0
 go_wp2_with fail
 refine (yread_c HY.out HFM.out hm (qo + of)).mono ?_
 rintro e w9 ⟨rfl, hb9⟩
 clear hb c0 c1 c2 c3 c4 c5 c6 c7 c8
 obtain ⟨g0, g2, g3, g5, g6⟩ := bl5 hb9 g0 g2 g3 g5 g6
 replace hB := qab hB hb9
 replace HY := Hid.mk (HY.out.later hb9)
 clear hb9
 go_upto_region 21 with fail
 (try clear c0 c1 c2 c3 c4 c5 c6 c7 c8)
 (try clear n0 n1)
 obtain ⟨c0, c1, c2, c3, c4, c5, c6, c7, c8⟩ := qal g0
 obtain ⟨n0, n1⟩ := TR.qaz g6
 have hl9 := qag g6
 have k0 := c0
 have k1 := c1
 have k2 := c2
 have k3 := c3
 have k4 := c4
 have k5 := c5
 have k6 := c6
 have k7 := c7
 have k8 := c8
 have k9 := n0
 have k10 := n1
 clear c0 c1 c2 c3 c4 c5 c6 c7 c8 n0 n1
 clear g5
 obtain ⟨k0, k1, k2, k3, k4⟩ := cl5 (Below.refl _ w9).drew k0 k1 k2 k3 k4
 obtain ⟨k5, k6, k7⟩ := cl3 (Below.refl _ w9).drew k5 k6 k7
 obtain ⟨k8, k9, k10⟩ := cl3 (Below.refl _ w9).drew k8 k9 k10
 refine hd11 k0 k1 k2 k3 k4 k5 k6 k7 k8 k9 k10 (h := fun hHeld => ?_)
 obtain ⟨g0, g2, g3, g6⟩ := bl4 (Below.refl _ w9).drew g0 g2 g3 g6
 replace HY := Hid.mk (HY.out.later (Below.refl _ w9).drew)
 replace hB := qab hB (Below.refl _ w9).drew
 generalize w9.drew = Wd at *
 refine tk 0 101 (h := ?_)
 refine tk 1 102 (h := ?_)
 refine tk 2 103 (h := ?_)
 refine rd1 3 (h := fun K hK => ?_)
 first
 | exact zP46x11
 | exact zP46x12) : Z := z
theorem zP46x51 {Z : Prop} (z : Z := by
 unfold letF at hlt hl2 HAF
 (try dsimp only at hlt HAF HLT HLV hl2 HOF HOV HAW HAS)
 generalize letK qu qr qx qs kind = lk at *
 generalize letL qu qr qx qs ql kind = ll at *
 subst hlt hl2
 have hov := HOV.out
 have hqo := HLV.out.2.1
 generalize offV va ql = of at *
 have hatw : IntKind.u64.wrap ((qo : Int) + (of : Int)) = ((qo + of : Nat) : Int) := by rw [IntKind.wrap_u64]; omega
 have HAT := Hid.mk hatw
 have hk2 : (kind == 2) = false := by rw [beq_eq_false_iff_ne]; exact hkd
 clear hov hqo hatw
 first
 | exact zP46x41
 | exact zP46x42) : Z := z
theorem yacc_0L (h : YOk w B m s d) (hf : Fm S s.f) (hw : Wf most s) (hm : m < 1000000) (kind : Int) (va v : Nat) (hva : va < 18446744073709551616) (hn : Hn) (h8 : (va : Int) % 8 = 0) (R I : Nat) (hg : s.rg = some (R, I)) (hN : fdN s I va = 0) (hf1 : (qai S s va hn).2.1 = 0) (hlt : (letF (qai S s va hn).1 kind).1 = 0) (hkd : ¬ kind = 2) :
  Calls Tryz.prog 17 #[.agg (d.cs S most s), .int .i64 kind, .int .u64 va, .int .u64 v, hn.v] w fun r w' => ∃ d', r = .returned (.tuple #[.agg (d'.cs S most (accS S most s kind va v hn)), .agg #[.int .i64 (accF (qai S s va hn) kind).1, .int .i64 (accF (qai S s va hn) kind).2], .int .u64 (accW s.f (qai S s va hn) kind va : Nat)]) ∧ YOk w' (fun g => B g ∨ w.heap.size ≤ g) (m + 1) (accS S most s kind va v hn) d' ∧ Below w.heap.size w w' := by
 have hal : ¬ qaq va 3 = false := by rw [show qaq va 3 = qaq va ((3 : Nat) : Int) from rfl, qbl va (by omega) (by omega), decide_eq_true (by omega)]; decide
 have e1 : R = d.R := (h.rg R I hg).1.symm
 have e2 : I = d.I := (h.rg R I hg).2.symm
 have e3 : true = d.on := by have := h.on; rw [hg] at this; exact this.symm
 have HFD := pfd h hw I va hva
 have hlo : qai S s va hn = (lfR (wkO S s R I va hn).2, ftR (wkO S s R I va hn).2) := by unfold qai; rw [if_neg hal, hg]; show lfO S s R I va hn = _; unfold lfO; rw [if_pos hN]
 have hls : qba S most s va hn = wdS S most s R I va hn := by unfold qba; rw [if_neg hal, hg]; show lfS S most s R I va hn = _; unfold lfS; rw [if_pos hN]
 have hlf : (qba S most s va hn).f = s.f := leafS_f va hn
 have HLV : Hid (isLv (qai S s va hn).1.l = true ∧ (qai S s va hn).1.o < 281474976710656 ∧ (qai S s va hn).2.2 = 0) := by show _ ∧ _; rw [hlo] at hf1 ⊢; exact wk_lv hf1
 have HAF : Hid (accF (qai S s va hn) kind = letF (qai S s va hn).1 kind) := by show _ = _; unfold accF; rw [if_pos hf1]
 have HLT := Hid.mk (fun W => qds (qai S s va hn).1.k (qai S s va hn).1.o (qai S s va hn).1.u (qai S s va hn).1.r (qai S s va hn).1.x (qai S s va hn).1.s (qai S s va hn).1.a (qai S s va hn).1.l kind W)
 have hl2 : (letF (qai S s va hn).1 kind).2 = 0 := qdv hlt
 have HOF := Hid.mk (fun W => qdl va (qai S s va hn).1.l HLV.out.1 hva W)
 have HOV := Hid.mk (offV_lt va (qai S s va hn).1.l)
 have HAW : Hid (accW s.f (qai S s va hn) kind va = (qba S most s va hn).f ((qai S s va hn).1.o + offV va (qai S s va hn).1.l)) := by show _ = _; unfold accW; rw [HAF.out, if_pos ⟨hlt, hkd⟩, hlf]; rfl
 have HAS : Hid (accS S most s kind va v hn = qba S most s va hn) := by show _ = _; unfold accS accM; rw [HAF.out, if_neg (fun c => hkd c.2), ← hlf]
 have HFM : Hid (Fm S (qba S most s va hn).f) := by show Fm S _; rw [hlf]; exact hf
 have HY : Hid (YOk w (fun g => B g ∧ g < w.heap.size) m s d) := Hid.mk h.tight
 have HV1 := Hid.mk h.vm1
 have HWK : Hid (∀ W (B' : Nat → Prop), YOk W B' m s d → Calls Tryz.prog 56 #[.agg (d.cs S most s), .int .u64 va, hn.v] W fun r w' => ∃ d' v, r = .returned (.tuple #[.agg (d'.cs S most (qba S most s va hn)), .agg (lC (qai S s va hn).1 (qai S s va hn).2 v)]) ∧ v.oneCell' = true ∧ YOk w' (fun g => B' g ∨ W.heap.size ≤ g) m (qba S most s va hn) d' ∧ Below W.heap.size W w') := Hid.mk (fun W B' hy => by rw [hlo, hls]; exact ywalk_c hy hf hw hm R I hg va hva hn)
 clear h hal hg hw hlf hf hva hlo hls
 obtain ⟨vm, L, aE, cE, aK, cK, aP, cP, on', R', I'⟩ := d
 obtain ⟨b0', b1', b2'⟩ := hn
 dsimp only at e1 e2 e3
 subst e1 e2 e3
 generalize accS S most s kind va v ⟨b0', b1', b2'⟩ = sA at *
 generalize accF (qai S s va ⟨b0', b1', b2'⟩) kind = FA at *
 generalize accW s.f (qai S s va ⟨b0', b1', b2'⟩) kind va = WA at *
 generalize qba S most s va ⟨b0', b1', b2'⟩ = s1 at *
 generalize qai S s va ⟨b0', b1', b2'⟩ = Q at *
 obtain ⟨⟨ql, qk, qo, qu, qr, qx, qs, qa⟩, f1, f2⟩ := Q
 generalize fdN s I va = N at *
 generalize fdE s I va = ee at *
 obtain ⟨ea, ev, el, ek, eo, eu, er, ex, es, et⟩ := ee
 subst hN
 (try dsimp only at hf1)
 (try dsimp only at HLV)
 have hf2 := HLV.out.2.2
 (try dsimp only at hf2)
 subst hf1 hf2
 exact zP46x51
theorem zP46x04 {Z : Prop} (z : Z := by
 show _ ∧ _
 rw [hlo]
 have hin := fd_in hN
 exact ⟨(rentry (hw.er _ hin)).2.2.1, right_out (hw.er _ hin) (hw.eo _ hin), rfl⟩) : Z := z
theorem zP46x12 {Z : Prop} (z : Z := by
 refine qah rfl rfl 34 _ _ rfl (w.heap.size + 1 + 1) 0 _ #[.int .u64 S, vm, .int .i64 most, .slice aE s.E.length cE, .slice aK s.K.length cK, .bool true, .int .u64 R, .int .i64 I, .slice aP s.P.length cP] rfl rfl rfl 34 _ g2 (show 0 + 9 ≤ 9 by decide) qao (all_oneCell_toArray (fun u hu => by simp only [List.mem_cons, List.not_mem_nil, or_false] at hu; rcases hu with rfl | rfl | rfl | rfl | rfl | rfl | rfl | rfl | rfl <;> first | rfl | exact HV1.out | exact HV2.out)) #[.int .u64 S, vm, .int .i64 most, .slice aE s.E.length cE, .slice aK s.K.length cK, .bool true, .int .u64 R, .int .i64 I, .slice aP s.P.length cP] rfl ?_
 first
 | exact zP46x01
 | exact zP46x03) : Z := z
theorem zP46x42 {Z : Prop} (z : Z := by
 obtain ⟨W4, hW4, g0, g1, g2, g3, hB, hsz⟩ := hp4 w (.cells #[.int .u64 S, vm, .int .i64 most, .slice aE s.E.length cE, .slice aK s.K.length cK, .bool true, .int .u64 R, .int .i64 I, .slice aP s.P.length cP] 34) (.cells #[.bool b0', .bool b1', .bool b2'] 64) (.cells #[.int .u64 0, .slice none 0 0, .int .i64 0, .slice none 0 0, .slice none 0 0, .bool false, .int .u64 0, .int .i64 0, .slice none 0 0] 34) (.cells #[.int .i64 0, .int .i64 0] 65)
 replace hsz := Nat.le_of_eq hsz.symm
 go_enter Tryz.func17, Tryz.ntmps17
 go_upto_region 1 with fail
 (try rw [hW4])
 clear hW4
 replace HY := Hid.mk (HY.out.later hB)
 obtain ⟨c0, c1, c2, c3, c4, c5, c6, c7, c8⟩ := qal g0
 obtain ⟨d0, d1, d2⟩ := qan g1
 go_wp2_with fail
 refine (HFD.out _ hB).mono ?_
 rintro e w1 ⟨rfl, hb1⟩
 have hb2 := qac w1 (.cells #[.int .i64 ea, .int .u64 ev, .int .i64 ql, .int .i64 qk, .int .u64 qo, .bool qu, .bool qr, .bool qx, .bool qs, .int .i64 qa] 94)
 have g4 := heap_alloc_new w1 (.cells #[.int .i64 ea, .int .u64 ev, .int .i64 ql, .int .i64 qk, .int .u64 qo, .bool qu, .bool qr, .bool qx, .bool qs, .int .i64 qa] 94)
 clear HFD c0 c1 c2 c3 c4 c5 c6 c7 c8 d0 d1 d2
 go_upto_region 6 with fail
 generalize w1.alloc (.cells #[.int .i64 ea, .int .u64 ev, .int .i64 ql, .int .i64 qk, .int .u64 qo, .bool qu, .bool qr, .bool qx, .bool qs, .int .i64 qa] 94) = w2 at *
 replace g0 := qaa hb2 (qaa hb1 g0)
 replace g1 := qaa hb2 (qaa hb1 g1)
 replace g2 := qaa hb2 (qaa hb1 g2)
 replace g3 := qaa hb2 (qaa hb1 g3)
 replace hB := qab (qab hB hb1) hb2
 replace hsz := Nat.le_trans hsz hb1.size
 replace HY := Hid.mk ((HY.out.later hb1).later hb2)
 clear hb1 hb2
 generalize w1.heap.size = KE at *
 have hKE := qag g4
 obtain ⟨c0, c1, c2, c3, c4, c5, c6, c7, c8⟩ := qal g0
 obtain ⟨-, -, m2, m3, m4, m5, m6, m7, m8, m9⟩ := cells10y g4
 have hb2 := qac w2 (.cells #[.int .i64 ql, .int .i64 qk, .int .u64 qo, .bool qu, .bool qr, .bool qx, .bool qs, .int .i64 qa, .int .i64 0, .int .i64 0, .slice none 0 0] 138)
 have g5 := heap_alloc_new w2 (.cells #[.int .i64 ql, .int .i64 qk, .int .u64 qo, .bool qu, .bool qr, .bool qx, .bool qs, .int .i64 qa, .int .i64 0, .int .i64 0, .slice none 0 0] 138)
 clear g4
 go_upto_region 9 with fail
 generalize w2.alloc (.cells #[.int .i64 ql, .int .i64 qk, .int .u64 qo, .bool qu, .bool qr, .bool qx, .bool qs, .int .i64 qa, .int .i64 0, .int .i64 0, .slice none 0 0] 138) = w3 at *
 clear m2 m3 m4 m5 m6 m7 m8 m9 c0 c1 c2 c3 c4 c5 c6 c7 c8
 obtain ⟨g0, g1, g2, g3⟩ := bl4 hb2 g0 g1 g2 g3
 replace hB := qab hB hb2
 have hKL : w.heap.size + 1 + 1 + 1 + 1 ≤ w2.heap.size := Nat.le_trans hsz (Nat.le_of_lt hKE)
 replace HY := Hid.mk (HY.out.later hb2)
 clear hb2
 generalize w2.heap.size = KL at *
 obtain ⟨c0, c1, c2, c3, c4, c5, c6, c7, c8⟩ := qal g0
 obtain ⟨d0, d1, d2⟩ := qan g1
 have HV2 := HV1
 obtain ⟨m0, m1, m2, m3, m4, m5, m6, m7, m8, m9, m10⟩ := qbb g5
 clear d0 d1 d2 c0 c1 c2 c3 c4 c5 c6 c7 c8 g1
 have hl5' := qag g5
 have hl3 := qag g3
 have hb2 := qac w3 (.cells #[.int .i64 0, .int .i64 0] 65)
 have g6 := heap_alloc_new w3 (.cells #[.int .i64 0, .int .i64 0] 65)
 go_upto_region 12 with fail
 generalize w3.alloc (.cells #[.int .i64 0, .int .i64 0] 65) = w5 at *
 clear m0 m1 m2 m3 m4 m5 m6 m7 m8 m9 m10
 obtain ⟨g0, g2, g3, g5⟩ := bl4 hb2 g0 g2 g3 g5
 replace hB := qab hB hb2
 replace HY := Hid.mk (HY.out.later hb2)
 clear hb2
 generalize w3.heap.size = KF at *
 first
 | exact zP46x31
 | exact zP46x21) : Z := z
theorem yacc_1P (h : YOk w B m s d) (_ : Fm S s.f) (hw : Wf most s) (_ : m < 1000000) (kind : Int) (va v : Nat) (hva : va < 18446744073709551616) (hn : Hn) (h8 : (va : Int) % 8 = 0) (R I : Nat) (hg : s.rg = some (R, I)) (hN : fdN s I va = 1) (hf1 : (qai S s va hn).2.1 = 0) (hlt : (letF (qai S s va hn).1 kind).1 ≠ 0) :
  Calls Tryz.prog 17 #[.agg (d.cs S most s), .int .i64 kind, .int .u64 va, .int .u64 v, hn.v] w fun r w' => ∃ d', r = .returned (.tuple #[.agg (d'.cs S most (accS S most s kind va v hn)), .agg #[.int .i64 (accF (qai S s va hn) kind).1, .int .i64 (accF (qai S s va hn) kind).2], .int .u64 (accW s.f (qai S s va hn) kind va : Nat)]) ∧ YOk w' (fun g => B g ∨ w.heap.size ≤ g) (m + 1) (accS S most s kind va v hn) d' ∧ Below w.heap.size w w' := by
 have hal : ¬ qaq va 3 = false := by rw [show qaq va 3 = qaq va ((3 : Nat) : Int) from rfl, qbl va (by omega) (by omega), decide_eq_true (by omega)]; decide
 have e1 : R = d.R := (h.rg R I hg).1.symm
 have e2 : I = d.I := (h.rg R I hg).2.symm
 have e3 : true = d.on := by have := h.on; rw [hg] at this; exact this.symm
 have HFD := pfd h hw I va hva
 have hlo : qai S s va hn = (enL (fdE s I va), 0, 0) := by unfold qai; rw [if_neg hal, hg]; show lfO S s R I va hn = _; unfold lfO; rw [if_neg (by omega), if_pos hN]
 have hls : qba S most s va hn = s := by unfold qba; rw [if_neg hal, hg]; show lfS S most s R I va hn = _; unfold lfS; rw [if_neg (by omega)]
 have hlf : (qba S most s va hn).f = s.f := leafS_f va hn
 have HLV : Hid (isLv (qai S s va hn).1.l = true ∧ (qai S s va hn).1.o < 281474976710656 ∧ (qai S s va hn).2.2 = 0) := by
  exact zP46x04
 have HAF : Hid (accF (qai S s va hn) kind = letF (qai S s va hn).1 kind) := by show _ = _; unfold accF; rw [if_pos hf1]
 have HLT := Hid.mk (fun W => qds (qai S s va hn).1.k (qai S s va hn).1.o (qai S s va hn).1.u (qai S s va hn).1.r (qai S s va hn).1.x (qai S s va hn).1.s (qai S s va hn).1.a (qai S s va hn).1.l kind W)
 have HAW : Hid (accW s.f (qai S s va hn) kind va = 0) := by show _ = _; unfold accW; rw [HAF.out, if_neg (fun c => hlt c.1)]
 have HAS : Hid (accS S most s kind va v hn = qba S most s va hn) := by show _ = _; unfold accS accM; rw [HAF.out, if_neg (fun c => hlt c.1), ← hlf]
 have HY : Hid (YOk w (fun g => B g ∧ g < w.heap.size) m s d) := Hid.mk h.tight
 have HV1 := Hid.mk h.vm1
 rw [hls] at HAS
 have hq0 : (qai S s va hn).2 = (0, 0) := by rw [hlo]
 clear h hal hg hw hlf hva hls
 have hlo' : (qai S s va hn).1 = enL (fdE s I va) := by rw [hlo]
 clear hlo
 obtain ⟨vm, L, aE, cE, aK, cK, aP, cP, on', R', I'⟩ := d
 obtain ⟨b0', b1', b2'⟩ := hn
 dsimp only at e1 e2 e3
 subst e1 e2 e3
 generalize accS S most s kind va v ⟨b0', b1', b2'⟩ = sA at *
 generalize accF (qai S s va ⟨b0', b1', b2'⟩) kind = FA at *
 generalize accW s.f (qai S s va ⟨b0', b1', b2'⟩) kind va = WA at *
 generalize qai S s va ⟨b0', b1', b2'⟩ = Q at *
 obtain ⟨⟨ql, qk, qo, qu, qr, qx, qs, qa⟩, f1, f2⟩ := Q
 generalize fdN s I va = N at *
 generalize fdE s I va = ee at *
 obtain ⟨ea, ev, el, ek, eo, eu, er, ex, es, et⟩ := ee
 subst hN
 obtain ⟨rfl, rfl⟩ := Prod.mk.inj hq0
 clear hq0
 injection hlo' with i1 i2 i3 i4 i5 i6 i7 i8
 subst i1 i2 i3 i4 i5 i6 i7 i8
 clear hf1
 exact zP46x52
theorem yacc_1S (h : YOk w B m s d) (_ : Fm S s.f) (hw : Wf most s) (hm : m < 1000000) (kind : Int) (va v : Nat) (hva : va < 18446744073709551616) (hn : Hn) (h8 : (va : Int) % 8 = 0) (R I : Nat) (hg : s.rg = some (R, I)) (hN : fdN s I va = 1) (hf1 : (qai S s va hn).2.1 = 0) (hlt : (letF (qai S s va hn).1 kind).1 = 0) (hkd : kind = 2) :
  Calls Tryz.prog 17 #[.agg (d.cs S most s), .int .i64 kind, .int .u64 va, .int .u64 v, hn.v] w fun r w' => ∃ d', r = .returned (.tuple #[.agg (d'.cs S most (accS S most s kind va v hn)), .agg #[.int .i64 (accF (qai S s va hn) kind).1, .int .i64 (accF (qai S s va hn) kind).2], .int .u64 (accW s.f (qai S s va hn) kind va : Nat)]) ∧ YOk w' (fun g => B g ∨ w.heap.size ≤ g) (m + 1) (accS S most s kind va v hn) d' ∧ Below w.heap.size w w' := by
 have hal : ¬ qaq va 3 = false := by rw [show qaq va 3 = qaq va ((3 : Nat) : Int) from rfl, qbl va (by omega) (by omega), decide_eq_true (by omega)]; decide
 have e1 : R = d.R := (h.rg R I hg).1.symm
 have e2 : I = d.I := (h.rg R I hg).2.symm
 have e3 : true = d.on := by have := h.on; rw [hg] at this; exact this.symm
 have HFD := pfd h hw I va hva
 have hlo : qai S s va hn = (enL (fdE s I va), 0, 0) := by unfold qai; rw [if_neg hal, hg]; show lfO S s R I va hn = _; unfold lfO; rw [if_neg (by omega), if_pos hN]
 have hls : qba S most s va hn = s := by unfold qba; rw [if_neg hal, hg]; show lfS S most s R I va hn = _; unfold lfS; rw [if_neg (by omega)]
 have hlf : (qba S most s va hn).f = s.f := leafS_f va hn
 have HLV : Hid (isLv (qai S s va hn).1.l = true ∧ (qai S s va hn).1.o < 281474976710656 ∧ (qai S s va hn).2.2 = 0) := by
  exact zP46x04
 have HAF : Hid (accF (qai S s va hn) kind = letF (qai S s va hn).1 kind) := by show _ = _; unfold accF; rw [if_pos hf1]
 have HLT := Hid.mk (fun W => qds (qai S s va hn).1.k (qai S s va hn).1.o (qai S s va hn).1.u (qai S s va hn).1.r (qai S s va hn).1.x (qai S s va hn).1.s (qai S s va hn).1.a (qai S s va hn).1.l kind W)
 have hl2 : (letF (qai S s va hn).1 kind).2 = 0 := qdv hlt
 have HOF := Hid.mk (fun W => qdl va (qai S s va hn).1.l HLV.out.1 hva W)
 have HOV := Hid.mk (offV_lt va (qai S s va hn).1.l)
 have HAW : Hid (accW s.f (qai S s va hn) kind va = 0) := by show _ = _; unfold accW; rw [if_neg (fun c => c.2 hkd)]
 have HAS : Hid (accS S most s kind va v hn = { qba S most s va hn with f := wrF (qba S most s va hn).f S ((qai S s va hn).1.o + offV va (qai S s va hn).1.l) v }) := by show _ = _; unfold accS accM; rw [HAF.out, if_pos ⟨hlt, hkd⟩, hlf]; rfl
 have HY : Hid (YOk w (fun g => B g ∧ g < w.heap.size) m s d) := Hid.mk h.tight
 have HV1 := Hid.mk h.vm1
 rw [hls] at HAS
 have hq0 : (qai S s va hn).2 = (0, 0) := by rw [hlo]
 clear h hal hg hw hlf hva hls
 have hlo' : (qai S s va hn).1 = enL (fdE s I va) := by rw [hlo]
 clear hlo
 obtain ⟨vm, L, aE, cE, aK, cK, aP, cP, on', R', I'⟩ := d
 obtain ⟨b0', b1', b2'⟩ := hn
 dsimp only at e1 e2 e3
 subst e1 e2 e3
 generalize accS S most s kind va v ⟨b0', b1', b2'⟩ = sA at *
 generalize accF (qai S s va ⟨b0', b1', b2'⟩) kind = FA at *
 generalize accW s.f (qai S s va ⟨b0', b1', b2'⟩) kind va = WA at *
 generalize qai S s va ⟨b0', b1', b2'⟩ = Q at *
 obtain ⟨⟨ql, qk, qo, qu, qr, qx, qs, qa⟩, f1, f2⟩ := Q
 generalize fdN s I va = N at *
 generalize fdE s I va = ee at *
 obtain ⟨ea, ev, el, ek, eo, eu, er, ex, es, et⟩ := ee
 subst hN
 obtain ⟨rfl, rfl⟩ := Prod.mk.inj hq0
 clear hq0
 injection hlo' with i1 i2 i3 i4 i5 i6 i7 i8
 subst i1 i2 i3 i4 i5 i6 i7 i8
 clear hf1
 unfold letF at hlt hl2 HAF
 (try dsimp only at hlt HAF HLT HLV hl2 HOF HOV HAW HAS)
 generalize letK qu qr qx qs kind = lk at *
 generalize letL qu qr qx qs ql kind = ll at *
 subst hlt hl2
 have hov := HOV.out
 have hqo := HLV.out.2.1
 generalize offV va ql = of at *
 have hatw : IntKind.u64.wrap ((qo : Int) + (of : Int)) = ((qo + of : Nat) : Int) := by rw [IntKind.wrap_u64]; omega
 have HAT := Hid.mk hatw
 subst hkd
 clear hov hqo hatw
 obtain ⟨W4, hW4, g0, g1, g2, g3, hB, hsz⟩ := hp4 w (.cells #[.int .u64 S, vm, .int .i64 most, .slice aE s.E.length cE, .slice aK s.K.length cK, .bool true, .int .u64 R, .int .i64 I, .slice aP s.P.length cP] 34) (.cells #[.bool b0', .bool b1', .bool b2'] 64) (.cells #[.int .u64 0, .slice none 0 0, .int .i64 0, .slice none 0 0, .slice none 0 0, .bool false, .int .u64 0, .int .i64 0, .slice none 0 0] 34) (.cells #[.int .i64 0, .int .i64 0] 65)
 replace hsz := Nat.le_of_eq hsz.symm
 go_enter Tryz.func17, Tryz.ntmps17
 go_upto_region 1 with fail
 (try rw [hW4])
 clear hW4
 replace HY := Hid.mk (HY.out.later hB)
 obtain ⟨c0, c1, c2, c3, c4, c5, c6, c7, c8⟩ := qal g0
 obtain ⟨d0, d1, d2⟩ := qan g1
 go_wp2_with fail
 refine (HFD.out _ hB).mono ?_
 rintro e w1 ⟨rfl, hb1⟩
 have hb2 := qac w1 (.cells #[.int .i64 ea, .int .u64 ev, .int .i64 ql, .int .i64 qk, .int .u64 qo, .bool qu, .bool qr, .bool qx, .bool qs, .int .i64 qa] 94)
 have g4 := heap_alloc_new w1 (.cells #[.int .i64 ea, .int .u64 ev, .int .i64 ql, .int .i64 qk, .int .u64 qo, .bool qu, .bool qr, .bool qx, .bool qs, .int .i64 qa] 94)
 clear HFD c0 c1 c2 c3 c4 c5 c6 c7 c8 d0 d1 d2
 go_upto_region 6 with fail
 generalize w1.alloc (.cells #[.int .i64 ea, .int .u64 ev, .int .i64 ql, .int .i64 qk, .int .u64 qo, .bool qu, .bool qr, .bool qx, .bool qs, .int .i64 qa] 94) = w2 at *
 replace g0 := qaa hb2 (qaa hb1 g0)
 replace g1 := qaa hb2 (qaa hb1 g1)
 replace g2 := qaa hb2 (qaa hb1 g2)
 replace g3 := qaa hb2 (qaa hb1 g3)
 replace hB := qab (qab hB hb1) hb2
 replace hsz := Nat.le_trans hsz hb1.size
 replace HY := Hid.mk ((HY.out.later hb1).later hb2)
 clear hb1 hb2
 generalize w1.heap.size = KE at *
 have hKE := qag g4
 obtain ⟨c0, c1, c2, c3, c4, c5, c6, c7, c8⟩ := qal g0
 obtain ⟨-, -, m2, m3, m4, m5, m6, m7, m8, m9⟩ := cells10y g4
 have hb2 := qac w2 (.cells #[.int .i64 ql, .int .i64 qk, .int .u64 qo, .bool qu, .bool qr, .bool qx, .bool qs, .int .i64 qa, .int .i64 0, .int .i64 0, .slice none 0 0] 138)
 have g5 := heap_alloc_new w2 (.cells #[.int .i64 ql, .int .i64 qk, .int .u64 qo, .bool qu, .bool qr, .bool qx, .bool qs, .int .i64 qa, .int .i64 0, .int .i64 0, .slice none 0 0] 138)
 clear g4
 go_upto_region 9 with fail
 generalize w2.alloc (.cells #[.int .i64 ql, .int .i64 qk, .int .u64 qo, .bool qu, .bool qr, .bool qx, .bool qs, .int .i64 qa, .int .i64 0, .int .i64 0, .slice none 0 0] 138) = w3 at *
 clear m2 m3 m4 m5 m6 m7 m8 m9 c0 c1 c2 c3 c4 c5 c6 c7 c8
 obtain ⟨g0, g1, g2, g3⟩ := bl4 hb2 g0 g1 g2 g3
 replace hB := qab hB hb2
 have hKL : w.heap.size + 1 + 1 + 1 + 1 ≤ w2.heap.size := Nat.le_trans hsz (Nat.le_of_lt hKE)
 replace HY := Hid.mk (HY.out.later hb2)
 clear hb2
 generalize w2.heap.size = KL at *
 obtain ⟨c0, c1, c2, c3, c4, c5, c6, c7, c8⟩ := qal g0
 obtain ⟨d0, d1, d2⟩ := qan g1
 have HV2 := HV1
 obtain ⟨m0, m1, m2, m3, m4, m5, m6, m7, m8, m9, m10⟩ := qbb g5
 clear d0 d1 d2 c0 c1 c2 c3 c4 c5 c6 c7 c8 g1
 have hl5' := qag g5
 have hl3 := qag g3
 have hb2 := qac w3 (.cells #[.int .i64 0, .int .i64 0] 65)
 have g6 := heap_alloc_new w3 (.cells #[.int .i64 0, .int .i64 0] 65)
 go_upto_region 12 with fail
 generalize w3.alloc (.cells #[.int .i64 0, .int .i64 0] 65) = w5 at *
 clear m0 m1 m2 m3 m4 m5 m6 m7 m8 m9 m10
 obtain ⟨g0, g2, g3, g5⟩ := bl4 hb2 g0 g2 g3 g5
 replace hB := qab hB hb2
 replace HY := Hid.mk (HY.out.later hb2)
 clear hb2
 generalize w3.heap.size = KF at *
 have hl6 := qag g6
 obtain ⟨n0, n1⟩ := TR.qaz g6
 obtain ⟨m0, m1, m2, m3, m4, m5, m6, m7, m8, m9, m10⟩ := qbb g5
 go_wp2_with fail
 refine (HLT.out _).mono ?_
 rintro e w6 ⟨rfl, hb⟩
 clear m0 m1 m2 m3 m4 m5 m6 m7 m8 m9 m10 n0 n1 HLT
 obtain ⟨g0, g2, g3, g5, g6⟩ := bl5 hb g0 g2 g3 g5 g6
 replace hB := qab hB hb
 replace HY := Hid.mk (HY.out.later hb)
 clear hb
 go_wp2_with
  first
  | (refine qad rfl 65 _ _ rfl rfl KF 0 _ #[.int .i64 0, .int .i64 0] rfl rfl rfl 65 _ g6 (show 0 + 2 ≤ 2 by decide) qcq (by simp [Value.oneCell']) #[.int .i64 0, .int .i64 0] rfl ?_
     intro w7 hrq htq
     obtain ⟨g0, g2, g3, g5⟩ := bt4 htq g0 g2 g3 g5
     replace HY := Hid.mk (HY.out.turn htq (fun i hi c => by have c' : i = KF := c; (try dsimp only at hi); omega))
     replace hB := qaf hB htq (by omega)
     replace g6 := hrq
     clear hrq htq
     obtain ⟨n0, n1⟩ := TR.qaz g6)
  | fail
 obtain ⟨m0, m1, m2, m3, m4, m5, m6, m7, m8, m9, m10⟩ := qbb g5
 go_region_held3 (fun w' => (w'.cell? ⟨KL, 0, none⟩ = some (.int .i64 ql) ∧ w'.cell? ⟨KL, 2, none⟩ = some (.int .u64 qo)) ∧ Below w7.heap.size w7 w')
  ((go_split_ands; refine ⟨⟨?_, ?_⟩, ?_⟩ <;> first | (with_reducible assumption; done) | with_reducible exact cell_later hbm (by assumption) | with_reducible exact qab (by assumption) hbm | exact (Below.refl _ _).drew | (go_keep; done)))
  ((go_at_call 58; refine (HOF.out _).mono ?_; rintro e w' ⟨rfl, hbm⟩))
 obtain ⟨-, hb⟩ : _ ∧ Below w7.heap.size w7 w' := by go_split_ands; exact ⟨trivial, by assumption⟩
 rw [HAT.out]
 clear m0 m1 m2 m3 m4 m5 m6 m7 m8 m9 m10 n0 n1 HOF HAT
 obtain ⟨g0, g2, g3, g5, g6⟩ := bl5 hb g0 g2 g3 g5 g6
 replace hB := qab hB hb
 replace HY := Hid.mk (HY.out.later hb)
 obtain ⟨c0, c1, c2, c3, c4, c5, c6, c7, c8⟩ := qal g0
 go_wp2_with fail
 refine (ywrite_c HY.out hm (qo + of) v).mono ?_
 rintro e w9 ⟨vm3, L3, rfl, hv3, hy3, hb9⟩
 have HV3' := Hid.mk hv3
 have hw9 := qag g6
 clear HY hb c0 c1 c2 c3 c4 c5 c6 c7 c8
 have HY := Hid.mk hy3
 clear hy3 hv3
 obtain ⟨g0, g2, g3, g5, g6⟩ := bl5 hb9 g0 g2 g3 g5 g6
 replace hB := qab hB hb9
 clear hb9
 go_wp2_with
  first
  | (refine qad rfl 29 _ _ rfl rfl (w.heap.size) 0 _ #[.int .u64 S, vm3] rfl rfl rfl 34 _ g0 (show 0 + 2 ≤ 9 by decide) info_M3 (all_oneCell_toArray (fun u hu => by simp only [List.mem_cons, List.not_mem_nil, or_false] at hu; rcases hu with rfl | rfl <;> first | rfl | exact HV3'.out)) #[.int .u64 S, vm3, .int .i64 most, .slice aE s.E.length cE, .slice aK s.K.length cK, .bool true, .int .u64 R, .int .i64 I, .slice aP s.P.length cP] rfl ?_
     intro wc hrq htq
     obtain ⟨g2, g3, g5, g6⟩ := bt4 htq g2 g3 g5 g6
     replace HY := Hid.mk (HY.out.turn htq (fun i hi c => by have c' : i = w.heap.size := c; (try dsimp only at hi); omega))
     replace hB := qaf hB htq (by omega)
     replace g0 := hrq
     clear hrq htq)
  | fail
 go_upto_region 19 with fail
 (try clear c0 c1 c2 c3 c4 c5 c6 c7 c8)
 (try clear n0 n1)
 obtain ⟨c0, c1, c2, c3, c4, c5, c6, c7, c8⟩ := qal g0
 obtain ⟨n0, n1⟩ := TR.qaz g6
 have hl9 := qag g6
 have k0 := c0
 have k1 := c1
 have k2 := c2
 have k3 := c3
 have k4 := c4
 have k5 := c5
 have k6 := c6
 have k7 := c7
 have k8 := c8
 have k9 := n0
 have k10 := n1
 clear c0 c1 c2 c3 c4 c5 c6 c7 c8 n0 n1
 clear g5
 obtain ⟨k0, k1, k2, k3, k4⟩ := cl5 (Below.refl _ wc).drew k0 k1 k2 k3 k4
 obtain ⟨k5, k6, k7⟩ := cl3 (Below.refl _ wc).drew k5 k6 k7
 obtain ⟨k8, k9, k10⟩ := cl3 (Below.refl _ wc).drew k8 k9 k10
 refine hd11 k0 k1 k2 k3 k4 k5 k6 k7 k8 k9 k10 (h := fun hHeld => ?_)
 obtain ⟨g0, g2, g3, g6⟩ := bl4 (Below.refl _ wc).drew g0 g2 g3 g6
 replace HY := Hid.mk (HY.out.later (Below.refl _ wc).drew)
 replace hB := qab hB (Below.refl _ wc).drew
 generalize wc.drew = Wd at *
 refine tk 0 92 (h := ?_)
 refine tk 1 93 (h := ?_)
 refine rd1 2 (h := fun K hK => ?_)
 refine qah rfl rfl 34 _ _ rfl (w.heap.size + 1 + 1) 0 _ #[.int .u64 S, vm3, .int .i64 most, .slice aE s.E.length cE, .slice aK s.K.length cK, .bool true, .int .u64 R, .int .i64 I, .slice aP s.P.length cP] rfl rfl rfl 34 _ g2 (show 0 + 9 ≤ 9 by decide) qao (all_oneCell_toArray (fun u hu => by simp only [List.mem_cons, List.not_mem_nil, or_false] at hu; rcases hu with rfl | rfl | rfl | rfl | rfl | rfl | rfl | rfl | rfl <;> first | rfl | exact HV1.out | exact HV2.out | exact HV3'.out)) #[.int .u64 S, vm3, .int .i64 most, .slice aE s.E.length cE, .slice aK s.K.length cK, .bool true, .int .u64 R, .int .i64 I, .slice aP s.P.length cP] rfl ?_
 exact zP46x02
theorem yacc_1L (h : YOk w B m s d) (hf : Fm S s.f) (hw : Wf most s) (hm : m < 1000000) (kind : Int) (va v : Nat) (hva : va < 18446744073709551616) (hn : Hn) (h8 : (va : Int) % 8 = 0) (R I : Nat) (hg : s.rg = some (R, I)) (hN : fdN s I va = 1) (hf1 : (qai S s va hn).2.1 = 0) (hlt : (letF (qai S s va hn).1 kind).1 = 0) (hkd : ¬ kind = 2) :
  Calls Tryz.prog 17 #[.agg (d.cs S most s), .int .i64 kind, .int .u64 va, .int .u64 v, hn.v] w fun r w' => ∃ d', r = .returned (.tuple #[.agg (d'.cs S most (accS S most s kind va v hn)), .agg #[.int .i64 (accF (qai S s va hn) kind).1, .int .i64 (accF (qai S s va hn) kind).2], .int .u64 (accW s.f (qai S s va hn) kind va : Nat)]) ∧ YOk w' (fun g => B g ∨ w.heap.size ≤ g) (m + 1) (accS S most s kind va v hn) d' ∧ Below w.heap.size w w' := by
 have hal : ¬ qaq va 3 = false := by rw [show qaq va 3 = qaq va ((3 : Nat) : Int) from rfl, qbl va (by omega) (by omega), decide_eq_true (by omega)]; decide
 have e1 : R = d.R := (h.rg R I hg).1.symm
 have e2 : I = d.I := (h.rg R I hg).2.symm
 have e3 : true = d.on := by have := h.on; rw [hg] at this; exact this.symm
 have HFD := pfd h hw I va hva
 have hlo : qai S s va hn = (enL (fdE s I va), 0, 0) := by unfold qai; rw [if_neg hal, hg]; show lfO S s R I va hn = _; unfold lfO; rw [if_neg (by omega), if_pos hN]
 have hls : qba S most s va hn = s := by unfold qba; rw [if_neg hal, hg]; show lfS S most s R I va hn = _; unfold lfS; rw [if_neg (by omega)]
 have hlf : (qba S most s va hn).f = s.f := leafS_f va hn
 have HLV : Hid (isLv (qai S s va hn).1.l = true ∧ (qai S s va hn).1.o < 281474976710656 ∧ (qai S s va hn).2.2 = 0) := by
  exact zP46x04
 have HAF : Hid (accF (qai S s va hn) kind = letF (qai S s va hn).1 kind) := by show _ = _; unfold accF; rw [if_pos hf1]
 have HLT := Hid.mk (fun W => qds (qai S s va hn).1.k (qai S s va hn).1.o (qai S s va hn).1.u (qai S s va hn).1.r (qai S s va hn).1.x (qai S s va hn).1.s (qai S s va hn).1.a (qai S s va hn).1.l kind W)
 have hl2 : (letF (qai S s va hn).1 kind).2 = 0 := qdv hlt
 have HOF := Hid.mk (fun W => qdl va (qai S s va hn).1.l HLV.out.1 hva W)
 have HOV := Hid.mk (offV_lt va (qai S s va hn).1.l)
 have HAW : Hid (accW s.f (qai S s va hn) kind va = (qba S most s va hn).f ((qai S s va hn).1.o + offV va (qai S s va hn).1.l)) := by show _ = _; unfold accW; rw [HAF.out, if_pos ⟨hlt, hkd⟩, hlf]; rfl
 have HAS : Hid (accS S most s kind va v hn = qba S most s va hn) := by show _ = _; unfold accS accM; rw [HAF.out, if_neg (fun c => hkd c.2), ← hlf]
 have HFM : Hid (Fm S (qba S most s va hn).f) := by show Fm S _; rw [hlf]; exact hf
 have HY : Hid (YOk w (fun g => B g ∧ g < w.heap.size) m s d) := Hid.mk h.tight
 have HV1 := Hid.mk h.vm1
 rw [hls] at HAS HAW HFM
 have hq0 : (qai S s va hn).2 = (0, 0) := by rw [hlo]
 clear h hal hg hw hlf hf hva hls
 have hlo' : (qai S s va hn).1 = enL (fdE s I va) := by rw [hlo]
 clear hlo
 obtain ⟨vm, L, aE, cE, aK, cK, aP, cP, on', R', I'⟩ := d
 obtain ⟨b0', b1', b2'⟩ := hn
 dsimp only at e1 e2 e3
 subst e1 e2 e3
 generalize accS S most s kind va v ⟨b0', b1', b2'⟩ = sA at *
 generalize accF (qai S s va ⟨b0', b1', b2'⟩) kind = FA at *
 generalize accW s.f (qai S s va ⟨b0', b1', b2'⟩) kind va = WA at *
 generalize qai S s va ⟨b0', b1', b2'⟩ = Q at *
 obtain ⟨⟨ql, qk, qo, qu, qr, qx, qs, qa⟩, f1, f2⟩ := Q
 generalize fdN s I va = N at *
 generalize fdE s I va = ee at *
 obtain ⟨ea, ev, el, ek, eo, eu, er, ex, es, et⟩ := ee
 subst hN
 obtain ⟨rfl, rfl⟩ := Prod.mk.inj hq0
 clear hq0
 injection hlo' with i1 i2 i3 i4 i5 i6 i7 i8
 subst i1 i2 i3 i4 i5 i6 i7 i8
 clear hf1
 exact zP46x51
theorem yaccess_c (h : YOk w B m s d) (hf : Fm S s.f) (hw : Wf most s) (hm : m < 1000000) (kind : Int) (va v : Nat) (hva : va < 18446744073709551616) (hn : Hn) :
  Calls Tryz.prog 17 #[.agg (d.cs S most s), .int .i64 kind, .int .u64 va, .int .u64 v, hn.v] w fun r w' => ∃ d', r = .returned (.tuple #[.agg (d'.cs S most (accS S most s kind va v hn)), .agg #[.int .i64 (accF (qai S s va hn) kind).1, .int .i64 (accF (qai S s va hn) kind).2], .int .u64 (accW s.f (qai S s va hn) kind va : Nat)]) ∧ YOk w' (fun g => B g ∨ w.heap.size ≤ g) (m + 1) (accS S most s kind va v hn) d' ∧ Below w.heap.size w w' := by
 by_cases h8 : (va : Int) % 8 = 0
 rotate_left
 ·exact yacc_U h kind va v hva hn h8
 cases hg : s.rg with
 | none => exact yacc_O h kind va v hva hn h8 hg
 | some q =>
  obtain ⟨R, I⟩ := q
  by_cases hN0 : fdN s I va = 0
  ·by_cases hf1 : (qai S s va hn).2.1 = 0
   ·by_cases hlt : (letF (qai S s va hn).1 kind).1 = 0
    ·by_cases hkd : kind = 2
     ·exact yacc_0S h hf hw hm kind va v hva hn h8 R I hg hN0 hf1 hlt hkd
     ·exact yacc_0L h hf hw hm kind va v hva hn h8 R I hg hN0 hf1 hlt hkd
    ·exact yacc_0P h hf hw hm kind va v hva hn h8 R I hg hN0 hf1 hlt
   ·exact yacc_0F h hf hw hm kind va v hva hn h8 R I hg hN0 hf1
  by_cases hN1 : fdN s I va = 1
  ·have hal : ¬ qaq va 3 = false := by rw [show qaq va 3 = qaq va ((3 : Nat) : Int) from rfl, qbl va (by omega) (by omega), decide_eq_true (by omega)]; decide
   have hf1 : (qai S s va hn).2.1 = 0 := by unfold qai; rw [if_neg hal, hg]; show (lfO S s R I va hn).2.1 = _; unfold lfO; rw [if_neg (by omega), if_pos hN1]
   by_cases hlt : (letF (qai S s va hn).1 kind).1 = 0
   ·by_cases hkd : kind = 2
    ·exact yacc_1S h hf hw hm kind va v hva hn h8 R I hg hN1 hf1 hlt hkd
    ·exact yacc_1L h hf hw hm kind va v hva hn h8 R I hg hN1 hf1 hlt hkd
   ·exact yacc_1P h hf hw hm kind va v hva hn h8 R I hg hN1 hf1 hlt
  ·exact yacc_C h hw kind va v hva hn h8 R I hg (by omega)
end
end Go.Proofs.YtfdbdeckohaneaaGreatDoor.MM
