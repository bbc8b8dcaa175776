/- P33 -/
import Derived.Test.YtfdbdeckohaneaaGreatDoorP32
set_option maxHeartbeats 16000000
set_option maxRecDepth 100000
namespace Go.Proofs.YtfdbdeckohaneaaGreatDoor.MM
open Go.RowKit Go.Maps
theorem qeh : (Tryz.prog.info? 52).map (·.size) = some 3 := by kernel_rfl
def letF (q : Lf) (kind : Int) : Int × Int := (letK q.u q.r q.x q.s kind, letL q.u q.r q.x q.s q.l kind)
def accF (Q : Lf × Int × Int) (kind : Int) : Int × Int := if Q.2.1 = 0 then letF Q.1 kind else Q.2
def accT (q : Lf) (va : Nat) : Nat := q.o + offV va q.l
def accW (f : Nat → Nat) (Q : Lf × Int × Int) (kind : Int) (va : Nat) : Nat := if (accF Q kind).1 = 0 ∧ kind ≠ 2 then f (accT Q.1 va) else 0
def accM (S : Nat) (f : Nat → Nat) (Q : Lf × Int × Int) (kind : Int) (va v : Nat) : Nat → Nat := if (accF Q kind).1 = 0 ∧ kind = 2 then wrF f S (accT Q.1 va) v else f
def accS (S : Nat) (most : Int) (s : St) (kind : Int) (va v : Nat) (h : Hn) : St := { qba S most s va h with f := accM S s.f (qai S s va h) kind va v }
abbrev resV (F : Int × Int) (v : Nat) : Value := .agg #[.int .i64 F.1, .int .i64 F.2, .int .u64 v]
theorem qdv {u wr x s : Bool} {l ac : Int} (h : letK u wr x s ac = 0) : letL u wr x s l ac = 0 := by unfold letL; rw [if_pos h]
theorem offV_lt (va : Nat) (l : Int) : offV va l < 281474976710656 := by
 unfold offV
 split
 ·rename_i hl
  have e := lowK_val hl
  have h1 : va % 2 ^ lowK l < 2 ^ lowK l := Nat.mod_lt _ (Nat.two_pow_pos _)
  have h2 : 2 ^ lowK l ≤ 2 ^ 48 := Nat.pow_le_pow_right (by decide) (by
   unfold isLv at hl
   rw [decide_eq_true_eq] at hl
   omega)
  have h3 : (2 : Nat) ^ 48 = 281474976710656 := by decide
  omega
 ·decide
theorem rdO_48 (x : Nat) : rdO x < 281474976710656 := by
 unfold rdO
 split
 ·decide
 ·rw [outV_mod]
  omega
theorem right_out {e : TB.En} (h : TB.qbe e = true) (he : e.ok) : e.o < 281474976710656 := by
 unfold TB.qbe at h
 rw [Bool.and_eq_true, Bool.and_eq_true] at h
 have h2 := h.2.1
 unfold TB.leafE at h2
 rw [Bool.and_eq_true] at h2
 have h3 := h2.2
 have hk := h2.1
 unfold qbr at h3
 split at h3
 ·cases h3
 ·rename_i hl
  have key : qeo e.lv e.o e.a = true := by
   split at h3
   ·rename_i hc; rw [hc] at hk; exact absurd hk (by decide)
   ·split at h3
    ·rename_i hc; rw [hc] at hk; exact absurd hk (by decide)
    ·split at h3
     ·exact (Bool.and_eq_true _ _ ▸ h3).2
     ·split at h3
      ·exact (Bool.and_eq_true _ _ ▸ h3).2
      ·cases h3
  unfold qeo at key
  rw [Bool.and_eq_true] at key
  have hl2 : isLv e.lv = true := by simpa using hl
  have e1 := qcg hl2
  have hk2 := key.1
  rw [show lowL e.lv = ((lowK e.lv : Nat) : Int) from e1.1, isOut_mod e.o (lowK e.lv) he.2 (by omega) (by omega), decide_eq_true_eq] at hk2
  exact hk2.1
theorem leafO_bd {S : Nat} {s : St} {most : Int} (h : Wf most s) (va : Nat) (hn : Hn) : (qai S s va hn).1.o < 281474976710656 := by
 unfold qai
 split
 ·show (0 : Nat) < _; decide
 ·split
  ·show (0 : Nat) < _; decide
  ·unfold lfO
   split
   ·show (lfR _).o < _
    unfold lfR
    split
    ·exact rdO_48 _
    ·show (0 : Nat) < _; decide
   ·split
    ·show (fdE s _ va).o < _
     unfold fdE TB.fndE
     cases hq : s.E.filter (fun e => TB.mB e _ va) with
     | nil => show (0 : Nat) < _; decide
     | cons y ys =>
      have hm : y ∈ s.E := (List.mem_filter.1 (hq ▸ List.mem_cons_self)).1
      exact right_out (h.er y hm) (h.eo y hm)
    ·show (0 : Nat) < _; decide
theorem accT_lt {S : Nat} {s : St} {most : Int} (h : Wf most s) (va : Nat) (hn : Hn) : accT (qai S s va hn).1 va < 18446744073709551616 := by
 have h1 := leafO_bd (S := S) h va hn
 have h2 := offV_lt va (qai S s va hn).1.l
 unfold accT
 omega
theorem leafO_ft {S : Nat} {s : St} (va : Nat) (hn : Hn) (h : (qai S s va hn).2.1 = 0) : (qai S s va hn).2.2 = 0 := by
 unfold qai at h ⊢
 split
 ·rename_i hc; rw [if_pos hc] at h
 ·rename_i hc
  rw [if_neg hc] at h
  split
  ·rename_i hg; rw [hg] at h
  ·rename_i R I hg
   rw [hg] at h
   show (lfO S s R I va hn).2.2 = 0
   change (lfO S s R I va hn).2.1 = 0 at h
   unfold lfO at h ⊢
   split
   ·rename_i hz
    rw [if_pos hz] at h
    show (ftR _).2 = 0
    change (ftR _).1 = 0 at h
    unfold ftR at h ⊢
    split
    ·rfl
    ·rename_i hf; rw [if_neg hf] at h; exact absurd h hf
   ·rename_i hz
    rw [if_neg hz] at h
    split
    ·rfl
    ·rfl
section
variable {w0 w : World} {X XM XB XT : Nat → Prop} {x a tb tr n S : Nat} {most : Int} {s : St} {pv : Value}
theorem MchV.write (h : MchV w0 w X XM XB XT x a tb tr n S most s pv) (hn : n < 100000000) (y v : Nat) (hy : y < 18446744073709551616) (hv : v < 18446744073709551616) :
  Calls Tryz.prog 11 #[.pointer (some ⟨a, 0, none⟩), .int .u64 y, .int .u64 v] w fun r w' => r = .returned (.int .i64 (errA S y)) ∧ Mch w0 w' (Gr X w w') x a (n + 1) S most { s with f := wrF s.f S y v } ∧ Turn X w w' ∧ w'.heap[x]? = w.heap[x]? := by
 refine (write_c h.mem hn y v hy hv).mono ?_
 rintro r w' ⟨rfl, hM, hT⟩
 have hq := h.wrote hT hM
 exact ⟨rfl, hq.1, hq.2, hT.block x (h.lt x h.cx) h.dm⟩
theorem acc_f1 (h : Mch w0 w X x a n S most s)  (kind : Int) (va v : Nat) (hva : va < 18446744073709551616) (hn : Hn) (h1 : (qai S s va hn).2.1 ≠ 0) :
  Calls Tryz.prog 9 #[.pointer (some ⟨x, 0, none⟩), .int .i64 kind, .int .u64 va, .int .u64 v, hn.v] w fun r w' => r = .returned (resV (qai S s va hn).2 0) ∧ Mch w0 w' (Gr X w w') x a (n + 1) S most (qba S most s va hn) ∧ Turn X w w' := by
 have H0 := Hid.mk h
 have HLC := Hid.mk (fun W (hb : Below w.heap.size w W) => leaf_c (H0.out.later hb) va hva hn)
 have HBD := Hid.mk (accT_lt (S := S) h.wfm va hn)
 clear h
 generalize qai S s va hn = Q at *
 generalize qba S most s va hn = s1 at *
 obtain ⟨⟨l, k, o, u, r, y, q, t⟩, f1, f2⟩ := Q
 obtain ⟨hf, hl, hk⟩ := hn
 simp only [Lf.cs, Hn.v, tupV, accT] at *
 have g0 := qcf w (.cells #[.bool hf, .bool hl, .bool hk] 38) (.cells #[.int .i64 0, .int .i64 0, .int .u64 0] 52)
 have g1 := heap_alloc2_new w (.cells #[.bool hf, .bool hl, .bool hk] 38) (.cells #[.int .i64 0, .int .i64 0, .int .u64 0] 52)
 have hB := qbx w (.cells #[.bool hf, .bool hl, .bool hk] 38) (.cells #[.int .i64 0, .int .i64 0, .int .u64 0] 52)
 have hsz : ((w.alloc (.cells #[.bool hf, .bool hl, .bool hk] 38)).alloc (.cells #[.int .i64 0, .int .i64 0, .int .u64 0] 52)).heap.size = w.heap.size + 1 + 1 := by simp
 go_enter Tryz.func9, Tryz.ntmps9
 go_upto_region 1 with fail
 generalize (w.alloc (.cells #[.bool hf, .bool hl, .bool hk] 38)).alloc (.cells #[.int .i64 0, .int .i64 0, .int .u64 0] 52) = W at *
 obtain ⟨c0, c1, c2⟩ := qan g0
 go_wp2_with fail
 refine (HLC.out _ hB).mono ?_
 rintro e w2 ⟨rfl, hM2, hT2⟩
 have HM2 := Hid.mk hM2
 have HT2 := Hid.mk hT2
 have HBW := Hid.mk hB
 replace g1 := (hT2.block _ (qag g1) (H0.out.nX (by omega))).trans g1
 have hs2 : w.heap.size + 1 + 1 ≤ w2.heap.size := by have := hT2.size; omega
 have HSZ : Hid (w.heap.size + 1 < W.heap.size) := Hid.mk (by omega)
 clear c0 c1 c2 g0 HLC hM2 hT2 hB hsz
 have g4 := qcf w2 (.cells #[.int .i64 l, .int .i64 k, .int .u64 o, .bool u, .bool r, .bool y, .bool q, .int .i64 t] 112) (.cells #[.int .i64 f1, .int .i64 f2] 50)
 have g5 := heap_alloc2_new w2 (.cells #[.int .i64 l, .int .i64 k, .int .u64 o, .bool u, .bool r, .bool y, .bool q, .int .i64 t] 112) (.cells #[.int .i64 f1, .int .i64 f2] 50)
 have hb3 := qbx w2 (.cells #[.int .i64 l, .int .i64 k, .int .u64 o, .bool u, .bool r, .bool y, .bool q, .int .i64 t] 112) (.cells #[.int .i64 f1, .int .i64 f2] 50)
 go_upto_region 2 with fail
 generalize (w2.alloc (.cells #[.int .i64 l, .int .i64 k, .int .u64 o, .bool u, .bool r, .bool y, .bool q, .int .i64 t] 112)).alloc (.cells #[.int .i64 f1, .int .i64 f2] 50) = w3 at *
 replace g1 := qaa hb3 g1
 have HB3 := Hid.mk hb3
 have HM3 := Hid.mk (HM2.out.later hb3)
 clear hb3
 generalize hKL : w2.heap.size = KL at g4 g5 ⊢
 obtain ⟨k8, k9⟩ := TR.qaz g5
 go_wp2_with
  first
  | (refine qad rfl 52 _ _ rfl rfl (w.heap.size + 1) 0 _ #[.int .i64 f1, .int .i64 f2, .int .u64 0] rfl rfl rfl 52 _ g1 (show 0 + 3 ≤ 3 by decide) qeh (by simp [Value.oneCell']) #[.int .i64 f1, .int .i64 f2, .int .u64 0] rfl ?_
     intro wb hrb htb)
  | fail
 refine bodyPost_ret (results_cell_row rfl _ _ (w.heap.size + 1) 52 _ _ _ rfl hrb Tryz.underlying52 rfl qeh) rfl ⟨rfl, ?_⟩
 have hgr : w.heap.size + 1 < W.heap.size := HSZ.out
 exact H0.out.fin (HM2.out.mono (Nat.le_succ n)) HB3.out htb (fun i hi => by
  rcases hi with hi | hi
  ·exact Or.inl hi
  ·exact Or.inr (by have := HBW.out.size; omega)) (fun i hi => by
  rw [hi]
  exact ⟨by omega, fun c => by
   rcases c with c | c
   ·exact H0.out.nX (by omega) c
   ·omega⟩) ((qak X HBW.out).trans HT2.out (fun _ _ h => h))
theorem acc_f2 (h : Mch w0 w X x a n S most s)  (kind : Int) (va v : Nat) (hva : va < 18446744073709551616) (hn : Hn) (h1 : (qai S s va hn).2.1 = 0) (h2 : (qai S s va hn).2.2 = 0) (h3 : letK (qai S s va hn).1.u (qai S s va hn).1.r (qai S s va hn).1.x (qai S s va hn).1.s kind ≠ 0) :
  Calls Tryz.prog 9 #[.pointer (some ⟨x, 0, none⟩), .int .i64 kind, .int .u64 va, .int .u64 v, hn.v] w fun r w' => r = .returned (resV (letF (qai S s va hn).1 kind) 0) ∧ Mch w0 w' (Gr X w w') x a (n + 1) S most (qba S most s va hn) ∧ Turn X w w' := by
 have H0 := Hid.mk h
 have HLC := Hid.mk (fun W (hb : Below w.heap.size w W) => leaf_c (H0.out.later hb) va hva hn)
 have HBD := Hid.mk (accT_lt (S := S) h.wfm va hn)
 have _HVB := Hid.mk (hva)
 clear h
 generalize qai S s va hn = Q at *
 generalize qba S most s va hn = s1 at *
 obtain ⟨⟨l, k, o, u, r, y, q, t⟩, f1, f2⟩ := Q
 obtain ⟨hf, hl, hk⟩ := hn
 simp only [Lf.cs, Hn.v, tupV, accT] at *
 obtain rfl : f1 = 0 := h1
 obtain rfl : f2 = 0 := h2
 have HLK := Hid.mk (fun W => let_any k o u r y q t l kind W)
 simp only [letF] at *
 generalize letK u r y q kind = lk at *
 generalize letL u r y q l kind = ll at *
 have g0 := qcf w (.cells #[.bool hf, .bool hl, .bool hk] 38) (.cells #[.int .i64 0, .int .i64 0, .int .u64 0] 52)
 have g1 := heap_alloc2_new w (.cells #[.bool hf, .bool hl, .bool hk] 38) (.cells #[.int .i64 0, .int .i64 0, .int .u64 0] 52)
 have hB := qbx w (.cells #[.bool hf, .bool hl, .bool hk] 38) (.cells #[.int .i64 0, .int .i64 0, .int .u64 0] 52)
 have hsz : ((w.alloc (.cells #[.bool hf, .bool hl, .bool hk] 38)).alloc (.cells #[.int .i64 0, .int .i64 0, .int .u64 0] 52)).heap.size = w.heap.size + 1 + 1 := by simp
 go_enter Tryz.func9, Tryz.ntmps9
 go_upto_region 1 with fail
 generalize (w.alloc (.cells #[.bool hf, .bool hl, .bool hk] 38)).alloc (.cells #[.int .i64 0, .int .i64 0, .int .u64 0] 52) = W at *
 obtain ⟨c0, c1, c2⟩ := qan g0
 go_wp2_with fail
 refine (HLC.out _ hB).mono ?_
 rintro e w2 ⟨rfl, hM2, hT2⟩
 have HM2 := Hid.mk hM2
 have HT2 := Hid.mk hT2
 have HBW := Hid.mk hB
 replace g1 := (hT2.block _ (qag g1) (H0.out.nX (by omega))).trans g1
 have hs2 : w.heap.size + 1 + 1 ≤ w2.heap.size := by have := hT2.size; omega
 have HSZ : Hid (w.heap.size + 1 < W.heap.size) := Hid.mk (by omega)
 clear c0 c1 c2 g0 HLC hM2 hT2 hB hsz
 have g4 := qcf w2 (.cells #[.int .i64 l, .int .i64 k, .int .u64 o, .bool u, .bool r, .bool y, .bool q, .int .i64 t] 112) (.cells #[.int .i64 0, .int .i64 0] 50)
 have g5 := heap_alloc2_new w2 (.cells #[.int .i64 l, .int .i64 k, .int .u64 o, .bool u, .bool r, .bool y, .bool q, .int .i64 t] 112) (.cells #[.int .i64 0, .int .i64 0] 50)
 have hb3 := qbx w2 (.cells #[.int .i64 l, .int .i64 k, .int .u64 o, .bool u, .bool r, .bool y, .bool q, .int .i64 t] 112) (.cells #[.int .i64 0, .int .i64 0] 50)
 go_upto_region 2 with fail
 generalize (w2.alloc (.cells #[.int .i64 l, .int .i64 k, .int .u64 o, .bool u, .bool r, .bool y, .bool q, .int .i64 t] 112)).alloc (.cells #[.int .i64 0, .int .i64 0] 50) = w3 at *
 replace g1 := qaa hb3 g1
 have HB3 := Hid.mk hb3
 have HM3 := Hid.mk (HM2.out.later hb3)
 clear hb3
 generalize hKL : w2.heap.size = KL at g4 g5 ⊢
 obtain ⟨k8, k9⟩ := TR.qaz g5
 obtain ⟨⟨d0, d1, d2, d3, d4, d5, d6, d7⟩, -⟩ := qec g4
 go_wp2_with fail
 refine (HLK.out _).mono ?_
 rintro e w4 ⟨rfl, hb4⟩
 obtain ⟨g1, g4, g5⟩ := bl3 hb4 g1 g4 g5
 have HM4 := Hid.mk (HM3.out.later hb4)
 have HB4 := Hid.mk (qab HB3.out hb4)
 clear HLK k8 k9 d0 d1 d2 d3 d4 d5 d6 d7 hb4 HM3
 go_upto_region 4 with
  first
  | (refine qad rfl 50 _ _ rfl rfl (KL + 1) 0 _ #[.int .i64 lk, .int .i64 ll] rfl rfl rfl 50 _ g5 (show 0 + 2 ≤ 2 by decide) qap (by simp [Value.oneCell']) #[.int .i64 lk, .int .i64 ll] rfl ?_
     intro wa hra hta
     replace g1 := qae hta g1 (by omega)
     replace g4 := qae hta g4 (by omega))
  | fail
 obtain ⟨k8, k9⟩ := TR.qaz hra
 go_wp2_with
  first
  | (refine qad rfl 52 _ _ rfl rfl (w.heap.size + 1) 0 _ #[.int .i64 lk, .int .i64 ll, .int .u64 0] rfl rfl rfl 52 _ g1 (show 0 + 3 ≤ 3 by decide) qeh (by simp [Value.oneCell']) #[.int .i64 lk, .int .i64 ll, .int .u64 0] rfl ?_
     intro wb hrb htb)
  | fail
 refine bodyPost_ret (results_cell_row rfl _ _ (w.heap.size + 1) 52 _ _ _ rfl hrb Tryz.underlying52 rfl qeh) rfl ⟨rfl, ?_⟩
 have hgr : w.heap.size + 1 < W.heap.size := HSZ.out
 exact H0.out.fin2 (HM4.out.mono (Nat.le_succ n)) (Below.refl _ _) hta htb (fun i hi => by
  rcases hi with hi | hi
  ·exact Or.inl hi
  ·exact Or.inr (by have := HBW.out.size; omega)) ⟨by omega, fun c => by
   rcases c with c | c
   ·exact H0.out.nX (by omega) c
   ·omega⟩ ⟨by omega, fun c => by
   rcases c with c | c
   ·exact H0.out.nX (by omega) c
   ·omega⟩ (((qak X HBW.out).trans HT2.out (fun _ _ h => h)).trans (qak X HB4.out) (fun _ _ h => h))
theorem acc_st (h : Mch w0 w X x a n S most s) (hn0 : n < 100000000) (kind : Int) (va v : Nat) (hva : va < 18446744073709551616) (hv : v < 18446744073709551616) (hn : Hn) (h1 : (qai S s va hn).2.1 = 0) (h2 : (qai S s va hn).2.2 = 0) (h3 : letK (qai S s va hn).1.u (qai S s va hn).1.r (qai S s va hn).1.x (qai S s va hn).1.s kind = 0) (hk2 : kind = 2) :
  Calls Tryz.prog 9 #[.pointer (some ⟨x, 0, none⟩), .int .i64 kind, .int .u64 va, .int .u64 v, hn.v] w fun r w' => r = .returned (resV (0, 0) 0) ∧ Mch w0 w' (Gr X w w') x a (n + 1) S most { qba S most s va hn with f := wrF (qba S most s va hn).f S (accT (qai S s va hn).1 va) v } ∧ Turn X w w' := by
 have H0 := Hid.mk h
 have HLC := Hid.mk (fun W (hb : Below w.heap.size w W) => leaf_c (H0.out.later hb) va hva hn)
 have HBD := Hid.mk (accT_lt (S := S) h.wfm va hn)
 have HVB := Hid.mk (And.intro hva hv)
 clear h
 generalize qai S s va hn = Q at *
 generalize qba S most s va hn = s1 at *
 obtain ⟨⟨l, k, o, u, r, y, q, t⟩, f1, f2⟩ := Q
 obtain ⟨hf, hl, hk⟩ := hn
 simp only [Lf.cs, Hn.v, tupV, accT] at *
 obtain rfl : f1 = 0 := h1
 obtain rfl : f2 = 0 := h2
 have h4 : letL u r y q l kind = 0 := qdv h3
 have HLK := Hid.mk (fun W => let_any k o u r y q t l kind W)
 generalize letK u r y q kind = lk at *
 generalize letL u r y q l kind = ll at *
 subst h3 h4
 have g0 := qcf w (.cells #[.bool hf, .bool hl, .bool hk] 38) (.cells #[.int .i64 0, .int .i64 0, .int .u64 0] 52)
 have g1 := heap_alloc2_new w (.cells #[.bool hf, .bool hl, .bool hk] 38) (.cells #[.int .i64 0, .int .i64 0, .int .u64 0] 52)
 have hB := qbx w (.cells #[.bool hf, .bool hl, .bool hk] 38) (.cells #[.int .i64 0, .int .i64 0, .int .u64 0] 52)
 have hsz : ((w.alloc (.cells #[.bool hf, .bool hl, .bool hk] 38)).alloc (.cells #[.int .i64 0, .int .i64 0, .int .u64 0] 52)).heap.size = w.heap.size + 1 + 1 := by simp
 subst hk2
 have HOU := Hid.mk (fun W => out_any l k o u r y q t va HVB.out.1 HBD.out W)
 generalize hAT : o + offV va l = AT at *
 clear hAT
 go_enter Tryz.func9, Tryz.ntmps9
 go_upto_region 1 with fail
 generalize (w.alloc (.cells #[.bool hf, .bool hl, .bool hk] 38)).alloc (.cells #[.int .i64 0, .int .i64 0, .int .u64 0] 52) = W at *
 obtain ⟨c0, c1, c2⟩ := qan g0
 go_wp2_with fail
 refine (HLC.out _ hB).mono ?_
 rintro e w2 ⟨rfl, hM2, hT2⟩
 have HM2 := Hid.mk hM2
 have HT2 := Hid.mk hT2
 have HBW := Hid.mk hB
 replace g1 := (hT2.block _ (qag g1) (H0.out.nX (by omega))).trans g1
 have hs2 : w.heap.size + 1 + 1 ≤ w2.heap.size := by have := hT2.size; omega
 have HSZ : Hid (w.heap.size + 1 < W.heap.size) := Hid.mk (by omega)
 clear c0 c1 c2 g0 HLC hM2 hT2 hB hsz
 have g4 := qcf w2 (.cells #[.int .i64 l, .int .i64 k, .int .u64 o, .bool u, .bool r, .bool y, .bool q, .int .i64 t] 112) (.cells #[.int .i64 0, .int .i64 0] 50)
 have g5 := heap_alloc2_new w2 (.cells #[.int .i64 l, .int .i64 k, .int .u64 o, .bool u, .bool r, .bool y, .bool q, .int .i64 t] 112) (.cells #[.int .i64 0, .int .i64 0] 50)
 have hb3 := qbx w2 (.cells #[.int .i64 l, .int .i64 k, .int .u64 o, .bool u, .bool r, .bool y, .bool q, .int .i64 t] 112) (.cells #[.int .i64 0, .int .i64 0] 50)
 go_upto_region 2 with fail
 generalize (w2.alloc (.cells #[.int .i64 l, .int .i64 k, .int .u64 o, .bool u, .bool r, .bool y, .bool q, .int .i64 t] 112)).alloc (.cells #[.int .i64 0, .int .i64 0] 50) = w3 at *
 replace g1 := qaa hb3 g1
 have HB3 := Hid.mk hb3
 have HM3 := Hid.mk (HM2.out.later hb3)
 clear hb3
 generalize hKL : w2.heap.size = KL at g4 g5 ⊢
 obtain ⟨k8, k9⟩ := TR.qaz g5
 obtain ⟨⟨d0, d1, d2, d3, d4, d5, d6, d7⟩, -⟩ := qec g4
 go_wp2_with fail
 refine (HLK.out _).mono ?_
 rintro e w4 ⟨rfl, hb4⟩
 obtain ⟨g1, g4, g5⟩ := bl3 hb4 g1 g4 g5
 have HM4 := Hid.mk (HM3.out.later hb4)
 have HB4 := Hid.mk (qab HB3.out hb4)
 clear HLK k8 k9 d0 d1 d2 d3 d4 d5 d6 d7 hb4 HM3
 go_upto_region 4 with
  first
  | (refine qad rfl 50 _ _ rfl rfl (KL + 1) 0 _ #[.int .i64 0, .int .i64 0] rfl rfl rfl 50 _ g5 (show 0 + 2 ≤ 2 by decide) qap (by simp [Value.oneCell']) #[.int .i64 0, .int .i64 0] rfl ?_
     intro wa hra hta
     replace g1 := qae hta g1 (by omega)
     replace g4 := qae hta g4 (by omega))
  | fail
 obtain ⟨k8, k9⟩ := TR.qaz hra
 have HMa : Hid (Mch w0 wa (Gr X W w2) x a n S most s1) := Hid.mk (HM4.out.turn hta (fun i hi c => by
  rcases hi with hi | hi
  ·exact H0.out.nX (by omega) hi
  ·omega) (fun i hi => by have := H0.out.bl.size; have := HBW.out.size; omega))
 obtain ⟨XM, XB, XT, tb, tr, pv, hma⟩ := HMa.out
 have k0 := (row5 hma.row).1
 have hxK : x < w2.heap.size := HM2.out.ltX x (by obtain ⟨_, _, _, _, _, _, h⟩ := HM2.out; exact h.cx)
 clear hma
 go_upto_region 7 with fail
 clear k8 k9
 obtain ⟨⟨k1, k2, k3, k4, k5, k6, k7, k8⟩, -⟩ := qec g4
 obtain ⟨k0, k1, k2, k3, k4⟩ := cl5 (Below.refl _ wa).drew k0 k1 k2 k3 k4
 obtain ⟨k5, k6, k7, k8⟩ := cl4 (Below.refl _ wa).drew k5 k6 k7 k8
 refine hd9 k0 k1 k2 k3 k4 k5 k6 k7 k8 (h := fun hHeld => ?_)
 refine tk 0 38 (h := ?_)
 refine tk 1 39 (h := ?_)
 refine tk 2 40 (h := ?_)
 refine tk 3 41 (h := ?_)
 refine tk 4 42 (h := ?_)
 refine tk 5 43 (h := ?_)
 refine tk 7 45 (h := ?_)
 refine rd1 6 (h := fun K hK => ?_)
 go_simp
 refine (HOU.out _).mono ?_
 rintro e v0 ⟨rfl, hbm⟩
 go_wp2_with fail
 obtain ⟨k0, k1, k2, k3, k4⟩ := cl5 hbm k0 k1 k2 k3 k4
 obtain ⟨k5, k6, k7, k8⟩ := cl4 hbm k5 k6 k7 k8
 have hb8 := qab (Below.refl _ wa).drew hbm
 obtain ⟨g1, g4⟩ := bl2 hb8 g1 g4
 clear hbm
 refine hK.out _ _ ⟨k0, k1, k2, k3, k4, k5, k6, k7, k8⟩ (fun hHeldc0 => ?_)
 clear hK
 try simp only [Act.put, sq]
 refine rd1 8 (h := fun K hK => ?_)
 go_simp
 obtain ⟨XM, XB, XT, tb, tr, pv, hmv⟩ := HMa.out.later hb8
 refine (hmv.write hn0 AT v HBD.out HVB.out.2).mono ?_
 rintro e w6 ⟨rfl, hM6, hT6, hx6⟩
 clear hmv
 go_wp2_with fail
 have hsv : KL < v0.heap.size := qag g4
 have nZ : ∀ i, w.heap.size ≤ i → (i < W.heap.size ∨ KL ≤ i) → ¬ Gr X W w2 i := fun i h1 h2 c => by
  rcases c with c | c
  ·exact H0.out.nX h1 c
  ·omega
 replace k0 := (World.cell?_of_block (a := ⟨x, 0, none⟩) hx6).trans k0
 replace k1 := TR.qam hT6 (nZ _ (by omega) (Or.inr (Nat.le_refl _))) k1
 replace k2 := TR.qam hT6 (nZ _ (by omega) (Or.inr (Nat.le_refl _))) k2
 replace k3 := TR.qam hT6 (nZ _ (by omega) (Or.inr (Nat.le_refl _))) k3
 replace k4 := TR.qam hT6 (nZ _ (by omega) (Or.inr (Nat.le_refl _))) k4
 replace k5 := TR.qam hT6 (nZ _ (by omega) (Or.inr (Nat.le_refl _))) k5
 replace k6 := TR.qam hT6 (nZ _ (by omega) (Or.inr (Nat.le_refl _))) k6
 replace k7 := TR.qam hT6 (nZ _ (by omega) (Or.inr (Nat.le_refl _))) k7
 replace k8 := TR.qam hT6 (nZ _ (by omega) (Or.inr (Nat.le_refl _))) k8
 have hgr : w.heap.size + 1 < W.heap.size := HSZ.out
 replace g1 := (hT6.block _ (qag g1) (nZ _ (by omega) (Or.inl (by omega)))).trans g1
 refine hK.out _ _ ⟨k0, k1, k2, k3, k4, k5, k6, k7, k8⟩ (fun hHeldc1 => ?_)
 clear hK
 try simp only [Act.put, sq]
 refine wpAnyH_done (by kernel_rfl) ?_ _
 refine NoPanic.normal ?_
 have HM6 := Hid.mk hM6
 have HT6 := Hid.mk hT6
 have HB8 := Hid.mk hb8
 clear k0 k1 k2 k3 k4 k5 k6 k7 k8 hM6 hT6 hx6 hb8 g4 hra
 go_wp2_with
  first
  | (refine qad rfl 52 _ _ rfl rfl (w.heap.size + 1) 0 _ #[.int .i64 0, .int .i64 0, .int .u64 0] rfl rfl rfl 52 _ g1 (show 0 + 3 ≤ 3 by decide) qeh (by simp [Value.oneCell']) #[.int .i64 0, .int .i64 0, .int .u64 0] rfl ?_
     intro wb hrb htb)
  | fail
 refine bodyPost_ret (results_cell_row rfl _ _ (w.heap.size + 1) 52 _ _ _ rfl hrb Tryz.underlying52 rfl qeh) rfl ⟨rfl, ?_⟩
 have hs8 := HB8.out.size
 have hsa := hta.size
 have hs4 := HB4.out.size
 exact H0.out.fin HM6.out (Below.refl _ _) htb (fun i hi => by
  rcases hi with (hi | hi) | hi
  ·exact Or.inl hi
  ·exact Or.inr (by have := HBW.out.size; omega)
  ·exact Or.inr (by omega)) (fun i hi => by
  rw [hi]
  refine ⟨by omega, fun c => ?_⟩
  rcases c with c | c
  ·exact nZ _ (by omega) (Or.inl (by omega)) c
  ·omega) ((((((qak X HBW.out).trans HT2.out (fun _ _ h => h)).trans (qak X HB4.out) (fun _ _ h => h)).trans hta (fun i hi c => by omega)).trans (qak X HB8.out) (fun _ _ h => h)).trans HT6.out (fun i hi c => by
  rcases c with c | c
  ·exact c
  ·have := HBW.out.size; omega))
theorem acc_ld (h : Mch w0 w X x a n S most s)  (kind : Int) (va v : Nat) (hva : va < 18446744073709551616) (hn : Hn) (h1 : (qai S s va hn).2.1 = 0) (h2 : (qai S s va hn).2.2 = 0) (h3 : letK (qai S s va hn).1.u (qai S s va hn).1.r (qai S s va hn).1.x (qai S s va hn).1.s kind = 0) (hk2 : ¬ kind = 2) :
  Calls Tryz.prog 9 #[.pointer (some ⟨x, 0, none⟩), .int .i64 kind, .int .u64 va, .int .u64 v, hn.v] w fun r w' => r = .returned (resV (0, 0) ((qba S most s va hn).f (accT (qai S s va hn).1 va))) ∧ Mch w0 w' (Gr X w w') x a (n + 1) S most (qba S most s va hn) ∧ Turn X w w' := by
 have H0 := Hid.mk h
 have HLC := Hid.mk (fun W (hb : Below w.heap.size w W) => leaf_c (H0.out.later hb) va hva hn)
 have HBD := Hid.mk (accT_lt (S := S) h.wfm va hn)
 have HVB := Hid.mk (hva)
 clear h
 generalize qai S s va hn = Q at *
 generalize qba S most s va hn = s1 at *
 obtain ⟨⟨l, k, o, u, r, y, q, t⟩, f1, f2⟩ := Q
 obtain ⟨hf, hl, hk⟩ := hn
 simp only [Lf.cs, Hn.v, tupV, accT] at *
 obtain rfl : f1 = 0 := h1
 obtain rfl : f2 = 0 := h2
 have h4 : letL u r y q l kind = 0 := qdv h3
 have HLK := Hid.mk (fun W => let_any k o u r y q t l kind W)
 generalize letK u r y q kind = lk at *
 generalize letL u r y q l kind = ll at *
 subst h3 h4
 have g0 := qcf w (.cells #[.bool hf, .bool hl, .bool hk] 38) (.cells #[.int .i64 0, .int .i64 0, .int .u64 0] 52)
 have g1 := heap_alloc2_new w (.cells #[.bool hf, .bool hl, .bool hk] 38) (.cells #[.int .i64 0, .int .i64 0, .int .u64 0] 52)
 have hB := qbx w (.cells #[.bool hf, .bool hl, .bool hk] 38) (.cells #[.int .i64 0, .int .i64 0, .int .u64 0] 52)
 have hsz : ((w.alloc (.cells #[.bool hf, .bool hl, .bool hk] 38)).alloc (.cells #[.int .i64 0, .int .i64 0, .int .u64 0] 52)).heap.size = w.heap.size + 1 + 1 := by simp
 have HOU := Hid.mk (fun W => out_any l k o u r y q t va HVB.out HBD.out W)
 generalize hAT : o + offV va l = AT at *
 clear hAT
 go_enter Tryz.func9, Tryz.ntmps9
 go_upto_region 1 with fail
 generalize (w.alloc (.cells #[.bool hf, .bool hl, .bool hk] 38)).alloc (.cells #[.int .i64 0, .int .i64 0, .int .u64 0] 52) = W at *
 obtain ⟨c0, c1, c2⟩ := qan g0
 go_wp2_with fail
 refine (HLC.out _ hB).mono ?_
 rintro e w2 ⟨rfl, hM2, hT2⟩
 have HM2 := Hid.mk hM2
 have HT2 := Hid.mk hT2
 have HBW := Hid.mk hB
 replace g1 := (hT2.block _ (qag g1) (H0.out.nX (by omega))).trans g1
 have hs2 : w.heap.size + 1 + 1 ≤ w2.heap.size := by have := hT2.size; omega
 have HSZ : Hid (w.heap.size + 1 < W.heap.size) := Hid.mk (by omega)
 clear c0 c1 c2 g0 HLC hM2 hT2 hB hsz
 have g4 := qcf w2 (.cells #[.int .i64 l, .int .i64 k, .int .u64 o, .bool u, .bool r, .bool y, .bool q, .int .i64 t] 112) (.cells #[.int .i64 0, .int .i64 0] 50)
 have g5 := heap_alloc2_new w2 (.cells #[.int .i64 l, .int .i64 k, .int .u64 o, .bool u, .bool r, .bool y, .bool q, .int .i64 t] 112) (.cells #[.int .i64 0, .int .i64 0] 50)
 have hb3 := qbx w2 (.cells #[.int .i64 l, .int .i64 k, .int .u64 o, .bool u, .bool r, .bool y, .bool q, .int .i64 t] 112) (.cells #[.int .i64 0, .int .i64 0] 50)
 go_upto_region 2 with fail
 generalize (w2.alloc (.cells #[.int .i64 l, .int .i64 k, .int .u64 o, .bool u, .bool r, .bool y, .bool q, .int .i64 t] 112)).alloc (.cells #[.int .i64 0, .int .i64 0] 50) = w3 at *
 replace g1 := qaa hb3 g1
 have HB3 := Hid.mk hb3
 have HM3 := Hid.mk (HM2.out.later hb3)
 clear hb3
 generalize hKL : w2.heap.size = KL at g4 g5 ⊢
 obtain ⟨k8, k9⟩ := TR.qaz g5
 obtain ⟨⟨d0, d1, d2, d3, d4, d5, d6, d7⟩, -⟩ := qec g4
 go_wp2_with fail
 refine (HLK.out _).mono ?_
 rintro e w4 ⟨rfl, hb4⟩
 obtain ⟨g1, g4, g5⟩ := bl3 hb4 g1 g4 g5
 have HM4 := Hid.mk (HM3.out.later hb4)
 have HB4 := Hid.mk (qab HB3.out hb4)
 clear HLK k8 k9 d0 d1 d2 d3 d4 d5 d6 d7 hb4 HM3
 go_upto_region 4 with
  first
  | (refine qad rfl 50 _ _ rfl rfl (KL + 1) 0 _ #[.int .i64 0, .int .i64 0] rfl rfl rfl 50 _ g5 (show 0 + 2 ≤ 2 by decide) qap (by simp [Value.oneCell']) #[.int .i64 0, .int .i64 0] rfl ?_
     intro wa hra hta
     replace g1 := qae hta g1 (by omega)
     replace g4 := qae hta g4 (by omega))
  | fail
 obtain ⟨k8, k9⟩ := TR.qaz hra
 have HMa : Hid (Mch w0 wa (Gr X W w2) x a n S most s1) := Hid.mk (HM4.out.turn hta (fun i hi c => by
  rcases hi with hi | hi
  ·exact H0.out.nX (by omega) hi
  ·omega) (fun i hi => by have := H0.out.bl.size; have := HBW.out.size; omega))
 obtain ⟨XM, XB, XT, tb, tr, pv, hma⟩ := HMa.out
 have k0 := (row5 hma.row).1
 have hxK : x < w2.heap.size := HM2.out.ltX x (by obtain ⟨_, _, _, _, _, _, h⟩ := HM2.out; exact h.cx)
 clear hma
 go_upto_region 9 with fail
 clear k8 k9
 obtain ⟨⟨k1, k2, k3, k4, k5, k6, k7, k8⟩, -⟩ := qec g4
 obtain ⟨k0, k1, k2, k3, k4⟩ := cl5 (Below.refl _ wa).drew k0 k1 k2 k3 k4
 obtain ⟨k5, k6, k7, k8⟩ := cl4 (Below.refl _ wa).drew k5 k6 k7 k8
 refine hd9 k0 k1 k2 k3 k4 k5 k6 k7 k8 (h := fun hHeld => ?_)
 refine tk 0 49 (h := ?_)
 refine tk 1 50 (h := ?_)
 refine tk 2 51 (h := ?_)
 refine tk 3 52 (h := ?_)
 refine tk 4 53 (h := ?_)
 refine tk 5 54 (h := ?_)
 refine rd1 6 (h := fun K hK => ?_)
 go_simp
 refine (HOU.out _).mono ?_
 rintro e v0 ⟨rfl, hbm⟩
 go_wp2_with fail
 obtain ⟨k0, k1, k2, k3, k4⟩ := cl5 hbm k0 k1 k2 k3 k4
 obtain ⟨k5, k6, k7, k8⟩ := cl4 hbm k5 k6 k7 k8
 have hb8 := qab (Below.refl _ wa).drew hbm
 clear hbm
 refine hK.out _ _ ⟨k0, k1, k2, k3, k4, k5, k6, k7, k8⟩ (fun hHeldc0 => ?_)
 clear hK
 try simp only [Act.put, sq]
 refine rd1 7 (h := fun K hK => ?_)
 go_simp
 obtain ⟨XM, XB, XT, tb, tr, pv, hmv⟩ := HMa.out.later hb8
 refine (read_c hmv.mem AT HBD.out).mono ?_
 rintro e v1 ⟨rfl, hbm⟩
 clear hmv
 go_wp2_with fail
 obtain ⟨k0, k1, k2, k3, k4⟩ := cl5 hbm k0 k1 k2 k3 k4
 obtain ⟨k5, k6, k7, k8⟩ := cl4 hbm k5 k6 k7 k8
 replace hb8 := qab hb8 hbm
 clear hbm
 refine hK.out _ _ ⟨k0, k1, k2, k3, k4, k5, k6, k7, k8⟩ (fun hHeldc1 => ?_)
 clear hK
 try simp only [Act.put, sq]
 refine tk 8 48 (h := ?_)
 refine tk 9 57 (h := ?_)
 refine tk 10 58 (h := ?_)
 refine tk 11 13 (h := ?_)
 refine tk 12 14 (h := ?_)
 refine wpAnyH_done (by kernel_rfl) ?_ _
 refine NoPanic.normal ?_
 replace g1 := qaa hb8 g1
 have HB8 := Hid.mk hb8
 clear k0 k1 k2 k3 k4 k5 k6 k7 k8 hb8 g4 hra
 go_wp2_with
  first
  | (refine qad rfl 52 _ _ rfl rfl (w.heap.size + 1) 0 _ #[.int .i64 0, .int .i64 0, .int .u64 (s1.f AT : Nat)] rfl rfl rfl 52 _ g1 (show 0 + 3 ≤ 3 by decide) qeh (by simp [Value.oneCell']) #[.int .i64 0, .int .i64 0, .int .u64 (s1.f AT : Nat)] rfl ?_
     intro wb hrb htb)
  | fail
 refine bodyPost_ret (results_cell_row rfl _ _ (w.heap.size + 1) 52 _ _ _ rfl hrb Tryz.underlying52 rfl qeh) rfl ⟨rfl, ?_⟩
 have hgr : w.heap.size + 1 < W.heap.size := HSZ.out
 exact H0.out.fin ((HMa.out.later HB8.out).mono (Nat.le_succ n)) (Below.refl _ _) htb (fun i hi => by
  rcases hi with hi | hi
  ·exact Or.inl hi
  ·exact Or.inr (by have := HBW.out.size; omega)) (fun i hi => by
  rw [hi]
  exact ⟨by omega, fun c => by
   rcases c with c | c
   ·exact H0.out.nX (by omega) c
   ·omega⟩) (((((qak X HBW.out).trans HT2.out (fun _ _ h => h)).trans (qak X HB4.out) (fun _ _ h => h)).trans hta (fun i hi c => by omega)).trans (qak X HB8.out) (fun _ _ h => h))
theorem leafS_f (va : Nat) (hn : Hn) : (qba S most s va hn).f = s.f := by
 unfold qba
 split
 ·rfl
 ·split
  ·rfl
  ·unfold lfS
   split
   ·rfl
   ·rfl
theorem access_c (h : Mch w0 w X x a n S most s) (hn0 : n < 100000000) (kind : Int) (va v : Nat) (hva : va < 18446744073709551616) (hv : v < 18446744073709551616) (hn : Hn) :
  Calls Tryz.prog 9 #[.pointer (some ⟨x, 0, none⟩), .int .i64 kind, .int .u64 va, .int .u64 v, hn.v] w fun r w' => r = .returned (resV (accF (qai S s va hn) kind) (accW s.f (qai S s va hn) kind va)) ∧ Mch w0 w' (Gr X w w') x a (n + 1) S most (accS S most s kind va v hn) ∧ Turn X w w' := by
 have ef : (qba S most s va hn).f = s.f := leafS_f va hn
 by_cases h1 : (qai S s va hn).2.1 = 0
 ·have h2 := leafO_ft va hn h1
  have e1 : accF (qai S s va hn) kind = letF (qai S s va hn).1 kind := if_pos h1
  by_cases h3 : letK (qai S s va hn).1.u (qai S s va hn).1.r (qai S s va hn).1.x (qai S s va hn).1.s kind = 0
  ·have e2 : accF (qai S s va hn) kind = (0, 0) := by rw [e1]; unfold letF; rw [h3, qdv h3]
   by_cases hk : kind = 2
   ·have e3 : accW s.f (qai S s va hn) kind va = 0 := if_neg (fun c => c.2 hk)
    have e4 : accS S most s kind va v hn = { qba S most s va hn with f := wrF (qba S most s va hn).f S (accT (qai S s va hn).1 va) v } := by
     unfold accS accM
     rw [if_pos ⟨by rw [e2], hk⟩, ef]
    rw [e2, e3, e4]
    exact acc_st h hn0 kind va v hva hv hn h1 h2 h3 hk
   ·have e3 : accW s.f (qai S s va hn) kind va = (qba S most s va hn).f (accT (qai S s va hn).1 va) := by
     rw [ef]; exact if_pos ⟨by rw [e2], hk⟩
    have e4 : accS S most s kind va v hn = qba S most s va hn := by
     unfold accS accM
     rw [if_neg (fun c => hk c.2), ← ef]
    rw [e2, e3, e4]
    exact acc_ld h kind va v hva hn h1 h2 h3 hk
  ·have e3 : accW s.f (qai S s va hn) kind va = 0 := if_neg (fun c => h3 (by have := c.1; rw [e1] at this; exact this))
   have e4 : accS S most s kind va v hn = qba S most s va hn := by
    unfold accS accM
    rw [if_neg (fun c => h3 (by have := c.1; rw [e1] at this; exact this)), ← ef]
   rw [e1, e3, e4]
   exact acc_f2 h kind va v hva hn h1 h2 h3
 ·have e1 : accF (qai S s va hn) kind = (qai S s va hn).2 := if_neg h1
  have e3 : accW s.f (qai S s va hn) kind va = 0 := if_neg (fun c => h1 (by have := c.1; rw [e1] at this; exact this))
  have e4 : accS S most s kind va v hn = qba S most s va hn := by
   unfold accS accM
   rw [if_neg (fun c => h1 (by have := c.1; rw [e1] at this; exact this)), ← ef]
  rw [e1, e3, e4]
  exact acc_f1 h kind va v hva hn h1
end
end Go.Proofs.YtfdbdeckohaneaaGreatDoor.MM
