/- TrailPlays (P8.1 to P8.3): for every bound and every list of steps the law returns true: every play of marks, walks, evictions and flushes is the document's, mark by mark. No condition beyond the row's own. -/
import Derived.Test.YtdpcbdbdacjcbaaDoorTrPlB
import Derived.Test.YtdpcbdbdacjcbaaDoorTrFrame

/- A step of a play: Add. Made by mktry.py. -/
namespace Go.Proofs.YtdpcbdbdacjcbaaDoor.TR
open Go.RowKit Go.Maps

set_option linter.unusedVariables false in
set_option linter.unusedSimpArgs false in
set_option maxHeartbeats 2000000 in
set_option maxRecDepth 1000000 in
theorem step_1 {w0 w : World} {t : Nat} {most : Int} {l : List En} {ad : Option Addr} {cap : Nat} (h : PInv w0 w t most l ad cap) (hm : 1 ≤ most) (hm2 : most ≤ 64) (hF : Flds w0) (e : En) (he : e.ok) (N : Int) (adS : Option Addr) (nS capS : Nat) :
    Calls Tryd.prog 8 #[.pointer (some ⟨t, 0, none⟩), .int .i64 most, .slice ad l.length cap, .agg #[.int .i64 1, .int .i64 N, .int .i64 e.aid, .int .u64 e.va, .int .i64 e.lv, .int .u64 e.tb, .slice adS nS capS]] w fun r w' => ∃ l' ad' cap', r = .returned (.tuple #[.slice ad' l'.length cap', .bool true]) ∧ PInv w0 w' t most l' ad' cap' := by
  have HP := Hid.mk h
  have HF := Hid.mk hF
  obtain ⟨X, hBuf, hXlo, hnX⟩ := h.ex
  have hXlt := buf_lt hBuf
  have HBUF := Hid.mk hBuf
  have HXLO := Hid.mk hXlo
  have HNX := Hid.mk hnX
  have HXLT := Hid.mk hXlt
  have hlnI : (l.length : Int) ≤ 64 := by have := h.ln; omega
  have HLN : Hid (l.length ≤ 64) := by show _ ≤ _; omega
  have HMO := Hid.mk (And.intro hm hm2)
  have HLV : Hid (∀ x ∈ l, 1 ≤ x.lv ∧ x.lv ≤ 3) := fun x hx => (right_facts (h.rt x hx)).1
  have HFC : Hid (∀ W, Buf W X t most l → Flds W → Calls Tryd.prog 16 #[.pointer (some ⟨t, 0, none⟩), e.v] W fun r w' => r = .returned (.int .i64 (fillN e)) ∧ Buf w' (Xp X W w') t most (fillL l most e) ∧ Turn X W w') := fun W h1 h2 => fill_c e he h1 (by have := HLN.out; omega) h2
  have HRA : Hid (∀ W, RLst W ad cap l → Calls Tryd.prog 19 #[.slice ad l.length cap, .int .i64 most, e.v] W fun r w' => ∃ ad' cap', r = .returned (.slice ad' (fillL l most e).length cap') ∧ RLst w' ad' cap' (fillL l most e) ∧ Fs W ad ad' ∧ Below W.heap.size W w') := fun W h1 => radd_c l e he ad cap most W hm (by have := HLN.out; omega) h1
  have HRR : Hid (∀ W, Calls Tryd.prog 20 #[e.v] W fun r w' => r = .returned (.bool (rightE e)) ∧ Below W.heap.size W w') := fun W => rright_any e he W
  have HRP : Hid (∀ W, Flds W → Calls Tryd.prog 21 #[e.v] W fun r w' => r = .returned (.bool (rightE e)) ∧ Below W.heap.size W w') := fun W h1 => rightE_any e he W h1
  have HKT : Hid (∀ x ∈ fillL l most e, rightE x = true) := fillL_rt h.rt
  have HKL : Hid (((fillL l most e).length : Int) ≤ most) := fillL_ln h.ln
  have hFN : fillN e = if rightE e = true then 0 else 10 := rfl
  generalize fillN e = FN at *
  generalize fillL l most e = FL at *
  clear h hF hBuf hXlo hnX hXlt hm hm2 he
  cases hrt : rightE e
  · rw [hrt] at HRR HRP hFN
    rw [if_neg (by decide)] at hFN
    subst hFN
    clear hrt
    obtain ⟨a0, a1, a2, a3⟩ := e
    simp only [En.v] at *
    have K7 := Hid.mk (heap_alloc2_old w (.cells #[.int .i64 1, .int .i64 N, .int .i64 a0, .int .u64 a1, .int .i64 a2, .int .u64 a3, .slice adS nS capS] 34) (.cells #[.int .i64 a0, .int .u64 a1, .int .i64 a2, .int .u64 a3] 39))
    have K10 := Hid.mk (heap_alloc2_new w (.cells #[.int .i64 1, .int .i64 N, .int .i64 a0, .int .u64 a1, .int .i64 a2, .int .u64 a3, .slice adS nS capS] 34) (.cells #[.int .i64 a0, .int .u64 a1, .int .i64 a2, .int .u64 a3] 39))
    have HB2 := Hid.mk (below_tr (below_new w (.cells #[.int .i64 1, .int .i64 N, .int .i64 a0, .int .u64 a1, .int .i64 a2, .int .u64 a3, .slice adS nS capS] 34)) (below_new (w.alloc (.cells #[.int .i64 1, .int .i64 N, .int .i64 a0, .int .u64 a1, .int .i64 a2, .int .u64 a3, .slice adS nS capS] 34)) (.cells #[.int .i64 a0, .int .u64 a1, .int .i64 a2, .int .u64 a3] 39)))
    have HXB : Hid (¬ X w.heap.size ∧ ¬ X (w.heap.size + 1)) := ⟨fun hi => by have := HXLT.out _ hi; omega, fun hi => by have := HXLT.out _ hi; omega⟩
    go_enter Tryd.func8, Tryd.ntmps8
    go_upto_region 2 with fail
    generalize (w.alloc (.cells #[.int .i64 1, .int .i64 N, .int .i64 a0, .int .u64 a1, .int .i64 a2, .int .u64 a3, .slice adS nS capS] 34)).alloc (.cells #[.int .i64 a0, .int .u64 a1, .int .i64 a2, .int .u64 a3] 39) = w2 at *
    obtain ⟨k0, k1, k2, k3, k4, k5, k6⟩ := cells7o K7.out
    obtain ⟨q0, q1, q2, q3⟩ := cells4 K10.out
    go_wp2_with fail
    refine (HFC.out _ (HBUF.out.later HB2.out) (HF.out.later (below_tr HP.out.bel HB2.out))).mono ?_
    rintro e w3 ⟨rfl, hB3, ht3⟩
    have HB3 := Hid.mk hB3
    have HT3 := Hid.mk ht3
    have HR3 := Hid.mk ((HP.out.rl.later HB2.out).turn ht3 HNX.out)
    have K7b := Hid.mk (block_x ht3 K7.out HXB.out.1)
    have K10b := Hid.mk (block_x ht3 K10.out HXB.out.2)
    have HBW3 : Hid (Below w0.heap.size w0 w3) := (below_tr HP.out.bel HB2.out).trans (ht3.below HXLO.out (below_tr HP.out.bel HB2.out).size)
    clear hB3 ht3 HFC K7 K10
    clear k0 k1 k2 k3 k4 k5 k6 q0 q1 q2 q3
    obtain ⟨k0, k1, k2, k3, k4, k5, k6⟩ := cells7o K7b.out
    obtain ⟨q0, q1, q2, q3⟩ := cells4 K10b.out
    go_upto_region 6 with fail
    refine wp_region_noPanic ?_
    refine wp_region_held_drew (S := (fun w' => w'.cell? ⟨w.heap.size, 2, none⟩ = some (.int .i64 a0) ∧ w'.cell? ⟨w.heap.size, 3, none⟩ = some (.int .u64 a1) ∧ w'.cell? ⟨w.heap.size, 4, none⟩ = some (.int .i64 a2) ∧ w'.cell? ⟨w.heap.size, 5, none⟩ = some (.int .u64 a3) ∧ w'.cell? ⟨w.heap.size + 1, 0, none⟩ = some (.int .i64 a0) ∧ w'.cell? ⟨w.heap.size + 1, 1, none⟩ = some (.int .u64 a1) ∧ w'.cell? ⟨w.heap.size + 1, 2, none⟩ = some (.int .i64 a2) ∧ w'.cell? ⟨w.heap.size + 1, 3, none⟩ = some (.int .u64 a3))) (by kernel_rfl) ?_ (fun hHeld => ?_)
    · exact ⟨cell_later (Below.refl _ _).drew k2, cell_later (Below.refl _ _).drew k3, cell_later (Below.refl _ _).drew k4, cell_later (Below.refl _ _).drew k5, cell_later (Below.refl _ _).drew q0, cell_later (Below.refl _ _).drew q1, cell_later (Below.refl _ _).drew q2, cell_later (Below.refl _ _).drew q3⟩
    refine take_at (i := 0) (v := ?_) 34 rfl rfl (by kernel_rfl) (by kernel_rfl) (by kernel_rfl) (fun _ _ _ h => h) (Or.inl ⟨by rfl, ?_⟩) (by assumption) ?_
    rotate_left
    · (intro w' hSw; (try dsimp only at hSw); go_simp; all_goals with_reducible rfl)
    try simp only [Act.put, List.setIfInBounds_toArray, List.set_cons_zero, List.set_cons_succ]
    refine take_at (i := 1) (v := ?_) 35 rfl rfl (by kernel_rfl) (by kernel_rfl) (by kernel_rfl) (fun _ _ _ h => h) (Or.inl ⟨by rfl, ?_⟩) (by assumption) ?_
    rotate_left
    · (intro w' hSw; (try dsimp only at hSw); go_simp; all_goals with_reducible rfl)
    try simp only [Act.put, List.setIfInBounds_toArray, List.set_cons_zero, List.set_cons_succ]
    refine take_at (i := 2) (v := ?_) 36 rfl rfl (by kernel_rfl) (by kernel_rfl) (by kernel_rfl) (fun _ _ _ h => h) (Or.inl ⟨by rfl, ?_⟩) (by assumption) ?_
    rotate_left
    · (intro w' hSw; (try dsimp only at hSw); go_simp; all_goals with_reducible rfl)
    try simp only [Act.put, List.setIfInBounds_toArray, List.set_cons_zero, List.set_cons_succ]
    refine take_at (i := 4) (v := ?_) 38 rfl rfl (by kernel_rfl) (by kernel_rfl) (by kernel_rfl) (fun _ _ _ h => h) (Or.inl ⟨by rfl, ?_⟩) (by assumption) ?_
    rotate_left
    · (intro w' hSw; (try dsimp only at hSw); go_simp; all_goals with_reducible rfl)
    try simp only [Act.put, List.setIfInBounds_toArray, List.set_cons_zero, List.set_cons_succ]
    refine take_at (i := 5) (v := ?_) 39 rfl rfl (by kernel_rfl) (by kernel_rfl) (by kernel_rfl) (fun _ _ _ h => h) (Or.inl ⟨by rfl, ?_⟩) (by assumption) ?_
    rotate_left
    · (intro w' hSw; (try dsimp only at hSw); go_simp; all_goals with_reducible rfl)
    try simp only [Act.put, List.setIfInBounds_toArray, List.set_cons_zero, List.set_cons_succ]
    refine take_at (i := 6) (v := ?_) 40 rfl rfl (by kernel_rfl) (by kernel_rfl) (by kernel_rfl) (fun _ _ _ h => h) (Or.inl ⟨by rfl, ?_⟩) (by assumption) ?_
    rotate_left
    · (intro w' hSw; (try dsimp only at hSw); go_simp; all_goals with_reducible rfl)
    try simp only [Act.put, List.setIfInBounds_toArray, List.set_cons_zero, List.set_cons_succ]
    refine wpAnyH_ready (rs := [3]) (by kernel_rfl) (by simp) ?_
    refine AllReadyH.cons rfl (fun K hK => ?_) AllReadyH.nil
    go_simp
    refine (HRA.out _ (HR3.out.later (Below.refl _ _).drew)).mono ?_
    rintro e v1 ⟨ad', cap', rfl, hr', hf', hbm⟩
    go_wp2_with fail
    have hb1 := below_tr (Below.refl _ w3).drew hbm
    have HF' : Hid (Fs w3 ad ad') := hf'
    have HR' := Hid.mk hr'
    have HB1 := Hid.mk hb1
    refine hK.out _ _ ⟨cell_later hb1 k2, cell_later hb1 k3, cell_later hb1 k4, cell_later hb1 k5, cell_later hb1 q0, cell_later hb1 q1, cell_later hb1 q2, cell_later hb1 q3⟩ (fun hHeld1 => ?_)
    clear hK hHeld hbm hb1 hf' hr'
    try simp only [Act.put, List.setIfInBounds_toArray, List.set_cons_zero, List.set_cons_succ]
    refine wpAnyH_ready (rs := [7]) (by kernel_rfl) (by simp) ?_
    refine AllReadyH.cons rfl (fun K hK => ?_) AllReadyH.nil
    go_simp
    refine (HRR.out _).mono ?_
    rintro e v2 ⟨rfl, hbm⟩
    go_wp2_with fail
    have HB2' := Hid.mk (below_tr HB1.out hbm)
    have HR2' := Hid.mk (HR'.out.later hbm)
    refine hK.out _ _ ⟨cell_later HB2'.out k2, cell_later HB2'.out k3, cell_later HB2'.out k4, cell_later HB2'.out k5, cell_later HB2'.out q0, cell_later HB2'.out q1, cell_later HB2'.out q2, cell_later HB2'.out q3⟩ (fun hHeld2 => ?_)
    clear hK hHeld1 hbm
    try simp only [Act.put, List.setIfInBounds_toArray, List.set_cons_zero, List.set_cons_succ]
    refine take_at (i := 8) (v := ?_) 42 rfl rfl (by kernel_rfl) (by kernel_rfl) (by kernel_rfl) (fun _ _ _ h => h) (Or.inl ⟨by rfl, ?_⟩) (by assumption) ?_
    rotate_left
    · (intro w' hSw; (try dsimp only at hSw); go_simp; all_goals with_reducible rfl)
    try simp only [Act.put, List.setIfInBounds_toArray, List.set_cons_zero, List.set_cons_succ]
    refine take_at (i := 9) (v := ?_) 43 rfl rfl (by kernel_rfl) (by kernel_rfl) (by kernel_rfl) (fun _ _ _ h => h) (Or.inl ⟨by rfl, ?_⟩) (by assumption) ?_
    rotate_left
    · (intro w' hSw; (try dsimp only at hSw); go_simp; all_goals with_reducible rfl)
    try simp only [Act.put, List.setIfInBounds_toArray, List.set_cons_zero, List.set_cons_succ]
    refine take_at (i := 10) (v := ?_) 44 rfl rfl (by kernel_rfl) (by kernel_rfl) (by kernel_rfl) (fun _ _ _ h => h) (Or.inl ⟨by rfl, ?_⟩) (by assumption) ?_
    rotate_left
    · (intro w' hSw; (try dsimp only at hSw); go_simp; all_goals with_reducible rfl)
    try simp only [Act.put, List.setIfInBounds_toArray, List.set_cons_zero, List.set_cons_succ]
    refine take_at (i := 11) (v := ?_) 45 rfl rfl (by kernel_rfl) (by kernel_rfl) (by kernel_rfl) (fun _ _ _ h => h) (Or.inl ⟨by rfl, ?_⟩) (by assumption) ?_
    rotate_left
    · (intro w' hSw; (try dsimp only at hSw); go_simp; all_goals with_reducible rfl)
    try simp only [Act.put, List.setIfInBounds_toArray, List.set_cons_zero, List.set_cons_succ]
    refine take_at (i := 12) (v := ?_) 46 rfl rfl (by kernel_rfl) (by kernel_rfl) (by kernel_rfl) (fun _ _ _ h => h) (Or.inl ⟨by rfl, ?_⟩) (by assumption) ?_
    rotate_left
    · (intro w' hSw; (try dsimp only at hSw); go_simp; all_goals with_reducible rfl)
    try simp only [Act.put, List.setIfInBounds_toArray, List.set_cons_zero, List.set_cons_succ]
    refine take_at (i := 13) (v := ?_) 47 rfl rfl (by kernel_rfl) (by kernel_rfl) (by kernel_rfl) (fun _ _ _ h => h) (Or.inl ⟨by rfl, ?_⟩) (by assumption) ?_
    rotate_left
    · (intro w' hSw; (try dsimp only at hSw); go_simp; all_goals with_reducible rfl)
    try simp only [Act.put, List.setIfInBounds_toArray, List.set_cons_zero, List.set_cons_succ]
    refine take_at (i := 14) (v := ?_) 48 rfl rfl (by kernel_rfl) (by kernel_rfl) (by kernel_rfl) (fun _ _ _ h => h) (Or.inl ⟨by rfl, ?_⟩) (by assumption) ?_
    rotate_left
    · (intro w' hSw; (try dsimp only at hSw); go_simp; all_goals with_reducible rfl)
    try simp only [Act.put, List.setIfInBounds_toArray, List.set_cons_zero, List.set_cons_succ]
    refine take_at (i := 15) (v := ?_) 49 rfl rfl (by kernel_rfl) (by kernel_rfl) (by kernel_rfl) (fun _ _ _ h => h) (Or.inl ⟨by rfl, ?_⟩) (by assumption) ?_
    rotate_left
    · (intro w' hSw; (try dsimp only at hSw); go_simp; all_goals with_reducible rfl)
    try simp only [Act.put, List.setIfInBounds_toArray, List.set_cons_zero, List.set_cons_succ]
    refine take_at (i := 16) (v := ?_) 50 rfl rfl (by kernel_rfl) (by kernel_rfl) (by kernel_rfl) (fun _ _ _ h => h) (Or.inl ⟨by rfl, ?_⟩) (by assumption) ?_
    rotate_left
    · (intro w' hSw; (try dsimp only at hSw); go_simp; all_goals with_reducible rfl)
    try simp only [Act.put, List.setIfInBounds_toArray, List.set_cons_zero, List.set_cons_succ]
    refine take_at (i := 17) (v := ?_) 51 rfl rfl (by kernel_rfl) (by kernel_rfl) (by kernel_rfl) (fun _ _ _ h => h) (Or.inl ⟨by rfl, ?_⟩) (by assumption) ?_
    rotate_left
    · (intro w' hSw; (try dsimp only at hSw); go_simp; all_goals with_reducible rfl)
    try simp only [Act.put, List.setIfInBounds_toArray, List.set_cons_zero, List.set_cons_succ]
    refine take_at (i := 18) (v := ?_) 52 rfl rfl (by kernel_rfl) (by kernel_rfl) (by kernel_rfl) (fun _ _ _ h => h) (Or.inl ⟨by rfl, ?_⟩) (by assumption) ?_
    rotate_left
    · (intro w' hSw; (try dsimp only at hSw); go_simp; all_goals with_reducible rfl)
    try simp only [Act.put, List.setIfInBounds_toArray, List.set_cons_zero, List.set_cons_succ]
    refine take_at (i := 19) (v := ?_) 53 rfl rfl (by kernel_rfl) (by kernel_rfl) (by kernel_rfl) (fun _ _ _ h => h) (Or.inl ⟨by rfl, ?_⟩) (by assumption) ?_
    rotate_left
    · (intro w' hSw; (try dsimp only at hSw); go_simp; all_goals with_reducible rfl)
    try simp only [Act.put, List.setIfInBounds_toArray, List.set_cons_zero, List.set_cons_succ]
    refine take_at (i := 21) (v := ?_) 55 rfl rfl (by kernel_rfl) (by kernel_rfl) (by kernel_rfl) (fun _ _ _ h => h) (Or.inl ⟨by rfl, ?_⟩) (by assumption) ?_
    rotate_left
    · (intro w' hSw; (try dsimp only at hSw); go_simp; all_goals with_reducible rfl)
    try simp only [Act.put, List.setIfInBounds_toArray, List.set_cons_zero, List.set_cons_succ]
    refine take_at (i := 22) (v := ?_) 56 rfl rfl (by kernel_rfl) (by kernel_rfl) (by kernel_rfl) (fun _ _ _ h => h) (Or.inl ⟨by rfl, ?_⟩) (by assumption) ?_
    rotate_left
    · (intro w' hSw; (try dsimp only at hSw); go_simp; all_goals with_reducible rfl)
    try simp only [Act.put, List.setIfInBounds_toArray, List.set_cons_zero, List.set_cons_succ]
    refine wpAnyH_ready (rs := [20]) (by kernel_rfl) (by simp) ?_
    refine AllReadyH.cons rfl (fun K hK => ?_) AllReadyH.nil
    go_simp
    refine (HRP.out _ (HF.out.later (below_tr HBW3.out HB2'.out))).mono ?_
    rintro e v3 ⟨rfl, hbm⟩
    go_wp2_with fail
    have HB3' := Hid.mk (below_tr HB2'.out hbm)
    have HR3' := Hid.mk (HR2'.out.later hbm)
    refine hK.out _ _ ⟨cell_later HB3'.out k2, cell_later HB3'.out k3, cell_later HB3'.out k4, cell_later HB3'.out k5, cell_later HB3'.out q0, cell_later HB3'.out q1, cell_later HB3'.out q2, cell_later HB3'.out q3⟩ (fun hHeld3 => ?_)
    clear hK hHeld2 hbm
    try simp only [Act.put, List.setIfInBounds_toArray, List.set_cons_zero, List.set_cons_succ]
    refine take_at (i := 23) (v := ?_) 57 rfl rfl (by kernel_rfl) (by kernel_rfl) (by kernel_rfl) (fun _ _ _ h => h) (Or.inl ⟨by rfl, ?_⟩) (by assumption) ?_
    rotate_left
    · (intro w' hSw; (try dsimp only at hSw); go_simp; all_goals with_reducible rfl)
    try simp only [Act.put, List.setIfInBounds_toArray, List.set_cons_zero, List.set_cons_succ]
    refine take_at (i := 24) (v := ?_) 58 rfl rfl (by kernel_rfl) (by kernel_rfl) (by kernel_rfl) (fun _ _ _ h => h) (Or.inl ⟨by rfl, ?_⟩) (by assumption) ?_
    rotate_left
    · (intro w' hSw; (try dsimp only at hSw); go_simp; all_goals with_reducible rfl)
    try simp only [Act.put, List.setIfInBounds_toArray, List.set_cons_zero, List.set_cons_succ]
    refine take_at (i := 25) (v := ?_) 8 rfl rfl (by kernel_rfl) (by kernel_rfl) (by kernel_rfl) (fun _ _ _ h => h) (Or.inl ⟨by rfl, ?_⟩) (by assumption) ?_
    rotate_left
    · (intro w' hSw; (try dsimp only at hSw); go_simp; all_goals with_reducible rfl)
    try simp only [Act.put, List.setIfInBounds_toArray, List.set_cons_zero, List.set_cons_succ]
    refine take_at (i := 26) (v := ?_) 9 rfl rfl (by kernel_rfl) (by kernel_rfl) (by kernel_rfl) (fun _ _ _ h => h) (Or.inl ⟨by rfl, ?_⟩) (by assumption) ?_
    rotate_left
    · (intro w' hSw; (try dsimp only at hSw); go_simp; all_goals with_reducible rfl)
    try simp only [Act.put, List.setIfInBounds_toArray, List.set_cons_zero, List.set_cons_succ]
    refine wpAnyH_done (by kernel_rfl) ?_ _
    refine NoPanic.normal ?_
    have HPN := Hid.mk (HP.out.made HXLO.out HNX.out HB2.out HT3.out HB3.out HB3'.out HR3'.out HF'.out HKT.out HKL.out)
    clear hHeld3
    go_wp2
    go_ret2
    exact ⟨_, _, _, rfl, HPN.out⟩
  · rw [hrt] at HRR HRP hFN
    rw [if_pos rfl] at hFN
    subst hFN
    clear hrt
    obtain ⟨a0, a1, a2, a3⟩ := e
    simp only [En.v] at *
    have K7 := Hid.mk (heap_alloc2_old w (.cells #[.int .i64 1, .int .i64 N, .int .i64 a0, .int .u64 a1, .int .i64 a2, .int .u64 a3, .slice adS nS capS] 34) (.cells #[.int .i64 a0, .int .u64 a1, .int .i64 a2, .int .u64 a3] 39))
    have K10 := Hid.mk (heap_alloc2_new w (.cells #[.int .i64 1, .int .i64 N, .int .i64 a0, .int .u64 a1, .int .i64 a2, .int .u64 a3, .slice adS nS capS] 34) (.cells #[.int .i64 a0, .int .u64 a1, .int .i64 a2, .int .u64 a3] 39))
    have HB2 := Hid.mk (below_tr (below_new w (.cells #[.int .i64 1, .int .i64 N, .int .i64 a0, .int .u64 a1, .int .i64 a2, .int .u64 a3, .slice adS nS capS] 34)) (below_new (w.alloc (.cells #[.int .i64 1, .int .i64 N, .int .i64 a0, .int .u64 a1, .int .i64 a2, .int .u64 a3, .slice adS nS capS] 34)) (.cells #[.int .i64 a0, .int .u64 a1, .int .i64 a2, .int .u64 a3] 39)))
    have HXB : Hid (¬ X w.heap.size ∧ ¬ X (w.heap.size + 1)) := ⟨fun hi => by have := HXLT.out _ hi; omega, fun hi => by have := HXLT.out _ hi; omega⟩
    go_enter Tryd.func8, Tryd.ntmps8
    go_upto_region 2 with fail
    generalize (w.alloc (.cells #[.int .i64 1, .int .i64 N, .int .i64 a0, .int .u64 a1, .int .i64 a2, .int .u64 a3, .slice adS nS capS] 34)).alloc (.cells #[.int .i64 a0, .int .u64 a1, .int .i64 a2, .int .u64 a3] 39) = w2 at *
    obtain ⟨k0, k1, k2, k3, k4, k5, k6⟩ := cells7o K7.out
    obtain ⟨q0, q1, q2, q3⟩ := cells4 K10.out
    go_wp2_with fail
    refine (HFC.out _ (HBUF.out.later HB2.out) (HF.out.later (below_tr HP.out.bel HB2.out))).mono ?_
    rintro e w3 ⟨rfl, hB3, ht3⟩
    have HB3 := Hid.mk hB3
    have HT3 := Hid.mk ht3
    have HR3 := Hid.mk ((HP.out.rl.later HB2.out).turn ht3 HNX.out)
    have K7b := Hid.mk (block_x ht3 K7.out HXB.out.1)
    have K10b := Hid.mk (block_x ht3 K10.out HXB.out.2)
    have HBW3 : Hid (Below w0.heap.size w0 w3) := (below_tr HP.out.bel HB2.out).trans (ht3.below HXLO.out (below_tr HP.out.bel HB2.out).size)
    clear hB3 ht3 HFC K7 K10
    clear k0 k1 k2 k3 k4 k5 k6 q0 q1 q2 q3
    obtain ⟨k0, k1, k2, k3, k4, k5, k6⟩ := cells7o K7b.out
    obtain ⟨q0, q1, q2, q3⟩ := cells4 K10b.out
    go_upto_region 6 with fail
    refine wp_region_noPanic ?_
    refine wp_region_held_drew (S := (fun w' => w'.cell? ⟨w.heap.size, 2, none⟩ = some (.int .i64 a0) ∧ w'.cell? ⟨w.heap.size, 3, none⟩ = some (.int .u64 a1) ∧ w'.cell? ⟨w.heap.size, 4, none⟩ = some (.int .i64 a2) ∧ w'.cell? ⟨w.heap.size, 5, none⟩ = some (.int .u64 a3) ∧ w'.cell? ⟨w.heap.size + 1, 0, none⟩ = some (.int .i64 a0) ∧ w'.cell? ⟨w.heap.size + 1, 1, none⟩ = some (.int .u64 a1) ∧ w'.cell? ⟨w.heap.size + 1, 2, none⟩ = some (.int .i64 a2) ∧ w'.cell? ⟨w.heap.size + 1, 3, none⟩ = some (.int .u64 a3))) (by kernel_rfl) ?_ (fun hHeld => ?_)
    · exact ⟨cell_later (Below.refl _ _).drew k2, cell_later (Below.refl _ _).drew k3, cell_later (Below.refl _ _).drew k4, cell_later (Below.refl _ _).drew k5, cell_later (Below.refl _ _).drew q0, cell_later (Below.refl _ _).drew q1, cell_later (Below.refl _ _).drew q2, cell_later (Below.refl _ _).drew q3⟩
    refine take_at (i := 0) (v := ?_) 34 rfl rfl (by kernel_rfl) (by kernel_rfl) (by kernel_rfl) (fun _ _ _ h => h) (Or.inl ⟨by rfl, ?_⟩) (by assumption) ?_
    rotate_left
    · (intro w' hSw; (try dsimp only at hSw); go_simp; all_goals with_reducible rfl)
    try simp only [Act.put, List.setIfInBounds_toArray, List.set_cons_zero, List.set_cons_succ]
    refine take_at (i := 1) (v := ?_) 35 rfl rfl (by kernel_rfl) (by kernel_rfl) (by kernel_rfl) (fun _ _ _ h => h) (Or.inl ⟨by rfl, ?_⟩) (by assumption) ?_
    rotate_left
    · (intro w' hSw; (try dsimp only at hSw); go_simp; all_goals with_reducible rfl)
    try simp only [Act.put, List.setIfInBounds_toArray, List.set_cons_zero, List.set_cons_succ]
    refine take_at (i := 2) (v := ?_) 36 rfl rfl (by kernel_rfl) (by kernel_rfl) (by kernel_rfl) (fun _ _ _ h => h) (Or.inl ⟨by rfl, ?_⟩) (by assumption) ?_
    rotate_left
    · (intro w' hSw; (try dsimp only at hSw); go_simp; all_goals with_reducible rfl)
    try simp only [Act.put, List.setIfInBounds_toArray, List.set_cons_zero, List.set_cons_succ]
    refine take_at (i := 4) (v := ?_) 38 rfl rfl (by kernel_rfl) (by kernel_rfl) (by kernel_rfl) (fun _ _ _ h => h) (Or.inl ⟨by rfl, ?_⟩) (by assumption) ?_
    rotate_left
    · (intro w' hSw; (try dsimp only at hSw); go_simp; all_goals with_reducible rfl)
    try simp only [Act.put, List.setIfInBounds_toArray, List.set_cons_zero, List.set_cons_succ]
    refine take_at (i := 5) (v := ?_) 39 rfl rfl (by kernel_rfl) (by kernel_rfl) (by kernel_rfl) (fun _ _ _ h => h) (Or.inl ⟨by rfl, ?_⟩) (by assumption) ?_
    rotate_left
    · (intro w' hSw; (try dsimp only at hSw); go_simp; all_goals with_reducible rfl)
    try simp only [Act.put, List.setIfInBounds_toArray, List.set_cons_zero, List.set_cons_succ]
    refine take_at (i := 6) (v := ?_) 40 rfl rfl (by kernel_rfl) (by kernel_rfl) (by kernel_rfl) (fun _ _ _ h => h) (Or.inl ⟨by rfl, ?_⟩) (by assumption) ?_
    rotate_left
    · (intro w' hSw; (try dsimp only at hSw); go_simp; all_goals with_reducible rfl)
    try simp only [Act.put, List.setIfInBounds_toArray, List.set_cons_zero, List.set_cons_succ]
    refine wpAnyH_ready (rs := [3]) (by kernel_rfl) (by simp) ?_
    refine AllReadyH.cons rfl (fun K hK => ?_) AllReadyH.nil
    go_simp
    refine (HRA.out _ (HR3.out.later (Below.refl _ _).drew)).mono ?_
    rintro e v1 ⟨ad', cap', rfl, hr', hf', hbm⟩
    go_wp2_with fail
    have hb1 := below_tr (Below.refl _ w3).drew hbm
    have HF' : Hid (Fs w3 ad ad') := hf'
    have HR' := Hid.mk hr'
    have HB1 := Hid.mk hb1
    refine hK.out _ _ ⟨cell_later hb1 k2, cell_later hb1 k3, cell_later hb1 k4, cell_later hb1 k5, cell_later hb1 q0, cell_later hb1 q1, cell_later hb1 q2, cell_later hb1 q3⟩ (fun hHeld1 => ?_)
    clear hK hHeld hbm hb1 hf' hr'
    try simp only [Act.put, List.setIfInBounds_toArray, List.set_cons_zero, List.set_cons_succ]
    refine wpAnyH_ready (rs := [7]) (by kernel_rfl) (by simp) ?_
    refine AllReadyH.cons rfl (fun K hK => ?_) AllReadyH.nil
    go_simp
    refine (HRR.out _).mono ?_
    rintro e v2 ⟨rfl, hbm⟩
    go_wp2_with fail
    have HB2' := Hid.mk (below_tr HB1.out hbm)
    have HR2' := Hid.mk (HR'.out.later hbm)
    refine hK.out _ _ ⟨cell_later HB2'.out k2, cell_later HB2'.out k3, cell_later HB2'.out k4, cell_later HB2'.out k5, cell_later HB2'.out q0, cell_later HB2'.out q1, cell_later HB2'.out q2, cell_later HB2'.out q3⟩ (fun hHeld2 => ?_)
    clear hK hHeld1 hbm
    try simp only [Act.put, List.setIfInBounds_toArray, List.set_cons_zero, List.set_cons_succ]
    refine take_at (i := 8) (v := ?_) 42 rfl rfl (by kernel_rfl) (by kernel_rfl) (by kernel_rfl) (fun _ _ _ h => h) (Or.inl ⟨by rfl, ?_⟩) (by assumption) ?_
    rotate_left
    · (intro w' hSw; (try dsimp only at hSw); go_simp; all_goals with_reducible rfl)
    try simp only [Act.put, List.setIfInBounds_toArray, List.set_cons_zero, List.set_cons_succ]
    refine take_at (i := 9) (v := ?_) 43 rfl rfl (by kernel_rfl) (by kernel_rfl) (by kernel_rfl) (fun _ _ _ h => h) (Or.inl ⟨by rfl, ?_⟩) (by assumption) ?_
    rotate_left
    · (intro w' hSw; (try dsimp only at hSw); go_simp; all_goals with_reducible rfl)
    try simp only [Act.put, List.setIfInBounds_toArray, List.set_cons_zero, List.set_cons_succ]
    refine take_at (i := 10) (v := ?_) 44 rfl rfl (by kernel_rfl) (by kernel_rfl) (by kernel_rfl) (fun _ _ _ h => h) (Or.inl ⟨by rfl, ?_⟩) (by assumption) ?_
    rotate_left
    · (intro w' hSw; (try dsimp only at hSw); go_simp; all_goals with_reducible rfl)
    try simp only [Act.put, List.setIfInBounds_toArray, List.set_cons_zero, List.set_cons_succ]
    refine take_at (i := 11) (v := ?_) 45 rfl rfl (by kernel_rfl) (by kernel_rfl) (by kernel_rfl) (fun _ _ _ h => h) (Or.inl ⟨by rfl, ?_⟩) (by assumption) ?_
    rotate_left
    · (intro w' hSw; (try dsimp only at hSw); go_simp; all_goals with_reducible rfl)
    try simp only [Act.put, List.setIfInBounds_toArray, List.set_cons_zero, List.set_cons_succ]
    refine take_at (i := 12) (v := ?_) 46 rfl rfl (by kernel_rfl) (by kernel_rfl) (by kernel_rfl) (fun _ _ _ h => h) (Or.inl ⟨by rfl, ?_⟩) (by assumption) ?_
    rotate_left
    · (intro w' hSw; (try dsimp only at hSw); go_simp; all_goals with_reducible rfl)
    try simp only [Act.put, List.setIfInBounds_toArray, List.set_cons_zero, List.set_cons_succ]
    refine take_at (i := 13) (v := undef) 47 rfl rfl (by kernel_rfl) (by kernel_rfl) (by kernel_rfl) (fun _ _ _ h => h) (Or.inr ⟨by rfl, rfl⟩) (by assumption) ?_
    try simp only [Act.put, List.setIfInBounds_toArray, List.set_cons_zero, List.set_cons_succ]
    refine take_at (i := 14) (v := undef) 48 rfl rfl (by kernel_rfl) (by kernel_rfl) (by kernel_rfl) (fun _ _ _ h => h) (Or.inr ⟨by rfl, rfl⟩) (by assumption) ?_
    try simp only [Act.put, List.setIfInBounds_toArray, List.set_cons_zero, List.set_cons_succ]
    refine take_at (i := 15) (v := ?_) 49 rfl rfl (by kernel_rfl) (by kernel_rfl) (by kernel_rfl) (fun _ _ _ h => h) (Or.inl ⟨by rfl, ?_⟩) (by assumption) ?_
    rotate_left
    · (intro w' hSw; (try dsimp only at hSw); go_simp; all_goals with_reducible rfl)
    try simp only [Act.put, List.setIfInBounds_toArray, List.set_cons_zero, List.set_cons_succ]
    refine take_at (i := 16) (v := ?_) 50 rfl rfl (by kernel_rfl) (by kernel_rfl) (by kernel_rfl) (fun _ _ _ h => h) (Or.inl ⟨by rfl, ?_⟩) (by assumption) ?_
    rotate_left
    · (intro w' hSw; (try dsimp only at hSw); go_simp; all_goals with_reducible rfl)
    try simp only [Act.put, List.setIfInBounds_toArray, List.set_cons_zero, List.set_cons_succ]
    refine take_at (i := 17) (v := ?_) 51 rfl rfl (by kernel_rfl) (by kernel_rfl) (by kernel_rfl) (fun _ _ _ h => h) (Or.inl ⟨by rfl, ?_⟩) (by assumption) ?_
    rotate_left
    · (intro w' hSw; (try dsimp only at hSw); go_simp; all_goals with_reducible rfl)
    try simp only [Act.put, List.setIfInBounds_toArray, List.set_cons_zero, List.set_cons_succ]
    refine take_at (i := 18) (v := ?_) 52 rfl rfl (by kernel_rfl) (by kernel_rfl) (by kernel_rfl) (fun _ _ _ h => h) (Or.inl ⟨by rfl, ?_⟩) (by assumption) ?_
    rotate_left
    · (intro w' hSw; (try dsimp only at hSw); go_simp; all_goals with_reducible rfl)
    try simp only [Act.put, List.setIfInBounds_toArray, List.set_cons_zero, List.set_cons_succ]
    refine take_at (i := 19) (v := ?_) 53 rfl rfl (by kernel_rfl) (by kernel_rfl) (by kernel_rfl) (fun _ _ _ h => h) (Or.inl ⟨by rfl, ?_⟩) (by assumption) ?_
    rotate_left
    · (intro w' hSw; (try dsimp only at hSw); go_simp; all_goals with_reducible rfl)
    try simp only [Act.put, List.setIfInBounds_toArray, List.set_cons_zero, List.set_cons_succ]
    refine take_at (i := 21) (v := ?_) 55 rfl rfl (by kernel_rfl) (by kernel_rfl) (by kernel_rfl) (fun _ _ _ h => h) (Or.inl ⟨by rfl, ?_⟩) (by assumption) ?_
    rotate_left
    · (intro w' hSw; (try dsimp only at hSw); go_simp; all_goals with_reducible rfl)
    try simp only [Act.put, List.setIfInBounds_toArray, List.set_cons_zero, List.set_cons_succ]
    refine take_at (i := 22) (v := ?_) 56 rfl rfl (by kernel_rfl) (by kernel_rfl) (by kernel_rfl) (fun _ _ _ h => h) (Or.inl ⟨by rfl, ?_⟩) (by assumption) ?_
    rotate_left
    · (intro w' hSw; (try dsimp only at hSw); go_simp; all_goals with_reducible rfl)
    try simp only [Act.put, List.setIfInBounds_toArray, List.set_cons_zero, List.set_cons_succ]
    refine wpAnyH_ready (rs := [20]) (by kernel_rfl) (by simp) ?_
    refine AllReadyH.cons rfl (fun K hK => ?_) AllReadyH.nil
    go_simp
    refine (HRP.out _ (HF.out.later (below_tr HBW3.out HB2'.out))).mono ?_
    rintro e v3 ⟨rfl, hbm⟩
    go_wp2_with fail
    have HB3' := Hid.mk (below_tr HB2'.out hbm)
    have HR3' := Hid.mk (HR2'.out.later hbm)
    refine hK.out _ _ ⟨cell_later HB3'.out k2, cell_later HB3'.out k3, cell_later HB3'.out k4, cell_later HB3'.out k5, cell_later HB3'.out q0, cell_later HB3'.out q1, cell_later HB3'.out q2, cell_later HB3'.out q3⟩ (fun hHeld3 => ?_)
    clear hK hHeld2 hbm
    try simp only [Act.put, List.setIfInBounds_toArray, List.set_cons_zero, List.set_cons_succ]
    refine take_at (i := 23) (v := ?_) 57 rfl rfl (by kernel_rfl) (by kernel_rfl) (by kernel_rfl) (fun _ _ _ h => h) (Or.inl ⟨by rfl, ?_⟩) (by assumption) ?_
    rotate_left
    · (intro w' hSw; (try dsimp only at hSw); go_simp; all_goals with_reducible rfl)
    try simp only [Act.put, List.setIfInBounds_toArray, List.set_cons_zero, List.set_cons_succ]
    refine take_at (i := 24) (v := ?_) 58 rfl rfl (by kernel_rfl) (by kernel_rfl) (by kernel_rfl) (fun _ _ _ h => h) (Or.inl ⟨by rfl, ?_⟩) (by assumption) ?_
    rotate_left
    · (intro w' hSw; (try dsimp only at hSw); go_simp; all_goals with_reducible rfl)
    try simp only [Act.put, List.setIfInBounds_toArray, List.set_cons_zero, List.set_cons_succ]
    refine take_at (i := 25) (v := ?_) 8 rfl rfl (by kernel_rfl) (by kernel_rfl) (by kernel_rfl) (fun _ _ _ h => h) (Or.inl ⟨by rfl, ?_⟩) (by assumption) ?_
    rotate_left
    · (intro w' hSw; (try dsimp only at hSw); go_simp; all_goals with_reducible rfl)
    try simp only [Act.put, List.setIfInBounds_toArray, List.set_cons_zero, List.set_cons_succ]
    refine take_at (i := 26) (v := ?_) 9 rfl rfl (by kernel_rfl) (by kernel_rfl) (by kernel_rfl) (fun _ _ _ h => h) (Or.inl ⟨by rfl, ?_⟩) (by assumption) ?_
    rotate_left
    · (intro w' hSw; (try dsimp only at hSw); go_simp; all_goals with_reducible rfl)
    try simp only [Act.put, List.setIfInBounds_toArray, List.set_cons_zero, List.set_cons_succ]
    refine wpAnyH_done (by kernel_rfl) ?_ _
    refine NoPanic.normal ?_
    have HPN := Hid.mk (HP.out.made HXLO.out HNX.out HB2.out HT3.out HB3.out HB3'.out HR3'.out HF'.out HKT.out HKL.out)
    clear hHeld3
    go_wp2
    go_ret2
    exact ⟨_, _, _, rfl, HPN.out⟩

end Go.Proofs.YtdpcbdbdacjcbaaDoor.TR

/- A step of a play: Best. Made by mktry.py. -/
namespace Go.Proofs.YtdpcbdbdacjcbaaDoor.TR
open Go.RowKit Go.Maps

set_option maxHeartbeats 2000000 in
set_option maxRecDepth 1000000 in
theorem step_2 {w0 w : World} {t : Nat} {most : Int} {l : List En} {ad : Option Addr} {cap : Nat} (h : PInv w0 w t most l ad cap) (hm : 1 ≤ most) (hm2 : most ≤ 64) (hF : Flds w0) (e : En) (he : e.ok) (N : Int) (adS : Option Addr) (nS capS : Nat) :
    Calls Tryd.prog 8 #[.pointer (some ⟨t, 0, none⟩), .int .i64 most, .slice ad l.length cap, .agg #[.int .i64 2, .int .i64 N, .int .i64 e.aid, .int .u64 e.va, .int .i64 e.lv, .int .u64 e.tb, .slice adS nS capS]] w fun r w' => ∃ l' ad' cap', r = .returned (.tuple #[.slice ad' l'.length cap', .bool true]) ∧ PInv w0 w' t most l' ad' cap' := by
  have HP := Hid.mk h
  have HF := Hid.mk hF
  obtain ⟨X, hBuf, hXlo, hnX⟩ := h.ex
  have hXlt := buf_lt hBuf
  have HBUF := Hid.mk hBuf
  have HXLO := Hid.mk hXlo
  have HNX := Hid.mk hnX
  have HXLT := Hid.mk hXlt
  have hlnI : (l.length : Int) ≤ 64 := by have := h.ln; omega
  have HLN : Hid (l.length ≤ 64) := by show _ ≤ _; omega
  have HMO := Hid.mk (And.intro hm hm2)
  have HLV : Hid (∀ x ∈ l, 1 ≤ x.lv ∧ x.lv ≤ 3) := fun x hx => (right_facts (h.rt x hx)).1
  have HBS : Hid (∀ W, Buf W X t most l → Calls Tryd.prog 14 #[.pointer (some ⟨t, 0, none⟩), .int .i64 e.aid, .int .u64 e.va] W fun r w' => r = .returned (.tuple #[(bstE (fun y => mB y e.aid e.va) l).v, .bool (decide (1 ≤ (bstE (fun y => mB y e.aid e.va) l).lv))]) ∧ Below W.heap.size W w') := fun W h1 => best_c h1 (by have := HLN.out; omega) e.aid e.va he.1
  have HRB : Hid (∀ W, RdA W ad l → Calls Tryd.prog 22 #[.slice ad l.length cap, .int .i64 e.aid, .int .u64 e.va] W fun r w' => r = .returned (bstE (fun y => mB y e.aid e.va) l).v ∧ Below W.heap.size W w') := fun W h1 => rbest_c l ad cap h1 HLV.out (by have := HLN.out; omega) e.aid e.va he.1
  generalize bstE (fun y => mB y e.aid e.va) l = BE at *
  have heq := fun W => eqR BE BE W
  rw [eqB_true rfl] at heq
  clear h hF hBuf hXlo hnX hXlt hm hm2 he HLV
  obtain ⟨z0, z1, z2, z3⟩ := BE
  obtain ⟨dd, hdd, hd1, hd2⟩ : ∃ dd : Bool, decide (1 ≤ z2) = dd ∧ decide ((0 : Int) < z2) = dd ∧ (dd == dd) = true := by
    by_cases hz : 1 ≤ z2
    · exact ⟨true, decide_eq_true hz, decide_eq_true (by omega), rfl⟩
    · exact ⟨false, decide_eq_false hz, decide_eq_false (by omega), rfl⟩
  simp only at HBS
  rw [hdd] at HBS
  clear hdd
  obtain ⟨a0, a1, a2, a3⟩ := e
  simp only [En.v] at *
  have K7 := Hid.mk (heap_alloc2_old w (.cells #[.int .i64 2, .int .i64 N, .int .i64 a0, .int .u64 a1, .int .i64 a2, .int .u64 a3, .slice adS nS capS] 34) (.cells #[.int .i64 a0, .int .u64 a1, .int .i64 a2, .int .u64 a3] 39))
  have K10 := Hid.mk (heap_alloc2_new w (.cells #[.int .i64 2, .int .i64 N, .int .i64 a0, .int .u64 a1, .int .i64 a2, .int .u64 a3, .slice adS nS capS] 34) (.cells #[.int .i64 a0, .int .u64 a1, .int .i64 a2, .int .u64 a3] 39))
  have HB2 := Hid.mk (below_tr (below_new w (.cells #[.int .i64 2, .int .i64 N, .int .i64 a0, .int .u64 a1, .int .i64 a2, .int .u64 a3, .slice adS nS capS] 34)) (below_new (w.alloc (.cells #[.int .i64 2, .int .i64 N, .int .i64 a0, .int .u64 a1, .int .i64 a2, .int .u64 a3, .slice adS nS capS] 34)) (.cells #[.int .i64 a0, .int .u64 a1, .int .i64 a2, .int .u64 a3] 39)))
  have HXB : Hid (¬ X w.heap.size ∧ ¬ X (w.heap.size + 1)) := ⟨fun hi => by have := HXLT.out _ hi; omega, fun hi => by have := HXLT.out _ hi; omega⟩
  go_enter Tryd.func8, Tryd.ntmps8
  go_upto_region 2 with fail
  generalize (w.alloc (.cells #[.int .i64 2, .int .i64 N, .int .i64 a0, .int .u64 a1, .int .i64 a2, .int .u64 a3, .slice adS nS capS] 34)).alloc (.cells #[.int .i64 a0, .int .u64 a1, .int .i64 a2, .int .u64 a3] 39) = w2 at *
  obtain ⟨k0, k1, k2, k3, k4, k5, k6⟩ := cells7o K7.out
  obtain ⟨q0, q1, q2, q3⟩ := cells4 K10.out
  go_wp2_with fail
  refine (HBS.out _ (HBUF.out.later HB2.out)).mono ?_
  rintro e w3 ⟨rfl, hb3⟩
  have hb4 := below_tr hb3 (below_new w3 (.cells #[.int .i64 z0, .int .u64 z1, .int .i64 z2, .int .u64 z3] 31))
  have K13 := Hid.mk (heap_alloc_new w3 (.cells #[.int .i64 z0, .int .u64 z1, .int .i64 z2, .int .u64 z3] 31))
  have HB4 := Hid.mk (below_tr HB2.out hb4)
  have K10b := Hid.mk (block_later hb4 K10.out)
  clear hb3 hb4 k0 k1 k2 k3 k4 k5 k6 q0 q1 q2 q3 K7 K10 HBS
  obtain ⟨q0, q1, q2, q3⟩ := cells4 K10b.out
  go_upto_region 9 with fail
  generalize w3.alloc (.cells #[.int .i64 z0, .int .u64 z1, .int .i64 z2, .int .u64 z3] 31) = w4 at *
  generalize w3.heap.size = B13 at *
  go_wp2_with fail
  refine (HRB.out _ (HP.out.rl.later HB4.out).rd).mono ?_
  rintro e w5 ⟨rfl, hb5⟩
  have hb6 := below_tr hb5 (below_new w5 (.cells #[.int .i64 z0, .int .u64 z1, .int .i64 z2, .int .u64 z3] 39))
  have K15 := heap_alloc_new w5 (.cells #[.int .i64 z0, .int .u64 z1, .int .i64 z2, .int .u64 z3] 39)
  have HB6 := Hid.mk (below_tr HB4.out hb6)
  have K13b := block_later hb6 K13.out
  clear hb5 hb6 q0 q1 q2 q3 K13 K10b HRB
  go_upto_region 10 with fail
  generalize w5.alloc (.cells #[.int .i64 z0, .int .u64 z1, .int .i64 z2, .int .u64 z3] 39) = w6 at *
  generalize w5.heap.size = B15 at *
  obtain ⟨q0, q1, q2, q3⟩ := cells4 K13b
  obtain ⟨f0, f1, f2, f3⟩ := cells4 K15
  clear K13b K15
  go_quiet (fail)
  go_wp2
  go_ret2
  exact ⟨_, _, _, rfl, (HP.out.later HB6.out).later (below_dN (Below.refl _ _) _)⟩

end Go.Proofs.YtdpcbdbdacjcbaaDoor.TR

/- A step of a play: Walked. Made by mktry.py. -/
namespace Go.Proofs.YtdpcbdbdacjcbaaDoor.TR
open Go.RowKit Go.Maps

/-- The cells of n steps. -/
def scs (A V : Nat → Nat) : Nat → List Value
  | 0 => []
  | n + 1 => scs A V n ++ [.int .u64 (A n : Nat), .int .u64 (V n : Nat)]
theorem scs_len (A V : Nat → Nat) : ∀ n, (scs A V n).length = n * 2
  | 0 => rfl
  | n + 1 => by unfold scs; rw [List.length_append, scs_len A V n]; simp; omega
theorem scs_get (A V : Nat → Nat) : ∀ n i, i < n → (scs A V n)[i * 2]? = some (.int .u64 (A i : Nat)) ∧ (scs A V n)[i * 2 + 1]? = some (.int .u64 (V i : Nat))
  | 0, i, h => absurd h (Nat.not_lt_zero _)
  | n + 1, i, h => by
    unfold scs
    by_cases hi : i < n
    · rw [List.getElem?_append_left (by rw [scs_len]; omega), List.getElem?_append_left (by rw [scs_len]; omega)]
      exact scs_get A V n i hi
    · obtain rfl : i = n := by omega
      rw [List.getElem?_append_right (by rw [scs_len]; omega), List.getElem?_append_right (by rw [scs_len]; omega), scs_len]
      simp
abbrev TRS : TypeId := 71
theorem info_rs : (Tryd.prog.info? 71).map (fun i => (i.zero, i.size, i.bytes)) = some (some (.agg #[.int .u64 0, .int .u64 0]), 2, 16) := by kernel_rfl
theorem wpList_appS (w : World) {ops : Array Oper} {rest : List Oper} {o : Oper} {a : Act} {Q : Exit → Act → World → Prop} (hg : o.guard = none) (s x : Operand) (hop : o.op = .call { callee := .builtin .append, args := #[s, x], argTypes := #[70, 70] })
    (base : Nat) (v : Value) (A V : Nat → Nat) (n : Nat) (hs : a.eval s = v) (hown : w.ownsRow base 71 2 v n (scs A V n)) (bb : Nat) (hx : a.eval x = .slice (some ⟨bb, 0, none⟩) 1 1) (hc : w.heap[bb]? = some (.cells #[.int .u64 (A n : Nat), .int .u64 (V n : Nat)] 71)) (hlen : n < 100000) (hbase : base ≤ w.heap.size)
    (h : ∀ g cap w', w'.ownsRow base 71 2 (.slice (some ⟨g, 0, none⟩) (n + 1) cap) (n + 1) (scs A V (n + 1)) → w.grownBy w' v.ownBlock → wpList Tryd.prog ops Q rest (a.put o.dst (.slice (some ⟨g, 0, none⟩) (n + 1) cap)) w') :
    wpList Tryd.prog ops Q (o :: rest) a w := by
  obtain ⟨i0, hi, hz0, hz1, hz2⟩ := infoP info_rs
  refine wpList_append_lies w hg s x 70 hop base 71 i0 _ 2 16 Tryd.underlying70 hi hz0 hz1 hz2 rfl (by decide) v n (scs A V n) hs hown ⟨bb, 0, none⟩ 1 1 [.int .u64 (A n : Nat), .int .u64 (V n : Nat)] hx rfl (World.news_of_block (cs := #[.int .u64 (A n : Nat), .int .u64 (V n : Nat)]) (t := 71) (fr := (0, 0)) hc) (by simp [Value.oneCell']) (by decide) (by unfold maxLen; omega) (by omega) hbase _ rfl ?_
  intro g cap w' hown' hgrow _ _
  exact h g cap w' hown' hgrow
theorem own_steps {w : World} {base : Nat} {T : TypeId} {v : Value} {A V : Nat → Nat} {n : Nat} (h : w.ownsRow base T 2 v n (scs A V n)) (ha : ∀ i, A i < 18446744073709551616) (hv : ∀ i, V i < 18446744073709551616) : ∃ ad cap, v = .slice ad n cap ∧ StepsAt w ad n A V ∧ ∀ a, ad = some a → base ≤ a.block := by
  have hl := h.lt
  rcases h.2 with ⟨rfl, h0⟩ | ⟨g, cap, cur, rfl, hb, hg, hr⟩
  · exact ⟨none, 0, by rw [h0], ⟨fun i hi => by omega, ha, hv⟩, fun a ha => by cases ha⟩
  · refine ⟨some ⟨g, 0, none⟩, cap, rfl, ⟨fun i hi => ⟨g, 0, rfl, (hl g rfl).2, ?_, ?_⟩, ha, hv⟩, fun a ha => by cases ha; exact hb⟩
    · have := h.cells rfl (i * 2) _ (scs_get A V n i hi).1
      rwa [Addr.add_lit] at this
    · have := h.cells rfl (i * 2 + 1) _ (scs_get A V n i hi).2
      rw [Addr.add_lit] at this
      rwa [show 0 + i * 2 + 1 = 0 + (i * 2 + 1) by omega]

set_option maxHeartbeats 1000000 in
theorem walked_0 (t : Nat) (i0 : Int) (x : Nat) (lv : Int) (ad : Option Addr) (cap : Nat) (w : World) :
    Calls Tryd.prog 11 #[.pointer (some ⟨t, 0, none⟩), .int .i64 i0, .int .u64 x, .int .i64 lv, .slice ad 0 cap] w fun r w' => r = .returned (.int .i64 0) ∧ w = w' := by
  go_enter Tryd.func11, Tryd.ntmps11
  go_wp2
  go_loopw [11, 12, 13, 14, 17] (fun _ _ _ _ s17 wr => s17 = .int .i64 0 ∧ w = wr) (fun _ _ _ _ _ _ => 0)
  case atStart => exact ⟨rfl, rfl⟩
  case round =>
    obtain ⟨rfl, rfl⟩ := hrel
    go_wp2
    go_ret
    exact ⟨rfl, rfl⟩
/-- Walked, of no steps too. -/
theorem walked_a {w : World} {X : Nat → Prop} {t : Nat} {most : Int} {l : List En} (h : Buf w X t most l) (hl : l.length ≤ 900) (i0 : Int) (x : Nat) (hx : x < 18446744073709551616) (lv : Int) (hv1 : -9223372036854775808 ≤ lv) (hv2 : lv ≤ 9223372036854775807)
    (ad : Option Addr) (n cap : Nat) (A V : Nat → Nat) (hn : n ≤ 50) (hs : StepsAt w ad n A V) (hd : 0 < n → notIn X ad) (hF : ∀ W, Turn X w W → Flds W) :
    Calls Tryd.prog 11 #[.pointer (some ⟨t, 0, none⟩), .int .i64 i0, .int .u64 x, .int .i64 lv, .slice ad n cap] w fun r w' => ∃ k : Nat, k ≤ n ∧ (∀ j : Nat, j < k → isT (lv + j) (V j) = true) ∧ (k < n → isT (lv + k) (V k) = false) ∧ r = .returned (.int .i64 (k : Nat)) ∧ Buf w' (Xp X w w') t most (wdL most i0 x lv V l k) ∧ Turn X w w' := by
  rcases Nat.eq_zero_or_pos n with h0 | h0
  · subst h0
    refine (walked_0 t i0 x lv ad cap w).mono ?_
    rintro r w' ⟨rfl, rfl⟩
    exact ⟨0, Nat.le_refl _, (fun j hj => absurd hj (Nat.not_lt_zero _)), (fun hj => absurd hj (Nat.not_lt_zero _)), rfl, Buf.xp h (Nat.le_refl _) h, Turn.refl _ _⟩
  · exact walked_c h hl i0 x hx lv hv1 hv2 ad n cap A V hn hs (hd h0) hF

set_option linter.unusedVariables false in
set_option linter.unusedSimpArgs false in
set_option maxHeartbeats 2000000 in
set_option maxRecDepth 1000000 in
theorem step_3 {w0 w : World} {t : Nat} {most : Int} {l : List En} {ad : Option Addr} {cap : Nat} (h : PInv w0 w t most l ad cap) (hm : 1 ≤ most) (hm2 : most ≤ 64) (hF : Flds w0) (e : En) (he : e.ok) (N : Int) (hN1 : -9223372036854775808 ≤ N) (hN2 : N ≤ 9223372036854775807) (adS : Option Addr) (nS capS : Nat) (A V : Nat → Nat) (hnS : nS ≤ 9) (hst : StepsAt w0 adS nS A V) :
    Calls Tryd.prog 8 #[.pointer (some ⟨t, 0, none⟩), .int .i64 most, .slice ad l.length cap, .agg #[.int .i64 3, .int .i64 N, .int .i64 e.aid, .int .u64 e.va, .int .i64 e.lv, .int .u64 e.tb, .slice adS nS capS]] w fun r w' => ∃ l' ad' cap', r = .returned (.tuple #[.slice ad' l'.length cap', .bool true]) ∧ PInv w0 w' t most l' ad' cap' := by
  have HP := Hid.mk h
  have HF := Hid.mk hF
  obtain ⟨X, hBuf, hXlo, hnX⟩ := h.ex
  have hXlt := buf_lt hBuf
  have HBUF := Hid.mk hBuf
  have HXLO := Hid.mk hXlo
  have HNX := Hid.mk hnX
  have HXLT := Hid.mk hXlt
  have hlnI : (l.length : Int) ≤ 64 := by have := h.ln; omega
  have HLN : Hid (l.length ≤ 64) := by show _ ≤ _; omega
  have HMO := Hid.mk (And.intro hm hm2)
  have HLV : Hid (∀ x ∈ l, 1 ≤ x.lv ∧ x.lv ≤ 3) := fun x hx => (right_facts (h.rt x hx)).1
  have HST := Hid.mk hst
  have HNS := Hid.mk hnS
  have HX64 := Hid.mk he.1
  have HWK : Hid (∀ W, Buf W X t most l → StepsAt W adS nS A V → (∀ W1, Turn X W W1 → Flds W1) → Calls Tryd.prog 11 #[.pointer (some ⟨t, 0, none⟩), .int .i64 e.aid, .int .u64 e.va, .int .i64 N, .slice adS nS capS] W fun r w' => ∃ k : Nat, k ≤ nS ∧ (∀ j : Nat, j < k → isT (N + j) (V j) = true) ∧ (k < nS → isT (N + k) (V k) = false) ∧ r = .returned (.int .i64 (k : Nat)) ∧ Buf w' (Xp X W w') t most (wdL most e.aid e.va N V l k) ∧ Turn X W w') := fun W h1 h2 h3 =>
    walked_a h1 (by have := HLN.out; omega) e.aid e.va he.1 N hN1 hN2 adS nS capS A V (by omega) h2 (fun h0 a ha hx => by
      obtain ⟨g, o, e1, hg, -⟩ := hst.cells 0 h0
      rw [e1] at ha; cases ha
      have : w0.heap.size ≤ g := hXlo _ hx
      omega) h3
  have HRW : Hid (∀ W adR capR, RLst W ad cap l → StepsAt W adR nS A V → Calls Tryd.prog 23 #[.slice ad l.length cap, .int .i64 most, .int .i64 e.aid, .int .u64 e.va, .int .i64 N, .slice adR nS capR] W fun r w' => ∃ (k : Nat) (ad' : Option Addr) (cap' : Nat), k ≤ nS ∧ (∀ j : Nat, j < k → isT (N + j) (V j) = true) ∧ (k < nS → isT (N + k) (V k) = false) ∧ r = .returned (.tuple #[.slice ad' (wdL most e.aid e.va N V l k).length cap', .int .i64 (k : Nat)]) ∧ RLst w' ad' cap' (wdL most e.aid e.va N V l k) ∧ Fs W ad ad' ∧ Below W.heap.size W w') := fun W adR capR h1 h2 => rwalked_c l ad cap h1 (by have := HLN.out; omega) most hm e.aid e.va he.1 N adR nS capR A V (by omega) h2
  have HKT : Hid (∀ k, ∀ y ∈ wdL most e.aid e.va N V l k, rightE y = true) := fun k => wdL_rt h.rt k
  have HKL : Hid (∀ k, ((wdL most e.aid e.va N V l k).length : Int) ≤ most) := fun k => wdL_ln h.ln k
  have hnI : (nS : Int) ≤ 9 := by omega
  generalize wdL most e.aid e.va N V l = WD at *
  clear h hF hBuf hXlo hnX hXlt hm hm2 he HLV hst hnS hN1 hN2
  obtain ⟨a0, a1, a2, a3⟩ := e
  simp only [En.v] at *
  have K7 := Hid.mk (heap_alloc2_old w (.cells #[.int .i64 3, .int .i64 N, .int .i64 a0, .int .u64 a1, .int .i64 a2, .int .u64 a3, .slice adS nS capS] 34) (.cells #[.int .i64 a0, .int .u64 a1, .int .i64 a2, .int .u64 a3] 39))
  have K10 := Hid.mk (heap_alloc2_new w (.cells #[.int .i64 3, .int .i64 N, .int .i64 a0, .int .u64 a1, .int .i64 a2, .int .u64 a3, .slice adS nS capS] 34) (.cells #[.int .i64 a0, .int .u64 a1, .int .i64 a2, .int .u64 a3] 39))
  have HB2 := Hid.mk (below_tr (below_new w (.cells #[.int .i64 3, .int .i64 N, .int .i64 a0, .int .u64 a1, .int .i64 a2, .int .u64 a3, .slice adS nS capS] 34)) (below_new (w.alloc (.cells #[.int .i64 3, .int .i64 N, .int .i64 a0, .int .u64 a1, .int .i64 a2, .int .u64 a3, .slice adS nS capS] 34)) (.cells #[.int .i64 a0, .int .u64 a1, .int .i64 a2, .int .u64 a3] 39)))
  have HXB : Hid (¬ X w.heap.size ∧ ¬ X (w.heap.size + 1)) := ⟨fun hi => by have := HXLT.out _ hi; omega, fun hi => by have := HXLT.out _ hi; omega⟩
  go_enter Tryd.func8, Tryd.ntmps8
  go_upto_region 2 with fail
  generalize (w.alloc (.cells #[.int .i64 3, .int .i64 N, .int .i64 a0, .int .u64 a1, .int .i64 a2, .int .u64 a3, .slice adS nS capS] 34)).alloc (.cells #[.int .i64 a0, .int .u64 a1, .int .i64 a2, .int .u64 a3] 39) = w2 at *
  obtain ⟨k0, k1, k2, k3, k4, k5, k6⟩ := cells7o K7.out
  obtain ⟨q0, q1, q2, q3⟩ := cells4 K10.out
  have HSB := Hid.mk HB2.out.size
  go_wp2
  go_loopw [16, 18, 92] (fun s16 _ s92 wr => ∃ (i : Nat) (v : Value), i ≤ nS ∧ s92 = .int .i64 (i : Nat) ∧ v = s16 ∧ wr.ownsRow w2.heap.size 71 2 v i (scs A V i) ∧ Below w2.heap.size w2 wr) (fun _ _ s92 _ => nS - (RowKit.intOf s92).toNat)
  case atStart => exact ⟨0, _, by omega, rfl, rfl, World.ownsRow_nil _ _ _ _, Below.refl _ _⟩
  case round =>
    obtain ⟨i, v, hi, rfl, rfl, hown, hb⟩ := hrel
    have HO := Hid.mk hown
    have HB := Hid.mk hb
    clear hown k0 k1 k2 k3 k4 k5 k6 q0 q1 q2 q3
    by_cases hlt : i < nS
    · have hlt2 : (i : Int) < nS := by omega
      have HLT := Hid.mk hlt
      have hib : (i : Int) < 50 := by omega
      obtain ⟨g, o, rfl, hg, p1, p2⟩ := HST.out.cells i hlt
      have hbw := below_tr (below_tr HP.out.bel HB2.out) hb
      have d1 := cell_later hbw p1
      have d2 := cell_later hbw p2
      have hbb := below_tr (below_new wr (.cells #[.int .u64 (A i : Nat), .int .u64 (V i : Nat)] 64)) (below_new (wr.alloc (.cells #[.int .u64 (A i : Nat), .int .u64 (V i : Nat)] 64)) (.cells #[.int .u64 (A i : Nat), .int .u64 (V i : Nat)] 71))
      have HBB := Hid.mk hbb
      have HOB := Hid.mk (World.ownsRow.alloc (World.ownsRow.alloc HO.out (.cells #[.int .u64 (A i : Nat), .int .u64 (V i : Nat)] 64)) (.cells #[.int .u64 (A i : Nat), .int .u64 (V i : Nat)] 71))
      have HCB := Hid.mk (heap_alloc2_new wr (.cells #[.int .u64 (A i : Nat), .int .u64 (V i : Nat)] 64) (.cells #[.int .u64 (A i : Nat), .int .u64 (V i : Nat)] 71))
      clear p1 p2 hg hbw hb hlt hi hbb
      go_wp2_with (first
        | (at_builtin
           refine wpList_appS _ rfl _ _ rfl w2.heap.size v A V i rfl HOB.out (wr.heap.size + 1) rfl HCB.out (by have := HLT.out; have := HNS.out; omega) (Nat.le_trans HB.out.size HBB.out.size) ?_
           intro g2 cap2 w4 hown4 hgrow
           have HO4 := Hid.mk hown4
           have HB4 := Hid.mk ((below_tr HB.out HBB.out).grown hgrow (Nat.le_trans HB.out.size HBB.out.size) (fun q hq => (HO.out.lt q hq).1))
           clear hown4 hgrow)
        | fail)
      go_roundw
      case rel => exact ⟨i + 1, _, by have := HLT.out; omega, by go_num, rfl, HO4.out, HB4.out⟩
      case measure => have := HLT.out; simp [RowKit.intOf]; omega
    · have hlt2 : ¬ (i : Int) < nS := by omega
      obtain rfl : i = nS := by omega
      clear hlt hi
      obtain ⟨adR, capR, rfl, hSR, hfR⟩ := own_steps HO.out HST.out.al HST.out.vl
      have HSR := Hid.mk hSR
      have HNR : Hid (notIn X adR) := fun a ha hx => by
        have h1 := hfR a ha
        have h2 := HXLT.out _ hx
        have h3 := HSB.out
        omega
      have K7b := Hid.mk (block_later hb K7.out)
      have K10b := Hid.mk (block_later hb K10.out)
      have HBW := Hid.mk (below_tr HB2.out hb)
      have HB0 := Hid.mk (below_tr HP.out.bel HBW.out)
      clear hSR hfR hb HO HB K7 K10
      obtain ⟨k0, k1, k2, k3, k4, k5, k6⟩ := cells7o K7b.out
      obtain ⟨q0, q1, q2, q3⟩ := cells4 K10b.out
      go_wp2_with fail
      refine (HWK.out _ (HBUF.out.later HBW.out) (HST.out.later HB0.out) (fun W1 ht => HF.out.later (HB0.out.trans (ht.below HXLO.out HB0.out.size)))).mono ?_
      rintro e w4 ⟨k, hk0, hk1, hk2, rfl, hB4, ht4⟩
      have HB4 := Hid.mk hB4
      have HT4 := Hid.mk ht4
      have HR4 := Hid.mk ((HP.out.rl.later HBW.out).turn ht4 HNX.out)
      have HS4 := Hid.mk (steps_turn HSR.out ht4 HNR.out)
      have K7c := Hid.mk (block_x ht4 K7b.out HXB.out.1)
      have K10c := Hid.mk (block_x ht4 K10b.out HXB.out.2)
      have HK := Hid.mk (And.intro hk0 (And.intro hk1 hk2))
      clear hB4 ht4 hk0 hk1 hk2 k0 k1 k2 k3 k4 k5 k6 q0 q1 q2 q3 K7b K10b HWK
      obtain ⟨k0, k1, k2, k3, k4, k5, k6⟩ := cells7o K7c.out
      obtain ⟨q0, q1, q2, q3⟩ := cells4 K10c.out
      go_wp2_with fail
      refine (HRW.out _ adR capR HR4.out HS4.out).mono ?_
      rintro e w5 ⟨m, ad', cap', hm0, hm1, hm2, rfl, hr5, hf5, hb5⟩
      obtain rfl := tab_uniq HK.out.1 hm0 HK.out.2.1 HK.out.2.2 hm1 hm2
      have HPN := Hid.mk (HP.out.made HXLO.out HNX.out HBW.out HT4.out HB4.out hb5 hr5 hf5 (HKT.out m) (HKL.out m))
      clear hr5 hf5 hb5 hm0 hm1 hm2 k0 k1 k2 k3 k4 k5 k6 q0 q1 q2 q3 HRW
      go_wp2
      go_ret2
      exact ⟨_, _, _, rfl, HPN.out⟩

end Go.Proofs.YtdpcbdbdacjcbaaDoor.TR

/- A step of a play: Drop. Made by mktry.py. -/
namespace Go.Proofs.YtdpcbdbdacjcbaaDoor.TR
open Go.RowKit Go.Maps

set_option linter.unusedVariables false in
set_option linter.unusedSimpArgs false in
set_option maxHeartbeats 2000000 in
set_option maxRecDepth 1000000 in
theorem step_4n {w0 w : World} {t : Nat} {most : Int} {l : List En} {ad : Option Addr} {cap : Nat} (h : PInv w0 w t most l ad cap) (hm : 1 ≤ most) (hm2 : most ≤ 64) (hF : Flds w0) (e : En) (he : e.ok) (N : Int) (hN : N < 0 ∨ (l.length : Int) ≤ N) (adS : Option Addr) (nS capS : Nat) :
    Calls Tryd.prog 8 #[.pointer (some ⟨t, 0, none⟩), .int .i64 most, .slice ad l.length cap, .agg #[.int .i64 4, .int .i64 N, .int .i64 e.aid, .int .u64 e.va, .int .i64 e.lv, .int .u64 e.tb, .slice adS nS capS]] w fun r w' => ∃ l' ad' cap', r = .returned (.tuple #[.slice ad' l'.length cap', .bool true]) ∧ PInv w0 w' t most l' ad' cap' := by
  have HP := Hid.mk h
  have HF := Hid.mk hF
  obtain ⟨X, hBuf, hXlo, hnX⟩ := h.ex
  have hXlt := buf_lt hBuf
  have HBUF := Hid.mk hBuf
  have HXLO := Hid.mk hXlo
  have HNX := Hid.mk hnX
  have HXLT := Hid.mk hXlt
  have hlnI : (l.length : Int) ≤ 64 := by have := h.ln; omega
  have HLN : Hid (l.length ≤ 64) := by show _ ≤ _; omega
  have HMO := Hid.mk (And.intro hm hm2)
  have HLV : Hid (∀ x ∈ l, 1 ≤ x.lv ∧ x.lv ≤ 3) := fun x hx => (right_facts (h.rt x hx)).1
  have HDN : Hid (∀ W, Buf W X t most l → Calls Tryd.prog 24 #[.pointer (some ⟨t, 0, none⟩), .int .i64 N] W fun r w' => r = .returned (.bool false) ∧ W = w') := fun W h1 => drop_no h1 N hN (by have := HLN.out; omega)
  clear h hF hBuf hXlo hnX hXlt hm hm2 he HLV
  by_cases h1 : N < 0
  · have dz : decide (N < 0) = true := decide_eq_true h1
    clear hN
    obtain ⟨a0, a1, a2, a3⟩ := e
    simp only [En.v] at *
    have K7 := Hid.mk (heap_alloc2_old w (.cells #[.int .i64 4, .int .i64 N, .int .i64 a0, .int .u64 a1, .int .i64 a2, .int .u64 a3, .slice adS nS capS] 34) (.cells #[.int .i64 a0, .int .u64 a1, .int .i64 a2, .int .u64 a3] 39))
    have K10 := Hid.mk (heap_alloc2_new w (.cells #[.int .i64 4, .int .i64 N, .int .i64 a0, .int .u64 a1, .int .i64 a2, .int .u64 a3, .slice adS nS capS] 34) (.cells #[.int .i64 a0, .int .u64 a1, .int .i64 a2, .int .u64 a3] 39))
    have HB2 := Hid.mk (below_tr (below_new w (.cells #[.int .i64 4, .int .i64 N, .int .i64 a0, .int .u64 a1, .int .i64 a2, .int .u64 a3, .slice adS nS capS] 34)) (below_new (w.alloc (.cells #[.int .i64 4, .int .i64 N, .int .i64 a0, .int .u64 a1, .int .i64 a2, .int .u64 a3, .slice adS nS capS] 34)) (.cells #[.int .i64 a0, .int .u64 a1, .int .i64 a2, .int .u64 a3] 39)))
    have HXB : Hid (¬ X w.heap.size ∧ ¬ X (w.heap.size + 1)) := ⟨fun hi => by have := HXLT.out _ hi; omega, fun hi => by have := HXLT.out _ hi; omega⟩
    go_enter Tryd.func8, Tryd.ntmps8
    go_upto_region 2 with fail
    generalize (w.alloc (.cells #[.int .i64 4, .int .i64 N, .int .i64 a0, .int .u64 a1, .int .i64 a2, .int .u64 a3, .slice adS nS capS] 34)).alloc (.cells #[.int .i64 a0, .int .u64 a1, .int .i64 a2, .int .u64 a3] 39) = w2 at *
    obtain ⟨k0, k1, k2, k3, k4, k5, k6⟩ := cells7o K7.out
    obtain ⟨q0, q1, q2, q3⟩ := cells4 K10.out
    go_wp2_with fail
    refine (HDN.out _ (HBUF.out.later HB2.out)).mono ?_
    rintro e w3 ⟨rfl, rfl⟩
    go_wp2
    go_ret2
    exact ⟨_, _, _, rfl, HP.out.later HB2.out⟩
  · have dz : decide (N < 0) = false := decide_eq_false h1
    have dn : decide ((l.length : Int) ≤ N) = true := decide_eq_true (by omega)
    clear hN
    obtain ⟨a0, a1, a2, a3⟩ := e
    simp only [En.v] at *
    have K7 := Hid.mk (heap_alloc2_old w (.cells #[.int .i64 4, .int .i64 N, .int .i64 a0, .int .u64 a1, .int .i64 a2, .int .u64 a3, .slice adS nS capS] 34) (.cells #[.int .i64 a0, .int .u64 a1, .int .i64 a2, .int .u64 a3] 39))
    have K10 := Hid.mk (heap_alloc2_new w (.cells #[.int .i64 4, .int .i64 N, .int .i64 a0, .int .u64 a1, .int .i64 a2, .int .u64 a3, .slice adS nS capS] 34) (.cells #[.int .i64 a0, .int .u64 a1, .int .i64 a2, .int .u64 a3] 39))
    have HB2 := Hid.mk (below_tr (below_new w (.cells #[.int .i64 4, .int .i64 N, .int .i64 a0, .int .u64 a1, .int .i64 a2, .int .u64 a3, .slice adS nS capS] 34)) (below_new (w.alloc (.cells #[.int .i64 4, .int .i64 N, .int .i64 a0, .int .u64 a1, .int .i64 a2, .int .u64 a3, .slice adS nS capS] 34)) (.cells #[.int .i64 a0, .int .u64 a1, .int .i64 a2, .int .u64 a3] 39)))
    have HXB : Hid (¬ X w.heap.size ∧ ¬ X (w.heap.size + 1)) := ⟨fun hi => by have := HXLT.out _ hi; omega, fun hi => by have := HXLT.out _ hi; omega⟩
    go_enter Tryd.func8, Tryd.ntmps8
    go_upto_region 2 with fail
    generalize (w.alloc (.cells #[.int .i64 4, .int .i64 N, .int .i64 a0, .int .u64 a1, .int .i64 a2, .int .u64 a3, .slice adS nS capS] 34)).alloc (.cells #[.int .i64 a0, .int .u64 a1, .int .i64 a2, .int .u64 a3] 39) = w2 at *
    obtain ⟨k0, k1, k2, k3, k4, k5, k6⟩ := cells7o K7.out
    obtain ⟨q0, q1, q2, q3⟩ := cells4 K10.out
    go_wp2_with fail
    refine (HDN.out _ (HBUF.out.later HB2.out)).mono ?_
    rintro e w3 ⟨rfl, rfl⟩
    go_wp2
    go_ret2
    exact ⟨_, _, _, rfl, HP.out.later HB2.out⟩

/-- Entries appended, of whatever number. -/
theorem step_appV {ops : Array Oper} {o : Oper} {a : Act} {Q : Exit → Act → World → Prop} {K : Act → World → Prop} {E : Prop} {tS tE : TypeId} (hT : ETy tS tE) (w : World) (hg : o.guard = none) (s x : Operand) (hop : o.op = .call { callee := .builtin .append, args := #[s, x], argTypes := #[tS, tS] })
    (base : Nat) (v : Value) (l : List En) (hs : a.eval s = v) (hown : w.ownsRow base tE 4 v l.length (ecs l)) (m : List En) (ad : Addr) (k c : Nat) (hk : k = m.length) (hx : a.eval x = .slice (some ad) k c) (hc : ∀ j u, (ecs m)[j]? = some u → w.cell? (ad.add j) = some u) (hlen : l.length + m.length ≤ 100000) (hbase : base ≤ w.heap.size)
    (h : ∀ v' w', w'.ownsRow base tE 4 v' (l ++ m).length (ecs (l ++ m)) → w.grownBy w' v.ownBlock → K (a.put o.dst v') w') :
    if Region.wanted o (yielded ops a.tmps) = true then Oper.wp Tryd.prog o a w K Q else E := by
  have hw : Region.wanted o (yielded ops a.tmps) = true := by simp [Region.wanted, hg]
  rw [if_pos hw]
  subst hk
  obtain ⟨i0, hi, hz0, hz1, hz2⟩ := infoP hT.info
  obtain ⟨v', w', hr, h2, h3, -, -⟩ := run_append_own_at (P := Tryd.prog) w base tS o.type tE i0 _ 4 32 hT.sl hi hz0 hz1 hz2 rfl (by decide) v l.length (ecs l) hown ad m.length c (ecs m) (ecs_len m) hc (ecs_one m) (by unfold maxLen; omega) (by omega) hbase
  unfold Oper.wp execOp
  simp only [hop, resolve, invoke, builtin, Sem.run_bind, Sem.run_pure, Result.andThen_ok, List.map_toArray, List.map_cons, List.map_nil, hs, hx, hr]
  rw [← ecs_app] at h2
  exact h v' w' (by rw [List.length_append]; exact h2) h3

set_option linter.unusedVariables false in
set_option linter.unusedSimpArgs false in
set_option maxHeartbeats 2000000 in
set_option maxRecDepth 1000000 in
theorem step_4 {w0 w : World} {t : Nat} {most : Int} {l : List En} {ad : Option Addr} {cap : Nat} (h : PInv w0 w t most l ad cap) (hm : 1 ≤ most) (hm2 : most ≤ 64) (hF : Flds w0) (e : En) (he : e.ok) (n : Nat) (hn : n < l.length) (adS : Option Addr) (nS capS : Nat) :
    Calls Tryd.prog 8 #[.pointer (some ⟨t, 0, none⟩), .int .i64 most, .slice ad l.length cap, .agg #[.int .i64 4, .int .i64 (n : Int), .int .i64 e.aid, .int .u64 e.va, .int .i64 e.lv, .int .u64 e.tb, .slice adS nS capS]] w fun r w' => ∃ l' ad' cap', r = .returned (.tuple #[.slice ad' l'.length cap', .bool true]) ∧ PInv w0 w' t most l' ad' cap' := by
  have HP := Hid.mk h
  have HF := Hid.mk hF
  obtain ⟨X, hBuf, hXlo, hnX⟩ := h.ex
  have hXlt := buf_lt hBuf
  have HBUF := Hid.mk hBuf
  have HXLO := Hid.mk hXlo
  have HNX := Hid.mk hnX
  have HXLT := Hid.mk hXlt
  have hlnI : (l.length : Int) ≤ 64 := by have := h.ln; omega
  have HLN : Hid (l.length ≤ 64) := by show _ ≤ _; omega
  have HMO := Hid.mk (And.intro hm hm2)
  have HLV : Hid (∀ x ∈ l, 1 ≤ x.lv ∧ x.lv ≤ 3) := fun x hx => (right_facts (h.rt x hx)).1
  have HDY : Hid (∀ W Y, Buf W Y t most l → Calls Tryd.prog 24 #[.pointer (some ⟨t, 0, none⟩), .int .i64 (n : Nat)] W fun r w' => r = .returned (.bool true) ∧ Buf w' Y t most (l.eraseIdx n) ∧ Turn Y W w') := fun W Y h1 => drop_yes h1 n hn (by have := HLN.out; omega)
  obtain ⟨g, o, hag, -, -⟩ := h.rl.rd n hn
  have hcp := h.rl.cp
  have hnI : (n : Int) < (l.length : Int) := by omega
  have nic : n ≤ cap := by omega
  have nil1 : n + 1 ≤ l.length := by omega
  have h0i : (0 : Int) ≤ (n : Int) + 1 := by omega
  have hnl : (n : Int) + 1 ≤ (l.length : Int) := by omega
  have hwr : IntKind.i64.wrap ((n : Int) + 1) = (n : Int) + 1 := by rw [IntKind.wrap_i64]; omega
  have hz : ¬ (n : Int) < 0 := by omega
  have dz : decide ((n : Int) < 0) = false := decide_eq_false hz
  have dn : decide (l.length ≤ n) = false := decide_eq_false (by omega)
  have HKT : Hid (∀ x ∈ l.eraseIdx n, rightE x = true) := fun x hx => h.rt x (List.mem_of_mem_eraseIdx hx)
  have HKL : Hid (((l.eraseIdx n).length : Int) ≤ most) := by
    have := h.ln
    have := List.length_eraseIdx_le l n
    show _ ≤ _
    omega
  have HED : Hid ((([] : List En) ++ l.take n) ++ l.drop (n + 1) = l.eraseIdx n) := by show _ = _; rw [List.nil_append, List.eraseIdx_eq_take_drop_succ]
  subst hag
  obtain ⟨A, hA, hsrc⟩ : ∃ A : Addr, (if cap = n + 1 then some (⟨g, o, none⟩ : Addr) else some ⟨g, o + (n + 1) * 4, none⟩) = some A ∧ Hid (∀ W, RdA W (some ⟨g, o, none⟩) l → ∀ j u, (ecs (l.drop (n + 1)))[j]? = some u → W.cell? (A.add j) = some u) := by
    by_cases h1 : cap = n + 1
    · refine ⟨⟨g, o, none⟩, by simp [h1], fun W _ j u hu => ?_⟩
      rw [List.drop_eq_nil_of_le (by omega)] at hu
      cases hu
    · exact ⟨⟨g, o + (n + 1) * 4, none⟩, by simp [h1], fun W hW => (hW.drop (n + 1)).cells⟩
  have HLD : Hid (l.length - (n + 1) = (l.drop (n + 1)).length) := (List.length_drop ..).symm
  have HLT : Hid (n = (l.take n).length) := by show _ = _; rw [List.length_take]; omega
  clear h hF hBuf hXlo hnX hXlt hm hm2 he HLV
  obtain ⟨a0, a1, a2, a3⟩ := e
  simp only [En.v] at *
  have K7 := Hid.mk (heap_alloc2_old w (.cells #[.int .i64 4, .int .i64 (n : Int), .int .i64 a0, .int .u64 a1, .int .i64 a2, .int .u64 a3, .slice adS nS capS] 34) (.cells #[.int .i64 a0, .int .u64 a1, .int .i64 a2, .int .u64 a3] 39))
  have K10 := Hid.mk (heap_alloc2_new w (.cells #[.int .i64 4, .int .i64 (n : Int), .int .i64 a0, .int .u64 a1, .int .i64 a2, .int .u64 a3, .slice adS nS capS] 34) (.cells #[.int .i64 a0, .int .u64 a1, .int .i64 a2, .int .u64 a3] 39))
  have HB2 := Hid.mk (below_tr (below_new w (.cells #[.int .i64 4, .int .i64 (n : Int), .int .i64 a0, .int .u64 a1, .int .i64 a2, .int .u64 a3, .slice adS nS capS] 34)) (below_new (w.alloc (.cells #[.int .i64 4, .int .i64 (n : Int), .int .i64 a0, .int .u64 a1, .int .i64 a2, .int .u64 a3, .slice adS nS capS] 34)) (.cells #[.int .i64 a0, .int .u64 a1, .int .i64 a2, .int .u64 a3] 39)))
  have HXB : Hid (¬ X w.heap.size ∧ ¬ X (w.heap.size + 1)) := ⟨fun hi => by have := HXLT.out _ hi; omega, fun hi => by have := HXLT.out _ hi; omega⟩
  go_enter Tryd.func8, Tryd.ntmps8
  go_upto_region 2 with fail
  generalize (w.alloc (.cells #[.int .i64 4, .int .i64 (n : Int), .int .i64 a0, .int .u64 a1, .int .i64 a2, .int .u64 a3, .slice adS nS capS] 34)).alloc (.cells #[.int .i64 a0, .int .u64 a1, .int .i64 a2, .int .u64 a3] 39) = w2 at *
  obtain ⟨k0, k1, k2, k3, k4, k5, k6⟩ := cells7o K7.out
  obtain ⟨q0, q1, q2, q3⟩ := cells4 K10.out
  have k1d := cell_later (Below.refl _ _).drew k1
  go_wp2_with fail
  refine wp_region_noPanic ?_
  refine wp_region_held_drew (S := (fun w' => w'.cell? ⟨w.heap.size, 1, none⟩ = some (.int .i64 (n : Int)))) (by kernel_rfl) ?_ (fun hHeld => ?_)
  · exact k1d
  refine take_at (i := 1) (v := ?_) 147 rfl rfl (by kernel_rfl) (by kernel_rfl) (by kernel_rfl) (fun _ _ _ h => h) (Or.inl ⟨by rfl, ?_⟩) (by assumption) ?_
  rotate_left
  · (intro w' hSw; (try dsimp only at hSw); go_simp; all_goals with_reducible rfl)
  try simp only [Act.put, List.setIfInBounds_toArray, List.set_cons_zero, List.set_cons_succ]
  refine take_at (i := 2) (v := ?_) 148 rfl rfl (by kernel_rfl) (by kernel_rfl) (by kernel_rfl) (fun _ _ _ h => h) (Or.inl ⟨by rfl, ?_⟩) (by assumption) ?_
  rotate_left
  · (intro w' hSw; (try dsimp only at hSw); go_simp; all_goals with_reducible rfl)
  try simp only [Act.put, List.setIfInBounds_toArray, List.set_cons_zero, List.set_cons_succ]
  refine take_at (i := 3) (v := ?_) 149 rfl rfl (by kernel_rfl) (by kernel_rfl) (by kernel_rfl) (fun _ _ _ h => h) (Or.inl ⟨by rfl, ?_⟩) (by assumption) ?_
  rotate_left
  · (intro w' hSw; (try dsimp only at hSw); go_simp; all_goals with_reducible rfl)
  try simp only [Act.put, List.setIfInBounds_toArray, List.set_cons_zero, List.set_cons_succ]
  refine take_at (i := 4) (v := ?_) 150 rfl rfl (by kernel_rfl) (by kernel_rfl) (by kernel_rfl) (fun _ _ _ h => h) (Or.inl ⟨by rfl, ?_⟩) (by assumption) ?_
  rotate_left
  · (intro w' hSw; (try dsimp only at hSw); go_simp; all_goals with_reducible rfl)
  try simp only [Act.put, List.setIfInBounds_toArray, List.set_cons_zero, List.set_cons_succ]
  refine take_at (i := 6) (v := ?_) 152 rfl rfl (by kernel_rfl) (by kernel_rfl) (by kernel_rfl) (fun _ _ _ h => h) (Or.inl ⟨by rfl, ?_⟩) (by assumption) ?_
  rotate_left
  · (intro w' hSw; (try dsimp only at hSw); go_simp; all_goals with_reducible rfl)
  try simp only [Act.put, List.setIfInBounds_toArray, List.set_cons_zero, List.set_cons_succ]
  refine take_at (i := 7) (v := ?_) 153 rfl rfl (by kernel_rfl) (by kernel_rfl) (by kernel_rfl) (fun _ _ _ h => h) (Or.inl ⟨by rfl, ?_⟩) (by assumption) ?_
  rotate_left
  · (intro w' hSw; (try dsimp only at hSw); go_simp; all_goals with_reducible rfl)
  try simp only [Act.put, List.setIfInBounds_toArray, List.set_cons_zero, List.set_cons_succ]
  refine take_at (i := 8) (v := ?_) 154 rfl rfl (by kernel_rfl) (by kernel_rfl) (by kernel_rfl) (fun _ _ _ h => h) (Or.inl ⟨by rfl, ?_⟩) (by assumption) ?_
  rotate_left
  · (intro w' hSw; (try dsimp only at hSw); go_simp; all_goals with_reducible rfl)
  try simp only [Act.put, List.setIfInBounds_toArray, List.set_cons_zero, List.set_cons_succ]
  refine take_at (i := 9) (v := ?_) 155 rfl rfl (by kernel_rfl) (by kernel_rfl) (by kernel_rfl) (fun _ _ _ h => h) (Or.inl ⟨by rfl, ?_⟩) (by assumption) ?_
  rotate_left
  · (intro w' hSw; (try dsimp only at hSw); go_simp; all_goals with_reducible rfl)
  try simp only [Act.put, List.setIfInBounds_toArray, List.set_cons_zero, List.set_cons_succ]
  refine take_at (i := 10) (v := ?_) 156 rfl rfl (by kernel_rfl) (by kernel_rfl) (by kernel_rfl) (fun _ _ _ h => h) (Or.inl ⟨by rfl, ?_⟩) (by assumption) ?_
  rotate_left
  · (intro w' hSw; (try dsimp only at hSw); go_simp; all_goals with_reducible rfl)
  try simp only [Act.put, List.setIfInBounds_toArray, List.set_cons_zero, List.set_cons_succ]
  refine take_at (i := 12) (v := ?_) 158 rfl rfl (by kernel_rfl) (by kernel_rfl) (by kernel_rfl) (fun _ _ _ h => h) (Or.inl ⟨by rfl, ?_⟩) (by assumption) ?_
  rotate_left
  · (intro w' hSw; (try dsimp only at hSw); go_simp; all_goals with_reducible rfl)
  try simp only [Act.put, List.setIfInBounds_toArray, List.set_cons_zero, List.set_cons_succ]
  refine take_at (i := 13) (v := ?_) 159 rfl rfl (by kernel_rfl) (by kernel_rfl) (by kernel_rfl) (fun _ _ _ h => h) (Or.inl ⟨by rfl, ?_⟩) (by assumption) ?_
  rotate_left
  · (intro w' hSw; (try dsimp only at hSw); go_simp; all_goals with_reducible rfl)
  try simp only [Act.put, List.setIfInBounds_toArray, List.set_cons_zero, List.set_cons_succ]
  refine take_at (i := 14) (v := ?_) 160 rfl rfl (by kernel_rfl) (by kernel_rfl) (by kernel_rfl) (fun _ _ _ h => h) (Or.inl ⟨by rfl, ?_⟩) (by assumption) ?_
  rotate_left
  · (intro w' hSw; (try dsimp only at hSw); go_simp; all_goals with_reducible rfl)
  try simp only [Act.put, List.setIfInBounds_toArray, List.set_cons_zero, List.set_cons_succ]
  refine wpAnyH_ready (rs := [0]) (by kernel_rfl) (by simp) ?_
  refine AllReadyH.cons rfl (fun K hK => ?_) AllReadyH.nil
  go_simp
  refine hK.out _ _ (cell_later (below_tr (below_new _ _) (Below.refl _ _).drew) k1) (fun hHeld1 => ?_)
  have HB3 := Hid.mk (below_tr HB2.out (below_tr (below_new w2 (.cells #[] 39)) (Below.refl _ _).drew))
  have HO3 : Hid (((w2.alloc (.cells #[] 39)).drew).ownsRow w2.heap.size 39 4 (.slice (some ⟨w2.heap.size, 0, none⟩) 0 0) ([] : List En).length (ecs [])) := own_later (own_new w2 39) (Below.refl _ _).drew
  have K7c := Hid.mk (block_later (below_tr (below_new w2 (.cells #[] 39)) (Below.refl _ _).drew) K7.out)
  clear hK hHeld
  generalize hw3 : (w2.alloc (.cells #[] 39)).drew = w3 at *
  have HSZ : Hid (w2.heap.size ≤ w3.heap.size) := by rw [← hw3]; exact (below_tr (below_new w2 (.cells #[] 39)) (Below.refl _ _).drew).size
  clear hw3
  try simp only [Act.put, List.setIfInBounds_toArray, List.set_cons_zero, List.set_cons_succ]
  refine wpAnyH_ready (rs := [5]) (by kernel_rfl) (by simp) ?_
  refine AllReadyH.cons rfl (fun K hK => ?_) AllReadyH.nil
  refine step_appV etyR w3 rfl _ _ rfl w2.heap.size (.slice (some ⟨w2.heap.size, 0, none⟩) 0 0) [] rfl HO3.out (l.take n) ⟨g, o, none⟩ n cap HLT.out rfl (((HP.out.rl.rd.later HB3.out).take n).cells) (by have := HLN.out; rw [List.length_take]; simp; omega) HSZ.out ?_
  intro v4 w4 ho4 hg4
  have HO4 := Hid.mk ho4
  have hlt7 : w.heap.size < w2.heap.size := block_lt K7.out
  have K7d := Hid.mk (block_app (b := w2.heap.size) hg4 K7c.out (fun q hq => by cases hq; exact Nat.le_refl _) hlt7)
  have HB4 := Hid.mk (HB3.out.grown hg4 HB3.out.size (fun q hq => by cases hq; exact HB2.out.size))
  have HS4 : Hid (w2.heap.size ≤ w4.heap.size) := Nat.le_trans HSZ.out hg4.size
  clear ho4 hg4 HO3
  refine hK.out _ _ (cells7o K7d.out).2.1 (fun hHeld2 => ?_)
  clear hK hHeld1
  try simp only [Act.put, List.setIfInBounds_toArray]
  refine wpAnyH_ready (rs := [11]) (by kernel_rfl) (by simp) ?_
  refine AllReadyH.cons rfl (fun K hK => ?_) AllReadyH.nil
  refine step_appV etyR w4 rfl _ _ rfl w2.heap.size v4 ([] ++ l.take n) rfl HO4.out (l.drop (n + 1)) A _ (cap - (n + 1)) HLD.out rfl (hsrc.out w4 (HP.out.rl.rd.later HB4.out)) (by have := HLN.out; rw [List.nil_append, List.length_take, List.length_drop]; omega) HS4.out ?_
  intro v5 w5 ho5 hg5
  have K7e := Hid.mk (block_app (b := w2.heap.size) hg5 K7d.out (fun q hq => (HO4.out.lt q hq).1) hlt7)
  have HB5 := Hid.mk (HB4.out.grown hg5 HB4.out.size (fun q hq => Nat.le_trans HB2.out.size (HO4.out.lt q hq).1))
  rw [HED.out] at ho5
  obtain ⟨ad', cap', rfl, hrl5, hfr5⟩ := own_rl ho5
  have HRL5 := Hid.mk hrl5
  have HN5 : Hid (notIn X ad') := fun a ha hx => by
    have h1 := (hfr5 a ha).1
    have h2 := HXLT.out _ hx
    omega
  clear ho5 hg5 hrl5 hfr5 HO4 hlt7
  refine hK.out _ _ (cells7o K7e.out).2.1 (fun hHeld3 => ?_)
  clear hK hHeld2
  try simp only [Act.put]
  refine wpAnyH_ready (rs := [15]) (by kernel_rfl) (by simp) ?_
  refine AllReadyH.cons rfl (fun K hK => ?_) AllReadyH.nil
  go_simp
  refine (HDY.out _ X (HBUF.out.later HB5.out)).mono ?_
  rintro e w6 ⟨rfl, hB6, ht6⟩
  go_wp2_with fail
  have HPN := Hid.mk (HP.out.next HXLO.out HB5.out HRL5.out HN5.out ht6 hB6 (Or.inl rfl) HKT.out HKL.out)
  refine hK.out _ _ (cells7o (block_x ht6 K7e.out HXB.out.1)).2.1 (fun hHeld4 => ?_)
  clear hK hHeld3 hB6 ht6
  try simp only [Act.put, List.setIfInBounds_toArray, List.set_cons_zero, List.set_cons_succ]
  refine take_at (i := 16) (v := ?_) 8 rfl rfl (by kernel_rfl) (by kernel_rfl) (by kernel_rfl) (fun _ _ _ h => h) (Or.inl ⟨by rfl, ?_⟩) (by assumption) ?_
  rotate_left
  · (intro w' hSw; (try dsimp only at hSw); go_simp; all_goals with_reducible rfl)
  try simp only [Act.put, List.setIfInBounds_toArray, List.set_cons_zero, List.set_cons_succ]
  refine take_at (i := 17) (v := ?_) 9 rfl rfl (by kernel_rfl) (by kernel_rfl) (by kernel_rfl) (fun _ _ _ h => h) (Or.inl ⟨by rfl, ?_⟩) (by assumption) ?_
  rotate_left
  · (intro w' hSw; (try dsimp only at hSw); go_simp; all_goals with_reducible rfl)
  try simp only [Act.put, List.setIfInBounds_toArray, List.set_cons_zero, List.set_cons_succ]
  refine wpAnyH_done (by kernel_rfl) ?_ _
  refine NoPanic.normal ?_
  go_wp2
  go_ret2
  exact ⟨_, _, _, rfl, HPN.out⟩

end Go.Proofs.YtdpcbdbdacjcbaaDoor.TR

/- A step of a play: flushes, and no step. Made by mktry.py. -/
namespace Go.Proofs.YtdpcbdbdacjcbaaDoor.TR
open Go.RowKit Go.Maps

set_option linter.unusedVariables false in
set_option linter.unusedSimpArgs false in
set_option maxHeartbeats 2000000 in
set_option maxRecDepth 1000000 in
theorem step_5 {w0 w : World} {t : Nat} {most : Int} {l : List En} {ad : Option Addr} {cap : Nat} (h : PInv w0 w t most l ad cap) (hm : 1 ≤ most) (hm2 : most ≤ 64) (hF : Flds w0) (e : En) (he : e.ok) (N : Int) (adS : Option Addr) (nS capS : Nat) :
    Calls Tryd.prog 8 #[.pointer (some ⟨t, 0, none⟩), .int .i64 most, .slice ad l.length cap, .agg #[.int .i64 5, .int .i64 N, .int .i64 e.aid, .int .u64 e.va, .int .i64 e.lv, .int .u64 e.tb, .slice adS nS capS]] w fun r w' => ∃ l' ad' cap', r = .returned (.tuple #[.slice ad' l'.length cap', .bool true]) ∧ PInv w0 w' t most l' ad' cap' := by
  have HP := Hid.mk h
  have HF := Hid.mk hF
  obtain ⟨X, hBuf, hXlo, hnX⟩ := h.ex
  have hXlt := buf_lt hBuf
  have HBUF := Hid.mk hBuf
  have HXLO := Hid.mk hXlo
  have HNX := Hid.mk hnX
  have HXLT := Hid.mk hXlt
  have hlnI : (l.length : Int) ≤ 64 := by have := h.ln; omega
  have HLN : Hid (l.length ≤ 64) := by show _ ≤ _; omega
  have HMO := Hid.mk (And.intro hm hm2)
  have HLV : Hid (∀ x ∈ l, 1 ≤ x.lv ∧ x.lv ≤ 3) := fun x hx => (right_facts (h.rt x hx)).1
  have HFV : Hid (∀ W Y, Buf W Y t most l → Calls Tryd.prog 17 #[.pointer (some ⟨t, 0, none⟩), .int .i64 e.aid, .int .u64 e.va] W fun r w' => r = .returned (.int .i64 ((l.length : Int) - ((keepP (fun y => mB y e.aid e.va) l).length : Int))) ∧ Buf w' Y t most (keepP (fun y => mB y e.aid e.va) l) ∧ Turn Y W w') := fun W Y h1 => flushVa_c h1 (by have := HLN.out; omega) e.aid e.va he.1
  have HRF : Hid (∀ W, RdA W ad l → Calls Tryd.prog 25 #[.slice ad l.length cap, .int .i64 e.aid, .bool true, .int .u64 e.va] W fun r w' => ∃ ad' cap', r = .returned (.slice ad' (keepP (fun y => mB y e.aid e.va) l).length cap') ∧ RLst w' ad' cap' (keepP (fun y => mB y e.aid e.va) l) ∧ (∀ b, ad' = some b → W.heap.size ≤ b.block) ∧ Below W.heap.size W w') := fun W h1 => rflush_va l ad cap h1 HLV.out (by have := HLN.out; omega) e.aid e.va he.1
  have HKT : Hid (∀ x ∈ keepP (fun y => mB y e.aid e.va) l, rightE x = true) := fun x hx => h.rt x (List.mem_filter.1 hx).1
  have hkl := keep_le (fun y => mB y e.aid e.va) l
  have HKL : Hid (((keepP (fun y => mB y e.aid e.va) l).length : Int) ≤ most) := by have := h.ln; show _ ≤ _; omega
  have hkI : ((keepP (fun y => mB y e.aid e.va) l).length : Int) ≤ (l.length : Int) := by omega
  clear hkl HLV
  generalize keepP (fun y => mB y e.aid e.va) l = KL at *
  clear h hF hBuf hXlo hnX hXlt hm hm2 he
  obtain ⟨a0, a1, a2, a3⟩ := e
  simp only [En.v] at *
  have K7 := Hid.mk (heap_alloc2_old w (.cells #[.int .i64 5, .int .i64 N, .int .i64 a0, .int .u64 a1, .int .i64 a2, .int .u64 a3, .slice adS nS capS] 34) (.cells #[.int .i64 a0, .int .u64 a1, .int .i64 a2, .int .u64 a3] 39))
  have K10 := Hid.mk (heap_alloc2_new w (.cells #[.int .i64 5, .int .i64 N, .int .i64 a0, .int .u64 a1, .int .i64 a2, .int .u64 a3, .slice adS nS capS] 34) (.cells #[.int .i64 a0, .int .u64 a1, .int .i64 a2, .int .u64 a3] 39))
  have HB2 := Hid.mk (below_tr (below_new w (.cells #[.int .i64 5, .int .i64 N, .int .i64 a0, .int .u64 a1, .int .i64 a2, .int .u64 a3, .slice adS nS capS] 34)) (below_new (w.alloc (.cells #[.int .i64 5, .int .i64 N, .int .i64 a0, .int .u64 a1, .int .i64 a2, .int .u64 a3, .slice adS nS capS] 34)) (.cells #[.int .i64 a0, .int .u64 a1, .int .i64 a2, .int .u64 a3] 39)))
  have HXB : Hid (¬ X w.heap.size ∧ ¬ X (w.heap.size + 1)) := ⟨fun hi => by have := HXLT.out _ hi; omega, fun hi => by have := HXLT.out _ hi; omega⟩
  go_enter Tryd.func8, Tryd.ntmps8
  go_upto_region 2 with fail
  generalize (w.alloc (.cells #[.int .i64 5, .int .i64 N, .int .i64 a0, .int .u64 a1, .int .i64 a2, .int .u64 a3, .slice adS nS capS] 34)).alloc (.cells #[.int .i64 a0, .int .u64 a1, .int .i64 a2, .int .u64 a3] 39) = w2 at *
  obtain ⟨k0, k1, k2, k3, k4, k5, k6⟩ := cells7o K7.out
  obtain ⟨q0, q1, q2, q3⟩ := cells4 K10.out
  go_wp2_with fail
  refine (HRF.out _ (HP.out.rl.later HB2.out).rd).mono ?_
  rintro e w3 ⟨ad', cap', rfl, hr3, hf3, hb3⟩
  have HB3 := Hid.mk (below_tr HB2.out hb3)
  have HR3 := Hid.mk hr3
  have HN3 : Hid (notIn X ad') := fun a ha hx => by
    have h1 := hf3 a ha
    have h2 := HXLT.out _ hx
    have h3 := HB2.out.size
    omega
  have K10b := Hid.mk (block_later hb3 K10.out)
  clear k0 k1 k2 k3 k4 k5 k6 q0 q1 q2 q3 K7 K10 hr3 hf3 hb3 HRF
  obtain ⟨q0, q1, q2, q3⟩ := cells4 K10b.out
  go_wp2_with fail
  refine (HFV.out _ X (HBUF.out.later HB3.out)).mono ?_
  rintro e w4 ⟨rfl, hB4, ht4⟩
  have HPN := Hid.mk (HP.out.next HXLO.out HB3.out HR3.out HN3.out ht4 hB4 (Or.inl rfl) HKT.out HKL.out)
  clear hB4 ht4 HFV q0 q1 q2 q3 K10b
  go_wp2
  go_ret2
  exact ⟨_, _, _, rfl, HPN.out⟩

set_option linter.unusedVariables false in
set_option linter.unusedSimpArgs false in
set_option maxHeartbeats 2000000 in
set_option maxRecDepth 1000000 in
theorem step_6 {w0 w : World} {t : Nat} {most : Int} {l : List En} {ad : Option Addr} {cap : Nat} (h : PInv w0 w t most l ad cap) (hm : 1 ≤ most) (hm2 : most ≤ 64) (hF : Flds w0) (e : En) (he : e.ok) (N : Int) (h0 : 0 ≤ e.aid) (adS : Option Addr) (nS capS : Nat) :
    Calls Tryd.prog 8 #[.pointer (some ⟨t, 0, none⟩), .int .i64 most, .slice ad l.length cap, .agg #[.int .i64 6, .int .i64 N, .int .i64 e.aid, .int .u64 e.va, .int .i64 e.lv, .int .u64 e.tb, .slice adS nS capS]] w fun r w' => ∃ l' ad' cap', r = .returned (.tuple #[.slice ad' l'.length cap', .bool true]) ∧ PInv w0 w' t most l' ad' cap' := by
  have HP := Hid.mk h
  have HF := Hid.mk hF
  obtain ⟨X, hBuf, hXlo, hnX⟩ := h.ex
  have hXlt := buf_lt hBuf
  have HBUF := Hid.mk hBuf
  have HXLO := Hid.mk hXlo
  have HNX := Hid.mk hnX
  have HXLT := Hid.mk hXlt
  have hlnI : (l.length : Int) ≤ 64 := by have := h.ln; omega
  have HLN : Hid (l.length ≤ 64) := by show _ ≤ _; omega
  have HMO := Hid.mk (And.intro hm hm2)
  have HLV : Hid (∀ x ∈ l, 1 ≤ x.lv ∧ x.lv ≤ 3) := fun x hx => (right_facts (h.rt x hx)).1
  have HFV : Hid (∀ W Y, Buf W Y t most l → Calls Tryd.prog 26 #[.pointer (some ⟨t, 0, none⟩), .int .i64 e.aid] W fun r w' => r = .returned (.int .i64 ((l.length : Int) - ((keepP (fun y => decide (y.aid = e.aid)) l).length : Int))) ∧ Buf w' Y t most (keepP (fun y => decide (y.aid = e.aid)) l) ∧ Turn Y W w') := fun W Y h1 => flushAsid_c h1 (by have := HLN.out; omega) e.aid
  have HRF : Hid (∀ W, RdA W ad l → Calls Tryd.prog 25 #[.slice ad l.length cap, .int .i64 e.aid, .bool false, .int .u64 0] W fun r w' => ∃ ad' cap', r = .returned (.slice ad' (keepP (fun y => decide (y.aid = e.aid)) l).length cap') ∧ RLst w' ad' cap' (keepP (fun y => decide (y.aid = e.aid)) l) ∧ (∀ b, ad' = some b → W.heap.size ≤ b.block) ∧ Below W.heap.size W w') := fun W h1 => rflush_as l ad cap h1 (by have := HLN.out; omega) e.aid h0
  have HKT : Hid (∀ x ∈ keepP (fun y => decide (y.aid = e.aid)) l, rightE x = true) := fun x hx => h.rt x (List.mem_filter.1 hx).1
  have hkl := keep_le (fun y => decide (y.aid = e.aid)) l
  have HKL : Hid (((keepP (fun y => decide (y.aid = e.aid)) l).length : Int) ≤ most) := by have := h.ln; show _ ≤ _; omega
  have hkI : ((keepP (fun y => decide (y.aid = e.aid)) l).length : Int) ≤ (l.length : Int) := by omega
  have dz : decide (e.aid < 0) = false := decide_eq_false (by omega)
  clear hkl HLV
  generalize keepP (fun y => decide (y.aid = e.aid)) l = KL at *
  clear h hF hBuf hXlo hnX hXlt hm hm2 he
  obtain ⟨a0, a1, a2, a3⟩ := e
  simp only [En.v] at *
  have K7 := Hid.mk (heap_alloc2_old w (.cells #[.int .i64 6, .int .i64 N, .int .i64 a0, .int .u64 a1, .int .i64 a2, .int .u64 a3, .slice adS nS capS] 34) (.cells #[.int .i64 a0, .int .u64 a1, .int .i64 a2, .int .u64 a3] 39))
  have K10 := Hid.mk (heap_alloc2_new w (.cells #[.int .i64 6, .int .i64 N, .int .i64 a0, .int .u64 a1, .int .i64 a2, .int .u64 a3, .slice adS nS capS] 34) (.cells #[.int .i64 a0, .int .u64 a1, .int .i64 a2, .int .u64 a3] 39))
  have HB2 := Hid.mk (below_tr (below_new w (.cells #[.int .i64 6, .int .i64 N, .int .i64 a0, .int .u64 a1, .int .i64 a2, .int .u64 a3, .slice adS nS capS] 34)) (below_new (w.alloc (.cells #[.int .i64 6, .int .i64 N, .int .i64 a0, .int .u64 a1, .int .i64 a2, .int .u64 a3, .slice adS nS capS] 34)) (.cells #[.int .i64 a0, .int .u64 a1, .int .i64 a2, .int .u64 a3] 39)))
  have HXB : Hid (¬ X w.heap.size ∧ ¬ X (w.heap.size + 1)) := ⟨fun hi => by have := HXLT.out _ hi; omega, fun hi => by have := HXLT.out _ hi; omega⟩
  go_enter Tryd.func8, Tryd.ntmps8
  go_upto_region 2 with fail
  generalize (w.alloc (.cells #[.int .i64 6, .int .i64 N, .int .i64 a0, .int .u64 a1, .int .i64 a2, .int .u64 a3, .slice adS nS capS] 34)).alloc (.cells #[.int .i64 a0, .int .u64 a1, .int .i64 a2, .int .u64 a3] 39) = w2 at *
  obtain ⟨k0, k1, k2, k3, k4, k5, k6⟩ := cells7o K7.out
  obtain ⟨q0, q1, q2, q3⟩ := cells4 K10.out
  go_wp2_with fail
  refine (HRF.out _ (HP.out.rl.later HB2.out).rd).mono ?_
  rintro e w3 ⟨ad', cap', rfl, hr3, hf3, hb3⟩
  have HB3 := Hid.mk (below_tr HB2.out hb3)
  have HR3 := Hid.mk hr3
  have HN3 : Hid (notIn X ad') := fun a ha hx => by
    have h1 := hf3 a ha
    have h2 := HXLT.out _ hx
    have h3 := HB2.out.size
    omega
  have K10b := Hid.mk (block_later hb3 K10.out)
  clear k0 k1 k2 k3 k4 k5 k6 q0 q1 q2 q3 K7 K10 hr3 hf3 hb3 HRF
  obtain ⟨q0, q1, q2, q3⟩ := cells4 K10b.out
  go_wp2_with fail
  refine (HFV.out _ X (HBUF.out.later HB3.out)).mono ?_
  rintro e w4 ⟨rfl, hB4, ht4⟩
  have HPN := Hid.mk (HP.out.next HXLO.out HB3.out HR3.out HN3.out ht4 hB4 (Or.inl rfl) HKT.out HKL.out)
  clear hB4 ht4 HFV q0 q1 q2 q3 K10b
  go_wp2
  go_ret2
  exact ⟨_, _, _, rfl, HPN.out⟩

set_option linter.unusedVariables false in
set_option linter.unusedSimpArgs false in
set_option maxHeartbeats 2000000 in
set_option maxRecDepth 1000000 in
theorem step_6n {w0 w : World} {t : Nat} {most : Int} {l : List En} {ad : Option Addr} {cap : Nat} (h : PInv w0 w t most l ad cap) (hm : 1 ≤ most) (hm2 : most ≤ 64) (hF : Flds w0) (e : En) (he : e.ok) (N : Int) (h0 : e.aid < 0) (adS : Option Addr) (nS capS : Nat) :
    Calls Tryd.prog 8 #[.pointer (some ⟨t, 0, none⟩), .int .i64 most, .slice ad l.length cap, .agg #[.int .i64 6, .int .i64 N, .int .i64 e.aid, .int .u64 e.va, .int .i64 e.lv, .int .u64 e.tb, .slice adS nS capS]] w fun r w' => ∃ l' ad' cap', r = .returned (.tuple #[.slice ad' l'.length cap', .bool true]) ∧ PInv w0 w' t most l' ad' cap' := by
  have HP := Hid.mk h
  have HF := Hid.mk hF
  obtain ⟨X, hBuf, hXlo, hnX⟩ := h.ex
  have hXlt := buf_lt hBuf
  have HBUF := Hid.mk hBuf
  have HXLO := Hid.mk hXlo
  have HNX := Hid.mk hnX
  have HXLT := Hid.mk hXlt
  have hlnI : (l.length : Int) ≤ 64 := by have := h.ln; omega
  have HLN : Hid (l.length ≤ 64) := by show _ ≤ _; omega
  have HMO := Hid.mk (And.intro hm hm2)
  have HLV : Hid (∀ x ∈ l, 1 ≤ x.lv ∧ x.lv ≤ 3) := fun x hx => (right_facts (h.rt x hx)).1
  have hKA : keepP (fun y => decide (y.aid = e.aid)) l = l := List.filter_eq_self.2 fun y hy => by
    have h1 := (right_facts (h.rt y hy)).2
    show (!decide (y.aid = e.aid)) = true
    rw [decide_eq_false (by omega)]; rfl
  have HFV : Hid (∀ W Y, Buf W Y t most l → Calls Tryd.prog 26 #[.pointer (some ⟨t, 0, none⟩), .int .i64 e.aid] W fun r w' => r = .returned (.int .i64 0) ∧ Buf w' Y t most l ∧ Turn Y W w') := fun W Y h1 => by
    have := flushAsid_c h1 (by have := HLN.out; omega) e.aid
    rw [hKA, Int.sub_self] at this
    exact this
  have HKT := Hid.mk h.rt
  have HKL := Hid.mk h.ln
  have dz : decide (e.aid < 0) = true := decide_eq_true h0
  clear hKA HLV
  clear h hF hBuf hXlo hnX hXlt hm hm2 he
  obtain ⟨a0, a1, a2, a3⟩ := e
  simp only [En.v] at *
  have K7 := Hid.mk (heap_alloc2_old w (.cells #[.int .i64 6, .int .i64 N, .int .i64 a0, .int .u64 a1, .int .i64 a2, .int .u64 a3, .slice adS nS capS] 34) (.cells #[.int .i64 a0, .int .u64 a1, .int .i64 a2, .int .u64 a3] 39))
  have K10 := Hid.mk (heap_alloc2_new w (.cells #[.int .i64 6, .int .i64 N, .int .i64 a0, .int .u64 a1, .int .i64 a2, .int .u64 a3, .slice adS nS capS] 34) (.cells #[.int .i64 a0, .int .u64 a1, .int .i64 a2, .int .u64 a3] 39))
  have HB2 := Hid.mk (below_tr (below_new w (.cells #[.int .i64 6, .int .i64 N, .int .i64 a0, .int .u64 a1, .int .i64 a2, .int .u64 a3, .slice adS nS capS] 34)) (below_new (w.alloc (.cells #[.int .i64 6, .int .i64 N, .int .i64 a0, .int .u64 a1, .int .i64 a2, .int .u64 a3, .slice adS nS capS] 34)) (.cells #[.int .i64 a0, .int .u64 a1, .int .i64 a2, .int .u64 a3] 39)))
  have HXB : Hid (¬ X w.heap.size ∧ ¬ X (w.heap.size + 1)) := ⟨fun hi => by have := HXLT.out _ hi; omega, fun hi => by have := HXLT.out _ hi; omega⟩
  go_enter Tryd.func8, Tryd.ntmps8
  go_upto_region 2 with fail
  generalize (w.alloc (.cells #[.int .i64 6, .int .i64 N, .int .i64 a0, .int .u64 a1, .int .i64 a2, .int .u64 a3, .slice adS nS capS] 34)).alloc (.cells #[.int .i64 a0, .int .u64 a1, .int .i64 a2, .int .u64 a3] 39) = w2 at *
  obtain ⟨k0, k1, k2, k3, k4, k5, k6⟩ := cells7o K7.out
  obtain ⟨q0, q1, q2, q3⟩ := cells4 K10.out
  go_wp2_with fail
  refine (HFV.out _ X (HBUF.out.later HB2.out)).mono ?_
  rintro e w4 ⟨rfl, hB4, ht4⟩
  have HPN := Hid.mk (HP.out.next HXLO.out HB2.out (HP.out.rl.later HB2.out) HNX.out ht4 hB4 (Or.inl rfl) HKT.out HKL.out)
  clear hB4 ht4 HFV k0 k1 k2 k3 k4 k5 k6 q0 q1 q2 q3 K7 K10
  go_wp2
  go_ret2
  exact ⟨_, _, _, rfl, HPN.out⟩

set_option linter.unusedVariables false in
set_option linter.unusedSimpArgs false in
set_option maxHeartbeats 2000000 in
set_option maxRecDepth 1000000 in
theorem step_7 {w0 w : World} {t : Nat} {most : Int} {l : List En} {ad : Option Addr} {cap : Nat} (h : PInv w0 w t most l ad cap) (hm : 1 ≤ most) (hm2 : most ≤ 64) (hF : Flds w0) (e : En) (he : e.ok) (N : Int) (adS : Option Addr) (nS capS : Nat) :
    Calls Tryd.prog 8 #[.pointer (some ⟨t, 0, none⟩), .int .i64 most, .slice ad l.length cap, .agg #[.int .i64 7, .int .i64 N, .int .i64 e.aid, .int .u64 e.va, .int .i64 e.lv, .int .u64 e.tb, .slice adS nS capS]] w fun r w' => ∃ l' ad' cap', r = .returned (.tuple #[.slice ad' l'.length cap', .bool true]) ∧ PInv w0 w' t most l' ad' cap' := by
  have HP := Hid.mk h
  have HF := Hid.mk hF
  obtain ⟨X, hBuf, hXlo, hnX⟩ := h.ex
  have hXlt := buf_lt hBuf
  have HBUF := Hid.mk hBuf
  have HXLO := Hid.mk hXlo
  have HNX := Hid.mk hnX
  have HXLT := Hid.mk hXlt
  have hlnI : (l.length : Int) ≤ 64 := by have := h.ln; omega
  have HLN : Hid (l.length ≤ 64) := by show _ ≤ _; omega
  have HMO := Hid.mk (And.intro hm hm2)
  have HLV : Hid (∀ x ∈ l, 1 ≤ x.lv ∧ x.lv ≤ 3) := fun x hx => (right_facts (h.rt x hx)).1
  have HFA : Hid (∀ W Y, Buf W Y t most l → Calls Tryd.prog 27 #[.pointer (some ⟨t, 0, none⟩)] W fun r w' => r = .returned (.int .i64 (l.length : Int)) ∧ Buf w' Y t most [] ∧ Turn Y W w') := fun W Y h1 => flushAll_c h1 (by have := HLN.out; omega)
  clear h hF hBuf hXlo hnX hXlt hm hm2 he HLV
  obtain ⟨a0, a1, a2, a3⟩ := e
  simp only [En.v] at *
  have K7 := Hid.mk (heap_alloc2_old w (.cells #[.int .i64 7, .int .i64 N, .int .i64 a0, .int .u64 a1, .int .i64 a2, .int .u64 a3, .slice adS nS capS] 34) (.cells #[.int .i64 a0, .int .u64 a1, .int .i64 a2, .int .u64 a3] 39))
  have K10 := Hid.mk (heap_alloc2_new w (.cells #[.int .i64 7, .int .i64 N, .int .i64 a0, .int .u64 a1, .int .i64 a2, .int .u64 a3, .slice adS nS capS] 34) (.cells #[.int .i64 a0, .int .u64 a1, .int .i64 a2, .int .u64 a3] 39))
  have HB2 := Hid.mk (below_tr (below_new w (.cells #[.int .i64 7, .int .i64 N, .int .i64 a0, .int .u64 a1, .int .i64 a2, .int .u64 a3, .slice adS nS capS] 34)) (below_new (w.alloc (.cells #[.int .i64 7, .int .i64 N, .int .i64 a0, .int .u64 a1, .int .i64 a2, .int .u64 a3, .slice adS nS capS] 34)) (.cells #[.int .i64 a0, .int .u64 a1, .int .i64 a2, .int .u64 a3] 39)))
  have HXB : Hid (¬ X w.heap.size ∧ ¬ X (w.heap.size + 1)) := ⟨fun hi => by have := HXLT.out _ hi; omega, fun hi => by have := HXLT.out _ hi; omega⟩
  go_enter Tryd.func8, Tryd.ntmps8
  go_upto_region 2 with fail
  generalize (w.alloc (.cells #[.int .i64 7, .int .i64 N, .int .i64 a0, .int .u64 a1, .int .i64 a2, .int .u64 a3, .slice adS nS capS] 34)).alloc (.cells #[.int .i64 a0, .int .u64 a1, .int .i64 a2, .int .u64 a3] 39) = w2 at *
  obtain ⟨k0, k1, k2, k3, k4, k5, k6⟩ := cells7o K7.out
  obtain ⟨q0, q1, q2, q3⟩ := cells4 K10.out
  go_wp2_with fail
  refine (HFA.out _ X (HBUF.out.later HB2.out)).mono ?_
  rintro e w4 ⟨rfl, hB4, ht4⟩
  have HPN : Hid (PInv w0 w4 t most [] none 0) := HP.out.next HXLO.out HB2.out ⟨RdA.nil _ _, Nat.zero_le _, Nat.zero_le _, Or.inl rfl, (fun a ha => by cases ha)⟩ (fun a ha => by cases ha) ht4 hB4 (Or.inl rfl) (fun x hx => by cases hx) (by have := HMO.out.1; show (0 : Int) ≤ most; omega)
  clear hB4 ht4 HFA k0 k1 k2 k3 k4 k5 k6 q0 q1 q2 q3 K7 K10
  go_wp2
  go_ret2
  exact ⟨[], _, _, rfl, HPN.out⟩

set_option linter.unusedVariables false in
set_option linter.unusedSimpArgs false in
set_option maxHeartbeats 2000000 in
set_option maxRecDepth 1000000 in
theorem step_0 {w0 w : World} {t : Nat} {most : Int} {l : List En} {ad : Option Addr} {cap : Nat} (h : PInv w0 w t most l ad cap) (hm : 1 ≤ most) (hm2 : most ≤ 64) (hF : Flds w0) (e : En) (he : e.ok) (N kd : Int) (hkd : ¬ (kd = 1 ∨ kd = 2 ∨ kd = 3 ∨ kd = 4 ∨ kd = 5 ∨ kd = 6 ∨ kd = 7)) (adS : Option Addr) (nS capS : Nat) :
    Calls Tryd.prog 8 #[.pointer (some ⟨t, 0, none⟩), .int .i64 most, .slice ad l.length cap, .agg #[.int .i64 kd, .int .i64 N, .int .i64 e.aid, .int .u64 e.va, .int .i64 e.lv, .int .u64 e.tb, .slice adS nS capS]] w fun r w' => ∃ l' ad' cap', r = .returned (.tuple #[.slice ad' l'.length cap', .bool true]) ∧ PInv w0 w' t most l' ad' cap' := by
  have HP := Hid.mk h
  have HF := Hid.mk hF
  obtain ⟨X, hBuf, hXlo, hnX⟩ := h.ex
  have hXlt := buf_lt hBuf
  have HBUF := Hid.mk hBuf
  have HXLO := Hid.mk hXlo
  have HNX := Hid.mk hnX
  have HXLT := Hid.mk hXlt
  have hlnI : (l.length : Int) ≤ 64 := by have := h.ln; omega
  have HLN : Hid (l.length ≤ 64) := by show _ ≤ _; omega
  have HMO := Hid.mk (And.intro hm hm2)
  have HLV : Hid (∀ x ∈ l, 1 ≤ x.lv ∧ x.lv ≤ 3) := fun x hx => (right_facts (h.rt x hx)).1
  have n1 : (kd == 1) = false := by rw [beq_eq_false_iff_ne]; omega
  have n2 : (kd == 2) = false := by rw [beq_eq_false_iff_ne]; omega
  have n3 : (kd == 3) = false := by rw [beq_eq_false_iff_ne]; omega
  have n4 : (kd == 4) = false := by rw [beq_eq_false_iff_ne]; omega
  have n5 : (kd == 5) = false := by rw [beq_eq_false_iff_ne]; omega
  have n6 : (kd == 6) = false := by rw [beq_eq_false_iff_ne]; omega
  have n7 : (kd == 7) = false := by rw [beq_eq_false_iff_ne]; omega
  clear h hF hBuf hXlo hnX hXlt hm hm2 he HLV hkd
  obtain ⟨a0, a1, a2, a3⟩ := e
  simp only [En.v] at *
  have K7 := Hid.mk (heap_alloc2_old w (.cells #[.int .i64 kd, .int .i64 N, .int .i64 a0, .int .u64 a1, .int .i64 a2, .int .u64 a3, .slice adS nS capS] 34) (.cells #[.int .i64 a0, .int .u64 a1, .int .i64 a2, .int .u64 a3] 39))
  have K10 := Hid.mk (heap_alloc2_new w (.cells #[.int .i64 kd, .int .i64 N, .int .i64 a0, .int .u64 a1, .int .i64 a2, .int .u64 a3, .slice adS nS capS] 34) (.cells #[.int .i64 a0, .int .u64 a1, .int .i64 a2, .int .u64 a3] 39))
  have HB2 := Hid.mk (below_tr (below_new w (.cells #[.int .i64 kd, .int .i64 N, .int .i64 a0, .int .u64 a1, .int .i64 a2, .int .u64 a3, .slice adS nS capS] 34)) (below_new (w.alloc (.cells #[.int .i64 kd, .int .i64 N, .int .i64 a0, .int .u64 a1, .int .i64 a2, .int .u64 a3, .slice adS nS capS] 34)) (.cells #[.int .i64 a0, .int .u64 a1, .int .i64 a2, .int .u64 a3] 39)))
  have HXB : Hid (¬ X w.heap.size ∧ ¬ X (w.heap.size + 1)) := ⟨fun hi => by have := HXLT.out _ hi; omega, fun hi => by have := HXLT.out _ hi; omega⟩
  go_enter Tryd.func8, Tryd.ntmps8
  go_upto_region 2 with fail
  generalize (w.alloc (.cells #[.int .i64 kd, .int .i64 N, .int .i64 a0, .int .u64 a1, .int .i64 a2, .int .u64 a3, .slice adS nS capS] 34)).alloc (.cells #[.int .i64 a0, .int .u64 a1, .int .i64 a2, .int .u64 a3] 39) = w2 at *
  obtain ⟨k0, k1, k2, k3, k4, k5, k6⟩ := cells7o K7.out
  obtain ⟨q0, q1, q2, q3⟩ := cells4 K10.out
  go_wp2
  go_ret2
  exact ⟨_, _, _, rfl, HP.out.later HB2.out⟩

end Go.Proofs.YtdpcbdbdacjcbaaDoor.TR

/- TrailPlays, first part: the steps that come in; a step of whatever kind. -/
namespace Go.Proofs.YtdpcbdbdacjcbaaDoor.TR.trailPlays
open Go.ChangeShapes Go.WideShapes Go.ChangeAt Go.RowKit Go.Lib Go.Maps Go.Joins Go.Deep

set_option maxRecDepth 100000 in
/-- A slice among cells, element by element. -/
theorem elems_trod {H : Type} {enc : TypeId × Value → H} {W : World} {fuel : Nat} {cs0 : List Value} {x : DataW H × List MemPlace} {tS tE : TypeId} {c : Nat} (hu : Tryd.prog.underlying tS = some (.slice tE)) (hc : Tryd.prog.cellsOf tE = c) (hc0 : 0 < c)
    (h : DataW.trod enc Tryd.prog W 0 (fun _ => true) true fuel tS cs0 = some x) :
    ∃ ad n cap, cs0 = [.slice ad n cap] ∧ n ≤ maxLen ∧ ∀ i, i < n → ∃ g o cs fuel x, ad = some ⟨g, o, none⟩ ∧ g < W.heap.size ∧ (∀ j u, cs[j]? = some u → W.cell? ⟨g, o + i * c + j, none⟩ = some u) ∧ DataW.trod enc Tryd.prog W 0 (fun _ => true) true fuel tE cs = some x := by
  rcases open_slice hu h with ⟨h0, _⟩ | ⟨a, len, cap', m, nn, D, Pl, hcs, hb, hl, hm, hmm, hx, hel⟩
  · exact ⟨none, 0, 0, h0, Nat.zero_le _, fun i hi => absurd hi (by omega)⟩
  · subst hcs
    simp only [if_true] at hmm
    subst hmm
    simp only [hc] at hel
    refine ⟨some a, len, _, rfl, by omega, fun i hi => ?_⟩
    obtain ⟨cs, hcc, ht⟩ := hel i (by omega)
    have hall := World.cells?_some hcc
    have hsp : a.spot = none := by
      obtain ⟨cs0, hc0', _⟩ := hel 0 (by omega)
      have hl0 := (World.cells?_some hc0').2.1
      have k0 := (World.cells?_some hc0').2.2 0 (by omega)
      have e0 : (a.add (0 * c)).add 0 = a := by simp [Addr.add]
      rw [e0] at k0
      have k1 : cs0[0]? ≠ none := by
        rw [Ne, List.getElem?_eq_none_iff]; omega
      cases hs : a.spot with
      | none => rfl
      | some u =>
        exfalso
        apply k1
        rw [← k0]
        unfold World.cell?
        rw [hs]
        split <;> simp
    have hadd : ∀ k, (a.add (i * c)).add k = ⟨a.block, a.off + i * c + k, none⟩ := fun k => by
      obtain ⟨b, o, s⟩ := a
      simp at hsp
      subst hsp
      unfold Addr.add
      by_cases e1 : i * c = 0
      · by_cases e2 : k = 0
        · simp [e1, e2]
        · simp [e1, e2]
      · by_cases e2 : k = 0
        · simp [e1, e2]
        · simp [e1, e2]
    have hcell : ∀ j u, cs[j]? = some u → W.cell? ⟨a.block, a.off + i * c + j, none⟩ = some u := fun j u hu => by
      have hj : j < cs.length := (List.getElem?_eq_some_iff.1 hu).1
      have := hall.2.2 j (by have := hall.2.1; omega)
      rw [hadd, hu] at this
      exact this
    have hlen : 0 < cs.length := by have := hall.2.1; omega
    refine ⟨a.block, a.off, cs, _, _, by obtain ⟨b, o, s⟩ := a; simp at hsp; subst hsp; rfl, ?_, hcell, ht⟩
    exact World.block_lt_of_cell? W ⟨a.block, a.off + i * c + 0, none⟩ (hcell 0 cs[0] (List.getElem?_eq_getElem hlen))

theorem list2 {α : Type} {l : List α} (h : l.length = 2) : ∃ c0 c1, l = [c0, c1] := by
  match l, h with
  | [c0, c1], _ => exact ⟨c0, c1, rfl⟩
set_option maxRecDepth 100000 in
theorem step_cells {H : Type} {enc : TypeId × Value → H} {w : World} {base : Nat} {spare : Nat → Bool} {held : Bool} {fuel : Nat} {cs : List Value} {x : DataW H × List MemPlace} (hf : DataW.trod enc Tryd.prog w base spare held fuel 64 cs = some x) : ∃ a v : Nat, cs = [.int .u64 (a : Int), .int .u64 (v : Int)] ∧ a < 18446744073709551616 ∧ v < 18446744073709551616 := by
  have hc : Tryd.prog.cellsOf 64 = 2 := by kernel_rfl
  have cu : Tryd.prog.cellsOf 29 = 1 := by kernel_rfl
  obtain ⟨xs, n, _, _, hsz, hlen, hx⟩ := DataW.trod_struct Tryd.underlying64 hf
  obtain ⟨c0, c1, rfl⟩ := list2 (hsz.trans hc)
  have hsome : ∀ i, i < 2 → ∃ y, xs[i]? = some y := fun i hi => ⟨xs[i]'(by rw [hlen]; exact hi), by simp⟩
  obtain ⟨y0, q0⟩ := hsome 0 (by omega)
  obtain ⟨y1, q1⟩ := hsome 1 (by omega)
  have h0 := (hx 0 _ rfl).trans q0
  have h1 := (hx 1 _ rfl).trans q1
  obtain ⟨z0, e0, _, w0⟩ := DataW.trod_int Tryd.underlying29 h0
  obtain ⟨z1, e1, _, w1⟩ := DataW.trod_int Tryd.underlying29 h1
  simp [cu] at e0 e1
  subst e0 e1
  obtain ⟨z0, rfl⟩ := Int.eq_ofNat_of_zero_le (bounds_u64 w0).1
  obtain ⟨z1, rfl⟩ := Int.eq_ofNat_of_zero_le (bounds_u64 w1).1
  exact ⟨z0, z1, rfl, by have := (bounds_u64 w0).2; omega, by have := (bounds_u64 w1).2; omega⟩
set_option maxRecDepth 100000 in
theorem steps_cells {H : Type} {enc : TypeId × Value → H} {W : World} {fuel : Nat} {cs : List Value} {x : DataW H × List MemPlace} (hf : DataW.trod enc Tryd.prog W 0 (fun _ => true) true fuel 32 cs = some x) : ∃ ad n cap A V, cs = [.slice ad n cap] ∧ StepsAt W ad n A V := by
  obtain ⟨ad, n, cap, rfl, hn, hel⟩ := elems_trod (c := 2) Tryd.underlying32 (by kernel_rfl) (by decide) hf
  have each : ∀ i, ∃ q : Nat × Nat, q.1 < 18446744073709551616 ∧ q.2 < 18446744073709551616 ∧ (i < n → ∃ g o, ad = some ⟨g, o, none⟩ ∧ g < W.heap.size ∧ W.cell? ⟨g, o + i * 2, none⟩ = some (.int .u64 (q.1 : Nat)) ∧ W.cell? ⟨g, o + i * 2 + 1, none⟩ = some (.int .u64 (q.2 : Nat))) := fun i => by
    by_cases hi : i < n
    · obtain ⟨g, o, cs, fuel, x, e1, hg, hc, ht⟩ := hel i hi
      obtain ⟨a, v, rfl, ha, hv⟩ := step_cells ht
      exact ⟨(a, v), ha, hv, fun _ => ⟨g, o, e1, hg, hc 0 _ rfl, hc 1 _ rfl⟩⟩
    · exact ⟨(0, 0), by decide, by decide, fun h => absurd h hi⟩
  refine ⟨ad, n, cap, fun i => (each i).choose.1, fun i => (each i).choose.2, rfl, fun i hi => (each i).choose_spec.2.2 hi, fun i => (each i).choose_spec.1, fun i => (each i).choose_spec.2.1⟩

/-- A step: its kind, its number, its mark, its words. -/
structure St where
  kd : Int
  nn : Int
  e : En
  ad : Option Addr
  n : Nat
  cap : Nat
  A : Nat → Nat
  V : Nat → Nat
def St.cs (q : St) : List Value := [.int .i64 q.kd, .int .i64 q.nn, .int .i64 q.e.aid, .int .u64 (q.e.va : Int), .int .i64 q.e.lv, .int .u64 (q.e.tb : Int), .slice q.ad q.n q.cap]
def s0 : St := ⟨0, 0, e0, none, 0, 0, fun _ => 0, fun _ => 0⟩
structure St.ok (W : World) (q : St) : Prop where
  e : q.e.ok
  n1 : -9223372036854775808 ≤ q.nn
  n2 : q.nn ≤ 9223372036854775807
  st : StepsAt W q.ad q.n q.A q.V
theorem s0_ok (W : World) : s0.ok W := ⟨e0_ok, by decide, by decide, ⟨fun i hi => absurd hi (Nat.not_lt_zero _), fun _ => show 0 < 18446744073709551616 by decide, fun _ => show 0 < 18446744073709551616 by decide⟩⟩
def gO (l : List St) (i : Nat) : St := l.getD i s0
theorem gO_pos (l : List St) (i : Nat) (h : i < l.length) : gO l i = l[i] := by
  unfold gO
  rw [List.getD_eq_getElem?_getD, List.getElem?_eq_getElem h]; rfl
def OpsRd (w : World) (ad : Option Addr) (l : List St) : Prop :=
  ∀ i, i < l.length → ∃ g o, ad = some ⟨g, o, none⟩ ∧ g < w.heap.size ∧ ∀ j u, (St.cs (gO l i))[j]? = some u → w.cell? ⟨g, o + i * 7 + j, none⟩ = some u

theorem list7 {α : Type} {l : List α} (h : l.length = 7) : ∃ c0 c1 c2 c3 c4 c5 c6, l = [c0, c1, c2, c3, c4, c5, c6] := by
  match l, h with
  | [c0, c1, c2, c3, c4, c5, c6], _ => exact ⟨c0, c1, c2, c3, c4, c5, c6, rfl⟩
set_option maxRecDepth 100000 in
theorem op_cells {H : Type} {enc : TypeId × Value → H} {W : World} {fuel : Nat} {cs : List Value} {x : DataW H × List MemPlace} (hf : DataW.trod enc Tryd.prog W 0 (fun _ => true) true fuel 34 cs = some x) : ∃ q : St, cs = St.cs q ∧ q.ok W := by
  have hc : Tryd.prog.cellsOf 34 = 7 := by kernel_rfl
  have ci : Tryd.prog.cellsOf 3 = 1 := by kernel_rfl
  have cm : Tryd.prog.cellsOf 31 = 4 := by kernel_rfl
  have cs1 : Tryd.prog.cellsOf 32 = 1 := by kernel_rfl
  obtain ⟨xs, n, _, _, hsz, hlen, hx⟩ := DataW.trod_struct Tryd.underlying34 hf
  obtain ⟨c0, c1, c2, c3, c4, c5, c6, rfl⟩ := list7 (hsz.trans hc)
  have hsome : ∀ i, i < 4 → ∃ y, xs[i]? = some y := fun i hi => ⟨xs[i]'(by rw [hlen]; exact hi), by simp⟩
  obtain ⟨y0, q0⟩ := hsome 0 (by omega)
  obtain ⟨y1, q1⟩ := hsome 1 (by omega)
  obtain ⟨y2, q2⟩ := hsome 2 (by omega)
  obtain ⟨y3, q3⟩ := hsome 3 (by omega)
  have h0 := (hx 0 _ rfl).trans q0
  have h1 := (hx 1 _ rfl).trans q1
  have h2 := (hx 2 _ rfl).trans q2
  have h3 := (hx 3 _ rfl).trans q3
  obtain ⟨z0, e0, _, _⟩ := DataW.trod_int Tryd.underlying3 h0
  obtain ⟨z1, e1, _, w1⟩ := DataW.trod_int Tryd.underlying3 h1
  obtain ⟨e, e2, he⟩ := entry_cells h2
  obtain ⟨ad, k, cap, A, V, e3, hst⟩ := steps_cells h3
  have b1 := bounds_i64 w1
  simp [ci] at e0 e1
  have e4 : [c2, c3, c4, c5] = e.cs := by
    have h5 : [c2, c3, c4, c5, c6].take (Tryd.prog.cellsOf 31) = e.cs := e2
    rw [cm] at h5
    exact h5
  have e5 : [c6] = [.slice ad k cap] := by
    have h6 : [c6].take (Tryd.prog.cellsOf 32) = [.slice ad k cap] := e3
    rw [cs1] at h6
    exact h6
  obtain ⟨b0, b1', b2, b3⟩ := e
  simp only [En.cs, List.cons.injEq, and_true] at e4 e5
  obtain ⟨rfl, rfl, rfl, rfl⟩ := e4
  subst e0 e1 e5
  exact ⟨⟨z0, z1, ⟨b0, b1', b2, b3⟩, ad, k, cap, A, V⟩, rfl, ⟨he, b1.1, b1.2, hst⟩⟩

set_option maxRecDepth 100000 in
theorem open_ops {H : Type} {enc : TypeId × Value → H} {W : World} {base : Nat} {v : Value} {d : DataW H} {p : List MemPlace} (hok : Value.okWide Tryd.prog W .any base 22 v)
    (h : DataW.Trod enc Tryd.prog W 0 (fun _ => true) true 22 v d p) : ∃ ad cap, ∃ l : List St, v = .slice ad l.length cap ∧ l.length ≤ maxLen ∧ OpsRd W ad l ∧ ∀ q ∈ l, q.ok W := by
  obtain ⟨ad, n, cap, rfl, hn, hel⟩ := open_elems (c := 7) Tryd.underlying22 (by kernel_rfl) (by decide) hok h
  have each : ∀ i, ∃ q : St, q.ok W ∧ (i < n → ∃ g o, ad = some ⟨g, o, none⟩ ∧ g < W.heap.size ∧ ∀ j u, (St.cs q)[j]? = some u → W.cell? ⟨g, o + i * 7 + j, none⟩ = some u) := fun i => by
    by_cases hi : i < n
    · obtain ⟨g, o, cs, fuel, x, e1, hg, hc, ht⟩ := hel i hi
      obtain ⟨q, rfl, he⟩ := op_cells ht
      exact ⟨q, he, fun _ => ⟨g, o, e1, hg, hc⟩⟩
    · exact ⟨s0, s0_ok W, fun h => absurd h hi⟩
  obtain ⟨f, hf⟩ : ∃ f : Nat → St, ∀ i, (f i).ok W ∧ (i < n → ∃ g o, ad = some ⟨g, o, none⟩ ∧ g < W.heap.size ∧ ∀ j u, (St.cs (f i))[j]? = some u → W.cell? ⟨g, o + i * 7 + j, none⟩ = some u) := ⟨fun i => (each i).choose, fun i => (each i).choose_spec⟩
  have hl : ((List.range n).map f).length = n := by simp
  refine ⟨ad, cap, (List.range n).map f, by rw [hl], by rw [hl]; exact hn, fun i hi => ?_, fun e he => ?_⟩
  · have hi' : i < n := by rw [← hl]; exact hi
    have e1 : (gO ((List.range n).map f) i) = f i := by rw [gO_pos _ i hi]; simp
    rw [e1]
    exact (hf i).2 hi'
  · obtain ⟨i, _, rfl⟩ := List.mem_map.1 he
    exact (hf i).1

theorem step_any {w0 w : World} {t : Nat} {most : Int} {l : List En} {ad : Option Addr} {cap : Nat} (h : PInv w0 w t most l ad cap) (hm : 1 ≤ most) (hm2 : most ≤ 64) (hF : Flds w0) (q : St) (hq : q.ok w0) (hn : q.n ≤ 9) :
    Calls Tryd.prog 8 #[.pointer (some ⟨t, 0, none⟩), .int .i64 most, .slice ad l.length cap, .agg #[.int .i64 q.kd, .int .i64 q.nn, .int .i64 q.e.aid, .int .u64 q.e.va, .int .i64 q.e.lv, .int .u64 q.e.tb, .slice q.ad q.n q.cap]] w fun r w' => ∃ l' ad' cap', r = .returned (.tuple #[.slice ad' l'.length cap', .bool true]) ∧ PInv w0 w' t most l' ad' cap' := by
  obtain ⟨kd, nn, e, adS, nS, capS, A, V⟩ := q
  obtain ⟨he, hn1, hn2, hst⟩ := hq
  simp only at *
  by_cases h1 : kd = 1
  · subst h1; exact step_1 h hm hm2 hF e he nn adS nS capS
  by_cases h2 : kd = 2
  · subst h2; exact step_2 h hm hm2 hF e he nn adS nS capS
  by_cases h3 : kd = 3
  · subst h3; exact step_3 h hm hm2 hF e he nn hn1 hn2 adS nS capS A V hn hst
  by_cases h4 : kd = 4
  · subst h4
    by_cases hN : nn < 0 ∨ (l.length : Int) ≤ nn
    · exact step_4n h hm hm2 hF e he nn hN adS nS capS
    · obtain ⟨n, rfl⟩ := Int.eq_ofNat_of_zero_le (show 0 ≤ nn by omega)
      exact step_4 h hm hm2 hF e he n (by omega) adS nS capS
  by_cases h5 : kd = 5
  · subst h5; exact step_5 h hm hm2 hF e he nn adS nS capS
  by_cases h6 : kd = 6
  · subst h6
    by_cases h0 : 0 ≤ e.aid
    · exact step_6 h hm hm2 hF e he nn h0 adS nS capS
    · exact step_6n h hm hm2 hF e he nn (by omega) adS nS capS
  by_cases h7 : kd = 7
  · subst h7; exact step_7 h hm hm2 hF e he nn adS nS capS
  exact step_0 h hm hm2 hF e he nn kd (by omega) adS nS capS

end Go.Proofs.YtdpcbdbdacjcbaaDoor.TR.trailPlays

namespace Go.Proofs.YtdpcbdbdacjcbaaDoor.TR.trailPlays
open Go.ChangeShapes Go.WideShapes Go.ChangeAt Go.RowKit Go.Lib

set_option maxHeartbeats 1000000 in
set_option maxRecDepth 100000 in
theorem walk_long (most : Int) (ad : Option Addr) (cap n : Nat) (w : World) (hn2 : 60 < n) (hF : Flds w) :
    Calls Tryd.prog 3 #[.int .i64 most, .slice ad n cap] w fun r w' => r = .returned (.bool true) ∧ Below w.heap.size w w' := by
  have hnI : (60 : Int) < (n : Int) := by omega
  clear hn2
  go_enter Tryd.func3, Tryd.ntmps3
  go_wp2_with fail
  refine (tanchor_any _ hF).mono ?_
  rintro e w1 ⟨rfl, hb1⟩
  go_wp2
  go_ret
  exact ⟨rfl, hb1⟩

set_option maxHeartbeats 1000000 in
set_option maxRecDepth 100000 in
theorem walk_bad (most : Int) (ad : Option Addr) (cap n : Nat) (w : World) (hn2 : n ≤ 60) (hm : most < 1 ∨ 64 < most) (hF : Flds w) :
    Calls Tryd.prog 3 #[.int .i64 most, .slice ad n cap] w fun r w' => r = .returned (.bool true) ∧ Below w.heap.size w w' := by
  have hnI : (n : Int) ≤ (60 : Int) := by omega
  have hN := fun w1 => new_bad most hm w1
  clear hn2
  by_cases h1 : most < 1
  · have d1 : decide (most < 1) = true := decide_eq_true h1
    clear hm
    go_enter Tryd.func3, Tryd.ntmps3
    go_wp2_with fail
    refine (tanchor_any _ hF).mono ?_
    rintro e w1 ⟨rfl, hb1⟩
    go_wp2_with fail
    refine (hN _).mono ?_
    rintro e w2 ⟨rfl, rfl⟩
    go_wp2
    go_ret
    exact ⟨rfl, hb1⟩
  · have d1 : decide (most < 1) = false := decide_eq_false h1
    have h2 : 64 < most := by omega
    have d2 : decide (64 < most) = true := decide_eq_true h2
    clear hm
    go_enter Tryd.func3, Tryd.ntmps3
    go_wp2_with fail
    refine (tanchor_any _ hF).mono ?_
    rintro e w1 ⟨rfl, hb1⟩
    go_wp2_with fail
    refine (hN _).mono ?_
    rintro e w2 ⟨rfl, rfl⟩
    go_wp2
    go_ret
    exact ⟨rfl, hb1⟩

set_option maxHeartbeats 2000000 in
set_option maxRecDepth 100000 in
theorem walk_short (most : Int) (ad : Option Addr) (cap : Nat) (ops : List St) (w : World) (hn : ops.length ≤ 60) (hm1 : 1 ≤ most) (hm2 : most ≤ 64) (hr : OpsRd w ad ops) (hok : ∀ q ∈ ops, q.ok w) (hF : Flds w) :
    Calls Tryd.prog 3 #[.int .i64 most, .slice ad ops.length cap] w fun r w' => r = .returned (.bool true) ∧ Below w.heap.size w w' := by
  have HF := Hid.mk hF
  have HR := Hid.mk hr
  have hnI : (ops.length : Int) ≤ 60 := by omega
  have HOK : Hid (∀ i, i < ops.length → (gO ops i).ok w) := fun i hi => hok _ (by rw [gO_pos ops i hi]; exact List.getElem_mem hi)
  have HM := Hid.mk (And.intro hm1 hm2)
  have d1 : decide (most < 1) = false := decide_eq_false (by omega)
  have d2 : decide (64 < most) = false := decide_eq_false (by omega)
  clear hr hok hn
  go_enter Tryd.func3, Tryd.ntmps3
  go_wp2_with fail
  refine (tanchor_any _ hF).mono ?_
  rintro e w1 ⟨rfl, hb1⟩
  clear hF
  have HB1 := Hid.mk hb1
  clear hb1
  go_wp2_with fail
  refine (new_ok most hm1 hm2 _).mono ?_
  rintro e w2 ⟨rfl, hb2, hB2⟩
  have HP2 : Hid (PInv w w2 w1.heap.size most [] none 0) := ⟨⟨_, hB2, (fun j hj => by rw [hj]; exact HB1.out.size), (fun a ha => by cases ha)⟩, below_tr HB1.out hb2, ⟨RdA.nil _ _, Nat.zero_le _, Nat.zero_le _, Or.inl rfl, (fun a ha => by cases ha)⟩, (fun x hx => by cases hx), (by show (0 : Int) ≤ most; omega)⟩
  clear hb2 hB2 HB1 hm1 hm2
  generalize w1.heap.size = t at *
  go_wp2
  go_loopw [7, 9, 10, 11, 12, 13, 44] (fun s7 _ _ _ _ _ s44 wr => ∃ (i : Nat) (l : List En) (adl : Option Addr) (capl : Nat), i ≤ ops.length ∧ s44 = .int .i64 (i : Nat) ∧ s7 = .slice adl l.length capl ∧ PInv w wr t most l adl capl) (fun _ _ _ _ _ _ s44 _ => ops.length - (RowKit.intOf s44).toNat)
  case atStart => exact ⟨0, [], none, 0, by omega, rfl, rfl, HP2.out⟩
  case round =>
    obtain ⟨i, l, adl, capl, hi, rfl, rfl, hP⟩ := hrel
    have HP := Hid.mk hP
    clear hP HP2
    by_cases hlt : i < ops.length
    · have hlt2 : (i : Int) < ops.length := by omega
      have HLT := Hid.mk hlt
      have hib : (i : Int) < 1000 := by omega
      obtain ⟨g, o, rfl, hg, hc⟩ := HR.out i hlt
      have hb := HP.out.bel
      have hoki := HOK.out i hlt
      have HST : Hid (∀ W, PInv w W t most l adl capl → (gO ops i).n ≤ 9 → Calls Tryd.prog 8 #[.pointer (some ⟨t, 0, none⟩), .int .i64 most, .slice adl l.length capl, .agg #[.int .i64 (gO ops i).kd, .int .i64 (gO ops i).nn, .int .i64 (gO ops i).e.aid, .int .u64 (gO ops i).e.va, .int .i64 (gO ops i).e.lv, .int .u64 (gO ops i).e.tb, .slice (gO ops i).ad (gO ops i).n (gO ops i).cap]] W fun r w' => ∃ l' ad' cap', r = .returned (.tuple #[.slice ad' l'.length cap', .bool true]) ∧ PInv w w' t most l' ad' cap') := fun W hW h9 => step_any hW HM.out.1 HM.out.2 HF.out (gO ops i) hoki h9
      have e0' := cell_later hb (hc 0 _ rfl)
      have e1' := cell_later hb (hc 1 _ rfl)
      have e2' := cell_later hb (hc 2 _ rfl)
      have e3' := cell_later hb (hc 3 _ rfl)
      have e4' := cell_later hb (hc 4 _ rfl)
      have e5' := cell_later hb (hc 5 _ rfl)
      have e6' := cell_later hb (hc 6 _ rfl)
      rw [Nat.add_zero] at e0'
      clear hc hb hi hlt hg hoki
      generalize (gO ops i) = y at *
      obtain ⟨kd, nn, ⟨b0, b1, b2, b3⟩, adS, nS, capS, A, V⟩ := y
      simp only at *
      by_cases h9 : nS ≤ 9
      · have hd9 : decide ((9 : Int) < (nS : Int)) = false := decide_eq_false (by omega)
        have h9I : ¬ (9 : Int) < (nS : Int) := by omega
        have HCA := Hid.mk (fun W hW => HST.out W hW h9)
        clear HST h9
        go_wp2_with fail
        refine (HCA.out _ (HP.out.later (below_new _ _))).mono ?_
        rintro e w' ⟨l', ad', cap', rfl, hP'⟩
        have HP' := Hid.mk hP'
        obtain ⟨X, hBf, -, -⟩ := hP'.ex
        have hln := hP'.ln
        have hlm : ¬ most < (l'.length : Int) := by omega
        have hl64 : (l'.length : Int) ≤ 64 := by have := HM.out.2; omega
        have HLI := Hid.mk (list_c hBf (by omega))
        clear HCA e0' e1' e2' e3' e4' e5' e6' hP' hBf HP
        go_wp2_with fail
        refine HLI.out.mono ?_
        rintro e w3 ⟨adg, capg, rfl, hrg, -, hb3⟩
        have HRG := Hid.mk hrg
        have HRR := Hid.mk (HP'.out.rl.rd.later hb3)
        have HP3 := Hid.mk (HP'.out.later hb3)
        clear HLI hrg hb3 HP'
        go_wp2
        go_loopw [12, 13, 77] (fun _ _ s77 wq => ∃ j : Nat, j ≤ l'.length ∧ s77 = .int .i64 (j : Nat) ∧ Below w3.heap.size w3 wq) (fun _ _ s77 _ => l'.length - (RowKit.intOf s77).toNat)
        case atStart => exact ⟨0, by omega, rfl, Below.refl _ _⟩
        case round =>
          obtain ⟨j, hj, rfl, hb⟩ := hrel
          have HB := Hid.mk hb
          by_cases hjl : j < l'.length
          · have hjl2 : (j : Int) < l'.length := by omega
            have HJL := Hid.mk hjl
            have hjb : (j : Int) < 1000 := by omega
            obtain ⟨g1, o1, rfl, hg1, hc1⟩ := HRG.out j hjl
            obtain ⟨g2, o2, rfl, hg2, hc2⟩ := HRR.out j hjl
            have f0 := cell_later hb (hc1 0 _ rfl)
            have f1 := cell_later hb (hc1 1 _ rfl)
            have f2 := cell_later hb (hc1 2 _ rfl)
            have f3 := cell_later hb (hc1 3 _ rfl)
            rw [Nat.add_zero] at f0
            have hne := fun W => neR (gE l' j) W
            have HC2 := Hid.mk hc2
            clear hc1 hc2 hb hj hjl hg1 hg2
            generalize (gE l' j) = y at *
            obtain ⟨y0, y1, y2, y3⟩ := y
            simp only [En.v, En.cs] at *
            go_upto_region 26 with fail
            have HB5 := Hid.mk (below_tr HB.out (below_new wr (.cells #[.int .i64 y0, .int .u64 y1, .int .i64 y2, .int .u64 y3] 31)))
            have K7 := heap_alloc_new wr (.cells #[.int .i64 y0, .int .u64 y1, .int .i64 y2, .int .u64 y3] 31)
            clear f0 f1 f2 f3 HB
            generalize wr.heap.size = B7 at *
            generalize wr.alloc (.cells #[.int .i64 y0, .int .u64 y1, .int .i64 y2, .int .u64 y3] 31) = w5 at *
            obtain ⟨q0, q1, q2, q3⟩ := cells4 K7
            have hb := HB5.out
            have f0 := cell_later hb (HC2.out 0 _ rfl)
            have f1 := cell_later hb (HC2.out 1 _ rfl)
            have f2 := cell_later hb (HC2.out 2 _ rfl)
            have f3 := cell_later hb (HC2.out 3 _ rfl)
            rw [Nat.add_zero] at f0
            clear hb K7 HC2
            go_quiet (fail)
            go_wp2
            go_roundw
            case rel => exact ⟨j + 1, by have := HJL.out; omega, by go_num, below_dN HB5.out _⟩
            case measure => have := HJL.out; simp [RowKit.intOf]; omega
          · have hjl2 : ¬ (j : Int) < l'.length := by omega
            clear hjl hj hb HRG HRR
            go_wp2
            go_roundw
            case rel => exact ⟨i + 1, l', ad', cap', by have := HLT.out; omega, by go_num, rfl, HP3.out.later HB.out⟩
            case measure => have := HLT.out; simp [RowKit.intOf]; omega
      · have h9I : (9 : Int) < (nS : Int) := by omega
        clear HST h9
        go_wp2
        go_ret
        exact ⟨rfl, below_tr HP.out.bel (below_new _ _)⟩
    · have hlt2 : ¬ (i : Int) < ops.length := by omega
      clear hlt hi
      go_wp2
      go_ret
      exact ⟨rfl, HP.out.bel⟩

theorem walk (most : Int) (ad : Option Addr) (cap : Nat) (ops : List St) (w : World) (_ : ops.length ≤ maxLen) (hr : OpsRd w ad ops) (hok : ∀ q ∈ ops, q.ok w) (hF : Flds w) :
    Calls Tryd.prog 3 #[.int .i64 most, .slice ad ops.length cap] w fun r w' => r = .returned (.bool true) ∧ Below w.heap.size w w' := by
  by_cases h : ops.length ≤ 60
  · by_cases h1 : most < 1 ∨ 64 < most
    · exact walk_bad most ad cap ops.length w h h1 hF
    · exact walk_short most ad cap ops w h (by omega) (by omega) hr hok hF
  · exact walk_long most ad cap ops.length w (by omega) hF

theorem met {W : World} (h : laidMet Tryd.prog Rows.trailPlaysRow.laid W) : Flds W := by
  have h1 := pair_of_reads (g := 1) (by kernel_rfl) (by kernel_rfl) (Lib.laidMet.reads h (n := "portreeve/desc.outField") (d := Rows.laid_portreeve_desc_outField) (by simp [Rows.trailPlaysRow]))
  have h2 := pair_of_reads (g := 2) (by kernel_rfl) (by kernel_rfl) (Lib.laidMet.reads h (n := "portreeve/desc.attrField") (d := Rows.laid_portreeve_desc_attrField) (by simp [Rows.trailPlaysRow]))
  have h3 := pair_of_reads (g := 0) (by kernel_rfl) (by kernel_rfl) (Lib.laidMet.reads h (n := "portreeve/trail.tableField") (d := Rows.laid_portreeve_trail_tableField) (by simp [Rows.trailPlaysRow]))
  exact ⟨⟨h1.1, h1.2, h2.1, h2.2⟩, h3.1, h3.2⟩

theorem own : ownKnob Tryd.prog.godebug = none := by kernel_rfl
theorem laidOut : laidOutB Tryd.prog = true := by kernel_rfl

set_option linter.unusedVariables false in
set_option maxRecDepth 100000 in
theorem contract (H : Type) (enc : TypeId × Value → H) (W : World) (base : Nat) (args : Array Value) (ds gs : List (DataW H)) (before : List MemPlace)
    (hval0 : ∀ (j : Nat) t v, Tryd.f3.params[j]? = some t → args[j]? = some v → Value.okWide Tryd.prog W .any base t v)
    (hW : DataW.Whole enc Tryd.prog Tryd.f3.params.toList Rows.trailPlaysSpec.vars false W args.toList ds gs before) (hL0 : laidMetH Tryd.prog Rows.trailPlaysRow.laid W) :
    Calls Tryd.prog 3 args W fun e W' => ∃ v, e = .returned v ∧ Rows.trailPlaysSpec.post enc Tryd.prog Tryd.f3 false true false false W args v W' := by
  have hL := hL0
  rw [MakeChecks.laidMetH_plain _ _ _ (by kernel_rfl)] at hL
  have hval := hval0
  have hW' := hW
  obtain ⟨p, q, hA0, hV, rfl, hfz, hnd⟩ := hW
  have hA : DataW.TrodAll enc Tryd.prog W 0 (fun _ => true) true Tryd.f3.params.toList args.toList ds p := hA0
  rw [Tryd.params3] at hA hval
  obtain ⟨v0, vs0, d0, ds0, p0, q0, hargs, rfl, rfl, h0, r0⟩ := trodAll_cons hA
  obtain ⟨v1, vs1, d1, ds1, p1, q1, rfl, rfl, rfl, h1, r1⟩ := trodAll_cons r0
  obtain ⟨rfl, rfl, rfl⟩ := trodAll_nil r1
  obtain rfl : args = #[v0, v1] := by cases args; simp_all
  obtain ⟨rfl, rfl⟩ := trodVars_none hV
  have k0 := h0
  have lt0 : ∀ x ∈ p0, x.block < W.heap.size := by obtain ⟨m, hm⟩ := k0; exact DataW.trod_lt m _ _ _ hm
  have k1 := h1
  have lt1 : ∀ x ∈ p1, x.block < W.heap.size := by obtain ⟨m, hm⟩ := k1; exact DataW.trod_lt m _ _ _ hm
  obtain ⟨a0, rfl, _, _, w0⟩ := open_int Tryd.underlying3 (hval 0 3 v0 rfl rfl) h0
  obtain ⟨ad1, cap1, l1, rfl, mx1, rd1, ok1⟩ := open_ops (hval 1 22 v1 rfl rfl) h1
  clear hA0 hval0
  refine (walk a0 ad1 cap1 l1 W mx1 rd1 ok1 (met hL)).mono fun e W' ⟨he, bel⟩ => ?_
  subst he
  exact ⟨_, rfl, _, _, _, [], _, [], hW', trodAll_mk1 (shut_bool Tryd.underlying4 _), (trodAll_cons_mk (Below.trod laidOut (by kernel_rfl) (of_decide_eq_true (by kernel_rfl)) k0 bel lt0) (trodAll_cons_mk (Below.trod laidOut (by kernel_rfl) (of_decide_eq_true (by kernel_rfl)) k1 bel lt1) trodAll_mk0)), rfl, bel.frame _, fun h => by cases h⟩

theorem laid_met (os : Os) : laidMet Tryd.prog Rows.trailPlaysRow.laid ((World.laidAll Tryd.prog os Rows.trailPlaysRow.laid).forCall (fun _ _ => 0) ⟨#[], #[.int .i64 0, .slice none 0 0], []⟩).memory :=
  laidMet_laidAll _ (by kernel_rfl) (by kernel_rfl)
theorem reads (os : Os) {H : Type} (enc : TypeId × Value → H) : ∃ places, DataW.whole enc Tryd.prog ((World.laidAll Tryd.prog os Rows.trailPlaysRow.laid).forCall (fun _ _ => 0) ⟨#[], #[.int .i64 0, .slice none 0 0], []⟩).memory Tryd.f3.params.toList Rows.trailPlaysSpec.vars false (#[.int .i64 0, .slice none 0 0] : Array Value).toList 8 = some ([.lit (.int .i64 0), .nil], [], places) :=
  ⟨[], by kernel_rfl⟩

set_option maxRecDepth 100000 in
theorem lifted (os : Os) (started : os.Started) (H : Type) (enc : TypeId × Value → H) (F : Stop.Interp) :
    ReturnsInHanded {} Tryd.checked os 3 .any ((OpenSpec.ofChange Rows.trailPlaysSpec).preRow enc Tryd.prog Tryd.f3 Rows.trailPlaysRow.domain false Rows.trailPlaysRow.laid) (((OpenSpec.ofChange Rows.trailPlaysSpec).at F).post enc Tryd.prog Tryd.f3 false true false false) := by
  obtain ⟨places, hx⟩ := reads os enc
  refine returnsInHanded_of_row (C := Tryd.checked) (s := (OpenSpec.ofChange Rows.trailPlaysSpec)) own started (by kernel_rfl) Tryd.func3
    (witness_row_at (enc := enc) (C := Tryd.checked) false (World.laidAll Tryd.prog os Rows.trailPlaysRow.laid) #[.int .i64 0, .slice none 0 0] (World.laidAll_os _ _ _) (by kernel_rfl) (by kernel_rfl) (by kernel_rfl)
      (OpenSpec.preRow_of_cond 8 hx (by kernel_rfl) (fun k hk => by cases hk) (by kernel_rfl) (laid_met os))) ?_
  intro W base args ds gs before hval hW _ _ _ hL _ _
  exact contract H enc W base args ds gs before hval hW hL

theorem said : Rows.TrailPlaysSaid :=
  OpenClaim.holds_of_cond 3 Tryd.f3 rfl rfl rfl rfl rfl rfl rfl ⟨rfl, rfl, rfl, rfl, rfl⟩ rfl rfl rfl rfl rfl (by kernel_rfl) Tryd.func3 (by kernel_rfl)
    (of_decide_eq_true (by kernel_rfl)) (by unfold Func.isWrapper; first | (rw [if_pos (by decide +kernel)]; kernel_rfl) | (rw [if_neg (by decide +kernel)]; exact ⟨rfl, rfl⟩))
    (fun os started H enc _ F => by rw [OpenClaim.pre_eq_preRow]; exact lifted os started H enc F)

theorem plain (f : FuncId) (fn : Func) (hf : Tryd.pinned.checked.prog.funcNamed "portreeve/portreevelaw08.TrailPlays" = some f) (hfn : Tryd.pinned.checked.prog.funcs[f]? = some fn) :
    false = Tryd.pinned.checked.prog.looks [] ∧ ∀ (j : Nat) t, fn.params[j]? = some t → Tryd.pinned.checked.prog.wantsStandIn t = false := by
  obtain rfl : f = 3 := Option.some.inj ((show Tryd.prog.funcNamed "portreeve/portreevelaw08.TrailPlays" = some 3 by kernel_rfl).symm.trans hf) |>.symm
  obtain rfl : fn = Tryd.f3 := (Option.some.inj (Tryd.func3.symm.trans hfn)).symm
  refine ⟨by kernel_rfl, fun j t ht => ?_⟩
  rw [Tryd.params3] at ht
  have hm : t ∈ [3, 22] := by simpa using Array.mem_of_getElem? ht
  have hall : ([3, 22].all fun u => !Tryd.prog.wantsStandIn u) = true := by kernel_rfl
  exact (show Tryd.prog.wantsStandIn t = false by simpa using List.all_eq_true.1 hall t hm)

theorem card : Rows.TrailPlaysCardSaid :=
  Claim7.holds_tied_plain_at .later [] _ _ _ _ said (fun _ h => by cases h) (by kernel_rfl) (fun _ h => by cases h) trailPlays_row_tie rfl ⟨rfl, rfl⟩ (by kernel_rfl) rfl plain (by kernel_rfl)

end Go.Proofs.YtdpcbdbdacjcbaaDoor.TR.trailPlays
