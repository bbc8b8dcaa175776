/- Machines: accesses. -/
import Derived.Test.YtndjhedoandinaaGreatDoorMmP1

/- Machines: walked. -/
namespace Go.Proofs.YtndjhedoandinaaGreatDoor.MM
open Go.RowKit Go.Maps

theorem info_bool : (Tryz.prog.info? 4).map (·.size) = some 1 := by kernel_rfl
theorem heap4_0 (w : World) (a b c d : Obj) : ((((w.alloc a).alloc b).alloc c).alloc d).heap[w.heap.size]? = some a := block_later (below_new _ _) (block_later (below_new _ _) (heap2_0 _ _ _))
theorem heap4_1 (w : World) (a b c d : Obj) : ((((w.alloc a).alloc b).alloc c).alloc d).heap[w.heap.size + 1]? = some b := by
  have := block_later (below_new ((w.alloc a).alloc b) c) (heap_alloc2_new w a b)
  exact block_later (below_new _ d) this
theorem heap4_2 (w : World) (a b c d : Obj) : ((((w.alloc a).alloc b).alloc c).alloc d).heap[w.heap.size + 1 + 1]? = some c := by
  have := heap_alloc2_new (w.alloc a) b c
  rw [show (w.alloc a).heap.size + 1 = w.heap.size + 1 + 1 by simp] at this
  exact block_later (below_new _ d) this
theorem heap4_3 (w : World) (a b c d : Obj) : ((((w.alloc a).alloc b).alloc c).alloc d).heap[w.heap.size + 1 + 1 + 1]? = some d := by
  have := heap_alloc2_new ((w.alloc a).alloc b) c d
  rw [show ((w.alloc a).alloc b).heap.size + 1 = w.heap.size + 1 + 1 + 1 by simp] at this
  exact this
theorem below4 (w : World) (a b c d : Obj) : Below w.heap.size w ((((w.alloc a).alloc b).alloc c).alloc d) := below_tr (below2 _ _ _) (below2 _ _ _)
theorem size4 (w : World) (a b c d : Obj) : ((((w.alloc a).alloc b).alloc c).alloc d).heap.size = w.heap.size + 1 + 1 + 1 + 1 := by simp

section
variable {w0 w : World} {X : Nat → Prop} {x a n S : Nat} {most : Int} {s : St}

theorem and_mid {A B C : Prop} (hc : C) (h : A ∧ B) : A ∧ B ∧ C := ⟨h.1, h.2, hc⟩
/-- Behind a doing that turned Z, own new blocks Y are written, and all is told of the whole. -/
theorem Mch.fin {Z Y : Nat → Prop} {w1 w2 w3 : World} {m : Nat} {s' : St} (h0 : Mch w0 w X x a n S most s) (h : Mch w0 w1 Z x a m S most s') (hb : Below w1.heap.size w1 w2) (ht : Turn Y w2 w3) (hZ : ∀ i, Z i → X i ∨ w.heap.size ≤ i) (hY : ∀ i, Y i → w.heap.size ≤ i ∧ ¬ Z i) (hT : Turn X w w1) : Mch w0 w3 (Gr X w w3) x a m S most s' ∧ Turn X w w3 := by
  have e0 := h0.bl.size
  have h3 := (h.later hb).turn ht (fun i hi hy => (hY i hy).2 hi) (fun i hy => Nat.le_trans e0 (hY i hy).1)
  have hT3 : Turn X w w3 := (hT.trans (turn_of_below X hb) (fun _ _ h => h)).trans ht (fun i hi hy => absurd (hY i hy).1 (Nat.not_le.2 hi))
  refine ⟨h3.wide (fun i hi => ?_) (fun i hi => gr_in hT3.size h0.ltX h0.loX e0 hi), hT3⟩
  rcases hZ i hi with h1 | h1
  · exact Or.inl h1
  · exact Or.inr ⟨h1, h3.ltX i hi⟩

set_option maxHeartbeats 2000000 in
set_option maxRecDepth 100000 in
theorem walked_nn (h : Mch w0 w X x a n S most s) (R I va : Nat) (hR : R < 281474976710656) (hn : Hn) (hva : va < 18446744073709551616) (hk : hn.keep = false) (hf : hn.fill = false) :
    Calls Tryz.prog 52 #[.pointer (some ⟨x, 0, none⟩), bsV R I, .int .u64 va, hn.v] w fun r w' => r = .returned (.tuple #[.agg (lfR (wkO S s R I va hn).2).cs.toArray, .agg #[.int .i64 (ftR (wkO S s R I va hn).2).1, .int .i64 (ftR (wkO S s R I va hn).2).2]]) ∧ Mch w0 w' (Gr X w w') x a n S most (wdS S most s R I va hn) ∧ Turn X w w' ∧ w'.heap[x]? = w.heap[x]? := by
  have H0 := Hid.mk h
  have HST := Hid.mk (fun W (hb : Below w.heap.size w W) => start_c (H0.out.later hb) R I va hn hva)
  have HL := Hid.mk (stL_lv h.wfm I va hn)
  have HT := Hid.mk (stT_lt h.wfm hR I va hn)
  have HFR : Hid (∀ W (_ : Below w.heap.size w W), Calls Tryz.prog 62 #[.pointer (some ⟨a, 0, none⟩), .int .i64 (stL s I va hn), .int .u64 (stT s R I va hn : Nat), .int .u64 va] W fun e w' => e = .returned (.tuple #[.agg (lfR (wkO S s R I va hn).2).cs.toArray, .agg #[.int .i64 (ftR (wkO S s R I va hn).2).1, .int .i64 (ftR (wkO S s R I va hn).2).2]]) ∧ Below W.heap.size W w') := fun W hb => by
    obtain ⟨XM, XB, XT, tb, tr, pv, h⟩ := H0.out.later hb
    have := from_any (stL s I va hn) (stT s R I va hn) va HT.out h.mem h.fld.t.d
    rw [leafL_cs, faultL_cs] at this
    exact this
  have HEK : Hid (kK S most s R I va hn = s.K) := by show _ = _; unfold kK; rw [if_neg (by rw [hk]; decide)]
  have HEE : Hid (kE S most s R I va hn = s.E) := by show _ = _; unfold kE; rw [if_neg (by rw [hf, Bool.false_and]; decide)]
  have HWS : Hid (wdS S most s R I va hn = { s with E := kE S most s R I va hn, K := kK S most s R I va hn }) := rfl
  clear h hva hR
  generalize wdS S most s R I va hn = s' at *
  rw [HEE.out] at HWS
  rw [HEK.out] at HWS
  clear HEE
  generalize kE S most s R I va hn = E' at *
  generalize wkO S s R I va hn = wr at *
  generalize stL s I va hn = LV at *
  generalize stT s R I va hn = TV at *
  generalize lfR wr.2 = lf at *
  generalize ftR wr.2 = ft at *
  obtain ⟨L, r0⟩ := wr
  obtain ⟨l, k, o, u, r, y, q, t⟩ := lf
  obtain ⟨f1, f2⟩ := ft
  obtain ⟨hf', hl', hk'⟩ := hn
  simp only [Lf.cs] at *
  subst hk hf
  have g0 := heap4_0 w (.cells #[.int .u64 (R : Nat), .int .i64 (I : Nat)] 120) (.cells #[.bool false, .bool hl', .bool false] 38) (.cells #[.int .i64 0, .int .i64 0, .int .u64 0, .bool false, .bool false, .bool false, .bool false, .int .i64 0] 62) (.cells #[.int .i64 0, .int .i64 0] 48)
  have g1 := heap4_1 w (.cells #[.int .u64 (R : Nat), .int .i64 (I : Nat)] 120) (.cells #[.bool false, .bool hl', .bool false] 38) (.cells #[.int .i64 0, .int .i64 0, .int .u64 0, .bool false, .bool false, .bool false, .bool false, .int .i64 0] 62) (.cells #[.int .i64 0, .int .i64 0] 48)
  have g2 := heap4_2 w (.cells #[.int .u64 (R : Nat), .int .i64 (I : Nat)] 120) (.cells #[.bool false, .bool hl', .bool false] 38) (.cells #[.int .i64 0, .int .i64 0, .int .u64 0, .bool false, .bool false, .bool false, .bool false, .int .i64 0] 62) (.cells #[.int .i64 0, .int .i64 0] 48)
  have g3 := heap4_3 w (.cells #[.int .u64 (R : Nat), .int .i64 (I : Nat)] 120) (.cells #[.bool false, .bool hl', .bool false] 38) (.cells #[.int .i64 0, .int .i64 0, .int .u64 0, .bool false, .bool false, .bool false, .bool false, .int .i64 0] 62) (.cells #[.int .i64 0, .int .i64 0] 48)
  have hB := below4 w (.cells #[.int .u64 (R : Nat), .int .i64 (I : Nat)] 120) (.cells #[.bool false, .bool hl', .bool false] 38) (.cells #[.int .i64 0, .int .i64 0, .int .u64 0, .bool false, .bool false, .bool false, .bool false, .int .i64 0] 62) (.cells #[.int .i64 0, .int .i64 0] 48)
  have hsz := size4 w (.cells #[.int .u64 (R : Nat), .int .i64 (I : Nat)] 120) (.cells #[.bool false, .bool hl', .bool false] 38) (.cells #[.int .i64 0, .int .i64 0, .int .u64 0, .bool false, .bool false, .bool false, .bool false, .int .i64 0] 62) (.cells #[.int .i64 0, .int .i64 0] 48)
  go_enter Tryz.func52, Tryz.ntmps52
  go_upto_region 1 with fail
  generalize (((w.alloc (.cells #[.int .u64 (R : Nat), .int .i64 (I : Nat)] 120)).alloc (.cells #[.bool false, .bool hl', .bool false] 38)).alloc (.cells #[.int .i64 0, .int .i64 0, .int .u64 0, .bool false, .bool false, .bool false, .bool false, .int .i64 0] 62)).alloc (.cells #[.int .i64 0, .int .i64 0] 48) = W4 at *
  obtain ⟨c0, c1⟩ := TR.row2c g0
  obtain ⟨c2, c3, c4⟩ := cells3 g1
  go_wp2_with fail
  refine (HST.out _ hB).mono ?_
  rintro e w1 ⟨rfl, hb1⟩
  clear HST c0 c1 c2 c3 c4
  replace g0 := block_later hb1 g0
  replace g1 := block_later hb1 g1
  replace g2 := block_later hb1 g2
  replace g3 := block_later hb1 g3
  replace hB := below_tr hB hb1
  replace hsz : w.heap.size + 1 + 1 + 1 + 1 ≤ w1.heap.size := hsz ▸ hb1.size
  clear hb1
  obtain ⟨XM, XB, XT, tb, tr, pv, h1⟩ := H0.out.later hB
  obtain ⟨d0, d1, d2, -⟩ := row5 h1.row
  clear h1
  go_wp2_with fail
  refine (HFR.out _ hB).mono ?_
  rintro e w2 ⟨rfl, hb2⟩
  clear HFR d0 d1 d2
  replace g0 := block_later hb2 g0
  replace g1 := block_later hb2 g1
  replace g2 := block_later hb2 g2
  replace g3 := block_later hb2 g3
  replace hB := below_tr hB hb2
  replace hsz := Nat.le_trans hsz hb2.size
  clear hb2
  have g4 := heap2_0 w2 (.cells #[.int .i64 l, .int .i64 k, .int .u64 (o : Nat), .bool u, .bool r, .bool y, .bool q, .int .i64 t] 62) (.cells #[.int .i64 f1, .int .i64 f2] 48)
  have g5 := heap_alloc2_new w2 (.cells #[.int .i64 l, .int .i64 k, .int .u64 (o : Nat), .bool u, .bool r, .bool y, .bool q, .int .i64 t] 62) (.cells #[.int .i64 f1, .int .i64 f2] 48)
  have hb3 := below2 w2 (.cells #[.int .i64 l, .int .i64 k, .int .u64 (o : Nat), .bool u, .bool r, .bool y, .bool q, .int .i64 t] 62) (.cells #[.int .i64 f1, .int .i64 f2] 48)
  go_upto_region 3 with fail
  generalize (w2.alloc (.cells #[.int .i64 l, .int .i64 k, .int .u64 (o : Nat), .bool u, .bool r, .bool y, .bool q, .int .i64 t] 62)).alloc (.cells #[.int .i64 f1, .int .i64 f2] 48) = w3 at *
  replace g0 := block_later hb3 g0
  replace g1 := block_later hb3 g1
  replace g2 := block_later hb3 g2
  replace g3 := block_later hb3 g3
  replace hB := below_tr hB hb3
  clear hb3
  generalize w2.heap.size = KL at *
  obtain ⟨h0, h2, h3⟩ := cells3 g1
  have hK5 := block_lt g5
  have nX : Hid (∀ i, w.heap.size ≤ i → ¬ X i) := fun i hi c => by have := H0.out.ltX i c; omega
  obtain ⟨⟨k0, k1, k2, k3, k4, k5, k6, k7⟩, -⟩ := cells8 g4
  obtain ⟨k8, k9⟩ := TR.row2c g5
  go_upto_region 7 with fail
  refine wp_region_noPanic ?_
  refine wp_region_held_drew (S := (fun w' => w'.cell? ⟨KL, 0, none⟩ = some (.int .i64 l) ∧ w'.cell? ⟨KL, 1, none⟩ = some (.int .i64 k) ∧ w'.cell? ⟨KL, 2, none⟩ = some (.int .u64 (o : Nat)) ∧ w'.cell? ⟨KL, 3, none⟩ = some (.bool u) ∧ w'.cell? ⟨KL, 4, none⟩ = some (.bool r) ∧ w'.cell? ⟨KL, 5, none⟩ = some (.bool y) ∧ w'.cell? ⟨KL, 6, none⟩ = some (.bool q) ∧ w'.cell? ⟨KL, 7, none⟩ = some (.int .i64 t) ∧ w'.cell? ⟨KL + 1, 0, none⟩ = some (.int .i64 f1) ∧ w'.cell? ⟨KL + 1, 1, none⟩ = some (.int .i64 f2))) (by kernel_rfl) ?_ (fun hHeld => ?_)
  · exact ⟨cell_later (Below.refl _ _).drew k0, cell_later (Below.refl _ _).drew k1, cell_later (Below.refl _ _).drew k2, cell_later (Below.refl _ _).drew k3, cell_later (Below.refl _ _).drew k4, cell_later (Below.refl _ _).drew k5, cell_later (Below.refl _ _).drew k6, cell_later (Below.refl _ _).drew k7, cell_later (Below.refl _ _).drew k8, cell_later (Below.refl _ _).drew k9⟩
  replace k0 := cell_later (Below.refl _ w3).drew k0
  replace k1 := cell_later (Below.refl _ w3).drew k1
  replace k2 := cell_later (Below.refl _ w3).drew k2
  replace k3 := cell_later (Below.refl _ w3).drew k3
  replace k4 := cell_later (Below.refl _ w3).drew k4
  replace k5 := cell_later (Below.refl _ w3).drew k5
  replace k6 := cell_later (Below.refl _ w3).drew k6
  replace k7 := cell_later (Below.refl _ w3).drew k7
  replace k8 := cell_later (Below.refl _ w3).drew k8
  replace k9 := cell_later (Below.refl _ w3).drew k9
  refine TR.take_at (i := 0) (v := ?_) 75 rfl rfl (by kernel_rfl) (by kernel_rfl) (by kernel_rfl) (fun _ _ _ h => h) (Or.inl ⟨by rfl, ?_⟩) (by assumption) ?_
  rotate_left
  · (intro w' hSw; (try dsimp only at hSw); go_simp; all_goals with_reducible rfl)
  try simp only [Act.put, List.setIfInBounds_toArray, List.set_cons_zero, List.set_cons_succ]
  refine TR.take_at (i := 1) (v := ?_) 76 rfl rfl (by kernel_rfl) (by kernel_rfl) (by kernel_rfl) (fun _ _ _ h => h) (Or.inl ⟨by rfl, ?_⟩) (by assumption) ?_
  rotate_left
  · (intro w' hSw; (try dsimp only at hSw); go_simp; all_goals with_reducible rfl)
  try simp only [Act.put, List.setIfInBounds_toArray, List.set_cons_zero, List.set_cons_succ]
  refine wpAnyH_ready (rs := [2]) (by kernel_rfl) (by simp) ?_
  refine AllReadyH.cons rfl (fun K hK => ?_) AllReadyH.nil
  refine step_store_seg rfl rfl 62 _ _ rfl (w.heap.size + 1 + 1) 0 _ #[.int .i64 l, .int .i64 k, .int .u64 (o : Nat), .bool u, .bool r, .bool y, .bool q, .int .i64 t] rfl rfl rfl 62 _ (block_later (Below.refl _ w3).drew g2) (show 0 + 8 ≤ 8 by decide) info_leaf (by simp [Value.oneCell']) #[.int .i64 l, .int .i64 k, .int .u64 (o : Nat), .bool u, .bool r, .bool y, .bool q, .int .i64 t] rfl ?_
  intro wa hrwa htwa
  replace k0 := TR.turn_cell htwa (by omega) k0
  replace k1 := TR.turn_cell htwa (by omega) k1
  replace k2 := TR.turn_cell htwa (by omega) k2
  replace k3 := TR.turn_cell htwa (by omega) k3
  replace k4 := TR.turn_cell htwa (by omega) k4
  replace k5 := TR.turn_cell htwa (by omega) k5
  replace k6 := TR.turn_cell htwa (by omega) k6
  replace k7 := TR.turn_cell htwa (by omega) k7
  replace k8 := TR.turn_cell htwa (by omega) k8
  replace k9 := TR.turn_cell htwa (by omega) k9
  replace g3 := block_turn htwa (block_later (Below.refl _ w3).drew g3) (by omega)
  refine hK.out _ _ ⟨k0, k1, k2, k3, k4, k5, k6, k7, k8, k9⟩ (fun hHeldwa => ?_)
  clear hK
  try simp only [Act.put, List.setIfInBounds_toArray, List.set_cons_zero, List.set_cons_succ]
  refine wpAnyH_ready (rs := [3]) (by kernel_rfl) (by simp) ?_
  refine AllReadyH.cons rfl (fun K hK => ?_) AllReadyH.nil
  refine step_store_seg rfl rfl 48 _ _ rfl (w.heap.size + 1 + 1 + 1) 0 _ #[.int .i64 f1, .int .i64 f2] rfl rfl rfl 48 _ g3 (show 0 + 2 ≤ 2 by decide) info_fault (by simp [Value.oneCell']) #[.int .i64 f1, .int .i64 f2] rfl ?_
  intro wb hrwb htwb
  replace k0 := TR.turn_cell htwb (by omega) k0
  replace k1 := TR.turn_cell htwb (by omega) k1
  replace k2 := TR.turn_cell htwb (by omega) k2
  replace k3 := TR.turn_cell htwb (by omega) k3
  replace k4 := TR.turn_cell htwb (by omega) k4
  replace k5 := TR.turn_cell htwb (by omega) k5
  replace k6 := TR.turn_cell htwb (by omega) k6
  replace k7 := TR.turn_cell htwb (by omega) k7
  replace k8 := TR.turn_cell htwb (by omega) k8
  replace k9 := TR.turn_cell htwb (by omega) k9
  replace hrwa := block_turn htwb hrwa (by omega)
  refine hK.out _ _ ⟨k0, k1, k2, k3, k4, k5, k6, k7, k8, k9⟩ (fun hHeldwb => ?_)
  clear hK
  try simp only [Act.put, List.setIfInBounds_toArray, List.set_cons_zero, List.set_cons_succ]
  refine wpAnyH_done (by kernel_rfl) ?_ _
  refine NoPanic.normal ?_
  clear k0 k1 k2 k3 k4 k5 k6 k7 k8 k9
  go_wp2
  refine bodyPost_ret (results_row_row rfl _ _ (w.heap.size + 1 + 1) (w.heap.size + 1 + 1 + 1) _ _ _ _ _ _ _ _ rfl hrwa Tryz.underlying62 rfl info_leaf rfl hrwb Tryz.underlying48 rfl info_fault) rfl ⟨rfl, ?_⟩
  rw [HWS.out]
  have hTT : Turn (fun i => i = w.heap.size + 1 + 1 ∨ i = w.heap.size + 1 + 1 + 1) w3.drew wb := ((turn_of_below _ (Below.refl _ _)).trans htwa (fun i _ hi => Or.inl hi)).trans htwb (fun i _ hi => Or.inr hi)
  have e1 := hsz
  have hTw := turn_of_below X hB
  have hxw : x < w.heap.size := H0.out.ltX x (by obtain ⟨_, _, _, _, _, _, h⟩ := H0.out; exact h.cx)
  have hdx : ∀ W : World, x < W.heap.size → W.drew.heap[x]? = W.heap[x]? := fun W hx => (Below.refl W.heap.size W).drew.block x hx
  have hxx : wb.heap[x]? = w.heap[x]? := by
    have hxa : x < w3.heap.size := by have e : w3.drew.heap.size = w3.heap.size := rfl; have := hTw.size; omega
    have ea := hTT.block x hxa (fun c => by rcases c with c | c <;> omega)
    exact (ea.trans (hdx w3 hxa)).trans (hB.block x hxw)
  refine and_mid hxx ?_
  refine H0.out.fin (Hid.mk (H0.out.later hB)).out (Below.refl _ _).drew hTT (fun i hi => ?_) (fun i hi => ?_) hTw
  · skip
    exact Or.inl hi
  · have h1 : w.heap.size ≤ i := by rcases hi with hi | hi <;> omega
    have h2 : i < w.heap.size + 1 + 1 + 1 + 1 := by rcases hi with hi | hi <;> omega
    refine ⟨h1, fun c => ?_⟩
    · skip
      exact nX.out i h1 c


set_option maxHeartbeats 2000000 in
set_option maxRecDepth 100000 in
theorem walked_nfn (h : Mch w0 w X x a n S most s) (R I va : Nat) (hR : R < 281474976710656) (hn : Hn) (hva : va < 18446744073709551616) (hk : hn.keep = false) (hf : hn.fill = true) (hu : (lfR (wkO S s R I va hn).2).s = false) :
    Calls Tryz.prog 52 #[.pointer (some ⟨x, 0, none⟩), bsV R I, .int .u64 va, hn.v] w fun r w' => r = .returned (.tuple #[.agg (lfR (wkO S s R I va hn).2).cs.toArray, .agg #[.int .i64 (ftR (wkO S s R I va hn).2).1, .int .i64 (ftR (wkO S s R I va hn).2).2]]) ∧ Mch w0 w' (Gr X w w') x a n S most (wdS S most s R I va hn) ∧ Turn X w w' ∧ w'.heap[x]? = w.heap[x]? := by
  have H0 := Hid.mk h
  have HST := Hid.mk (fun W (hb : Below w.heap.size w W) => start_c (H0.out.later hb) R I va hn hva)
  have HL := Hid.mk (stL_lv h.wfm I va hn)
  have HT := Hid.mk (stT_lt h.wfm hR I va hn)
  have HFR : Hid (∀ W (_ : Below w.heap.size w W), Calls Tryz.prog 62 #[.pointer (some ⟨a, 0, none⟩), .int .i64 (stL s I va hn), .int .u64 (stT s R I va hn : Nat), .int .u64 va] W fun e w' => e = .returned (.tuple #[.agg (lfR (wkO S s R I va hn).2).cs.toArray, .agg #[.int .i64 (ftR (wkO S s R I va hn).2).1, .int .i64 (ftR (wkO S s R I va hn).2).2]]) ∧ Below W.heap.size W w') := fun W hb => by
    obtain ⟨XM, XB, XT, tb, tr, pv, h⟩ := H0.out.later hb
    have := from_any (stL s I va hn) (stT s R I va hn) va HT.out h.mem h.fld.t.d
    rw [leafL_cs, faultL_cs] at this
    exact this
  have HEK : Hid (kK S most s R I va hn = s.K) := by show _ = _; unfold kK; rw [if_neg (by rw [hk]; decide)]
  have HEE : Hid (kE S most s R I va hn = s.E) := by show _ = _; unfold kE; rw [if_neg (by rw [hf, hu]; decide)]
  have HWS : Hid (wdS S most s R I va hn = { s with E := kE S most s R I va hn, K := kK S most s R I va hn }) := rfl
  clear h hva hR
  generalize wdS S most s R I va hn = s' at *
  rw [HEE.out] at HWS
  rw [HEK.out] at HWS
  clear HEE
  generalize kE S most s R I va hn = E' at *
  generalize wkO S s R I va hn = wr at *
  generalize stL s I va hn = LV at *
  generalize stT s R I va hn = TV at *
  generalize lfR wr.2 = lf at *
  generalize ftR wr.2 = ft at *
  obtain ⟨L, r0⟩ := wr
  obtain ⟨l, k, o, u, r, y, q, t⟩ := lf
  obtain ⟨f1, f2⟩ := ft
  obtain ⟨hf', hl', hk'⟩ := hn
  simp only [Lf.cs] at *
  subst hk hf hu
  have g0 := heap4_0 w (.cells #[.int .u64 (R : Nat), .int .i64 (I : Nat)] 120) (.cells #[.bool true, .bool hl', .bool false] 38) (.cells #[.int .i64 0, .int .i64 0, .int .u64 0, .bool false, .bool false, .bool false, .bool false, .int .i64 0] 62) (.cells #[.int .i64 0, .int .i64 0] 48)
  have g1 := heap4_1 w (.cells #[.int .u64 (R : Nat), .int .i64 (I : Nat)] 120) (.cells #[.bool true, .bool hl', .bool false] 38) (.cells #[.int .i64 0, .int .i64 0, .int .u64 0, .bool false, .bool false, .bool false, .bool false, .int .i64 0] 62) (.cells #[.int .i64 0, .int .i64 0] 48)
  have g2 := heap4_2 w (.cells #[.int .u64 (R : Nat), .int .i64 (I : Nat)] 120) (.cells #[.bool true, .bool hl', .bool false] 38) (.cells #[.int .i64 0, .int .i64 0, .int .u64 0, .bool false, .bool false, .bool false, .bool false, .int .i64 0] 62) (.cells #[.int .i64 0, .int .i64 0] 48)
  have g3 := heap4_3 w (.cells #[.int .u64 (R : Nat), .int .i64 (I : Nat)] 120) (.cells #[.bool true, .bool hl', .bool false] 38) (.cells #[.int .i64 0, .int .i64 0, .int .u64 0, .bool false, .bool false, .bool false, .bool false, .int .i64 0] 62) (.cells #[.int .i64 0, .int .i64 0] 48)
  have hB := below4 w (.cells #[.int .u64 (R : Nat), .int .i64 (I : Nat)] 120) (.cells #[.bool true, .bool hl', .bool false] 38) (.cells #[.int .i64 0, .int .i64 0, .int .u64 0, .bool false, .bool false, .bool false, .bool false, .int .i64 0] 62) (.cells #[.int .i64 0, .int .i64 0] 48)
  have hsz := size4 w (.cells #[.int .u64 (R : Nat), .int .i64 (I : Nat)] 120) (.cells #[.bool true, .bool hl', .bool false] 38) (.cells #[.int .i64 0, .int .i64 0, .int .u64 0, .bool false, .bool false, .bool false, .bool false, .int .i64 0] 62) (.cells #[.int .i64 0, .int .i64 0] 48)
  go_enter Tryz.func52, Tryz.ntmps52
  go_upto_region 1 with fail
  generalize (((w.alloc (.cells #[.int .u64 (R : Nat), .int .i64 (I : Nat)] 120)).alloc (.cells #[.bool true, .bool hl', .bool false] 38)).alloc (.cells #[.int .i64 0, .int .i64 0, .int .u64 0, .bool false, .bool false, .bool false, .bool false, .int .i64 0] 62)).alloc (.cells #[.int .i64 0, .int .i64 0] 48) = W4 at *
  obtain ⟨c0, c1⟩ := TR.row2c g0
  obtain ⟨c2, c3, c4⟩ := cells3 g1
  go_wp2_with fail
  refine (HST.out _ hB).mono ?_
  rintro e w1 ⟨rfl, hb1⟩
  clear HST c0 c1 c2 c3 c4
  replace g0 := block_later hb1 g0
  replace g1 := block_later hb1 g1
  replace g2 := block_later hb1 g2
  replace g3 := block_later hb1 g3
  replace hB := below_tr hB hb1
  replace hsz : w.heap.size + 1 + 1 + 1 + 1 ≤ w1.heap.size := hsz ▸ hb1.size
  clear hb1
  obtain ⟨XM, XB, XT, tb, tr, pv, h1⟩ := H0.out.later hB
  obtain ⟨d0, d1, d2, -⟩ := row5 h1.row
  clear h1
  go_wp2_with fail
  refine (HFR.out _ hB).mono ?_
  rintro e w2 ⟨rfl, hb2⟩
  clear HFR d0 d1 d2
  replace g0 := block_later hb2 g0
  replace g1 := block_later hb2 g1
  replace g2 := block_later hb2 g2
  replace g3 := block_later hb2 g3
  replace hB := below_tr hB hb2
  replace hsz := Nat.le_trans hsz hb2.size
  clear hb2
  have g4 := heap2_0 w2 (.cells #[.int .i64 l, .int .i64 k, .int .u64 (o : Nat), .bool u, .bool r, .bool y, .bool false, .int .i64 t] 62) (.cells #[.int .i64 f1, .int .i64 f2] 48)
  have g5 := heap_alloc2_new w2 (.cells #[.int .i64 l, .int .i64 k, .int .u64 (o : Nat), .bool u, .bool r, .bool y, .bool false, .int .i64 t] 62) (.cells #[.int .i64 f1, .int .i64 f2] 48)
  have hb3 := below2 w2 (.cells #[.int .i64 l, .int .i64 k, .int .u64 (o : Nat), .bool u, .bool r, .bool y, .bool false, .int .i64 t] 62) (.cells #[.int .i64 f1, .int .i64 f2] 48)
  go_upto_region 3 with fail
  generalize (w2.alloc (.cells #[.int .i64 l, .int .i64 k, .int .u64 (o : Nat), .bool u, .bool r, .bool y, .bool false, .int .i64 t] 62)).alloc (.cells #[.int .i64 f1, .int .i64 f2] 48) = w3 at *
  replace g0 := block_later hb3 g0
  replace g1 := block_later hb3 g1
  replace g2 := block_later hb3 g2
  replace g3 := block_later hb3 g3
  replace hB := below_tr hB hb3
  clear hb3
  generalize w2.heap.size = KL at *
  obtain ⟨h0, h2, h3⟩ := cells3 g1
  have hK5 := block_lt g5
  have nX : Hid (∀ i, w.heap.size ≤ i → ¬ X i) := fun i hi c => by have := H0.out.ltX i c; omega
  obtain ⟨⟨k0, k1, k2, k3, k4, k5, k6, k7⟩, -⟩ := cells8 g4
  obtain ⟨k8, k9⟩ := TR.row2c g5
  go_upto_region 7 with fail
  refine wp_region_noPanic ?_
  refine wp_region_held_drew (S := (fun w' => w'.cell? ⟨KL, 0, none⟩ = some (.int .i64 l) ∧ w'.cell? ⟨KL, 1, none⟩ = some (.int .i64 k) ∧ w'.cell? ⟨KL, 2, none⟩ = some (.int .u64 (o : Nat)) ∧ w'.cell? ⟨KL, 3, none⟩ = some (.bool u) ∧ w'.cell? ⟨KL, 4, none⟩ = some (.bool r) ∧ w'.cell? ⟨KL, 5, none⟩ = some (.bool y) ∧ w'.cell? ⟨KL, 6, none⟩ = some (.bool false) ∧ w'.cell? ⟨KL, 7, none⟩ = some (.int .i64 t) ∧ w'.cell? ⟨KL + 1, 0, none⟩ = some (.int .i64 f1) ∧ w'.cell? ⟨KL + 1, 1, none⟩ = some (.int .i64 f2))) (by kernel_rfl) ?_ (fun hHeld => ?_)
  · exact ⟨cell_later (Below.refl _ _).drew k0, cell_later (Below.refl _ _).drew k1, cell_later (Below.refl _ _).drew k2, cell_later (Below.refl _ _).drew k3, cell_later (Below.refl _ _).drew k4, cell_later (Below.refl _ _).drew k5, cell_later (Below.refl _ _).drew k6, cell_later (Below.refl _ _).drew k7, cell_later (Below.refl _ _).drew k8, cell_later (Below.refl _ _).drew k9⟩
  replace k0 := cell_later (Below.refl _ w3).drew k0
  replace k1 := cell_later (Below.refl _ w3).drew k1
  replace k2 := cell_later (Below.refl _ w3).drew k2
  replace k3 := cell_later (Below.refl _ w3).drew k3
  replace k4 := cell_later (Below.refl _ w3).drew k4
  replace k5 := cell_later (Below.refl _ w3).drew k5
  replace k6 := cell_later (Below.refl _ w3).drew k6
  replace k7 := cell_later (Below.refl _ w3).drew k7
  replace k8 := cell_later (Below.refl _ w3).drew k8
  replace k9 := cell_later (Below.refl _ w3).drew k9
  refine TR.take_at (i := 0) (v := ?_) 75 rfl rfl (by kernel_rfl) (by kernel_rfl) (by kernel_rfl) (fun _ _ _ h => h) (Or.inl ⟨by rfl, ?_⟩) (by assumption) ?_
  rotate_left
  · (intro w' hSw; (try dsimp only at hSw); go_simp; all_goals with_reducible rfl)
  try simp only [Act.put, List.setIfInBounds_toArray, List.set_cons_zero, List.set_cons_succ]
  refine TR.take_at (i := 1) (v := ?_) 76 rfl rfl (by kernel_rfl) (by kernel_rfl) (by kernel_rfl) (fun _ _ _ h => h) (Or.inl ⟨by rfl, ?_⟩) (by assumption) ?_
  rotate_left
  · (intro w' hSw; (try dsimp only at hSw); go_simp; all_goals with_reducible rfl)
  try simp only [Act.put, List.setIfInBounds_toArray, List.set_cons_zero, List.set_cons_succ]
  refine wpAnyH_ready (rs := [2]) (by kernel_rfl) (by simp) ?_
  refine AllReadyH.cons rfl (fun K hK => ?_) AllReadyH.nil
  refine step_store_seg rfl rfl 62 _ _ rfl (w.heap.size + 1 + 1) 0 _ #[.int .i64 l, .int .i64 k, .int .u64 (o : Nat), .bool u, .bool r, .bool y, .bool false, .int .i64 t] rfl rfl rfl 62 _ (block_later (Below.refl _ w3).drew g2) (show 0 + 8 ≤ 8 by decide) info_leaf (by simp [Value.oneCell']) #[.int .i64 l, .int .i64 k, .int .u64 (o : Nat), .bool u, .bool r, .bool y, .bool false, .int .i64 t] rfl ?_
  intro wa hrwa htwa
  replace k0 := TR.turn_cell htwa (by omega) k0
  replace k1 := TR.turn_cell htwa (by omega) k1
  replace k2 := TR.turn_cell htwa (by omega) k2
  replace k3 := TR.turn_cell htwa (by omega) k3
  replace k4 := TR.turn_cell htwa (by omega) k4
  replace k5 := TR.turn_cell htwa (by omega) k5
  replace k6 := TR.turn_cell htwa (by omega) k6
  replace k7 := TR.turn_cell htwa (by omega) k7
  replace k8 := TR.turn_cell htwa (by omega) k8
  replace k9 := TR.turn_cell htwa (by omega) k9
  replace g3 := block_turn htwa (block_later (Below.refl _ w3).drew g3) (by omega)
  refine hK.out _ _ ⟨k0, k1, k2, k3, k4, k5, k6, k7, k8, k9⟩ (fun hHeldwa => ?_)
  clear hK
  try simp only [Act.put, List.setIfInBounds_toArray, List.set_cons_zero, List.set_cons_succ]
  refine wpAnyH_ready (rs := [3]) (by kernel_rfl) (by simp) ?_
  refine AllReadyH.cons rfl (fun K hK => ?_) AllReadyH.nil
  refine step_store_seg rfl rfl 48 _ _ rfl (w.heap.size + 1 + 1 + 1) 0 _ #[.int .i64 f1, .int .i64 f2] rfl rfl rfl 48 _ g3 (show 0 + 2 ≤ 2 by decide) info_fault (by simp [Value.oneCell']) #[.int .i64 f1, .int .i64 f2] rfl ?_
  intro wb hrwb htwb
  replace k0 := TR.turn_cell htwb (by omega) k0
  replace k1 := TR.turn_cell htwb (by omega) k1
  replace k2 := TR.turn_cell htwb (by omega) k2
  replace k3 := TR.turn_cell htwb (by omega) k3
  replace k4 := TR.turn_cell htwb (by omega) k4
  replace k5 := TR.turn_cell htwb (by omega) k5
  replace k6 := TR.turn_cell htwb (by omega) k6
  replace k7 := TR.turn_cell htwb (by omega) k7
  replace k8 := TR.turn_cell htwb (by omega) k8
  replace k9 := TR.turn_cell htwb (by omega) k9
  replace hrwa := block_turn htwb hrwa (by omega)
  refine hK.out _ _ ⟨k0, k1, k2, k3, k4, k5, k6, k7, k8, k9⟩ (fun hHeldwb => ?_)
  clear hK
  try simp only [Act.put, List.setIfInBounds_toArray, List.set_cons_zero, List.set_cons_succ]
  refine wpAnyH_done (by kernel_rfl) ?_ _
  refine NoPanic.normal ?_
  clear k0 k1 k2 k3 k4 k5 k6 k7 k8 k9
  go_wp2
  refine bodyPost_ret (results_row_row rfl _ _ (w.heap.size + 1 + 1) (w.heap.size + 1 + 1 + 1) _ _ _ _ _ _ _ _ rfl hrwa Tryz.underlying62 rfl info_leaf rfl hrwb Tryz.underlying48 rfl info_fault) rfl ⟨rfl, ?_⟩
  rw [HWS.out]
  have hTT : Turn (fun i => i = w.heap.size + 1 + 1 ∨ i = w.heap.size + 1 + 1 + 1) w3.drew wb := ((turn_of_below _ (Below.refl _ _)).trans htwa (fun i _ hi => Or.inl hi)).trans htwb (fun i _ hi => Or.inr hi)
  have e1 := hsz
  have hTw := turn_of_below X hB
  have hxw : x < w.heap.size := H0.out.ltX x (by obtain ⟨_, _, _, _, _, _, h⟩ := H0.out; exact h.cx)
  have hdx : ∀ W : World, x < W.heap.size → W.drew.heap[x]? = W.heap[x]? := fun W hx => (Below.refl W.heap.size W).drew.block x hx
  have hxx : wb.heap[x]? = w.heap[x]? := by
    have hxa : x < w3.heap.size := by have e : w3.drew.heap.size = w3.heap.size := rfl; have := hTw.size; omega
    have ea := hTT.block x hxa (fun c => by rcases c with c | c <;> omega)
    exact (ea.trans (hdx w3 hxa)).trans (hB.block x hxw)
  refine and_mid hxx ?_
  refine H0.out.fin (Hid.mk (H0.out.later hB)).out (Below.refl _ _).drew hTT (fun i hi => ?_) (fun i hi => ?_) hTw
  · skip
    exact Or.inl hi
  · have h1 : w.heap.size ≤ i := by rcases hi with hi | hi <;> omega
    have h2 : i < w.heap.size + 1 + 1 + 1 + 1 := by rcases hi with hi | hi <;> omega
    refine ⟨h1, fun c => ?_⟩
    · skip
      exact nX.out i h1 c


set_option maxHeartbeats 2000000 in
set_option maxRecDepth 100000 in
theorem walked_nfu (h : Mch w0 w X x a n S most s) (R I va : Nat) (hR : R < 281474976710656) (hn : Hn) (hva : va < 18446744073709551616) (hk : hn.keep = false) (hf : hn.fill = true) (hu : (lfR (wkO S s R I va hn).2).s = true) :
    Calls Tryz.prog 52 #[.pointer (some ⟨x, 0, none⟩), bsV R I, .int .u64 va, hn.v] w fun r w' => r = .returned (.tuple #[.agg (lfR (wkO S s R I va hn).2).cs.toArray, .agg #[.int .i64 (ftR (wkO S s R I va hn).2).1, .int .i64 (ftR (wkO S s R I va hn).2).2]]) ∧ Mch w0 w' (Gr X w w') x a n S most (wdS S most s R I va hn) ∧ Turn X w w' ∧ w'.heap[x]? = w.heap[x]? := by
  have H0 := Hid.mk h
  have HST := Hid.mk (fun W (hb : Below w.heap.size w W) => start_c (H0.out.later hb) R I va hn hva)
  have HL := Hid.mk (stL_lv h.wfm I va hn)
  have HT := Hid.mk (stT_lt h.wfm hR I va hn)
  have HFR : Hid (∀ W (_ : Below w.heap.size w W), Calls Tryz.prog 62 #[.pointer (some ⟨a, 0, none⟩), .int .i64 (stL s I va hn), .int .u64 (stT s R I va hn : Nat), .int .u64 va] W fun e w' => e = .returned (.tuple #[.agg (lfR (wkO S s R I va hn).2).cs.toArray, .agg #[.int .i64 (ftR (wkO S s R I va hn).2).1, .int .i64 (ftR (wkO S s R I va hn).2).2]]) ∧ Below W.heap.size W w') := fun W hb => by
    obtain ⟨XM, XB, XT, tb, tr, pv, h⟩ := H0.out.later hb
    have := from_any (stL s I va hn) (stT s R I va hn) va HT.out h.mem h.fld.t.d
    rw [leafL_cs, faultL_cs] at this
    exact this
  have HEK : Hid (kK S most s R I va hn = s.K) := by show _ = _; unfold kK; rw [if_neg (by rw [hk]; decide)]
  have HEE : Hid (kE S most s R I va hn = TB.fillL s.E most ((lfR (wkO S s R I va hn).2).en I va)) := by show _ = _; unfold kE; rw [if_pos (by rw [hf, hu]; rfl)]
  have HEO := Hid.mk (en_ok (wkO S s R I va hn).2 I va)
  have HBA := Hid.mk (fun W => base_any va (lfR (wkO S s R I va hn).2).l hva W)
  have HWS : Hid (wdS S most s R I va hn = { s with E := kE S most s R I va hn, K := kK S most s R I va hn }) := rfl
  clear h hva hR
  generalize wdS S most s R I va hn = s' at *
  rw [HEE.out] at HWS
  rw [HEK.out] at HWS
  clear HEE
  generalize kE S most s R I va hn = E' at *
  generalize wkO S s R I va hn = wr at *
  generalize stL s I va hn = LV at *
  generalize stT s R I va hn = TV at *
  generalize lfR wr.2 = lf at *
  generalize ftR wr.2 = ft at *
  obtain ⟨L, r0⟩ := wr
  obtain ⟨l, k, o, u, r, y, q, t⟩ := lf
  obtain ⟨f1, f2⟩ := ft
  obtain ⟨hf', hl', hk'⟩ := hn
  simp only [Lf.cs, Lf.en] at *
  subst hk hf hu
  have g0 := heap4_0 w (.cells #[.int .u64 (R : Nat), .int .i64 (I : Nat)] 120) (.cells #[.bool true, .bool hl', .bool false] 38) (.cells #[.int .i64 0, .int .i64 0, .int .u64 0, .bool false, .bool false, .bool false, .bool false, .int .i64 0] 62) (.cells #[.int .i64 0, .int .i64 0] 48)
  have g1 := heap4_1 w (.cells #[.int .u64 (R : Nat), .int .i64 (I : Nat)] 120) (.cells #[.bool true, .bool hl', .bool false] 38) (.cells #[.int .i64 0, .int .i64 0, .int .u64 0, .bool false, .bool false, .bool false, .bool false, .int .i64 0] 62) (.cells #[.int .i64 0, .int .i64 0] 48)
  have g2 := heap4_2 w (.cells #[.int .u64 (R : Nat), .int .i64 (I : Nat)] 120) (.cells #[.bool true, .bool hl', .bool false] 38) (.cells #[.int .i64 0, .int .i64 0, .int .u64 0, .bool false, .bool false, .bool false, .bool false, .int .i64 0] 62) (.cells #[.int .i64 0, .int .i64 0] 48)
  have g3 := heap4_3 w (.cells #[.int .u64 (R : Nat), .int .i64 (I : Nat)] 120) (.cells #[.bool true, .bool hl', .bool false] 38) (.cells #[.int .i64 0, .int .i64 0, .int .u64 0, .bool false, .bool false, .bool false, .bool false, .int .i64 0] 62) (.cells #[.int .i64 0, .int .i64 0] 48)
  have hB := below4 w (.cells #[.int .u64 (R : Nat), .int .i64 (I : Nat)] 120) (.cells #[.bool true, .bool hl', .bool false] 38) (.cells #[.int .i64 0, .int .i64 0, .int .u64 0, .bool false, .bool false, .bool false, .bool false, .int .i64 0] 62) (.cells #[.int .i64 0, .int .i64 0] 48)
  have hsz := size4 w (.cells #[.int .u64 (R : Nat), .int .i64 (I : Nat)] 120) (.cells #[.bool true, .bool hl', .bool false] 38) (.cells #[.int .i64 0, .int .i64 0, .int .u64 0, .bool false, .bool false, .bool false, .bool false, .int .i64 0] 62) (.cells #[.int .i64 0, .int .i64 0] 48)
  go_enter Tryz.func52, Tryz.ntmps52
  go_upto_region 1 with fail
  generalize (((w.alloc (.cells #[.int .u64 (R : Nat), .int .i64 (I : Nat)] 120)).alloc (.cells #[.bool true, .bool hl', .bool false] 38)).alloc (.cells #[.int .i64 0, .int .i64 0, .int .u64 0, .bool false, .bool false, .bool false, .bool false, .int .i64 0] 62)).alloc (.cells #[.int .i64 0, .int .i64 0] 48) = W4 at *
  obtain ⟨c0, c1⟩ := TR.row2c g0
  obtain ⟨c2, c3, c4⟩ := cells3 g1
  go_wp2_with fail
  refine (HST.out _ hB).mono ?_
  rintro e w1 ⟨rfl, hb1⟩
  clear HST c0 c1 c2 c3 c4
  replace g0 := block_later hb1 g0
  replace g1 := block_later hb1 g1
  replace g2 := block_later hb1 g2
  replace g3 := block_later hb1 g3
  replace hB := below_tr hB hb1
  replace hsz : w.heap.size + 1 + 1 + 1 + 1 ≤ w1.heap.size := hsz ▸ hb1.size
  clear hb1
  obtain ⟨XM, XB, XT, tb, tr, pv, h1⟩ := H0.out.later hB
  obtain ⟨d0, d1, d2, -⟩ := row5 h1.row
  clear h1
  go_wp2_with fail
  refine (HFR.out _ hB).mono ?_
  rintro e w2 ⟨rfl, hb2⟩
  clear HFR d0 d1 d2
  replace g0 := block_later hb2 g0
  replace g1 := block_later hb2 g1
  replace g2 := block_later hb2 g2
  replace g3 := block_later hb2 g3
  replace hB := below_tr hB hb2
  replace hsz := Nat.le_trans hsz hb2.size
  clear hb2
  have g4 := heap2_0 w2 (.cells #[.int .i64 l, .int .i64 k, .int .u64 (o : Nat), .bool u, .bool r, .bool y, .bool true, .int .i64 t] 62) (.cells #[.int .i64 f1, .int .i64 f2] 48)
  have g5 := heap_alloc2_new w2 (.cells #[.int .i64 l, .int .i64 k, .int .u64 (o : Nat), .bool u, .bool r, .bool y, .bool true, .int .i64 t] 62) (.cells #[.int .i64 f1, .int .i64 f2] 48)
  have hb3 := below2 w2 (.cells #[.int .i64 l, .int .i64 k, .int .u64 (o : Nat), .bool u, .bool r, .bool y, .bool true, .int .i64 t] 62) (.cells #[.int .i64 f1, .int .i64 f2] 48)
  go_upto_region 3 with fail
  generalize (w2.alloc (.cells #[.int .i64 l, .int .i64 k, .int .u64 (o : Nat), .bool u, .bool r, .bool y, .bool true, .int .i64 t] 62)).alloc (.cells #[.int .i64 f1, .int .i64 f2] 48) = w3 at *
  replace g0 := block_later hb3 g0
  replace g1 := block_later hb3 g1
  replace g2 := block_later hb3 g2
  replace g3 := block_later hb3 g3
  replace hB := below_tr hB hb3
  clear hb3
  generalize w2.heap.size = KL at *
  obtain ⟨h0, h2, h3⟩ := cells3 g1
  have hK5 := block_lt g5
  have nX : Hid (∀ i, w.heap.size ≤ i → ¬ X i) := fun i hi c => by have := H0.out.ltX i c; omega
  have HM3 := Hid.mk (H0.out.later hB)
  obtain ⟨XM, XB, XT, tb, tr, pv, hm⟩ := HM3.out
  have HM := Hid.mk hm
  obtain ⟨-, k0, -⟩ := row5 hm.row
  have k1 := (TR.row2c g0).2
  obtain ⟨⟨k2, k3, k4, k5, k6, k7, k8, k9⟩, -⟩ := cells8 g4
  clear hm
  go_upto_region 6 with fail
  refine wp_region_noPanic ?_
  refine wp_region_held_drew (S := (fun w' => w'.cell? ⟨x, 1, none⟩ = some (.pointer (some ⟨tb, 0, none⟩)) ∧ w'.cell? ⟨w.heap.size, 1, none⟩ = some (.int .i64 (I : Nat)) ∧ w'.cell? ⟨KL, 0, none⟩ = some (.int .i64 l) ∧ w'.cell? ⟨KL, 1, none⟩ = some (.int .i64 k) ∧ w'.cell? ⟨KL, 2, none⟩ = some (.int .u64 (o : Nat)) ∧ w'.cell? ⟨KL, 3, none⟩ = some (.bool u) ∧ w'.cell? ⟨KL, 4, none⟩ = some (.bool r) ∧ w'.cell? ⟨KL, 5, none⟩ = some (.bool y) ∧ w'.cell? ⟨KL, 6, none⟩ = some (.bool true) ∧ w'.cell? ⟨KL, 7, none⟩ = some (.int .i64 t))) (by kernel_rfl) ?_ (fun hHeld => ?_)
  · exact ⟨cell_later (Below.refl _ _).drew k0, cell_later (Below.refl _ _).drew k1, cell_later (Below.refl _ _).drew k2, cell_later (Below.refl _ _).drew k3, cell_later (Below.refl _ _).drew k4, cell_later (Below.refl _ _).drew k5, cell_later (Below.refl _ _).drew k6, cell_later (Below.refl _ _).drew k7, cell_later (Below.refl _ _).drew k8, cell_later (Below.refl _ _).drew k9⟩
  replace k0 := cell_later (Below.refl _ w3).drew k0
  replace k1 := cell_later (Below.refl _ w3).drew k1
  replace k2 := cell_later (Below.refl _ w3).drew k2
  replace k3 := cell_later (Below.refl _ w3).drew k3
  replace k4 := cell_later (Below.refl _ w3).drew k4
  replace k5 := cell_later (Below.refl _ w3).drew k5
  replace k6 := cell_later (Below.refl _ w3).drew k6
  replace k7 := cell_later (Below.refl _ w3).drew k7
  replace k8 := cell_later (Below.refl _ w3).drew k8
  replace k9 := cell_later (Below.refl _ w3).drew k9
  refine TR.take_at (i := 0) (v := ?_) 59 rfl rfl (by kernel_rfl) (by kernel_rfl) (by kernel_rfl) (fun _ _ _ h => h) (Or.inl ⟨by rfl, ?_⟩) (by assumption) ?_
  rotate_left
  · (intro w' hSw; (try dsimp only at hSw); go_simp; all_goals with_reducible rfl)
  try simp only [Act.put, List.setIfInBounds_toArray, List.set_cons_zero, List.set_cons_succ]
  refine TR.take_at (i := 1) (v := ?_) 60 rfl rfl (by kernel_rfl) (by kernel_rfl) (by kernel_rfl) (fun _ _ _ h => h) (Or.inl ⟨by rfl, ?_⟩) (by assumption) ?_
  rotate_left
  · (intro w' hSw; (try dsimp only at hSw); go_simp; all_goals with_reducible rfl)
  try simp only [Act.put, List.setIfInBounds_toArray, List.set_cons_zero, List.set_cons_succ]
  refine TR.take_at (i := 2) (v := ?_) 61 rfl rfl (by kernel_rfl) (by kernel_rfl) (by kernel_rfl) (fun _ _ _ h => h) (Or.inl ⟨by rfl, ?_⟩) (by assumption) ?_
  rotate_left
  · (intro w' hSw; (try dsimp only at hSw); go_simp; all_goals with_reducible rfl)
  try simp only [Act.put, List.setIfInBounds_toArray, List.set_cons_zero, List.set_cons_succ]
  refine TR.take_at (i := 3) (v := ?_) 62 rfl rfl (by kernel_rfl) (by kernel_rfl) (by kernel_rfl) (fun _ _ _ h => h) (Or.inl ⟨by rfl, ?_⟩) (by assumption) ?_
  rotate_left
  · (intro w' hSw; (try dsimp only at hSw); go_simp; all_goals with_reducible rfl)
  try simp only [Act.put, List.setIfInBounds_toArray, List.set_cons_zero, List.set_cons_succ]
  refine TR.take_at (i := 4) (v := ?_) 63 rfl rfl (by kernel_rfl) (by kernel_rfl) (by kernel_rfl) (fun _ _ _ h => h) (Or.inl ⟨by rfl, ?_⟩) (by assumption) ?_
  rotate_left
  · (intro w' hSw; (try dsimp only at hSw); go_simp; all_goals with_reducible rfl)
  try simp only [Act.put, List.setIfInBounds_toArray, List.set_cons_zero, List.set_cons_succ]
  refine TR.take_at (i := 5) (v := ?_) 64 rfl rfl (by kernel_rfl) (by kernel_rfl) (by kernel_rfl) (fun _ _ _ h => h) (Or.inl ⟨by rfl, ?_⟩) (by assumption) ?_
  rotate_left
  · (intro w' hSw; (try dsimp only at hSw); go_simp; all_goals with_reducible rfl)
  try simp only [Act.put, List.setIfInBounds_toArray, List.set_cons_zero, List.set_cons_succ]
  refine TR.take_at (i := 6) (v := ?_) 65 rfl rfl (by kernel_rfl) (by kernel_rfl) (by kernel_rfl) (fun _ _ _ h => h) (Or.inl ⟨by rfl, ?_⟩) (by assumption) ?_
  rotate_left
  · (intro w' hSw; (try dsimp only at hSw); go_simp; all_goals with_reducible rfl)
  try simp only [Act.put, List.setIfInBounds_toArray, List.set_cons_zero, List.set_cons_succ]
  refine TR.take_at (i := 7) (v := ?_) 66 rfl rfl (by kernel_rfl) (by kernel_rfl) (by kernel_rfl) (fun _ _ _ h => h) (Or.inl ⟨by rfl, ?_⟩) (by assumption) ?_
  rotate_left
  · (intro w' hSw; (try dsimp only at hSw); go_simp; all_goals with_reducible rfl)
  try simp only [Act.put, List.setIfInBounds_toArray, List.set_cons_zero, List.set_cons_succ]
  refine TR.take_at (i := 8) (v := ?_) 67 rfl rfl (by kernel_rfl) (by kernel_rfl) (by kernel_rfl) (fun _ _ _ h => h) (Or.inl ⟨by rfl, ?_⟩) (by assumption) ?_
  rotate_left
  · (intro w' hSw; (try dsimp only at hSw); go_simp; all_goals with_reducible rfl)
  try simp only [Act.put, List.setIfInBounds_toArray, List.set_cons_zero, List.set_cons_succ]
  refine TR.take_at (i := 10) (v := ?_) 69 rfl rfl (by kernel_rfl) (by kernel_rfl) (by kernel_rfl) (fun _ _ _ h => h) (Or.inl ⟨by rfl, ?_⟩) (by assumption) ?_
  rotate_left
  · (intro w' hSw; (try dsimp only at hSw); go_simp; all_goals with_reducible rfl)
  try simp only [Act.put, List.setIfInBounds_toArray, List.set_cons_zero, List.set_cons_succ]
  refine TR.take_at (i := 11) (v := ?_) 70 rfl rfl (by kernel_rfl) (by kernel_rfl) (by kernel_rfl) (fun _ _ _ h => h) (Or.inl ⟨by rfl, ?_⟩) (by assumption) ?_
  rotate_left
  · (intro w' hSw; (try dsimp only at hSw); go_simp; all_goals with_reducible rfl)
  try simp only [Act.put, List.setIfInBounds_toArray, List.set_cons_zero, List.set_cons_succ]
  refine TR.take_at (i := 12) (v := ?_) 71 rfl rfl (by kernel_rfl) (by kernel_rfl) (by kernel_rfl) (fun _ _ _ h => h) (Or.inl ⟨by rfl, ?_⟩) (by assumption) ?_
  rotate_left
  · (intro w' hSw; (try dsimp only at hSw); go_simp; all_goals with_reducible rfl)
  try simp only [Act.put, List.setIfInBounds_toArray, List.set_cons_zero, List.set_cons_succ]
  refine TR.take_at (i := 13) (v := ?_) 72 rfl rfl (by kernel_rfl) (by kernel_rfl) (by kernel_rfl) (fun _ _ _ h => h) (Or.inl ⟨by rfl, ?_⟩) (by assumption) ?_
  rotate_left
  · (intro w' hSw; (try dsimp only at hSw); go_simp; all_goals with_reducible rfl)
  try simp only [Act.put, List.setIfInBounds_toArray, List.set_cons_zero, List.set_cons_succ]
  refine wpAnyH_ready (rs := [9]) (by kernel_rfl) (by simp) ?_
  refine AllReadyH.cons rfl (fun K hK => ?_) AllReadyH.nil
  go_simp
  refine (HBA.out _).mono ?_
  rintro e w7 ⟨rfl, rfl⟩
  go_wp2_with fail
  refine hK.out _ _ ⟨k0, k1, k2, k3, k4, k5, k6, k7, k8, k9⟩ (fun hHeld1 => ?_)
  clear hK
  try simp only [Act.put, List.setIfInBounds_toArray, List.set_cons_zero, List.set_cons_succ]
  refine TR.take_at (i := 14) (v := ?_) 73 rfl rfl (by kernel_rfl) (by kernel_rfl) (by kernel_rfl) (fun _ _ _ h => h) (Or.inl ⟨by rfl, ?_⟩) (by assumption) ?_
  rotate_left
  · (intro w' hSw; (try dsimp only at hSw); go_simp; all_goals with_reducible rfl)
  try simp only [Act.put, List.setIfInBounds_toArray, List.set_cons_zero, List.set_cons_succ]
  have nX8 : Hid (∀ i, w.heap.size ≤ i → i < w3.heap.size → ¬ X i) := fun i hi hj c => nX.out i hi c
  refine wpAnyH_ready (rs := [15]) (by kernel_rfl) (by simp) ?_
  refine AllReadyH.cons rfl (fun K hK => ?_) AllReadyH.nil
  go_simp
  refine ((HM.out.later (Below.refl _ w3).drew).fillE ⟨(I : Int), baseV va l, l, k, o, u, r, y, true, t⟩ HEO.out).mono ?_
  rintro e w8 ⟨⟨kk8, rfl⟩, hM8, hT8, hx8⟩
  go_wp2_with fail
  replace k0 := (World.cell?_of_block (a := ⟨x, 1, none⟩) hx8).trans k0
  replace k1 := TR.turn_cell hT8 (nX8.out _ (by omega) (by omega)) k1
  replace k2 := TR.turn_cell hT8 (nX8.out _ (by omega) (by omega)) k2
  replace k3 := TR.turn_cell hT8 (nX8.out _ (by omega) (by omega)) k3
  replace k4 := TR.turn_cell hT8 (nX8.out _ (by omega) (by omega)) k4
  replace k5 := TR.turn_cell hT8 (nX8.out _ (by omega) (by omega)) k5
  replace k6 := TR.turn_cell hT8 (nX8.out _ (by omega) (by omega)) k6
  replace k7 := TR.turn_cell hT8 (nX8.out _ (by omega) (by omega)) k7
  replace k8 := TR.turn_cell hT8 (nX8.out _ (by omega) (by omega)) k8
  replace k9 := TR.turn_cell hT8 (nX8.out _ (by omega) (by omega)) k9
  refine hK.out _ _ ⟨k0, k1, k2, k3, k4, k5, k6, k7, k8, k9⟩ (fun hHeld2 => ?_)
  have HX8 := Hid.mk hx8
  clear hK k0 k1 k2 k3 k4 k5 k6 k7 k8 k9 hx8 HM
  try simp only [Act.put, List.setIfInBounds_toArray, List.set_cons_zero, List.set_cons_succ]
  refine wpAnyH_done (by kernel_rfl) ?_ _
  refine NoPanic.normal ?_
  replace g0 := (hT8.block _ (block_lt g0) (nX8.out _ (by omega) (by omega))).trans g0
  replace g1 := (hT8.block _ (block_lt g1) (nX8.out _ (by omega) (by omega))).trans g1
  replace g2 := (hT8.block _ (block_lt g2) (nX8.out _ (by omega) (by omega))).trans g2
  replace g3 := (hT8.block _ (block_lt g3) (nX8.out _ (by omega) (by omega))).trans g3
  replace g4 := (hT8.block _ (block_lt g4) (nX8.out _ (by omega) (by omega))).trans g4
  replace g5 := (hT8.block _ (block_lt g5) (nX8.out _ (by omega) (by omega))).trans g5
  have HM8 := Hid.mk hM8
  have HT8 := Hid.mk hT8
  clear hM8 hT8
  obtain ⟨⟨k0, k1, k2, k3, k4, k5, k6, k7⟩, -⟩ := cells8 g4
  obtain ⟨k8, k9⟩ := TR.row2c g5
  go_upto_region 7 with fail
  refine wp_region_noPanic ?_
  refine wp_region_held_drew (S := (fun w' => w'.cell? ⟨KL, 0, none⟩ = some (.int .i64 l) ∧ w'.cell? ⟨KL, 1, none⟩ = some (.int .i64 k) ∧ w'.cell? ⟨KL, 2, none⟩ = some (.int .u64 (o : Nat)) ∧ w'.cell? ⟨KL, 3, none⟩ = some (.bool u) ∧ w'.cell? ⟨KL, 4, none⟩ = some (.bool r) ∧ w'.cell? ⟨KL, 5, none⟩ = some (.bool y) ∧ w'.cell? ⟨KL, 6, none⟩ = some (.bool true) ∧ w'.cell? ⟨KL, 7, none⟩ = some (.int .i64 t) ∧ w'.cell? ⟨KL + 1, 0, none⟩ = some (.int .i64 f1) ∧ w'.cell? ⟨KL + 1, 1, none⟩ = some (.int .i64 f2))) (by kernel_rfl) ?_ (fun hHeld => ?_)
  · exact ⟨cell_later (Below.refl _ _).drew k0, cell_later (Below.refl _ _).drew k1, cell_later (Below.refl _ _).drew k2, cell_later (Below.refl _ _).drew k3, cell_later (Below.refl _ _).drew k4, cell_later (Below.refl _ _).drew k5, cell_later (Below.refl _ _).drew k6, cell_later (Below.refl _ _).drew k7, cell_later (Below.refl _ _).drew k8, cell_later (Below.refl _ _).drew k9⟩
  replace k0 := cell_later (Below.refl _ w8).drew k0
  replace k1 := cell_later (Below.refl _ w8).drew k1
  replace k2 := cell_later (Below.refl _ w8).drew k2
  replace k3 := cell_later (Below.refl _ w8).drew k3
  replace k4 := cell_later (Below.refl _ w8).drew k4
  replace k5 := cell_later (Below.refl _ w8).drew k5
  replace k6 := cell_later (Below.refl _ w8).drew k6
  replace k7 := cell_later (Below.refl _ w8).drew k7
  replace k8 := cell_later (Below.refl _ w8).drew k8
  replace k9 := cell_later (Below.refl _ w8).drew k9
  refine TR.take_at (i := 0) (v := ?_) 75 rfl rfl (by kernel_rfl) (by kernel_rfl) (by kernel_rfl) (fun _ _ _ h => h) (Or.inl ⟨by rfl, ?_⟩) (by assumption) ?_
  rotate_left
  · (intro w' hSw; (try dsimp only at hSw); go_simp; all_goals with_reducible rfl)
  try simp only [Act.put, List.setIfInBounds_toArray, List.set_cons_zero, List.set_cons_succ]
  refine TR.take_at (i := 1) (v := ?_) 76 rfl rfl (by kernel_rfl) (by kernel_rfl) (by kernel_rfl) (fun _ _ _ h => h) (Or.inl ⟨by rfl, ?_⟩) (by assumption) ?_
  rotate_left
  · (intro w' hSw; (try dsimp only at hSw); go_simp; all_goals with_reducible rfl)
  try simp only [Act.put, List.setIfInBounds_toArray, List.set_cons_zero, List.set_cons_succ]
  refine wpAnyH_ready (rs := [2]) (by kernel_rfl) (by simp) ?_
  refine AllReadyH.cons rfl (fun K hK => ?_) AllReadyH.nil
  refine step_store_seg rfl rfl 62 _ _ rfl (w.heap.size + 1 + 1) 0 _ #[.int .i64 l, .int .i64 k, .int .u64 (o : Nat), .bool u, .bool r, .bool y, .bool true, .int .i64 t] rfl rfl rfl 62 _ (block_later (Below.refl _ w8).drew g2) (show 0 + 8 ≤ 8 by decide) info_leaf (by simp [Value.oneCell']) #[.int .i64 l, .int .i64 k, .int .u64 (o : Nat), .bool u, .bool r, .bool y, .bool true, .int .i64 t] rfl ?_
  intro wa hrwa htwa
  replace k0 := TR.turn_cell htwa (by omega) k0
  replace k1 := TR.turn_cell htwa (by omega) k1
  replace k2 := TR.turn_cell htwa (by omega) k2
  replace k3 := TR.turn_cell htwa (by omega) k3
  replace k4 := TR.turn_cell htwa (by omega) k4
  replace k5 := TR.turn_cell htwa (by omega) k5
  replace k6 := TR.turn_cell htwa (by omega) k6
  replace k7 := TR.turn_cell htwa (by omega) k7
  replace k8 := TR.turn_cell htwa (by omega) k8
  replace k9 := TR.turn_cell htwa (by omega) k9
  replace g3 := block_turn htwa (block_later (Below.refl _ w8).drew g3) (by omega)
  refine hK.out _ _ ⟨k0, k1, k2, k3, k4, k5, k6, k7, k8, k9⟩ (fun hHeldwa => ?_)
  clear hK
  try simp only [Act.put, List.setIfInBounds_toArray, List.set_cons_zero, List.set_cons_succ]
  refine wpAnyH_ready (rs := [3]) (by kernel_rfl) (by simp) ?_
  refine AllReadyH.cons rfl (fun K hK => ?_) AllReadyH.nil
  refine step_store_seg rfl rfl 48 _ _ rfl (w.heap.size + 1 + 1 + 1) 0 _ #[.int .i64 f1, .int .i64 f2] rfl rfl rfl 48 _ g3 (show 0 + 2 ≤ 2 by decide) info_fault (by simp [Value.oneCell']) #[.int .i64 f1, .int .i64 f2] rfl ?_
  intro wb hrwb htwb
  replace k0 := TR.turn_cell htwb (by omega) k0
  replace k1 := TR.turn_cell htwb (by omega) k1
  replace k2 := TR.turn_cell htwb (by omega) k2
  replace k3 := TR.turn_cell htwb (by omega) k3
  replace k4 := TR.turn_cell htwb (by omega) k4
  replace k5 := TR.turn_cell htwb (by omega) k5
  replace k6 := TR.turn_cell htwb (by omega) k6
  replace k7 := TR.turn_cell htwb (by omega) k7
  replace k8 := TR.turn_cell htwb (by omega) k8
  replace k9 := TR.turn_cell htwb (by omega) k9
  replace hrwa := block_turn htwb hrwa (by omega)
  refine hK.out _ _ ⟨k0, k1, k2, k3, k4, k5, k6, k7, k8, k9⟩ (fun hHeldwb => ?_)
  clear hK
  try simp only [Act.put, List.setIfInBounds_toArray, List.set_cons_zero, List.set_cons_succ]
  refine wpAnyH_done (by kernel_rfl) ?_ _
  refine NoPanic.normal ?_
  clear k0 k1 k2 k3 k4 k5 k6 k7 k8 k9
  go_wp2
  refine bodyPost_ret (results_row_row rfl _ _ (w.heap.size + 1 + 1) (w.heap.size + 1 + 1 + 1) _ _ _ _ _ _ _ _ rfl hrwa Tryz.underlying62 rfl info_leaf rfl hrwb Tryz.underlying48 rfl info_fault) rfl ⟨rfl, ?_⟩
  rw [HWS.out]
  have hTT : Turn (fun i => i = w.heap.size + 1 + 1 ∨ i = w.heap.size + 1 + 1 + 1) w8.drew wb := ((turn_of_below _ (Below.refl _ _)).trans htwa (fun i _ hi => Or.inl hi)).trans htwb (fun i _ hi => Or.inr hi)
  have e1 := hsz
  have hTw := ((turn_of_below X hB).trans (turn_of_below X (Below.refl _ _).drew) (fun _ _ h => h)).trans HT8.out (fun _ _ h => h)
  have hxw : x < w.heap.size := H0.out.ltX x (by obtain ⟨_, _, _, _, _, _, h⟩ := H0.out; exact h.cx)
  have hdx : ∀ W : World, x < W.heap.size → W.drew.heap[x]? = W.heap[x]? := fun W hx => (Below.refl W.heap.size W).drew.block x hx
  have hxx : wb.heap[x]? = w.heap[x]? := by
    have hxa : x < w8.heap.size := by have e : w8.drew.heap.size = w8.heap.size := rfl; have := hTw.size; omega
    have ea := hTT.block x hxa (fun c => by rcases c with c | c <;> omega)
    exact (ea.trans (hdx w8 hxa)).trans ((HX8.out.trans (hdx w3 (by have := hB.size; omega))).trans (hB.block x hxw))
  refine and_mid hxx ?_
  refine H0.out.fin HM8.out (Below.refl _ _).drew hTT (fun i hi => ?_) (fun i hi => ?_) hTw
  · skip
    rcases hi with hi | hi
    · exact Or.inl hi
    · exact Or.inr (by have e : w3.drew.heap.size = w3.heap.size := rfl; omega)
  · have h1 : w.heap.size ≤ i := by rcases hi with hi | hi <;> omega
    have h2 : i < w.heap.size + 1 + 1 + 1 + 1 := by rcases hi with hi | hi <;> omega
    refine ⟨h1, fun c => ?_⟩
    · skip
      rcases c with c | c
      · exact nX.out i h1 c
      · have e : w3.drew.heap.size = w3.heap.size := rfl
        omega


set_option maxHeartbeats 2000000 in
set_option maxRecDepth 100000 in
theorem walked_kn (h : Mch w0 w X x a n S most s) (R I va : Nat) (hR : R < 281474976710656) (hn : Hn) (hva : va < 18446744073709551616) (hk : hn.keep = true) (hf : hn.fill = false) :
    Calls Tryz.prog 52 #[.pointer (some ⟨x, 0, none⟩), bsV R I, .int .u64 va, hn.v] w fun r w' => r = .returned (.tuple #[.agg (lfR (wkO S s R I va hn).2).cs.toArray, .agg #[.int .i64 (ftR (wkO S s R I va hn).2).1, .int .i64 (ftR (wkO S s R I va hn).2).2]]) ∧ Mch w0 w' (Gr X w w') x a n S most (wdS S most s R I va hn) ∧ Turn X w w' ∧ w'.heap[x]? = w.heap[x]? := by
  have H0 := Hid.mk h
  have HST := Hid.mk (fun W (hb : Below w.heap.size w W) => start_c (H0.out.later hb) R I va hn hva)
  have HL := Hid.mk (stL_lv h.wfm I va hn)
  have HT := Hid.mk (stT_lt h.wfm hR I va hn)
  have HFR : Hid (∀ W (_ : Below w.heap.size w W), Calls Tryz.prog 62 #[.pointer (some ⟨a, 0, none⟩), .int .i64 (stL s I va hn), .int .u64 (stT s R I va hn : Nat), .int .u64 va] W fun e w' => e = .returned (.tuple #[.agg (lfR (wkO S s R I va hn).2).cs.toArray, .agg #[.int .i64 (ftR (wkO S s R I va hn).2).1, .int .i64 (ftR (wkO S s R I va hn).2).2]]) ∧ Below W.heap.size W w') := fun W hb => by
    obtain ⟨XM, XB, XT, tb, tr, pv, h⟩ := H0.out.later hb
    have := from_any (stL s I va hn) (stT s R I va hn) va HT.out h.mem h.fld.t.d
    rw [leafL_cs, faultL_cs] at this
    exact this
  have HTR : Hid (∀ W (_ : Below w.heap.size w W), Calls Tryz.prog 89 #[.pointer (some ⟨a, 0, none⟩), .int .i64 (stL s I va hn), .int .u64 (stT s R I va hn : Nat), .int .u64 va] W fun e w' => ∃ p cap, e = .returned (.slice p (wkO S s R I va hn).1.length cap) ∧ Psl w' (fun g => W.heap.size ≤ g) (.slice p (wkO S s R I va hn).1.length cap) (wkO S s R I va hn).1 ∧ Below W.heap.size W w') := fun W hb => by
    obtain ⟨XM, XB, XT, tb, tr, pv, h⟩ := H0.out.later hb
    refine (trace_any (stL s I va hn) (stT s R I va hn) va HT.out h.mem h.fld.t.d).mono ?_
    rintro e w' ⟨v, rfl, hp, hb⟩
    obtain ⟨p, cap, rfl, -⟩ := hp.form
    exact ⟨p, cap, rfl, hp, hb⟩
  have HWK : Hid (∀ W XM XB XT tb tr pv (h : MchV w0 W X XM XB XT x a tb tr n S most s pv) (p : Option Addr) (cap : Nat), Psl W (fun g => ¬ X g) (.slice p (wkO S s R I va hn).1.length cap) (wkO S s R I va hn).1 →
    Calls Tryz.prog 93 #[.pointer (some ⟨tr, 0, none⟩), .int .i64 (I : Nat), .int .u64 va, .int .i64 (stL s I va hn), .slice p (wkO S s R I va hn).1.length cap] W fun r w' => (∃ k : Int, r = .returned (.int .i64 k)) ∧ Mch w0 w' (Gr X W w') x a n S most { s with K := kK S most s R I va hn } ∧ Turn X W w' ∧ w'.heap[x]? = W.heap[x]?) := fun W XM XB XT tb tr pv h p cap hp => by
    have e : kK S most s R I va hn = TR.wdL most (I : Int) va (stL s I va hn) (fun j => (wkO S s R I va hn).1[j]!.2) s.K (tkn (stL s I va hn) (wkO S s R I va hn).1) := by unfold kK; rw [if_pos hk]
    rw [e]
    exact h.walked I va hva (stL s I va hn) HL.out.1 HL.out.2 (stT s R I va hn) p cap hp
  have HEE : Hid (kE S most s R I va hn = s.E) := by show _ = _; unfold kE; rw [if_neg (by rw [hf, Bool.false_and]; decide)]
  have HWS : Hid (wdS S most s R I va hn = { s with E := kE S most s R I va hn, K := kK S most s R I va hn }) := rfl
  clear h hva hR
  generalize wdS S most s R I va hn = s' at *
  rw [HEE.out] at HWS
  generalize kK S most s R I va hn = K' at *
  clear HEE
  generalize kE S most s R I va hn = E' at *
  generalize wkO S s R I va hn = wr at *
  generalize stL s I va hn = LV at *
  generalize stT s R I va hn = TV at *
  generalize lfR wr.2 = lf at *
  generalize ftR wr.2 = ft at *
  obtain ⟨L, r0⟩ := wr
  obtain ⟨l, k, o, u, r, y, q, t⟩ := lf
  obtain ⟨f1, f2⟩ := ft
  obtain ⟨hf', hl', hk'⟩ := hn
  simp only [Lf.cs] at *
  subst hk hf
  have g0 := heap4_0 w (.cells #[.int .u64 (R : Nat), .int .i64 (I : Nat)] 120) (.cells #[.bool false, .bool hl', .bool true] 38) (.cells #[.int .i64 0, .int .i64 0, .int .u64 0, .bool false, .bool false, .bool false, .bool false, .int .i64 0] 62) (.cells #[.int .i64 0, .int .i64 0] 48)
  have g1 := heap4_1 w (.cells #[.int .u64 (R : Nat), .int .i64 (I : Nat)] 120) (.cells #[.bool false, .bool hl', .bool true] 38) (.cells #[.int .i64 0, .int .i64 0, .int .u64 0, .bool false, .bool false, .bool false, .bool false, .int .i64 0] 62) (.cells #[.int .i64 0, .int .i64 0] 48)
  have g2 := heap4_2 w (.cells #[.int .u64 (R : Nat), .int .i64 (I : Nat)] 120) (.cells #[.bool false, .bool hl', .bool true] 38) (.cells #[.int .i64 0, .int .i64 0, .int .u64 0, .bool false, .bool false, .bool false, .bool false, .int .i64 0] 62) (.cells #[.int .i64 0, .int .i64 0] 48)
  have g3 := heap4_3 w (.cells #[.int .u64 (R : Nat), .int .i64 (I : Nat)] 120) (.cells #[.bool false, .bool hl', .bool true] 38) (.cells #[.int .i64 0, .int .i64 0, .int .u64 0, .bool false, .bool false, .bool false, .bool false, .int .i64 0] 62) (.cells #[.int .i64 0, .int .i64 0] 48)
  have hB := below4 w (.cells #[.int .u64 (R : Nat), .int .i64 (I : Nat)] 120) (.cells #[.bool false, .bool hl', .bool true] 38) (.cells #[.int .i64 0, .int .i64 0, .int .u64 0, .bool false, .bool false, .bool false, .bool false, .int .i64 0] 62) (.cells #[.int .i64 0, .int .i64 0] 48)
  have hsz := size4 w (.cells #[.int .u64 (R : Nat), .int .i64 (I : Nat)] 120) (.cells #[.bool false, .bool hl', .bool true] 38) (.cells #[.int .i64 0, .int .i64 0, .int .u64 0, .bool false, .bool false, .bool false, .bool false, .int .i64 0] 62) (.cells #[.int .i64 0, .int .i64 0] 48)
  go_enter Tryz.func52, Tryz.ntmps52
  go_upto_region 1 with fail
  generalize (((w.alloc (.cells #[.int .u64 (R : Nat), .int .i64 (I : Nat)] 120)).alloc (.cells #[.bool false, .bool hl', .bool true] 38)).alloc (.cells #[.int .i64 0, .int .i64 0, .int .u64 0, .bool false, .bool false, .bool false, .bool false, .int .i64 0] 62)).alloc (.cells #[.int .i64 0, .int .i64 0] 48) = W4 at *
  obtain ⟨c0, c1⟩ := TR.row2c g0
  obtain ⟨c2, c3, c4⟩ := cells3 g1
  go_wp2_with fail
  refine (HST.out _ hB).mono ?_
  rintro e w1 ⟨rfl, hb1⟩
  clear HST c0 c1 c2 c3 c4
  replace g0 := block_later hb1 g0
  replace g1 := block_later hb1 g1
  replace g2 := block_later hb1 g2
  replace g3 := block_later hb1 g3
  replace hB := below_tr hB hb1
  replace hsz : w.heap.size + 1 + 1 + 1 + 1 ≤ w1.heap.size := hsz ▸ hb1.size
  clear hb1
  obtain ⟨XM, XB, XT, tb, tr, pv, h1⟩ := H0.out.later hB
  obtain ⟨d0, d1, d2, -⟩ := row5 h1.row
  clear h1
  go_wp2_with fail
  refine (HFR.out _ hB).mono ?_
  rintro e w2 ⟨rfl, hb2⟩
  clear HFR d0 d1 d2
  replace g0 := block_later hb2 g0
  replace g1 := block_later hb2 g1
  replace g2 := block_later hb2 g2
  replace g3 := block_later hb2 g3
  replace hB := below_tr hB hb2
  replace hsz := Nat.le_trans hsz hb2.size
  clear hb2
  have g4 := heap2_0 w2 (.cells #[.int .i64 l, .int .i64 k, .int .u64 (o : Nat), .bool u, .bool r, .bool y, .bool q, .int .i64 t] 62) (.cells #[.int .i64 f1, .int .i64 f2] 48)
  have g5 := heap_alloc2_new w2 (.cells #[.int .i64 l, .int .i64 k, .int .u64 (o : Nat), .bool u, .bool r, .bool y, .bool q, .int .i64 t] 62) (.cells #[.int .i64 f1, .int .i64 f2] 48)
  have hb3 := below2 w2 (.cells #[.int .i64 l, .int .i64 k, .int .u64 (o : Nat), .bool u, .bool r, .bool y, .bool q, .int .i64 t] 62) (.cells #[.int .i64 f1, .int .i64 f2] 48)
  go_upto_region 3 with fail
  generalize (w2.alloc (.cells #[.int .i64 l, .int .i64 k, .int .u64 (o : Nat), .bool u, .bool r, .bool y, .bool q, .int .i64 t] 62)).alloc (.cells #[.int .i64 f1, .int .i64 f2] 48) = w3 at *
  replace g0 := block_later hb3 g0
  replace g1 := block_later hb3 g1
  replace g2 := block_later hb3 g2
  replace g3 := block_later hb3 g3
  replace hB := below_tr hB hb3
  clear hb3
  generalize w2.heap.size = KL at *
  obtain ⟨h0, h2, h3⟩ := cells3 g1
  have hK5 := block_lt g5
  have nX : Hid (∀ i, w.heap.size ≤ i → ¬ X i) := fun i hi c => by have := H0.out.ltX i c; omega
  obtain ⟨XM, XB, XT, tb, tr, pv, hm⟩ := H0.out.later hB
  have HM := Hid.mk hm
  obtain ⟨k0, -, k1, -⟩ := row5 hm.row
  have k2 := (TR.row2c g0).2
  clear hm
  go_upto_region 4 with fail
  refine wp_region_noPanic ?_
  refine wp_region_held_drew (S := (fun w' => w'.cell? ⟨x, 0, none⟩ = some (.pointer (some ⟨a, 0, none⟩)) ∧ w'.cell? ⟨x, 2, none⟩ = some (.pointer (some ⟨tr, 0, none⟩)) ∧ w'.cell? ⟨w.heap.size, 1, none⟩ = some (.int .i64 (I : Nat)))) (by kernel_rfl) ?_ (fun hHeld => ?_)
  · exact ⟨cell_later (Below.refl _ _).drew k0, cell_later (Below.refl _ _).drew k1, cell_later (Below.refl _ _).drew k2⟩
  replace k0 := cell_later (Below.refl _ w3).drew k0
  replace k1 := cell_later (Below.refl _ w3).drew k1
  replace k2 := cell_later (Below.refl _ w3).drew k2
  refine TR.take_at (i := 0) (v := ?_) 35 rfl rfl (by kernel_rfl) (by kernel_rfl) (by kernel_rfl) (fun _ _ _ h => h) (Or.inl ⟨by rfl, ?_⟩) (by assumption) ?_
  rotate_left
  · (intro w' hSw; (try dsimp only at hSw); go_simp; all_goals with_reducible rfl)
  try simp only [Act.put, List.setIfInBounds_toArray, List.set_cons_zero, List.set_cons_succ]
  refine TR.take_at (i := 1) (v := ?_) 36 rfl rfl (by kernel_rfl) (by kernel_rfl) (by kernel_rfl) (fun _ _ _ h => h) (Or.inl ⟨by rfl, ?_⟩) (by assumption) ?_
  rotate_left
  · (intro w' hSw; (try dsimp only at hSw); go_simp; all_goals with_reducible rfl)
  try simp only [Act.put, List.setIfInBounds_toArray, List.set_cons_zero, List.set_cons_succ]
  refine TR.take_at (i := 2) (v := ?_) 37 rfl rfl (by kernel_rfl) (by kernel_rfl) (by kernel_rfl) (fun _ _ _ h => h) (Or.inl ⟨by rfl, ?_⟩) (by assumption) ?_
  rotate_left
  · (intro w' hSw; (try dsimp only at hSw); go_simp; all_goals with_reducible rfl)
  try simp only [Act.put, List.setIfInBounds_toArray, List.set_cons_zero, List.set_cons_succ]
  refine TR.take_at (i := 3) (v := ?_) 38 rfl rfl (by kernel_rfl) (by kernel_rfl) (by kernel_rfl) (fun _ _ _ h => h) (Or.inl ⟨by rfl, ?_⟩) (by assumption) ?_
  rotate_left
  · (intro w' hSw; (try dsimp only at hSw); go_simp; all_goals with_reducible rfl)
  try simp only [Act.put, List.setIfInBounds_toArray, List.set_cons_zero, List.set_cons_succ]
  refine TR.take_at (i := 4) (v := ?_) 39 rfl rfl (by kernel_rfl) (by kernel_rfl) (by kernel_rfl) (fun _ _ _ h => h) (Or.inl ⟨by rfl, ?_⟩) (by assumption) ?_
  rotate_left
  · (intro w' hSw; (try dsimp only at hSw); go_simp; all_goals with_reducible rfl)
  try simp only [Act.put, List.setIfInBounds_toArray, List.set_cons_zero, List.set_cons_succ]
  refine TR.take_at (i := 5) (v := ?_) 40 rfl rfl (by kernel_rfl) (by kernel_rfl) (by kernel_rfl) (fun _ _ _ h => h) (Or.inl ⟨by rfl, ?_⟩) (by assumption) ?_
  rotate_left
  · (intro w' hSw; (try dsimp only at hSw); go_simp; all_goals with_reducible rfl)
  try simp only [Act.put, List.setIfInBounds_toArray, List.set_cons_zero, List.set_cons_succ]
  refine TR.take_at (i := 6) (v := ?_) 41 rfl rfl (by kernel_rfl) (by kernel_rfl) (by kernel_rfl) (fun _ _ _ h => h) (Or.inl ⟨by rfl, ?_⟩) (by assumption) ?_
  rotate_left
  · (intro w' hSw; (try dsimp only at hSw); go_simp; all_goals with_reducible rfl)
  try simp only [Act.put, List.setIfInBounds_toArray, List.set_cons_zero, List.set_cons_succ]
  refine TR.take_at (i := 7) (v := ?_) 42 rfl rfl (by kernel_rfl) (by kernel_rfl) (by kernel_rfl) (fun _ _ _ h => h) (Or.inl ⟨by rfl, ?_⟩) (by assumption) ?_
  rotate_left
  · (intro w' hSw; (try dsimp only at hSw); go_simp; all_goals with_reducible rfl)
  try simp only [Act.put, List.setIfInBounds_toArray, List.set_cons_zero, List.set_cons_succ]
  refine TR.take_at (i := 8) (v := ?_) 43 rfl rfl (by kernel_rfl) (by kernel_rfl) (by kernel_rfl) (fun _ _ _ h => h) (Or.inl ⟨by rfl, ?_⟩) (by assumption) ?_
  rotate_left
  · (intro w' hSw; (try dsimp only at hSw); go_simp; all_goals with_reducible rfl)
  try simp only [Act.put, List.setIfInBounds_toArray, List.set_cons_zero, List.set_cons_succ]
  refine TR.take_at (i := 9) (v := ?_) 44 rfl rfl (by kernel_rfl) (by kernel_rfl) (by kernel_rfl) (fun _ _ _ h => h) (Or.inl ⟨by rfl, ?_⟩) (by assumption) ?_
  rotate_left
  · (intro w' hSw; (try dsimp only at hSw); go_simp; all_goals with_reducible rfl)
  try simp only [Act.put, List.setIfInBounds_toArray, List.set_cons_zero, List.set_cons_succ]
  refine TR.take_at (i := 10) (v := ?_) 45 rfl rfl (by kernel_rfl) (by kernel_rfl) (by kernel_rfl) (fun _ _ _ h => h) (Or.inl ⟨by rfl, ?_⟩) (by assumption) ?_
  rotate_left
  · (intro w' hSw; (try dsimp only at hSw); go_simp; all_goals with_reducible rfl)
  try simp only [Act.put, List.setIfInBounds_toArray, List.set_cons_zero, List.set_cons_succ]
  refine TR.take_at (i := 11) (v := ?_) 46 rfl rfl (by kernel_rfl) (by kernel_rfl) (by kernel_rfl) (fun _ _ _ h => h) (Or.inl ⟨by rfl, ?_⟩) (by assumption) ?_
  rotate_left
  · (intro w' hSw; (try dsimp only at hSw); go_simp; all_goals with_reducible rfl)
  try simp only [Act.put, List.setIfInBounds_toArray, List.set_cons_zero, List.set_cons_succ]
  refine TR.take_at (i := 12) (v := ?_) 47 rfl rfl (by kernel_rfl) (by kernel_rfl) (by kernel_rfl) (fun _ _ _ h => h) (Or.inl ⟨by rfl, ?_⟩) (by assumption) ?_
  rotate_left
  · (intro w' hSw; (try dsimp only at hSw); go_simp; all_goals with_reducible rfl)
  try simp only [Act.put, List.setIfInBounds_toArray, List.set_cons_zero, List.set_cons_succ]
  refine TR.take_at (i := 13) (v := ?_) 48 rfl rfl (by kernel_rfl) (by kernel_rfl) (by kernel_rfl) (fun _ _ _ h => h) (Or.inl ⟨by rfl, ?_⟩) (by assumption) ?_
  rotate_left
  · (intro w' hSw; (try dsimp only at hSw); go_simp; all_goals with_reducible rfl)
  try simp only [Act.put, List.setIfInBounds_toArray, List.set_cons_zero, List.set_cons_succ]
  refine TR.take_at (i := 14) (v := ?_) 49 rfl rfl (by kernel_rfl) (by kernel_rfl) (by kernel_rfl) (fun _ _ _ h => h) (Or.inl ⟨by rfl, ?_⟩) (by assumption) ?_
  rotate_left
  · (intro w' hSw; (try dsimp only at hSw); go_simp; all_goals with_reducible rfl)
  try simp only [Act.put, List.setIfInBounds_toArray, List.set_cons_zero, List.set_cons_succ]
  refine wpAnyH_ready (rs := [15]) (by kernel_rfl) (by simp) ?_
  refine AllReadyH.cons rfl (fun K hK => ?_) AllReadyH.nil
  go_simp
  refine (HTR.out _ hB.drew).mono ?_
  rintro e w5 ⟨p, cap, rfl, hp, hb5⟩
  go_wp2_with fail
  replace k0 := cell_later hb5 k0
  replace k1 := cell_later hb5 k1
  replace k2 := cell_later hb5 k2
  refine hK.out _ _ ⟨k0, k1, k2⟩ (fun hHeld1 => ?_)
  clear hK HTR
  try simp only [Act.put, List.setIfInBounds_toArray, List.set_cons_zero, List.set_cons_succ]
  have hb35 := below_tr ((Below.refl _ w3).drew) hb5
  replace g0 := block_later hb35 g0
  replace g1 := block_later hb35 g1
  replace g2 := block_later hb35 g2
  replace g3 := block_later hb35 g3
  replace g4 := block_later hb35 g4
  replace g5 := block_later hb35 g5
  have HM5 := Hid.mk (HM.out.later hb35)
  have hB5 := below_tr hB hb35
  have hs35 := hb35.size
  have hp5 : Psl w5 (fun g => ¬ X g) (.slice p L.length cap) L := hp.mono (fun g hg c => by have := HM.out.lt g c; have e : w3.drew.heap.size = w3.heap.size := rfl; rw [e] at hg; omega)
  clear hb5 hp HM
  refine wpAnyH_ready (rs := [16]) (by kernel_rfl) (by simp) ?_
  refine AllReadyH.cons rfl (fun K hK => ?_) AllReadyH.nil
  go_simp
  refine (HWK.out _ _ _ _ _ _ _ HM5.out p cap hp5).mono ?_
  rintro e w6 ⟨⟨kk, rfl⟩, hM6, hT6, hx6⟩
  go_wp2_with fail
  replace k0 := (World.cell?_of_block (a := ⟨x, 0, none⟩) hx6).trans k0
  replace k1 := (World.cell?_of_block (a := ⟨x, 2, none⟩) hx6).trans k1
  replace k2 := TR.turn_cell hT6 (nX.out _ (Nat.le_refl _)) k2
  refine hK.out _ _ ⟨k0, k1, k2⟩ (fun hHeld2 => ?_)
  have HX6 := Hid.mk hx6
  clear hK HWK k0 k1 k2 hx6
  try simp only [Act.put, List.setIfInBounds_toArray, List.set_cons_zero, List.set_cons_succ]
  refine wpAnyH_done (by kernel_rfl) ?_ _
  refine NoPanic.normal ?_
  replace g0 := (hT6.block _ (block_lt g0) (nX.out _ (by omega))).trans g0
  replace g1 := (hT6.block _ (block_lt g1) (nX.out _ (by omega))).trans g1
  replace g2 := (hT6.block _ (block_lt g2) (nX.out _ (by omega))).trans g2
  replace g3 := (hT6.block _ (block_lt g3) (nX.out _ (by omega))).trans g3
  replace g4 := (hT6.block _ (block_lt g4) (nX.out _ (by omega))).trans g4
  replace g5 := (hT6.block _ (block_lt g5) (nX.out _ (by omega))).trans g5
  have HM6 := Hid.mk hM6
  have HT6 := Hid.mk hT6
  have HBD := Hid.mk (And.intro hB5 hs35)
  obtain ⟨h0, h2, h3⟩ := cells3 g1
  clear hM6 hT6 HM5 hB5 hB hp5
  have hs6 : w5.heap.size ≤ w6.heap.size := HT6.out.size
  obtain ⟨⟨k0, k1, k2, k3, k4, k5, k6, k7⟩, -⟩ := cells8 g4
  obtain ⟨k8, k9⟩ := TR.row2c g5
  go_upto_region 7 with fail
  refine wp_region_noPanic ?_
  refine wp_region_held_drew (S := (fun w' => w'.cell? ⟨KL, 0, none⟩ = some (.int .i64 l) ∧ w'.cell? ⟨KL, 1, none⟩ = some (.int .i64 k) ∧ w'.cell? ⟨KL, 2, none⟩ = some (.int .u64 (o : Nat)) ∧ w'.cell? ⟨KL, 3, none⟩ = some (.bool u) ∧ w'.cell? ⟨KL, 4, none⟩ = some (.bool r) ∧ w'.cell? ⟨KL, 5, none⟩ = some (.bool y) ∧ w'.cell? ⟨KL, 6, none⟩ = some (.bool q) ∧ w'.cell? ⟨KL, 7, none⟩ = some (.int .i64 t) ∧ w'.cell? ⟨KL + 1, 0, none⟩ = some (.int .i64 f1) ∧ w'.cell? ⟨KL + 1, 1, none⟩ = some (.int .i64 f2))) (by kernel_rfl) ?_ (fun hHeld => ?_)
  · exact ⟨cell_later (Below.refl _ _).drew k0, cell_later (Below.refl _ _).drew k1, cell_later (Below.refl _ _).drew k2, cell_later (Below.refl _ _).drew k3, cell_later (Below.refl _ _).drew k4, cell_later (Below.refl _ _).drew k5, cell_later (Below.refl _ _).drew k6, cell_later (Below.refl _ _).drew k7, cell_later (Below.refl _ _).drew k8, cell_later (Below.refl _ _).drew k9⟩
  replace k0 := cell_later (Below.refl _ w6).drew k0
  replace k1 := cell_later (Below.refl _ w6).drew k1
  replace k2 := cell_later (Below.refl _ w6).drew k2
  replace k3 := cell_later (Below.refl _ w6).drew k3
  replace k4 := cell_later (Below.refl _ w6).drew k4
  replace k5 := cell_later (Below.refl _ w6).drew k5
  replace k6 := cell_later (Below.refl _ w6).drew k6
  replace k7 := cell_later (Below.refl _ w6).drew k7
  replace k8 := cell_later (Below.refl _ w6).drew k8
  replace k9 := cell_later (Below.refl _ w6).drew k9
  refine TR.take_at (i := 0) (v := ?_) 75 rfl rfl (by kernel_rfl) (by kernel_rfl) (by kernel_rfl) (fun _ _ _ h => h) (Or.inl ⟨by rfl, ?_⟩) (by assumption) ?_
  rotate_left
  · (intro w' hSw; (try dsimp only at hSw); go_simp; all_goals with_reducible rfl)
  try simp only [Act.put, List.setIfInBounds_toArray, List.set_cons_zero, List.set_cons_succ]
  refine TR.take_at (i := 1) (v := ?_) 76 rfl rfl (by kernel_rfl) (by kernel_rfl) (by kernel_rfl) (fun _ _ _ h => h) (Or.inl ⟨by rfl, ?_⟩) (by assumption) ?_
  rotate_left
  · (intro w' hSw; (try dsimp only at hSw); go_simp; all_goals with_reducible rfl)
  try simp only [Act.put, List.setIfInBounds_toArray, List.set_cons_zero, List.set_cons_succ]
  refine wpAnyH_ready (rs := [2]) (by kernel_rfl) (by simp) ?_
  refine AllReadyH.cons rfl (fun K hK => ?_) AllReadyH.nil
  refine step_store_seg rfl rfl 62 _ _ rfl (w.heap.size + 1 + 1) 0 _ #[.int .i64 l, .int .i64 k, .int .u64 (o : Nat), .bool u, .bool r, .bool y, .bool q, .int .i64 t] rfl rfl rfl 62 _ (block_later (Below.refl _ w6).drew g2) (show 0 + 8 ≤ 8 by decide) info_leaf (by simp [Value.oneCell']) #[.int .i64 l, .int .i64 k, .int .u64 (o : Nat), .bool u, .bool r, .bool y, .bool q, .int .i64 t] rfl ?_
  intro wa hrwa htwa
  replace k0 := TR.turn_cell htwa (by omega) k0
  replace k1 := TR.turn_cell htwa (by omega) k1
  replace k2 := TR.turn_cell htwa (by omega) k2
  replace k3 := TR.turn_cell htwa (by omega) k3
  replace k4 := TR.turn_cell htwa (by omega) k4
  replace k5 := TR.turn_cell htwa (by omega) k5
  replace k6 := TR.turn_cell htwa (by omega) k6
  replace k7 := TR.turn_cell htwa (by omega) k7
  replace k8 := TR.turn_cell htwa (by omega) k8
  replace k9 := TR.turn_cell htwa (by omega) k9
  replace g3 := block_turn htwa (block_later (Below.refl _ w6).drew g3) (by omega)
  refine hK.out _ _ ⟨k0, k1, k2, k3, k4, k5, k6, k7, k8, k9⟩ (fun hHeldwa => ?_)
  clear hK
  try simp only [Act.put, List.setIfInBounds_toArray, List.set_cons_zero, List.set_cons_succ]
  refine wpAnyH_ready (rs := [3]) (by kernel_rfl) (by simp) ?_
  refine AllReadyH.cons rfl (fun K hK => ?_) AllReadyH.nil
  refine step_store_seg rfl rfl 48 _ _ rfl (w.heap.size + 1 + 1 + 1) 0 _ #[.int .i64 f1, .int .i64 f2] rfl rfl rfl 48 _ g3 (show 0 + 2 ≤ 2 by decide) info_fault (by simp [Value.oneCell']) #[.int .i64 f1, .int .i64 f2] rfl ?_
  intro wb hrwb htwb
  replace k0 := TR.turn_cell htwb (by omega) k0
  replace k1 := TR.turn_cell htwb (by omega) k1
  replace k2 := TR.turn_cell htwb (by omega) k2
  replace k3 := TR.turn_cell htwb (by omega) k3
  replace k4 := TR.turn_cell htwb (by omega) k4
  replace k5 := TR.turn_cell htwb (by omega) k5
  replace k6 := TR.turn_cell htwb (by omega) k6
  replace k7 := TR.turn_cell htwb (by omega) k7
  replace k8 := TR.turn_cell htwb (by omega) k8
  replace k9 := TR.turn_cell htwb (by omega) k9
  replace hrwa := block_turn htwb hrwa (by omega)
  refine hK.out _ _ ⟨k0, k1, k2, k3, k4, k5, k6, k7, k8, k9⟩ (fun hHeldwb => ?_)
  clear hK
  try simp only [Act.put, List.setIfInBounds_toArray, List.set_cons_zero, List.set_cons_succ]
  refine wpAnyH_done (by kernel_rfl) ?_ _
  refine NoPanic.normal ?_
  clear k0 k1 k2 k3 k4 k5 k6 k7 k8 k9
  go_wp2
  refine bodyPost_ret (results_row_row rfl _ _ (w.heap.size + 1 + 1) (w.heap.size + 1 + 1 + 1) _ _ _ _ _ _ _ _ rfl hrwa Tryz.underlying62 rfl info_leaf rfl hrwb Tryz.underlying48 rfl info_fault) rfl ⟨rfl, ?_⟩
  rw [HWS.out]
  have hTT : Turn (fun i => i = w.heap.size + 1 + 1 ∨ i = w.heap.size + 1 + 1 + 1) w6.drew wb := ((turn_of_below _ (Below.refl _ _)).trans htwa (fun i _ hi => Or.inl hi)).trans htwb (fun i _ hi => Or.inr hi)
  have e1 := hsz
  have hT1 := (turn_of_below X HBD.out.1).trans HT6.out (fun _ _ h => h)
  have e2 := HBD.out.2
  have hTw := hT1
  have hxw : x < w.heap.size := H0.out.ltX x (by obtain ⟨_, _, _, _, _, _, h⟩ := H0.out; exact h.cx)
  have hdx : ∀ W : World, x < W.heap.size → W.drew.heap[x]? = W.heap[x]? := fun W hx => (Below.refl W.heap.size W).drew.block x hx
  have hxx : wb.heap[x]? = w.heap[x]? := by
    have hxa : x < w6.heap.size := by have e : w6.drew.heap.size = w6.heap.size := rfl; have := hTw.size; omega
    have ea := hTT.block x hxa (fun c => by rcases c with c | c <;> omega)
    exact (ea.trans (hdx w6 hxa)).trans ((HX6.out).trans (HBD.out.1.block x hxw))
  refine and_mid hxx ?_
  refine H0.out.fin HM6.out (Below.refl _ _).drew hTT (fun i hi => ?_) (fun i hi => ?_) hTw
  · skip
    rcases hi with hi | hi
    · exact Or.inl hi
    · exact Or.inr (by have := HBD.out.1.size; omega)
  · have h1 : w.heap.size ≤ i := by rcases hi with hi | hi <;> omega
    have h2 : i < w.heap.size + 1 + 1 + 1 + 1 := by rcases hi with hi | hi <;> omega
    refine ⟨h1, fun c => ?_⟩
    · skip
      rcases c with c | c
      · exact nX.out i h1 c
      · omega


set_option maxHeartbeats 2000000 in
set_option maxRecDepth 100000 in
theorem walked_kfn (h : Mch w0 w X x a n S most s) (R I va : Nat) (hR : R < 281474976710656) (hn : Hn) (hva : va < 18446744073709551616) (hk : hn.keep = true) (hf : hn.fill = true) (hu : (lfR (wkO S s R I va hn).2).s = false) :
    Calls Tryz.prog 52 #[.pointer (some ⟨x, 0, none⟩), bsV R I, .int .u64 va, hn.v] w fun r w' => r = .returned (.tuple #[.agg (lfR (wkO S s R I va hn).2).cs.toArray, .agg #[.int .i64 (ftR (wkO S s R I va hn).2).1, .int .i64 (ftR (wkO S s R I va hn).2).2]]) ∧ Mch w0 w' (Gr X w w') x a n S most (wdS S most s R I va hn) ∧ Turn X w w' ∧ w'.heap[x]? = w.heap[x]? := by
  have H0 := Hid.mk h
  have HST := Hid.mk (fun W (hb : Below w.heap.size w W) => start_c (H0.out.later hb) R I va hn hva)
  have HL := Hid.mk (stL_lv h.wfm I va hn)
  have HT := Hid.mk (stT_lt h.wfm hR I va hn)
  have HFR : Hid (∀ W (_ : Below w.heap.size w W), Calls Tryz.prog 62 #[.pointer (some ⟨a, 0, none⟩), .int .i64 (stL s I va hn), .int .u64 (stT s R I va hn : Nat), .int .u64 va] W fun e w' => e = .returned (.tuple #[.agg (lfR (wkO S s R I va hn).2).cs.toArray, .agg #[.int .i64 (ftR (wkO S s R I va hn).2).1, .int .i64 (ftR (wkO S s R I va hn).2).2]]) ∧ Below W.heap.size W w') := fun W hb => by
    obtain ⟨XM, XB, XT, tb, tr, pv, h⟩ := H0.out.later hb
    have := from_any (stL s I va hn) (stT s R I va hn) va HT.out h.mem h.fld.t.d
    rw [leafL_cs, faultL_cs] at this
    exact this
  have HTR : Hid (∀ W (_ : Below w.heap.size w W), Calls Tryz.prog 89 #[.pointer (some ⟨a, 0, none⟩), .int .i64 (stL s I va hn), .int .u64 (stT s R I va hn : Nat), .int .u64 va] W fun e w' => ∃ p cap, e = .returned (.slice p (wkO S s R I va hn).1.length cap) ∧ Psl w' (fun g => W.heap.size ≤ g) (.slice p (wkO S s R I va hn).1.length cap) (wkO S s R I va hn).1 ∧ Below W.heap.size W w') := fun W hb => by
    obtain ⟨XM, XB, XT, tb, tr, pv, h⟩ := H0.out.later hb
    refine (trace_any (stL s I va hn) (stT s R I va hn) va HT.out h.mem h.fld.t.d).mono ?_
    rintro e w' ⟨v, rfl, hp, hb⟩
    obtain ⟨p, cap, rfl, -⟩ := hp.form
    exact ⟨p, cap, rfl, hp, hb⟩
  have HWK : Hid (∀ W XM XB XT tb tr pv (h : MchV w0 W X XM XB XT x a tb tr n S most s pv) (p : Option Addr) (cap : Nat), Psl W (fun g => ¬ X g) (.slice p (wkO S s R I va hn).1.length cap) (wkO S s R I va hn).1 →
    Calls Tryz.prog 93 #[.pointer (some ⟨tr, 0, none⟩), .int .i64 (I : Nat), .int .u64 va, .int .i64 (stL s I va hn), .slice p (wkO S s R I va hn).1.length cap] W fun r w' => (∃ k : Int, r = .returned (.int .i64 k)) ∧ Mch w0 w' (Gr X W w') x a n S most { s with K := kK S most s R I va hn } ∧ Turn X W w' ∧ w'.heap[x]? = W.heap[x]?) := fun W XM XB XT tb tr pv h p cap hp => by
    have e : kK S most s R I va hn = TR.wdL most (I : Int) va (stL s I va hn) (fun j => (wkO S s R I va hn).1[j]!.2) s.K (tkn (stL s I va hn) (wkO S s R I va hn).1) := by unfold kK; rw [if_pos hk]
    rw [e]
    exact h.walked I va hva (stL s I va hn) HL.out.1 HL.out.2 (stT s R I va hn) p cap hp
  have HEE : Hid (kE S most s R I va hn = s.E) := by show _ = _; unfold kE; rw [if_neg (by rw [hf, hu]; decide)]
  have HWS : Hid (wdS S most s R I va hn = { s with E := kE S most s R I va hn, K := kK S most s R I va hn }) := rfl
  clear h hva hR
  generalize wdS S most s R I va hn = s' at *
  rw [HEE.out] at HWS
  generalize kK S most s R I va hn = K' at *
  clear HEE
  generalize kE S most s R I va hn = E' at *
  generalize wkO S s R I va hn = wr at *
  generalize stL s I va hn = LV at *
  generalize stT s R I va hn = TV at *
  generalize lfR wr.2 = lf at *
  generalize ftR wr.2 = ft at *
  obtain ⟨L, r0⟩ := wr
  obtain ⟨l, k, o, u, r, y, q, t⟩ := lf
  obtain ⟨f1, f2⟩ := ft
  obtain ⟨hf', hl', hk'⟩ := hn
  simp only [Lf.cs] at *
  subst hk hf hu
  have g0 := heap4_0 w (.cells #[.int .u64 (R : Nat), .int .i64 (I : Nat)] 120) (.cells #[.bool true, .bool hl', .bool true] 38) (.cells #[.int .i64 0, .int .i64 0, .int .u64 0, .bool false, .bool false, .bool false, .bool false, .int .i64 0] 62) (.cells #[.int .i64 0, .int .i64 0] 48)
  have g1 := heap4_1 w (.cells #[.int .u64 (R : Nat), .int .i64 (I : Nat)] 120) (.cells #[.bool true, .bool hl', .bool true] 38) (.cells #[.int .i64 0, .int .i64 0, .int .u64 0, .bool false, .bool false, .bool false, .bool false, .int .i64 0] 62) (.cells #[.int .i64 0, .int .i64 0] 48)
  have g2 := heap4_2 w (.cells #[.int .u64 (R : Nat), .int .i64 (I : Nat)] 120) (.cells #[.bool true, .bool hl', .bool true] 38) (.cells #[.int .i64 0, .int .i64 0, .int .u64 0, .bool false, .bool false, .bool false, .bool false, .int .i64 0] 62) (.cells #[.int .i64 0, .int .i64 0] 48)
  have g3 := heap4_3 w (.cells #[.int .u64 (R : Nat), .int .i64 (I : Nat)] 120) (.cells #[.bool true, .bool hl', .bool true] 38) (.cells #[.int .i64 0, .int .i64 0, .int .u64 0, .bool false, .bool false, .bool false, .bool false, .int .i64 0] 62) (.cells #[.int .i64 0, .int .i64 0] 48)
  have hB := below4 w (.cells #[.int .u64 (R : Nat), .int .i64 (I : Nat)] 120) (.cells #[.bool true, .bool hl', .bool true] 38) (.cells #[.int .i64 0, .int .i64 0, .int .u64 0, .bool false, .bool false, .bool false, .bool false, .int .i64 0] 62) (.cells #[.int .i64 0, .int .i64 0] 48)
  have hsz := size4 w (.cells #[.int .u64 (R : Nat), .int .i64 (I : Nat)] 120) (.cells #[.bool true, .bool hl', .bool true] 38) (.cells #[.int .i64 0, .int .i64 0, .int .u64 0, .bool false, .bool false, .bool false, .bool false, .int .i64 0] 62) (.cells #[.int .i64 0, .int .i64 0] 48)
  go_enter Tryz.func52, Tryz.ntmps52
  go_upto_region 1 with fail
  generalize (((w.alloc (.cells #[.int .u64 (R : Nat), .int .i64 (I : Nat)] 120)).alloc (.cells #[.bool true, .bool hl', .bool true] 38)).alloc (.cells #[.int .i64 0, .int .i64 0, .int .u64 0, .bool false, .bool false, .bool false, .bool false, .int .i64 0] 62)).alloc (.cells #[.int .i64 0, .int .i64 0] 48) = W4 at *
  obtain ⟨c0, c1⟩ := TR.row2c g0
  obtain ⟨c2, c3, c4⟩ := cells3 g1
  go_wp2_with fail
  refine (HST.out _ hB).mono ?_
  rintro e w1 ⟨rfl, hb1⟩
  clear HST c0 c1 c2 c3 c4
  replace g0 := block_later hb1 g0
  replace g1 := block_later hb1 g1
  replace g2 := block_later hb1 g2
  replace g3 := block_later hb1 g3
  replace hB := below_tr hB hb1
  replace hsz : w.heap.size + 1 + 1 + 1 + 1 ≤ w1.heap.size := hsz ▸ hb1.size
  clear hb1
  obtain ⟨XM, XB, XT, tb, tr, pv, h1⟩ := H0.out.later hB
  obtain ⟨d0, d1, d2, -⟩ := row5 h1.row
  clear h1
  go_wp2_with fail
  refine (HFR.out _ hB).mono ?_
  rintro e w2 ⟨rfl, hb2⟩
  clear HFR d0 d1 d2
  replace g0 := block_later hb2 g0
  replace g1 := block_later hb2 g1
  replace g2 := block_later hb2 g2
  replace g3 := block_later hb2 g3
  replace hB := below_tr hB hb2
  replace hsz := Nat.le_trans hsz hb2.size
  clear hb2
  have g4 := heap2_0 w2 (.cells #[.int .i64 l, .int .i64 k, .int .u64 (o : Nat), .bool u, .bool r, .bool y, .bool false, .int .i64 t] 62) (.cells #[.int .i64 f1, .int .i64 f2] 48)
  have g5 := heap_alloc2_new w2 (.cells #[.int .i64 l, .int .i64 k, .int .u64 (o : Nat), .bool u, .bool r, .bool y, .bool false, .int .i64 t] 62) (.cells #[.int .i64 f1, .int .i64 f2] 48)
  have hb3 := below2 w2 (.cells #[.int .i64 l, .int .i64 k, .int .u64 (o : Nat), .bool u, .bool r, .bool y, .bool false, .int .i64 t] 62) (.cells #[.int .i64 f1, .int .i64 f2] 48)
  go_upto_region 3 with fail
  generalize (w2.alloc (.cells #[.int .i64 l, .int .i64 k, .int .u64 (o : Nat), .bool u, .bool r, .bool y, .bool false, .int .i64 t] 62)).alloc (.cells #[.int .i64 f1, .int .i64 f2] 48) = w3 at *
  replace g0 := block_later hb3 g0
  replace g1 := block_later hb3 g1
  replace g2 := block_later hb3 g2
  replace g3 := block_later hb3 g3
  replace hB := below_tr hB hb3
  clear hb3
  generalize w2.heap.size = KL at *
  obtain ⟨h0, h2, h3⟩ := cells3 g1
  have hK5 := block_lt g5
  have nX : Hid (∀ i, w.heap.size ≤ i → ¬ X i) := fun i hi c => by have := H0.out.ltX i c; omega
  obtain ⟨XM, XB, XT, tb, tr, pv, hm⟩ := H0.out.later hB
  have HM := Hid.mk hm
  obtain ⟨k0, -, k1, -⟩ := row5 hm.row
  have k2 := (TR.row2c g0).2
  clear hm
  go_upto_region 4 with fail
  refine wp_region_noPanic ?_
  refine wp_region_held_drew (S := (fun w' => w'.cell? ⟨x, 0, none⟩ = some (.pointer (some ⟨a, 0, none⟩)) ∧ w'.cell? ⟨x, 2, none⟩ = some (.pointer (some ⟨tr, 0, none⟩)) ∧ w'.cell? ⟨w.heap.size, 1, none⟩ = some (.int .i64 (I : Nat)))) (by kernel_rfl) ?_ (fun hHeld => ?_)
  · exact ⟨cell_later (Below.refl _ _).drew k0, cell_later (Below.refl _ _).drew k1, cell_later (Below.refl _ _).drew k2⟩
  replace k0 := cell_later (Below.refl _ w3).drew k0
  replace k1 := cell_later (Below.refl _ w3).drew k1
  replace k2 := cell_later (Below.refl _ w3).drew k2
  refine TR.take_at (i := 0) (v := ?_) 35 rfl rfl (by kernel_rfl) (by kernel_rfl) (by kernel_rfl) (fun _ _ _ h => h) (Or.inl ⟨by rfl, ?_⟩) (by assumption) ?_
  rotate_left
  · (intro w' hSw; (try dsimp only at hSw); go_simp; all_goals with_reducible rfl)
  try simp only [Act.put, List.setIfInBounds_toArray, List.set_cons_zero, List.set_cons_succ]
  refine TR.take_at (i := 1) (v := ?_) 36 rfl rfl (by kernel_rfl) (by kernel_rfl) (by kernel_rfl) (fun _ _ _ h => h) (Or.inl ⟨by rfl, ?_⟩) (by assumption) ?_
  rotate_left
  · (intro w' hSw; (try dsimp only at hSw); go_simp; all_goals with_reducible rfl)
  try simp only [Act.put, List.setIfInBounds_toArray, List.set_cons_zero, List.set_cons_succ]
  refine TR.take_at (i := 2) (v := ?_) 37 rfl rfl (by kernel_rfl) (by kernel_rfl) (by kernel_rfl) (fun _ _ _ h => h) (Or.inl ⟨by rfl, ?_⟩) (by assumption) ?_
  rotate_left
  · (intro w' hSw; (try dsimp only at hSw); go_simp; all_goals with_reducible rfl)
  try simp only [Act.put, List.setIfInBounds_toArray, List.set_cons_zero, List.set_cons_succ]
  refine TR.take_at (i := 3) (v := ?_) 38 rfl rfl (by kernel_rfl) (by kernel_rfl) (by kernel_rfl) (fun _ _ _ h => h) (Or.inl ⟨by rfl, ?_⟩) (by assumption) ?_
  rotate_left
  · (intro w' hSw; (try dsimp only at hSw); go_simp; all_goals with_reducible rfl)
  try simp only [Act.put, List.setIfInBounds_toArray, List.set_cons_zero, List.set_cons_succ]
  refine TR.take_at (i := 4) (v := ?_) 39 rfl rfl (by kernel_rfl) (by kernel_rfl) (by kernel_rfl) (fun _ _ _ h => h) (Or.inl ⟨by rfl, ?_⟩) (by assumption) ?_
  rotate_left
  · (intro w' hSw; (try dsimp only at hSw); go_simp; all_goals with_reducible rfl)
  try simp only [Act.put, List.setIfInBounds_toArray, List.set_cons_zero, List.set_cons_succ]
  refine TR.take_at (i := 5) (v := ?_) 40 rfl rfl (by kernel_rfl) (by kernel_rfl) (by kernel_rfl) (fun _ _ _ h => h) (Or.inl ⟨by rfl, ?_⟩) (by assumption) ?_
  rotate_left
  · (intro w' hSw; (try dsimp only at hSw); go_simp; all_goals with_reducible rfl)
  try simp only [Act.put, List.setIfInBounds_toArray, List.set_cons_zero, List.set_cons_succ]
  refine TR.take_at (i := 6) (v := ?_) 41 rfl rfl (by kernel_rfl) (by kernel_rfl) (by kernel_rfl) (fun _ _ _ h => h) (Or.inl ⟨by rfl, ?_⟩) (by assumption) ?_
  rotate_left
  · (intro w' hSw; (try dsimp only at hSw); go_simp; all_goals with_reducible rfl)
  try simp only [Act.put, List.setIfInBounds_toArray, List.set_cons_zero, List.set_cons_succ]
  refine TR.take_at (i := 7) (v := ?_) 42 rfl rfl (by kernel_rfl) (by kernel_rfl) (by kernel_rfl) (fun _ _ _ h => h) (Or.inl ⟨by rfl, ?_⟩) (by assumption) ?_
  rotate_left
  · (intro w' hSw; (try dsimp only at hSw); go_simp; all_goals with_reducible rfl)
  try simp only [Act.put, List.setIfInBounds_toArray, List.set_cons_zero, List.set_cons_succ]
  refine TR.take_at (i := 8) (v := ?_) 43 rfl rfl (by kernel_rfl) (by kernel_rfl) (by kernel_rfl) (fun _ _ _ h => h) (Or.inl ⟨by rfl, ?_⟩) (by assumption) ?_
  rotate_left
  · (intro w' hSw; (try dsimp only at hSw); go_simp; all_goals with_reducible rfl)
  try simp only [Act.put, List.setIfInBounds_toArray, List.set_cons_zero, List.set_cons_succ]
  refine TR.take_at (i := 9) (v := ?_) 44 rfl rfl (by kernel_rfl) (by kernel_rfl) (by kernel_rfl) (fun _ _ _ h => h) (Or.inl ⟨by rfl, ?_⟩) (by assumption) ?_
  rotate_left
  · (intro w' hSw; (try dsimp only at hSw); go_simp; all_goals with_reducible rfl)
  try simp only [Act.put, List.setIfInBounds_toArray, List.set_cons_zero, List.set_cons_succ]
  refine TR.take_at (i := 10) (v := ?_) 45 rfl rfl (by kernel_rfl) (by kernel_rfl) (by kernel_rfl) (fun _ _ _ h => h) (Or.inl ⟨by rfl, ?_⟩) (by assumption) ?_
  rotate_left
  · (intro w' hSw; (try dsimp only at hSw); go_simp; all_goals with_reducible rfl)
  try simp only [Act.put, List.setIfInBounds_toArray, List.set_cons_zero, List.set_cons_succ]
  refine TR.take_at (i := 11) (v := ?_) 46 rfl rfl (by kernel_rfl) (by kernel_rfl) (by kernel_rfl) (fun _ _ _ h => h) (Or.inl ⟨by rfl, ?_⟩) (by assumption) ?_
  rotate_left
  · (intro w' hSw; (try dsimp only at hSw); go_simp; all_goals with_reducible rfl)
  try simp only [Act.put, List.setIfInBounds_toArray, List.set_cons_zero, List.set_cons_succ]
  refine TR.take_at (i := 12) (v := ?_) 47 rfl rfl (by kernel_rfl) (by kernel_rfl) (by kernel_rfl) (fun _ _ _ h => h) (Or.inl ⟨by rfl, ?_⟩) (by assumption) ?_
  rotate_left
  · (intro w' hSw; (try dsimp only at hSw); go_simp; all_goals with_reducible rfl)
  try simp only [Act.put, List.setIfInBounds_toArray, List.set_cons_zero, List.set_cons_succ]
  refine TR.take_at (i := 13) (v := ?_) 48 rfl rfl (by kernel_rfl) (by kernel_rfl) (by kernel_rfl) (fun _ _ _ h => h) (Or.inl ⟨by rfl, ?_⟩) (by assumption) ?_
  rotate_left
  · (intro w' hSw; (try dsimp only at hSw); go_simp; all_goals with_reducible rfl)
  try simp only [Act.put, List.setIfInBounds_toArray, List.set_cons_zero, List.set_cons_succ]
  refine TR.take_at (i := 14) (v := ?_) 49 rfl rfl (by kernel_rfl) (by kernel_rfl) (by kernel_rfl) (fun _ _ _ h => h) (Or.inl ⟨by rfl, ?_⟩) (by assumption) ?_
  rotate_left
  · (intro w' hSw; (try dsimp only at hSw); go_simp; all_goals with_reducible rfl)
  try simp only [Act.put, List.setIfInBounds_toArray, List.set_cons_zero, List.set_cons_succ]
  refine wpAnyH_ready (rs := [15]) (by kernel_rfl) (by simp) ?_
  refine AllReadyH.cons rfl (fun K hK => ?_) AllReadyH.nil
  go_simp
  refine (HTR.out _ hB.drew).mono ?_
  rintro e w5 ⟨p, cap, rfl, hp, hb5⟩
  go_wp2_with fail
  replace k0 := cell_later hb5 k0
  replace k1 := cell_later hb5 k1
  replace k2 := cell_later hb5 k2
  refine hK.out _ _ ⟨k0, k1, k2⟩ (fun hHeld1 => ?_)
  clear hK HTR
  try simp only [Act.put, List.setIfInBounds_toArray, List.set_cons_zero, List.set_cons_succ]
  have hb35 := below_tr ((Below.refl _ w3).drew) hb5
  replace g0 := block_later hb35 g0
  replace g1 := block_later hb35 g1
  replace g2 := block_later hb35 g2
  replace g3 := block_later hb35 g3
  replace g4 := block_later hb35 g4
  replace g5 := block_later hb35 g5
  have HM5 := Hid.mk (HM.out.later hb35)
  have hB5 := below_tr hB hb35
  have hs35 := hb35.size
  have hp5 : Psl w5 (fun g => ¬ X g) (.slice p L.length cap) L := hp.mono (fun g hg c => by have := HM.out.lt g c; have e : w3.drew.heap.size = w3.heap.size := rfl; rw [e] at hg; omega)
  clear hb5 hp HM
  refine wpAnyH_ready (rs := [16]) (by kernel_rfl) (by simp) ?_
  refine AllReadyH.cons rfl (fun K hK => ?_) AllReadyH.nil
  go_simp
  refine (HWK.out _ _ _ _ _ _ _ HM5.out p cap hp5).mono ?_
  rintro e w6 ⟨⟨kk, rfl⟩, hM6, hT6, hx6⟩
  go_wp2_with fail
  replace k0 := (World.cell?_of_block (a := ⟨x, 0, none⟩) hx6).trans k0
  replace k1 := (World.cell?_of_block (a := ⟨x, 2, none⟩) hx6).trans k1
  replace k2 := TR.turn_cell hT6 (nX.out _ (Nat.le_refl _)) k2
  refine hK.out _ _ ⟨k0, k1, k2⟩ (fun hHeld2 => ?_)
  have HX6 := Hid.mk hx6
  clear hK HWK k0 k1 k2 hx6
  try simp only [Act.put, List.setIfInBounds_toArray, List.set_cons_zero, List.set_cons_succ]
  refine wpAnyH_done (by kernel_rfl) ?_ _
  refine NoPanic.normal ?_
  replace g0 := (hT6.block _ (block_lt g0) (nX.out _ (by omega))).trans g0
  replace g1 := (hT6.block _ (block_lt g1) (nX.out _ (by omega))).trans g1
  replace g2 := (hT6.block _ (block_lt g2) (nX.out _ (by omega))).trans g2
  replace g3 := (hT6.block _ (block_lt g3) (nX.out _ (by omega))).trans g3
  replace g4 := (hT6.block _ (block_lt g4) (nX.out _ (by omega))).trans g4
  replace g5 := (hT6.block _ (block_lt g5) (nX.out _ (by omega))).trans g5
  have HM6 := Hid.mk hM6
  have HT6 := Hid.mk hT6
  have HBD := Hid.mk (And.intro hB5 hs35)
  obtain ⟨h0, h2, h3⟩ := cells3 g1
  clear hM6 hT6 HM5 hB5 hB hp5
  have hs6 : w5.heap.size ≤ w6.heap.size := HT6.out.size
  obtain ⟨⟨k0, k1, k2, k3, k4, k5, k6, k7⟩, -⟩ := cells8 g4
  obtain ⟨k8, k9⟩ := TR.row2c g5
  go_upto_region 7 with fail
  refine wp_region_noPanic ?_
  refine wp_region_held_drew (S := (fun w' => w'.cell? ⟨KL, 0, none⟩ = some (.int .i64 l) ∧ w'.cell? ⟨KL, 1, none⟩ = some (.int .i64 k) ∧ w'.cell? ⟨KL, 2, none⟩ = some (.int .u64 (o : Nat)) ∧ w'.cell? ⟨KL, 3, none⟩ = some (.bool u) ∧ w'.cell? ⟨KL, 4, none⟩ = some (.bool r) ∧ w'.cell? ⟨KL, 5, none⟩ = some (.bool y) ∧ w'.cell? ⟨KL, 6, none⟩ = some (.bool false) ∧ w'.cell? ⟨KL, 7, none⟩ = some (.int .i64 t) ∧ w'.cell? ⟨KL + 1, 0, none⟩ = some (.int .i64 f1) ∧ w'.cell? ⟨KL + 1, 1, none⟩ = some (.int .i64 f2))) (by kernel_rfl) ?_ (fun hHeld => ?_)
  · exact ⟨cell_later (Below.refl _ _).drew k0, cell_later (Below.refl _ _).drew k1, cell_later (Below.refl _ _).drew k2, cell_later (Below.refl _ _).drew k3, cell_later (Below.refl _ _).drew k4, cell_later (Below.refl _ _).drew k5, cell_later (Below.refl _ _).drew k6, cell_later (Below.refl _ _).drew k7, cell_later (Below.refl _ _).drew k8, cell_later (Below.refl _ _).drew k9⟩
  replace k0 := cell_later (Below.refl _ w6).drew k0
  replace k1 := cell_later (Below.refl _ w6).drew k1
  replace k2 := cell_later (Below.refl _ w6).drew k2
  replace k3 := cell_later (Below.refl _ w6).drew k3
  replace k4 := cell_later (Below.refl _ w6).drew k4
  replace k5 := cell_later (Below.refl _ w6).drew k5
  replace k6 := cell_later (Below.refl _ w6).drew k6
  replace k7 := cell_later (Below.refl _ w6).drew k7
  replace k8 := cell_later (Below.refl _ w6).drew k8
  replace k9 := cell_later (Below.refl _ w6).drew k9
  refine TR.take_at (i := 0) (v := ?_) 75 rfl rfl (by kernel_rfl) (by kernel_rfl) (by kernel_rfl) (fun _ _ _ h => h) (Or.inl ⟨by rfl, ?_⟩) (by assumption) ?_
  rotate_left
  · (intro w' hSw; (try dsimp only at hSw); go_simp; all_goals with_reducible rfl)
  try simp only [Act.put, List.setIfInBounds_toArray, List.set_cons_zero, List.set_cons_succ]
  refine TR.take_at (i := 1) (v := ?_) 76 rfl rfl (by kernel_rfl) (by kernel_rfl) (by kernel_rfl) (fun _ _ _ h => h) (Or.inl ⟨by rfl, ?_⟩) (by assumption) ?_
  rotate_left
  · (intro w' hSw; (try dsimp only at hSw); go_simp; all_goals with_reducible rfl)
  try simp only [Act.put, List.setIfInBounds_toArray, List.set_cons_zero, List.set_cons_succ]
  refine wpAnyH_ready (rs := [2]) (by kernel_rfl) (by simp) ?_
  refine AllReadyH.cons rfl (fun K hK => ?_) AllReadyH.nil
  refine step_store_seg rfl rfl 62 _ _ rfl (w.heap.size + 1 + 1) 0 _ #[.int .i64 l, .int .i64 k, .int .u64 (o : Nat), .bool u, .bool r, .bool y, .bool false, .int .i64 t] rfl rfl rfl 62 _ (block_later (Below.refl _ w6).drew g2) (show 0 + 8 ≤ 8 by decide) info_leaf (by simp [Value.oneCell']) #[.int .i64 l, .int .i64 k, .int .u64 (o : Nat), .bool u, .bool r, .bool y, .bool false, .int .i64 t] rfl ?_
  intro wa hrwa htwa
  replace k0 := TR.turn_cell htwa (by omega) k0
  replace k1 := TR.turn_cell htwa (by omega) k1
  replace k2 := TR.turn_cell htwa (by omega) k2
  replace k3 := TR.turn_cell htwa (by omega) k3
  replace k4 := TR.turn_cell htwa (by omega) k4
  replace k5 := TR.turn_cell htwa (by omega) k5
  replace k6 := TR.turn_cell htwa (by omega) k6
  replace k7 := TR.turn_cell htwa (by omega) k7
  replace k8 := TR.turn_cell htwa (by omega) k8
  replace k9 := TR.turn_cell htwa (by omega) k9
  replace g3 := block_turn htwa (block_later (Below.refl _ w6).drew g3) (by omega)
  refine hK.out _ _ ⟨k0, k1, k2, k3, k4, k5, k6, k7, k8, k9⟩ (fun hHeldwa => ?_)
  clear hK
  try simp only [Act.put, List.setIfInBounds_toArray, List.set_cons_zero, List.set_cons_succ]
  refine wpAnyH_ready (rs := [3]) (by kernel_rfl) (by simp) ?_
  refine AllReadyH.cons rfl (fun K hK => ?_) AllReadyH.nil
  refine step_store_seg rfl rfl 48 _ _ rfl (w.heap.size + 1 + 1 + 1) 0 _ #[.int .i64 f1, .int .i64 f2] rfl rfl rfl 48 _ g3 (show 0 + 2 ≤ 2 by decide) info_fault (by simp [Value.oneCell']) #[.int .i64 f1, .int .i64 f2] rfl ?_
  intro wb hrwb htwb
  replace k0 := TR.turn_cell htwb (by omega) k0
  replace k1 := TR.turn_cell htwb (by omega) k1
  replace k2 := TR.turn_cell htwb (by omega) k2
  replace k3 := TR.turn_cell htwb (by omega) k3
  replace k4 := TR.turn_cell htwb (by omega) k4
  replace k5 := TR.turn_cell htwb (by omega) k5
  replace k6 := TR.turn_cell htwb (by omega) k6
  replace k7 := TR.turn_cell htwb (by omega) k7
  replace k8 := TR.turn_cell htwb (by omega) k8
  replace k9 := TR.turn_cell htwb (by omega) k9
  replace hrwa := block_turn htwb hrwa (by omega)
  refine hK.out _ _ ⟨k0, k1, k2, k3, k4, k5, k6, k7, k8, k9⟩ (fun hHeldwb => ?_)
  clear hK
  try simp only [Act.put, List.setIfInBounds_toArray, List.set_cons_zero, List.set_cons_succ]
  refine wpAnyH_done (by kernel_rfl) ?_ _
  refine NoPanic.normal ?_
  clear k0 k1 k2 k3 k4 k5 k6 k7 k8 k9
  go_wp2
  refine bodyPost_ret (results_row_row rfl _ _ (w.heap.size + 1 + 1) (w.heap.size + 1 + 1 + 1) _ _ _ _ _ _ _ _ rfl hrwa Tryz.underlying62 rfl info_leaf rfl hrwb Tryz.underlying48 rfl info_fault) rfl ⟨rfl, ?_⟩
  rw [HWS.out]
  have hTT : Turn (fun i => i = w.heap.size + 1 + 1 ∨ i = w.heap.size + 1 + 1 + 1) w6.drew wb := ((turn_of_below _ (Below.refl _ _)).trans htwa (fun i _ hi => Or.inl hi)).trans htwb (fun i _ hi => Or.inr hi)
  have e1 := hsz
  have hT1 := (turn_of_below X HBD.out.1).trans HT6.out (fun _ _ h => h)
  have e2 := HBD.out.2
  have hTw := hT1
  have hxw : x < w.heap.size := H0.out.ltX x (by obtain ⟨_, _, _, _, _, _, h⟩ := H0.out; exact h.cx)
  have hdx : ∀ W : World, x < W.heap.size → W.drew.heap[x]? = W.heap[x]? := fun W hx => (Below.refl W.heap.size W).drew.block x hx
  have hxx : wb.heap[x]? = w.heap[x]? := by
    have hxa : x < w6.heap.size := by have e : w6.drew.heap.size = w6.heap.size := rfl; have := hTw.size; omega
    have ea := hTT.block x hxa (fun c => by rcases c with c | c <;> omega)
    exact (ea.trans (hdx w6 hxa)).trans ((HX6.out).trans (HBD.out.1.block x hxw))
  refine and_mid hxx ?_
  refine H0.out.fin HM6.out (Below.refl _ _).drew hTT (fun i hi => ?_) (fun i hi => ?_) hTw
  · skip
    rcases hi with hi | hi
    · exact Or.inl hi
    · exact Or.inr (by have := HBD.out.1.size; omega)
  · have h1 : w.heap.size ≤ i := by rcases hi with hi | hi <;> omega
    have h2 : i < w.heap.size + 1 + 1 + 1 + 1 := by rcases hi with hi | hi <;> omega
    refine ⟨h1, fun c => ?_⟩
    · skip
      rcases c with c | c
      · exact nX.out i h1 c
      · omega


set_option maxHeartbeats 2000000 in
set_option maxRecDepth 100000 in
theorem walked_kfu (h : Mch w0 w X x a n S most s) (R I va : Nat) (hR : R < 281474976710656) (hn : Hn) (hva : va < 18446744073709551616) (hk : hn.keep = true) (hf : hn.fill = true) (hu : (lfR (wkO S s R I va hn).2).s = true) :
    Calls Tryz.prog 52 #[.pointer (some ⟨x, 0, none⟩), bsV R I, .int .u64 va, hn.v] w fun r w' => r = .returned (.tuple #[.agg (lfR (wkO S s R I va hn).2).cs.toArray, .agg #[.int .i64 (ftR (wkO S s R I va hn).2).1, .int .i64 (ftR (wkO S s R I va hn).2).2]]) ∧ Mch w0 w' (Gr X w w') x a n S most (wdS S most s R I va hn) ∧ Turn X w w' ∧ w'.heap[x]? = w.heap[x]? := by
  have H0 := Hid.mk h
  have HST := Hid.mk (fun W (hb : Below w.heap.size w W) => start_c (H0.out.later hb) R I va hn hva)
  have HL := Hid.mk (stL_lv h.wfm I va hn)
  have HT := Hid.mk (stT_lt h.wfm hR I va hn)
  have HFR : Hid (∀ W (_ : Below w.heap.size w W), Calls Tryz.prog 62 #[.pointer (some ⟨a, 0, none⟩), .int .i64 (stL s I va hn), .int .u64 (stT s R I va hn : Nat), .int .u64 va] W fun e w' => e = .returned (.tuple #[.agg (lfR (wkO S s R I va hn).2).cs.toArray, .agg #[.int .i64 (ftR (wkO S s R I va hn).2).1, .int .i64 (ftR (wkO S s R I va hn).2).2]]) ∧ Below W.heap.size W w') := fun W hb => by
    obtain ⟨XM, XB, XT, tb, tr, pv, h⟩ := H0.out.later hb
    have := from_any (stL s I va hn) (stT s R I va hn) va HT.out h.mem h.fld.t.d
    rw [leafL_cs, faultL_cs] at this
    exact this
  have HTR : Hid (∀ W (_ : Below w.heap.size w W), Calls Tryz.prog 89 #[.pointer (some ⟨a, 0, none⟩), .int .i64 (stL s I va hn), .int .u64 (stT s R I va hn : Nat), .int .u64 va] W fun e w' => ∃ p cap, e = .returned (.slice p (wkO S s R I va hn).1.length cap) ∧ Psl w' (fun g => W.heap.size ≤ g) (.slice p (wkO S s R I va hn).1.length cap) (wkO S s R I va hn).1 ∧ Below W.heap.size W w') := fun W hb => by
    obtain ⟨XM, XB, XT, tb, tr, pv, h⟩ := H0.out.later hb
    refine (trace_any (stL s I va hn) (stT s R I va hn) va HT.out h.mem h.fld.t.d).mono ?_
    rintro e w' ⟨v, rfl, hp, hb⟩
    obtain ⟨p, cap, rfl, -⟩ := hp.form
    exact ⟨p, cap, rfl, hp, hb⟩
  have HWK : Hid (∀ W XM XB XT tb tr pv (h : MchV w0 W X XM XB XT x a tb tr n S most s pv) (p : Option Addr) (cap : Nat), Psl W (fun g => ¬ X g) (.slice p (wkO S s R I va hn).1.length cap) (wkO S s R I va hn).1 →
    Calls Tryz.prog 93 #[.pointer (some ⟨tr, 0, none⟩), .int .i64 (I : Nat), .int .u64 va, .int .i64 (stL s I va hn), .slice p (wkO S s R I va hn).1.length cap] W fun r w' => (∃ k : Int, r = .returned (.int .i64 k)) ∧ Mch w0 w' (Gr X W w') x a n S most { s with K := kK S most s R I va hn } ∧ Turn X W w' ∧ w'.heap[x]? = W.heap[x]?) := fun W XM XB XT tb tr pv h p cap hp => by
    have e : kK S most s R I va hn = TR.wdL most (I : Int) va (stL s I va hn) (fun j => (wkO S s R I va hn).1[j]!.2) s.K (tkn (stL s I va hn) (wkO S s R I va hn).1) := by unfold kK; rw [if_pos hk]
    rw [e]
    exact h.walked I va hva (stL s I va hn) HL.out.1 HL.out.2 (stT s R I va hn) p cap hp
  have HEE : Hid (kE S most s R I va hn = TB.fillL s.E most ((lfR (wkO S s R I va hn).2).en I va)) := by show _ = _; unfold kE; rw [if_pos (by rw [hf, hu]; rfl)]
  have HEO := Hid.mk (en_ok (wkO S s R I va hn).2 I va)
  have HBA := Hid.mk (fun W => base_any va (lfR (wkO S s R I va hn).2).l hva W)
  have HWS : Hid (wdS S most s R I va hn = { s with E := kE S most s R I va hn, K := kK S most s R I va hn }) := rfl
  clear h hva hR
  generalize wdS S most s R I va hn = s' at *
  rw [HEE.out] at HWS
  generalize kK S most s R I va hn = K' at *
  clear HEE
  generalize kE S most s R I va hn = E' at *
  generalize wkO S s R I va hn = wr at *
  generalize stL s I va hn = LV at *
  generalize stT s R I va hn = TV at *
  generalize lfR wr.2 = lf at *
  generalize ftR wr.2 = ft at *
  obtain ⟨L, r0⟩ := wr
  obtain ⟨l, k, o, u, r, y, q, t⟩ := lf
  obtain ⟨f1, f2⟩ := ft
  obtain ⟨hf', hl', hk'⟩ := hn
  simp only [Lf.cs, Lf.en] at *
  subst hk hf hu
  have g0 := heap4_0 w (.cells #[.int .u64 (R : Nat), .int .i64 (I : Nat)] 120) (.cells #[.bool true, .bool hl', .bool true] 38) (.cells #[.int .i64 0, .int .i64 0, .int .u64 0, .bool false, .bool false, .bool false, .bool false, .int .i64 0] 62) (.cells #[.int .i64 0, .int .i64 0] 48)
  have g1 := heap4_1 w (.cells #[.int .u64 (R : Nat), .int .i64 (I : Nat)] 120) (.cells #[.bool true, .bool hl', .bool true] 38) (.cells #[.int .i64 0, .int .i64 0, .int .u64 0, .bool false, .bool false, .bool false, .bool false, .int .i64 0] 62) (.cells #[.int .i64 0, .int .i64 0] 48)
  have g2 := heap4_2 w (.cells #[.int .u64 (R : Nat), .int .i64 (I : Nat)] 120) (.cells #[.bool true, .bool hl', .bool true] 38) (.cells #[.int .i64 0, .int .i64 0, .int .u64 0, .bool false, .bool false, .bool false, .bool false, .int .i64 0] 62) (.cells #[.int .i64 0, .int .i64 0] 48)
  have g3 := heap4_3 w (.cells #[.int .u64 (R : Nat), .int .i64 (I : Nat)] 120) (.cells #[.bool true, .bool hl', .bool true] 38) (.cells #[.int .i64 0, .int .i64 0, .int .u64 0, .bool false, .bool false, .bool false, .bool false, .int .i64 0] 62) (.cells #[.int .i64 0, .int .i64 0] 48)
  have hB := below4 w (.cells #[.int .u64 (R : Nat), .int .i64 (I : Nat)] 120) (.cells #[.bool true, .bool hl', .bool true] 38) (.cells #[.int .i64 0, .int .i64 0, .int .u64 0, .bool false, .bool false, .bool false, .bool false, .int .i64 0] 62) (.cells #[.int .i64 0, .int .i64 0] 48)
  have hsz := size4 w (.cells #[.int .u64 (R : Nat), .int .i64 (I : Nat)] 120) (.cells #[.bool true, .bool hl', .bool true] 38) (.cells #[.int .i64 0, .int .i64 0, .int .u64 0, .bool false, .bool false, .bool false, .bool false, .int .i64 0] 62) (.cells #[.int .i64 0, .int .i64 0] 48)
  go_enter Tryz.func52, Tryz.ntmps52
  go_upto_region 1 with fail
  generalize (((w.alloc (.cells #[.int .u64 (R : Nat), .int .i64 (I : Nat)] 120)).alloc (.cells #[.bool true, .bool hl', .bool true] 38)).alloc (.cells #[.int .i64 0, .int .i64 0, .int .u64 0, .bool false, .bool false, .bool false, .bool false, .int .i64 0] 62)).alloc (.cells #[.int .i64 0, .int .i64 0] 48) = W4 at *
  obtain ⟨c0, c1⟩ := TR.row2c g0
  obtain ⟨c2, c3, c4⟩ := cells3 g1
  go_wp2_with fail
  refine (HST.out _ hB).mono ?_
  rintro e w1 ⟨rfl, hb1⟩
  clear HST c0 c1 c2 c3 c4
  replace g0 := block_later hb1 g0
  replace g1 := block_later hb1 g1
  replace g2 := block_later hb1 g2
  replace g3 := block_later hb1 g3
  replace hB := below_tr hB hb1
  replace hsz : w.heap.size + 1 + 1 + 1 + 1 ≤ w1.heap.size := hsz ▸ hb1.size
  clear hb1
  obtain ⟨XM, XB, XT, tb, tr, pv, h1⟩ := H0.out.later hB
  obtain ⟨d0, d1, d2, -⟩ := row5 h1.row
  clear h1
  go_wp2_with fail
  refine (HFR.out _ hB).mono ?_
  rintro e w2 ⟨rfl, hb2⟩
  clear HFR d0 d1 d2
  replace g0 := block_later hb2 g0
  replace g1 := block_later hb2 g1
  replace g2 := block_later hb2 g2
  replace g3 := block_later hb2 g3
  replace hB := below_tr hB hb2
  replace hsz := Nat.le_trans hsz hb2.size
  clear hb2
  have g4 := heap2_0 w2 (.cells #[.int .i64 l, .int .i64 k, .int .u64 (o : Nat), .bool u, .bool r, .bool y, .bool true, .int .i64 t] 62) (.cells #[.int .i64 f1, .int .i64 f2] 48)
  have g5 := heap_alloc2_new w2 (.cells #[.int .i64 l, .int .i64 k, .int .u64 (o : Nat), .bool u, .bool r, .bool y, .bool true, .int .i64 t] 62) (.cells #[.int .i64 f1, .int .i64 f2] 48)
  have hb3 := below2 w2 (.cells #[.int .i64 l, .int .i64 k, .int .u64 (o : Nat), .bool u, .bool r, .bool y, .bool true, .int .i64 t] 62) (.cells #[.int .i64 f1, .int .i64 f2] 48)
  go_upto_region 3 with fail
  generalize (w2.alloc (.cells #[.int .i64 l, .int .i64 k, .int .u64 (o : Nat), .bool u, .bool r, .bool y, .bool true, .int .i64 t] 62)).alloc (.cells #[.int .i64 f1, .int .i64 f2] 48) = w3 at *
  replace g0 := block_later hb3 g0
  replace g1 := block_later hb3 g1
  replace g2 := block_later hb3 g2
  replace g3 := block_later hb3 g3
  replace hB := below_tr hB hb3
  clear hb3
  generalize w2.heap.size = KL at *
  obtain ⟨h0, h2, h3⟩ := cells3 g1
  have hK5 := block_lt g5
  have nX : Hid (∀ i, w.heap.size ≤ i → ¬ X i) := fun i hi c => by have := H0.out.ltX i c; omega
  obtain ⟨XM, XB, XT, tb, tr, pv, hm⟩ := H0.out.later hB
  have HM := Hid.mk hm
  obtain ⟨k0, -, k1, -⟩ := row5 hm.row
  have k2 := (TR.row2c g0).2
  clear hm
  go_upto_region 4 with fail
  refine wp_region_noPanic ?_
  refine wp_region_held_drew (S := (fun w' => w'.cell? ⟨x, 0, none⟩ = some (.pointer (some ⟨a, 0, none⟩)) ∧ w'.cell? ⟨x, 2, none⟩ = some (.pointer (some ⟨tr, 0, none⟩)) ∧ w'.cell? ⟨w.heap.size, 1, none⟩ = some (.int .i64 (I : Nat)))) (by kernel_rfl) ?_ (fun hHeld => ?_)
  · exact ⟨cell_later (Below.refl _ _).drew k0, cell_later (Below.refl _ _).drew k1, cell_later (Below.refl _ _).drew k2⟩
  replace k0 := cell_later (Below.refl _ w3).drew k0
  replace k1 := cell_later (Below.refl _ w3).drew k1
  replace k2 := cell_later (Below.refl _ w3).drew k2
  refine TR.take_at (i := 0) (v := ?_) 35 rfl rfl (by kernel_rfl) (by kernel_rfl) (by kernel_rfl) (fun _ _ _ h => h) (Or.inl ⟨by rfl, ?_⟩) (by assumption) ?_
  rotate_left
  · (intro w' hSw; (try dsimp only at hSw); go_simp; all_goals with_reducible rfl)
  try simp only [Act.put, List.setIfInBounds_toArray, List.set_cons_zero, List.set_cons_succ]
  refine TR.take_at (i := 1) (v := ?_) 36 rfl rfl (by kernel_rfl) (by kernel_rfl) (by kernel_rfl) (fun _ _ _ h => h) (Or.inl ⟨by rfl, ?_⟩) (by assumption) ?_
  rotate_left
  · (intro w' hSw; (try dsimp only at hSw); go_simp; all_goals with_reducible rfl)
  try simp only [Act.put, List.setIfInBounds_toArray, List.set_cons_zero, List.set_cons_succ]
  refine TR.take_at (i := 2) (v := ?_) 37 rfl rfl (by kernel_rfl) (by kernel_rfl) (by kernel_rfl) (fun _ _ _ h => h) (Or.inl ⟨by rfl, ?_⟩) (by assumption) ?_
  rotate_left
  · (intro w' hSw; (try dsimp only at hSw); go_simp; all_goals with_reducible rfl)
  try simp only [Act.put, List.setIfInBounds_toArray, List.set_cons_zero, List.set_cons_succ]
  refine TR.take_at (i := 3) (v := ?_) 38 rfl rfl (by kernel_rfl) (by kernel_rfl) (by kernel_rfl) (fun _ _ _ h => h) (Or.inl ⟨by rfl, ?_⟩) (by assumption) ?_
  rotate_left
  · (intro w' hSw; (try dsimp only at hSw); go_simp; all_goals with_reducible rfl)
  try simp only [Act.put, List.setIfInBounds_toArray, List.set_cons_zero, List.set_cons_succ]
  refine TR.take_at (i := 4) (v := ?_) 39 rfl rfl (by kernel_rfl) (by kernel_rfl) (by kernel_rfl) (fun _ _ _ h => h) (Or.inl ⟨by rfl, ?_⟩) (by assumption) ?_
  rotate_left
  · (intro w' hSw; (try dsimp only at hSw); go_simp; all_goals with_reducible rfl)
  try simp only [Act.put, List.setIfInBounds_toArray, List.set_cons_zero, List.set_cons_succ]
  refine TR.take_at (i := 5) (v := ?_) 40 rfl rfl (by kernel_rfl) (by kernel_rfl) (by kernel_rfl) (fun _ _ _ h => h) (Or.inl ⟨by rfl, ?_⟩) (by assumption) ?_
  rotate_left
  · (intro w' hSw; (try dsimp only at hSw); go_simp; all_goals with_reducible rfl)
  try simp only [Act.put, List.setIfInBounds_toArray, List.set_cons_zero, List.set_cons_succ]
  refine TR.take_at (i := 6) (v := ?_) 41 rfl rfl (by kernel_rfl) (by kernel_rfl) (by kernel_rfl) (fun _ _ _ h => h) (Or.inl ⟨by rfl, ?_⟩) (by assumption) ?_
  rotate_left
  · (intro w' hSw; (try dsimp only at hSw); go_simp; all_goals with_reducible rfl)
  try simp only [Act.put, List.setIfInBounds_toArray, List.set_cons_zero, List.set_cons_succ]
  refine TR.take_at (i := 7) (v := ?_) 42 rfl rfl (by kernel_rfl) (by kernel_rfl) (by kernel_rfl) (fun _ _ _ h => h) (Or.inl ⟨by rfl, ?_⟩) (by assumption) ?_
  rotate_left
  · (intro w' hSw; (try dsimp only at hSw); go_simp; all_goals with_reducible rfl)
  try simp only [Act.put, List.setIfInBounds_toArray, List.set_cons_zero, List.set_cons_succ]
  refine TR.take_at (i := 8) (v := ?_) 43 rfl rfl (by kernel_rfl) (by kernel_rfl) (by kernel_rfl) (fun _ _ _ h => h) (Or.inl ⟨by rfl, ?_⟩) (by assumption) ?_
  rotate_left
  · (intro w' hSw; (try dsimp only at hSw); go_simp; all_goals with_reducible rfl)
  try simp only [Act.put, List.setIfInBounds_toArray, List.set_cons_zero, List.set_cons_succ]
  refine TR.take_at (i := 9) (v := ?_) 44 rfl rfl (by kernel_rfl) (by kernel_rfl) (by kernel_rfl) (fun _ _ _ h => h) (Or.inl ⟨by rfl, ?_⟩) (by assumption) ?_
  rotate_left
  · (intro w' hSw; (try dsimp only at hSw); go_simp; all_goals with_reducible rfl)
  try simp only [Act.put, List.setIfInBounds_toArray, List.set_cons_zero, List.set_cons_succ]
  refine TR.take_at (i := 10) (v := ?_) 45 rfl rfl (by kernel_rfl) (by kernel_rfl) (by kernel_rfl) (fun _ _ _ h => h) (Or.inl ⟨by rfl, ?_⟩) (by assumption) ?_
  rotate_left
  · (intro w' hSw; (try dsimp only at hSw); go_simp; all_goals with_reducible rfl)
  try simp only [Act.put, List.setIfInBounds_toArray, List.set_cons_zero, List.set_cons_succ]
  refine TR.take_at (i := 11) (v := ?_) 46 rfl rfl (by kernel_rfl) (by kernel_rfl) (by kernel_rfl) (fun _ _ _ h => h) (Or.inl ⟨by rfl, ?_⟩) (by assumption) ?_
  rotate_left
  · (intro w' hSw; (try dsimp only at hSw); go_simp; all_goals with_reducible rfl)
  try simp only [Act.put, List.setIfInBounds_toArray, List.set_cons_zero, List.set_cons_succ]
  refine TR.take_at (i := 12) (v := ?_) 47 rfl rfl (by kernel_rfl) (by kernel_rfl) (by kernel_rfl) (fun _ _ _ h => h) (Or.inl ⟨by rfl, ?_⟩) (by assumption) ?_
  rotate_left
  · (intro w' hSw; (try dsimp only at hSw); go_simp; all_goals with_reducible rfl)
  try simp only [Act.put, List.setIfInBounds_toArray, List.set_cons_zero, List.set_cons_succ]
  refine TR.take_at (i := 13) (v := ?_) 48 rfl rfl (by kernel_rfl) (by kernel_rfl) (by kernel_rfl) (fun _ _ _ h => h) (Or.inl ⟨by rfl, ?_⟩) (by assumption) ?_
  rotate_left
  · (intro w' hSw; (try dsimp only at hSw); go_simp; all_goals with_reducible rfl)
  try simp only [Act.put, List.setIfInBounds_toArray, List.set_cons_zero, List.set_cons_succ]
  refine TR.take_at (i := 14) (v := ?_) 49 rfl rfl (by kernel_rfl) (by kernel_rfl) (by kernel_rfl) (fun _ _ _ h => h) (Or.inl ⟨by rfl, ?_⟩) (by assumption) ?_
  rotate_left
  · (intro w' hSw; (try dsimp only at hSw); go_simp; all_goals with_reducible rfl)
  try simp only [Act.put, List.setIfInBounds_toArray, List.set_cons_zero, List.set_cons_succ]
  refine wpAnyH_ready (rs := [15]) (by kernel_rfl) (by simp) ?_
  refine AllReadyH.cons rfl (fun K hK => ?_) AllReadyH.nil
  go_simp
  refine (HTR.out _ hB.drew).mono ?_
  rintro e w5 ⟨p, cap, rfl, hp, hb5⟩
  go_wp2_with fail
  replace k0 := cell_later hb5 k0
  replace k1 := cell_later hb5 k1
  replace k2 := cell_later hb5 k2
  refine hK.out _ _ ⟨k0, k1, k2⟩ (fun hHeld1 => ?_)
  clear hK HTR
  try simp only [Act.put, List.setIfInBounds_toArray, List.set_cons_zero, List.set_cons_succ]
  have hb35 := below_tr ((Below.refl _ w3).drew) hb5
  replace g0 := block_later hb35 g0
  replace g1 := block_later hb35 g1
  replace g2 := block_later hb35 g2
  replace g3 := block_later hb35 g3
  replace g4 := block_later hb35 g4
  replace g5 := block_later hb35 g5
  have HM5 := Hid.mk (HM.out.later hb35)
  have hB5 := below_tr hB hb35
  have hs35 := hb35.size
  have hp5 : Psl w5 (fun g => ¬ X g) (.slice p L.length cap) L := hp.mono (fun g hg c => by have := HM.out.lt g c; have e : w3.drew.heap.size = w3.heap.size := rfl; rw [e] at hg; omega)
  clear hb5 hp HM
  refine wpAnyH_ready (rs := [16]) (by kernel_rfl) (by simp) ?_
  refine AllReadyH.cons rfl (fun K hK => ?_) AllReadyH.nil
  go_simp
  refine (HWK.out _ _ _ _ _ _ _ HM5.out p cap hp5).mono ?_
  rintro e w6 ⟨⟨kk, rfl⟩, hM6, hT6, hx6⟩
  go_wp2_with fail
  replace k0 := (World.cell?_of_block (a := ⟨x, 0, none⟩) hx6).trans k0
  replace k1 := (World.cell?_of_block (a := ⟨x, 2, none⟩) hx6).trans k1
  replace k2 := TR.turn_cell hT6 (nX.out _ (Nat.le_refl _)) k2
  refine hK.out _ _ ⟨k0, k1, k2⟩ (fun hHeld2 => ?_)
  have HX6 := Hid.mk hx6
  clear hK HWK k0 k1 k2 hx6
  try simp only [Act.put, List.setIfInBounds_toArray, List.set_cons_zero, List.set_cons_succ]
  refine wpAnyH_done (by kernel_rfl) ?_ _
  refine NoPanic.normal ?_
  replace g0 := (hT6.block _ (block_lt g0) (nX.out _ (by omega))).trans g0
  replace g1 := (hT6.block _ (block_lt g1) (nX.out _ (by omega))).trans g1
  replace g2 := (hT6.block _ (block_lt g2) (nX.out _ (by omega))).trans g2
  replace g3 := (hT6.block _ (block_lt g3) (nX.out _ (by omega))).trans g3
  replace g4 := (hT6.block _ (block_lt g4) (nX.out _ (by omega))).trans g4
  replace g5 := (hT6.block _ (block_lt g5) (nX.out _ (by omega))).trans g5
  have HM6 := Hid.mk hM6
  have HT6 := Hid.mk hT6
  have HBD := Hid.mk (And.intro hB5 hs35)
  obtain ⟨h0, h2, h3⟩ := cells3 g1
  clear hM6 hT6 HM5 hB5 hB hp5
  have hs6 : w5.heap.size ≤ w6.heap.size := HT6.out.size
  obtain ⟨XM, XB, XT, tb, tr, pv, hm⟩ := HM6.out
  have HM := Hid.mk hm
  obtain ⟨-, k0, -⟩ := row5 hm.row
  have k1 := (TR.row2c g0).2
  obtain ⟨⟨k2, k3, k4, k5, k6, k7, k8, k9⟩, -⟩ := cells8 g4
  clear hm
  go_upto_region 6 with fail
  refine wp_region_noPanic ?_
  refine wp_region_held_drew (S := (fun w' => w'.cell? ⟨x, 1, none⟩ = some (.pointer (some ⟨tb, 0, none⟩)) ∧ w'.cell? ⟨w.heap.size, 1, none⟩ = some (.int .i64 (I : Nat)) ∧ w'.cell? ⟨KL, 0, none⟩ = some (.int .i64 l) ∧ w'.cell? ⟨KL, 1, none⟩ = some (.int .i64 k) ∧ w'.cell? ⟨KL, 2, none⟩ = some (.int .u64 (o : Nat)) ∧ w'.cell? ⟨KL, 3, none⟩ = some (.bool u) ∧ w'.cell? ⟨KL, 4, none⟩ = some (.bool r) ∧ w'.cell? ⟨KL, 5, none⟩ = some (.bool y) ∧ w'.cell? ⟨KL, 6, none⟩ = some (.bool true) ∧ w'.cell? ⟨KL, 7, none⟩ = some (.int .i64 t))) (by kernel_rfl) ?_ (fun hHeld => ?_)
  · exact ⟨cell_later (Below.refl _ _).drew k0, cell_later (Below.refl _ _).drew k1, cell_later (Below.refl _ _).drew k2, cell_later (Below.refl _ _).drew k3, cell_later (Below.refl _ _).drew k4, cell_later (Below.refl _ _).drew k5, cell_later (Below.refl _ _).drew k6, cell_later (Below.refl _ _).drew k7, cell_later (Below.refl _ _).drew k8, cell_later (Below.refl _ _).drew k9⟩
  replace k0 := cell_later (Below.refl _ w6).drew k0
  replace k1 := cell_later (Below.refl _ w6).drew k1
  replace k2 := cell_later (Below.refl _ w6).drew k2
  replace k3 := cell_later (Below.refl _ w6).drew k3
  replace k4 := cell_later (Below.refl _ w6).drew k4
  replace k5 := cell_later (Below.refl _ w6).drew k5
  replace k6 := cell_later (Below.refl _ w6).drew k6
  replace k7 := cell_later (Below.refl _ w6).drew k7
  replace k8 := cell_later (Below.refl _ w6).drew k8
  replace k9 := cell_later (Below.refl _ w6).drew k9
  refine TR.take_at (i := 0) (v := ?_) 59 rfl rfl (by kernel_rfl) (by kernel_rfl) (by kernel_rfl) (fun _ _ _ h => h) (Or.inl ⟨by rfl, ?_⟩) (by assumption) ?_
  rotate_left
  · (intro w' hSw; (try dsimp only at hSw); go_simp; all_goals with_reducible rfl)
  try simp only [Act.put, List.setIfInBounds_toArray, List.set_cons_zero, List.set_cons_succ]
  refine TR.take_at (i := 1) (v := ?_) 60 rfl rfl (by kernel_rfl) (by kernel_rfl) (by kernel_rfl) (fun _ _ _ h => h) (Or.inl ⟨by rfl, ?_⟩) (by assumption) ?_
  rotate_left
  · (intro w' hSw; (try dsimp only at hSw); go_simp; all_goals with_reducible rfl)
  try simp only [Act.put, List.setIfInBounds_toArray, List.set_cons_zero, List.set_cons_succ]
  refine TR.take_at (i := 2) (v := ?_) 61 rfl rfl (by kernel_rfl) (by kernel_rfl) (by kernel_rfl) (fun _ _ _ h => h) (Or.inl ⟨by rfl, ?_⟩) (by assumption) ?_
  rotate_left
  · (intro w' hSw; (try dsimp only at hSw); go_simp; all_goals with_reducible rfl)
  try simp only [Act.put, List.setIfInBounds_toArray, List.set_cons_zero, List.set_cons_succ]
  refine TR.take_at (i := 3) (v := ?_) 62 rfl rfl (by kernel_rfl) (by kernel_rfl) (by kernel_rfl) (fun _ _ _ h => h) (Or.inl ⟨by rfl, ?_⟩) (by assumption) ?_
  rotate_left
  · (intro w' hSw; (try dsimp only at hSw); go_simp; all_goals with_reducible rfl)
  try simp only [Act.put, List.setIfInBounds_toArray, List.set_cons_zero, List.set_cons_succ]
  refine TR.take_at (i := 4) (v := ?_) 63 rfl rfl (by kernel_rfl) (by kernel_rfl) (by kernel_rfl) (fun _ _ _ h => h) (Or.inl ⟨by rfl, ?_⟩) (by assumption) ?_
  rotate_left
  · (intro w' hSw; (try dsimp only at hSw); go_simp; all_goals with_reducible rfl)
  try simp only [Act.put, List.setIfInBounds_toArray, List.set_cons_zero, List.set_cons_succ]
  refine TR.take_at (i := 5) (v := ?_) 64 rfl rfl (by kernel_rfl) (by kernel_rfl) (by kernel_rfl) (fun _ _ _ h => h) (Or.inl ⟨by rfl, ?_⟩) (by assumption) ?_
  rotate_left
  · (intro w' hSw; (try dsimp only at hSw); go_simp; all_goals with_reducible rfl)
  try simp only [Act.put, List.setIfInBounds_toArray, List.set_cons_zero, List.set_cons_succ]
  refine TR.take_at (i := 6) (v := ?_) 65 rfl rfl (by kernel_rfl) (by kernel_rfl) (by kernel_rfl) (fun _ _ _ h => h) (Or.inl ⟨by rfl, ?_⟩) (by assumption) ?_
  rotate_left
  · (intro w' hSw; (try dsimp only at hSw); go_simp; all_goals with_reducible rfl)
  try simp only [Act.put, List.setIfInBounds_toArray, List.set_cons_zero, List.set_cons_succ]
  refine TR.take_at (i := 7) (v := ?_) 66 rfl rfl (by kernel_rfl) (by kernel_rfl) (by kernel_rfl) (fun _ _ _ h => h) (Or.inl ⟨by rfl, ?_⟩) (by assumption) ?_
  rotate_left
  · (intro w' hSw; (try dsimp only at hSw); go_simp; all_goals with_reducible rfl)
  try simp only [Act.put, List.setIfInBounds_toArray, List.set_cons_zero, List.set_cons_succ]
  refine TR.take_at (i := 8) (v := ?_) 67 rfl rfl (by kernel_rfl) (by kernel_rfl) (by kernel_rfl) (fun _ _ _ h => h) (Or.inl ⟨by rfl, ?_⟩) (by assumption) ?_
  rotate_left
  · (intro w' hSw; (try dsimp only at hSw); go_simp; all_goals with_reducible rfl)
  try simp only [Act.put, List.setIfInBounds_toArray, List.set_cons_zero, List.set_cons_succ]
  refine TR.take_at (i := 10) (v := ?_) 69 rfl rfl (by kernel_rfl) (by kernel_rfl) (by kernel_rfl) (fun _ _ _ h => h) (Or.inl ⟨by rfl, ?_⟩) (by assumption) ?_
  rotate_left
  · (intro w' hSw; (try dsimp only at hSw); go_simp; all_goals with_reducible rfl)
  try simp only [Act.put, List.setIfInBounds_toArray, List.set_cons_zero, List.set_cons_succ]
  refine TR.take_at (i := 11) (v := ?_) 70 rfl rfl (by kernel_rfl) (by kernel_rfl) (by kernel_rfl) (fun _ _ _ h => h) (Or.inl ⟨by rfl, ?_⟩) (by assumption) ?_
  rotate_left
  · (intro w' hSw; (try dsimp only at hSw); go_simp; all_goals with_reducible rfl)
  try simp only [Act.put, List.setIfInBounds_toArray, List.set_cons_zero, List.set_cons_succ]
  refine TR.take_at (i := 12) (v := ?_) 71 rfl rfl (by kernel_rfl) (by kernel_rfl) (by kernel_rfl) (fun _ _ _ h => h) (Or.inl ⟨by rfl, ?_⟩) (by assumption) ?_
  rotate_left
  · (intro w' hSw; (try dsimp only at hSw); go_simp; all_goals with_reducible rfl)
  try simp only [Act.put, List.setIfInBounds_toArray, List.set_cons_zero, List.set_cons_succ]
  refine TR.take_at (i := 13) (v := ?_) 72 rfl rfl (by kernel_rfl) (by kernel_rfl) (by kernel_rfl) (fun _ _ _ h => h) (Or.inl ⟨by rfl, ?_⟩) (by assumption) ?_
  rotate_left
  · (intro w' hSw; (try dsimp only at hSw); go_simp; all_goals with_reducible rfl)
  try simp only [Act.put, List.setIfInBounds_toArray, List.set_cons_zero, List.set_cons_succ]
  refine wpAnyH_ready (rs := [9]) (by kernel_rfl) (by simp) ?_
  refine AllReadyH.cons rfl (fun K hK => ?_) AllReadyH.nil
  go_simp
  refine (HBA.out _).mono ?_
  rintro e w7 ⟨rfl, rfl⟩
  go_wp2_with fail
  refine hK.out _ _ ⟨k0, k1, k2, k3, k4, k5, k6, k7, k8, k9⟩ (fun hHeld1 => ?_)
  clear hK
  try simp only [Act.put, List.setIfInBounds_toArray, List.set_cons_zero, List.set_cons_succ]
  refine TR.take_at (i := 14) (v := ?_) 73 rfl rfl (by kernel_rfl) (by kernel_rfl) (by kernel_rfl) (fun _ _ _ h => h) (Or.inl ⟨by rfl, ?_⟩) (by assumption) ?_
  rotate_left
  · (intro w' hSw; (try dsimp only at hSw); go_simp; all_goals with_reducible rfl)
  try simp only [Act.put, List.setIfInBounds_toArray, List.set_cons_zero, List.set_cons_succ]
  have nX8 : Hid (∀ i, w.heap.size ≤ i → i < w5.heap.size → ¬ (Gr X w5 w6) i) := fun i hi hj c => by
    rcases c with c | c
    · exact nX.out i hi c
    · omega
  refine wpAnyH_ready (rs := [15]) (by kernel_rfl) (by simp) ?_
  refine AllReadyH.cons rfl (fun K hK => ?_) AllReadyH.nil
  go_simp
  refine ((HM.out.later (Below.refl _ w6).drew).fillE ⟨(I : Int), baseV va l, l, k, o, u, r, y, true, t⟩ HEO.out).mono ?_
  rintro e w8 ⟨⟨kk8, rfl⟩, hM8, hT8, hx8⟩
  go_wp2_with fail
  replace k0 := (World.cell?_of_block (a := ⟨x, 1, none⟩) hx8).trans k0
  replace k1 := TR.turn_cell hT8 (nX8.out _ (by omega) (by omega)) k1
  replace k2 := TR.turn_cell hT8 (nX8.out _ (by omega) (by omega)) k2
  replace k3 := TR.turn_cell hT8 (nX8.out _ (by omega) (by omega)) k3
  replace k4 := TR.turn_cell hT8 (nX8.out _ (by omega) (by omega)) k4
  replace k5 := TR.turn_cell hT8 (nX8.out _ (by omega) (by omega)) k5
  replace k6 := TR.turn_cell hT8 (nX8.out _ (by omega) (by omega)) k6
  replace k7 := TR.turn_cell hT8 (nX8.out _ (by omega) (by omega)) k7
  replace k8 := TR.turn_cell hT8 (nX8.out _ (by omega) (by omega)) k8
  replace k9 := TR.turn_cell hT8 (nX8.out _ (by omega) (by omega)) k9
  refine hK.out _ _ ⟨k0, k1, k2, k3, k4, k5, k6, k7, k8, k9⟩ (fun hHeld2 => ?_)
  have HX8 := Hid.mk hx8
  clear hK k0 k1 k2 k3 k4 k5 k6 k7 k8 k9 hx8 HM
  try simp only [Act.put, List.setIfInBounds_toArray, List.set_cons_zero, List.set_cons_succ]
  refine wpAnyH_done (by kernel_rfl) ?_ _
  refine NoPanic.normal ?_
  replace g0 := (hT8.block _ (block_lt g0) (nX8.out _ (by omega) (by omega))).trans g0
  replace g1 := (hT8.block _ (block_lt g1) (nX8.out _ (by omega) (by omega))).trans g1
  replace g2 := (hT8.block _ (block_lt g2) (nX8.out _ (by omega) (by omega))).trans g2
  replace g3 := (hT8.block _ (block_lt g3) (nX8.out _ (by omega) (by omega))).trans g3
  replace g4 := (hT8.block _ (block_lt g4) (nX8.out _ (by omega) (by omega))).trans g4
  replace g5 := (hT8.block _ (block_lt g5) (nX8.out _ (by omega) (by omega))).trans g5
  have HM8 := Hid.mk hM8
  have HT8 := Hid.mk hT8
  clear hM8 hT8
  obtain ⟨⟨k0, k1, k2, k3, k4, k5, k6, k7⟩, -⟩ := cells8 g4
  obtain ⟨k8, k9⟩ := TR.row2c g5
  go_upto_region 7 with fail
  refine wp_region_noPanic ?_
  refine wp_region_held_drew (S := (fun w' => w'.cell? ⟨KL, 0, none⟩ = some (.int .i64 l) ∧ w'.cell? ⟨KL, 1, none⟩ = some (.int .i64 k) ∧ w'.cell? ⟨KL, 2, none⟩ = some (.int .u64 (o : Nat)) ∧ w'.cell? ⟨KL, 3, none⟩ = some (.bool u) ∧ w'.cell? ⟨KL, 4, none⟩ = some (.bool r) ∧ w'.cell? ⟨KL, 5, none⟩ = some (.bool y) ∧ w'.cell? ⟨KL, 6, none⟩ = some (.bool true) ∧ w'.cell? ⟨KL, 7, none⟩ = some (.int .i64 t) ∧ w'.cell? ⟨KL + 1, 0, none⟩ = some (.int .i64 f1) ∧ w'.cell? ⟨KL + 1, 1, none⟩ = some (.int .i64 f2))) (by kernel_rfl) ?_ (fun hHeld => ?_)
  · exact ⟨cell_later (Below.refl _ _).drew k0, cell_later (Below.refl _ _).drew k1, cell_later (Below.refl _ _).drew k2, cell_later (Below.refl _ _).drew k3, cell_later (Below.refl _ _).drew k4, cell_later (Below.refl _ _).drew k5, cell_later (Below.refl _ _).drew k6, cell_later (Below.refl _ _).drew k7, cell_later (Below.refl _ _).drew k8, cell_later (Below.refl _ _).drew k9⟩
  replace k0 := cell_later (Below.refl _ w8).drew k0
  replace k1 := cell_later (Below.refl _ w8).drew k1
  replace k2 := cell_later (Below.refl _ w8).drew k2
  replace k3 := cell_later (Below.refl _ w8).drew k3
  replace k4 := cell_later (Below.refl _ w8).drew k4
  replace k5 := cell_later (Below.refl _ w8).drew k5
  replace k6 := cell_later (Below.refl _ w8).drew k6
  replace k7 := cell_later (Below.refl _ w8).drew k7
  replace k8 := cell_later (Below.refl _ w8).drew k8
  replace k9 := cell_later (Below.refl _ w8).drew k9
  refine TR.take_at (i := 0) (v := ?_) 75 rfl rfl (by kernel_rfl) (by kernel_rfl) (by kernel_rfl) (fun _ _ _ h => h) (Or.inl ⟨by rfl, ?_⟩) (by assumption) ?_
  rotate_left
  · (intro w' hSw; (try dsimp only at hSw); go_simp; all_goals with_reducible rfl)
  try simp only [Act.put, List.setIfInBounds_toArray, List.set_cons_zero, List.set_cons_succ]
  refine TR.take_at (i := 1) (v := ?_) 76 rfl rfl (by kernel_rfl) (by kernel_rfl) (by kernel_rfl) (fun _ _ _ h => h) (Or.inl ⟨by rfl, ?_⟩) (by assumption) ?_
  rotate_left
  · (intro w' hSw; (try dsimp only at hSw); go_simp; all_goals with_reducible rfl)
  try simp only [Act.put, List.setIfInBounds_toArray, List.set_cons_zero, List.set_cons_succ]
  refine wpAnyH_ready (rs := [2]) (by kernel_rfl) (by simp) ?_
  refine AllReadyH.cons rfl (fun K hK => ?_) AllReadyH.nil
  refine step_store_seg rfl rfl 62 _ _ rfl (w.heap.size + 1 + 1) 0 _ #[.int .i64 l, .int .i64 k, .int .u64 (o : Nat), .bool u, .bool r, .bool y, .bool true, .int .i64 t] rfl rfl rfl 62 _ (block_later (Below.refl _ w8).drew g2) (show 0 + 8 ≤ 8 by decide) info_leaf (by simp [Value.oneCell']) #[.int .i64 l, .int .i64 k, .int .u64 (o : Nat), .bool u, .bool r, .bool y, .bool true, .int .i64 t] rfl ?_
  intro wa hrwa htwa
  replace k0 := TR.turn_cell htwa (by omega) k0
  replace k1 := TR.turn_cell htwa (by omega) k1
  replace k2 := TR.turn_cell htwa (by omega) k2
  replace k3 := TR.turn_cell htwa (by omega) k3
  replace k4 := TR.turn_cell htwa (by omega) k4
  replace k5 := TR.turn_cell htwa (by omega) k5
  replace k6 := TR.turn_cell htwa (by omega) k6
  replace k7 := TR.turn_cell htwa (by omega) k7
  replace k8 := TR.turn_cell htwa (by omega) k8
  replace k9 := TR.turn_cell htwa (by omega) k9
  replace g3 := block_turn htwa (block_later (Below.refl _ w8).drew g3) (by omega)
  refine hK.out _ _ ⟨k0, k1, k2, k3, k4, k5, k6, k7, k8, k9⟩ (fun hHeldwa => ?_)
  clear hK
  try simp only [Act.put, List.setIfInBounds_toArray, List.set_cons_zero, List.set_cons_succ]
  refine wpAnyH_ready (rs := [3]) (by kernel_rfl) (by simp) ?_
  refine AllReadyH.cons rfl (fun K hK => ?_) AllReadyH.nil
  refine step_store_seg rfl rfl 48 _ _ rfl (w.heap.size + 1 + 1 + 1) 0 _ #[.int .i64 f1, .int .i64 f2] rfl rfl rfl 48 _ g3 (show 0 + 2 ≤ 2 by decide) info_fault (by simp [Value.oneCell']) #[.int .i64 f1, .int .i64 f2] rfl ?_
  intro wb hrwb htwb
  replace k0 := TR.turn_cell htwb (by omega) k0
  replace k1 := TR.turn_cell htwb (by omega) k1
  replace k2 := TR.turn_cell htwb (by omega) k2
  replace k3 := TR.turn_cell htwb (by omega) k3
  replace k4 := TR.turn_cell htwb (by omega) k4
  replace k5 := TR.turn_cell htwb (by omega) k5
  replace k6 := TR.turn_cell htwb (by omega) k6
  replace k7 := TR.turn_cell htwb (by omega) k7
  replace k8 := TR.turn_cell htwb (by omega) k8
  replace k9 := TR.turn_cell htwb (by omega) k9
  replace hrwa := block_turn htwb hrwa (by omega)
  refine hK.out _ _ ⟨k0, k1, k2, k3, k4, k5, k6, k7, k8, k9⟩ (fun hHeldwb => ?_)
  clear hK
  try simp only [Act.put, List.setIfInBounds_toArray, List.set_cons_zero, List.set_cons_succ]
  refine wpAnyH_done (by kernel_rfl) ?_ _
  refine NoPanic.normal ?_
  clear k0 k1 k2 k3 k4 k5 k6 k7 k8 k9
  go_wp2
  refine bodyPost_ret (results_row_row rfl _ _ (w.heap.size + 1 + 1) (w.heap.size + 1 + 1 + 1) _ _ _ _ _ _ _ _ rfl hrwa Tryz.underlying62 rfl info_leaf rfl hrwb Tryz.underlying48 rfl info_fault) rfl ⟨rfl, ?_⟩
  rw [HWS.out]
  have hTT : Turn (fun i => i = w.heap.size + 1 + 1 ∨ i = w.heap.size + 1 + 1 + 1) w8.drew wb := ((turn_of_below _ (Below.refl _ _)).trans htwa (fun i _ hi => Or.inl hi)).trans htwb (fun i _ hi => Or.inr hi)
  have e1 := hsz
  have hT1 := (turn_of_below X HBD.out.1).trans HT6.out (fun _ _ h => h)
  have e2 := HBD.out.2
  have hTw := (hT1.trans (turn_of_below X (Below.refl _ _).drew) (fun _ _ h => h)).trans HT8.out (fun i hi hc => by
    rcases hc with hc | hc
    · exact hc
    · have := HBD.out.1.size; omega)
  have hxw : x < w.heap.size := H0.out.ltX x (by obtain ⟨_, _, _, _, _, _, h⟩ := H0.out; exact h.cx)
  have hdx : ∀ W : World, x < W.heap.size → W.drew.heap[x]? = W.heap[x]? := fun W hx => (Below.refl W.heap.size W).drew.block x hx
  have hxx : wb.heap[x]? = w.heap[x]? := by
    have hxa : x < w8.heap.size := by have e : w8.drew.heap.size = w8.heap.size := rfl; have := hTw.size; omega
    have ea := hTT.block x hxa (fun c => by rcases c with c | c <;> omega)
    exact (ea.trans (hdx w8 hxa)).trans (((HX8.out.trans (hdx w6 (by have := HBD.out.1.size; omega))).trans HX6.out).trans (HBD.out.1.block x hxw))
  refine and_mid hxx ?_
  refine H0.out.fin HM8.out (Below.refl _ _).drew hTT (fun i hi => ?_) (fun i hi => ?_) hTw
  · skip
    rcases hi with (hi | hi) | hi
    · exact Or.inl hi
    · exact Or.inr (by have := HBD.out.1.size; omega)
    · exact Or.inr (by have := HBD.out.1.size; have e : w6.drew.heap.size = w6.heap.size := rfl; omega)
  · have h1 : w.heap.size ≤ i := by rcases hi with hi | hi <;> omega
    have h2 : i < w.heap.size + 1 + 1 + 1 + 1 := by rcases hi with hi | hi <;> omega
    refine ⟨h1, fun c => ?_⟩
    · skip
      rcases c with (c | c) | c
      · exact nX.out i h1 c
      · omega
      · have e : w6.drew.heap.size = w6.heap.size := rfl
        omega


theorem walked_c (h : Mch w0 w X x a n S most s) (R I va : Nat) (hR : R < 281474976710656) (hn : Hn) (hva : va < 18446744073709551616) :
    Calls Tryz.prog 52 #[.pointer (some ⟨x, 0, none⟩), bsV R I, .int .u64 va, hn.v] w fun r w' => r = .returned (.tuple #[.agg (lfR (wkO S s R I va hn).2).cs.toArray, .agg #[.int .i64 (ftR (wkO S s R I va hn).2).1, .int .i64 (ftR (wkO S s R I va hn).2).2]]) ∧ Mch w0 w' (Gr X w w') x a n S most (wdS S most s R I va hn) ∧ Turn X w w' ∧ w'.heap[x]? = w.heap[x]? := by
  cases hk : hn.keep
  · cases hf : hn.fill
    · exact walked_nn h R I va hR hn hva hk hf
    · cases hu : (lfR (wkO S s R I va hn).2).s
      · exact walked_nfn h R I va hR hn hva hk hf hu
      · exact walked_nfu h R I va hR hn hva hk hf hu
  · cases hf : hn.fill
    · exact walked_kn h R I va hR hn hva hk hf
    · cases hu : (lfR (wkO S s R I va hn).2).s
      · exact walked_kfn h R I va hR hn hva hk hf hu
      · exact walked_kfu h R I va hR hn hva hk hf hu
end
end Go.Proofs.YtndjhedoandinaaGreatDoor.MM

/- Machines: leaf. -/
namespace Go.Proofs.YtndjhedoandinaaGreatDoor.MM
open Go.RowKit Go.Maps

def lf0 : Lf := ⟨0, 0, 0, false, false, false, false, 0⟩
def enL (e : TB.En) : Lf := ⟨e.lv, e.k, e.o, e.u, e.r, e.x, e.s, e.a⟩
def fdE (s : St) (I va : Nat) : TB.En := TB.fndE (fun e => TB.mB e (I : Int) va) s.E
def fdN (s : St) (I va : Nat) : Nat := TB.cntE (fun e => TB.mB e (I : Int) va) s.E
def lfO (S : Nat) (s : St) (R I va : Nat) (h : Hn) : Lf × Int × Int := if fdN s I va = 0 then (lfR (wkO S s R I va h).2, ftR (wkO S s R I va h).2) else if fdN s I va = 1 then (enL (fdE s I va), 0, 0) else (lf0, 6, 0)
def lfS (S : Nat) (most : Int) (s : St) (R I va : Nat) (h : Hn) : St := if fdN s I va = 0 then wdS S most s R I va h else s
def leafO (S : Nat) (s : St) (va : Nat) (h : Hn) : Lf × Int × Int := if alignedB va 3 = false then (lf0, 5, 0) else match s.rg with | none => (lf0, 1, 0) | some (R, I) => lfO S s R I va h
def leafS (S : Nat) (most : Int) (s : St) (va : Nat) (h : Hn) : St := if alignedB va 3 = false then s else match s.rg with | none => s | some (R, I) => lfS S most s R I va h
abbrev tupV (q : Lf × Int × Int) : Value := .tuple #[.agg q.1.cs.toArray, .agg #[.int .i64 q.2.1, .int .i64 q.2.2]]

theorem heap3_0 (w : World) (a b c : Obj) : (((w.alloc a).alloc b).alloc c).heap[w.heap.size]? = some a := block_later (below_new _ _) (heap2_0 _ _ _)
theorem heap3_1 (w : World) (a b c : Obj) : (((w.alloc a).alloc b).alloc c).heap[w.heap.size + 1]? = some b := block_later (below_new _ _) (heap_alloc2_new w a b)
theorem heap3_2 (w : World) (a b c : Obj) : (((w.alloc a).alloc b).alloc c).heap[w.heap.size + 1 + 1]? = some c := by
  have := heap_alloc2_new (w.alloc a) b c
  rw [show (w.alloc a).heap.size + 1 = w.heap.size + 1 + 1 by simp] at this
  exact this
theorem below3 (w : World) (a b c : Obj) : Below w.heap.size w (((w.alloc a).alloc b).alloc c) := below_tr (below2 _ _ _) (below_new _ _)
theorem size3 (w : World) (a b c : Obj) : (((w.alloc a).alloc b).alloc c).heap.size = w.heap.size + 1 + 1 + 1 := by simp

section
variable {w0 w : World} {X : Nat → Prop} {x a n S : Nat} {most : Int} {s : St}

/-- The two results are written, and all is told of the whole. -/
theorem Mch.fin2 {Z : Nat → Prop} {w1 w2 wa wb : World} {m g1 g2 : Nat} {s' : St} (h0 : Mch w0 w X x a n S most s) (h : Mch w0 w1 Z x a m S most s') (hb : Below w1.heap.size w1 w2) (ha : Turn (fun i => i = g1) w2 wa) (hbb : Turn (fun i => i = g2) wa wb) (hZ : ∀ i, Z i → X i ∨ w.heap.size ≤ i) (h1 : w.heap.size ≤ g1 ∧ ¬ Z g1) (h2 : w.heap.size ≤ g2 ∧ ¬ Z g2) (hT : Turn X w w1) : Mch w0 wb (Gr X w wb) x a m S most s' ∧ Turn X w wb :=
  h0.fin (Y := fun i => i = g1 ∨ i = g2) h hb (((turn_of_below _ (Below.refl _ _)).trans ha (fun i _ hi => Or.inl hi)).trans hbb (fun i _ hi => Or.inr hi)) hZ (fun i hi => by
    rcases hi with hi | hi
    · rw [hi]; exact h1
    · rw [hi]; exact h2) hT
theorem Mch.nX (h : Mch w0 w X x a n S most s) {i : Nat} (hi : w.heap.size ≤ i) : ¬ X i := fun c => by have := h.ltX i c; omega

set_option maxHeartbeats 2000000 in
set_option maxRecDepth 100000 in
theorem leaf_un (h : Mch w0 w X x a n S most s) (va : Nat) (hva : va < 18446744073709551616) (hn : Hn) (hal : alignedB va 3 = false) :
    Calls Tryz.prog 46 #[.pointer (some ⟨x, 0, none⟩), .int .u64 va, hn.v] w fun r w' => r = .returned (tupV (lf0, 5, 0)) ∧ Mch w0 w' (Gr X w w') x a n S most s ∧ Turn X w w' := by
  have H0 := Hid.mk h
  have HA := Hid.mk (fun W => aligned_any va 3 hva W)
  rw [hal] at HA
  obtain ⟨hf, hl, hk⟩ := hn
  simp only [Hn.v]
  have g0 := heap3_0 w (.cells #[.bool hf, .bool hl, .bool hk] 38) (.cells #[.int .i64 0, .int .i64 0, .int .u64 0, .bool false, .bool false, .bool false, .bool false, .int .i64 0] 62) (.cells #[.int .i64 0, .int .i64 0] 48)
  have g1 := heap3_1 w (.cells #[.bool hf, .bool hl, .bool hk] 38) (.cells #[.int .i64 0, .int .i64 0, .int .u64 0, .bool false, .bool false, .bool false, .bool false, .int .i64 0] 62) (.cells #[.int .i64 0, .int .i64 0] 48)
  have g2 := heap3_2 w (.cells #[.bool hf, .bool hl, .bool hk] 38) (.cells #[.int .i64 0, .int .i64 0, .int .u64 0, .bool false, .bool false, .bool false, .bool false, .int .i64 0] 62) (.cells #[.int .i64 0, .int .i64 0] 48)
  have hB := below3 w (.cells #[.bool hf, .bool hl, .bool hk] 38) (.cells #[.int .i64 0, .int .i64 0, .int .u64 0, .bool false, .bool false, .bool false, .bool false, .int .i64 0] 62) (.cells #[.int .i64 0, .int .i64 0] 48)
  have hsz := size3 w (.cells #[.bool hf, .bool hl, .bool hk] 38) (.cells #[.int .i64 0, .int .i64 0, .int .u64 0, .bool false, .bool false, .bool false, .bool false, .int .i64 0] 62) (.cells #[.int .i64 0, .int .i64 0] 48)
  clear h hva
  go_enter Tryz.func46, Tryz.ntmps46
  go_upto_region 1 with fail
  generalize ((w.alloc (.cells #[.bool hf, .bool hl, .bool hk] 38)).alloc (.cells #[.int .i64 0, .int .i64 0, .int .u64 0, .bool false, .bool false, .bool false, .bool false, .int .i64 0] 62)).alloc (.cells #[.int .i64 0, .int .i64 0] 48) = W at *
  go_wp2_with fail
  refine (HA.out W).mono ?_
  rintro e w1 ⟨rfl, e1⟩
  obtain rfl : W = w1 := e1.symm
  clear e1
  go_wp2_with
    first
    | (refine wpList_store_segTo rfl 62 _ _ rfl rfl (w.heap.size + 1) 0 _ #[.int .i64 0, .int .i64 0, .int .u64 0, .bool false, .bool false, .bool false, .bool false, .int .i64 0] rfl rfl rfl 62 _ g1 (show 0 + 8 ≤ 8 by decide) info_leaf (by simp [Value.oneCell']) #[.int .i64 0, .int .i64 0, .int .u64 0, .bool false, .bool false, .bool false, .bool false, .int .i64 0] rfl ?_
       intro wa hra hta
       replace g2 := block_turn hta g2 (by omega))
    | (refine wpList_store_segTo rfl 48 _ _ rfl rfl (w.heap.size + 1 + 1) 0 _ #[.int .i64 5, .int .i64 0] rfl rfl rfl 48 _ g2 (show 0 + 2 ≤ 2 by decide) info_fault (by simp [Value.oneCell']) #[.int .i64 5, .int .i64 0] rfl ?_
       intro wb hrb htb
       replace hra := block_turn htb hra (by omega))
    | fail
  refine bodyPost_ret (results_row_row rfl _ _ (w.heap.size + 1) (w.heap.size + 1 + 1) _ _ _ _ _ _ _ _ rfl hra Tryz.underlying62 rfl info_leaf rfl hrb Tryz.underlying48 rfl info_fault) rfl ⟨rfl, ?_⟩
  exact H0.out.fin2 H0.out hB hta htb (fun i hi => Or.inl hi) ⟨by omega, H0.out.nX (by omega)⟩ ⟨by omega, H0.out.nX (by omega)⟩ (Turn.refl _ _)

set_option maxHeartbeats 2000000 in
set_option maxRecDepth 100000 in
theorem leaf_off (h : Mch w0 w X x a n S most s) (va : Nat) (hva : va < 18446744073709551616) (hn : Hn) (hal : alignedB va 3 = true) (hg : s.rg = none) :
    Calls Tryz.prog 46 #[.pointer (some ⟨x, 0, none⟩), .int .u64 va, hn.v] w fun r w' => r = .returned (tupV (lf0, 1, 0)) ∧ Mch w0 w' (Gr X w w') x a n S most s ∧ Turn X w w' := by
  have H0 := Hid.mk h
  have HA := Hid.mk (fun W => aligned_any va 3 hva W)
  rw [hal] at HA
  obtain ⟨hf, hl, hk⟩ := hn
  simp only [Hn.v]
  have g0 := heap3_0 w (.cells #[.bool hf, .bool hl, .bool hk] 38) (.cells #[.int .i64 0, .int .i64 0, .int .u64 0, .bool false, .bool false, .bool false, .bool false, .int .i64 0] 62) (.cells #[.int .i64 0, .int .i64 0] 48)
  have g1 := heap3_1 w (.cells #[.bool hf, .bool hl, .bool hk] 38) (.cells #[.int .i64 0, .int .i64 0, .int .u64 0, .bool false, .bool false, .bool false, .bool false, .int .i64 0] 62) (.cells #[.int .i64 0, .int .i64 0] 48)
  have g2 := heap3_2 w (.cells #[.bool hf, .bool hl, .bool hk] 38) (.cells #[.int .i64 0, .int .i64 0, .int .u64 0, .bool false, .bool false, .bool false, .bool false, .int .i64 0] 62) (.cells #[.int .i64 0, .int .i64 0] 48)
  have hB := below3 w (.cells #[.bool hf, .bool hl, .bool hk] 38) (.cells #[.int .i64 0, .int .i64 0, .int .u64 0, .bool false, .bool false, .bool false, .bool false, .int .i64 0] 62) (.cells #[.int .i64 0, .int .i64 0] 48)
  have hsz := size3 w (.cells #[.bool hf, .bool hl, .bool hk] 38) (.cells #[.int .i64 0, .int .i64 0, .int .u64 0, .bool false, .bool false, .bool false, .bool false, .int .i64 0] 62) (.cells #[.int .i64 0, .int .i64 0] 48)
  clear h hva
  go_enter Tryz.func46, Tryz.ntmps46
  go_upto_region 1 with fail
  generalize ((w.alloc (.cells #[.bool hf, .bool hl, .bool hk] 38)).alloc (.cells #[.int .i64 0, .int .i64 0, .int .u64 0, .bool false, .bool false, .bool false, .bool false, .int .i64 0] 62)).alloc (.cells #[.int .i64 0, .int .i64 0] 48) = W at *
  go_wp2_with fail
  refine (HA.out W).mono ?_
  rintro e w1 ⟨rfl, e1⟩
  obtain rfl : W = w1 := e1.symm
  clear e1
  obtain ⟨XM, XB, XT, tb, tr, pv, h⟩ := H0.out.later hB
  obtain ⟨-, -, -, c3, -⟩ := row5 h.row
  rw [hg] at c3
  change W.cell? _ = some .nilIface at c3
  clear h
  have t0 := tA_none
  go_upto_region 4 with fail
  have hB2 := below_new W (.cells #[.int .u64 0, .int .i64 0] 120)
  generalize W.alloc (.cells #[.int .u64 0, .int .i64 0] 120) = W2 at *
  replace g0 := block_later hB2 g0
  replace g1 := block_later hB2 g1
  replace g2 := block_later hB2 g2
  clear c3 t0
  go_wp2_with
    first
    | (refine wpList_store_segTo rfl 62 _ _ rfl rfl (w.heap.size + 1) 0 _ #[.int .i64 0, .int .i64 0, .int .u64 0, .bool false, .bool false, .bool false, .bool false, .int .i64 0] rfl rfl rfl 62 _ g1 (show 0 + 8 ≤ 8 by decide) info_leaf (by simp [Value.oneCell']) #[.int .i64 0, .int .i64 0, .int .u64 0, .bool false, .bool false, .bool false, .bool false, .int .i64 0] rfl ?_
       intro wa hra hta
       replace g2 := block_turn hta g2 (by omega))
    | (refine wpList_store_segTo rfl 48 _ _ rfl rfl (w.heap.size + 1 + 1) 0 _ #[.int .i64 1, .int .i64 0] rfl rfl rfl 48 _ g2 (show 0 + 2 ≤ 2 by decide) info_fault (by simp [Value.oneCell']) #[.int .i64 1, .int .i64 0] rfl ?_
       intro wb hrb htb
       replace hra := block_turn htb hra (by omega))
    | fail
  refine bodyPost_ret (results_row_row rfl _ _ (w.heap.size + 1) (w.heap.size + 1 + 1) _ _ _ _ _ _ _ _ rfl hra Tryz.underlying62 rfl info_leaf rfl hrb Tryz.underlying48 rfl info_fault) rfl ⟨rfl, ?_⟩
  exact H0.out.fin2 H0.out (below_tr hB hB2) hta htb (fun i hi => Or.inl hi) ⟨by omega, H0.out.nX (by omega)⟩ ⟨by omega, H0.out.nX (by omega)⟩ (Turn.refl _ _)

set_option maxHeartbeats 2000000 in
set_option maxRecDepth 100000 in
theorem leaf_on (h : Mch w0 w X x a n S most s) (va : Nat) (hva : va < 18446744073709551616) (hn : Hn) (hal : alignedB va 3 = true) (R I : Nat) (hg : s.rg = some (R, I)) :
    Calls Tryz.prog 46 #[.pointer (some ⟨x, 0, none⟩), .int .u64 va, hn.v] w fun r w' => r = .returned (tupV (lfO S s R I va hn)) ∧ Mch w0 w' (Gr X w w') x a n S most (lfS S most s R I va hn) ∧ Turn X w w' := by
  have H0 := Hid.mk h
  have HA := Hid.mk (fun W => aligned_any va 3 hva W)
  rw [hal] at HA
  have HR := Hid.mk ((h.wfm.rr R I hg).1)
  have HWK := Hid.mk (fun W (hb : Below w.heap.size w W) => walked_c (H0.out.later hb) R I va HR.out hn hva)
  have HO := Hid.mk (And.intro (show lfO S s R I va hn = if fdN s I va = 0 then (lfR (wkO S s R I va hn).2, ftR (wkO S s R I va hn).2) else if fdN s I va = 1 then (enL (fdE s I va), 0, 0) else (lf0, 6, 0) from rfl) (show lfS S most s R I va hn = if fdN s I va = 0 then wdS S most s R I va hn else s from rfl))
  have HV := Hid.mk hva
  generalize lfO S s R I va hn = O at *
  generalize lfS S most s R I va hn = s' at *
  obtain ⟨hf, hl, hk⟩ := hn
  simp only [Hn.v]
  have g0 := heap3_0 w (.cells #[.bool hf, .bool hl, .bool hk] 38) (.cells #[.int .i64 0, .int .i64 0, .int .u64 0, .bool false, .bool false, .bool false, .bool false, .int .i64 0] 62) (.cells #[.int .i64 0, .int .i64 0] 48)
  have g1 := heap3_1 w (.cells #[.bool hf, .bool hl, .bool hk] 38) (.cells #[.int .i64 0, .int .i64 0, .int .u64 0, .bool false, .bool false, .bool false, .bool false, .int .i64 0] 62) (.cells #[.int .i64 0, .int .i64 0] 48)
  have g2 := heap3_2 w (.cells #[.bool hf, .bool hl, .bool hk] 38) (.cells #[.int .i64 0, .int .i64 0, .int .u64 0, .bool false, .bool false, .bool false, .bool false, .int .i64 0] 62) (.cells #[.int .i64 0, .int .i64 0] 48)
  have hB := below3 w (.cells #[.bool hf, .bool hl, .bool hk] 38) (.cells #[.int .i64 0, .int .i64 0, .int .u64 0, .bool false, .bool false, .bool false, .bool false, .int .i64 0] 62) (.cells #[.int .i64 0, .int .i64 0] 48)
  have hsz := size3 w (.cells #[.bool hf, .bool hl, .bool hk] 38) (.cells #[.int .i64 0, .int .i64 0, .int .u64 0, .bool false, .bool false, .bool false, .bool false, .int .i64 0] 62) (.cells #[.int .i64 0, .int .i64 0] 48)
  clear h hva
  go_enter Tryz.func46, Tryz.ntmps46
  go_upto_region 1 with fail
  generalize ((w.alloc (.cells #[.bool hf, .bool hl, .bool hk] 38)).alloc (.cells #[.int .i64 0, .int .i64 0, .int .u64 0, .bool false, .bool false, .bool false, .bool false, .int .i64 0] 62)).alloc (.cells #[.int .i64 0, .int .i64 0] 48) = W at *
  go_wp2_with fail
  refine (HA.out W).mono ?_
  rintro e w1 ⟨rfl, e1⟩
  obtain rfl : W = w1 := e1.symm
  clear e1
  obtain ⟨XM, XB, XT, tb, tr, pv, h⟩ := H0.out.later hB
  obtain ⟨-, c1, -, c3, -⟩ := row5 h.row
  rw [hg] at c3
  change W.cell? _ = some (.iface 120 (.agg #[.int .u64 (R : Nat), .int .i64 (I : Nat)])) at c3
  have HC : Hid (∀ W1 (_ : Below W.heap.size W W1), Calls Tryz.prog 51 #[.pointer (some ⟨tb, 0, none⟩), .int .i64 (I : Nat), .int .u64 va] W1 fun r w' => r = .returned (.tuple #[(fdE s I va).v, .int .i64 (fdN s I va : Nat)]) ∧ Below W1.heap.size W1 w') := fun W1 hb => TB.find_c (buf_keep h.buf (fun i hi => hb.block i (h.lt i (h.cb i hi))) hb.size) (by have := h.wf.el9; omega) (I : Int) va HV.out
  clear h
  generalize fdE s I va = b at *
  generalize fdN s I va = M at *
  have hM : ((M : Nat) : Int) = (M : Int) := rfl
  generalize hMi : ((M : Nat) : Int) = Mi at *
  obtain ⟨b0, b1, b2, b3, b4, b5, b6, b7, b8, b9⟩ := b
  simp only [TB.En.v] at HC
  have t1 := fun W => tA_some W (.agg #[.int .u64 (R : Nat), .int .i64 (I : Nat)])
  go_upto_region 6 with fail
  have hB2 := below_new W (.cells #[.int .u64 (R : Nat), .int .i64 (I : Nat)] 120)
  have g3 := heap_alloc_new W (.cells #[.int .u64 (R : Nat), .int .i64 (I : Nat)] 120)
  have hszB : w.heap.size + 1 + 1 + 1 ≤ W.heap.size := Nat.le_of_eq hsz.symm
  generalize W.alloc (.cells #[.int .u64 (R : Nat), .int .i64 (I : Nat)] 120) = W2 at *
  replace g0 := block_later hB2 g0
  replace g1 := block_later hB2 g1
  replace g2 := block_later hB2 g2
  have HBW := Hid.mk hB2
  replace hB := below_tr hB hB2
  have k0 := cell_later hB2 c1
  rw [hsz] at g3
  clear c1 hB2 hsz hszB
  have k1 := (TR.row2c g3).2
  have k0z := k0
  have k1z := k1
  clear c3 t1
  go_cut [10, 11] (fun s10 s11 wc => ∃ K, s10 = .pointer (some ⟨K, 0, none⟩) ∧ s11 = .int .i64 Mi ∧ Below W2.heap.size W2 wc ∧ W2.heap.size ≤ K ∧ wc.heap[K]? = some (.cells #[.int .i64 b0, .int .u64 (b1 : Nat), .int .i64 b2, .int .i64 b3, .int .u64 (b4 : Nat), .bool b5, .bool b6, .bool b7, .bool b8, .int .i64 b9] 107 (0, 0)))
  case first =>
    refine wp_region_noPanic ?_
    refine wp_region_held_drew (S := (fun w' => w'.cell? ⟨x, 1, none⟩ = some (.pointer (some ⟨tb, 0, none⟩)) ∧ w'.cell? ⟨w.heap.size + 1 + 1 + 1, 1, none⟩ = some (.int .i64 (I : Nat)))) (by kernel_rfl) ?_ (fun hHeld => ?_)
    · exact ⟨cell_later (Below.refl _ _).drew k0, cell_later (Below.refl _ _).drew k1⟩
    replace k0 := cell_later (Below.refl _ W2).drew k0
    replace k1 := cell_later (Below.refl _ W2).drew k1
    refine TR.take_at (i := 0) (v := ?_) 30 rfl rfl (by kernel_rfl) (by kernel_rfl) (by kernel_rfl) (fun _ _ _ h => h) (Or.inl ⟨by rfl, ?_⟩) (by assumption) ?_
    rotate_left
    · (intro w' hSw; (try dsimp only at hSw); go_simp; all_goals with_reducible rfl)
    try simp only [Act.put, List.setIfInBounds_toArray, List.set_cons_zero, List.set_cons_succ]
    refine TR.take_at (i := 1) (v := ?_) 31 rfl rfl (by kernel_rfl) (by kernel_rfl) (by kernel_rfl) (fun _ _ _ h => h) (Or.inl ⟨by rfl, ?_⟩) (by assumption) ?_
    rotate_left
    · (intro w' hSw; (try dsimp only at hSw); go_simp; all_goals with_reducible rfl)
    try simp only [Act.put, List.setIfInBounds_toArray, List.set_cons_zero, List.set_cons_succ]
    refine TR.take_at (i := 2) (v := ?_) 32 rfl rfl (by kernel_rfl) (by kernel_rfl) (by kernel_rfl) (fun _ _ _ h => h) (Or.inl ⟨by rfl, ?_⟩) (by assumption) ?_
    rotate_left
    · (intro w' hSw; (try dsimp only at hSw); go_simp; all_goals with_reducible rfl)
    try simp only [Act.put, List.setIfInBounds_toArray, List.set_cons_zero, List.set_cons_succ]
    refine TR.take_at (i := 3) (v := ?_) 33 rfl rfl (by kernel_rfl) (by kernel_rfl) (by kernel_rfl) (fun _ _ _ h => h) (Or.inl ⟨by rfl, ?_⟩) (by assumption) ?_
    rotate_left
    · (intro w' hSw; (try dsimp only at hSw); go_simp; all_goals with_reducible rfl)
    try simp only [Act.put, List.setIfInBounds_toArray, List.set_cons_zero, List.set_cons_succ]
    refine TR.take_at (i := 4) (v := ?_) 34 rfl rfl (by kernel_rfl) (by kernel_rfl) (by kernel_rfl) (fun _ _ _ h => h) (Or.inl ⟨by rfl, ?_⟩) (by assumption) ?_
    rotate_left
    · (intro w' hSw; (try dsimp only at hSw); go_simp; all_goals with_reducible rfl)
    try simp only [Act.put, List.setIfInBounds_toArray, List.set_cons_zero, List.set_cons_succ]
    refine TR.take_at (i := 5) (v := ?_) 35 rfl rfl (by kernel_rfl) (by kernel_rfl) (by kernel_rfl) (fun _ _ _ h => h) (Or.inl ⟨by rfl, ?_⟩) (by assumption) ?_
    rotate_left
    · (intro w' hSw; (try dsimp only at hSw); go_simp; all_goals with_reducible rfl)
    try simp only [Act.put, List.setIfInBounds_toArray, List.set_cons_zero, List.set_cons_succ]
    refine TR.take_at (i := 6) (v := ?_) 36 rfl rfl (by kernel_rfl) (by kernel_rfl) (by kernel_rfl) (fun _ _ _ h => h) (Or.inl ⟨by rfl, ?_⟩) (by assumption) ?_
    rotate_left
    · (intro w' hSw; (try dsimp only at hSw); go_simp; all_goals with_reducible rfl)
    try simp only [Act.put, List.setIfInBounds_toArray, List.set_cons_zero, List.set_cons_succ]
    have HBz : Below W2.heap.size W2 W2.drew := (Below.refl _ _).drew
    generalize W2.drew = Wd at *
    refine wpAnyH_ready (rs := [7, 11]) (by kernel_rfl) (by simp) ?_
    refine AllReadyH.cons rfl (fun K hK => ?_) (AllReadyH.cons rfl (fun K hK => ?_) AllReadyH.nil)
    · go_simp
      refine (HC.out _ (below_tr HBW.out HBz)).mono ?_
      rintro e v0 ⟨rfl, hbm⟩
      go_wp2_with fail
      replace k0 := cell_later hbm k0
      replace k1 := cell_later hbm k1
      replace HBz := below_tr HBz hbm
      clear hbm
      refine hK.out _ _ ⟨k0, k1⟩ (fun hHeldc0 => ?_)
      clear hK
      try simp only [Act.put, List.setIfInBounds_toArray, List.set_cons_zero, List.set_cons_succ]
      refine TR.take_at (i := 8) (v := ?_) 29 rfl rfl (by kernel_rfl) (by kernel_rfl) (by kernel_rfl) (fun _ _ _ h => h) (Or.inl ⟨by rfl, ?_⟩) (by assumption) ?_
      rotate_left
      · (intro w' hSw; (try dsimp only at hSw); go_simp; all_goals with_reducible rfl)
      try simp only [Act.put, List.setIfInBounds_toArray, List.set_cons_zero, List.set_cons_succ]
      refine TR.take_at (i := 9) (v := ?_) 38 rfl rfl (by kernel_rfl) (by kernel_rfl) (by kernel_rfl) (fun _ _ _ h => h) (Or.inl ⟨by rfl, ?_⟩) (by assumption) ?_
      rotate_left
      · (intro w' hSw; (try dsimp only at hSw); go_simp; all_goals with_reducible rfl)
      try simp only [Act.put, List.setIfInBounds_toArray, List.set_cons_zero, List.set_cons_succ]
      refine TR.take_at (i := 10) (v := ?_) 39 rfl rfl (by kernel_rfl) (by kernel_rfl) (by kernel_rfl) (fun _ _ _ h => h) (Or.inl ⟨by rfl, ?_⟩) (by assumption) ?_
      rotate_left
      · (intro w' hSw; (try dsimp only at hSw); go_simp; all_goals with_reducible rfl)
      try simp only [Act.put, List.setIfInBounds_toArray, List.set_cons_zero, List.set_cons_succ]
      refine wpAnyH_ready (rs := [11]) (by kernel_rfl) (by simp) ?_
      refine AllReadyH.cons rfl (fun K hK => ?_) AllReadyH.nil
      · go_simp
        have hbm := below_new (v0) (.cells #[.int .i64 0, .int .u64 0, .int .i64 0, .int .i64 0, .int .u64 0, .bool false, .bool false, .bool false, .bool false, .int .i64 0] 107)
        have hr0 := heap_alloc_new (v0) (.cells #[.int .i64 0, .int .u64 0, .int .i64 0, .int .i64 0, .int .u64 0, .bool false, .bool false, .bool false, .bool false, .int .i64 0] 107)
        have hg0 : W2.heap.size ≤ (v0).heap.size := HBz.size
        replace k0 := cell_later hbm k0
        replace k1 := cell_later hbm k1
        replace HBz := below_tr HBz hbm
        clear hbm
        refine hK.out _ _ ⟨k0, k1⟩ (fun hHelda1 => ?_)
        clear hK
        try simp only [Act.put, List.setIfInBounds_toArray, List.set_cons_zero, List.set_cons_succ]
        generalize hva1 : (v0).alloc (.cells #[.int .i64 0, .int .u64 0, .int .i64 0, .int .i64 0, .int .u64 0, .bool false, .bool false, .bool false, .bool false, .int .i64 0] 107) = va1 at *
        generalize hka1 : (v0).heap.size = KA0 at *
        refine wpAnyH_ready (rs := [12]) (by kernel_rfl) (by simp) ?_
        refine AllReadyH.cons rfl (fun K hK => ?_) AllReadyH.nil
        refine step_store_seg rfl rfl 107 _ _ rfl KA0 0 _ #[.int .i64 b0, .int .u64 (b1 : Nat), .int .i64 b2, .int .i64 b3, .int .u64 (b4 : Nat), .bool b5, .bool b6, .bool b7, .bool b8, .int .i64 b9] rfl rfl rfl 107 _ hr0 (show 0 + 10 ≤ 10 by decide) TB.info_en (by simp [Value.oneCell']) #[.int .i64 b0, .int .u64 (b1 : Nat), .int .i64 b2, .int .i64 b3, .int .u64 (b4 : Nat), .bool b5, .bool b6, .bool b7, .bool b8, .int .i64 b9] rfl ?_
        intro ws0 hrq htq
        replace k0 := TR.turn_cell htq (fun c => by have := World.block_lt_of_cell? _ _ k0z; simp only at *; omega) k0
        replace k1 := TR.turn_cell htq (fun c => by have := World.block_lt_of_cell? _ _ k1z; simp only at *; omega) k1
        replace hr0 := hrq
        replace HBz := HBz.trans (htq.below (lo := W2.heap.size) (fun i hi => by rw [hi]; exact hg0) HBz.size)
        clear hrq htq
        refine hK.out _ _ ⟨k0, k1⟩ (fun hHelds0 => ?_)
        clear hK
        try simp only [Act.put, List.setIfInBounds_toArray, List.set_cons_zero, List.set_cons_succ]
        refine TR.take_at (i := 13) (v := ?_) 11 rfl rfl (by kernel_rfl) (by kernel_rfl) (by kernel_rfl) (fun _ _ _ h => h) (Or.inl ⟨by rfl, ?_⟩) (by assumption) ?_
        rotate_left
        · (intro w' hSw; (try dsimp only at hSw); go_simp; all_goals with_reducible rfl)
        try simp only [Act.put, List.setIfInBounds_toArray, List.set_cons_zero, List.set_cons_succ]
        refine wpAnyH_done (by kernel_rfl) ?_ _
        refine NoPanic.normal ?_
        go_wp2_with fail
        go_meet
        exact ⟨_, rfl, rfl, HBz, hg0, hr0⟩
    · go_simp
      have hbm := below_new (Wd) (.cells #[.int .i64 0, .int .u64 0, .int .i64 0, .int .i64 0, .int .u64 0, .bool false, .bool false, .bool false, .bool false, .int .i64 0] 107)
      have hr0 := heap_alloc_new (Wd) (.cells #[.int .i64 0, .int .u64 0, .int .i64 0, .int .i64 0, .int .u64 0, .bool false, .bool false, .bool false, .bool false, .int .i64 0] 107)
      have hg0 : W2.heap.size ≤ (Wd).heap.size := HBz.size
      replace k0 := cell_later hbm k0
      replace k1 := cell_later hbm k1
      replace HBz := below_tr HBz hbm
      clear hbm
      refine hK.out _ _ ⟨k0, k1⟩ (fun hHelda0 => ?_)
      clear hK
      try simp only [Act.put, List.setIfInBounds_toArray, List.set_cons_zero, List.set_cons_succ]
      generalize hva0 : (Wd).alloc (.cells #[.int .i64 0, .int .u64 0, .int .i64 0, .int .i64 0, .int .u64 0, .bool false, .bool false, .bool false, .bool false, .int .i64 0] 107) = va0 at *
      generalize hka0 : (Wd).heap.size = KA0 at *
      refine wpAnyH_ready (rs := [7]) (by kernel_rfl) (by simp) ?_
      refine AllReadyH.cons rfl (fun K hK => ?_) AllReadyH.nil
      · go_simp
        refine (HC.out _ (below_tr HBW.out HBz)).mono ?_
        rintro e v1 ⟨rfl, hbm⟩
        go_wp2_with fail
        replace k0 := cell_later hbm k0
        replace k1 := cell_later hbm k1
        replace hr0 := block_later hbm hr0
        replace HBz := below_tr HBz hbm
        clear hbm
        refine hK.out _ _ ⟨k0, k1⟩ (fun hHeldc1 => ?_)
        clear hK
        try simp only [Act.put, List.setIfInBounds_toArray, List.set_cons_zero, List.set_cons_succ]
        refine TR.take_at (i := 8) (v := ?_) 29 rfl rfl (by kernel_rfl) (by kernel_rfl) (by kernel_rfl) (fun _ _ _ h => h) (Or.inl ⟨by rfl, ?_⟩) (by assumption) ?_
        rotate_left
        · (intro w' hSw; (try dsimp only at hSw); go_simp; all_goals with_reducible rfl)
        try simp only [Act.put, List.setIfInBounds_toArray, List.set_cons_zero, List.set_cons_succ]
        refine TR.take_at (i := 9) (v := ?_) 38 rfl rfl (by kernel_rfl) (by kernel_rfl) (by kernel_rfl) (fun _ _ _ h => h) (Or.inl ⟨by rfl, ?_⟩) (by assumption) ?_
        rotate_left
        · (intro w' hSw; (try dsimp only at hSw); go_simp; all_goals with_reducible rfl)
        try simp only [Act.put, List.setIfInBounds_toArray, List.set_cons_zero, List.set_cons_succ]
        refine TR.take_at (i := 10) (v := ?_) 39 rfl rfl (by kernel_rfl) (by kernel_rfl) (by kernel_rfl) (fun _ _ _ h => h) (Or.inl ⟨by rfl, ?_⟩) (by assumption) ?_
        rotate_left
        · (intro w' hSw; (try dsimp only at hSw); go_simp; all_goals with_reducible rfl)
        try simp only [Act.put, List.setIfInBounds_toArray, List.set_cons_zero, List.set_cons_succ]
        refine wpAnyH_ready (rs := [12]) (by kernel_rfl) (by simp) ?_
        refine AllReadyH.cons rfl (fun K hK => ?_) AllReadyH.nil
        refine step_store_seg rfl rfl 107 _ _ rfl KA0 0 _ #[.int .i64 b0, .int .u64 (b1 : Nat), .int .i64 b2, .int .i64 b3, .int .u64 (b4 : Nat), .bool b5, .bool b6, .bool b7, .bool b8, .int .i64 b9] rfl rfl rfl 107 _ hr0 (show 0 + 10 ≤ 10 by decide) TB.info_en (by simp [Value.oneCell']) #[.int .i64 b0, .int .u64 (b1 : Nat), .int .i64 b2, .int .i64 b3, .int .u64 (b4 : Nat), .bool b5, .bool b6, .bool b7, .bool b8, .int .i64 b9] rfl ?_
        intro ws0 hrq htq
        replace k0 := TR.turn_cell htq (fun c => by have := World.block_lt_of_cell? _ _ k0z; simp only at *; omega) k0
        replace k1 := TR.turn_cell htq (fun c => by have := World.block_lt_of_cell? _ _ k1z; simp only at *; omega) k1
        replace hr0 := hrq
        replace HBz := HBz.trans (htq.below (lo := W2.heap.size) (fun i hi => by rw [hi]; exact hg0) HBz.size)
        clear hrq htq
        refine hK.out _ _ ⟨k0, k1⟩ (fun hHelds0 => ?_)
        clear hK
        try simp only [Act.put, List.setIfInBounds_toArray, List.set_cons_zero, List.set_cons_succ]
        refine TR.take_at (i := 13) (v := ?_) 11 rfl rfl (by kernel_rfl) (by kernel_rfl) (by kernel_rfl) (fun _ _ _ h => h) (Or.inl ⟨by rfl, ?_⟩) (by assumption) ?_
        rotate_left
        · (intro w' hSw; (try dsimp only at hSw); go_simp; all_goals with_reducible rfl)
        try simp only [Act.put, List.setIfInBounds_toArray, List.set_cons_zero, List.set_cons_succ]
        refine wpAnyH_done (by kernel_rfl) ?_ _
        refine NoPanic.normal ?_
        go_wp2_with fail
        go_meet
        exact ⟨_, rfl, rfl, HBz, hg0, hr0⟩
  case rest =>
    obtain ⟨K, rfl, rfl, hBc, hge, hr⟩ := hcut
    clear k0 k1 k0z k1z HC
    replace g0 := block_later hBc g0
    replace g1 := block_later hBc g1
    replace g2 := block_later hBc g2
    replace g3 := block_later hBc g3
    replace hB := below_tr hB hBc
    have HB3 := Hid.mk (Nat.le_of_lt (block_lt g3))
    obtain ⟨h0, h1, h2⟩ := cells3 g0
    obtain ⟨q0, q1⟩ := TR.row2c g3
    obtain ⟨c0, c1, c2, c3, c4, c5, c6, c7, c8, c9⟩ := TB.cells10 hr
    clear hBc hge
    obtain ⟨hO1, hO2⟩ := HO.out
    by_cases hz : Mi = 0
    · have hz' : M = 0 := by omega
      rw [if_pos hz'] at hO1 hO2
      subst hz
      clear HO
      subst hO1 hO2
      clear c0 c1 c2 c3 c4 c5 c6 c7 c8 c9
      go_wp2_with fail
      refine (HWK.out _ hB).mono ?_
      rintro e w5 ⟨rfl, hM5, hT5, -⟩
      have HM5 := Hid.mk hM5
      have HT5 := Hid.mk hT5
      replace g1 := (hT5.block _ (block_lt g1) (H0.out.nX (by omega))).trans g1
      replace g2 := (hT5.block _ (block_lt g2) (H0.out.nX (by omega))).trans g2
      clear HWK hM5 hT5 h0 h1 h2 q0 q1 g0 g3 hr
      generalize hlf : (lfR (wkO S s R I va ⟨hf, hl, hk⟩).2) = lf at *
      generalize hft : (ftR (wkO S s R I va ⟨hf, hl, hk⟩).2) = ft at *
      obtain ⟨l, k, o, u, r, y, q, t⟩ := lf
      obtain ⟨f1, f2⟩ := ft
      have HLF := Hid.mk (And.intro hlf hft)
      clear hlf hft
      simp only [Lf.cs] at *
      go_wp2_with
        first
        | (refine wpList_store_segTo rfl 62 _ _ rfl rfl (w.heap.size + 1) 0 _ #[.int .i64 l, .int .i64 k, .int .u64 (o : Nat), .bool u, .bool r, .bool y, .bool q, .int .i64 t] rfl rfl rfl 62 _ g1 (show 0 + 8 ≤ 8 by decide) info_leaf (by simp [Value.oneCell']) #[.int .i64 l, .int .i64 k, .int .u64 (o : Nat), .bool u, .bool r, .bool y, .bool q, .int .i64 t] rfl ?_
           intro wa hra hta
           replace g2 := block_turn hta g2 (by omega))
        | (refine wpList_store_segTo rfl 48 _ _ rfl rfl (w.heap.size + 1 + 1) 0 _ #[.int .i64 f1, .int .i64 f2] rfl rfl rfl 48 _ g2 (show 0 + 2 ≤ 2 by decide) info_fault (by simp [Value.oneCell']) #[.int .i64 f1, .int .i64 f2] rfl ?_
           intro wb hrb htb
           replace hra := block_turn htb hra (by omega))
        | fail
      refine bodyPost_ret (results_row_row rfl _ _ (w.heap.size + 1) (w.heap.size + 1 + 1) _ _ _ _ _ _ _ _ rfl hra Tryz.underlying62 rfl info_leaf rfl hrb Tryz.underlying48 rfl info_fault) rfl ⟨(by rw [HLF.out.1, HLF.out.2]; rfl), ?_⟩
      have hnZ : ∀ i, w.heap.size ≤ i → i < wc.heap.size → ¬ Gr X wc w5 i := fun i h1 h2 c => by
        rcases c with c | c
        · exact H0.out.nX h1 c
        · omega
      have hle := hB.size
      exact H0.out.fin2 HM5.out (Below.refl _ _) hta htb (fun i hi => by
        rcases hi with hi | hi
        · exact Or.inl hi
        · exact Or.inr (by omega)) ⟨by omega, hnZ _ (by omega) (by have := HB3.out; omega)⟩ ⟨by omega, hnZ _ (by omega) (by have := HB3.out; omega)⟩ ((turn_of_below X hB).trans HT5.out (fun _ _ h => h))
    · have hz' : M ≠ 0 := by omega
      rw [if_neg hz'] at hO1 hO2
      by_cases ho : Mi = 1
      · have ho' : M = 1 := by omega
        rw [if_pos ho'] at hO1
        subst ho
        clear HO
        subst hO1 hO2
        clear HWK h0 h1 h2 q0 q1 g0 g3
        go_wp2_with
          first
          | (refine wpList_store_segTo rfl 62 _ _ rfl rfl (w.heap.size + 1) 0 _ #[.int .i64 b2, .int .i64 b3, .int .u64 (b4 : Nat), .bool b5, .bool b6, .bool b7, .bool b8, .int .i64 b9] rfl rfl rfl 62 _ g1 (show 0 + 8 ≤ 8 by decide) info_leaf (by simp [Value.oneCell']) #[.int .i64 b2, .int .i64 b3, .int .u64 (b4 : Nat), .bool b5, .bool b6, .bool b7, .bool b8, .int .i64 b9] rfl ?_
             intro wa hra hta
             replace g2 := block_turn hta g2 (by omega))
          | (refine wpList_store_segTo rfl 48 _ _ rfl rfl (w.heap.size + 1 + 1) 0 _ #[.int .i64 0, .int .i64 0] rfl rfl rfl 48 _ g2 (show 0 + 2 ≤ 2 by decide) info_fault (by simp [Value.oneCell']) #[.int .i64 0, .int .i64 0] rfl ?_
             intro wb hrb htb
             replace hra := block_turn htb hra (by omega))
          | fail
        refine bodyPost_ret (results_row_row rfl _ _ (w.heap.size + 1) (w.heap.size + 1 + 1) _ _ _ _ _ _ _ _ rfl hra Tryz.underlying62 rfl info_leaf rfl hrb Tryz.underlying48 rfl info_fault) rfl ⟨rfl, ?_⟩
        exact H0.out.fin2 H0.out hB hta htb (fun i hi => Or.inl hi) ⟨by omega, H0.out.nX (by omega)⟩ ⟨by omega, H0.out.nX (by omega)⟩ (Turn.refl _ _)
      · have ho' : M ≠ 1 := by omega
        rw [if_neg ho'] at hO1
        clear HO
        subst hO1 hO2
        clear HWK h0 h1 h2 q0 q1 g0 g3 c0 c1 c2 c3 c4 c5 c6 c7 c8 c9 hr
        go_wp2_with
          first
          | (refine wpList_store_segTo rfl 62 _ _ rfl rfl (w.heap.size + 1) 0 _ #[.int .i64 0, .int .i64 0, .int .u64 0, .bool false, .bool false, .bool false, .bool false, .int .i64 0] rfl rfl rfl 62 _ g1 (show 0 + 8 ≤ 8 by decide) info_leaf (by simp [Value.oneCell']) #[.int .i64 0, .int .i64 0, .int .u64 0, .bool false, .bool false, .bool false, .bool false, .int .i64 0] rfl ?_
             intro wa hra hta
             replace g2 := block_turn hta g2 (by omega))
          | (refine wpList_store_segTo rfl 48 _ _ rfl rfl (w.heap.size + 1 + 1) 0 _ #[.int .i64 6, .int .i64 0] rfl rfl rfl 48 _ g2 (show 0 + 2 ≤ 2 by decide) info_fault (by simp [Value.oneCell']) #[.int .i64 6, .int .i64 0] rfl ?_
             intro wb hrb htb
             replace hra := block_turn htb hra (by omega))
          | fail
        refine bodyPost_ret (results_row_row rfl _ _ (w.heap.size + 1) (w.heap.size + 1 + 1) _ _ _ _ _ _ _ _ rfl hra Tryz.underlying62 rfl info_leaf rfl hrb Tryz.underlying48 rfl info_fault) rfl ⟨rfl, ?_⟩
        exact H0.out.fin2 H0.out hB hta htb (fun i hi => Or.inl hi) ⟨by omega, H0.out.nX (by omega)⟩ ⟨by omega, H0.out.nX (by omega)⟩ (Turn.refl _ _)

theorem leaf_c (h : Mch w0 w X x a n S most s) (va : Nat) (hva : va < 18446744073709551616) (hn : Hn) :
    Calls Tryz.prog 46 #[.pointer (some ⟨x, 0, none⟩), .int .u64 va, hn.v] w fun r w' => r = .returned (tupV (leafO S s va hn)) ∧ Mch w0 w' (Gr X w w') x a n S most (leafS S most s va hn) ∧ Turn X w w' := by
  unfold leafO leafS
  cases hal : alignedB va 3
  · exact leaf_un h va hva hn hal
  · cases hg : s.rg with
    | none => exact leaf_off h va hva hn hal hg
    | some q =>
      obtain ⟨R, I⟩ := q
      exact leaf_on h va hva hn hal R I hg
end
end Go.Proofs.YtndjhedoandinaaGreatDoor.MM

namespace Go.Proofs.YtndjhedoandinaaGreatDoor.MM
open Go.RowKit Go.Maps

theorem info_res : (Tryz.prog.info? 50).map (·.size) = some 3 := by kernel_rfl

/-- The fault of an access, its word, and what it leaves. -/
def letF (q : Lf) (kind : Int) : Int × Int := (letK q.u q.r q.x q.s kind, letL q.u q.r q.x q.s q.l kind)
def accF (Q : Lf × Int × Int) (kind : Int) : Int × Int := if Q.2.1 = 0 then letF Q.1 kind else Q.2
def accT (q : Lf) (va : Nat) : Nat := q.o + offV va q.l
def accW (f : Nat → Nat) (Q : Lf × Int × Int) (kind : Int) (va : Nat) : Nat := if (accF Q kind).1 = 0 ∧ kind ≠ 2 then f (accT Q.1 va) else 0
def accM (S : Nat) (f : Nat → Nat) (Q : Lf × Int × Int) (kind : Int) (va v : Nat) : Nat → Nat := if (accF Q kind).1 = 0 ∧ kind = 2 then wrF f S (accT Q.1 va) v else f
def accS (S : Nat) (most : Int) (s : St) (kind : Int) (va v : Nat) (h : Hn) : St := { leafS S most s va h with f := accM S s.f (leafO S s va h) kind va v }
abbrev resV (F : Int × Int) (v : Nat) : Value := .agg #[.int .i64 F.1, .int .i64 F.2, .int .u64 (v : Nat)]

theorem letL_zero {u wr x s : Bool} {l ac : Int} (h : letK u wr x s ac = 0) : letL u wr x s l ac = 0 := by unfold letL; rw [if_pos h]
theorem offV_lt (va : Nat) (l : Int) : offV va l < 281474976710656 := by
  unfold offV
  split
  · rename_i hl
    have e := lowK_val hl
    have h1 : va % 2 ^ lowK l < 2 ^ lowK l := Nat.mod_lt _ (Nat.two_pow_pos _)
    have h2 : 2 ^ lowK l ≤ 2 ^ 48 := Nat.pow_le_pow_right (by decide) (by
      unfold isLv at hl
      rw [decide_eq_true_eq] at hl
      omega)
    have h3 : (2 : Nat) ^ 48 = 281474976710656 := by decide
    omega
  · decide
theorem rdO_48 (x : Nat) : rdO x < 281474976710656 := by
  unfold rdO
  split
  · decide
  · rw [outV_mod]
    omega
theorem right_out {e : TB.En} (h : TB.rightE e = true) (he : e.ok) : e.o < 281474976710656 := by
  unfold TB.rightE at h
  rw [Bool.and_eq_true, Bool.and_eq_true] at h
  have h2 := h.2.1
  unfold TB.leafE at h2
  rw [Bool.and_eq_true] at h2
  have h3 := h2.2
  have hk := h2.1
  unfold rightP at h3
  split at h3
  · cases h3
  · rename_i hl
    have key : leafB e.lv e.o e.a = true := by
      split at h3
      · rename_i hc; rw [hc] at hk; exact absurd hk (by decide)
      · split at h3
        · rename_i hc; rw [hc] at hk; exact absurd hk (by decide)
        · split at h3
          · exact (Bool.and_eq_true _ _ ▸ h3).2
          · split at h3
            · exact (Bool.and_eq_true _ _ ▸ h3).2
            · cases h3
    unfold leafB at key
    rw [Bool.and_eq_true] at key
    have hl2 : isLv e.lv = true := by simpa using hl
    have e1 := lowK_eq hl2
    have hk2 := key.1
    rw [show lowL e.lv = ((lowK e.lv : Nat) : Int) from e1.1, isOut_mod e.o (lowK e.lv) he.2 (by omega) (by omega), decide_eq_true_eq] at hk2
    exact hk2.1
theorem leafO_bd {S : Nat} {s : St} {most : Int} (h : Wf most s) (va : Nat) (hn : Hn) : (leafO S s va hn).1.o < 281474976710656 := by
  unfold leafO
  split
  · show (0 : Nat) < _; decide
  · split
    · show (0 : Nat) < _; decide
    · unfold lfO
      split
      · show (lfR _).o < _
        unfold lfR
        split
        · exact rdO_48 _
        · show (0 : Nat) < _; decide
      · split
        · show (fdE s _ va).o < _
          unfold fdE TB.fndE
          cases hq : s.E.filter (fun e => TB.mB e _ va) with
          | nil => show (0 : Nat) < _; decide
          | cons y ys =>
            have hm : y ∈ s.E := (List.mem_filter.1 (hq ▸ List.mem_cons_self)).1
            exact right_out (h.er y hm) (h.eo y hm)
        · show (0 : Nat) < _; decide
theorem accT_lt {S : Nat} {s : St} {most : Int} (h : Wf most s) (va : Nat) (hn : Hn) : accT (leafO S s va hn).1 va < 18446744073709551616 := by
  have h1 := leafO_bd (S := S) h va hn
  have h2 := offV_lt va (leafO S s va hn).1.l
  unfold accT
  omega
theorem leafO_ft {S : Nat} {s : St} (va : Nat) (hn : Hn) (h : (leafO S s va hn).2.1 = 0) : (leafO S s va hn).2.2 = 0 := by
  unfold leafO at h ⊢
  split
  · rename_i hc; rw [if_pos hc] at h
  · rename_i hc
    rw [if_neg hc] at h
    split
    · rename_i hg; rw [hg] at h
    · rename_i R I hg
      rw [hg] at h
      show (lfO S s R I va hn).2.2 = 0
      change (lfO S s R I va hn).2.1 = 0 at h
      unfold lfO at h ⊢
      split
      · rename_i hz
        rw [if_pos hz] at h
        show (ftR _).2 = 0
        change (ftR _).1 = 0 at h
        unfold ftR at h ⊢
        split
        · rfl
        · rename_i hf; rw [if_neg hf] at h; exact absurd h hf
      · rename_i hz
        rw [if_neg hz] at h
        split
        · rfl
        · rfl

section
variable {w0 w : World} {X XM XB XT : Nat → Prop} {x a tb tr n S : Nat} {most : Int} {s : St} {pv : Value}

theorem MchV.write (h : MchV w0 w X XM XB XT x a tb tr n S most s pv) (hn : n < 100000000) (y v : Nat) (hy : y < 18446744073709551616) (hv : v < 18446744073709551616) :
    Calls Tryz.prog 29 #[.pointer (some ⟨a, 0, none⟩), .int .u64 y, .int .u64 v] w fun r w' => r = .returned (.int .i64 (errA S y)) ∧ Mch w0 w' (Gr X w w') x a (n + 1) S most { s with f := wrF s.f S y v } ∧ Turn X w w' ∧ w'.heap[x]? = w.heap[x]? := by
  refine (write_c h.mem hn y v hy hv).mono ?_
  rintro r w' ⟨rfl, hM, hT⟩
  have hq := h.wrote hT hM
  exact ⟨rfl, hq.1, hq.2, hT.block x (h.lt x h.cx) h.dm⟩

set_option maxHeartbeats 2000000 in
set_option maxRecDepth 100000 in
theorem acc_f1 (h : Mch w0 w X x a n S most s)  (kind : Int) (va v : Nat) (hva : va < 18446744073709551616) (hn : Hn) (h1 : (leafO S s va hn).2.1 ≠ 0) :
    Calls Tryz.prog 12 #[.pointer (some ⟨x, 0, none⟩), .int .i64 kind, .int .u64 va, .int .u64 v, hn.v] w fun r w' => r = .returned (resV (leafO S s va hn).2 0) ∧ Mch w0 w' (Gr X w w') x a (n + 1) S most (leafS S most s va hn) ∧ Turn X w w' := by
  have H0 := Hid.mk h
  have HLC := Hid.mk (fun W (hb : Below w.heap.size w W) => leaf_c (H0.out.later hb) va hva hn)
  have HBD := Hid.mk (accT_lt (S := S) h.wfm va hn)
  clear h
  generalize leafO S s va hn = Q at *
  generalize leafS S most s va hn = s1 at *
  obtain ⟨⟨l, k, o, u, r, y, q, t⟩, f1, f2⟩ := Q
  obtain ⟨hf, hl, hk⟩ := hn
  simp only [Lf.cs, Hn.v, tupV, accT] at *
  have g0 := heap2_0 w (.cells #[.bool hf, .bool hl, .bool hk] 38) (.cells #[.int .i64 0, .int .i64 0, .int .u64 0] 50)
  have g1 := heap_alloc2_new w (.cells #[.bool hf, .bool hl, .bool hk] 38) (.cells #[.int .i64 0, .int .i64 0, .int .u64 0] 50)
  have hB := below2 w (.cells #[.bool hf, .bool hl, .bool hk] 38) (.cells #[.int .i64 0, .int .i64 0, .int .u64 0] 50)
  have hsz : ((w.alloc (.cells #[.bool hf, .bool hl, .bool hk] 38)).alloc (.cells #[.int .i64 0, .int .i64 0, .int .u64 0] 50)).heap.size = w.heap.size + 1 + 1 := by simp
  go_enter Tryz.func12, Tryz.ntmps12
  go_upto_region 1 with fail
  generalize (w.alloc (.cells #[.bool hf, .bool hl, .bool hk] 38)).alloc (.cells #[.int .i64 0, .int .i64 0, .int .u64 0] 50) = W at *
  obtain ⟨c0, c1, c2⟩ := cells3 g0
  go_wp2_with fail
  refine (HLC.out _ hB).mono ?_
  rintro e w2 ⟨rfl, hM2, hT2⟩
  have HM2 := Hid.mk hM2
  have HT2 := Hid.mk hT2
  have HBW := Hid.mk hB
  replace g1 := (hT2.block _ (block_lt g1) (H0.out.nX (by omega))).trans g1
  have hs2 : w.heap.size + 1 + 1 ≤ w2.heap.size := by have := hT2.size; omega
  have HSZ : Hid (w.heap.size + 1 < W.heap.size) := Hid.mk (by omega)
  clear c0 c1 c2 g0 HLC hM2 hT2 hB hsz
  have g4 := heap2_0 w2 (.cells #[.int .i64 l, .int .i64 k, .int .u64 (o : Nat), .bool u, .bool r, .bool y, .bool q, .int .i64 t] 62) (.cells #[.int .i64 f1, .int .i64 f2] 48)
  have g5 := heap_alloc2_new w2 (.cells #[.int .i64 l, .int .i64 k, .int .u64 (o : Nat), .bool u, .bool r, .bool y, .bool q, .int .i64 t] 62) (.cells #[.int .i64 f1, .int .i64 f2] 48)
  have hb3 := below2 w2 (.cells #[.int .i64 l, .int .i64 k, .int .u64 (o : Nat), .bool u, .bool r, .bool y, .bool q, .int .i64 t] 62) (.cells #[.int .i64 f1, .int .i64 f2] 48)
  go_upto_region 2 with fail
  generalize (w2.alloc (.cells #[.int .i64 l, .int .i64 k, .int .u64 (o : Nat), .bool u, .bool r, .bool y, .bool q, .int .i64 t] 62)).alloc (.cells #[.int .i64 f1, .int .i64 f2] 48) = w3 at *
  replace g1 := block_later hb3 g1
  have HB3 := Hid.mk hb3
  have HM3 := Hid.mk (HM2.out.later hb3)
  clear hb3
  generalize hKL : w2.heap.size = KL at g4 g5 ⊢
  obtain ⟨k8, k9⟩ := TR.row2c g5
  go_wp2_with
    first
    | (refine wpList_store_segTo rfl 50 _ _ rfl rfl (w.heap.size + 1) 0 _ #[.int .i64 f1, .int .i64 f2, .int .u64 0] rfl rfl rfl 50 _ g1 (show 0 + 3 ≤ 3 by decide) info_res (by simp [Value.oneCell']) #[.int .i64 f1, .int .i64 f2, .int .u64 0] rfl ?_
       intro wb hrb htb)
    | fail
  refine bodyPost_ret (results_cell_row rfl _ _ (w.heap.size + 1) 50 _ _ _ rfl hrb Tryz.underlying50 rfl info_res) rfl ⟨rfl, ?_⟩
  have hgr : w.heap.size + 1 < W.heap.size := HSZ.out
  exact H0.out.fin (HM2.out.mono (Nat.le_succ n)) HB3.out htb (fun i hi => by
    rcases hi with hi | hi
    · exact Or.inl hi
    · exact Or.inr (by have := HBW.out.size; omega)) (fun i hi => by
    rw [hi]
    exact ⟨by omega, fun c => by
      rcases c with c | c
      · exact H0.out.nX (by omega) c
      · omega⟩) ((turn_of_below X HBW.out).trans HT2.out (fun _ _ h => h))

set_option maxHeartbeats 2000000 in
set_option maxRecDepth 100000 in
theorem acc_f2 (h : Mch w0 w X x a n S most s)  (kind : Int) (va v : Nat) (hva : va < 18446744073709551616) (hn : Hn) (h1 : (leafO S s va hn).2.1 = 0) (h2 : (leafO S s va hn).2.2 = 0) (h3 : letK (leafO S s va hn).1.u (leafO S s va hn).1.r (leafO S s va hn).1.x (leafO S s va hn).1.s kind ≠ 0) :
    Calls Tryz.prog 12 #[.pointer (some ⟨x, 0, none⟩), .int .i64 kind, .int .u64 va, .int .u64 v, hn.v] w fun r w' => r = .returned (resV (letF (leafO S s va hn).1 kind) 0) ∧ Mch w0 w' (Gr X w w') x a (n + 1) S most (leafS S most s va hn) ∧ Turn X w w' := by
  have H0 := Hid.mk h
  have HLC := Hid.mk (fun W (hb : Below w.heap.size w W) => leaf_c (H0.out.later hb) va hva hn)
  have HBD := Hid.mk (accT_lt (S := S) h.wfm va hn)
  have _HVB := Hid.mk (hva)
  clear h
  generalize leafO S s va hn = Q at *
  generalize leafS S most s va hn = s1 at *
  obtain ⟨⟨l, k, o, u, r, y, q, t⟩, f1, f2⟩ := Q
  obtain ⟨hf, hl, hk⟩ := hn
  simp only [Lf.cs, Hn.v, tupV, accT] at *
  obtain rfl : f1 = 0 := h1
  obtain rfl : f2 = 0 := h2
  have HLK := Hid.mk (fun W => let_any k o u r y q t l kind W)
  simp only [letF] at *
  generalize letK u r y q kind = lk at *
  generalize letL u r y q l kind = ll at *
  have g0 := heap2_0 w (.cells #[.bool hf, .bool hl, .bool hk] 38) (.cells #[.int .i64 0, .int .i64 0, .int .u64 0] 50)
  have g1 := heap_alloc2_new w (.cells #[.bool hf, .bool hl, .bool hk] 38) (.cells #[.int .i64 0, .int .i64 0, .int .u64 0] 50)
  have hB := below2 w (.cells #[.bool hf, .bool hl, .bool hk] 38) (.cells #[.int .i64 0, .int .i64 0, .int .u64 0] 50)
  have hsz : ((w.alloc (.cells #[.bool hf, .bool hl, .bool hk] 38)).alloc (.cells #[.int .i64 0, .int .i64 0, .int .u64 0] 50)).heap.size = w.heap.size + 1 + 1 := by simp
  go_enter Tryz.func12, Tryz.ntmps12
  go_upto_region 1 with fail
  generalize (w.alloc (.cells #[.bool hf, .bool hl, .bool hk] 38)).alloc (.cells #[.int .i64 0, .int .i64 0, .int .u64 0] 50) = W at *
  obtain ⟨c0, c1, c2⟩ := cells3 g0
  go_wp2_with fail
  refine (HLC.out _ hB).mono ?_
  rintro e w2 ⟨rfl, hM2, hT2⟩
  have HM2 := Hid.mk hM2
  have HT2 := Hid.mk hT2
  have HBW := Hid.mk hB
  replace g1 := (hT2.block _ (block_lt g1) (H0.out.nX (by omega))).trans g1
  have hs2 : w.heap.size + 1 + 1 ≤ w2.heap.size := by have := hT2.size; omega
  have HSZ : Hid (w.heap.size + 1 < W.heap.size) := Hid.mk (by omega)
  clear c0 c1 c2 g0 HLC hM2 hT2 hB hsz
  have g4 := heap2_0 w2 (.cells #[.int .i64 l, .int .i64 k, .int .u64 (o : Nat), .bool u, .bool r, .bool y, .bool q, .int .i64 t] 62) (.cells #[.int .i64 0, .int .i64 0] 48)
  have g5 := heap_alloc2_new w2 (.cells #[.int .i64 l, .int .i64 k, .int .u64 (o : Nat), .bool u, .bool r, .bool y, .bool q, .int .i64 t] 62) (.cells #[.int .i64 0, .int .i64 0] 48)
  have hb3 := below2 w2 (.cells #[.int .i64 l, .int .i64 k, .int .u64 (o : Nat), .bool u, .bool r, .bool y, .bool q, .int .i64 t] 62) (.cells #[.int .i64 0, .int .i64 0] 48)
  go_upto_region 2 with fail
  generalize (w2.alloc (.cells #[.int .i64 l, .int .i64 k, .int .u64 (o : Nat), .bool u, .bool r, .bool y, .bool q, .int .i64 t] 62)).alloc (.cells #[.int .i64 0, .int .i64 0] 48) = w3 at *
  replace g1 := block_later hb3 g1
  have HB3 := Hid.mk hb3
  have HM3 := Hid.mk (HM2.out.later hb3)
  clear hb3
  generalize hKL : w2.heap.size = KL at g4 g5 ⊢
  obtain ⟨k8, k9⟩ := TR.row2c g5
  obtain ⟨⟨d0, d1, d2, d3, d4, d5, d6, d7⟩, -⟩ := cells8 g4
  go_wp2_with fail
  refine (HLK.out _).mono ?_
  rintro e w4 ⟨rfl, hb4⟩
  replace g1 := block_later hb4 g1
  replace g4 := block_later hb4 g4
  replace g5 := block_later hb4 g5
  have HM4 := Hid.mk (HM3.out.later hb4)
  have HB4 := Hid.mk (below_tr HB3.out hb4)
  clear HLK k8 k9 d0 d1 d2 d3 d4 d5 d6 d7 hb4 HM3
  go_upto_region 4 with
    first
    | (refine wpList_store_segTo rfl 48 _ _ rfl rfl (KL + 1) 0 _ #[.int .i64 lk, .int .i64 ll] rfl rfl rfl 48 _ g5 (show 0 + 2 ≤ 2 by decide) info_fault (by simp [Value.oneCell']) #[.int .i64 lk, .int .i64 ll] rfl ?_
       intro wa hra hta
       replace g1 := block_turn hta g1 (by omega)
       replace g4 := block_turn hta g4 (by omega))
    | fail
  obtain ⟨k8, k9⟩ := TR.row2c hra
  go_wp2_with
    first
    | (refine wpList_store_segTo rfl 50 _ _ rfl rfl (w.heap.size + 1) 0 _ #[.int .i64 lk, .int .i64 ll, .int .u64 0] rfl rfl rfl 50 _ g1 (show 0 + 3 ≤ 3 by decide) info_res (by simp [Value.oneCell']) #[.int .i64 lk, .int .i64 ll, .int .u64 0] rfl ?_
       intro wb hrb htb)
    | fail
  refine bodyPost_ret (results_cell_row rfl _ _ (w.heap.size + 1) 50 _ _ _ rfl hrb Tryz.underlying50 rfl info_res) rfl ⟨rfl, ?_⟩
  have hgr : w.heap.size + 1 < W.heap.size := HSZ.out
  exact H0.out.fin2 (HM4.out.mono (Nat.le_succ n)) (Below.refl _ _) hta htb (fun i hi => by
    rcases hi with hi | hi
    · exact Or.inl hi
    · exact Or.inr (by have := HBW.out.size; omega)) ⟨by omega, fun c => by
      rcases c with c | c
      · exact H0.out.nX (by omega) c
      · omega⟩ ⟨by omega, fun c => by
      rcases c with c | c
      · exact H0.out.nX (by omega) c
      · omega⟩ (((turn_of_below X HBW.out).trans HT2.out (fun _ _ h => h)).trans (turn_of_below X HB4.out) (fun _ _ h => h))

set_option maxHeartbeats 2000000 in
set_option maxRecDepth 100000 in
theorem acc_st (h : Mch w0 w X x a n S most s) (hn0 : n < 100000000) (kind : Int) (va v : Nat) (hva : va < 18446744073709551616) (hv : v < 18446744073709551616) (hn : Hn) (h1 : (leafO S s va hn).2.1 = 0) (h2 : (leafO S s va hn).2.2 = 0) (h3 : letK (leafO S s va hn).1.u (leafO S s va hn).1.r (leafO S s va hn).1.x (leafO S s va hn).1.s kind = 0) (hk2 : kind = 2) :
    Calls Tryz.prog 12 #[.pointer (some ⟨x, 0, none⟩), .int .i64 kind, .int .u64 va, .int .u64 v, hn.v] w fun r w' => r = .returned (resV (0, 0) 0) ∧ Mch w0 w' (Gr X w w') x a (n + 1) S most { leafS S most s va hn with f := wrF (leafS S most s va hn).f S (accT (leafO S s va hn).1 va) v } ∧ Turn X w w' := by
  have H0 := Hid.mk h
  have HLC := Hid.mk (fun W (hb : Below w.heap.size w W) => leaf_c (H0.out.later hb) va hva hn)
  have HBD := Hid.mk (accT_lt (S := S) h.wfm va hn)
  have HVB := Hid.mk (And.intro hva hv)
  clear h
  generalize leafO S s va hn = Q at *
  generalize leafS S most s va hn = s1 at *
  obtain ⟨⟨l, k, o, u, r, y, q, t⟩, f1, f2⟩ := Q
  obtain ⟨hf, hl, hk⟩ := hn
  simp only [Lf.cs, Hn.v, tupV, accT] at *
  obtain rfl : f1 = 0 := h1
  obtain rfl : f2 = 0 := h2
  have h4 : letL u r y q l kind = 0 := letL_zero h3
  have HLK := Hid.mk (fun W => let_any k o u r y q t l kind W)
  generalize letK u r y q kind = lk at *
  generalize letL u r y q l kind = ll at *
  subst h3 h4
  have g0 := heap2_0 w (.cells #[.bool hf, .bool hl, .bool hk] 38) (.cells #[.int .i64 0, .int .i64 0, .int .u64 0] 50)
  have g1 := heap_alloc2_new w (.cells #[.bool hf, .bool hl, .bool hk] 38) (.cells #[.int .i64 0, .int .i64 0, .int .u64 0] 50)
  have hB := below2 w (.cells #[.bool hf, .bool hl, .bool hk] 38) (.cells #[.int .i64 0, .int .i64 0, .int .u64 0] 50)
  have hsz : ((w.alloc (.cells #[.bool hf, .bool hl, .bool hk] 38)).alloc (.cells #[.int .i64 0, .int .i64 0, .int .u64 0] 50)).heap.size = w.heap.size + 1 + 1 := by simp
  subst hk2
  have HOU := Hid.mk (fun W => out_any l k o u r y q t va HVB.out.1 HBD.out W)
  generalize hAT : o + offV va l = AT at *
  clear hAT
  go_enter Tryz.func12, Tryz.ntmps12
  go_upto_region 1 with fail
  generalize (w.alloc (.cells #[.bool hf, .bool hl, .bool hk] 38)).alloc (.cells #[.int .i64 0, .int .i64 0, .int .u64 0] 50) = W at *
  obtain ⟨c0, c1, c2⟩ := cells3 g0
  go_wp2_with fail
  refine (HLC.out _ hB).mono ?_
  rintro e w2 ⟨rfl, hM2, hT2⟩
  have HM2 := Hid.mk hM2
  have HT2 := Hid.mk hT2
  have HBW := Hid.mk hB
  replace g1 := (hT2.block _ (block_lt g1) (H0.out.nX (by omega))).trans g1
  have hs2 : w.heap.size + 1 + 1 ≤ w2.heap.size := by have := hT2.size; omega
  have HSZ : Hid (w.heap.size + 1 < W.heap.size) := Hid.mk (by omega)
  clear c0 c1 c2 g0 HLC hM2 hT2 hB hsz
  have g4 := heap2_0 w2 (.cells #[.int .i64 l, .int .i64 k, .int .u64 (o : Nat), .bool u, .bool r, .bool y, .bool q, .int .i64 t] 62) (.cells #[.int .i64 0, .int .i64 0] 48)
  have g5 := heap_alloc2_new w2 (.cells #[.int .i64 l, .int .i64 k, .int .u64 (o : Nat), .bool u, .bool r, .bool y, .bool q, .int .i64 t] 62) (.cells #[.int .i64 0, .int .i64 0] 48)
  have hb3 := below2 w2 (.cells #[.int .i64 l, .int .i64 k, .int .u64 (o : Nat), .bool u, .bool r, .bool y, .bool q, .int .i64 t] 62) (.cells #[.int .i64 0, .int .i64 0] 48)
  go_upto_region 2 with fail
  generalize (w2.alloc (.cells #[.int .i64 l, .int .i64 k, .int .u64 (o : Nat), .bool u, .bool r, .bool y, .bool q, .int .i64 t] 62)).alloc (.cells #[.int .i64 0, .int .i64 0] 48) = w3 at *
  replace g1 := block_later hb3 g1
  have HB3 := Hid.mk hb3
  have HM3 := Hid.mk (HM2.out.later hb3)
  clear hb3
  generalize hKL : w2.heap.size = KL at g4 g5 ⊢
  obtain ⟨k8, k9⟩ := TR.row2c g5
  obtain ⟨⟨d0, d1, d2, d3, d4, d5, d6, d7⟩, -⟩ := cells8 g4
  go_wp2_with fail
  refine (HLK.out _).mono ?_
  rintro e w4 ⟨rfl, hb4⟩
  replace g1 := block_later hb4 g1
  replace g4 := block_later hb4 g4
  replace g5 := block_later hb4 g5
  have HM4 := Hid.mk (HM3.out.later hb4)
  have HB4 := Hid.mk (below_tr HB3.out hb4)
  clear HLK k8 k9 d0 d1 d2 d3 d4 d5 d6 d7 hb4 HM3
  go_upto_region 4 with
    first
    | (refine wpList_store_segTo rfl 48 _ _ rfl rfl (KL + 1) 0 _ #[.int .i64 0, .int .i64 0] rfl rfl rfl 48 _ g5 (show 0 + 2 ≤ 2 by decide) info_fault (by simp [Value.oneCell']) #[.int .i64 0, .int .i64 0] rfl ?_
       intro wa hra hta
       replace g1 := block_turn hta g1 (by omega)
       replace g4 := block_turn hta g4 (by omega))
    | fail
  obtain ⟨k8, k9⟩ := TR.row2c hra
  have HMa : Hid (Mch w0 wa (Gr X W w2) x a n S most s1) := Hid.mk (HM4.out.turn hta (fun i hi c => by
    rcases hi with hi | hi
    · exact H0.out.nX (by omega) hi
    · omega) (fun i hi => by have := H0.out.bl.size; have := HBW.out.size; omega))
  obtain ⟨XM, XB, XT, tb, tr, pv, hma⟩ := HMa.out
  have k0 := (row5 hma.row).1
  have hxK : x < w2.heap.size := HM2.out.ltX x (by obtain ⟨_, _, _, _, _, _, h⟩ := HM2.out; exact h.cx)
  clear hma
  go_upto_region 7 with fail
  clear k8 k9
  obtain ⟨⟨k1, k2, k3, k4, k5, k6, k7, k8⟩, -⟩ := cells8 g4
  refine wp_region_noPanic ?_
  refine wp_region_held_drew (S := (fun w' => w'.cell? ⟨x, 0, none⟩ = some (.pointer (some ⟨a, 0, none⟩)) ∧ w'.cell? ⟨KL, 0, none⟩ = some (.int .i64 l) ∧ w'.cell? ⟨KL, 1, none⟩ = some (.int .i64 k) ∧ w'.cell? ⟨KL, 2, none⟩ = some (.int .u64 (o : Nat)) ∧ w'.cell? ⟨KL, 3, none⟩ = some (.bool u) ∧ w'.cell? ⟨KL, 4, none⟩ = some (.bool r) ∧ w'.cell? ⟨KL, 5, none⟩ = some (.bool y) ∧ w'.cell? ⟨KL, 6, none⟩ = some (.bool q) ∧ w'.cell? ⟨KL, 7, none⟩ = some (.int .i64 t))) (by kernel_rfl) ?_ (fun hHeld => ?_)
  · exact ⟨cell_later (Below.refl _ _).drew k0, cell_later (Below.refl _ _).drew k1, cell_later (Below.refl _ _).drew k2, cell_later (Below.refl _ _).drew k3, cell_later (Below.refl _ _).drew k4, cell_later (Below.refl _ _).drew k5, cell_later (Below.refl _ _).drew k6, cell_later (Below.refl _ _).drew k7, cell_later (Below.refl _ _).drew k8⟩
  replace k0 := cell_later (Below.refl _ wa).drew k0
  replace k1 := cell_later (Below.refl _ wa).drew k1
  replace k2 := cell_later (Below.refl _ wa).drew k2
  replace k3 := cell_later (Below.refl _ wa).drew k3
  replace k4 := cell_later (Below.refl _ wa).drew k4
  replace k5 := cell_later (Below.refl _ wa).drew k5
  replace k6 := cell_later (Below.refl _ wa).drew k6
  replace k7 := cell_later (Below.refl _ wa).drew k7
  replace k8 := cell_later (Below.refl _ wa).drew k8
  refine TR.take_at (i := 0) (v := ?_) 38 rfl rfl (by kernel_rfl) (by kernel_rfl) (by kernel_rfl) (fun _ _ _ h => h) (Or.inl ⟨by rfl, ?_⟩) (by assumption) ?_
  rotate_left
  · (intro w' hSw; (try dsimp only at hSw); go_simp; all_goals with_reducible rfl)
  try simp only [Act.put, List.setIfInBounds_toArray, List.set_cons_zero, List.set_cons_succ]
  refine TR.take_at (i := 1) (v := ?_) 39 rfl rfl (by kernel_rfl) (by kernel_rfl) (by kernel_rfl) (fun _ _ _ h => h) (Or.inl ⟨by rfl, ?_⟩) (by assumption) ?_
  rotate_left
  · (intro w' hSw; (try dsimp only at hSw); go_simp; all_goals with_reducible rfl)
  try simp only [Act.put, List.setIfInBounds_toArray, List.set_cons_zero, List.set_cons_succ]
  refine TR.take_at (i := 2) (v := ?_) 40 rfl rfl (by kernel_rfl) (by kernel_rfl) (by kernel_rfl) (fun _ _ _ h => h) (Or.inl ⟨by rfl, ?_⟩) (by assumption) ?_
  rotate_left
  · (intro w' hSw; (try dsimp only at hSw); go_simp; all_goals with_reducible rfl)
  try simp only [Act.put, List.setIfInBounds_toArray, List.set_cons_zero, List.set_cons_succ]
  refine TR.take_at (i := 3) (v := ?_) 41 rfl rfl (by kernel_rfl) (by kernel_rfl) (by kernel_rfl) (fun _ _ _ h => h) (Or.inl ⟨by rfl, ?_⟩) (by assumption) ?_
  rotate_left
  · (intro w' hSw; (try dsimp only at hSw); go_simp; all_goals with_reducible rfl)
  try simp only [Act.put, List.setIfInBounds_toArray, List.set_cons_zero, List.set_cons_succ]
  refine TR.take_at (i := 4) (v := ?_) 42 rfl rfl (by kernel_rfl) (by kernel_rfl) (by kernel_rfl) (fun _ _ _ h => h) (Or.inl ⟨by rfl, ?_⟩) (by assumption) ?_
  rotate_left
  · (intro w' hSw; (try dsimp only at hSw); go_simp; all_goals with_reducible rfl)
  try simp only [Act.put, List.setIfInBounds_toArray, List.set_cons_zero, List.set_cons_succ]
  refine TR.take_at (i := 5) (v := ?_) 43 rfl rfl (by kernel_rfl) (by kernel_rfl) (by kernel_rfl) (fun _ _ _ h => h) (Or.inl ⟨by rfl, ?_⟩) (by assumption) ?_
  rotate_left
  · (intro w' hSw; (try dsimp only at hSw); go_simp; all_goals with_reducible rfl)
  try simp only [Act.put, List.setIfInBounds_toArray, List.set_cons_zero, List.set_cons_succ]
  refine TR.take_at (i := 7) (v := ?_) 45 rfl rfl (by kernel_rfl) (by kernel_rfl) (by kernel_rfl) (fun _ _ _ h => h) (Or.inl ⟨by rfl, ?_⟩) (by assumption) ?_
  rotate_left
  · (intro w' hSw; (try dsimp only at hSw); go_simp; all_goals with_reducible rfl)
  try simp only [Act.put, List.setIfInBounds_toArray, List.set_cons_zero, List.set_cons_succ]
  refine wpAnyH_ready (rs := [6]) (by kernel_rfl) (by simp) ?_
  refine AllReadyH.cons rfl (fun K hK => ?_) AllReadyH.nil
  go_simp
  refine (HOU.out _).mono ?_
  rintro e v0 ⟨rfl, hbm⟩
  go_wp2_with fail
  replace k0 := cell_later hbm k0
  replace k1 := cell_later hbm k1
  replace k2 := cell_later hbm k2
  replace k3 := cell_later hbm k3
  replace k4 := cell_later hbm k4
  replace k5 := cell_later hbm k5
  replace k6 := cell_later hbm k6
  replace k7 := cell_later hbm k7
  replace k8 := cell_later hbm k8
  have hb8 := below_tr (Below.refl _ wa).drew hbm
  replace g1 := block_later hb8 g1
  replace g4 := block_later hb8 g4
  clear hbm
  refine hK.out _ _ ⟨k0, k1, k2, k3, k4, k5, k6, k7, k8⟩ (fun hHeldc0 => ?_)
  clear hK
  try simp only [Act.put, List.setIfInBounds_toArray, List.set_cons_zero, List.set_cons_succ]
  refine wpAnyH_ready (rs := [8]) (by kernel_rfl) (by simp) ?_
  refine AllReadyH.cons rfl (fun K hK => ?_) AllReadyH.nil
  go_simp
  obtain ⟨XM, XB, XT, tb, tr, pv, hmv⟩ := HMa.out.later hb8
  refine (hmv.write hn0 AT v HBD.out HVB.out.2).mono ?_
  rintro e w6 ⟨rfl, hM6, hT6, hx6⟩
  clear hmv
  go_wp2_with fail
  have hsv : KL < v0.heap.size := block_lt g4
  have nZ : ∀ i, w.heap.size ≤ i → (i < W.heap.size ∨ KL ≤ i) → ¬ Gr X W w2 i := fun i h1 h2 c => by
    rcases c with c | c
    · exact H0.out.nX h1 c
    · omega
  replace k0 := (World.cell?_of_block (a := ⟨x, 0, none⟩) hx6).trans k0
  replace k1 := TR.turn_cell hT6 (nZ _ (by omega) (Or.inr (Nat.le_refl _))) k1
  replace k2 := TR.turn_cell hT6 (nZ _ (by omega) (Or.inr (Nat.le_refl _))) k2
  replace k3 := TR.turn_cell hT6 (nZ _ (by omega) (Or.inr (Nat.le_refl _))) k3
  replace k4 := TR.turn_cell hT6 (nZ _ (by omega) (Or.inr (Nat.le_refl _))) k4
  replace k5 := TR.turn_cell hT6 (nZ _ (by omega) (Or.inr (Nat.le_refl _))) k5
  replace k6 := TR.turn_cell hT6 (nZ _ (by omega) (Or.inr (Nat.le_refl _))) k6
  replace k7 := TR.turn_cell hT6 (nZ _ (by omega) (Or.inr (Nat.le_refl _))) k7
  replace k8 := TR.turn_cell hT6 (nZ _ (by omega) (Or.inr (Nat.le_refl _))) k8
  have hgr : w.heap.size + 1 < W.heap.size := HSZ.out
  replace g1 := (hT6.block _ (block_lt g1) (nZ _ (by omega) (Or.inl (by omega)))).trans g1
  refine hK.out _ _ ⟨k0, k1, k2, k3, k4, k5, k6, k7, k8⟩ (fun hHeldc1 => ?_)
  clear hK
  try simp only [Act.put, List.setIfInBounds_toArray, List.set_cons_zero, List.set_cons_succ]
  refine wpAnyH_done (by kernel_rfl) ?_ _
  refine NoPanic.normal ?_
  have HM6 := Hid.mk hM6
  have HT6 := Hid.mk hT6
  have HB8 := Hid.mk hb8
  clear k0 k1 k2 k3 k4 k5 k6 k7 k8 hM6 hT6 hx6 hb8 g4 hra
  go_wp2_with
    first
    | (refine wpList_store_segTo rfl 50 _ _ rfl rfl (w.heap.size + 1) 0 _ #[.int .i64 0, .int .i64 0, .int .u64 0] rfl rfl rfl 50 _ g1 (show 0 + 3 ≤ 3 by decide) info_res (by simp [Value.oneCell']) #[.int .i64 0, .int .i64 0, .int .u64 0] rfl ?_
       intro wb hrb htb)
    | fail
  refine bodyPost_ret (results_cell_row rfl _ _ (w.heap.size + 1) 50 _ _ _ rfl hrb Tryz.underlying50 rfl info_res) rfl ⟨rfl, ?_⟩
  have hs8 := HB8.out.size
  have hsa := hta.size
  have hs4 := HB4.out.size
  exact H0.out.fin HM6.out (Below.refl _ _) htb (fun i hi => by
    rcases hi with (hi | hi) | hi
    · exact Or.inl hi
    · exact Or.inr (by have := HBW.out.size; omega)
    · exact Or.inr (by omega)) (fun i hi => by
    rw [hi]
    refine ⟨by omega, fun c => ?_⟩
    rcases c with c | c
    · exact nZ _ (by omega) (Or.inl (by omega)) c
    · omega) ((((((turn_of_below X HBW.out).trans HT2.out (fun _ _ h => h)).trans (turn_of_below X HB4.out) (fun _ _ h => h)).trans hta (fun i hi c => by omega)).trans (turn_of_below X HB8.out) (fun _ _ h => h)).trans HT6.out (fun i hi c => by
    rcases c with c | c
    · exact c
    · have := HBW.out.size; omega))

set_option maxHeartbeats 2000000 in
set_option maxRecDepth 100000 in
theorem acc_ld (h : Mch w0 w X x a n S most s)  (kind : Int) (va v : Nat) (hva : va < 18446744073709551616) (hn : Hn) (h1 : (leafO S s va hn).2.1 = 0) (h2 : (leafO S s va hn).2.2 = 0) (h3 : letK (leafO S s va hn).1.u (leafO S s va hn).1.r (leafO S s va hn).1.x (leafO S s va hn).1.s kind = 0) (hk2 : ¬ kind = 2) :
    Calls Tryz.prog 12 #[.pointer (some ⟨x, 0, none⟩), .int .i64 kind, .int .u64 va, .int .u64 v, hn.v] w fun r w' => r = .returned (resV (0, 0) ((leafS S most s va hn).f (accT (leafO S s va hn).1 va))) ∧ Mch w0 w' (Gr X w w') x a (n + 1) S most (leafS S most s va hn) ∧ Turn X w w' := by
  have H0 := Hid.mk h
  have HLC := Hid.mk (fun W (hb : Below w.heap.size w W) => leaf_c (H0.out.later hb) va hva hn)
  have HBD := Hid.mk (accT_lt (S := S) h.wfm va hn)
  have HVB := Hid.mk (hva)
  clear h
  generalize leafO S s va hn = Q at *
  generalize leafS S most s va hn = s1 at *
  obtain ⟨⟨l, k, o, u, r, y, q, t⟩, f1, f2⟩ := Q
  obtain ⟨hf, hl, hk⟩ := hn
  simp only [Lf.cs, Hn.v, tupV, accT] at *
  obtain rfl : f1 = 0 := h1
  obtain rfl : f2 = 0 := h2
  have h4 : letL u r y q l kind = 0 := letL_zero h3
  have HLK := Hid.mk (fun W => let_any k o u r y q t l kind W)
  generalize letK u r y q kind = lk at *
  generalize letL u r y q l kind = ll at *
  subst h3 h4
  have g0 := heap2_0 w (.cells #[.bool hf, .bool hl, .bool hk] 38) (.cells #[.int .i64 0, .int .i64 0, .int .u64 0] 50)
  have g1 := heap_alloc2_new w (.cells #[.bool hf, .bool hl, .bool hk] 38) (.cells #[.int .i64 0, .int .i64 0, .int .u64 0] 50)
  have hB := below2 w (.cells #[.bool hf, .bool hl, .bool hk] 38) (.cells #[.int .i64 0, .int .i64 0, .int .u64 0] 50)
  have hsz : ((w.alloc (.cells #[.bool hf, .bool hl, .bool hk] 38)).alloc (.cells #[.int .i64 0, .int .i64 0, .int .u64 0] 50)).heap.size = w.heap.size + 1 + 1 := by simp
  have HOU := Hid.mk (fun W => out_any l k o u r y q t va HVB.out HBD.out W)
  generalize hAT : o + offV va l = AT at *
  clear hAT
  go_enter Tryz.func12, Tryz.ntmps12
  go_upto_region 1 with fail
  generalize (w.alloc (.cells #[.bool hf, .bool hl, .bool hk] 38)).alloc (.cells #[.int .i64 0, .int .i64 0, .int .u64 0] 50) = W at *
  obtain ⟨c0, c1, c2⟩ := cells3 g0
  go_wp2_with fail
  refine (HLC.out _ hB).mono ?_
  rintro e w2 ⟨rfl, hM2, hT2⟩
  have HM2 := Hid.mk hM2
  have HT2 := Hid.mk hT2
  have HBW := Hid.mk hB
  replace g1 := (hT2.block _ (block_lt g1) (H0.out.nX (by omega))).trans g1
  have hs2 : w.heap.size + 1 + 1 ≤ w2.heap.size := by have := hT2.size; omega
  have HSZ : Hid (w.heap.size + 1 < W.heap.size) := Hid.mk (by omega)
  clear c0 c1 c2 g0 HLC hM2 hT2 hB hsz
  have g4 := heap2_0 w2 (.cells #[.int .i64 l, .int .i64 k, .int .u64 (o : Nat), .bool u, .bool r, .bool y, .bool q, .int .i64 t] 62) (.cells #[.int .i64 0, .int .i64 0] 48)
  have g5 := heap_alloc2_new w2 (.cells #[.int .i64 l, .int .i64 k, .int .u64 (o : Nat), .bool u, .bool r, .bool y, .bool q, .int .i64 t] 62) (.cells #[.int .i64 0, .int .i64 0] 48)
  have hb3 := below2 w2 (.cells #[.int .i64 l, .int .i64 k, .int .u64 (o : Nat), .bool u, .bool r, .bool y, .bool q, .int .i64 t] 62) (.cells #[.int .i64 0, .int .i64 0] 48)
  go_upto_region 2 with fail
  generalize (w2.alloc (.cells #[.int .i64 l, .int .i64 k, .int .u64 (o : Nat), .bool u, .bool r, .bool y, .bool q, .int .i64 t] 62)).alloc (.cells #[.int .i64 0, .int .i64 0] 48) = w3 at *
  replace g1 := block_later hb3 g1
  have HB3 := Hid.mk hb3
  have HM3 := Hid.mk (HM2.out.later hb3)
  clear hb3
  generalize hKL : w2.heap.size = KL at g4 g5 ⊢
  obtain ⟨k8, k9⟩ := TR.row2c g5
  obtain ⟨⟨d0, d1, d2, d3, d4, d5, d6, d7⟩, -⟩ := cells8 g4
  go_wp2_with fail
  refine (HLK.out _).mono ?_
  rintro e w4 ⟨rfl, hb4⟩
  replace g1 := block_later hb4 g1
  replace g4 := block_later hb4 g4
  replace g5 := block_later hb4 g5
  have HM4 := Hid.mk (HM3.out.later hb4)
  have HB4 := Hid.mk (below_tr HB3.out hb4)
  clear HLK k8 k9 d0 d1 d2 d3 d4 d5 d6 d7 hb4 HM3
  go_upto_region 4 with
    first
    | (refine wpList_store_segTo rfl 48 _ _ rfl rfl (KL + 1) 0 _ #[.int .i64 0, .int .i64 0] rfl rfl rfl 48 _ g5 (show 0 + 2 ≤ 2 by decide) info_fault (by simp [Value.oneCell']) #[.int .i64 0, .int .i64 0] rfl ?_
       intro wa hra hta
       replace g1 := block_turn hta g1 (by omega)
       replace g4 := block_turn hta g4 (by omega))
    | fail
  obtain ⟨k8, k9⟩ := TR.row2c hra
  have HMa : Hid (Mch w0 wa (Gr X W w2) x a n S most s1) := Hid.mk (HM4.out.turn hta (fun i hi c => by
    rcases hi with hi | hi
    · exact H0.out.nX (by omega) hi
    · omega) (fun i hi => by have := H0.out.bl.size; have := HBW.out.size; omega))
  obtain ⟨XM, XB, XT, tb, tr, pv, hma⟩ := HMa.out
  have k0 := (row5 hma.row).1
  have hxK : x < w2.heap.size := HM2.out.ltX x (by obtain ⟨_, _, _, _, _, _, h⟩ := HM2.out; exact h.cx)
  clear hma
  go_upto_region 9 with fail
  clear k8 k9
  obtain ⟨⟨k1, k2, k3, k4, k5, k6, k7, k8⟩, -⟩ := cells8 g4
  refine wp_region_noPanic ?_
  refine wp_region_held_drew (S := (fun w' => w'.cell? ⟨x, 0, none⟩ = some (.pointer (some ⟨a, 0, none⟩)) ∧ w'.cell? ⟨KL, 0, none⟩ = some (.int .i64 l) ∧ w'.cell? ⟨KL, 1, none⟩ = some (.int .i64 k) ∧ w'.cell? ⟨KL, 2, none⟩ = some (.int .u64 (o : Nat)) ∧ w'.cell? ⟨KL, 3, none⟩ = some (.bool u) ∧ w'.cell? ⟨KL, 4, none⟩ = some (.bool r) ∧ w'.cell? ⟨KL, 5, none⟩ = some (.bool y) ∧ w'.cell? ⟨KL, 6, none⟩ = some (.bool q) ∧ w'.cell? ⟨KL, 7, none⟩ = some (.int .i64 t))) (by kernel_rfl) ?_ (fun hHeld => ?_)
  · exact ⟨cell_later (Below.refl _ _).drew k0, cell_later (Below.refl _ _).drew k1, cell_later (Below.refl _ _).drew k2, cell_later (Below.refl _ _).drew k3, cell_later (Below.refl _ _).drew k4, cell_later (Below.refl _ _).drew k5, cell_later (Below.refl _ _).drew k6, cell_later (Below.refl _ _).drew k7, cell_later (Below.refl _ _).drew k8⟩
  replace k0 := cell_later (Below.refl _ wa).drew k0
  replace k1 := cell_later (Below.refl _ wa).drew k1
  replace k2 := cell_later (Below.refl _ wa).drew k2
  replace k3 := cell_later (Below.refl _ wa).drew k3
  replace k4 := cell_later (Below.refl _ wa).drew k4
  replace k5 := cell_later (Below.refl _ wa).drew k5
  replace k6 := cell_later (Below.refl _ wa).drew k6
  replace k7 := cell_later (Below.refl _ wa).drew k7
  replace k8 := cell_later (Below.refl _ wa).drew k8
  refine TR.take_at (i := 0) (v := ?_) 49 rfl rfl (by kernel_rfl) (by kernel_rfl) (by kernel_rfl) (fun _ _ _ h => h) (Or.inl ⟨by rfl, ?_⟩) (by assumption) ?_
  rotate_left
  · (intro w' hSw; (try dsimp only at hSw); go_simp; all_goals with_reducible rfl)
  try simp only [Act.put, List.setIfInBounds_toArray, List.set_cons_zero, List.set_cons_succ]
  refine TR.take_at (i := 1) (v := ?_) 50 rfl rfl (by kernel_rfl) (by kernel_rfl) (by kernel_rfl) (fun _ _ _ h => h) (Or.inl ⟨by rfl, ?_⟩) (by assumption) ?_
  rotate_left
  · (intro w' hSw; (try dsimp only at hSw); go_simp; all_goals with_reducible rfl)
  try simp only [Act.put, List.setIfInBounds_toArray, List.set_cons_zero, List.set_cons_succ]
  refine TR.take_at (i := 2) (v := ?_) 51 rfl rfl (by kernel_rfl) (by kernel_rfl) (by kernel_rfl) (fun _ _ _ h => h) (Or.inl ⟨by rfl, ?_⟩) (by assumption) ?_
  rotate_left
  · (intro w' hSw; (try dsimp only at hSw); go_simp; all_goals with_reducible rfl)
  try simp only [Act.put, List.setIfInBounds_toArray, List.set_cons_zero, List.set_cons_succ]
  refine TR.take_at (i := 3) (v := ?_) 52 rfl rfl (by kernel_rfl) (by kernel_rfl) (by kernel_rfl) (fun _ _ _ h => h) (Or.inl ⟨by rfl, ?_⟩) (by assumption) ?_
  rotate_left
  · (intro w' hSw; (try dsimp only at hSw); go_simp; all_goals with_reducible rfl)
  try simp only [Act.put, List.setIfInBounds_toArray, List.set_cons_zero, List.set_cons_succ]
  refine TR.take_at (i := 4) (v := ?_) 53 rfl rfl (by kernel_rfl) (by kernel_rfl) (by kernel_rfl) (fun _ _ _ h => h) (Or.inl ⟨by rfl, ?_⟩) (by assumption) ?_
  rotate_left
  · (intro w' hSw; (try dsimp only at hSw); go_simp; all_goals with_reducible rfl)
  try simp only [Act.put, List.setIfInBounds_toArray, List.set_cons_zero, List.set_cons_succ]
  refine TR.take_at (i := 5) (v := ?_) 54 rfl rfl (by kernel_rfl) (by kernel_rfl) (by kernel_rfl) (fun _ _ _ h => h) (Or.inl ⟨by rfl, ?_⟩) (by assumption) ?_
  rotate_left
  · (intro w' hSw; (try dsimp only at hSw); go_simp; all_goals with_reducible rfl)
  try simp only [Act.put, List.setIfInBounds_toArray, List.set_cons_zero, List.set_cons_succ]
  refine wpAnyH_ready (rs := [6]) (by kernel_rfl) (by simp) ?_
  refine AllReadyH.cons rfl (fun K hK => ?_) AllReadyH.nil
  go_simp
  refine (HOU.out _).mono ?_
  rintro e v0 ⟨rfl, hbm⟩
  go_wp2_with fail
  replace k0 := cell_later hbm k0
  replace k1 := cell_later hbm k1
  replace k2 := cell_later hbm k2
  replace k3 := cell_later hbm k3
  replace k4 := cell_later hbm k4
  replace k5 := cell_later hbm k5
  replace k6 := cell_later hbm k6
  replace k7 := cell_later hbm k7
  replace k8 := cell_later hbm k8
  have hb8 := below_tr (Below.refl _ wa).drew hbm
  clear hbm
  refine hK.out _ _ ⟨k0, k1, k2, k3, k4, k5, k6, k7, k8⟩ (fun hHeldc0 => ?_)
  clear hK
  try simp only [Act.put, List.setIfInBounds_toArray, List.set_cons_zero, List.set_cons_succ]
  refine wpAnyH_ready (rs := [7]) (by kernel_rfl) (by simp) ?_
  refine AllReadyH.cons rfl (fun K hK => ?_) AllReadyH.nil
  go_simp
  obtain ⟨XM, XB, XT, tb, tr, pv, hmv⟩ := HMa.out.later hb8
  refine (read_c hmv.mem AT HBD.out).mono ?_
  rintro e v1 ⟨rfl, hbm⟩
  clear hmv
  go_wp2_with fail
  replace k0 := cell_later hbm k0
  replace k1 := cell_later hbm k1
  replace k2 := cell_later hbm k2
  replace k3 := cell_later hbm k3
  replace k4 := cell_later hbm k4
  replace k5 := cell_later hbm k5
  replace k6 := cell_later hbm k6
  replace k7 := cell_later hbm k7
  replace k8 := cell_later hbm k8
  replace hb8 := below_tr hb8 hbm
  clear hbm
  refine hK.out _ _ ⟨k0, k1, k2, k3, k4, k5, k6, k7, k8⟩ (fun hHeldc1 => ?_)
  clear hK
  try simp only [Act.put, List.setIfInBounds_toArray, List.set_cons_zero, List.set_cons_succ]
  refine TR.take_at (i := 8) (v := ?_) 48 rfl rfl (by kernel_rfl) (by kernel_rfl) (by kernel_rfl) (fun _ _ _ h => h) (Or.inl ⟨by rfl, ?_⟩) (by assumption) ?_
  rotate_left
  · (intro w' hSw; (try dsimp only at hSw); go_simp; all_goals with_reducible rfl)
  try simp only [Act.put, List.setIfInBounds_toArray, List.set_cons_zero, List.set_cons_succ]
  refine TR.take_at (i := 9) (v := ?_) 57 rfl rfl (by kernel_rfl) (by kernel_rfl) (by kernel_rfl) (fun _ _ _ h => h) (Or.inl ⟨by rfl, ?_⟩) (by assumption) ?_
  rotate_left
  · (intro w' hSw; (try dsimp only at hSw); go_simp; all_goals with_reducible rfl)
  try simp only [Act.put, List.setIfInBounds_toArray, List.set_cons_zero, List.set_cons_succ]
  refine TR.take_at (i := 10) (v := ?_) 58 rfl rfl (by kernel_rfl) (by kernel_rfl) (by kernel_rfl) (fun _ _ _ h => h) (Or.inl ⟨by rfl, ?_⟩) (by assumption) ?_
  rotate_left
  · (intro w' hSw; (try dsimp only at hSw); go_simp; all_goals with_reducible rfl)
  try simp only [Act.put, List.setIfInBounds_toArray, List.set_cons_zero, List.set_cons_succ]
  refine TR.take_at (i := 11) (v := ?_) 13 rfl rfl (by kernel_rfl) (by kernel_rfl) (by kernel_rfl) (fun _ _ _ h => h) (Or.inl ⟨by rfl, ?_⟩) (by assumption) ?_
  rotate_left
  · (intro w' hSw; (try dsimp only at hSw); go_simp; all_goals with_reducible rfl)
  try simp only [Act.put, List.setIfInBounds_toArray, List.set_cons_zero, List.set_cons_succ]
  refine TR.take_at (i := 12) (v := ?_) 14 rfl rfl (by kernel_rfl) (by kernel_rfl) (by kernel_rfl) (fun _ _ _ h => h) (Or.inl ⟨by rfl, ?_⟩) (by assumption) ?_
  rotate_left
  · (intro w' hSw; (try dsimp only at hSw); go_simp; all_goals with_reducible rfl)
  try simp only [Act.put, List.setIfInBounds_toArray, List.set_cons_zero, List.set_cons_succ]
  refine wpAnyH_done (by kernel_rfl) ?_ _
  refine NoPanic.normal ?_
  replace g1 := block_later hb8 g1
  have HB8 := Hid.mk hb8
  clear k0 k1 k2 k3 k4 k5 k6 k7 k8 hb8 g4 hra
  go_wp2_with
    first
    | (refine wpList_store_segTo rfl 50 _ _ rfl rfl (w.heap.size + 1) 0 _ #[.int .i64 0, .int .i64 0, .int .u64 (s1.f AT : Nat)] rfl rfl rfl 50 _ g1 (show 0 + 3 ≤ 3 by decide) info_res (by simp [Value.oneCell']) #[.int .i64 0, .int .i64 0, .int .u64 (s1.f AT : Nat)] rfl ?_
       intro wb hrb htb)
    | fail
  refine bodyPost_ret (results_cell_row rfl _ _ (w.heap.size + 1) 50 _ _ _ rfl hrb Tryz.underlying50 rfl info_res) rfl ⟨rfl, ?_⟩
  have hgr : w.heap.size + 1 < W.heap.size := HSZ.out
  exact H0.out.fin ((HMa.out.later HB8.out).mono (Nat.le_succ n)) (Below.refl _ _) htb (fun i hi => by
    rcases hi with hi | hi
    · exact Or.inl hi
    · exact Or.inr (by have := HBW.out.size; omega)) (fun i hi => by
    rw [hi]
    exact ⟨by omega, fun c => by
      rcases c with c | c
      · exact H0.out.nX (by omega) c
      · omega⟩) (((((turn_of_below X HBW.out).trans HT2.out (fun _ _ h => h)).trans (turn_of_below X HB4.out) (fun _ _ h => h)).trans hta (fun i hi c => by omega)).trans (turn_of_below X HB8.out) (fun _ _ h => h))

theorem leafS_f (va : Nat) (hn : Hn) : (leafS S most s va hn).f = s.f := by
  unfold leafS
  split
  · rfl
  · split
    · rfl
    · unfold lfS
      split
      · rfl
      · rfl
theorem access_c (h : Mch w0 w X x a n S most s) (hn0 : n < 100000000) (kind : Int) (va v : Nat) (hva : va < 18446744073709551616) (hv : v < 18446744073709551616) (hn : Hn) :
    Calls Tryz.prog 12 #[.pointer (some ⟨x, 0, none⟩), .int .i64 kind, .int .u64 va, .int .u64 v, hn.v] w fun r w' => r = .returned (resV (accF (leafO S s va hn) kind) (accW s.f (leafO S s va hn) kind va)) ∧ Mch w0 w' (Gr X w w') x a (n + 1) S most (accS S most s kind va v hn) ∧ Turn X w w' := by
  have ef : (leafS S most s va hn).f = s.f := leafS_f va hn
  by_cases h1 : (leafO S s va hn).2.1 = 0
  · have h2 := leafO_ft va hn h1
    have e1 : accF (leafO S s va hn) kind = letF (leafO S s va hn).1 kind := if_pos h1
    by_cases h3 : letK (leafO S s va hn).1.u (leafO S s va hn).1.r (leafO S s va hn).1.x (leafO S s va hn).1.s kind = 0
    · have e2 : accF (leafO S s va hn) kind = (0, 0) := by rw [e1]; unfold letF; rw [h3, letL_zero h3]
      by_cases hk : kind = 2
      · have e3 : accW s.f (leafO S s va hn) kind va = 0 := if_neg (fun c => c.2 hk)
        have e4 : accS S most s kind va v hn = { leafS S most s va hn with f := wrF (leafS S most s va hn).f S (accT (leafO S s va hn).1 va) v } := by
          unfold accS accM
          rw [if_pos ⟨by rw [e2], hk⟩, ef]
        rw [e2, e3, e4]
        exact acc_st h hn0 kind va v hva hv hn h1 h2 h3 hk
      · have e3 : accW s.f (leafO S s va hn) kind va = (leafS S most s va hn).f (accT (leafO S s va hn).1 va) := by
          rw [ef]; exact if_pos ⟨by rw [e2], hk⟩
        have e4 : accS S most s kind va v hn = leafS S most s va hn := by
          unfold accS accM
          rw [if_neg (fun c => hk c.2), ← ef]
        rw [e2, e3, e4]
        exact acc_ld h kind va v hva hn h1 h2 h3 hk
    · have e3 : accW s.f (leafO S s va hn) kind va = 0 := if_neg (fun c => h3 (by have := c.1; rw [e1] at this; exact this))
      have e4 : accS S most s kind va v hn = leafS S most s va hn := by
        unfold accS accM
        rw [if_neg (fun c => h3 (by have := c.1; rw [e1] at this; exact this)), ← ef]
      rw [e1, e3, e4]
      exact acc_f2 h kind va v hva hn h1 h2 h3
  · have e1 : accF (leafO S s va hn) kind = (leafO S s va hn).2 := if_neg h1
    have e3 : accW s.f (leafO S s va hn) kind va = 0 := if_neg (fun c => h1 (by have := c.1; rw [e1] at this; exact this))
    have e4 : accS S most s kind va v hn = leafS S most s va hn := by
      unfold accS accM
      rw [if_neg (fun c => h1 (by have := c.1; rw [e1] at this; exact this)), ← ef]
    rw [e1, e3, e4]
    exact acc_f1 h kind va v hva hn h1
end
end Go.Proofs.YtndjhedoandinaaGreatDoor.MM
