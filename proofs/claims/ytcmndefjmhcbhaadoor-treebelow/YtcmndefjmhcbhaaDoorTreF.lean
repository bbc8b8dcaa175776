/- A slot that is laid; one more slot. -/
import Derived.Test.YtcmndefjmhcbhaaDoorTreD
set_option linter.unusedVariables false
namespace Go.Proofs.YtcmndefjmhcbhaaDoor
open Go.RowKit
namespace TE

theorem ch_ex {f : Nat → Option Sl} {z : Nat} (h : ∃ t, f z = some t) (y : Nat) (k : Sl → Sl) : ∃ t, ch f y k z = some t := by
  obtain ⟨t, ht⟩ := h
  rw [ch_z, ht]
  by_cases c : z = y
  · exact ⟨k t, by rw [if_pos c]; rfl⟩
  · exact ⟨t, by rw [if_neg c]⟩
theorem info1i : (Tryd.prog.info? 3).map (·.size) = some 1 := by kernel_rfl
theorem jnS_ex {f : Nat → Option Sl} {z : Nat} (h : ∃ t, f z = some t) (p q : Nat) : ∃ t, jnS p q f z = some t := ch_ex (ch_ex h _ _) _ _
theorem up_ex (f : Nat → Option Sl) (y : Nat) (s : Sl) : ∃ t, up f y (some s) y = some t := ⟨s, by rw [up_z, if_pos rfl]⟩

set_option maxRecDepth 100000 in
set_option maxHeartbeats 2000000 in
theorem lay_c {w0 W : World} {O : Nat → Prop} {x ad S n : Nat} {g : Nat → Nat} {σ : Nat → Option Sl} {fs ct : Nat} (h : TrS w0 W O x ad S n g σ fs ct) (hn : n + 20 < 100000000) {y : Nat} {s : Sl} (hy : sE S y = 0) (y0 : y ≠ 0) (hs : GoodS s) (hpv : s.pv = 0 ∨ ∃ t, up σ y (some s) s.pv = some t) (hnx : s.nx = 0 ∨ ∃ t, up σ y (some s) s.nx = some t) :
    Calls Tryd.prog 32 #[.pointer (some ⟨x, 0, none⟩), .int .u64 (y : Nat), .agg s.row] W fun e w' => e = .returned (.tuple #[]) ∧ NxS w0 W O x ad S (n + 20) g (lyS y s σ) (lyF y s fs) ct w' := by
  have H0 := Hid.mk h
  have k0 := h.c0
  have hlo := h.olt
  have hS := h.sm
  have hyl : y < 4294967296 ∧ y % 32 = 0 := by have := sE_ok hy; omega
  have hlt : y < 18446744073709551616 := by omega
  have g5 := heap_alloc_new W (.cells s.row 61)
  have hB := below_new W (.cells s.row 61)
  have hb5 : ∀ i, O i → i ≠ W.heap.size := fun i c e => by have := hlo i c; omega
  generalize eW : W.alloc (.cells s.row 61) = W0 at *
  have hSt : ∀ w1, Below W0.heap.size W0 w1 → Calls Tryd.prog 52 #[.pointer (some ⟨ad, 0, none⟩), .int .u64 (y : Nat), .agg s.row] w1 fun e w' => e = .returned (.int .i64 0) ∧ NxS w0 w1 O x ad S (n + 4) g (up σ y (some s)) fs ct w' := fun w1 hb => by
    have h' := (H0.out.below hB).below hb
    obtain ⟨f, h1, h2⟩ := h'.mem
    refine (store_ok h1 (by omega) y hlt hy h'.prts hs.ft.rt hs.ft.cb hs.hn hs.hp hs.hd).mono fun e w' hh => ⟨hh.1, h'.wrote hh.2 (h2.put hS.2.2 hy hs) ?_⟩
    rw [up_z, if_neg (fun c => y0 c.symm)]; exact H0.out.z0
  have hJ1 : ∀ w1 O1, TrS w0 w1 O1 x ad S (n + 4) g (up σ y (some s)) fs ct → Calls Tryd.prog 36 #[.pointer (some ⟨x, 0, none⟩), .int .u64 (s.pv : Nat), .int .u64 (y : Nat)] w1 fun e w' => e = .returned (.tuple #[]) ∧ NxS w0 w1 O1 x ad S (n + 12) g (jnS s.pv y (up σ y (some s))) (jnF s.pv y fs) ct w' := fun w1 O1 h1 =>
    (join_c h1 (by omega) hpv (Or.inr (ch_ex (up_ex σ y s) _ _)) hs.hp hyl).mono fun e w' hh => ⟨hh.1, hh.2.mono (by omega)⟩
  have hJ2 : ∀ w1 O1, TrS w0 w1 O1 x ad S (n + 12) g (jnS s.pv y (up σ y (some s))) (jnF s.pv y fs) ct → Calls Tryd.prog 36 #[.pointer (some ⟨x, 0, none⟩), .int .u64 (y : Nat), .int .u64 (s.nx : Nat)] w1 fun e w' => e = .returned (.tuple #[]) ∧ NxS w0 w1 O1 x ad S (n + 20) g (lyS y s σ) (lyF y s fs) ct w' := fun w1 O1 h1 => by
    refine (join_c h1 (by omega) (Or.inr (jnS_ex (up_ex σ y s) _ _)) ?_ hyl hs.hn).mono fun e w' hh => ⟨hh.1, hh.2.mono (by omega)⟩
    rcases hnx with c | c
    · exact Or.inl c
    · exact Or.inr (ch_ex (jnS_ex c _ _) _ _)
  clear h hpv hnx hy y0 hs hyl hlt hS hn
  replace k0 := cell_later hB k0
  go_enter Tryd.func32, Tryd.ntmps32
  go_upto_region 1 with fail
  (try rw [show (.agg s.row : Value).cells = s.row from rfl])
  (try rw [eW])
  refine wp_region_noPanic ?_
  refine wp_region_held_drew (S := fun w' => w'.cell? ⟨x, 0, none⟩ = some (.pointer (some ⟨ad, 0, none⟩)) ∧ w'.heap[W.heap.size]? = some (.cells s.row 61 (0, 0))) (by kernel_rfl) ⟨cell_later (Below.refl _ _).drew k0, block_later (Below.refl _ _).drew g5⟩ (fun hHeld => ?_)
  have HD : Hid (Below W0.heap.size W0 W0.drew) := (Below.refl _ W0).drew
  generalize W0.drew = wd at *
  refine take_at (i := 0) (v := ?_) 6 rfl rfl (by kernel_rfl) (by kernel_rfl) (by kernel_rfl) (fun _ _ _ h => h) (Or.inl ⟨by rfl, ?_⟩) (by assumption) ?_
  rotate_left
  · (intro w' hSw; (try dsimp only at hSw); go_simp; all_goals with_reducible rfl)
  try simp only [Act.put, List.setIfInBounds_toArray, List.set_cons_zero, List.set_cons_succ]
  refine take_at (i := 1) (v := ?_) 7 rfl rfl (by kernel_rfl) (by kernel_rfl) (by kernel_rfl) (fun _ _ _ h => h) (Or.inl ⟨by rfl, ?_⟩) (by assumption) ?_
  rotate_left
  · (intro w' hSw; (try dsimp only at hSw); go_simp; all_goals with_reducible rfl)
  try simp only [Act.put, List.setIfInBounds_toArray, List.set_cons_zero, List.set_cons_succ]
  refine take_at (i := 2) (v := ?_) 8 rfl rfl (by kernel_rfl) (by kernel_rfl) (by kernel_rfl) (fun _ _ _ h => h) (Or.inl ⟨by rfl, ?_⟩) (by assumption) ?_
  rotate_left
  · (intro w' hSw; (try dsimp only at hSw); go_simp; all_goals with_reducible rfl)
  try simp only [Act.put, List.setIfInBounds_toArray, List.set_cons_zero, List.set_cons_succ]
  refine take_at (i := 3) (v := ?_) 9 rfl rfl (by kernel_rfl) (by kernel_rfl) (by kernel_rfl) (fun _ _ _ h => h) (Or.inl ⟨by rfl, ?_⟩) (by assumption) ?_
  rotate_left
  · (intro w' hSw; (try dsimp only at hSw); go_simp; all_goals with_reducible rfl)
  try simp only [Act.put, List.setIfInBounds_toArray, List.set_cons_zero, List.set_cons_succ]
  refine take_at (i := 4) (v := ?_) 10 rfl rfl (by kernel_rfl) (by kernel_rfl) (by kernel_rfl) (fun _ _ _ h => h) (Or.inl ⟨by rfl, ?_⟩) (by assumption) ?_
  rotate_left
  · (intro w' hSw; (try dsimp only at hSw); go_simp; all_goals with_reducible rfl)
  try simp only [Act.put, List.setIfInBounds_toArray, List.set_cons_zero, List.set_cons_succ]
  refine take_at (i := 5) (v := .agg s.row) 11 rfl rfl (by kernel_rfl) (by kernel_rfl) (by kernel_rfl) (fun _ _ _ h => h) (Or.inl ⟨by rfl, fun w' hSw => exec_row rfl rfl (hSw.2) Tryd.underlying61 rfl (info10.trans (congrArg some (row10 s).symm))⟩) (by assumption) ?_
  try simp only [Act.put, List.setIfInBounds_toArray, List.set_cons_zero, List.set_cons_succ]
  refine wpAnyH_ready (rs := [6]) (by kernel_rfl) (by simp) ?_
  refine AllReadyH.cons rfl (fun K hK => ?_) AllReadyH.nil
  go_simp
  refine (hSt _ HD.out).mono ?_
  rintro e w3 ⟨rfl, O1, hn1, hn2, hn3⟩
  go_wp2_with fail
  have g51 := turn_row hn2 hHeld.2 (fun c => hb5 _ c rfl)
  refine hK.out _ _ ⟨hn1.c0, g51⟩ (fun hHeld2 => ?_)
  clear hK
  try simp only [Act.put, List.setIfInBounds_toArray, List.set_cons_zero, List.set_cons_succ]
  refine wpAnyH_done (by kernel_rfl) ?_ _
  refine NoPanic.normal ?_
  have HT : Hid (Turn O W w3 ∧ ∀ i, i < W.heap.size → O1 i → O i) := ⟨(turn_of_below O (below_tr hB HD.out)).trans hn2 (fun _ _ c => c), fun i hi c => hn3 i (Nat.lt_of_lt_of_le hi (below_tr hB HD.out).size) c⟩
  have hO1 : ¬ O1 W.heap.size := fun c => hb5 _ (hn3 _ (block_lt hHeld.2) c) rfl
  clear hn2 hn3 hHeld hHeld2
  obtain ⟨q0, q1, q2, q3, q4, q5, q6, q7, q8, q9⟩ := cells10 g51
  have hC1 := hJ1 _ _ hn1
  clear hn1
  go_wp2_with fail
  refine hC1.mono ?_
  rintro e w4 ⟨rfl, O2, hm1, hm2, hm3⟩
  have g52 := turn_row hm2 g51 hO1
  have HT2 : Hid (Turn O W w4 ∧ ∀ i, i < W.heap.size → O2 i → O i) := ⟨HT.out.1.trans hm2 (fun i hi c => HT.out.2 i hi c), fun i hi c => HT.out.2 i hi (hm3 i (Nat.lt_of_lt_of_le hi HT.out.1.size) c)⟩
  clear hm2 hm3 hC1
  obtain ⟨q0, q1, q2, q3, q4, q5, q6, q7, q8, q9⟩ := cells10 g52
  have hC2 := hJ2 _ _ hm1
  clear hm1
  go_wp2_with fail
  refine hC2.mono ?_
  rintro e w5 ⟨rfl, hN⟩
  have HN := Hid.mk (NxS.trans HT2.out.1 HT2.out.2 hN)
  clear hN
  go_wp2
  go_end0
  exact ⟨rfl, HN.out⟩

set_option maxRecDepth 100000 in
set_option maxHeartbeats 2000000 in
theorem add_c {w0 W : World} {O : Nat → Prop} {x ad S n : Nat} {g : Nat → Nat} {σ : Nat → Option Sl} {fs ct : Nat} (h : TrS w0 W O x ad S n g σ fs ct) (hn : n + 20 < 100000000) (hct : ct < 4611686018427387904) {y : Nat} {s : Sl} (hy : sE S y = 0) (y0 : y ≠ 0) (hs : GoodS s) (hpv : s.pv = 0 ∨ ∃ t, up σ y (some s) s.pv = some t) (hnx : s.nx = 0 ∨ ∃ t, up σ y (some s) s.nx = some t) :
    Calls Tryd.prog 28 #[.pointer (some ⟨x, 0, none⟩), .int .u64 (y : Nat), .agg s.row] W fun e w' => e = .returned (.tuple #[]) ∧ NxS w0 W O x ad S (n + 20) g (lyS y s σ) (lyF y s fs) (ct + 1) w' := by
  have g5 := heap_alloc_new W (.cells s.row 61)
  have hB := below_new W (.cells s.row 61)
  have hb5 : ∀ i, O i → i ≠ W.heap.size := fun i c e => by have := h.olt i c; omega
  generalize eW : W.alloc (.cells s.row 61) = W0 at *
  have hC := lay_c (h.below hB) hn hy y0 hs hpv hnx
  have hw1 : IntKind.i64.wrap ((ct : Int) + 1) = ((ct + 1 : Nat) : Int) := by rw [IntKind.wrap_i64] <;> omega
  have hw2 : wrap64 ((ct : Int) + 1) = ((ct + 1 : Nat) : Int) := by unfold wrap64; omega
  obtain ⟨q0, q1, q2, q3, q4, q5, q6, q7, q8, q9⟩ := cells10 g5
  clear h hpv hnx hy y0 hs hn hct
  go_enter Tryd.func28, Tryd.ntmps28
  go_upto_region 1 with fail
  (try rw [show (.agg s.row : Value).cells = s.row from rfl])
  (try rw [eW])
  go_wp2_with fail
  refine hC.mono ?_
  clear q0 q1 q2 q3 q4 q5 q6 q7 q8 q9
  rintro e w1 ⟨rfl, O1, h1, t1, o1⟩
  have k2 := h1.c2
  have gX := Hid.mk h1.blk
  go_wp2_with (first
    | (refine wpList_store_segTo rfl 3 _ _ rfl rfl x 2 _ #[.int .i64 ((ct + 1 : Nat) : Int)] rfl (by first | rfl | (simp only [hw2]; rfl) | (simp only [hw1]; rfl)) rfl 59 _ gX.out (show 2 + 1 ≤ 3 by decide) info1i (by simp [Value.oneCell']) #[.pointer (some ⟨ad, 0, none⟩), .int .u64 (lyF y s fs : Nat), .int .i64 ((ct + 1 : Nat) : Int)] rfl ?_; intro wq hrq htq)
    | fail)
  have HN := Hid.mk (NxS.base hB (NxS.trans t1 o1 (h1.setR hrq htq)))
  clear h1 t1 o1 hrq htq
  go_end0
  exact ⟨rfl, HN.out⟩
end TE
end Go.Proofs.YtcmndefjmhcbhaaDoor
