/- A step of a play: a look. Made by mktlby.py. -/
import Derived.Test.YthebhgllnjgjhaaDoorTlbY1
namespace Go.Proofs.YthebhgllnjgjhaaDoor
open Go.RowKit

set_option maxHeartbeats 16000000 in
set_option maxRecDepth 1000000 in
theorem step_2 {w0 w : World} {t : Nat} {most : Int} {l : List En} {ad : Option Addr} {cap : Nat} (h : PInv w0 w t most l ad cap) (hm : 1 ≤ most) (hm2 : most ≤ 64) (hF : Flds w0) (e : En) (he : e.ok) (N : Int) :
    Calls Tryd.prog 9 #[.pointer (some ⟨t, 0, none⟩), .int .i64 most, .slice ad l.length cap, .agg #[.int .i64 2, .int .i64 N, .int .i64 e.aid, .int .u64 e.va, .int .i64 e.lv, .int .i64 e.k, .int .u64 e.o, .bool e.u, .bool e.r, .bool e.x, .bool e.s, .int .i64 e.a]] w fun r w' => ∃ l' ad' cap', r = .returned (.tuple #[.slice ad' l'.length cap', .bool true]) ∧ PInv w0 w' t most l' ad' cap' := by
  have HP := Hid.mk h
  have HF := Hid.mk hF
  obtain ⟨X, hBuf, hXlo, hnX⟩ := h.ex
  have hXlt : ∀ i, X i → i < w.heap.size := by obtain ⟨v, h1⟩ := hBuf; exact h1.lt
  have HBUF := Hid.mk hBuf
  have HXLO := Hid.mk hXlo
  have HNX := Hid.mk hnX
  have HXLT := Hid.mk hXlt
  have hlnI : (l.length : Int) ≤ 64 := by have := h.ln; omega
  have HLN : Hid (l.length ≤ 64) := by show _ ≤ _; omega
  have HMO := Hid.mk (And.intro hm hm2)
  have hLS := fun w1 => listed_c e w1
  have HLV : Hid (∀ x ∈ l, isLv x.lv = true) := fun x hx => (right_facts (h.rt x hx)).1
  have HFD : Hid (∀ W Y, Buf W Y t most l → Calls Tryd.prog 14 #[.pointer (some ⟨t, 0, none⟩), .int .i64 e.aid, .int .u64 e.va] W fun r w' => r = .returned (.tuple #[(fndE (fun y => mB y e.aid e.va) l).v, .int .i64 ((cntE (fun y => mB y e.aid e.va) l : Nat) : Int)]) ∧ Below W.heap.size W w') := fun W Y h1 => find_c h1 (by have := HLN.out; omega) e.aid e.va he.1
  have HRD : Hid (∀ W, RdA W ad l → Calls Tryd.prog 25 #[.slice ad l.length cap, .int .i64 e.aid, .int .u64 e.va] W fun r w' => r = .returned (.tuple #[(fndE (fun y => mB y e.aid e.va) l).v, .int .i64 ((cntE (fun y => mB y e.aid e.va) l : Nat) : Int)]) ∧ Below W.heap.size W w') := fun W h1 => rfind_c l ad cap h1 HLV.out (by have := HLN.out; omega) e.aid e.va he.1
  have hLZ := fun w1 => listed_c (fndE (fun y => mB y e.aid e.va) l) w1
  clear HLV
  generalize fndE (fun y => mB y e.aid e.va) l = ZE at *
  generalize cntE (fun y => mB y e.aid e.va) l = ZN at *
  obtain ⟨z0, z1, z2, z3, z4, z5, z6, z7, z8, z9⟩ := ZE
  clear h hF hBuf hXlo hnX hXlt hm hm2
  obtain ⟨a0, a1, a2, a3, a4, a5, a6, a7, a8, a9⟩ := e
  simp only [En.v] at *
  go_enter Tryd.func9, Tryd.ntmps9
  go_wp2_with fail
  refine (hLS _).mono ?_
  rintro e w1 ⟨rfl, hb1⟩
  have K7 := Hid.mk (block_later (below_tr hb1 (below_new w1 (.cells #[.int .i64 a0, .int .u64 a1, .int .i64 a2, .int .i64 a3, .int .u64 a4, .bool a5, .bool a6, .bool a7, .bool a8, .int .i64 a9] 51))) (heap_alloc_new w (.cells #[.int .i64 2, .int .i64 N, .int .i64 a0, .int .u64 a1, .int .i64 a2, .int .i64 a3, .int .u64 a4, .bool a5, .bool a6, .bool a7, .bool a8, .int .i64 a9] 35)))
  have K10 := Hid.mk (heap_alloc_new w1 (.cells #[.int .i64 a0, .int .u64 a1, .int .i64 a2, .int .i64 a3, .int .u64 a4, .bool a5, .bool a6, .bool a7, .bool a8, .int .i64 a9] 51))
  have HB2 := Hid.mk (below_tr (below_tr (below_new w (.cells #[.int .i64 2, .int .i64 N, .int .i64 a0, .int .u64 a1, .int .i64 a2, .int .i64 a3, .int .u64 a4, .bool a5, .bool a6, .bool a7, .bool a8, .int .i64 a9] 35)) hb1) (below_new w1 (.cells #[.int .i64 a0, .int .u64 a1, .int .i64 a2, .int .i64 a3, .int .u64 a4, .bool a5, .bool a6, .bool a7, .bool a8, .int .i64 a9] 51)))
  have HXB : Hid (∀ i, X i → i ≠ w.heap.size ∧ i ≠ w1.heap.size) := fun i hi => by
    have := HXLT.out i hi
    have := (below_tr (below_new w (.cells #[.int .i64 2, .int .i64 N, .int .i64 a0, .int .u64 a1, .int .i64 a2, .int .i64 a3, .int .u64 a4, .bool a5, .bool a6, .bool a7, .bool a8, .int .i64 a9] 35)) hb1).size
    omega
  clear hb1
  go_upto_region 2 with fail
  generalize w1.alloc (.cells #[.int .i64 a0, .int .u64 a1, .int .i64 a2, .int .i64 a3, .int .u64 a4, .bool a5, .bool a6, .bool a7, .bool a8, .int .i64 a9] 51) = w2 at *
  generalize w1.heap.size = B10 at *
  obtain ⟨k0, k1, k2, k3, k4, k5, k6, k7, k8, k9, k10, k11⟩ := cells12 K7.out
  obtain ⟨q0, q1, q2, q3, q4, q5, q6, q7, q8, q9⟩ := cells10 K10.out
  go_wp2_with fail
  refine (HFD.out _ X (HBUF.out.later HB2.out)).mono ?_
  rintro e w3 ⟨rfl, hb3⟩
  have HB4 := Hid.mk (below_tr HB2.out (below_tr hb3 (below_new w3 (.cells #[.int .i64 z0, .int .u64 z1, .int .i64 z2, .int .i64 z3, .int .u64 z4, .bool z5, .bool z6, .bool z7, .bool z8, .int .i64 z9] 33))))
  have K10b := Hid.mk (block_later (below_tr hb3 (below_new w3 (.cells #[.int .i64 z0, .int .u64 z1, .int .i64 z2, .int .i64 z3, .int .u64 z4, .bool z5, .bool z6, .bool z7, .bool z8, .int .i64 z9] 33))) K10.out)
  have K13 := Hid.mk (heap_alloc_new w3 (.cells #[.int .i64 z0, .int .u64 z1, .int .i64 z2, .int .i64 z3, .int .u64 z4, .bool z5, .bool z6, .bool z7, .bool z8, .int .i64 z9] 33))
  clear k0 k1 k2 k3 k4 k5 k6 k7 k8 k9 k10 k11 q0 q1 q2 q3 q4 q5 q6 q7 q8 q9 K7 K10 hb3 HFD
  obtain ⟨q0, q1, q2, q3, q4, q5, q6, q7, q8, q9⟩ := cells10 K10b.out
  go_wp2_with fail
  refine (HRD.out _ (HP.out.rl.later HB4.out).rd).mono ?_
  rintro e w5 ⟨rfl, hb5⟩
  have HB6 := Hid.mk (below_tr HB4.out (below_tr hb5 (below_new w5 (.cells #[.int .i64 z0, .int .u64 z1, .int .i64 z2, .int .i64 z3, .int .u64 z4, .bool z5, .bool z6, .bool z7, .bool z8, .int .i64 z9] 51))))
  have K13b := Hid.mk (block_later (below_tr hb5 (below_new w5 (.cells #[.int .i64 z0, .int .u64 z1, .int .i64 z2, .int .i64 z3, .int .u64 z4, .bool z5, .bool z6, .bool z7, .bool z8, .int .i64 z9] 51))) K13.out)
  have K15 := Hid.mk (heap_alloc_new w5 (.cells #[.int .i64 z0, .int .u64 z1, .int .i64 z2, .int .i64 z3, .int .u64 z4, .bool z5, .bool z6, .bool z7, .bool z8, .int .i64 z9] 51))
  clear q0 q1 q2 q3 q4 q5 q6 q7 q8 q9 K10b K13 hb5 HRD HB4
  go_upto_region 13 with fail
  generalize w5.alloc (.cells #[.int .i64 z0, .int .u64 z1, .int .i64 z2, .int .i64 z3, .int .u64 z4, .bool z5, .bool z6, .bool z7, .bool z8, .int .i64 z9] 51) = w6 at *
  generalize w5.heap.size = B15 at *
  generalize w3.heap.size = B13 at *
  obtain ⟨q0, q1, q2, q3, q4, q5, q6, q7, q8, q9⟩ := cells10 K13b.out
  obtain ⟨f0, f1, f2, f3, f4, f5, f6, f7, f8, f9⟩ := cells10 K15.out
  go_wp2_with fail
  refine wp_region_noPanic ?_
  refine wp_region_held_drew (S := (fun w' => w'.cell? ⟨B13, 0, none⟩ = some (.int .i64 z0) ∧ w'.cell? ⟨B13, 1, none⟩ = some (.int .u64 z1) ∧ w'.cell? ⟨B13, 2, none⟩ = some (.int .i64 z2) ∧ w'.cell? ⟨B13, 3, none⟩ = some (.int .i64 z3) ∧ w'.cell? ⟨B13, 4, none⟩ = some (.int .u64 z4) ∧ w'.cell? ⟨B13, 5, none⟩ = some (.bool z5) ∧ w'.cell? ⟨B13, 6, none⟩ = some (.bool z6) ∧ w'.cell? ⟨B13, 7, none⟩ = some (.bool z7) ∧ w'.cell? ⟨B13, 8, none⟩ = some (.bool z8) ∧ w'.cell? ⟨B13, 9, none⟩ = some (.int .i64 z9) ∧ w'.cell? ⟨B15, 0, none⟩ = some (.int .i64 z0) ∧ w'.cell? ⟨B15, 1, none⟩ = some (.int .u64 z1) ∧ w'.cell? ⟨B15, 2, none⟩ = some (.int .i64 z2) ∧ w'.cell? ⟨B15, 3, none⟩ = some (.int .i64 z3) ∧ w'.cell? ⟨B15, 4, none⟩ = some (.int .u64 z4) ∧ w'.cell? ⟨B15, 5, none⟩ = some (.bool z5) ∧ w'.cell? ⟨B15, 6, none⟩ = some (.bool z6) ∧ w'.cell? ⟨B15, 7, none⟩ = some (.bool z7) ∧ w'.cell? ⟨B15, 8, none⟩ = some (.bool z8) ∧ w'.cell? ⟨B15, 9, none⟩ = some (.int .i64 z9))) (by kernel_rfl) ?_ (fun hHeld => ?_)
  · exact ⟨cell_later (Below.refl _ _).drew q0, cell_later (Below.refl _ _).drew q1, cell_later (Below.refl _ _).drew q2, cell_later (Below.refl _ _).drew q3, cell_later (Below.refl _ _).drew q4, cell_later (Below.refl _ _).drew q5, cell_later (Below.refl _ _).drew q6, cell_later (Below.refl _ _).drew q7, cell_later (Below.refl _ _).drew q8, cell_later (Below.refl _ _).drew q9, cell_later (Below.refl _ _).drew f0, cell_later (Below.refl _ _).drew f1, cell_later (Below.refl _ _).drew f2, cell_later (Below.refl _ _).drew f3, cell_later (Below.refl _ _).drew f4, cell_later (Below.refl _ _).drew f5, cell_later (Below.refl _ _).drew f6, cell_later (Below.refl _ _).drew f7, cell_later (Below.refl _ _).drew f8, cell_later (Below.refl _ _).drew f9⟩
  refine take_at (i := 0) (v := ?_) 68 rfl rfl (by kernel_rfl) (by kernel_rfl) (by kernel_rfl) (fun _ _ _ h => h) (Or.inl ⟨by rfl, ?_⟩) (by assumption) ?_
  rotate_left
  · (intro w' hSw; (try dsimp only at hSw); go_simp; all_goals with_reducible rfl)
  try simp only [Act.put, List.setIfInBounds_toArray, List.set_cons_zero, List.set_cons_succ]
  refine take_at (i := 1) (v := ?_) 69 rfl rfl (by kernel_rfl) (by kernel_rfl) (by kernel_rfl) (fun _ _ _ h => h) (Or.inl ⟨by rfl, ?_⟩) (by assumption) ?_
  rotate_left
  · (intro w' hSw; (try dsimp only at hSw); go_simp; all_goals with_reducible rfl)
  try simp only [Act.put, List.setIfInBounds_toArray, List.set_cons_zero, List.set_cons_succ]
  refine take_at (i := 3) (v := ?_) 71 rfl rfl (by kernel_rfl) (by kernel_rfl) (by kernel_rfl) (fun _ _ _ h => h) (Or.inl ⟨by rfl, ?_⟩) (by assumption) ?_
  rotate_left
  · (intro w' hSw; (try dsimp only at hSw); go_simp; all_goals with_reducible rfl)
  try simp only [Act.put, List.setIfInBounds_toArray, List.set_cons_zero, List.set_cons_succ]
  refine wpAnyH_ready (rs := [2]) (by kernel_rfl) (by simp) ?_
  refine AllReadyH.cons rfl (fun K hK => ?_) AllReadyH.nil
  go_simp
  refine (hLZ _).mono ?_
  rintro e w7 ⟨rfl, hbm⟩
  go_wp2_with fail
  have HB7 := Hid.mk (below_tr HB6.out (below_tr (Below.refl _ _).drew hbm))
  refine hK.out _ _ ⟨cell_later (below_tr (Below.refl _ _).drew hbm) q0, cell_later (below_tr (Below.refl _ _).drew hbm) q1, cell_later (below_tr (Below.refl _ _).drew hbm) q2, cell_later (below_tr (Below.refl _ _).drew hbm) q3, cell_later (below_tr (Below.refl _ _).drew hbm) q4, cell_later (below_tr (Below.refl _ _).drew hbm) q5, cell_later (below_tr (Below.refl _ _).drew hbm) q6, cell_later (below_tr (Below.refl _ _).drew hbm) q7, cell_later (below_tr (Below.refl _ _).drew hbm) q8, cell_later (below_tr (Below.refl _ _).drew hbm) q9, cell_later (below_tr (Below.refl _ _).drew hbm) f0, cell_later (below_tr (Below.refl _ _).drew hbm) f1, cell_later (below_tr (Below.refl _ _).drew hbm) f2, cell_later (below_tr (Below.refl _ _).drew hbm) f3, cell_later (below_tr (Below.refl _ _).drew hbm) f4, cell_later (below_tr (Below.refl _ _).drew hbm) f5, cell_later (below_tr (Below.refl _ _).drew hbm) f6, cell_later (below_tr (Below.refl _ _).drew hbm) f7, cell_later (below_tr (Below.refl _ _).drew hbm) f8, cell_later (below_tr (Below.refl _ _).drew hbm) f9⟩ (fun hHeld1 => ?_)
  clear hK hbm hHeld q0 q1 q2 q3 q4 q5 q6 q7 q8 q9 f0 f1 f2 f3 f4 f5 f6 f7 f8 f9
  try simp only [Act.put, List.setIfInBounds_toArray, List.set_cons_zero, List.set_cons_succ]
  refine take_at (i := 4) (v := ?_) 72 rfl rfl (by kernel_rfl) (by kernel_rfl) (by kernel_rfl) (fun _ _ _ h => h) (Or.inl ⟨by rfl, ?_⟩) (by assumption) ?_
  rotate_left
  · (intro w' hSw; (try dsimp only at hSw); go_simp; all_goals with_reducible rfl)
  try simp only [Act.put, List.setIfInBounds_toArray, List.set_cons_zero, List.set_cons_succ]
  refine take_at (i := 5) (v := ?_) 73 rfl rfl (by kernel_rfl) (by kernel_rfl) (by kernel_rfl) (fun _ _ _ h => h) (Or.inl ⟨by rfl, ?_⟩) (by assumption) ?_
  rotate_left
  · (intro w' hSw; (try dsimp only at hSw); go_simp; all_goals with_reducible rfl)
  try simp only [Act.put, List.setIfInBounds_toArray, List.set_cons_zero, List.set_cons_succ]
  refine take_at (i := 6) (v := ?_) 74 rfl rfl (by kernel_rfl) (by kernel_rfl) (by kernel_rfl) (fun _ _ _ h => h) (Or.inl ⟨by rfl, ?_⟩) (by assumption) ?_
  rotate_left
  · (intro w' hSw; (try dsimp only at hSw); go_simp; all_goals with_reducible rfl)
  try simp only [Act.put, List.setIfInBounds_toArray, List.set_cons_zero, List.set_cons_succ]
  refine take_at (i := 7) (v := ?_) 75 rfl rfl (by kernel_rfl) (by kernel_rfl) (by kernel_rfl) (fun _ _ _ h => h) (Or.inl ⟨by rfl, ?_⟩) (by assumption) ?_
  rotate_left
  · (intro w' hSw; (try dsimp only at hSw); go_simp; all_goals with_reducible rfl)
  try simp only [Act.put, List.setIfInBounds_toArray, List.set_cons_zero, List.set_cons_succ]
  refine take_at (i := 8) (v := ?_) 76 rfl rfl (by kernel_rfl) (by kernel_rfl) (by kernel_rfl) (fun _ _ _ h => h) (Or.inl ⟨by rfl, ?_⟩) (by assumption) ?_
  rotate_left
  · (intro w' hSw; (try dsimp only at hSw); go_simp; all_goals with_reducible rfl)
  try simp only [Act.put, List.setIfInBounds_toArray, List.set_cons_zero, List.set_cons_succ]
  refine take_at (i := 9) (v := ?_) 77 rfl rfl (by kernel_rfl) (by kernel_rfl) (by kernel_rfl) (fun _ _ _ h => h) (Or.inl ⟨by rfl, ?_⟩) (by assumption) ?_
  rotate_left
  · (intro w' hSw; (try dsimp only at hSw); go_simp; all_goals with_reducible rfl)
  try simp only [Act.put, List.setIfInBounds_toArray, List.set_cons_zero, List.set_cons_succ]
  refine take_at (i := 10) (v := ?_) 8 rfl rfl (by kernel_rfl) (by kernel_rfl) (by kernel_rfl) (fun _ _ _ h => h) (Or.inl ⟨by rfl, ?_⟩) (by assumption) ?_
  rotate_left
  · (intro w' hSw; (try dsimp only at hSw); go_simp; all_goals with_reducible rfl)
  try simp only [Act.put, List.setIfInBounds_toArray, List.set_cons_zero, List.set_cons_succ]
  refine take_at (i := 11) (v := ?_) 9 rfl rfl (by kernel_rfl) (by kernel_rfl) (by kernel_rfl) (fun _ _ _ h => h) (Or.inl ⟨by rfl, ?_⟩) (by assumption) ?_
  rotate_left
  · (intro w' hSw; (try dsimp only at hSw); go_simp; all_goals with_reducible rfl)
  try simp only [Act.put, List.setIfInBounds_toArray, List.set_cons_zero, List.set_cons_succ]
  refine wpAnyH_done (by kernel_rfl) ?_ _
  refine NoPanic.normal ?_
  go_wp2
  go_ret2
  exact ⟨l, _, _, rfl, HP.out.later HB7.out⟩

end Go.Proofs.YthebhgllnjgjhaaDoor
