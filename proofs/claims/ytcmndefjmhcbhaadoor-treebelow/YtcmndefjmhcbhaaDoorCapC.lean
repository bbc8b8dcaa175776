/- Capabilities, third part: Right. -/
import Derived.Test.YtcmndefjmhcbhaaDoorCapB
set_option linter.unusedVariables false
namespace Go.Proofs.YtcmndefjmhcbhaaDoor
open Go.RowKit

/-- Is a number at most two to the power of another one? -/
def leP (m : Nat) (b : Int) : Bool := decide (m ≤ 2 ^ b.toNat)
theorem shl_p {m : Nat} {b : Int} (h0 : 0 ≤ b) (h1 : b ≤ 32) : ∃ p : Nat, IntKind.u64.wrap ((2 : Int) ^ b.toNat) = (p : Int) ∧ decide (m ≤ p) = leP m b := by
  refine ⟨2 ^ b.toNat, ?_, rfl⟩
  have h2 : 2 ^ b.toNat ≤ 2 ^ 32 := Nat.pow_le_pow_right (by omega) (by omega)
  rw [show ((2 : Int) ^ b.toNat) = ((2 ^ b.toNat : Nat) : Int) by simp, IntKind.wrap_u64]
  generalize 2 ^ b.toNat = p at *
  omega
theorem rb_bits {k b : Int} (h : rbB k b = true) : 0 ≤ b ∧ b ≤ 32 ∧ (bitV k b = (((bitV k b).toNat : Nat) : Int) ∧ 5 ≤ (bitV k b).toNat ∧ (bitV k b).toNat ≤ 32) ∧ (k = 2 → 1 ≤ b ∧ b ≤ 12) ∧ (k = 10 → 1 ≤ b ∧ b ≤ 12) := by
  unfold rbB at h
  unfold bitV
  (repeat' split at h) <;> simp_all (config := { decide := true }) [levB, levV] <;> omega
def rr1 (b r g s : Int) (m : Nat) : Bool := if onB r g s m 0 0 0 m = true then (if leP m b = true then (alignedB m 5) else (false)) else (false)
set_option maxRecDepth 100000 in
set_option maxHeartbeats 4000000 in
theorem rest1_c (a : Nat) (b r g s : Int) (m : Nat) (hb : 0 ≤ b ∧ b ≤ 32) (hm : m < 18446744073709551616) (w : World) :
    Calls Tryd.prog 65 #[.agg #[.int .i64 1, .int .u64 (a : Nat), .int .i64 b, .int .i64 r, .int .i64 g, .int .i64 s, .int .u64 (m : Nat)]] w fun e w' => e = .returned (.bool (rr1 b r g s m)) ∧ Below w.heap.size w w' := by
  cases h1 : onB r g s m 0 0 0 m
  · have HE : Hid (rr1 b r g s m = (false)) := by
      show rr1 b r g s m = _
      unfold rr1
      rw [if_neg (ne_true_of_eq_false h1)]
    obtain ⟨p, e1, hp⟩ := shl_p (m := m) hb.1 hb.2
    have cO := fun w1 => only_any 1 a b r g s m (v0 := .int .i64 0) (v1 := .int .u64 0) (v2 := .int .i64 0) 0 0 0 m (M2 := (m : Int)) rfl w1
    rw [h1] at cO
    have cA := fun w1 => aligned_any m 5 hm w1
    go_enter Tryd.func65, Tryd.ntmps65
    go_upto_region 3 with fail
    have gC := heap_alloc_new w (.cells #[.int .i64 1, .int .u64 (a : Nat), .int .i64 b, .int .i64 r, .int .i64 g, .int .i64 s, .int .u64 (m : Nat)] 33)
    have hB := below_new w (.cells #[.int .i64 1, .int .u64 (a : Nat), .int .i64 b, .int .i64 r, .int .i64 g, .int .i64 s, .int .u64 (m : Nat)] 33)
    generalize w.alloc (.cells #[.int .i64 1, .int .u64 (a : Nat), .int .i64 b, .int .i64 r, .int .i64 g, .int .i64 s, .int .u64 (m : Nat)] 33) = W at *
    obtain ⟨k0, k1, k2, k3, k4, k5, k6⟩ := cells7 gC
    refine wp_region_noPanic ?_
    refine wp_region_held_drew (S := (fun w' => w'.cell? ⟨w.heap.size, 0, none⟩ = some (.int .i64 1) ∧ w'.cell? ⟨w.heap.size, 1, none⟩ = some (.int .u64 (a : Nat)) ∧ w'.cell? ⟨w.heap.size, 2, none⟩ = some (.int .i64 b) ∧ w'.cell? ⟨w.heap.size, 3, none⟩ = some (.int .i64 r) ∧ w'.cell? ⟨w.heap.size, 4, none⟩ = some (.int .i64 g) ∧ w'.cell? ⟨w.heap.size, 5, none⟩ = some (.int .i64 s) ∧ w'.cell? ⟨w.heap.size, 6, none⟩ = some (.int .u64 (m : Nat)))) (by kernel_rfl) ?_ (fun hHeld => ?_)
    · exact ⟨cell_later (Below.refl _ _).drew k0, cell_later (Below.refl _ _).drew k1, cell_later (Below.refl _ _).drew k2, cell_later (Below.refl _ _).drew k3, cell_later (Below.refl _ _).drew k4, cell_later (Below.refl _ _).drew k5, cell_later (Below.refl _ _).drew k6⟩
    replace k0 := cell_later (Below.refl _ W).drew k0
    replace k1 := cell_later (Below.refl _ W).drew k1
    replace k2 := cell_later (Below.refl _ W).drew k2
    replace k3 := cell_later (Below.refl _ W).drew k3
    replace k4 := cell_later (Below.refl _ W).drew k4
    replace k5 := cell_later (Below.refl _ W).drew k5
    replace k6 := cell_later (Below.refl _ W).drew k6
    replace gC := block_later (Below.refl _ W).drew gC
    replace hB := below_tr hB (Below.refl _ W).drew
    generalize W.drew = Wd at *
    refine take_at (i := 0) (v := ?_) 7 rfl rfl (by kernel_rfl) (by kernel_rfl) (by kernel_rfl) (fun _ _ _ h => h) (Or.inl ⟨by rfl, ?_⟩) (by assumption) ?_
    rotate_left
    · (intro w' hSw; (try dsimp only at hSw); go_simp; all_goals with_reducible rfl)
    try simp only [Act.put, List.setIfInBounds_toArray, List.set_cons_zero, List.set_cons_succ]
    refine take_at (i := 1) (v := ?_) 8 rfl rfl (by kernel_rfl) (by kernel_rfl) (by kernel_rfl) (fun _ _ _ h => h) (Or.inl ⟨by rfl, ?_⟩) (by assumption) ?_
    rotate_left
    · (intro w' hSw; (try dsimp only at hSw); go_simp; all_goals with_reducible rfl)
    try simp only [Act.put, List.setIfInBounds_toArray, List.set_cons_zero, List.set_cons_succ]
    refine take_at (i := 2) (v := ?_) 9 rfl rfl (by kernel_rfl) (by kernel_rfl) (by kernel_rfl) (fun _ _ _ h => h) (Or.inl ⟨by rfl, ?_⟩) (by assumption) ?_
    rotate_left
    · (intro w' hSw; (try dsimp only at hSw); go_simp; all_goals with_reducible rfl)
    try simp only [Act.put, List.setIfInBounds_toArray, List.set_cons_zero, List.set_cons_succ]
    refine take_at (i := 3) (v := ?_) 10 rfl rfl (by kernel_rfl) (by kernel_rfl) (by kernel_rfl) (fun _ _ _ h => h) (Or.inl ⟨by rfl, ?_⟩) (by assumption) ?_
    rotate_left
    · (intro w' hSw; (try dsimp only at hSw); go_simp; all_goals with_reducible rfl)
    try simp only [Act.put, List.setIfInBounds_toArray, List.set_cons_zero, List.set_cons_succ]
    refine wpAnyH_ready (rs := [4]) (by kernel_rfl) (by simp) ?_
    refine AllReadyH.cons rfl (fun K hK => ?_) AllReadyH.nil
    go_simp
    refine (cO _).mono ?_
    rintro e wc1 ⟨rfl, hb⟩
    go_wp2_with fail
    replace k0 := cell_later hb k0
    replace k1 := cell_later hb k1
    replace k2 := cell_later hb k2
    replace k3 := cell_later hb k3
    replace k4 := cell_later hb k4
    replace k5 := cell_later hb k5
    replace k6 := cell_later hb k6
    replace gC := block_later hb gC
    replace hB := below_tr hB hb
    refine hK.out _ _ ⟨k0, k1, k2, k3, k4, k5, k6⟩ (fun hHeld1 => ?_)
    clear hK
    try simp only [Act.put, List.setIfInBounds_toArray, List.set_cons_zero, List.set_cons_succ]
    refine take_at (i := 5) (v := ?_) 12 rfl rfl (by kernel_rfl) (by kernel_rfl) (by kernel_rfl) (fun _ _ _ h => h) (Or.inl ⟨by rfl, ?_⟩) (by assumption) ?_
    rotate_left
    · (intro w' hSw; (try dsimp only at hSw); go_simp; all_goals with_reducible rfl)
    try simp only [Act.put, List.setIfInBounds_toArray, List.set_cons_zero, List.set_cons_succ]
    refine take_at (i := 6) (v := undef) 13 rfl rfl (by kernel_rfl) (by kernel_rfl) (by kernel_rfl) (fun _ _ _ h => h) (Or.inr ⟨by rfl, rfl⟩) (by assumption) ?_
    try simp only [Act.put, List.setIfInBounds_toArray, List.set_cons_zero, List.set_cons_succ]
    refine take_at (i := 7) (v := undef) 14 rfl rfl (by kernel_rfl) (by kernel_rfl) (by kernel_rfl) (fun _ _ _ h => h) (Or.inr ⟨by rfl, rfl⟩) (by assumption) ?_
    try simp only [Act.put, List.setIfInBounds_toArray, List.set_cons_zero, List.set_cons_succ]
    refine take_at (i := 8) (v := undef) 15 rfl rfl (by kernel_rfl) (by kernel_rfl) (by kernel_rfl) (fun _ _ _ h => h) (Or.inr ⟨by rfl, rfl⟩) (by assumption) ?_
    try simp only [Act.put, List.setIfInBounds_toArray, List.set_cons_zero, List.set_cons_succ]
    refine take_at (i := 9) (v := undef) 16 rfl rfl (by kernel_rfl) (by kernel_rfl) (by kernel_rfl) (fun _ _ _ h => h) (Or.inr ⟨by rfl, rfl⟩) (by assumption) ?_
    try simp only [Act.put, List.setIfInBounds_toArray, List.set_cons_zero, List.set_cons_succ]
    refine take_at (i := 10) (v := undef) 17 rfl rfl (by kernel_rfl) (by kernel_rfl) (by kernel_rfl) (fun _ _ _ h => h) (Or.inr ⟨by rfl, rfl⟩) (by assumption) ?_
    try simp only [Act.put, List.setIfInBounds_toArray, List.set_cons_zero, List.set_cons_succ]
    refine take_at (i := 11) (v := undef) 18 rfl rfl (by kernel_rfl) (by kernel_rfl) (by kernel_rfl) (fun _ _ _ h => h) (Or.inr ⟨by rfl, rfl⟩) (by assumption) ?_
    try simp only [Act.put, List.setIfInBounds_toArray, List.set_cons_zero, List.set_cons_succ]
    refine take_at (i := 12) (v := ?_) 19 rfl rfl (by kernel_rfl) (by kernel_rfl) (by kernel_rfl) (fun _ _ _ h => h) (Or.inl ⟨by rfl, ?_⟩) (by assumption) ?_
    rotate_left
    · (intro w' hSw; (try dsimp only at hSw); go_simp; all_goals with_reducible rfl)
    try simp only [Act.put, List.setIfInBounds_toArray, List.set_cons_zero, List.set_cons_succ]
    refine take_at (i := 13) (v := ?_) 20 rfl rfl (by kernel_rfl) (by kernel_rfl) (by kernel_rfl) (fun _ _ _ h => h) (Or.inl ⟨by rfl, ?_⟩) (by assumption) ?_
    rotate_left
    · (intro w' hSw; (try dsimp only at hSw); go_simp; all_goals with_reducible rfl)
    try simp only [Act.put, List.setIfInBounds_toArray, List.set_cons_zero, List.set_cons_succ]
    refine take_at (i := 14) (v := undef) 21 rfl rfl (by kernel_rfl) (by kernel_rfl) (by kernel_rfl) (fun _ _ _ h => h) (Or.inr ⟨by rfl, rfl⟩) (by assumption) ?_
    try simp only [Act.put, List.setIfInBounds_toArray, List.set_cons_zero, List.set_cons_succ]
    refine take_at (i := 15) (v := undef) 22 rfl rfl (by kernel_rfl) (by kernel_rfl) (by kernel_rfl) (fun _ _ _ h => h) (Or.inr ⟨by rfl, rfl⟩) (by assumption) ?_
    try simp only [Act.put, List.setIfInBounds_toArray, List.set_cons_zero, List.set_cons_succ]
    refine take_at (i := 16) (v := undef) 23 rfl rfl (by kernel_rfl) (by kernel_rfl) (by kernel_rfl) (fun _ _ _ h => h) (Or.inr ⟨by rfl, rfl⟩) (by assumption) ?_
    try simp only [Act.put, List.setIfInBounds_toArray, List.set_cons_zero, List.set_cons_succ]
    refine take_at (i := 17) (v := ?_) 24 rfl rfl (by kernel_rfl) (by kernel_rfl) (by kernel_rfl) (fun _ _ _ h => h) (Or.inl ⟨by rfl, ?_⟩) (by assumption) ?_
    rotate_left
    · (intro w' hSw; (try dsimp only at hSw); go_simp; all_goals with_reducible rfl)
    try simp only [Act.put, List.setIfInBounds_toArray, List.set_cons_zero, List.set_cons_succ]
    refine take_at (i := 18) (v := ?_) 2 rfl rfl (by kernel_rfl) (by kernel_rfl) (by kernel_rfl) (fun _ _ _ h => h) (Or.inl ⟨by rfl, ?_⟩) (by assumption) ?_
    rotate_left
    · (intro w' hSw; (try dsimp only at hSw); go_simp; all_goals with_reducible rfl)
    try simp only [Act.put, List.setIfInBounds_toArray, List.set_cons_zero, List.set_cons_succ]
    refine wpAnyH_done (by kernel_rfl) ?_ _
    refine NoPanic.normal ?_
    all_goals go_wp2
    all_goals go_ret
    all_goals exact ⟨by first | (rw [HE.out]; done) | (rw [HE.out]; rfl), hB⟩
  · cases h2 : leP m b
    · have HE : Hid (rr1 b r g s m = (false)) := by
        show rr1 b r g s m = _
        unfold rr1
        rw [if_pos h1, if_neg (ne_true_of_eq_false h2)]
      obtain ⟨p, e1, hp⟩ := shl_p (m := m) hb.1 hb.2
      rw [h2] at hp
      have cO := fun w1 => only_any 1 a b r g s m (v0 := .int .i64 0) (v1 := .int .u64 0) (v2 := .int .i64 0) 0 0 0 m (M2 := (m : Int)) rfl w1
      rw [h1] at cO
      have cA := fun w1 => aligned_any m 5 hm w1
      go_enter Tryd.func65, Tryd.ntmps65
      go_upto_region 3 with fail
      have gC := heap_alloc_new w (.cells #[.int .i64 1, .int .u64 (a : Nat), .int .i64 b, .int .i64 r, .int .i64 g, .int .i64 s, .int .u64 (m : Nat)] 33)
      have hB := below_new w (.cells #[.int .i64 1, .int .u64 (a : Nat), .int .i64 b, .int .i64 r, .int .i64 g, .int .i64 s, .int .u64 (m : Nat)] 33)
      generalize w.alloc (.cells #[.int .i64 1, .int .u64 (a : Nat), .int .i64 b, .int .i64 r, .int .i64 g, .int .i64 s, .int .u64 (m : Nat)] 33) = W at *
      obtain ⟨k0, k1, k2, k3, k4, k5, k6⟩ := cells7 gC
      refine wp_region_noPanic ?_
      refine wp_region_held_drew (S := (fun w' => w'.cell? ⟨w.heap.size, 0, none⟩ = some (.int .i64 1) ∧ w'.cell? ⟨w.heap.size, 1, none⟩ = some (.int .u64 (a : Nat)) ∧ w'.cell? ⟨w.heap.size, 2, none⟩ = some (.int .i64 b) ∧ w'.cell? ⟨w.heap.size, 3, none⟩ = some (.int .i64 r) ∧ w'.cell? ⟨w.heap.size, 4, none⟩ = some (.int .i64 g) ∧ w'.cell? ⟨w.heap.size, 5, none⟩ = some (.int .i64 s) ∧ w'.cell? ⟨w.heap.size, 6, none⟩ = some (.int .u64 (m : Nat)))) (by kernel_rfl) ?_ (fun hHeld => ?_)
      · exact ⟨cell_later (Below.refl _ _).drew k0, cell_later (Below.refl _ _).drew k1, cell_later (Below.refl _ _).drew k2, cell_later (Below.refl _ _).drew k3, cell_later (Below.refl _ _).drew k4, cell_later (Below.refl _ _).drew k5, cell_later (Below.refl _ _).drew k6⟩
      replace k0 := cell_later (Below.refl _ W).drew k0
      replace k1 := cell_later (Below.refl _ W).drew k1
      replace k2 := cell_later (Below.refl _ W).drew k2
      replace k3 := cell_later (Below.refl _ W).drew k3
      replace k4 := cell_later (Below.refl _ W).drew k4
      replace k5 := cell_later (Below.refl _ W).drew k5
      replace k6 := cell_later (Below.refl _ W).drew k6
      replace gC := block_later (Below.refl _ W).drew gC
      replace hB := below_tr hB (Below.refl _ W).drew
      generalize W.drew = Wd at *
      refine take_at (i := 0) (v := ?_) 7 rfl rfl (by kernel_rfl) (by kernel_rfl) (by kernel_rfl) (fun _ _ _ h => h) (Or.inl ⟨by rfl, ?_⟩) (by assumption) ?_
      rotate_left
      · (intro w' hSw; (try dsimp only at hSw); go_simp; all_goals with_reducible rfl)
      try simp only [Act.put, List.setIfInBounds_toArray, List.set_cons_zero, List.set_cons_succ]
      refine take_at (i := 1) (v := ?_) 8 rfl rfl (by kernel_rfl) (by kernel_rfl) (by kernel_rfl) (fun _ _ _ h => h) (Or.inl ⟨by rfl, ?_⟩) (by assumption) ?_
      rotate_left
      · (intro w' hSw; (try dsimp only at hSw); go_simp; all_goals with_reducible rfl)
      try simp only [Act.put, List.setIfInBounds_toArray, List.set_cons_zero, List.set_cons_succ]
      refine take_at (i := 2) (v := ?_) 9 rfl rfl (by kernel_rfl) (by kernel_rfl) (by kernel_rfl) (fun _ _ _ h => h) (Or.inl ⟨by rfl, ?_⟩) (by assumption) ?_
      rotate_left
      · (intro w' hSw; (try dsimp only at hSw); go_simp; all_goals with_reducible rfl)
      try simp only [Act.put, List.setIfInBounds_toArray, List.set_cons_zero, List.set_cons_succ]
      refine take_at (i := 3) (v := ?_) 10 rfl rfl (by kernel_rfl) (by kernel_rfl) (by kernel_rfl) (fun _ _ _ h => h) (Or.inl ⟨by rfl, ?_⟩) (by assumption) ?_
      rotate_left
      · (intro w' hSw; (try dsimp only at hSw); go_simp; all_goals with_reducible rfl)
      try simp only [Act.put, List.setIfInBounds_toArray, List.set_cons_zero, List.set_cons_succ]
      refine wpAnyH_ready (rs := [4]) (by kernel_rfl) (by simp) ?_
      refine AllReadyH.cons rfl (fun K hK => ?_) AllReadyH.nil
      go_simp
      refine (cO _).mono ?_
      rintro e wc1 ⟨rfl, hb⟩
      go_wp2_with fail
      replace k0 := cell_later hb k0
      replace k1 := cell_later hb k1
      replace k2 := cell_later hb k2
      replace k3 := cell_later hb k3
      replace k4 := cell_later hb k4
      replace k5 := cell_later hb k5
      replace k6 := cell_later hb k6
      replace gC := block_later hb gC
      replace hB := below_tr hB hb
      refine hK.out _ _ ⟨k0, k1, k2, k3, k4, k5, k6⟩ (fun hHeld1 => ?_)
      clear hK
      try simp only [Act.put, List.setIfInBounds_toArray, List.set_cons_zero, List.set_cons_succ]
      refine take_at (i := 5) (v := ?_) 12 rfl rfl (by kernel_rfl) (by kernel_rfl) (by kernel_rfl) (fun _ _ _ h => h) (Or.inl ⟨by rfl, ?_⟩) (by assumption) ?_
      rotate_left
      · (intro w' hSw; (try dsimp only at hSw); go_simp; all_goals with_reducible rfl)
      try simp only [Act.put, List.setIfInBounds_toArray, List.set_cons_zero, List.set_cons_succ]
      refine take_at (i := 6) (v := ?_) 13 rfl rfl (by kernel_rfl) (by kernel_rfl) (by kernel_rfl) (fun _ _ _ h => h) (Or.inl ⟨by rfl, ?_⟩) (by assumption) ?_
      rotate_left
      · (intro w' hSw; (try dsimp only at hSw); go_simp; all_goals with_reducible rfl)
      try simp only [Act.put, List.setIfInBounds_toArray, List.set_cons_zero, List.set_cons_succ]
      refine take_at (i := 7) (v := ?_) 14 rfl rfl (by kernel_rfl) (by kernel_rfl) (by kernel_rfl) (fun _ _ _ h => h) (Or.inl ⟨by rfl, ?_⟩) (by assumption) ?_
      rotate_left
      · (intro w' hSw; (try dsimp only at hSw); go_simp; all_goals with_reducible rfl)
      try simp only [Act.put, List.setIfInBounds_toArray, List.set_cons_zero, List.set_cons_succ]
      refine take_at (i := 8) (v := ?_) 15 rfl rfl (by kernel_rfl) (by kernel_rfl) (by kernel_rfl) (fun _ _ _ h => h) (Or.inl ⟨by rfl, ?_⟩) (by assumption) ?_
      rotate_left
      · (intro w' hSw; (try dsimp only at hSw); go_simp; all_goals with_reducible rfl)
      try simp only [Act.put, List.setIfInBounds_toArray, List.set_cons_zero, List.set_cons_succ]
      refine take_at (i := 9) (v := ?_) 16 rfl rfl (by kernel_rfl) (by kernel_rfl) (by kernel_rfl) (fun _ _ _ h => h) (Or.inl ⟨by rfl, ?_⟩) (by assumption) ?_
      rotate_left
      · (intro w' hSw; (try dsimp only at hSw); go_simp; all_goals with_reducible rfl)
      try simp only [Act.put, List.setIfInBounds_toArray, List.set_cons_zero, List.set_cons_succ]
      refine take_at (i := 10) (v := ?_) 17 rfl rfl (by kernel_rfl) (by kernel_rfl) (by kernel_rfl) (fun _ _ _ h => h) (Or.inl ⟨by rfl, ?_⟩) (by assumption) ?_
      rotate_left
      · (intro w' hSw; (try dsimp only at hSw); go_simp; all_goals with_reducible rfl)
      try simp only [Act.put, List.setIfInBounds_toArray, List.set_cons_zero, List.set_cons_succ]
      refine take_at (i := 11) (v := ?_) 18 rfl rfl (by kernel_rfl) (by kernel_rfl) (by kernel_rfl) (fun _ _ _ h => h) (Or.inl ⟨by rfl, ?_⟩) (by assumption) ?_
      rotate_left
      · (intro w' hSw; (try dsimp only at hSw); go_simp; all_goals with_reducible rfl)
      try simp only [Act.put, List.setIfInBounds_toArray, List.set_cons_zero, List.set_cons_succ]
      refine take_at (i := 12) (v := ?_) 19 rfl rfl (by kernel_rfl) (by kernel_rfl) (by kernel_rfl) (fun _ _ _ h => h) (Or.inl ⟨by rfl, ?_⟩) (by assumption) ?_
      rotate_left
      · (intro w' hSw; (try dsimp only at hSw); go_simp; all_goals with_reducible rfl)
      try simp only [Act.put, List.setIfInBounds_toArray, List.set_cons_zero, List.set_cons_succ]
      refine take_at (i := 13) (v := ?_) 20 rfl rfl (by kernel_rfl) (by kernel_rfl) (by kernel_rfl) (fun _ _ _ h => h) (Or.inl ⟨by rfl, ?_⟩) (by assumption) ?_
      rotate_left
      · (intro w' hSw; (try dsimp only at hSw); go_simp; all_goals with_reducible rfl)
      try simp only [Act.put, List.setIfInBounds_toArray, List.set_cons_zero, List.set_cons_succ]
      refine take_at (i := 14) (v := undef) 21 rfl rfl (by kernel_rfl) (by kernel_rfl) (by kernel_rfl) (fun _ _ _ h => h) (Or.inr ⟨by rfl, rfl⟩) (by assumption) ?_
      try simp only [Act.put, List.setIfInBounds_toArray, List.set_cons_zero, List.set_cons_succ]
      refine take_at (i := 15) (v := undef) 22 rfl rfl (by kernel_rfl) (by kernel_rfl) (by kernel_rfl) (fun _ _ _ h => h) (Or.inr ⟨by rfl, rfl⟩) (by assumption) ?_
      try simp only [Act.put, List.setIfInBounds_toArray, List.set_cons_zero, List.set_cons_succ]
      refine take_at (i := 16) (v := undef) 23 rfl rfl (by kernel_rfl) (by kernel_rfl) (by kernel_rfl) (fun _ _ _ h => h) (Or.inr ⟨by rfl, rfl⟩) (by assumption) ?_
      try simp only [Act.put, List.setIfInBounds_toArray, List.set_cons_zero, List.set_cons_succ]
      refine take_at (i := 17) (v := ?_) 24 rfl rfl (by kernel_rfl) (by kernel_rfl) (by kernel_rfl) (fun _ _ _ h => h) (Or.inl ⟨by rfl, ?_⟩) (by assumption) ?_
      rotate_left
      · (intro w' hSw; (try dsimp only at hSw); go_simp; all_goals with_reducible rfl)
      try simp only [Act.put, List.setIfInBounds_toArray, List.set_cons_zero, List.set_cons_succ]
      refine take_at (i := 18) (v := ?_) 2 rfl rfl (by kernel_rfl) (by kernel_rfl) (by kernel_rfl) (fun _ _ _ h => h) (Or.inl ⟨by rfl, ?_⟩) (by assumption) ?_
      rotate_left
      · (intro w' hSw; (try dsimp only at hSw); go_simp; all_goals with_reducible rfl)
      try simp only [Act.put, List.setIfInBounds_toArray, List.set_cons_zero, List.set_cons_succ]
      refine wpAnyH_done (by kernel_rfl) ?_ _
      refine NoPanic.normal ?_
      all_goals go_wp2
      all_goals go_ret
      all_goals exact ⟨by first | (rw [HE.out]; done) | (rw [HE.out]; rfl), hB⟩
    · have HE : Hid (rr1 b r g s m = (alignedB m 5)) := by
        show rr1 b r g s m = _
        unfold rr1
        rw [if_pos h1, if_pos h2]
      obtain ⟨p, e1, hp⟩ := shl_p (m := m) hb.1 hb.2
      rw [h2] at hp
      have cO := fun w1 => only_any 1 a b r g s m (v0 := .int .i64 0) (v1 := .int .u64 0) (v2 := .int .i64 0) 0 0 0 m (M2 := (m : Int)) rfl w1
      rw [h1] at cO
      have cA := fun w1 => aligned_any m 5 hm w1
      go_enter Tryd.func65, Tryd.ntmps65
      go_upto_region 3 with fail
      have gC := heap_alloc_new w (.cells #[.int .i64 1, .int .u64 (a : Nat), .int .i64 b, .int .i64 r, .int .i64 g, .int .i64 s, .int .u64 (m : Nat)] 33)
      have hB := below_new w (.cells #[.int .i64 1, .int .u64 (a : Nat), .int .i64 b, .int .i64 r, .int .i64 g, .int .i64 s, .int .u64 (m : Nat)] 33)
      generalize w.alloc (.cells #[.int .i64 1, .int .u64 (a : Nat), .int .i64 b, .int .i64 r, .int .i64 g, .int .i64 s, .int .u64 (m : Nat)] 33) = W at *
      obtain ⟨k0, k1, k2, k3, k4, k5, k6⟩ := cells7 gC
      refine wp_region_noPanic ?_
      refine wp_region_held_drew (S := (fun w' => w'.cell? ⟨w.heap.size, 0, none⟩ = some (.int .i64 1) ∧ w'.cell? ⟨w.heap.size, 1, none⟩ = some (.int .u64 (a : Nat)) ∧ w'.cell? ⟨w.heap.size, 2, none⟩ = some (.int .i64 b) ∧ w'.cell? ⟨w.heap.size, 3, none⟩ = some (.int .i64 r) ∧ w'.cell? ⟨w.heap.size, 4, none⟩ = some (.int .i64 g) ∧ w'.cell? ⟨w.heap.size, 5, none⟩ = some (.int .i64 s) ∧ w'.cell? ⟨w.heap.size, 6, none⟩ = some (.int .u64 (m : Nat)))) (by kernel_rfl) ?_ (fun hHeld => ?_)
      · exact ⟨cell_later (Below.refl _ _).drew k0, cell_later (Below.refl _ _).drew k1, cell_later (Below.refl _ _).drew k2, cell_later (Below.refl _ _).drew k3, cell_later (Below.refl _ _).drew k4, cell_later (Below.refl _ _).drew k5, cell_later (Below.refl _ _).drew k6⟩
      replace k0 := cell_later (Below.refl _ W).drew k0
      replace k1 := cell_later (Below.refl _ W).drew k1
      replace k2 := cell_later (Below.refl _ W).drew k2
      replace k3 := cell_later (Below.refl _ W).drew k3
      replace k4 := cell_later (Below.refl _ W).drew k4
      replace k5 := cell_later (Below.refl _ W).drew k5
      replace k6 := cell_later (Below.refl _ W).drew k6
      replace gC := block_later (Below.refl _ W).drew gC
      replace hB := below_tr hB (Below.refl _ W).drew
      generalize W.drew = Wd at *
      refine take_at (i := 0) (v := ?_) 7 rfl rfl (by kernel_rfl) (by kernel_rfl) (by kernel_rfl) (fun _ _ _ h => h) (Or.inl ⟨by rfl, ?_⟩) (by assumption) ?_
      rotate_left
      · (intro w' hSw; (try dsimp only at hSw); go_simp; all_goals with_reducible rfl)
      try simp only [Act.put, List.setIfInBounds_toArray, List.set_cons_zero, List.set_cons_succ]
      refine take_at (i := 1) (v := ?_) 8 rfl rfl (by kernel_rfl) (by kernel_rfl) (by kernel_rfl) (fun _ _ _ h => h) (Or.inl ⟨by rfl, ?_⟩) (by assumption) ?_
      rotate_left
      · (intro w' hSw; (try dsimp only at hSw); go_simp; all_goals with_reducible rfl)
      try simp only [Act.put, List.setIfInBounds_toArray, List.set_cons_zero, List.set_cons_succ]
      refine take_at (i := 2) (v := ?_) 9 rfl rfl (by kernel_rfl) (by kernel_rfl) (by kernel_rfl) (fun _ _ _ h => h) (Or.inl ⟨by rfl, ?_⟩) (by assumption) ?_
      rotate_left
      · (intro w' hSw; (try dsimp only at hSw); go_simp; all_goals with_reducible rfl)
      try simp only [Act.put, List.setIfInBounds_toArray, List.set_cons_zero, List.set_cons_succ]
      refine take_at (i := 3) (v := ?_) 10 rfl rfl (by kernel_rfl) (by kernel_rfl) (by kernel_rfl) (fun _ _ _ h => h) (Or.inl ⟨by rfl, ?_⟩) (by assumption) ?_
      rotate_left
      · (intro w' hSw; (try dsimp only at hSw); go_simp; all_goals with_reducible rfl)
      try simp only [Act.put, List.setIfInBounds_toArray, List.set_cons_zero, List.set_cons_succ]
      refine wpAnyH_ready (rs := [4]) (by kernel_rfl) (by simp) ?_
      refine AllReadyH.cons rfl (fun K hK => ?_) AllReadyH.nil
      go_simp
      refine (cO _).mono ?_
      rintro e wc1 ⟨rfl, hb⟩
      go_wp2_with fail
      replace k0 := cell_later hb k0
      replace k1 := cell_later hb k1
      replace k2 := cell_later hb k2
      replace k3 := cell_later hb k3
      replace k4 := cell_later hb k4
      replace k5 := cell_later hb k5
      replace k6 := cell_later hb k6
      replace gC := block_later hb gC
      replace hB := below_tr hB hb
      refine hK.out _ _ ⟨k0, k1, k2, k3, k4, k5, k6⟩ (fun hHeld1 => ?_)
      clear hK
      try simp only [Act.put, List.setIfInBounds_toArray, List.set_cons_zero, List.set_cons_succ]
      refine take_at (i := 5) (v := ?_) 12 rfl rfl (by kernel_rfl) (by kernel_rfl) (by kernel_rfl) (fun _ _ _ h => h) (Or.inl ⟨by rfl, ?_⟩) (by assumption) ?_
      rotate_left
      · (intro w' hSw; (try dsimp only at hSw); go_simp; all_goals with_reducible rfl)
      try simp only [Act.put, List.setIfInBounds_toArray, List.set_cons_zero, List.set_cons_succ]
      refine take_at (i := 6) (v := ?_) 13 rfl rfl (by kernel_rfl) (by kernel_rfl) (by kernel_rfl) (fun _ _ _ h => h) (Or.inl ⟨by rfl, ?_⟩) (by assumption) ?_
      rotate_left
      · (intro w' hSw; (try dsimp only at hSw); go_simp; all_goals with_reducible rfl)
      try simp only [Act.put, List.setIfInBounds_toArray, List.set_cons_zero, List.set_cons_succ]
      refine take_at (i := 7) (v := ?_) 14 rfl rfl (by kernel_rfl) (by kernel_rfl) (by kernel_rfl) (fun _ _ _ h => h) (Or.inl ⟨by rfl, ?_⟩) (by assumption) ?_
      rotate_left
      · (intro w' hSw; (try dsimp only at hSw); go_simp; all_goals with_reducible rfl)
      try simp only [Act.put, List.setIfInBounds_toArray, List.set_cons_zero, List.set_cons_succ]
      refine take_at (i := 8) (v := ?_) 15 rfl rfl (by kernel_rfl) (by kernel_rfl) (by kernel_rfl) (fun _ _ _ h => h) (Or.inl ⟨by rfl, ?_⟩) (by assumption) ?_
      rotate_left
      · (intro w' hSw; (try dsimp only at hSw); go_simp; all_goals with_reducible rfl)
      try simp only [Act.put, List.setIfInBounds_toArray, List.set_cons_zero, List.set_cons_succ]
      refine take_at (i := 9) (v := ?_) 16 rfl rfl (by kernel_rfl) (by kernel_rfl) (by kernel_rfl) (fun _ _ _ h => h) (Or.inl ⟨by rfl, ?_⟩) (by assumption) ?_
      rotate_left
      · (intro w' hSw; (try dsimp only at hSw); go_simp; all_goals with_reducible rfl)
      try simp only [Act.put, List.setIfInBounds_toArray, List.set_cons_zero, List.set_cons_succ]
      refine take_at (i := 10) (v := ?_) 17 rfl rfl (by kernel_rfl) (by kernel_rfl) (by kernel_rfl) (fun _ _ _ h => h) (Or.inl ⟨by rfl, ?_⟩) (by assumption) ?_
      rotate_left
      · (intro w' hSw; (try dsimp only at hSw); go_simp; all_goals with_reducible rfl)
      try simp only [Act.put, List.setIfInBounds_toArray, List.set_cons_zero, List.set_cons_succ]
      refine take_at (i := 11) (v := ?_) 18 rfl rfl (by kernel_rfl) (by kernel_rfl) (by kernel_rfl) (fun _ _ _ h => h) (Or.inl ⟨by rfl, ?_⟩) (by assumption) ?_
      rotate_left
      · (intro w' hSw; (try dsimp only at hSw); go_simp; all_goals with_reducible rfl)
      try simp only [Act.put, List.setIfInBounds_toArray, List.set_cons_zero, List.set_cons_succ]
      refine take_at (i := 12) (v := ?_) 19 rfl rfl (by kernel_rfl) (by kernel_rfl) (by kernel_rfl) (fun _ _ _ h => h) (Or.inl ⟨by rfl, ?_⟩) (by assumption) ?_
      rotate_left
      · (intro w' hSw; (try dsimp only at hSw); go_simp; all_goals with_reducible rfl)
      try simp only [Act.put, List.setIfInBounds_toArray, List.set_cons_zero, List.set_cons_succ]
      refine take_at (i := 13) (v := ?_) 20 rfl rfl (by kernel_rfl) (by kernel_rfl) (by kernel_rfl) (fun _ _ _ h => h) (Or.inl ⟨by rfl, ?_⟩) (by assumption) ?_
      rotate_left
      · (intro w' hSw; (try dsimp only at hSw); go_simp; all_goals with_reducible rfl)
      try simp only [Act.put, List.setIfInBounds_toArray, List.set_cons_zero, List.set_cons_succ]
      refine take_at (i := 14) (v := ?_) 21 rfl rfl (by kernel_rfl) (by kernel_rfl) (by kernel_rfl) (fun _ _ _ h => h) (Or.inl ⟨by rfl, ?_⟩) (by assumption) ?_
      rotate_left
      · (intro w' hSw; (try dsimp only at hSw); go_simp; all_goals with_reducible rfl)
      try simp only [Act.put, List.setIfInBounds_toArray, List.set_cons_zero, List.set_cons_succ]
      refine take_at (i := 15) (v := ?_) 22 rfl rfl (by kernel_rfl) (by kernel_rfl) (by kernel_rfl) (fun _ _ _ h => h) (Or.inl ⟨by rfl, ?_⟩) (by assumption) ?_
      rotate_left
      · (intro w' hSw; (try dsimp only at hSw); go_simp; all_goals with_reducible rfl)
      try simp only [Act.put, List.setIfInBounds_toArray, List.set_cons_zero, List.set_cons_succ]
      refine wpAnyH_ready (rs := [16]) (by kernel_rfl) (by simp) ?_
      refine AllReadyH.cons rfl (fun K hK => ?_) AllReadyH.nil
      go_simp
      refine (cA _).mono ?_
      rintro e wc2 ⟨rfl, rfl⟩
      go_wp2_with fail
      refine hK.out _ _ ⟨k0, k1, k2, k3, k4, k5, k6⟩ (fun hHeld2 => ?_)
      clear hK
      try simp only [Act.put, List.setIfInBounds_toArray, List.set_cons_zero, List.set_cons_succ]
      refine take_at (i := 17) (v := ?_) 24 rfl rfl (by kernel_rfl) (by kernel_rfl) (by kernel_rfl) (fun _ _ _ h => h) (Or.inl ⟨by rfl, ?_⟩) (by assumption) ?_
      rotate_left
      · (intro w' hSw; (try dsimp only at hSw); go_simp; all_goals with_reducible rfl)
      try simp only [Act.put, List.setIfInBounds_toArray, List.set_cons_zero, List.set_cons_succ]
      refine take_at (i := 18) (v := ?_) 2 rfl rfl (by kernel_rfl) (by kernel_rfl) (by kernel_rfl) (fun _ _ _ h => h) (Or.inl ⟨by rfl, ?_⟩) (by assumption) ?_
      rotate_left
      · (intro w' hSw; (try dsimp only at hSw); go_simp; all_goals with_reducible rfl)
      try simp only [Act.put, List.setIfInBounds_toArray, List.set_cons_zero, List.set_cons_succ]
      refine wpAnyH_done (by kernel_rfl) ?_ _
      refine NoPanic.normal ?_
      all_goals go_wp2
      all_goals go_ret
      all_goals exact ⟨by first | (rw [HE.out]; done) | (rw [HE.out]; rfl), hB⟩

def rr2 (b r g s : Int) (m : Nat) : Bool := if onB r g s m 0 g 0 m = true then (rgB b g m) else (false)
set_option maxRecDepth 100000 in
set_option maxHeartbeats 4000000 in
theorem rest2_c (a : Nat) (b r g s : Int) (m : Nat) (hg : 1 ≤ b ∧ b ≤ 12) (w : World) :
    Calls Tryd.prog 65 #[.agg #[.int .i64 2, .int .u64 (a : Nat), .int .i64 b, .int .i64 r, .int .i64 g, .int .i64 s, .int .u64 (m : Nat)]] w fun e w' => e = .returned (.bool (rr2 b r g s m)) ∧ Below w.heap.size w w' := by
  cases h1 : onB r g s m 0 g 0 m
  · have HE : Hid (rr2 b r g s m = (false)) := by
      show rr2 b r g s m = _
      unfold rr2
      rw [if_neg (ne_true_of_eq_false h1)]
    go_enter Tryd.func65, Tryd.ntmps65
    go_wp2_with fail
    refine (only_any 2 a b r g s m 0 g 0 m rfl _).mono ?_
    rintro e w1 ⟨rfl, hb⟩
    have gC := block_later hb (heap_alloc_new _ _)
    have hB := below_tr (below_new _ _) hb
    obtain ⟨k0, k1, k2, k3, k4, k5, k6⟩ := cells7 gC
    clear hb
    rw [h1]
    go_wp2
    go_ret
    exact ⟨by first | (rw [HE.out]; done) | (rw [HE.out]; rfl), hB⟩
  · have HE : Hid (rr2 b r g s m = (rgB b g m)) := by
      show rr2 b r g s m = _
      unfold rr2
      rw [if_pos h1]
    go_enter Tryd.func65, Tryd.ntmps65
    go_wp2_with fail
    refine (only_any 2 a b r g s m 0 g 0 m rfl _).mono ?_
    rintro e w1 ⟨rfl, hb⟩
    have gC := block_later hb (heap_alloc_new _ _)
    have hB := below_tr (below_new _ _) hb
    obtain ⟨k0, k1, k2, k3, k4, k5, k6⟩ := cells7 gC
    clear hb
    rw [h1]
    go_wp2_with fail
    refine (rightGuard_c 2 a b r g s m hg.1 hg.2 _).mono ?_
    rintro e w2 ⟨rfl, hb⟩
    replace gC := block_later hb gC
    replace hB := below_tr hB hb
    obtain ⟨k0, k1, k2, k3, k4, k5, k6⟩ := cells7 gC
    clear hb
    go_wp2
    go_ret
    exact ⟨by first | (rw [HE.out]; done) | (rw [HE.out]; rfl), hB⟩

def rr3 (b r g s : Int) (m : Nat) : Bool := if onB r g s m r 0 s m = true then (if rB r = true then (rfB b s m) else (false)) else (false)
set_option maxRecDepth 100000 in
set_option maxHeartbeats 4000000 in
theorem rest3_c (a : Nat) (b r g s : Int) (m : Nat) (hm : m < 18446744073709551616) (w : World) :
    Calls Tryd.prog 65 #[.agg #[.int .i64 3, .int .u64 (a : Nat), .int .i64 b, .int .i64 r, .int .i64 g, .int .i64 s, .int .u64 (m : Nat)]] w fun e w' => e = .returned (.bool (rr3 b r g s m)) ∧ Below w.heap.size w w' := by
  cases h1 : onB r g s m r 0 s m
  · have HE : Hid (rr3 b r g s m = (false)) := by
      show rr3 b r g s m = _
      unfold rr3
      rw [if_neg (ne_true_of_eq_false h1)]
    go_enter Tryd.func65, Tryd.ntmps65
    go_wp2_with fail
    refine (only_any 3 a b r g s m r 0 s m rfl _).mono ?_
    rintro e w1 ⟨rfl, hb⟩
    have gC := block_later hb (heap_alloc_new _ _)
    have hB := below_tr (below_new _ _) hb
    obtain ⟨k0, k1, k2, k3, k4, k5, k6⟩ := cells7 gC
    clear hb
    rw [h1]
    go_wp2
    go_ret
    exact ⟨by first | (rw [HE.out]; done) | (rw [HE.out]; rfl), hB⟩
  · cases h2 : rB r
    · have HE : Hid (rr3 b r g s m = (false)) := by
        show rr3 b r g s m = _
        unfold rr3
        rw [if_pos h1, if_neg (ne_true_of_eq_false h2)]
      go_enter Tryd.func65, Tryd.ntmps65
      go_wp2_with fail
      refine (only_any 3 a b r g s m r 0 s m rfl _).mono ?_
      rintro e w1 ⟨rfl, hb⟩
      have gC := block_later hb (heap_alloc_new _ _)
      have hB := below_tr (below_new _ _) hb
      obtain ⟨k0, k1, k2, k3, k4, k5, k6⟩ := cells7 gC
      clear hb
      rw [h1]
      go_wp2_with fail
      refine (rite_any r _).mono ?_
      rintro e w2 ⟨rfl, rfl⟩
      rw [h2]
      go_wp2
      go_ret
      exact ⟨by first | (rw [HE.out]; done) | (rw [HE.out]; rfl), hB⟩
    · have HE : Hid (rr3 b r g s m = (rfB b s m)) := by
        show rr3 b r g s m = _
        unfold rr3
        rw [if_pos h1, if_pos h2]
      go_enter Tryd.func65, Tryd.ntmps65
      go_wp2_with fail
      refine (only_any 3 a b r g s m r 0 s m rfl _).mono ?_
      rintro e w1 ⟨rfl, hb⟩
      have gC := block_later hb (heap_alloc_new _ _)
      have hB := below_tr (below_new _ _) hb
      obtain ⟨k0, k1, k2, k3, k4, k5, k6⟩ := cells7 gC
      clear hb
      rw [h1]
      go_wp2_with fail
      refine (rite_any r _).mono ?_
      rintro e w2 ⟨rfl, rfl⟩
      rw [h2]
      go_wp2_with fail
      refine (rightFrame_c 3 a b r g s m hm _).mono ?_
      rintro e w3 ⟨rfl, hb⟩
      replace gC := block_later hb gC
      replace hB := below_tr hB hb
      obtain ⟨k0, k1, k2, k3, k4, k5, k6⟩ := cells7 gC
      clear hb
      go_wp2
      go_ret
      exact ⟨by first | (rw [HE.out]; done) | (rw [HE.out]; rfl), hB⟩

def rr4 (b r g s : Int) (m : Nat) : Bool := if onB r g s m 0 g s m = true then (rtB g s m) else (false)
set_option maxRecDepth 100000 in
set_option maxHeartbeats 4000000 in
theorem rest4_c (a : Nat) (b r g s : Int) (m : Nat) (hm : m < 18446744073709551616) (w : World) :
    Calls Tryd.prog 65 #[.agg #[.int .i64 4, .int .u64 (a : Nat), .int .i64 b, .int .i64 r, .int .i64 g, .int .i64 s, .int .u64 (m : Nat)]] w fun e w' => e = .returned (.bool (rr4 b r g s m)) ∧ Below w.heap.size w w' := by
  cases h1 : onB r g s m 0 g s m
  · have HE : Hid (rr4 b r g s m = (false)) := by
      show rr4 b r g s m = _
      unfold rr4
      rw [if_neg (ne_true_of_eq_false h1)]
    go_enter Tryd.func65, Tryd.ntmps65
    go_wp2_with fail
    refine (only_any 4 a b r g s m 0 g s m rfl _).mono ?_
    rintro e w1 ⟨rfl, hb⟩
    have gC := block_later hb (heap_alloc_new _ _)
    have hB := below_tr (below_new _ _) hb
    obtain ⟨k0, k1, k2, k3, k4, k5, k6⟩ := cells7 gC
    clear hb
    rw [h1]
    go_wp2
    go_ret
    exact ⟨by first | (rw [HE.out]; done) | (rw [HE.out]; rfl), hB⟩
  · have HE : Hid (rr4 b r g s m = (rtB g s m)) := by
      show rr4 b r g s m = _
      unfold rr4
      rw [if_pos h1]
    go_enter Tryd.func65, Tryd.ntmps65
    go_wp2_with fail
    refine (only_any 4 a b r g s m 0 g s m rfl _).mono ?_
    rintro e w1 ⟨rfl, hb⟩
    have gC := block_later hb (heap_alloc_new _ _)
    have hB := below_tr (below_new _ _) hb
    obtain ⟨k0, k1, k2, k3, k4, k5, k6⟩ := cells7 gC
    clear hb
    rw [h1]
    go_wp2_with fail
    refine (rightTable_c 4 a b r g s m hm _).mono ?_
    rintro e w2 ⟨rfl, hb⟩
    replace gC := block_later hb gC
    replace hB := below_tr hB hb
    obtain ⟨k0, k1, k2, k3, k4, k5, k6⟩ := cells7 gC
    clear hb
    go_wp2
    go_ret
    exact ⟨by first | (rw [HE.out]; done) | (rw [HE.out]; rfl), hB⟩

def rr5 (b r g s : Int) (m : Nat) : Bool := if onB r g s m 0 0 s 0 = true then (asB s) else (false)
set_option maxRecDepth 100000 in
set_option maxHeartbeats 4000000 in
theorem rest5_c (a : Nat) (b r g s : Int) (m : Nat)  (w : World) :
    Calls Tryd.prog 65 #[.agg #[.int .i64 5, .int .u64 (a : Nat), .int .i64 b, .int .i64 r, .int .i64 g, .int .i64 s, .int .u64 (m : Nat)]] w fun e w' => e = .returned (.bool (rr5 b r g s m)) ∧ Below w.heap.size w w' := by
  cases h1 : onB r g s m 0 0 s 0
  · have HE : Hid (rr5 b r g s m = (false)) := by
      show rr5 b r g s m = _
      unfold rr5
      rw [if_neg (ne_true_of_eq_false h1)]
    go_enter Tryd.func65, Tryd.ntmps65
    go_wp2_with fail
    refine (only_any 5 a b r g s m 0 0 s 0 rfl _).mono ?_
    rintro e w1 ⟨rfl, hb⟩
    have gC := block_later hb (heap_alloc_new _ _)
    have hB := below_tr (below_new _ _) hb
    obtain ⟨k0, k1, k2, k3, k4, k5, k6⟩ := cells7 gC
    clear hb
    rw [h1]
    go_wp2
    go_ret
    exact ⟨by first | (rw [HE.out]; done) | (rw [HE.out]; rfl), hB⟩
  · have HE : Hid (rr5 b r g s m = (asB s)) := by
      show rr5 b r g s m = _
      unfold rr5
      rw [if_pos h1]
    go_enter Tryd.func65, Tryd.ntmps65
    go_wp2_with fail
    refine (only_any 5 a b r g s m 0 0 s 0 rfl _).mono ?_
    rintro e w1 ⟨rfl, hb⟩
    have gC := block_later hb (heap_alloc_new _ _)
    have hB := below_tr (below_new _ _) hb
    obtain ⟨k0, k1, k2, k3, k4, k5, k6⟩ := cells7 gC
    clear hb
    rw [h1]
    go_wp2_with fail
    refine (asid_any s _).mono ?_
    rintro e w2 ⟨rfl, rfl⟩
    go_wp2
    go_ret
    exact ⟨by first | (rw [HE.out]; done) | (rw [HE.out]; rfl), hB⟩

def rr7 (b r g s : Int) (m : Nat) : Bool := if onB r g s m 0 0 0 m = true then (decide ((m : Int) < 8)) else (false)
set_option maxRecDepth 100000 in
set_option maxHeartbeats 4000000 in
theorem rest7_c (a : Nat) (b r g s : Int) (m : Nat)  (w : World) :
    Calls Tryd.prog 65 #[.agg #[.int .i64 7, .int .u64 (a : Nat), .int .i64 b, .int .i64 r, .int .i64 g, .int .i64 s, .int .u64 (m : Nat)]] w fun e w' => e = .returned (.bool (rr7 b r g s m)) ∧ Below w.heap.size w w' := by
  cases h1 : onB r g s m 0 0 0 m
  · have HE : Hid (rr7 b r g s m = (false)) := by
      show rr7 b r g s m = _
      unfold rr7
      rw [if_neg (ne_true_of_eq_false h1)]
    go_enter Tryd.func65, Tryd.ntmps65
    go_wp2_with fail
    refine (only_any 7 a b r g s m 0 0 0 m rfl _).mono ?_
    rintro e w1 ⟨rfl, hb⟩
    have gC := block_later hb (heap_alloc_new _ _)
    have hB := below_tr (below_new _ _) hb
    obtain ⟨k0, k1, k2, k3, k4, k5, k6⟩ := cells7 gC
    clear hb
    rw [h1]
    go_wp2
    go_ret
    exact ⟨by first | (rw [HE.out]; done) | (rw [HE.out]; rfl), hB⟩
  · have HE : Hid (rr7 b r g s m = (decide ((m : Int) < 8))) := by
      show rr7 b r g s m = _
      unfold rr7
      rw [if_pos h1]
    go_enter Tryd.func65, Tryd.ntmps65
    go_wp2_with fail
    refine (only_any 7 a b r g s m 0 0 0 m rfl _).mono ?_
    rintro e w1 ⟨rfl, hb⟩
    have gC := block_later hb (heap_alloc_new _ _)
    have hB := below_tr (below_new _ _) hb
    obtain ⟨k0, k1, k2, k3, k4, k5, k6⟩ := cells7 gC
    clear hb
    rw [h1]
    go_wp2
    go_ret
    exact ⟨by first | (rw [HE.out]; done) | (rw [HE.out]; rfl), hB⟩

def rr9 (b r g s : Int) (m : Nat) : Bool := if onB r g s m r 0 0 m = true then (inV r 3) else (false)
set_option maxRecDepth 100000 in
set_option maxHeartbeats 4000000 in
theorem rest9_c (a : Nat) (b r g s : Int) (m : Nat)  (w : World) :
    Calls Tryd.prog 65 #[.agg #[.int .i64 9, .int .u64 (a : Nat), .int .i64 b, .int .i64 r, .int .i64 g, .int .i64 s, .int .u64 (m : Nat)]] w fun e w' => e = .returned (.bool (rr9 b r g s m)) ∧ Below w.heap.size w w' := by
  cases h1 : onB r g s m r 0 0 m
  · have HE : Hid (rr9 b r g s m = (false)) := by
      show rr9 b r g s m = _
      unfold rr9
      rw [if_neg (ne_true_of_eq_false h1)]
    go_enter Tryd.func65, Tryd.ntmps65
    go_wp2_with fail
    refine (only_any 9 a b r g s m r 0 0 m rfl _).mono ?_
    rintro e w1 ⟨rfl, hb⟩
    have gC := block_later hb (heap_alloc_new _ _)
    have hB := below_tr (below_new _ _) hb
    obtain ⟨k0, k1, k2, k3, k4, k5, k6⟩ := cells7 gC
    clear hb
    rw [h1]
    go_wp2
    go_ret
    exact ⟨by first | (rw [HE.out]; done) | (rw [HE.out]; rfl), hB⟩
  · have HE : Hid (rr9 b r g s m = (inV r 3)) := by
      show rr9 b r g s m = _
      unfold rr9
      rw [if_pos h1]
    go_enter Tryd.func65, Tryd.ntmps65
    go_wp2_with fail
    refine (only_any 9 a b r g s m r 0 0 m rfl _).mono ?_
    rintro e w1 ⟨rfl, hb⟩
    have gC := block_later hb (heap_alloc_new _ _)
    have hB := below_tr (below_new _ _) hb
    obtain ⟨k0, k1, k2, k3, k4, k5, k6⟩ := cells7 gC
    clear hb
    rw [h1]
    go_wp2_with fail
    refine (in_any r 3 _).mono ?_
    rintro e w2 ⟨rfl, rfl⟩
    go_wp2
    go_ret
    exact ⟨by first | (rw [HE.out]; done) | (rw [HE.out]; rfl), hB⟩

def rr10 (b r g s : Int) (m : Nat) : Bool := if onB r g s m 0 0 0 m = true then (leP m b) else (false)
set_option maxRecDepth 100000 in
set_option maxHeartbeats 4000000 in
theorem rest10_c (a : Nat) (b r g s : Int) (m : Nat) (hb : 0 ≤ b ∧ b ≤ 32) (hm : m < 18446744073709551616) (w : World) :
    Calls Tryd.prog 65 #[.agg #[.int .i64 10, .int .u64 (a : Nat), .int .i64 b, .int .i64 r, .int .i64 g, .int .i64 s, .int .u64 (m : Nat)]] w fun e w' => e = .returned (.bool (rr10 b r g s m)) ∧ Below w.heap.size w w' := by
  cases h1 : onB r g s m 0 0 0 m
  · have HE : Hid (rr10 b r g s m = (false)) := by
      show rr10 b r g s m = _
      unfold rr10
      rw [if_neg (ne_true_of_eq_false h1)]
    obtain ⟨p, e1, hp⟩ := shl_p (m := m) hb.1 hb.2
    have cO := fun w1 => only_any 10 a b r g s m (v0 := .int .i64 0) (v1 := .int .u64 0) (v2 := .int .i64 0) 0 0 0 m (M2 := (m : Int)) rfl w1
    rw [h1] at cO
    have cA := fun w1 => aligned_any m 5 hm w1
    go_enter Tryd.func65, Tryd.ntmps65
    go_upto_region 17 with fail
    have gC := heap_alloc_new w (.cells #[.int .i64 10, .int .u64 (a : Nat), .int .i64 b, .int .i64 r, .int .i64 g, .int .i64 s, .int .u64 (m : Nat)] 33)
    have hB := below_new w (.cells #[.int .i64 10, .int .u64 (a : Nat), .int .i64 b, .int .i64 r, .int .i64 g, .int .i64 s, .int .u64 (m : Nat)] 33)
    generalize w.alloc (.cells #[.int .i64 10, .int .u64 (a : Nat), .int .i64 b, .int .i64 r, .int .i64 g, .int .i64 s, .int .u64 (m : Nat)] 33) = W at *
    obtain ⟨k0, k1, k2, k3, k4, k5, k6⟩ := cells7 gC
    refine wp_region_noPanic ?_
    refine wp_region_held_drew (S := (fun w' => w'.cell? ⟨w.heap.size, 0, none⟩ = some (.int .i64 10) ∧ w'.cell? ⟨w.heap.size, 1, none⟩ = some (.int .u64 (a : Nat)) ∧ w'.cell? ⟨w.heap.size, 2, none⟩ = some (.int .i64 b) ∧ w'.cell? ⟨w.heap.size, 3, none⟩ = some (.int .i64 r) ∧ w'.cell? ⟨w.heap.size, 4, none⟩ = some (.int .i64 g) ∧ w'.cell? ⟨w.heap.size, 5, none⟩ = some (.int .i64 s) ∧ w'.cell? ⟨w.heap.size, 6, none⟩ = some (.int .u64 (m : Nat)))) (by kernel_rfl) ?_ (fun hHeld => ?_)
    · exact ⟨cell_later (Below.refl _ _).drew k0, cell_later (Below.refl _ _).drew k1, cell_later (Below.refl _ _).drew k2, cell_later (Below.refl _ _).drew k3, cell_later (Below.refl _ _).drew k4, cell_later (Below.refl _ _).drew k5, cell_later (Below.refl _ _).drew k6⟩
    replace k0 := cell_later (Below.refl _ W).drew k0
    replace k1 := cell_later (Below.refl _ W).drew k1
    replace k2 := cell_later (Below.refl _ W).drew k2
    replace k3 := cell_later (Below.refl _ W).drew k3
    replace k4 := cell_later (Below.refl _ W).drew k4
    replace k5 := cell_later (Below.refl _ W).drew k5
    replace k6 := cell_later (Below.refl _ W).drew k6
    replace gC := block_later (Below.refl _ W).drew gC
    replace hB := below_tr hB (Below.refl _ W).drew
    generalize W.drew = Wd at *
    refine take_at (i := 0) (v := ?_) 113 rfl rfl (by kernel_rfl) (by kernel_rfl) (by kernel_rfl) (fun _ _ _ h => h) (Or.inl ⟨by rfl, ?_⟩) (by assumption) ?_
    rotate_left
    · (intro w' hSw; (try dsimp only at hSw); go_simp; all_goals with_reducible rfl)
    try simp only [Act.put, List.setIfInBounds_toArray, List.set_cons_zero, List.set_cons_succ]
    refine take_at (i := 1) (v := ?_) 114 rfl rfl (by kernel_rfl) (by kernel_rfl) (by kernel_rfl) (fun _ _ _ h => h) (Or.inl ⟨by rfl, ?_⟩) (by assumption) ?_
    rotate_left
    · (intro w' hSw; (try dsimp only at hSw); go_simp; all_goals with_reducible rfl)
    try simp only [Act.put, List.setIfInBounds_toArray, List.set_cons_zero, List.set_cons_succ]
    refine take_at (i := 2) (v := ?_) 115 rfl rfl (by kernel_rfl) (by kernel_rfl) (by kernel_rfl) (fun _ _ _ h => h) (Or.inl ⟨by rfl, ?_⟩) (by assumption) ?_
    rotate_left
    · (intro w' hSw; (try dsimp only at hSw); go_simp; all_goals with_reducible rfl)
    try simp only [Act.put, List.setIfInBounds_toArray, List.set_cons_zero, List.set_cons_succ]
    refine take_at (i := 3) (v := ?_) 116 rfl rfl (by kernel_rfl) (by kernel_rfl) (by kernel_rfl) (fun _ _ _ h => h) (Or.inl ⟨by rfl, ?_⟩) (by assumption) ?_
    rotate_left
    · (intro w' hSw; (try dsimp only at hSw); go_simp; all_goals with_reducible rfl)
    try simp only [Act.put, List.setIfInBounds_toArray, List.set_cons_zero, List.set_cons_succ]
    refine wpAnyH_ready (rs := [4]) (by kernel_rfl) (by simp) ?_
    refine AllReadyH.cons rfl (fun K hK => ?_) AllReadyH.nil
    go_simp
    refine (cO _).mono ?_
    rintro e wc1 ⟨rfl, hb⟩
    go_wp2_with fail
    replace k0 := cell_later hb k0
    replace k1 := cell_later hb k1
    replace k2 := cell_later hb k2
    replace k3 := cell_later hb k3
    replace k4 := cell_later hb k4
    replace k5 := cell_later hb k5
    replace k6 := cell_later hb k6
    replace gC := block_later hb gC
    replace hB := below_tr hB hb
    refine hK.out _ _ ⟨k0, k1, k2, k3, k4, k5, k6⟩ (fun hHeld1 => ?_)
    clear hK
    try simp only [Act.put, List.setIfInBounds_toArray, List.set_cons_zero, List.set_cons_succ]
    refine take_at (i := 5) (v := ?_) 118 rfl rfl (by kernel_rfl) (by kernel_rfl) (by kernel_rfl) (fun _ _ _ h => h) (Or.inl ⟨by rfl, ?_⟩) (by assumption) ?_
    rotate_left
    · (intro w' hSw; (try dsimp only at hSw); go_simp; all_goals with_reducible rfl)
    try simp only [Act.put, List.setIfInBounds_toArray, List.set_cons_zero, List.set_cons_succ]
    refine take_at (i := 6) (v := undef) 119 rfl rfl (by kernel_rfl) (by kernel_rfl) (by kernel_rfl) (fun _ _ _ h => h) (Or.inr ⟨by rfl, rfl⟩) (by assumption) ?_
    try simp only [Act.put, List.setIfInBounds_toArray, List.set_cons_zero, List.set_cons_succ]
    refine take_at (i := 7) (v := undef) 120 rfl rfl (by kernel_rfl) (by kernel_rfl) (by kernel_rfl) (fun _ _ _ h => h) (Or.inr ⟨by rfl, rfl⟩) (by assumption) ?_
    try simp only [Act.put, List.setIfInBounds_toArray, List.set_cons_zero, List.set_cons_succ]
    refine take_at (i := 8) (v := undef) 121 rfl rfl (by kernel_rfl) (by kernel_rfl) (by kernel_rfl) (fun _ _ _ h => h) (Or.inr ⟨by rfl, rfl⟩) (by assumption) ?_
    try simp only [Act.put, List.setIfInBounds_toArray, List.set_cons_zero, List.set_cons_succ]
    refine take_at (i := 9) (v := undef) 122 rfl rfl (by kernel_rfl) (by kernel_rfl) (by kernel_rfl) (fun _ _ _ h => h) (Or.inr ⟨by rfl, rfl⟩) (by assumption) ?_
    try simp only [Act.put, List.setIfInBounds_toArray, List.set_cons_zero, List.set_cons_succ]
    refine take_at (i := 10) (v := undef) 123 rfl rfl (by kernel_rfl) (by kernel_rfl) (by kernel_rfl) (fun _ _ _ h => h) (Or.inr ⟨by rfl, rfl⟩) (by assumption) ?_
    try simp only [Act.put, List.setIfInBounds_toArray, List.set_cons_zero, List.set_cons_succ]
    refine take_at (i := 11) (v := undef) 124 rfl rfl (by kernel_rfl) (by kernel_rfl) (by kernel_rfl) (fun _ _ _ h => h) (Or.inr ⟨by rfl, rfl⟩) (by assumption) ?_
    try simp only [Act.put, List.setIfInBounds_toArray, List.set_cons_zero, List.set_cons_succ]
    refine take_at (i := 12) (v := ?_) 125 rfl rfl (by kernel_rfl) (by kernel_rfl) (by kernel_rfl) (fun _ _ _ h => h) (Or.inl ⟨by rfl, ?_⟩) (by assumption) ?_
    rotate_left
    · (intro w' hSw; (try dsimp only at hSw); go_simp; all_goals with_reducible rfl)
    try simp only [Act.put, List.setIfInBounds_toArray, List.set_cons_zero, List.set_cons_succ]
    refine take_at (i := 13) (v := ?_) 2 rfl rfl (by kernel_rfl) (by kernel_rfl) (by kernel_rfl) (fun _ _ _ h => h) (Or.inl ⟨by rfl, ?_⟩) (by assumption) ?_
    rotate_left
    · (intro w' hSw; (try dsimp only at hSw); go_simp; all_goals with_reducible rfl)
    try simp only [Act.put, List.setIfInBounds_toArray, List.set_cons_zero, List.set_cons_succ]
    refine wpAnyH_done (by kernel_rfl) ?_ _
    refine NoPanic.normal ?_
    all_goals go_wp2
    all_goals go_ret
    all_goals exact ⟨by first | (rw [HE.out]; done) | (rw [HE.out]; rfl), hB⟩
  · have HE : Hid (rr10 b r g s m = (leP m b)) := by
      show rr10 b r g s m = _
      unfold rr10
      rw [if_pos h1]
    obtain ⟨p, e1, hp⟩ := shl_p (m := m) hb.1 hb.2
    have cO := fun w1 => only_any 10 a b r g s m (v0 := .int .i64 0) (v1 := .int .u64 0) (v2 := .int .i64 0) 0 0 0 m (M2 := (m : Int)) rfl w1
    rw [h1] at cO
    have cA := fun w1 => aligned_any m 5 hm w1
    go_enter Tryd.func65, Tryd.ntmps65
    go_upto_region 17 with fail
    have gC := heap_alloc_new w (.cells #[.int .i64 10, .int .u64 (a : Nat), .int .i64 b, .int .i64 r, .int .i64 g, .int .i64 s, .int .u64 (m : Nat)] 33)
    have hB := below_new w (.cells #[.int .i64 10, .int .u64 (a : Nat), .int .i64 b, .int .i64 r, .int .i64 g, .int .i64 s, .int .u64 (m : Nat)] 33)
    generalize w.alloc (.cells #[.int .i64 10, .int .u64 (a : Nat), .int .i64 b, .int .i64 r, .int .i64 g, .int .i64 s, .int .u64 (m : Nat)] 33) = W at *
    obtain ⟨k0, k1, k2, k3, k4, k5, k6⟩ := cells7 gC
    refine wp_region_noPanic ?_
    refine wp_region_held_drew (S := (fun w' => w'.cell? ⟨w.heap.size, 0, none⟩ = some (.int .i64 10) ∧ w'.cell? ⟨w.heap.size, 1, none⟩ = some (.int .u64 (a : Nat)) ∧ w'.cell? ⟨w.heap.size, 2, none⟩ = some (.int .i64 b) ∧ w'.cell? ⟨w.heap.size, 3, none⟩ = some (.int .i64 r) ∧ w'.cell? ⟨w.heap.size, 4, none⟩ = some (.int .i64 g) ∧ w'.cell? ⟨w.heap.size, 5, none⟩ = some (.int .i64 s) ∧ w'.cell? ⟨w.heap.size, 6, none⟩ = some (.int .u64 (m : Nat)))) (by kernel_rfl) ?_ (fun hHeld => ?_)
    · exact ⟨cell_later (Below.refl _ _).drew k0, cell_later (Below.refl _ _).drew k1, cell_later (Below.refl _ _).drew k2, cell_later (Below.refl _ _).drew k3, cell_later (Below.refl _ _).drew k4, cell_later (Below.refl _ _).drew k5, cell_later (Below.refl _ _).drew k6⟩
    replace k0 := cell_later (Below.refl _ W).drew k0
    replace k1 := cell_later (Below.refl _ W).drew k1
    replace k2 := cell_later (Below.refl _ W).drew k2
    replace k3 := cell_later (Below.refl _ W).drew k3
    replace k4 := cell_later (Below.refl _ W).drew k4
    replace k5 := cell_later (Below.refl _ W).drew k5
    replace k6 := cell_later (Below.refl _ W).drew k6
    replace gC := block_later (Below.refl _ W).drew gC
    replace hB := below_tr hB (Below.refl _ W).drew
    generalize W.drew = Wd at *
    refine take_at (i := 0) (v := ?_) 113 rfl rfl (by kernel_rfl) (by kernel_rfl) (by kernel_rfl) (fun _ _ _ h => h) (Or.inl ⟨by rfl, ?_⟩) (by assumption) ?_
    rotate_left
    · (intro w' hSw; (try dsimp only at hSw); go_simp; all_goals with_reducible rfl)
    try simp only [Act.put, List.setIfInBounds_toArray, List.set_cons_zero, List.set_cons_succ]
    refine take_at (i := 1) (v := ?_) 114 rfl rfl (by kernel_rfl) (by kernel_rfl) (by kernel_rfl) (fun _ _ _ h => h) (Or.inl ⟨by rfl, ?_⟩) (by assumption) ?_
    rotate_left
    · (intro w' hSw; (try dsimp only at hSw); go_simp; all_goals with_reducible rfl)
    try simp only [Act.put, List.setIfInBounds_toArray, List.set_cons_zero, List.set_cons_succ]
    refine take_at (i := 2) (v := ?_) 115 rfl rfl (by kernel_rfl) (by kernel_rfl) (by kernel_rfl) (fun _ _ _ h => h) (Or.inl ⟨by rfl, ?_⟩) (by assumption) ?_
    rotate_left
    · (intro w' hSw; (try dsimp only at hSw); go_simp; all_goals with_reducible rfl)
    try simp only [Act.put, List.setIfInBounds_toArray, List.set_cons_zero, List.set_cons_succ]
    refine take_at (i := 3) (v := ?_) 116 rfl rfl (by kernel_rfl) (by kernel_rfl) (by kernel_rfl) (fun _ _ _ h => h) (Or.inl ⟨by rfl, ?_⟩) (by assumption) ?_
    rotate_left
    · (intro w' hSw; (try dsimp only at hSw); go_simp; all_goals with_reducible rfl)
    try simp only [Act.put, List.setIfInBounds_toArray, List.set_cons_zero, List.set_cons_succ]
    refine wpAnyH_ready (rs := [4]) (by kernel_rfl) (by simp) ?_
    refine AllReadyH.cons rfl (fun K hK => ?_) AllReadyH.nil
    go_simp
    refine (cO _).mono ?_
    rintro e wc1 ⟨rfl, hb⟩
    go_wp2_with fail
    replace k0 := cell_later hb k0
    replace k1 := cell_later hb k1
    replace k2 := cell_later hb k2
    replace k3 := cell_later hb k3
    replace k4 := cell_later hb k4
    replace k5 := cell_later hb k5
    replace k6 := cell_later hb k6
    replace gC := block_later hb gC
    replace hB := below_tr hB hb
    refine hK.out _ _ ⟨k0, k1, k2, k3, k4, k5, k6⟩ (fun hHeld1 => ?_)
    clear hK
    try simp only [Act.put, List.setIfInBounds_toArray, List.set_cons_zero, List.set_cons_succ]
    refine take_at (i := 5) (v := ?_) 118 rfl rfl (by kernel_rfl) (by kernel_rfl) (by kernel_rfl) (fun _ _ _ h => h) (Or.inl ⟨by rfl, ?_⟩) (by assumption) ?_
    rotate_left
    · (intro w' hSw; (try dsimp only at hSw); go_simp; all_goals with_reducible rfl)
    try simp only [Act.put, List.setIfInBounds_toArray, List.set_cons_zero, List.set_cons_succ]
    refine take_at (i := 6) (v := ?_) 119 rfl rfl (by kernel_rfl) (by kernel_rfl) (by kernel_rfl) (fun _ _ _ h => h) (Or.inl ⟨by rfl, ?_⟩) (by assumption) ?_
    rotate_left
    · (intro w' hSw; (try dsimp only at hSw); go_simp; all_goals with_reducible rfl)
    try simp only [Act.put, List.setIfInBounds_toArray, List.set_cons_zero, List.set_cons_succ]
    refine take_at (i := 7) (v := ?_) 120 rfl rfl (by kernel_rfl) (by kernel_rfl) (by kernel_rfl) (fun _ _ _ h => h) (Or.inl ⟨by rfl, ?_⟩) (by assumption) ?_
    rotate_left
    · (intro w' hSw; (try dsimp only at hSw); go_simp; all_goals with_reducible rfl)
    try simp only [Act.put, List.setIfInBounds_toArray, List.set_cons_zero, List.set_cons_succ]
    refine take_at (i := 8) (v := ?_) 121 rfl rfl (by kernel_rfl) (by kernel_rfl) (by kernel_rfl) (fun _ _ _ h => h) (Or.inl ⟨by rfl, ?_⟩) (by assumption) ?_
    rotate_left
    · (intro w' hSw; (try dsimp only at hSw); go_simp; all_goals with_reducible rfl)
    try simp only [Act.put, List.setIfInBounds_toArray, List.set_cons_zero, List.set_cons_succ]
    refine take_at (i := 9) (v := ?_) 122 rfl rfl (by kernel_rfl) (by kernel_rfl) (by kernel_rfl) (fun _ _ _ h => h) (Or.inl ⟨by rfl, ?_⟩) (by assumption) ?_
    rotate_left
    · (intro w' hSw; (try dsimp only at hSw); go_simp; all_goals with_reducible rfl)
    try simp only [Act.put, List.setIfInBounds_toArray, List.set_cons_zero, List.set_cons_succ]
    refine take_at (i := 10) (v := ?_) 123 rfl rfl (by kernel_rfl) (by kernel_rfl) (by kernel_rfl) (fun _ _ _ h => h) (Or.inl ⟨by rfl, ?_⟩) (by assumption) ?_
    rotate_left
    · (intro w' hSw; (try dsimp only at hSw); go_simp; all_goals with_reducible rfl)
    try simp only [Act.put, List.setIfInBounds_toArray, List.set_cons_zero, List.set_cons_succ]
    refine take_at (i := 11) (v := ?_) 124 rfl rfl (by kernel_rfl) (by kernel_rfl) (by kernel_rfl) (fun _ _ _ h => h) (Or.inl ⟨by rfl, ?_⟩) (by assumption) ?_
    rotate_left
    · (intro w' hSw; (try dsimp only at hSw); go_simp; all_goals with_reducible rfl)
    try simp only [Act.put, List.setIfInBounds_toArray, List.set_cons_zero, List.set_cons_succ]
    refine take_at (i := 12) (v := ?_) 125 rfl rfl (by kernel_rfl) (by kernel_rfl) (by kernel_rfl) (fun _ _ _ h => h) (Or.inl ⟨by rfl, ?_⟩) (by assumption) ?_
    rotate_left
    · (intro w' hSw; (try dsimp only at hSw); go_simp; all_goals with_reducible rfl)
    try simp only [Act.put, List.setIfInBounds_toArray, List.set_cons_zero, List.set_cons_succ]
    refine take_at (i := 13) (v := ?_) 2 rfl rfl (by kernel_rfl) (by kernel_rfl) (by kernel_rfl) (fun _ _ _ h => h) (Or.inl ⟨by rfl, ?_⟩) (by assumption) ?_
    rotate_left
    · (intro w' hSw; (try dsimp only at hSw); go_simp; all_goals with_reducible rfl)
    try simp only [Act.put, List.setIfInBounds_toArray, List.set_cons_zero, List.set_cons_succ]
    refine wpAnyH_done (by kernel_rfl) ?_ _
    refine NoPanic.normal ?_
    all_goals go_wp2
    all_goals go_ret
    all_goals exact ⟨by first | (rw [HE.out]; done) | (rw [HE.out]; rfl), hB⟩

def rr8 (b r g s : Int) (m : Nat) : Bool := onB r g s m 0 0 0 0
set_option maxRecDepth 100000 in
set_option maxHeartbeats 4000000 in
theorem rest8_c (a : Nat) (b r g s : Int) (m : Nat)  (w : World) :
    Calls Tryd.prog 65 #[.agg #[.int .i64 8, .int .u64 (a : Nat), .int .i64 b, .int .i64 r, .int .i64 g, .int .i64 s, .int .u64 (m : Nat)]] w fun e w' => e = .returned (.bool (rr8 b r g s m)) ∧ Below w.heap.size w w' := by
  have HE : Hid (rr8 b r g s m = (onB r g s m 0 0 0 0)) := by
    show rr8 b r g s m = _
    unfold rr8
    rfl
  go_enter Tryd.func65, Tryd.ntmps65
  go_wp2_with fail
  refine (only_any 8 a b r g s m 0 0 0 0 rfl _).mono ?_
  rintro e w1 ⟨rfl, hb⟩
  have gC := block_later hb (heap_alloc_new _ _)
  have hB := below_tr (below_new _ _) hb
  obtain ⟨k0, k1, k2, k3, k4, k5, k6⟩ := cells7 gC
  clear hb
  go_wp2
  go_ret
  exact ⟨by first | (rw [HE.out]; done) | (rw [HE.out]; rfl), hB⟩

def rrB (k b r g s : Int) (m : Nat) : Bool := if k = 1 then rr1 b r g s m else if k = 2 then rr2 b r g s m else if k = 3 then rr3 b r g s m else if k = 4 then rr4 b r g s m else if k = 5 then rr5 b r g s m else if k = 7 then rr7 b r g s m else if k = 9 then rr9 b r g s m else if k = 10 then rr10 b r g s m else rr8 b r g s m
theorem rest_c (k : Int) (a : Nat) (b r g s : Int) (m : Nat) (hm : m < 18446744073709551616) (h : rbB k b = true) (w : World) :
    Calls Tryd.prog 65 #[.agg #[.int .i64 k, .int .u64 (a : Nat), .int .i64 b, .int .i64 r, .int .i64 g, .int .i64 s, .int .u64 (m : Nat)]] w fun e w' => e = .returned (.bool (rrB k b r g s m)) ∧ Below w.heap.size w w' := by
  have hb := rb_bits h
  by_cases h1 : k = 1
  · subst h1; rw [rrB, if_pos rfl]; exact rest1_c a b r g s m ⟨hb.1, hb.2.1⟩ hm w
  by_cases h2 : k = 2
  · subst h2; rw [rrB, if_neg (by decide), if_pos rfl]; exact rest2_c a b r g s m (hb.2.2.2.1 rfl) w
  by_cases h3 : k = 3
  · subst h3; rw [rrB, if_neg (by decide), if_neg (by decide), if_pos rfl]; exact rest3_c a b r g s m hm w
  by_cases h4 : k = 4
  · subst h4; rw [rrB, if_neg (by decide), if_neg (by decide), if_neg (by decide), if_pos rfl]; exact rest4_c a b r g s m hm w
  by_cases h5 : k = 5
  · subst h5; rw [rrB, if_neg (by decide), if_neg (by decide), if_neg (by decide), if_neg (by decide), if_pos rfl]; exact rest5_c a b r g s m  w
  by_cases h7 : k = 7
  · subst h7; rw [rrB, if_neg (by decide), if_neg (by decide), if_neg (by decide), if_neg (by decide), if_neg (by decide), if_pos rfl]; exact rest7_c a b r g s m  w
  by_cases h9 : k = 9
  · subst h9; rw [rrB, if_neg (by decide), if_neg (by decide), if_neg (by decide), if_neg (by decide), if_neg (by decide), if_neg (by decide), if_pos rfl]; exact rest9_c a b r g s m  w
  by_cases h10 : k = 10
  · subst h10; rw [rrB, if_neg (by decide), if_neg (by decide), if_neg (by decide), if_neg (by decide), if_neg (by decide), if_neg (by decide), if_neg (by decide), if_pos rfl]; exact rest10_c a b r g s m ⟨hb.1, hb.2.1⟩ hm w
  by_cases h8 : k = 8
  · subst h8; rw [rrB, if_neg (by decide), if_neg (by decide), if_neg (by decide), if_neg (by decide), if_neg (by decide), if_neg (by decide), if_neg (by decide), if_neg (by decide)]; exact rest8_c a b r g s m w
  · exfalso
    unfold rbB at h
    rw [if_neg h1, if_neg h2, if_neg h10, if_neg h3, if_neg h4, if_neg h5, if_neg h7, if_neg h8, if_neg h9] at h
    cases h

/-- Is a capability right, by the program? -/
def cB (k : Int) (a : Nat) (b r g s : Int) (m : Nat) : Bool := if hoB k = true then (if rbB k b = true then (if raB a (bitV k b).toNat = true then (rrB k b r g s m) else (false)) else (false)) else (if eqCB k a b r g s m 0 0 0 0 0 0 0 = true then (true) else (eqCB k a b r g s m 6 0 0 0 0 0 0))
set_option maxHeartbeats 4000000 in
theorem cright_any (k : Int) (a : Nat) (b r g s : Int) (m : Nat) (ha : a < 18446744073709551616) (hm : m < 18446744073709551616) (w : World) :
    Calls Tryd.prog 57 #[.agg #[.int .i64 k, .int .u64 (a : Nat), .int .i64 b, .int .i64 r, .int .i64 g, .int .i64 s, .int .u64 (m : Nat)]] w fun e w' => e = .returned (.bool (cB k a b r g s m)) ∧ Below w.heap.size w w' := by
  cases h1 : hoB k
  · cases h2 : eqCB k a b r g s m 0 0 0 0 0 0 0
    · have HE : Hid (cB k a b r g s m = (eqCB k a b r g s m 6 0 0 0 0 0 0)) := by
        show cB k a b r g s m = _
        unfold cB
        rw [if_neg (ne_true_of_eq_false h1), if_neg (ne_true_of_eq_false h2)]
      have q0 : ∀ w1, (binOp .eql 33 (.agg #[.int .i64 k, .int .u64 (a : Nat), .int .i64 b, .int .i64 r, .int .i64 g, .int .i64 s, .int .u64 (m : Nat)]) (.agg #[.int .i64 0, .int .u64 0, .int .i64 0, .int .i64 0, .int .i64 0, .int .i64 0, .int .u64 0])).run Tryd.prog w1 = .ok (.bool false) w1 := fun w1 => by
        have := eqC k a b r g s m 0 0 0 0 0 0 0 w1
        rw [h2] at this; exact this
      have q1 : ∀ w1, (binOp .eql 33 (.agg #[.int .i64 k, .int .u64 (a : Nat), .int .i64 b, .int .i64 r, .int .i64 g, .int .i64 s, .int .u64 (m : Nat)]) (.agg #[.int .i64 6, .int .u64 0, .int .i64 0, .int .i64 0, .int .i64 0, .int .i64 0, .int .u64 0])).run Tryd.prog w1 = .ok (.bool (eqCB k a b r g s m 6 0 0 0 0 0 0)) w1 := fun w1 => eqC k a b r g s m 6 0 0 0 0 0 0 w1
      generalize eqCB k a b r g s m 6 0 0 0 0 0 0 = Q6 at *
      go_enter Tryd.func57, Tryd.ntmps57
      go_wp2_with fail
      refine (hasObj_any k a b r g s m _).mono ?_
      rintro e w1 ⟨rfl, hb⟩
      have gC := block_later hb (heap_alloc_new _ _)
      have hB := below_tr (below_new _ _) hb
      obtain ⟨k0, k1, k2, k3, k4, k5, k6⟩ := cells7 gC
      clear hb
      rw [h1]
      go_wp2
      go_ret
      exact ⟨by first | (rw [HE.out]; done) | (rw [HE.out]; rfl), hB⟩
    · have HE : Hid (cB k a b r g s m = (true)) := by
        show cB k a b r g s m = _
        unfold cB
        rw [if_neg (ne_true_of_eq_false h1), if_pos h2]
      have q0 : ∀ w1, (binOp .eql 33 (.agg #[.int .i64 k, .int .u64 (a : Nat), .int .i64 b, .int .i64 r, .int .i64 g, .int .i64 s, .int .u64 (m : Nat)]) (.agg #[.int .i64 0, .int .u64 0, .int .i64 0, .int .i64 0, .int .i64 0, .int .i64 0, .int .u64 0])).run Tryd.prog w1 = .ok (.bool true) w1 := fun w1 => by
        have := eqC k a b r g s m 0 0 0 0 0 0 0 w1
        rw [h2] at this; exact this
      go_enter Tryd.func57, Tryd.ntmps57
      go_wp2_with fail
      refine (hasObj_any k a b r g s m _).mono ?_
      rintro e w1 ⟨rfl, hb⟩
      have gC := block_later hb (heap_alloc_new _ _)
      have hB := below_tr (below_new _ _) hb
      obtain ⟨k0, k1, k2, k3, k4, k5, k6⟩ := cells7 gC
      clear hb
      rw [h1]
      go_wp2
      go_ret
      exact ⟨by first | (rw [HE.out]; done) | (rw [HE.out]; rfl), hB⟩
  · cases h3 : rbB k b
    · have HE : Hid (cB k a b r g s m = (false)) := by
        show cB k a b r g s m = _
        unfold cB
        rw [if_pos h1, if_neg (ne_true_of_eq_false h3)]
      go_enter Tryd.func57, Tryd.ntmps57
      go_wp2_with fail
      refine (hasObj_any k a b r g s m _).mono ?_
      rintro e w1 ⟨rfl, hb⟩
      have gC := block_later hb (heap_alloc_new _ _)
      have hB := below_tr (below_new _ _) hb
      obtain ⟨k0, k1, k2, k3, k4, k5, k6⟩ := cells7 gC
      clear hb
      rw [h1]
      go_wp2_with fail
      refine (rightBits_any k a b r g s m _).mono ?_
      rintro e w2 ⟨rfl, hb⟩
      replace gC := block_later hb gC
      replace hB := below_tr hB hb
      obtain ⟨k0, k1, k2, k3, k4, k5, k6⟩ := cells7 gC
      clear hb
      rw [h3]
      go_wp2
      go_ret
      exact ⟨by first | (rw [HE.out]; done) | (rw [HE.out]; rfl), hB⟩
    · cases h4 : raB a (bitV k b).toNat
      · have HE : Hid (cB k a b r g s m = (false)) := by
          show cB k a b r g s m = _
          unfold cB
          rw [if_pos h1, if_pos h3, if_neg (ne_true_of_eq_false h4)]
        obtain ⟨q0, q1, ⟨q2, -, q3⟩, -, -⟩ := rb_bits h3
        go_enter Tryd.func57, Tryd.ntmps57
        go_wp2_with fail
        refine (hasObj_any k a b r g s m _).mono ?_
        rintro e w1 ⟨rfl, hb⟩
        have gC := block_later hb (heap_alloc_new _ _)
        have hB := below_tr (below_new _ _) hb
        obtain ⟨k0, k1, k2, k3, k4, k5, k6⟩ := cells7 gC
        clear hb
        rw [h1]
        go_wp2_with fail
        refine (rightBits_any k a b r g s m _).mono ?_
        rintro e w2 ⟨rfl, hb⟩
        replace gC := block_later hb gC
        replace hB := below_tr hB hb
        obtain ⟨k0, k1, k2, k3, k4, k5, k6⟩ := cells7 gC
        clear hb
        rw [h3]
        go_wp2_with fail
        refine (rightAt_c k a b r g s m _ ha q0 (by omega) q2 q3 _).mono ?_
        rintro e w3 ⟨rfl, hb⟩
        replace gC := block_later hb gC
        replace hB := below_tr hB hb
        obtain ⟨k0, k1, k2, k3, k4, k5, k6⟩ := cells7 gC
        clear hb
        rw [h4]
        go_wp2
        go_ret
        exact ⟨by first | (rw [HE.out]; done) | (rw [HE.out]; rfl), hB⟩
      · have HE : Hid (cB k a b r g s m = (rrB k b r g s m)) := by
          show cB k a b r g s m = _
          unfold cB
          rw [if_pos h1, if_pos h3, if_pos h4]
        obtain ⟨q0, q1, ⟨q2, -, q3⟩, -, -⟩ := rb_bits h3
        go_enter Tryd.func57, Tryd.ntmps57
        go_wp2_with fail
        refine (hasObj_any k a b r g s m _).mono ?_
        rintro e w1 ⟨rfl, hb⟩
        have gC := block_later hb (heap_alloc_new _ _)
        have hB := below_tr (below_new _ _) hb
        obtain ⟨k0, k1, k2, k3, k4, k5, k6⟩ := cells7 gC
        clear hb
        rw [h1]
        go_wp2_with fail
        refine (rightBits_any k a b r g s m _).mono ?_
        rintro e w2 ⟨rfl, hb⟩
        replace gC := block_later hb gC
        replace hB := below_tr hB hb
        obtain ⟨k0, k1, k2, k3, k4, k5, k6⟩ := cells7 gC
        clear hb
        rw [h3]
        go_wp2_with fail
        refine (rightAt_c k a b r g s m _ ha q0 (by omega) q2 q3 _).mono ?_
        rintro e w3 ⟨rfl, hb⟩
        replace gC := block_later hb gC
        replace hB := below_tr hB hb
        obtain ⟨k0, k1, k2, k3, k4, k5, k6⟩ := cells7 gC
        clear hb
        rw [h4]
        go_wp2_with fail
        refine (rest_c k a b r g s m hm h3 _).mono ?_
        rintro e w4 ⟨rfl, hb⟩
        replace gC := block_later hb gC
        replace hB := below_tr hB hb
        obtain ⟨k0, k1, k2, k3, k4, k5, k6⟩ := cells7 gC
        clear hb
        go_wp2
        go_ret
        exact ⟨by first | (rw [HE.out]; done) | (rw [HE.out]; rfl), hB⟩

end Go.Proofs.YtcmndefjmhcbhaaDoor
