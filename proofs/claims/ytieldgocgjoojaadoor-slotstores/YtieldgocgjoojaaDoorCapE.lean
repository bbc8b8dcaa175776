/- Capabilities, fifth part: what the document says of guards and marks; its Right. -/
import Derived.Test.YtieldgocgjoojaaDoorCapC
import Derived.Test.YtieldgocgjoojaaDoorCapD
set_option linter.unusedVariables false
namespace Go.Proofs.YtieldgocgjoojaaDoor
open Go.RowKit

/-- Does 32 divide a number? -/
def al5 (m : Nat) : Bool := decide (m % 32 = 0)
/-- Is a number below two to the power of another one? -/
def ltP (m : Nat) (b : Int) : Bool := decide (m < 2 ^ b.toNat)
theorem rem5 {m : Nat} (h : al5 m = true) : (m : Int).tmod 32 = 0 := by
  have := of_decide_eq_true h
  rw [Int.tmod_eq_emod_of_nonneg (by omega)]; omega
theorem rem5n {m : Nat} (h : al5 m = false) : ∃ q : Nat, (m : Int).tmod 32 = (q : Int) ∧ ¬ q = 0 ∧ ((q : Int) == 0) = false := by
  have := of_decide_eq_false h
  refine ⟨m % 32, ?_, this, ?_⟩
  · rw [Int.tmod_eq_emod_of_nonneg (by omega)]; omega
  · rw [beq_eq_false_iff_ne]; omega
theorem pow_c (b : Int) (h0 : 0 ≤ b) (h1 : b ≤ 63) (m : Nat) : ∃ p : Nat, (∀ w1, Calls Tryd.prog 49 #[.int .i64 b] w1 fun e w' => e = .returned (.int .u64 (p : Int)) ∧ w1 = w') ∧ decide (m ≤ p) = leP m b ∧ decide (m < p) = ltP m b :=
  ⟨2 ^ b.toNat, fun w1 => pow_int b h0 h1 w1, rfl, rfl⟩

def mk1 (b g s : Int) (m : Nat) : Bool := if leP m b = true then (if al5 m = true then ((g : Int) == 0) else (false)) else (false)
set_option maxRecDepth 100000 in
set_option maxHeartbeats 4000000 in
theorem marked1_c (a : Nat) (b r g s : Int) (m : Nat) (hb : 0 ≤ b ∧ b ≤ 32) (w : World) :
    Calls Tryd.prog 44 #[.agg #[.int .i64 1, .int .u64 (a : Nat), .int .i64 b, .int .i64 r, .int .i64 g, .int .i64 s, .int .u64 (m : Nat)]] w fun e w' => e = .returned (.bool (mk1 b g s m)) ∧ Below w.heap.size w w' := by
  obtain ⟨b0, b1⟩ := hb
  cases h1 : leP m b
  · have HE : Hid (mk1 b g s m = (false)) := by
      show mk1 b g s m = _
      unfold mk1
      rw [if_neg (ne_true_of_eq_false h1)]
    obtain ⟨p, cP, hp, -⟩ := pow_c b (by omega) (by omega) m
    rw [h1] at hp
    go_enter Tryd.func44, Tryd.ntmps44
    go_upto_region 2 with fail
    have gC := heap_alloc_new w (.cells #[.int .i64 1, .int .u64 (a : Nat), .int .i64 b, .int .i64 r, .int .i64 g, .int .i64 s, .int .u64 (m : Nat)] 36)
    have hB := below_new w (.cells #[.int .i64 1, .int .u64 (a : Nat), .int .i64 b, .int .i64 r, .int .i64 g, .int .i64 s, .int .u64 (m : Nat)] 36)
    generalize w.alloc (.cells #[.int .i64 1, .int .u64 (a : Nat), .int .i64 b, .int .i64 r, .int .i64 g, .int .i64 s, .int .u64 (m : Nat)] 36) = W at *
    obtain ⟨k0, k1, k2, k3, k4, k5, k6⟩ := cells7 gC
    refine wp_region_noPanic ?_
    refine wp_region_held_drew (S := (fun w' => w'.cell? ⟨w.heap.size, 0, none⟩ = some (.int .i64 1) ∧ w'.cell? ⟨w.heap.size, 1, none⟩ = some (.int .u64 (a : Nat)) ∧ w'.cell? ⟨w.heap.size, 2, none⟩ = some (.int .i64 b) ∧ w'.cell? ⟨w.heap.size, 3, none⟩ = some (.int .i64 r) ∧ w'.cell? ⟨w.heap.size, 4, none⟩ = some (.int .i64 g) ∧ w'.cell? ⟨w.heap.size, 5, none⟩ = some (.int .i64 s) ∧ w'.cell? ⟨w.heap.size, 6, none⟩ = some (.int .u64 (m : Nat)))) (by kernel_rfl) ?_ (fun hHeld => ?_)
    · exact ⟨cell_later (Below.refl _ _).drew k0, cell_later (Below.refl _ _).drew k1, cell_later (Below.refl _ _).drew k2, cell_later (Below.refl _ _).drew k3, cell_later (Below.refl _ _).drew k4, cell_later (Below.refl _ _).drew k5, cell_later (Below.refl _ _).drew k6⟩
    replace k0 := cell_later (Below.refl _ W).drew k0
    replace k1 := cell_later (Below.refl _ W).drew k1
    replace k2 := cell_later (Below.refl _ W).drew k2
    replace k3 := cell_later (Below.refl _ W).drew k3
    replace k4 := cell_later (Below.refl _ W).drew k4
    replace k5 := cell_later (Below.refl _ W).drew k5
    replace k6 := cell_later (Below.refl _ W).drew k6
    replace gC := block_later (Below.refl _ W).drew gC
    replace hB := below_tr hB (Below.refl _ W).drew
    generalize W.drew = Wd at *
    refine take_at (i := 0) (v := ?_) 7 rfl rfl (by kernel_rfl) (by kernel_rfl) (by kernel_rfl) (fun _ _ _ h => h) (Or.inl ⟨by rfl, ?_⟩) (by assumption) ?_
    rotate_left
    · (intro w' hSw; (try dsimp only at hSw); go_simp; all_goals with_reducible rfl)
    try simp only [Act.put, List.setIfInBounds_toArray, List.set_cons_zero, List.set_cons_succ]
    refine take_at (i := 1) (v := ?_) 8 rfl rfl (by kernel_rfl) (by kernel_rfl) (by kernel_rfl) (fun _ _ _ h => h) (Or.inl ⟨by rfl, ?_⟩) (by assumption) ?_
    rotate_left
    · (intro w' hSw; (try dsimp only at hSw); go_simp; all_goals with_reducible rfl)
    try simp only [Act.put, List.setIfInBounds_toArray, List.set_cons_zero, List.set_cons_succ]
    refine take_at (i := 2) (v := ?_) 9 rfl rfl (by kernel_rfl) (by kernel_rfl) (by kernel_rfl) (fun _ _ _ h => h) (Or.inl ⟨by rfl, ?_⟩) (by assumption) ?_
    rotate_left
    · (intro w' hSw; (try dsimp only at hSw); go_simp; all_goals with_reducible rfl)
    try simp only [Act.put, List.setIfInBounds_toArray, List.set_cons_zero, List.set_cons_succ]
    refine take_at (i := 3) (v := ?_) 10 rfl rfl (by kernel_rfl) (by kernel_rfl) (by kernel_rfl) (fun _ _ _ h => h) (Or.inl ⟨by rfl, ?_⟩) (by assumption) ?_
    rotate_left
    · (intro w' hSw; (try dsimp only at hSw); go_simp; all_goals with_reducible rfl)
    try simp only [Act.put, List.setIfInBounds_toArray, List.set_cons_zero, List.set_cons_succ]
    refine wpAnyH_ready (rs := [4]) (by kernel_rfl) (by simp) ?_
    refine AllReadyH.cons rfl (fun K hK => ?_) AllReadyH.nil
    go_simp
    refine (cP _).mono ?_
    rintro e wc1 ⟨rfl, rfl⟩
    go_wp2_with fail
    refine hK.out _ _ ⟨k0, k1, k2, k3, k4, k5, k6⟩ (fun hHeld1 => ?_)
    clear hK
    try simp only [Act.put, List.setIfInBounds_toArray, List.set_cons_zero, List.set_cons_succ]
    refine take_at (i := 5) (v := ?_) 12 rfl rfl (by kernel_rfl) (by kernel_rfl) (by kernel_rfl) (fun _ _ _ h => h) (Or.inl ⟨by rfl, ?_⟩) (by assumption) ?_
    rotate_left
    · (intro w' hSw; (try dsimp only at hSw); go_simp; all_goals with_reducible rfl)
    try simp only [Act.put, List.setIfInBounds_toArray, List.set_cons_zero, List.set_cons_succ]
    refine take_at (i := 6) (v := ?_) 13 rfl rfl (by kernel_rfl) (by kernel_rfl) (by kernel_rfl) (fun _ _ _ h => h) (Or.inl ⟨by rfl, ?_⟩) (by assumption) ?_
    rotate_left
    · (intro w' hSw; (try dsimp only at hSw); go_simp; all_goals with_reducible rfl)
    try simp only [Act.put, List.setIfInBounds_toArray, List.set_cons_zero, List.set_cons_succ]
    refine take_at (i := 7) (v := undef) 14 rfl rfl (by kernel_rfl) (by kernel_rfl) (by kernel_rfl) (fun _ _ _ h => h) (Or.inr ⟨by rfl, rfl⟩) (by assumption) ?_
    try simp only [Act.put, List.setIfInBounds_toArray, List.set_cons_zero, List.set_cons_succ]
    refine take_at (i := 8) (v := undef) 15 rfl rfl (by kernel_rfl) (by kernel_rfl) (by kernel_rfl) (fun _ _ _ h => h) (Or.inr ⟨by rfl, rfl⟩) (by assumption) ?_
    try simp only [Act.put, List.setIfInBounds_toArray, List.set_cons_zero, List.set_cons_succ]
    refine take_at (i := 9) (v := undef) 16 rfl rfl (by kernel_rfl) (by kernel_rfl) (by kernel_rfl) (fun _ _ _ h => h) (Or.inr ⟨by rfl, rfl⟩) (by assumption) ?_
    try simp only [Act.put, List.setIfInBounds_toArray, List.set_cons_zero, List.set_cons_succ]
    refine take_at (i := 10) (v := undef) 17 rfl rfl (by kernel_rfl) (by kernel_rfl) (by kernel_rfl) (fun _ _ _ h => h) (Or.inr ⟨by rfl, rfl⟩) (by assumption) ?_
    try simp only [Act.put, List.setIfInBounds_toArray, List.set_cons_zero, List.set_cons_succ]
    refine take_at (i := 11) (v := ?_) 18 rfl rfl (by kernel_rfl) (by kernel_rfl) (by kernel_rfl) (fun _ _ _ h => h) (Or.inl ⟨by rfl, ?_⟩) (by assumption) ?_
    rotate_left
    · (intro w' hSw; (try dsimp only at hSw); go_simp; all_goals with_reducible rfl)
    try simp only [Act.put, List.setIfInBounds_toArray, List.set_cons_zero, List.set_cons_succ]
    refine take_at (i := 12) (v := ?_) 19 rfl rfl (by kernel_rfl) (by kernel_rfl) (by kernel_rfl) (fun _ _ _ h => h) (Or.inl ⟨by rfl, ?_⟩) (by assumption) ?_
    rotate_left
    · (intro w' hSw; (try dsimp only at hSw); go_simp; all_goals with_reducible rfl)
    try simp only [Act.put, List.setIfInBounds_toArray, List.set_cons_zero, List.set_cons_succ]
    refine take_at (i := 13) (v := undef) 20 rfl rfl (by kernel_rfl) (by kernel_rfl) (by kernel_rfl) (fun _ _ _ h => h) (Or.inr ⟨by rfl, rfl⟩) (by assumption) ?_
    try simp only [Act.put, List.setIfInBounds_toArray, List.set_cons_zero, List.set_cons_succ]
    refine take_at (i := 14) (v := undef) 21 rfl rfl (by kernel_rfl) (by kernel_rfl) (by kernel_rfl) (fun _ _ _ h => h) (Or.inr ⟨by rfl, rfl⟩) (by assumption) ?_
    try simp only [Act.put, List.setIfInBounds_toArray, List.set_cons_zero, List.set_cons_succ]
    refine take_at (i := 15) (v := undef) 22 rfl rfl (by kernel_rfl) (by kernel_rfl) (by kernel_rfl) (fun _ _ _ h => h) (Or.inr ⟨by rfl, rfl⟩) (by assumption) ?_
    try simp only [Act.put, List.setIfInBounds_toArray, List.set_cons_zero, List.set_cons_succ]
    refine take_at (i := 16) (v := ?_) 23 rfl rfl (by kernel_rfl) (by kernel_rfl) (by kernel_rfl) (fun _ _ _ h => h) (Or.inl ⟨by rfl, ?_⟩) (by assumption) ?_
    rotate_left
    · (intro w' hSw; (try dsimp only at hSw); go_simp; all_goals with_reducible rfl)
    try simp only [Act.put, List.setIfInBounds_toArray, List.set_cons_zero, List.set_cons_succ]
    refine take_at (i := 17) (v := ?_) 2 rfl rfl (by kernel_rfl) (by kernel_rfl) (by kernel_rfl) (fun _ _ _ h => h) (Or.inl ⟨by rfl, ?_⟩) (by assumption) ?_
    rotate_left
    · (intro w' hSw; (try dsimp only at hSw); go_simp; all_goals with_reducible rfl)
    try simp only [Act.put, List.setIfInBounds_toArray, List.set_cons_zero, List.set_cons_succ]
    refine wpAnyH_done (by kernel_rfl) ?_ _
    refine NoPanic.normal ?_
    all_goals go_wp2
    all_goals go_ret
    all_goals exact ⟨by first | (rw [HE.out]; done) | (rw [HE.out]; rfl), hB⟩
  · cases h2 : al5 m
    · have HE : Hid (mk1 b g s m = (false)) := by
        show mk1 b g s m = _
        unfold mk1
        rw [if_pos h1, if_neg (ne_true_of_eq_false h2)]
      obtain ⟨p, cP, hp, -⟩ := pow_c b (by omega) (by omega) m
      rw [h1] at hp
      obtain ⟨q, e5, e6, e7⟩ := rem5n h2
      go_enter Tryd.func44, Tryd.ntmps44
      go_upto_region 2 with fail
      have gC := heap_alloc_new w (.cells #[.int .i64 1, .int .u64 (a : Nat), .int .i64 b, .int .i64 r, .int .i64 g, .int .i64 s, .int .u64 (m : Nat)] 36)
      have hB := below_new w (.cells #[.int .i64 1, .int .u64 (a : Nat), .int .i64 b, .int .i64 r, .int .i64 g, .int .i64 s, .int .u64 (m : Nat)] 36)
      generalize w.alloc (.cells #[.int .i64 1, .int .u64 (a : Nat), .int .i64 b, .int .i64 r, .int .i64 g, .int .i64 s, .int .u64 (m : Nat)] 36) = W at *
      obtain ⟨k0, k1, k2, k3, k4, k5, k6⟩ := cells7 gC
      refine wp_region_noPanic ?_
      refine wp_region_held_drew (S := (fun w' => w'.cell? ⟨w.heap.size, 0, none⟩ = some (.int .i64 1) ∧ w'.cell? ⟨w.heap.size, 1, none⟩ = some (.int .u64 (a : Nat)) ∧ w'.cell? ⟨w.heap.size, 2, none⟩ = some (.int .i64 b) ∧ w'.cell? ⟨w.heap.size, 3, none⟩ = some (.int .i64 r) ∧ w'.cell? ⟨w.heap.size, 4, none⟩ = some (.int .i64 g) ∧ w'.cell? ⟨w.heap.size, 5, none⟩ = some (.int .i64 s) ∧ w'.cell? ⟨w.heap.size, 6, none⟩ = some (.int .u64 (m : Nat)))) (by kernel_rfl) ?_ (fun hHeld => ?_)
      · exact ⟨cell_later (Below.refl _ _).drew k0, cell_later (Below.refl _ _).drew k1, cell_later (Below.refl _ _).drew k2, cell_later (Below.refl _ _).drew k3, cell_later (Below.refl _ _).drew k4, cell_later (Below.refl _ _).drew k5, cell_later (Below.refl _ _).drew k6⟩
      replace k0 := cell_later (Below.refl _ W).drew k0
      replace k1 := cell_later (Below.refl _ W).drew k1
      replace k2 := cell_later (Below.refl _ W).drew k2
      replace k3 := cell_later (Below.refl _ W).drew k3
      replace k4 := cell_later (Below.refl _ W).drew k4
      replace k5 := cell_later (Below.refl _ W).drew k5
      replace k6 := cell_later (Below.refl _ W).drew k6
      replace gC := block_later (Below.refl _ W).drew gC
      replace hB := below_tr hB (Below.refl _ W).drew
      generalize W.drew = Wd at *
      refine take_at (i := 0) (v := ?_) 7 rfl rfl (by kernel_rfl) (by kernel_rfl) (by kernel_rfl) (fun _ _ _ h => h) (Or.inl ⟨by rfl, ?_⟩) (by assumption) ?_
      rotate_left
      · (intro w' hSw; (try dsimp only at hSw); go_simp; all_goals with_reducible rfl)
      try simp only [Act.put, List.setIfInBounds_toArray, List.set_cons_zero, List.set_cons_succ]
      refine take_at (i := 1) (v := ?_) 8 rfl rfl (by kernel_rfl) (by kernel_rfl) (by kernel_rfl) (fun _ _ _ h => h) (Or.inl ⟨by rfl, ?_⟩) (by assumption) ?_
      rotate_left
      · (intro w' hSw; (try dsimp only at hSw); go_simp; all_goals with_reducible rfl)
      try simp only [Act.put, List.setIfInBounds_toArray, List.set_cons_zero, List.set_cons_succ]
      refine take_at (i := 2) (v := ?_) 9 rfl rfl (by kernel_rfl) (by kernel_rfl) (by kernel_rfl) (fun _ _ _ h => h) (Or.inl ⟨by rfl, ?_⟩) (by assumption) ?_
      rotate_left
      · (intro w' hSw; (try dsimp only at hSw); go_simp; all_goals with_reducible rfl)
      try simp only [Act.put, List.setIfInBounds_toArray, List.set_cons_zero, List.set_cons_succ]
      refine take_at (i := 3) (v := ?_) 10 rfl rfl (by kernel_rfl) (by kernel_rfl) (by kernel_rfl) (fun _ _ _ h => h) (Or.inl ⟨by rfl, ?_⟩) (by assumption) ?_
      rotate_left
      · (intro w' hSw; (try dsimp only at hSw); go_simp; all_goals with_reducible rfl)
      try simp only [Act.put, List.setIfInBounds_toArray, List.set_cons_zero, List.set_cons_succ]
      refine wpAnyH_ready (rs := [4]) (by kernel_rfl) (by simp) ?_
      refine AllReadyH.cons rfl (fun K hK => ?_) AllReadyH.nil
      go_simp
      refine (cP _).mono ?_
      rintro e wc1 ⟨rfl, rfl⟩
      go_wp2_with fail
      refine hK.out _ _ ⟨k0, k1, k2, k3, k4, k5, k6⟩ (fun hHeld1 => ?_)
      clear hK
      try simp only [Act.put, List.setIfInBounds_toArray, List.set_cons_zero, List.set_cons_succ]
      refine take_at (i := 5) (v := ?_) 12 rfl rfl (by kernel_rfl) (by kernel_rfl) (by kernel_rfl) (fun _ _ _ h => h) (Or.inl ⟨by rfl, ?_⟩) (by assumption) ?_
      rotate_left
      · (intro w' hSw; (try dsimp only at hSw); go_simp; all_goals with_reducible rfl)
      try simp only [Act.put, List.setIfInBounds_toArray, List.set_cons_zero, List.set_cons_succ]
      refine take_at (i := 6) (v := ?_) 13 rfl rfl (by kernel_rfl) (by kernel_rfl) (by kernel_rfl) (fun _ _ _ h => h) (Or.inl ⟨by rfl, ?_⟩) (by assumption) ?_
      rotate_left
      · (intro w' hSw; (try dsimp only at hSw); go_simp; all_goals with_reducible rfl)
      try simp only [Act.put, List.setIfInBounds_toArray, List.set_cons_zero, List.set_cons_succ]
      refine take_at (i := 7) (v := ?_) 14 rfl rfl (by kernel_rfl) (by kernel_rfl) (by kernel_rfl) (fun _ _ _ h => h) (Or.inl ⟨by rfl, ?_⟩) (by assumption) ?_
      rotate_left
      · (intro w' hSw; (try dsimp only at hSw); go_simp; all_goals with_reducible rfl)
      try simp only [Act.put, List.setIfInBounds_toArray, List.set_cons_zero, List.set_cons_succ]
      refine take_at (i := 8) (v := ?_) 15 rfl rfl (by kernel_rfl) (by kernel_rfl) (by kernel_rfl) (fun _ _ _ h => h) (Or.inl ⟨by rfl, ?_⟩) (by assumption) ?_
      rotate_left
      · (intro w' hSw; (try dsimp only at hSw); go_simp; all_goals with_reducible rfl)
      try simp only [Act.put, List.setIfInBounds_toArray, List.set_cons_zero, List.set_cons_succ]
      refine take_at (i := 9) (v := ?_) 16 rfl rfl (by kernel_rfl) (by kernel_rfl) (by kernel_rfl) (fun _ _ _ h => h) (Or.inl ⟨by rfl, ?_⟩) (by assumption) ?_
      rotate_left
      · (intro w' hSw; (try dsimp only at hSw); go_simp; all_goals with_reducible rfl)
      try simp only [Act.put, List.setIfInBounds_toArray, List.set_cons_zero, List.set_cons_succ]
      refine take_at (i := 10) (v := ?_) 17 rfl rfl (by kernel_rfl) (by kernel_rfl) (by kernel_rfl) (fun _ _ _ h => h) (Or.inl ⟨by rfl, ?_⟩) (by assumption) ?_
      rotate_left
      · (intro w' hSw; (try dsimp only at hSw); go_simp; all_goals with_reducible rfl)
      try simp only [Act.put, List.setIfInBounds_toArray, List.set_cons_zero, List.set_cons_succ]
      refine take_at (i := 11) (v := ?_) 18 rfl rfl (by kernel_rfl) (by kernel_rfl) (by kernel_rfl) (fun _ _ _ h => h) (Or.inl ⟨by rfl, ?_⟩) (by assumption) ?_
      rotate_left
      · (intro w' hSw; (try dsimp only at hSw); go_simp; all_goals with_reducible rfl)
      try simp only [Act.put, List.setIfInBounds_toArray, List.set_cons_zero, List.set_cons_succ]
      refine take_at (i := 12) (v := ?_) 19 rfl rfl (by kernel_rfl) (by kernel_rfl) (by kernel_rfl) (fun _ _ _ h => h) (Or.inl ⟨by rfl, ?_⟩) (by assumption) ?_
      rotate_left
      · (intro w' hSw; (try dsimp only at hSw); go_simp; all_goals with_reducible rfl)
      try simp only [Act.put, List.setIfInBounds_toArray, List.set_cons_zero, List.set_cons_succ]
      refine take_at (i := 13) (v := undef) 20 rfl rfl (by kernel_rfl) (by kernel_rfl) (by kernel_rfl) (fun _ _ _ h => h) (Or.inr ⟨by rfl, rfl⟩) (by assumption) ?_
      try simp only [Act.put, List.setIfInBounds_toArray, List.set_cons_zero, List.set_cons_succ]
      refine take_at (i := 14) (v := undef) 21 rfl rfl (by kernel_rfl) (by kernel_rfl) (by kernel_rfl) (fun _ _ _ h => h) (Or.inr ⟨by rfl, rfl⟩) (by assumption) ?_
      try simp only [Act.put, List.setIfInBounds_toArray, List.set_cons_zero, List.set_cons_succ]
      refine take_at (i := 15) (v := undef) 22 rfl rfl (by kernel_rfl) (by kernel_rfl) (by kernel_rfl) (fun _ _ _ h => h) (Or.inr ⟨by rfl, rfl⟩) (by assumption) ?_
      try simp only [Act.put, List.setIfInBounds_toArray, List.set_cons_zero, List.set_cons_succ]
      refine take_at (i := 16) (v := ?_) 23 rfl rfl (by kernel_rfl) (by kernel_rfl) (by kernel_rfl) (fun _ _ _ h => h) (Or.inl ⟨by rfl, ?_⟩) (by assumption) ?_
      rotate_left
      · (intro w' hSw; (try dsimp only at hSw); go_simp; all_goals with_reducible rfl)
      try simp only [Act.put, List.setIfInBounds_toArray, List.set_cons_zero, List.set_cons_succ]
      refine take_at (i := 17) (v := ?_) 2 rfl rfl (by kernel_rfl) (by kernel_rfl) (by kernel_rfl) (fun _ _ _ h => h) (Or.inl ⟨by rfl, ?_⟩) (by assumption) ?_
      rotate_left
      · (intro w' hSw; (try dsimp only at hSw); go_simp; all_goals with_reducible rfl)
      try simp only [Act.put, List.setIfInBounds_toArray, List.set_cons_zero, List.set_cons_succ]
      refine wpAnyH_done (by kernel_rfl) ?_ _
      refine NoPanic.normal ?_
      all_goals go_wp2
      all_goals go_ret
      all_goals exact ⟨by first | (rw [HE.out]; done) | (rw [HE.out]; rfl), hB⟩
    · have HE : Hid (mk1 b g s m = ((g : Int) == 0)) := by
        show mk1 b g s m = _
        unfold mk1
        rw [if_pos h1, if_pos h2]
      obtain ⟨p, cP, hp, -⟩ := pow_c b (by omega) (by omega) m
      rw [h1] at hp
      have e5 := rem5 h2
      go_enter Tryd.func44, Tryd.ntmps44
      go_upto_region 2 with fail
      have gC := heap_alloc_new w (.cells #[.int .i64 1, .int .u64 (a : Nat), .int .i64 b, .int .i64 r, .int .i64 g, .int .i64 s, .int .u64 (m : Nat)] 36)
      have hB := below_new w (.cells #[.int .i64 1, .int .u64 (a : Nat), .int .i64 b, .int .i64 r, .int .i64 g, .int .i64 s, .int .u64 (m : Nat)] 36)
      generalize w.alloc (.cells #[.int .i64 1, .int .u64 (a : Nat), .int .i64 b, .int .i64 r, .int .i64 g, .int .i64 s, .int .u64 (m : Nat)] 36) = W at *
      obtain ⟨k0, k1, k2, k3, k4, k5, k6⟩ := cells7 gC
      refine wp_region_noPanic ?_
      refine wp_region_held_drew (S := (fun w' => w'.cell? ⟨w.heap.size, 0, none⟩ = some (.int .i64 1) ∧ w'.cell? ⟨w.heap.size, 1, none⟩ = some (.int .u64 (a : Nat)) ∧ w'.cell? ⟨w.heap.size, 2, none⟩ = some (.int .i64 b) ∧ w'.cell? ⟨w.heap.size, 3, none⟩ = some (.int .i64 r) ∧ w'.cell? ⟨w.heap.size, 4, none⟩ = some (.int .i64 g) ∧ w'.cell? ⟨w.heap.size, 5, none⟩ = some (.int .i64 s) ∧ w'.cell? ⟨w.heap.size, 6, none⟩ = some (.int .u64 (m : Nat)))) (by kernel_rfl) ?_ (fun hHeld => ?_)
      · exact ⟨cell_later (Below.refl _ _).drew k0, cell_later (Below.refl _ _).drew k1, cell_later (Below.refl _ _).drew k2, cell_later (Below.refl _ _).drew k3, cell_later (Below.refl _ _).drew k4, cell_later (Below.refl _ _).drew k5, cell_later (Below.refl _ _).drew k6⟩
      replace k0 := cell_later (Below.refl _ W).drew k0
      replace k1 := cell_later (Below.refl _ W).drew k1
      replace k2 := cell_later (Below.refl _ W).drew k2
      replace k3 := cell_later (Below.refl _ W).drew k3
      replace k4 := cell_later (Below.refl _ W).drew k4
      replace k5 := cell_later (Below.refl _ W).drew k5
      replace k6 := cell_later (Below.refl _ W).drew k6
      replace gC := block_later (Below.refl _ W).drew gC
      replace hB := below_tr hB (Below.refl _ W).drew
      generalize W.drew = Wd at *
      refine take_at (i := 0) (v := ?_) 7 rfl rfl (by kernel_rfl) (by kernel_rfl) (by kernel_rfl) (fun _ _ _ h => h) (Or.inl ⟨by rfl, ?_⟩) (by assumption) ?_
      rotate_left
      · (intro w' hSw; (try dsimp only at hSw); go_simp; all_goals with_reducible rfl)
      try simp only [Act.put, List.setIfInBounds_toArray, List.set_cons_zero, List.set_cons_succ]
      refine take_at (i := 1) (v := ?_) 8 rfl rfl (by kernel_rfl) (by kernel_rfl) (by kernel_rfl) (fun _ _ _ h => h) (Or.inl ⟨by rfl, ?_⟩) (by assumption) ?_
      rotate_left
      · (intro w' hSw; (try dsimp only at hSw); go_simp; all_goals with_reducible rfl)
      try simp only [Act.put, List.setIfInBounds_toArray, List.set_cons_zero, List.set_cons_succ]
      refine take_at (i := 2) (v := ?_) 9 rfl rfl (by kernel_rfl) (by kernel_rfl) (by kernel_rfl) (fun _ _ _ h => h) (Or.inl ⟨by rfl, ?_⟩) (by assumption) ?_
      rotate_left
      · (intro w' hSw; (try dsimp only at hSw); go_simp; all_goals with_reducible rfl)
      try simp only [Act.put, List.setIfInBounds_toArray, List.set_cons_zero, List.set_cons_succ]
      refine take_at (i := 3) (v := ?_) 10 rfl rfl (by kernel_rfl) (by kernel_rfl) (by kernel_rfl) (fun _ _ _ h => h) (Or.inl ⟨by rfl, ?_⟩) (by assumption) ?_
      rotate_left
      · (intro w' hSw; (try dsimp only at hSw); go_simp; all_goals with_reducible rfl)
      try simp only [Act.put, List.setIfInBounds_toArray, List.set_cons_zero, List.set_cons_succ]
      refine wpAnyH_ready (rs := [4]) (by kernel_rfl) (by simp) ?_
      refine AllReadyH.cons rfl (fun K hK => ?_) AllReadyH.nil
      go_simp
      refine (cP _).mono ?_
      rintro e wc1 ⟨rfl, rfl⟩
      go_wp2_with fail
      refine hK.out _ _ ⟨k0, k1, k2, k3, k4, k5, k6⟩ (fun hHeld1 => ?_)
      clear hK
      try simp only [Act.put, List.setIfInBounds_toArray, List.set_cons_zero, List.set_cons_succ]
      refine take_at (i := 5) (v := ?_) 12 rfl rfl (by kernel_rfl) (by kernel_rfl) (by kernel_rfl) (fun _ _ _ h => h) (Or.inl ⟨by rfl, ?_⟩) (by assumption) ?_
      rotate_left
      · (intro w' hSw; (try dsimp only at hSw); go_simp; all_goals with_reducible rfl)
      try simp only [Act.put, List.setIfInBounds_toArray, List.set_cons_zero, List.set_cons_succ]
      refine take_at (i := 6) (v := ?_) 13 rfl rfl (by kernel_rfl) (by kernel_rfl) (by kernel_rfl) (fun _ _ _ h => h) (Or.inl ⟨by rfl, ?_⟩) (by assumption) ?_
      rotate_left
      · (intro w' hSw; (try dsimp only at hSw); go_simp; all_goals with_reducible rfl)
      try simp only [Act.put, List.setIfInBounds_toArray, List.set_cons_zero, List.set_cons_succ]
      refine take_at (i := 7) (v := ?_) 14 rfl rfl (by kernel_rfl) (by kernel_rfl) (by kernel_rfl) (fun _ _ _ h => h) (Or.inl ⟨by rfl, ?_⟩) (by assumption) ?_
      rotate_left
      · (intro w' hSw; (try dsimp only at hSw); go_simp; all_goals with_reducible rfl)
      try simp only [Act.put, List.setIfInBounds_toArray, List.set_cons_zero, List.set_cons_succ]
      refine take_at (i := 8) (v := ?_) 15 rfl rfl (by kernel_rfl) (by kernel_rfl) (by kernel_rfl) (fun _ _ _ h => h) (Or.inl ⟨by rfl, ?_⟩) (by assumption) ?_
      rotate_left
      · (intro w' hSw; (try dsimp only at hSw); go_simp; all_goals with_reducible rfl)
      try simp only [Act.put, List.setIfInBounds_toArray, List.set_cons_zero, List.set_cons_succ]
      refine take_at (i := 9) (v := ?_) 16 rfl rfl (by kernel_rfl) (by kernel_rfl) (by kernel_rfl) (fun _ _ _ h => h) (Or.inl ⟨by rfl, ?_⟩) (by assumption) ?_
      rotate_left
      · (intro w' hSw; (try dsimp only at hSw); go_simp; all_goals with_reducible rfl)
      try simp only [Act.put, List.setIfInBounds_toArray, List.set_cons_zero, List.set_cons_succ]
      refine take_at (i := 10) (v := ?_) 17 rfl rfl (by kernel_rfl) (by kernel_rfl) (by kernel_rfl) (fun _ _ _ h => h) (Or.inl ⟨by rfl, ?_⟩) (by assumption) ?_
      rotate_left
      · (intro w' hSw; (try dsimp only at hSw); go_simp; all_goals with_reducible rfl)
      try simp only [Act.put, List.setIfInBounds_toArray, List.set_cons_zero, List.set_cons_succ]
      refine take_at (i := 11) (v := ?_) 18 rfl rfl (by kernel_rfl) (by kernel_rfl) (by kernel_rfl) (fun _ _ _ h => h) (Or.inl ⟨by rfl, ?_⟩) (by assumption) ?_
      rotate_left
      · (intro w' hSw; (try dsimp only at hSw); go_simp; all_goals with_reducible rfl)
      try simp only [Act.put, List.setIfInBounds_toArray, List.set_cons_zero, List.set_cons_succ]
      refine take_at (i := 12) (v := ?_) 19 rfl rfl (by kernel_rfl) (by kernel_rfl) (by kernel_rfl) (fun _ _ _ h => h) (Or.inl ⟨by rfl, ?_⟩) (by assumption) ?_
      rotate_left
      · (intro w' hSw; (try dsimp only at hSw); go_simp; all_goals with_reducible rfl)
      try simp only [Act.put, List.setIfInBounds_toArray, List.set_cons_zero, List.set_cons_succ]
      refine take_at (i := 13) (v := ?_) 20 rfl rfl (by kernel_rfl) (by kernel_rfl) (by kernel_rfl) (fun _ _ _ h => h) (Or.inl ⟨by rfl, ?_⟩) (by assumption) ?_
      rotate_left
      · (intro w' hSw; (try dsimp only at hSw); go_simp; all_goals with_reducible rfl)
      try simp only [Act.put, List.setIfInBounds_toArray, List.set_cons_zero, List.set_cons_succ]
      refine take_at (i := 14) (v := ?_) 21 rfl rfl (by kernel_rfl) (by kernel_rfl) (by kernel_rfl) (fun _ _ _ h => h) (Or.inl ⟨by rfl, ?_⟩) (by assumption) ?_
      rotate_left
      · (intro w' hSw; (try dsimp only at hSw); go_simp; all_goals with_reducible rfl)
      try simp only [Act.put, List.setIfInBounds_toArray, List.set_cons_zero, List.set_cons_succ]
      refine take_at (i := 15) (v := ?_) 22 rfl rfl (by kernel_rfl) (by kernel_rfl) (by kernel_rfl) (fun _ _ _ h => h) (Or.inl ⟨by rfl, ?_⟩) (by assumption) ?_
      rotate_left
      · (intro w' hSw; (try dsimp only at hSw); go_simp; all_goals with_reducible rfl)
      try simp only [Act.put, List.setIfInBounds_toArray, List.set_cons_zero, List.set_cons_succ]
      refine take_at (i := 16) (v := ?_) 23 rfl rfl (by kernel_rfl) (by kernel_rfl) (by kernel_rfl) (fun _ _ _ h => h) (Or.inl ⟨by rfl, ?_⟩) (by assumption) ?_
      rotate_left
      · (intro w' hSw; (try dsimp only at hSw); go_simp; all_goals with_reducible rfl)
      try simp only [Act.put, List.setIfInBounds_toArray, List.set_cons_zero, List.set_cons_succ]
      refine take_at (i := 17) (v := ?_) 2 rfl rfl (by kernel_rfl) (by kernel_rfl) (by kernel_rfl) (fun _ _ _ h => h) (Or.inl ⟨by rfl, ?_⟩) (by assumption) ?_
      rotate_left
      · (intro w' hSw; (try dsimp only at hSw); go_simp; all_goals with_reducible rfl)
      try simp only [Act.put, List.setIfInBounds_toArray, List.set_cons_zero, List.set_cons_succ]
      refine wpAnyH_done (by kernel_rfl) ?_ _
      refine NoPanic.normal ?_
      all_goals go_wp2
      all_goals go_ret
      all_goals exact ⟨by first | (rw [HE.out]; done) | (rw [HE.out]; rfl), hB⟩

def mk2 (b g s : Int) (m : Nat) : Bool := if 0 ≤ g then (if g ≤ 63 then (if g ≤ 64 - b then (ltP m g) else (false)) else (false)) else (false)
set_option maxRecDepth 100000 in
set_option maxHeartbeats 4000000 in
theorem marked2_c (a : Nat) (b r g s : Int) (m : Nat) (hb : 1 ≤ b ∧ b ≤ 12) (w : World) :
    Calls Tryd.prog 44 #[.agg #[.int .i64 2, .int .u64 (a : Nat), .int .i64 b, .int .i64 r, .int .i64 g, .int .i64 s, .int .u64 (m : Nat)]] w fun e w' => e = .returned (.bool (mk2 b g s m)) ∧ Below w.heap.size w w' := by
  obtain ⟨b0, b1⟩ := hb
  by_cases h1 : 0 ≤ g
  · have dh1 : decide ((0 : Int) ≤ g) = true := decide_eq_true (by omega)
    by_cases h2 : g ≤ 63
    · have dh2 : decide ((g : Int) ≤ 63) = true := decide_eq_true (by omega)
      by_cases h3 : g ≤ 64 - b
      · have dh3 : decide ((g : Int) ≤ 64 - b) = true := decide_eq_true (by omega)
        have HE : Hid (mk2 b g s m = (ltP m g)) := by
          show mk2 b g s m = _
          unfold mk2
          rw [if_pos h1, if_pos h2, if_pos h3]
        have ew : IntKind.i64.wrap (64 - b) = 64 - b := by rw [IntKind.wrap_i64]; omega
        obtain ⟨p, cP, -, hp⟩ := pow_c g (by omega) (by omega) m
        go_enter Tryd.func44, Tryd.ntmps44
        go_upto_region 4 with fail
        have gC := heap_alloc_new w (.cells #[.int .i64 2, .int .u64 (a : Nat), .int .i64 b, .int .i64 r, .int .i64 g, .int .i64 s, .int .u64 (m : Nat)] 36)
        have hB := below_new w (.cells #[.int .i64 2, .int .u64 (a : Nat), .int .i64 b, .int .i64 r, .int .i64 g, .int .i64 s, .int .u64 (m : Nat)] 36)
        generalize w.alloc (.cells #[.int .i64 2, .int .u64 (a : Nat), .int .i64 b, .int .i64 r, .int .i64 g, .int .i64 s, .int .u64 (m : Nat)] 36) = W at *
        obtain ⟨k0, k1, k2, k3, k4, k5, k6⟩ := cells7 gC
        refine wp_region_noPanic ?_
        refine wp_region_held_drew (S := (fun w' => w'.cell? ⟨w.heap.size, 0, none⟩ = some (.int .i64 2) ∧ w'.cell? ⟨w.heap.size, 1, none⟩ = some (.int .u64 (a : Nat)) ∧ w'.cell? ⟨w.heap.size, 2, none⟩ = some (.int .i64 b) ∧ w'.cell? ⟨w.heap.size, 3, none⟩ = some (.int .i64 r) ∧ w'.cell? ⟨w.heap.size, 4, none⟩ = some (.int .i64 g) ∧ w'.cell? ⟨w.heap.size, 5, none⟩ = some (.int .i64 s) ∧ w'.cell? ⟨w.heap.size, 6, none⟩ = some (.int .u64 (m : Nat)))) (by kernel_rfl) ?_ (fun hHeld => ?_)
        · exact ⟨cell_later (Below.refl _ _).drew k0, cell_later (Below.refl _ _).drew k1, cell_later (Below.refl _ _).drew k2, cell_later (Below.refl _ _).drew k3, cell_later (Below.refl _ _).drew k4, cell_later (Below.refl _ _).drew k5, cell_later (Below.refl _ _).drew k6⟩
        replace k0 := cell_later (Below.refl _ W).drew k0
        replace k1 := cell_later (Below.refl _ W).drew k1
        replace k2 := cell_later (Below.refl _ W).drew k2
        replace k3 := cell_later (Below.refl _ W).drew k3
        replace k4 := cell_later (Below.refl _ W).drew k4
        replace k5 := cell_later (Below.refl _ W).drew k5
        replace k6 := cell_later (Below.refl _ W).drew k6
        replace gC := block_later (Below.refl _ W).drew gC
        replace hB := below_tr hB (Below.refl _ W).drew
        generalize W.drew = Wd at *
        refine take_at (i := 0) (v := ?_) 27 rfl rfl (by kernel_rfl) (by kernel_rfl) (by kernel_rfl) (fun _ _ _ h => h) (Or.inl ⟨by rfl, ?_⟩) (by assumption) ?_
        rotate_left
        · (intro w' hSw; (try dsimp only at hSw); go_simp; all_goals with_reducible rfl)
        try simp only [Act.put, List.setIfInBounds_toArray, List.set_cons_zero, List.set_cons_succ]
        refine take_at (i := 1) (v := ?_) 28 rfl rfl (by kernel_rfl) (by kernel_rfl) (by kernel_rfl) (fun _ _ _ h => h) (Or.inl ⟨by rfl, ?_⟩) (by assumption) ?_
        rotate_left
        · (intro w' hSw; (try dsimp only at hSw); go_simp; all_goals with_reducible rfl)
        try simp only [Act.put, List.setIfInBounds_toArray, List.set_cons_zero, List.set_cons_succ]
        refine take_at (i := 2) (v := ?_) 29 rfl rfl (by kernel_rfl) (by kernel_rfl) (by kernel_rfl) (fun _ _ _ h => h) (Or.inl ⟨by rfl, ?_⟩) (by assumption) ?_
        rotate_left
        · (intro w' hSw; (try dsimp only at hSw); go_simp; all_goals with_reducible rfl)
        try simp only [Act.put, List.setIfInBounds_toArray, List.set_cons_zero, List.set_cons_succ]
        refine take_at (i := 3) (v := ?_) 30 rfl rfl (by kernel_rfl) (by kernel_rfl) (by kernel_rfl) (fun _ _ _ h => h) (Or.inl ⟨by rfl, ?_⟩) (by assumption) ?_
        rotate_left
        · (intro w' hSw; (try dsimp only at hSw); go_simp; all_goals with_reducible rfl)
        try simp only [Act.put, List.setIfInBounds_toArray, List.set_cons_zero, List.set_cons_succ]
        refine take_at (i := 4) (v := ?_) 31 rfl rfl (by kernel_rfl) (by kernel_rfl) (by kernel_rfl) (fun _ _ _ h => h) (Or.inl ⟨by rfl, ?_⟩) (by assumption) ?_
        rotate_left
        · (intro w' hSw; (try dsimp only at hSw); go_simp; all_goals with_reducible rfl)
        try simp only [Act.put, List.setIfInBounds_toArray, List.set_cons_zero, List.set_cons_succ]
        refine take_at (i := 5) (v := ?_) 32 rfl rfl (by kernel_rfl) (by kernel_rfl) (by kernel_rfl) (fun _ _ _ h => h) (Or.inl ⟨by rfl, ?_⟩) (by assumption) ?_
        rotate_left
        · (intro w' hSw; (try dsimp only at hSw); go_simp; all_goals with_reducible rfl)
        try simp only [Act.put, List.setIfInBounds_toArray, List.set_cons_zero, List.set_cons_succ]
        refine take_at (i := 6) (v := ?_) 33 rfl rfl (by kernel_rfl) (by kernel_rfl) (by kernel_rfl) (fun _ _ _ h => h) (Or.inl ⟨by rfl, ?_⟩) (by assumption) ?_
        rotate_left
        · (intro w' hSw; (try dsimp only at hSw); go_simp; all_goals with_reducible rfl)
        try simp only [Act.put, List.setIfInBounds_toArray, List.set_cons_zero, List.set_cons_succ]
        refine take_at (i := 7) (v := ?_) 34 rfl rfl (by kernel_rfl) (by kernel_rfl) (by kernel_rfl) (fun _ _ _ h => h) (Or.inl ⟨by rfl, ?_⟩) (by assumption) ?_
        rotate_left
        · (intro w' hSw; (try dsimp only at hSw); go_simp; all_goals with_reducible rfl)
        try simp only [Act.put, List.setIfInBounds_toArray, List.set_cons_zero, List.set_cons_succ]
        refine take_at (i := 8) (v := ?_) 35 rfl rfl (by kernel_rfl) (by kernel_rfl) (by kernel_rfl) (fun _ _ _ h => h) (Or.inl ⟨by rfl, ?_⟩) (by assumption) ?_
        rotate_left
        · (intro w' hSw; (try dsimp only at hSw); go_simp; all_goals with_reducible rfl)
        try simp only [Act.put, List.setIfInBounds_toArray, List.set_cons_zero, List.set_cons_succ]
        refine take_at (i := 9) (v := ?_) 36 rfl rfl (by kernel_rfl) (by kernel_rfl) (by kernel_rfl) (fun _ _ _ h => h) (Or.inl ⟨by rfl, ?_⟩) (by assumption) ?_
        rotate_left
        · (intro w' hSw; (try dsimp only at hSw); go_simp; all_goals with_reducible rfl)
        try simp only [Act.put, List.setIfInBounds_toArray, List.set_cons_zero, List.set_cons_succ]
        refine take_at (i := 10) (v := ?_) 37 rfl rfl (by kernel_rfl) (by kernel_rfl) (by kernel_rfl) (fun _ _ _ h => h) (Or.inl ⟨by rfl, ?_⟩) (by assumption) ?_
        rotate_left
        · (intro w' hSw; (try dsimp only at hSw); go_simp; all_goals with_reducible rfl)
        try simp only [Act.put, List.setIfInBounds_toArray, List.set_cons_zero, List.set_cons_succ]
        refine take_at (i := 11) (v := ?_) 38 rfl rfl (by kernel_rfl) (by kernel_rfl) (by kernel_rfl) (fun _ _ _ h => h) (Or.inl ⟨by rfl, ?_⟩) (by assumption) ?_
        rotate_left
        · (intro w' hSw; (try dsimp only at hSw); go_simp; all_goals with_reducible rfl)
        try simp only [Act.put, List.setIfInBounds_toArray, List.set_cons_zero, List.set_cons_succ]
        refine take_at (i := 12) (v := ?_) 39 rfl rfl (by kernel_rfl) (by kernel_rfl) (by kernel_rfl) (fun _ _ _ h => h) (Or.inl ⟨by rfl, ?_⟩) (by assumption) ?_
        rotate_left
        · (intro w' hSw; (try dsimp only at hSw); go_simp; all_goals with_reducible rfl)
        try simp only [Act.put, List.setIfInBounds_toArray, List.set_cons_zero, List.set_cons_succ]
        refine take_at (i := 13) (v := ?_) 40 rfl rfl (by kernel_rfl) (by kernel_rfl) (by kernel_rfl) (fun _ _ _ h => h) (Or.inl ⟨by rfl, ?_⟩) (by assumption) ?_
        rotate_left
        · (intro w' hSw; (try dsimp only at hSw); go_simp; all_goals with_reducible rfl)
        try simp only [Act.put, List.setIfInBounds_toArray, List.set_cons_zero, List.set_cons_succ]
        refine take_at (i := 14) (v := ?_) 41 rfl rfl (by kernel_rfl) (by kernel_rfl) (by kernel_rfl) (fun _ _ _ h => h) (Or.inl ⟨by rfl, ?_⟩) (by assumption) ?_
        rotate_left
        · (intro w' hSw; (try dsimp only at hSw); go_simp; all_goals with_reducible rfl)
        try simp only [Act.put, List.setIfInBounds_toArray, List.set_cons_zero, List.set_cons_succ]
        refine take_at (i := 15) (v := ?_) 42 rfl rfl (by kernel_rfl) (by kernel_rfl) (by kernel_rfl) (fun _ _ _ h => h) (Or.inl ⟨by rfl, ?_⟩) (by assumption) ?_
        rotate_left
        · (intro w' hSw; (try dsimp only at hSw); go_simp; all_goals with_reducible rfl)
        try simp only [Act.put, List.setIfInBounds_toArray, List.set_cons_zero, List.set_cons_succ]
        refine take_at (i := 16) (v := ?_) 43 rfl rfl (by kernel_rfl) (by kernel_rfl) (by kernel_rfl) (fun _ _ _ h => h) (Or.inl ⟨by rfl, ?_⟩) (by assumption) ?_
        rotate_left
        · (intro w' hSw; (try dsimp only at hSw); go_simp; all_goals with_reducible rfl)
        try simp only [Act.put, List.setIfInBounds_toArray, List.set_cons_zero, List.set_cons_succ]
        refine take_at (i := 17) (v := ?_) 44 rfl rfl (by kernel_rfl) (by kernel_rfl) (by kernel_rfl) (fun _ _ _ h => h) (Or.inl ⟨by rfl, ?_⟩) (by assumption) ?_
        rotate_left
        · (intro w' hSw; (try dsimp only at hSw); go_simp; all_goals with_reducible rfl)
        try simp only [Act.put, List.setIfInBounds_toArray, List.set_cons_zero, List.set_cons_succ]
        refine take_at (i := 18) (v := ?_) 45 rfl rfl (by kernel_rfl) (by kernel_rfl) (by kernel_rfl) (fun _ _ _ h => h) (Or.inl ⟨by rfl, ?_⟩) (by assumption) ?_
        rotate_left
        · (intro w' hSw; (try dsimp only at hSw); go_simp; all_goals with_reducible rfl)
        try simp only [Act.put, List.setIfInBounds_toArray, List.set_cons_zero, List.set_cons_succ]
        refine take_at (i := 19) (v := ?_) 46 rfl rfl (by kernel_rfl) (by kernel_rfl) (by kernel_rfl) (fun _ _ _ h => h) (Or.inl ⟨by rfl, ?_⟩) (by assumption) ?_
        rotate_left
        · (intro w' hSw; (try dsimp only at hSw); go_simp; all_goals with_reducible rfl)
        try simp only [Act.put, List.setIfInBounds_toArray, List.set_cons_zero, List.set_cons_succ]
        refine take_at (i := 20) (v := ?_) 47 rfl rfl (by kernel_rfl) (by kernel_rfl) (by kernel_rfl) (fun _ _ _ h => h) (Or.inl ⟨by rfl, ?_⟩) (by assumption) ?_
        rotate_left
        · (intro w' hSw; (try dsimp only at hSw); go_simp; all_goals with_reducible rfl)
        try simp only [Act.put, List.setIfInBounds_toArray, List.set_cons_zero, List.set_cons_succ]
        refine wpAnyH_ready (rs := [21]) (by kernel_rfl) (by simp) ?_
        refine AllReadyH.cons rfl (fun K hK => ?_) AllReadyH.nil
        go_simp
        refine (cP _).mono ?_
        rintro e wc1 ⟨rfl, rfl⟩
        go_wp2_with fail
        refine hK.out _ _ ⟨k0, k1, k2, k3, k4, k5, k6⟩ (fun hHeld1 => ?_)
        clear hK
        try simp only [Act.put, List.setIfInBounds_toArray, List.set_cons_zero, List.set_cons_succ]
        refine take_at (i := 22) (v := ?_) 49 rfl rfl (by kernel_rfl) (by kernel_rfl) (by kernel_rfl) (fun _ _ _ h => h) (Or.inl ⟨by rfl, ?_⟩) (by assumption) ?_
        rotate_left
        · (intro w' hSw; (try dsimp only at hSw); go_simp; all_goals with_reducible rfl)
        try simp only [Act.put, List.setIfInBounds_toArray, List.set_cons_zero, List.set_cons_succ]
        refine take_at (i := 23) (v := ?_) 50 rfl rfl (by kernel_rfl) (by kernel_rfl) (by kernel_rfl) (fun _ _ _ h => h) (Or.inl ⟨by rfl, ?_⟩) (by assumption) ?_
        rotate_left
        · (intro w' hSw; (try dsimp only at hSw); go_simp; all_goals with_reducible rfl)
        try simp only [Act.put, List.setIfInBounds_toArray, List.set_cons_zero, List.set_cons_succ]
        refine take_at (i := 24) (v := ?_) 2 rfl rfl (by kernel_rfl) (by kernel_rfl) (by kernel_rfl) (fun _ _ _ h => h) (Or.inl ⟨by rfl, ?_⟩) (by assumption) ?_
        rotate_left
        · (intro w' hSw; (try dsimp only at hSw); go_simp; all_goals with_reducible rfl)
        try simp only [Act.put, List.setIfInBounds_toArray, List.set_cons_zero, List.set_cons_succ]
        refine wpAnyH_done (by kernel_rfl) ?_ _
        refine NoPanic.normal ?_
        all_goals go_wp2
        all_goals go_ret
        all_goals exact ⟨by first | (rw [HE.out]; done) | (rw [HE.out]; rfl), hB⟩
      · have dh3 : decide ((g : Int) ≤ 64 - b) = false := decide_eq_false (by omega)
        have HE : Hid (mk2 b g s m = (false)) := by
          show mk2 b g s m = _
          unfold mk2
          rw [if_pos h1, if_pos h2, if_neg h3]
        have ew : IntKind.i64.wrap (64 - b) = 64 - b := by rw [IntKind.wrap_i64]; omega
        go_enter Tryd.func44, Tryd.ntmps44
        go_upto_region 4 with fail
        have gC := heap_alloc_new w (.cells #[.int .i64 2, .int .u64 (a : Nat), .int .i64 b, .int .i64 r, .int .i64 g, .int .i64 s, .int .u64 (m : Nat)] 36)
        have hB := below_new w (.cells #[.int .i64 2, .int .u64 (a : Nat), .int .i64 b, .int .i64 r, .int .i64 g, .int .i64 s, .int .u64 (m : Nat)] 36)
        generalize w.alloc (.cells #[.int .i64 2, .int .u64 (a : Nat), .int .i64 b, .int .i64 r, .int .i64 g, .int .i64 s, .int .u64 (m : Nat)] 36) = W at *
        obtain ⟨k0, k1, k2, k3, k4, k5, k6⟩ := cells7 gC
        refine wp_region_noPanic ?_
        refine wp_region_held_drew (S := (fun w' => w'.cell? ⟨w.heap.size, 0, none⟩ = some (.int .i64 2) ∧ w'.cell? ⟨w.heap.size, 1, none⟩ = some (.int .u64 (a : Nat)) ∧ w'.cell? ⟨w.heap.size, 2, none⟩ = some (.int .i64 b) ∧ w'.cell? ⟨w.heap.size, 3, none⟩ = some (.int .i64 r) ∧ w'.cell? ⟨w.heap.size, 4, none⟩ = some (.int .i64 g) ∧ w'.cell? ⟨w.heap.size, 5, none⟩ = some (.int .i64 s) ∧ w'.cell? ⟨w.heap.size, 6, none⟩ = some (.int .u64 (m : Nat)))) (by kernel_rfl) ?_ (fun hHeld => ?_)
        · exact ⟨cell_later (Below.refl _ _).drew k0, cell_later (Below.refl _ _).drew k1, cell_later (Below.refl _ _).drew k2, cell_later (Below.refl _ _).drew k3, cell_later (Below.refl _ _).drew k4, cell_later (Below.refl _ _).drew k5, cell_later (Below.refl _ _).drew k6⟩
        replace k0 := cell_later (Below.refl _ W).drew k0
        replace k1 := cell_later (Below.refl _ W).drew k1
        replace k2 := cell_later (Below.refl _ W).drew k2
        replace k3 := cell_later (Below.refl _ W).drew k3
        replace k4 := cell_later (Below.refl _ W).drew k4
        replace k5 := cell_later (Below.refl _ W).drew k5
        replace k6 := cell_later (Below.refl _ W).drew k6
        replace gC := block_later (Below.refl _ W).drew gC
        replace hB := below_tr hB (Below.refl _ W).drew
        generalize W.drew = Wd at *
        refine take_at (i := 0) (v := ?_) 27 rfl rfl (by kernel_rfl) (by kernel_rfl) (by kernel_rfl) (fun _ _ _ h => h) (Or.inl ⟨by rfl, ?_⟩) (by assumption) ?_
        rotate_left
        · (intro w' hSw; (try dsimp only at hSw); go_simp; all_goals with_reducible rfl)
        try simp only [Act.put, List.setIfInBounds_toArray, List.set_cons_zero, List.set_cons_succ]
        refine take_at (i := 1) (v := ?_) 28 rfl rfl (by kernel_rfl) (by kernel_rfl) (by kernel_rfl) (fun _ _ _ h => h) (Or.inl ⟨by rfl, ?_⟩) (by assumption) ?_
        rotate_left
        · (intro w' hSw; (try dsimp only at hSw); go_simp; all_goals with_reducible rfl)
        try simp only [Act.put, List.setIfInBounds_toArray, List.set_cons_zero, List.set_cons_succ]
        refine take_at (i := 2) (v := ?_) 29 rfl rfl (by kernel_rfl) (by kernel_rfl) (by kernel_rfl) (fun _ _ _ h => h) (Or.inl ⟨by rfl, ?_⟩) (by assumption) ?_
        rotate_left
        · (intro w' hSw; (try dsimp only at hSw); go_simp; all_goals with_reducible rfl)
        try simp only [Act.put, List.setIfInBounds_toArray, List.set_cons_zero, List.set_cons_succ]
        refine take_at (i := 3) (v := ?_) 30 rfl rfl (by kernel_rfl) (by kernel_rfl) (by kernel_rfl) (fun _ _ _ h => h) (Or.inl ⟨by rfl, ?_⟩) (by assumption) ?_
        rotate_left
        · (intro w' hSw; (try dsimp only at hSw); go_simp; all_goals with_reducible rfl)
        try simp only [Act.put, List.setIfInBounds_toArray, List.set_cons_zero, List.set_cons_succ]
        refine take_at (i := 4) (v := ?_) 31 rfl rfl (by kernel_rfl) (by kernel_rfl) (by kernel_rfl) (fun _ _ _ h => h) (Or.inl ⟨by rfl, ?_⟩) (by assumption) ?_
        rotate_left
        · (intro w' hSw; (try dsimp only at hSw); go_simp; all_goals with_reducible rfl)
        try simp only [Act.put, List.setIfInBounds_toArray, List.set_cons_zero, List.set_cons_succ]
        refine take_at (i := 5) (v := ?_) 32 rfl rfl (by kernel_rfl) (by kernel_rfl) (by kernel_rfl) (fun _ _ _ h => h) (Or.inl ⟨by rfl, ?_⟩) (by assumption) ?_
        rotate_left
        · (intro w' hSw; (try dsimp only at hSw); go_simp; all_goals with_reducible rfl)
        try simp only [Act.put, List.setIfInBounds_toArray, List.set_cons_zero, List.set_cons_succ]
        refine take_at (i := 6) (v := ?_) 33 rfl rfl (by kernel_rfl) (by kernel_rfl) (by kernel_rfl) (fun _ _ _ h => h) (Or.inl ⟨by rfl, ?_⟩) (by assumption) ?_
        rotate_left
        · (intro w' hSw; (try dsimp only at hSw); go_simp; all_goals with_reducible rfl)
        try simp only [Act.put, List.setIfInBounds_toArray, List.set_cons_zero, List.set_cons_succ]
        refine take_at (i := 7) (v := ?_) 34 rfl rfl (by kernel_rfl) (by kernel_rfl) (by kernel_rfl) (fun _ _ _ h => h) (Or.inl ⟨by rfl, ?_⟩) (by assumption) ?_
        rotate_left
        · (intro w' hSw; (try dsimp only at hSw); go_simp; all_goals with_reducible rfl)
        try simp only [Act.put, List.setIfInBounds_toArray, List.set_cons_zero, List.set_cons_succ]
        refine take_at (i := 8) (v := ?_) 35 rfl rfl (by kernel_rfl) (by kernel_rfl) (by kernel_rfl) (fun _ _ _ h => h) (Or.inl ⟨by rfl, ?_⟩) (by assumption) ?_
        rotate_left
        · (intro w' hSw; (try dsimp only at hSw); go_simp; all_goals with_reducible rfl)
        try simp only [Act.put, List.setIfInBounds_toArray, List.set_cons_zero, List.set_cons_succ]
        refine take_at (i := 9) (v := ?_) 36 rfl rfl (by kernel_rfl) (by kernel_rfl) (by kernel_rfl) (fun _ _ _ h => h) (Or.inl ⟨by rfl, ?_⟩) (by assumption) ?_
        rotate_left
        · (intro w' hSw; (try dsimp only at hSw); go_simp; all_goals with_reducible rfl)
        try simp only [Act.put, List.setIfInBounds_toArray, List.set_cons_zero, List.set_cons_succ]
        refine take_at (i := 10) (v := ?_) 37 rfl rfl (by kernel_rfl) (by kernel_rfl) (by kernel_rfl) (fun _ _ _ h => h) (Or.inl ⟨by rfl, ?_⟩) (by assumption) ?_
        rotate_left
        · (intro w' hSw; (try dsimp only at hSw); go_simp; all_goals with_reducible rfl)
        try simp only [Act.put, List.setIfInBounds_toArray, List.set_cons_zero, List.set_cons_succ]
        refine take_at (i := 11) (v := ?_) 38 rfl rfl (by kernel_rfl) (by kernel_rfl) (by kernel_rfl) (fun _ _ _ h => h) (Or.inl ⟨by rfl, ?_⟩) (by assumption) ?_
        rotate_left
        · (intro w' hSw; (try dsimp only at hSw); go_simp; all_goals with_reducible rfl)
        try simp only [Act.put, List.setIfInBounds_toArray, List.set_cons_zero, List.set_cons_succ]
        refine take_at (i := 12) (v := ?_) 39 rfl rfl (by kernel_rfl) (by kernel_rfl) (by kernel_rfl) (fun _ _ _ h => h) (Or.inl ⟨by rfl, ?_⟩) (by assumption) ?_
        rotate_left
        · (intro w' hSw; (try dsimp only at hSw); go_simp; all_goals with_reducible rfl)
        try simp only [Act.put, List.setIfInBounds_toArray, List.set_cons_zero, List.set_cons_succ]
        refine take_at (i := 13) (v := ?_) 40 rfl rfl (by kernel_rfl) (by kernel_rfl) (by kernel_rfl) (fun _ _ _ h => h) (Or.inl ⟨by rfl, ?_⟩) (by assumption) ?_
        rotate_left
        · (intro w' hSw; (try dsimp only at hSw); go_simp; all_goals with_reducible rfl)
        try simp only [Act.put, List.setIfInBounds_toArray, List.set_cons_zero, List.set_cons_succ]
        refine take_at (i := 14) (v := ?_) 41 rfl rfl (by kernel_rfl) (by kernel_rfl) (by kernel_rfl) (fun _ _ _ h => h) (Or.inl ⟨by rfl, ?_⟩) (by assumption) ?_
        rotate_left
        · (intro w' hSw; (try dsimp only at hSw); go_simp; all_goals with_reducible rfl)
        try simp only [Act.put, List.setIfInBounds_toArray, List.set_cons_zero, List.set_cons_succ]
        refine take_at (i := 15) (v := ?_) 42 rfl rfl (by kernel_rfl) (by kernel_rfl) (by kernel_rfl) (fun _ _ _ h => h) (Or.inl ⟨by rfl, ?_⟩) (by assumption) ?_
        rotate_left
        · (intro w' hSw; (try dsimp only at hSw); go_simp; all_goals with_reducible rfl)
        try simp only [Act.put, List.setIfInBounds_toArray, List.set_cons_zero, List.set_cons_succ]
        refine take_at (i := 16) (v := ?_) 43 rfl rfl (by kernel_rfl) (by kernel_rfl) (by kernel_rfl) (fun _ _ _ h => h) (Or.inl ⟨by rfl, ?_⟩) (by assumption) ?_
        rotate_left
        · (intro w' hSw; (try dsimp only at hSw); go_simp; all_goals with_reducible rfl)
        try simp only [Act.put, List.setIfInBounds_toArray, List.set_cons_zero, List.set_cons_succ]
        refine take_at (i := 17) (v := undef) 44 rfl rfl (by kernel_rfl) (by kernel_rfl) (by kernel_rfl) (fun _ _ _ h => h) (Or.inr ⟨by rfl, rfl⟩) (by assumption) ?_
        try simp only [Act.put, List.setIfInBounds_toArray, List.set_cons_zero, List.set_cons_succ]
        refine take_at (i := 18) (v := undef) 45 rfl rfl (by kernel_rfl) (by kernel_rfl) (by kernel_rfl) (fun _ _ _ h => h) (Or.inr ⟨by rfl, rfl⟩) (by assumption) ?_
        try simp only [Act.put, List.setIfInBounds_toArray, List.set_cons_zero, List.set_cons_succ]
        refine take_at (i := 19) (v := undef) 46 rfl rfl (by kernel_rfl) (by kernel_rfl) (by kernel_rfl) (fun _ _ _ h => h) (Or.inr ⟨by rfl, rfl⟩) (by assumption) ?_
        try simp only [Act.put, List.setIfInBounds_toArray, List.set_cons_zero, List.set_cons_succ]
        refine take_at (i := 20) (v := undef) 47 rfl rfl (by kernel_rfl) (by kernel_rfl) (by kernel_rfl) (fun _ _ _ h => h) (Or.inr ⟨by rfl, rfl⟩) (by assumption) ?_
        try simp only [Act.put, List.setIfInBounds_toArray, List.set_cons_zero, List.set_cons_succ]
        refine take_at (i := 21) (v := undef) 48 rfl rfl (by kernel_rfl) (by kernel_rfl) (by kernel_rfl) (fun _ _ _ h => h) (Or.inr ⟨by rfl, rfl⟩) (by assumption) ?_
        try simp only [Act.put, List.setIfInBounds_toArray, List.set_cons_zero, List.set_cons_succ]
        refine take_at (i := 22) (v := undef) 49 rfl rfl (by kernel_rfl) (by kernel_rfl) (by kernel_rfl) (fun _ _ _ h => h) (Or.inr ⟨by rfl, rfl⟩) (by assumption) ?_
        try simp only [Act.put, List.setIfInBounds_toArray, List.set_cons_zero, List.set_cons_succ]
        refine take_at (i := 23) (v := ?_) 50 rfl rfl (by kernel_rfl) (by kernel_rfl) (by kernel_rfl) (fun _ _ _ h => h) (Or.inl ⟨by rfl, ?_⟩) (by assumption) ?_
        rotate_left
        · (intro w' hSw; (try dsimp only at hSw); go_simp; all_goals with_reducible rfl)
        try simp only [Act.put, List.setIfInBounds_toArray, List.set_cons_zero, List.set_cons_succ]
        refine take_at (i := 24) (v := ?_) 2 rfl rfl (by kernel_rfl) (by kernel_rfl) (by kernel_rfl) (fun _ _ _ h => h) (Or.inl ⟨by rfl, ?_⟩) (by assumption) ?_
        rotate_left
        · (intro w' hSw; (try dsimp only at hSw); go_simp; all_goals with_reducible rfl)
        try simp only [Act.put, List.setIfInBounds_toArray, List.set_cons_zero, List.set_cons_succ]
        refine wpAnyH_done (by kernel_rfl) ?_ _
        refine NoPanic.normal ?_
        all_goals go_wp2
        all_goals go_ret
        all_goals exact ⟨by first | (rw [HE.out]; done) | (rw [HE.out]; rfl), hB⟩
    · have dh2 : decide ((g : Int) ≤ 63) = false := decide_eq_false (by omega)
      have HE : Hid (mk2 b g s m = (false)) := by
        show mk2 b g s m = _
        unfold mk2
        rw [if_pos h1, if_neg h2]
      have ew : IntKind.i64.wrap (64 - b) = 64 - b := by rw [IntKind.wrap_i64]; omega
      go_enter Tryd.func44, Tryd.ntmps44
      go_upto_region 4 with fail
      have gC := heap_alloc_new w (.cells #[.int .i64 2, .int .u64 (a : Nat), .int .i64 b, .int .i64 r, .int .i64 g, .int .i64 s, .int .u64 (m : Nat)] 36)
      have hB := below_new w (.cells #[.int .i64 2, .int .u64 (a : Nat), .int .i64 b, .int .i64 r, .int .i64 g, .int .i64 s, .int .u64 (m : Nat)] 36)
      generalize w.alloc (.cells #[.int .i64 2, .int .u64 (a : Nat), .int .i64 b, .int .i64 r, .int .i64 g, .int .i64 s, .int .u64 (m : Nat)] 36) = W at *
      obtain ⟨k0, k1, k2, k3, k4, k5, k6⟩ := cells7 gC
      refine wp_region_noPanic ?_
      refine wp_region_held_drew (S := (fun w' => w'.cell? ⟨w.heap.size, 0, none⟩ = some (.int .i64 2) ∧ w'.cell? ⟨w.heap.size, 1, none⟩ = some (.int .u64 (a : Nat)) ∧ w'.cell? ⟨w.heap.size, 2, none⟩ = some (.int .i64 b) ∧ w'.cell? ⟨w.heap.size, 3, none⟩ = some (.int .i64 r) ∧ w'.cell? ⟨w.heap.size, 4, none⟩ = some (.int .i64 g) ∧ w'.cell? ⟨w.heap.size, 5, none⟩ = some (.int .i64 s) ∧ w'.cell? ⟨w.heap.size, 6, none⟩ = some (.int .u64 (m : Nat)))) (by kernel_rfl) ?_ (fun hHeld => ?_)
      · exact ⟨cell_later (Below.refl _ _).drew k0, cell_later (Below.refl _ _).drew k1, cell_later (Below.refl _ _).drew k2, cell_later (Below.refl _ _).drew k3, cell_later (Below.refl _ _).drew k4, cell_later (Below.refl _ _).drew k5, cell_later (Below.refl _ _).drew k6⟩
      replace k0 := cell_later (Below.refl _ W).drew k0
      replace k1 := cell_later (Below.refl _ W).drew k1
      replace k2 := cell_later (Below.refl _ W).drew k2
      replace k3 := cell_later (Below.refl _ W).drew k3
      replace k4 := cell_later (Below.refl _ W).drew k4
      replace k5 := cell_later (Below.refl _ W).drew k5
      replace k6 := cell_later (Below.refl _ W).drew k6
      replace gC := block_later (Below.refl _ W).drew gC
      replace hB := below_tr hB (Below.refl _ W).drew
      generalize W.drew = Wd at *
      refine take_at (i := 0) (v := ?_) 27 rfl rfl (by kernel_rfl) (by kernel_rfl) (by kernel_rfl) (fun _ _ _ h => h) (Or.inl ⟨by rfl, ?_⟩) (by assumption) ?_
      rotate_left
      · (intro w' hSw; (try dsimp only at hSw); go_simp; all_goals with_reducible rfl)
      try simp only [Act.put, List.setIfInBounds_toArray, List.set_cons_zero, List.set_cons_succ]
      refine take_at (i := 1) (v := ?_) 28 rfl rfl (by kernel_rfl) (by kernel_rfl) (by kernel_rfl) (fun _ _ _ h => h) (Or.inl ⟨by rfl, ?_⟩) (by assumption) ?_
      rotate_left
      · (intro w' hSw; (try dsimp only at hSw); go_simp; all_goals with_reducible rfl)
      try simp only [Act.put, List.setIfInBounds_toArray, List.set_cons_zero, List.set_cons_succ]
      refine take_at (i := 2) (v := ?_) 29 rfl rfl (by kernel_rfl) (by kernel_rfl) (by kernel_rfl) (fun _ _ _ h => h) (Or.inl ⟨by rfl, ?_⟩) (by assumption) ?_
      rotate_left
      · (intro w' hSw; (try dsimp only at hSw); go_simp; all_goals with_reducible rfl)
      try simp only [Act.put, List.setIfInBounds_toArray, List.set_cons_zero, List.set_cons_succ]
      refine take_at (i := 3) (v := ?_) 30 rfl rfl (by kernel_rfl) (by kernel_rfl) (by kernel_rfl) (fun _ _ _ h => h) (Or.inl ⟨by rfl, ?_⟩) (by assumption) ?_
      rotate_left
      · (intro w' hSw; (try dsimp only at hSw); go_simp; all_goals with_reducible rfl)
      try simp only [Act.put, List.setIfInBounds_toArray, List.set_cons_zero, List.set_cons_succ]
      refine take_at (i := 4) (v := ?_) 31 rfl rfl (by kernel_rfl) (by kernel_rfl) (by kernel_rfl) (fun _ _ _ h => h) (Or.inl ⟨by rfl, ?_⟩) (by assumption) ?_
      rotate_left
      · (intro w' hSw; (try dsimp only at hSw); go_simp; all_goals with_reducible rfl)
      try simp only [Act.put, List.setIfInBounds_toArray, List.set_cons_zero, List.set_cons_succ]
      refine take_at (i := 5) (v := ?_) 32 rfl rfl (by kernel_rfl) (by kernel_rfl) (by kernel_rfl) (fun _ _ _ h => h) (Or.inl ⟨by rfl, ?_⟩) (by assumption) ?_
      rotate_left
      · (intro w' hSw; (try dsimp only at hSw); go_simp; all_goals with_reducible rfl)
      try simp only [Act.put, List.setIfInBounds_toArray, List.set_cons_zero, List.set_cons_succ]
      refine take_at (i := 6) (v := ?_) 33 rfl rfl (by kernel_rfl) (by kernel_rfl) (by kernel_rfl) (fun _ _ _ h => h) (Or.inl ⟨by rfl, ?_⟩) (by assumption) ?_
      rotate_left
      · (intro w' hSw; (try dsimp only at hSw); go_simp; all_goals with_reducible rfl)
      try simp only [Act.put, List.setIfInBounds_toArray, List.set_cons_zero, List.set_cons_succ]
      refine take_at (i := 7) (v := ?_) 34 rfl rfl (by kernel_rfl) (by kernel_rfl) (by kernel_rfl) (fun _ _ _ h => h) (Or.inl ⟨by rfl, ?_⟩) (by assumption) ?_
      rotate_left
      · (intro w' hSw; (try dsimp only at hSw); go_simp; all_goals with_reducible rfl)
      try simp only [Act.put, List.setIfInBounds_toArray, List.set_cons_zero, List.set_cons_succ]
      refine take_at (i := 8) (v := ?_) 35 rfl rfl (by kernel_rfl) (by kernel_rfl) (by kernel_rfl) (fun _ _ _ h => h) (Or.inl ⟨by rfl, ?_⟩) (by assumption) ?_
      rotate_left
      · (intro w' hSw; (try dsimp only at hSw); go_simp; all_goals with_reducible rfl)
      try simp only [Act.put, List.setIfInBounds_toArray, List.set_cons_zero, List.set_cons_succ]
      refine take_at (i := 9) (v := undef) 36 rfl rfl (by kernel_rfl) (by kernel_rfl) (by kernel_rfl) (fun _ _ _ h => h) (Or.inr ⟨by rfl, rfl⟩) (by assumption) ?_
      try simp only [Act.put, List.setIfInBounds_toArray, List.set_cons_zero, List.set_cons_succ]
      refine take_at (i := 10) (v := undef) 37 rfl rfl (by kernel_rfl) (by kernel_rfl) (by kernel_rfl) (fun _ _ _ h => h) (Or.inr ⟨by rfl, rfl⟩) (by assumption) ?_
      try simp only [Act.put, List.setIfInBounds_toArray, List.set_cons_zero, List.set_cons_succ]
      refine take_at (i := 11) (v := undef) 38 rfl rfl (by kernel_rfl) (by kernel_rfl) (by kernel_rfl) (fun _ _ _ h => h) (Or.inr ⟨by rfl, rfl⟩) (by assumption) ?_
      try simp only [Act.put, List.setIfInBounds_toArray, List.set_cons_zero, List.set_cons_succ]
      refine take_at (i := 12) (v := undef) 39 rfl rfl (by kernel_rfl) (by kernel_rfl) (by kernel_rfl) (fun _ _ _ h => h) (Or.inr ⟨by rfl, rfl⟩) (by assumption) ?_
      try simp only [Act.put, List.setIfInBounds_toArray, List.set_cons_zero, List.set_cons_succ]
      refine take_at (i := 13) (v := undef) 40 rfl rfl (by kernel_rfl) (by kernel_rfl) (by kernel_rfl) (fun _ _ _ h => h) (Or.inr ⟨by rfl, rfl⟩) (by assumption) ?_
      try simp only [Act.put, List.setIfInBounds_toArray, List.set_cons_zero, List.set_cons_succ]
      refine take_at (i := 14) (v := undef) 41 rfl rfl (by kernel_rfl) (by kernel_rfl) (by kernel_rfl) (fun _ _ _ h => h) (Or.inr ⟨by rfl, rfl⟩) (by assumption) ?_
      try simp only [Act.put, List.setIfInBounds_toArray, List.set_cons_zero, List.set_cons_succ]
      refine take_at (i := 15) (v := ?_) 42 rfl rfl (by kernel_rfl) (by kernel_rfl) (by kernel_rfl) (fun _ _ _ h => h) (Or.inl ⟨by rfl, ?_⟩) (by assumption) ?_
      rotate_left
      · (intro w' hSw; (try dsimp only at hSw); go_simp; all_goals with_reducible rfl)
      try simp only [Act.put, List.setIfInBounds_toArray, List.set_cons_zero, List.set_cons_succ]
      refine take_at (i := 16) (v := ?_) 43 rfl rfl (by kernel_rfl) (by kernel_rfl) (by kernel_rfl) (fun _ _ _ h => h) (Or.inl ⟨by rfl, ?_⟩) (by assumption) ?_
      rotate_left
      · (intro w' hSw; (try dsimp only at hSw); go_simp; all_goals with_reducible rfl)
      try simp only [Act.put, List.setIfInBounds_toArray, List.set_cons_zero, List.set_cons_succ]
      refine take_at (i := 17) (v := undef) 44 rfl rfl (by kernel_rfl) (by kernel_rfl) (by kernel_rfl) (fun _ _ _ h => h) (Or.inr ⟨by rfl, rfl⟩) (by assumption) ?_
      try simp only [Act.put, List.setIfInBounds_toArray, List.set_cons_zero, List.set_cons_succ]
      refine take_at (i := 18) (v := undef) 45 rfl rfl (by kernel_rfl) (by kernel_rfl) (by kernel_rfl) (fun _ _ _ h => h) (Or.inr ⟨by rfl, rfl⟩) (by assumption) ?_
      try simp only [Act.put, List.setIfInBounds_toArray, List.set_cons_zero, List.set_cons_succ]
      refine take_at (i := 19) (v := undef) 46 rfl rfl (by kernel_rfl) (by kernel_rfl) (by kernel_rfl) (fun _ _ _ h => h) (Or.inr ⟨by rfl, rfl⟩) (by assumption) ?_
      try simp only [Act.put, List.setIfInBounds_toArray, List.set_cons_zero, List.set_cons_succ]
      refine take_at (i := 20) (v := undef) 47 rfl rfl (by kernel_rfl) (by kernel_rfl) (by kernel_rfl) (fun _ _ _ h => h) (Or.inr ⟨by rfl, rfl⟩) (by assumption) ?_
      try simp only [Act.put, List.setIfInBounds_toArray, List.set_cons_zero, List.set_cons_succ]
      refine take_at (i := 21) (v := undef) 48 rfl rfl (by kernel_rfl) (by kernel_rfl) (by kernel_rfl) (fun _ _ _ h => h) (Or.inr ⟨by rfl, rfl⟩) (by assumption) ?_
      try simp only [Act.put, List.setIfInBounds_toArray, List.set_cons_zero, List.set_cons_succ]
      refine take_at (i := 22) (v := undef) 49 rfl rfl (by kernel_rfl) (by kernel_rfl) (by kernel_rfl) (fun _ _ _ h => h) (Or.inr ⟨by rfl, rfl⟩) (by assumption) ?_
      try simp only [Act.put, List.setIfInBounds_toArray, List.set_cons_zero, List.set_cons_succ]
      refine take_at (i := 23) (v := ?_) 50 rfl rfl (by kernel_rfl) (by kernel_rfl) (by kernel_rfl) (fun _ _ _ h => h) (Or.inl ⟨by rfl, ?_⟩) (by assumption) ?_
      rotate_left
      · (intro w' hSw; (try dsimp only at hSw); go_simp; all_goals with_reducible rfl)
      try simp only [Act.put, List.setIfInBounds_toArray, List.set_cons_zero, List.set_cons_succ]
      refine take_at (i := 24) (v := ?_) 2 rfl rfl (by kernel_rfl) (by kernel_rfl) (by kernel_rfl) (fun _ _ _ h => h) (Or.inl ⟨by rfl, ?_⟩) (by assumption) ?_
      rotate_left
      · (intro w' hSw; (try dsimp only at hSw); go_simp; all_goals with_reducible rfl)
      try simp only [Act.put, List.setIfInBounds_toArray, List.set_cons_zero, List.set_cons_succ]
      refine wpAnyH_done (by kernel_rfl) ?_ _
      refine NoPanic.normal ?_
      all_goals go_wp2
      all_goals go_ret
      all_goals exact ⟨by first | (rw [HE.out]; done) | (rw [HE.out]; rfl), hB⟩
  · have dh1 : decide ((0 : Int) ≤ g) = false := decide_eq_false (by omega)
    have HE : Hid (mk2 b g s m = (false)) := by
      show mk2 b g s m = _
      unfold mk2
      rw [if_neg h1]
    have ew : IntKind.i64.wrap (64 - b) = 64 - b := by rw [IntKind.wrap_i64]; omega
    go_enter Tryd.func44, Tryd.ntmps44
    go_upto_region 4 with fail
    have gC := heap_alloc_new w (.cells #[.int .i64 2, .int .u64 (a : Nat), .int .i64 b, .int .i64 r, .int .i64 g, .int .i64 s, .int .u64 (m : Nat)] 36)
    have hB := below_new w (.cells #[.int .i64 2, .int .u64 (a : Nat), .int .i64 b, .int .i64 r, .int .i64 g, .int .i64 s, .int .u64 (m : Nat)] 36)
    generalize w.alloc (.cells #[.int .i64 2, .int .u64 (a : Nat), .int .i64 b, .int .i64 r, .int .i64 g, .int .i64 s, .int .u64 (m : Nat)] 36) = W at *
    obtain ⟨k0, k1, k2, k3, k4, k5, k6⟩ := cells7 gC
    refine wp_region_noPanic ?_
    refine wp_region_held_drew (S := (fun w' => w'.cell? ⟨w.heap.size, 0, none⟩ = some (.int .i64 2) ∧ w'.cell? ⟨w.heap.size, 1, none⟩ = some (.int .u64 (a : Nat)) ∧ w'.cell? ⟨w.heap.size, 2, none⟩ = some (.int .i64 b) ∧ w'.cell? ⟨w.heap.size, 3, none⟩ = some (.int .i64 r) ∧ w'.cell? ⟨w.heap.size, 4, none⟩ = some (.int .i64 g) ∧ w'.cell? ⟨w.heap.size, 5, none⟩ = some (.int .i64 s) ∧ w'.cell? ⟨w.heap.size, 6, none⟩ = some (.int .u64 (m : Nat)))) (by kernel_rfl) ?_ (fun hHeld => ?_)
    · exact ⟨cell_later (Below.refl _ _).drew k0, cell_later (Below.refl _ _).drew k1, cell_later (Below.refl _ _).drew k2, cell_later (Below.refl _ _).drew k3, cell_later (Below.refl _ _).drew k4, cell_later (Below.refl _ _).drew k5, cell_later (Below.refl _ _).drew k6⟩
    replace k0 := cell_later (Below.refl _ W).drew k0
    replace k1 := cell_later (Below.refl _ W).drew k1
    replace k2 := cell_later (Below.refl _ W).drew k2
    replace k3 := cell_later (Below.refl _ W).drew k3
    replace k4 := cell_later (Below.refl _ W).drew k4
    replace k5 := cell_later (Below.refl _ W).drew k5
    replace k6 := cell_later (Below.refl _ W).drew k6
    replace gC := block_later (Below.refl _ W).drew gC
    replace hB := below_tr hB (Below.refl _ W).drew
    generalize W.drew = Wd at *
    refine take_at (i := 0) (v := ?_) 27 rfl rfl (by kernel_rfl) (by kernel_rfl) (by kernel_rfl) (fun _ _ _ h => h) (Or.inl ⟨by rfl, ?_⟩) (by assumption) ?_
    rotate_left
    · (intro w' hSw; (try dsimp only at hSw); go_simp; all_goals with_reducible rfl)
    try simp only [Act.put, List.setIfInBounds_toArray, List.set_cons_zero, List.set_cons_succ]
    refine take_at (i := 1) (v := ?_) 28 rfl rfl (by kernel_rfl) (by kernel_rfl) (by kernel_rfl) (fun _ _ _ h => h) (Or.inl ⟨by rfl, ?_⟩) (by assumption) ?_
    rotate_left
    · (intro w' hSw; (try dsimp only at hSw); go_simp; all_goals with_reducible rfl)
    try simp only [Act.put, List.setIfInBounds_toArray, List.set_cons_zero, List.set_cons_succ]
    refine take_at (i := 2) (v := ?_) 29 rfl rfl (by kernel_rfl) (by kernel_rfl) (by kernel_rfl) (fun _ _ _ h => h) (Or.inl ⟨by rfl, ?_⟩) (by assumption) ?_
    rotate_left
    · (intro w' hSw; (try dsimp only at hSw); go_simp; all_goals with_reducible rfl)
    try simp only [Act.put, List.setIfInBounds_toArray, List.set_cons_zero, List.set_cons_succ]
    refine take_at (i := 3) (v := ?_) 30 rfl rfl (by kernel_rfl) (by kernel_rfl) (by kernel_rfl) (fun _ _ _ h => h) (Or.inl ⟨by rfl, ?_⟩) (by assumption) ?_
    rotate_left
    · (intro w' hSw; (try dsimp only at hSw); go_simp; all_goals with_reducible rfl)
    try simp only [Act.put, List.setIfInBounds_toArray, List.set_cons_zero, List.set_cons_succ]
    refine take_at (i := 4) (v := undef) 31 rfl rfl (by kernel_rfl) (by kernel_rfl) (by kernel_rfl) (fun _ _ _ h => h) (Or.inr ⟨by rfl, rfl⟩) (by assumption) ?_
    try simp only [Act.put, List.setIfInBounds_toArray, List.set_cons_zero, List.set_cons_succ]
    refine take_at (i := 5) (v := undef) 32 rfl rfl (by kernel_rfl) (by kernel_rfl) (by kernel_rfl) (fun _ _ _ h => h) (Or.inr ⟨by rfl, rfl⟩) (by assumption) ?_
    try simp only [Act.put, List.setIfInBounds_toArray, List.set_cons_zero, List.set_cons_succ]
    refine take_at (i := 6) (v := undef) 33 rfl rfl (by kernel_rfl) (by kernel_rfl) (by kernel_rfl) (fun _ _ _ h => h) (Or.inr ⟨by rfl, rfl⟩) (by assumption) ?_
    try simp only [Act.put, List.setIfInBounds_toArray, List.set_cons_zero, List.set_cons_succ]
    refine take_at (i := 7) (v := ?_) 34 rfl rfl (by kernel_rfl) (by kernel_rfl) (by kernel_rfl) (fun _ _ _ h => h) (Or.inl ⟨by rfl, ?_⟩) (by assumption) ?_
    rotate_left
    · (intro w' hSw; (try dsimp only at hSw); go_simp; all_goals with_reducible rfl)
    try simp only [Act.put, List.setIfInBounds_toArray, List.set_cons_zero, List.set_cons_succ]
    refine take_at (i := 8) (v := ?_) 35 rfl rfl (by kernel_rfl) (by kernel_rfl) (by kernel_rfl) (fun _ _ _ h => h) (Or.inl ⟨by rfl, ?_⟩) (by assumption) ?_
    rotate_left
    · (intro w' hSw; (try dsimp only at hSw); go_simp; all_goals with_reducible rfl)
    try simp only [Act.put, List.setIfInBounds_toArray, List.set_cons_zero, List.set_cons_succ]
    refine take_at (i := 9) (v := undef) 36 rfl rfl (by kernel_rfl) (by kernel_rfl) (by kernel_rfl) (fun _ _ _ h => h) (Or.inr ⟨by rfl, rfl⟩) (by assumption) ?_
    try simp only [Act.put, List.setIfInBounds_toArray, List.set_cons_zero, List.set_cons_succ]
    refine take_at (i := 10) (v := undef) 37 rfl rfl (by kernel_rfl) (by kernel_rfl) (by kernel_rfl) (fun _ _ _ h => h) (Or.inr ⟨by rfl, rfl⟩) (by assumption) ?_
    try simp only [Act.put, List.setIfInBounds_toArray, List.set_cons_zero, List.set_cons_succ]
    refine take_at (i := 11) (v := undef) 38 rfl rfl (by kernel_rfl) (by kernel_rfl) (by kernel_rfl) (fun _ _ _ h => h) (Or.inr ⟨by rfl, rfl⟩) (by assumption) ?_
    try simp only [Act.put, List.setIfInBounds_toArray, List.set_cons_zero, List.set_cons_succ]
    refine take_at (i := 12) (v := undef) 39 rfl rfl (by kernel_rfl) (by kernel_rfl) (by kernel_rfl) (fun _ _ _ h => h) (Or.inr ⟨by rfl, rfl⟩) (by assumption) ?_
    try simp only [Act.put, List.setIfInBounds_toArray, List.set_cons_zero, List.set_cons_succ]
    refine take_at (i := 13) (v := undef) 40 rfl rfl (by kernel_rfl) (by kernel_rfl) (by kernel_rfl) (fun _ _ _ h => h) (Or.inr ⟨by rfl, rfl⟩) (by assumption) ?_
    try simp only [Act.put, List.setIfInBounds_toArray, List.set_cons_zero, List.set_cons_succ]
    refine take_at (i := 14) (v := undef) 41 rfl rfl (by kernel_rfl) (by kernel_rfl) (by kernel_rfl) (fun _ _ _ h => h) (Or.inr ⟨by rfl, rfl⟩) (by assumption) ?_
    try simp only [Act.put, List.setIfInBounds_toArray, List.set_cons_zero, List.set_cons_succ]
    refine take_at (i := 15) (v := ?_) 42 rfl rfl (by kernel_rfl) (by kernel_rfl) (by kernel_rfl) (fun _ _ _ h => h) (Or.inl ⟨by rfl, ?_⟩) (by assumption) ?_
    rotate_left
    · (intro w' hSw; (try dsimp only at hSw); go_simp; all_goals with_reducible rfl)
    try simp only [Act.put, List.setIfInBounds_toArray, List.set_cons_zero, List.set_cons_succ]
    refine take_at (i := 16) (v := ?_) 43 rfl rfl (by kernel_rfl) (by kernel_rfl) (by kernel_rfl) (fun _ _ _ h => h) (Or.inl ⟨by rfl, ?_⟩) (by assumption) ?_
    rotate_left
    · (intro w' hSw; (try dsimp only at hSw); go_simp; all_goals with_reducible rfl)
    try simp only [Act.put, List.setIfInBounds_toArray, List.set_cons_zero, List.set_cons_succ]
    refine take_at (i := 17) (v := undef) 44 rfl rfl (by kernel_rfl) (by kernel_rfl) (by kernel_rfl) (fun _ _ _ h => h) (Or.inr ⟨by rfl, rfl⟩) (by assumption) ?_
    try simp only [Act.put, List.setIfInBounds_toArray, List.set_cons_zero, List.set_cons_succ]
    refine take_at (i := 18) (v := undef) 45 rfl rfl (by kernel_rfl) (by kernel_rfl) (by kernel_rfl) (fun _ _ _ h => h) (Or.inr ⟨by rfl, rfl⟩) (by assumption) ?_
    try simp only [Act.put, List.setIfInBounds_toArray, List.set_cons_zero, List.set_cons_succ]
    refine take_at (i := 19) (v := undef) 46 rfl rfl (by kernel_rfl) (by kernel_rfl) (by kernel_rfl) (fun _ _ _ h => h) (Or.inr ⟨by rfl, rfl⟩) (by assumption) ?_
    try simp only [Act.put, List.setIfInBounds_toArray, List.set_cons_zero, List.set_cons_succ]
    refine take_at (i := 20) (v := undef) 47 rfl rfl (by kernel_rfl) (by kernel_rfl) (by kernel_rfl) (fun _ _ _ h => h) (Or.inr ⟨by rfl, rfl⟩) (by assumption) ?_
    try simp only [Act.put, List.setIfInBounds_toArray, List.set_cons_zero, List.set_cons_succ]
    refine take_at (i := 21) (v := undef) 48 rfl rfl (by kernel_rfl) (by kernel_rfl) (by kernel_rfl) (fun _ _ _ h => h) (Or.inr ⟨by rfl, rfl⟩) (by assumption) ?_
    try simp only [Act.put, List.setIfInBounds_toArray, List.set_cons_zero, List.set_cons_succ]
    refine take_at (i := 22) (v := undef) 49 rfl rfl (by kernel_rfl) (by kernel_rfl) (by kernel_rfl) (fun _ _ _ h => h) (Or.inr ⟨by rfl, rfl⟩) (by assumption) ?_
    try simp only [Act.put, List.setIfInBounds_toArray, List.set_cons_zero, List.set_cons_succ]
    refine take_at (i := 23) (v := ?_) 50 rfl rfl (by kernel_rfl) (by kernel_rfl) (by kernel_rfl) (fun _ _ _ h => h) (Or.inl ⟨by rfl, ?_⟩) (by assumption) ?_
    rotate_left
    · (intro w' hSw; (try dsimp only at hSw); go_simp; all_goals with_reducible rfl)
    try simp only [Act.put, List.setIfInBounds_toArray, List.set_cons_zero, List.set_cons_succ]
    refine take_at (i := 24) (v := ?_) 2 rfl rfl (by kernel_rfl) (by kernel_rfl) (by kernel_rfl) (fun _ _ _ h => h) (Or.inl ⟨by rfl, ?_⟩) (by assumption) ?_
    rotate_left
    · (intro w' hSw; (try dsimp only at hSw); go_simp; all_goals with_reducible rfl)
    try simp only [Act.put, List.setIfInBounds_toArray, List.set_cons_zero, List.set_cons_succ]
    refine wpAnyH_done (by kernel_rfl) ?_ _
    refine NoPanic.normal ?_
    all_goals go_wp2
    all_goals go_ret
    all_goals exact ⟨by first | (rw [HE.out]; done) | (rw [HE.out]; rfl), hB⟩

def mk3 (b g s : Int) (m : Nat) : Bool := if g = 0 then (if s = 0 then ((m : Int) == 0) else (if b = 21 then (plB m 2) else (if b = 30 then (plB m 1) else (plB m 3)))) else (false)
set_option maxRecDepth 100000 in
set_option maxHeartbeats 4000000 in
theorem marked3_c (a : Nat) (b r g s : Int) (m : Nat) (hm : m < 18446744073709551616) (w : World) :
    Calls Tryd.prog 44 #[.agg #[.int .i64 3, .int .u64 (a : Nat), .int .i64 b, .int .i64 r, .int .i64 g, .int .i64 s, .int .u64 (m : Nat)]] w fun e w' => e = .returned (.bool (mk3 b g s m)) ∧ Below w.heap.size w w' := by
  by_cases h1 : g = 0
  · have dh1 : ((g : Int) == 0) = true := by rw [beq_iff_eq]; omega
    have eh1 : ((g : Int) != 0) = false := by rw [bne_eq_false_iff_eq]; omega
    by_cases h2 : s = 0
    · have dh2 : ((s : Int) == 0) = true := by rw [beq_iff_eq]; omega
      have eh2 : ((s : Int) != 0) = false := by rw [bne_eq_false_iff_eq]; omega
      have HE : Hid (mk3 b g s m = ((m : Int) == 0)) := by
        show mk3 b g s m = _
        unfold mk3
        rw [if_pos h1, if_pos h2]
      go_enter Tryd.func44, Tryd.ntmps44
      go_wp2
      go_ret
      exact ⟨by first | (rw [HE.out]; done) | (rw [HE.out]; rfl), below_new _ _⟩
    · have dh2 : ((s : Int) == 0) = false := by rw [beq_eq_false_iff_ne]; omega
      have eh2 : ((s : Int) != 0) = true := by rw [bne_iff_ne]; omega
      by_cases h3 : b = 21
      · have dh3 : ((b : Int) == 21) = true := by rw [beq_iff_eq]; omega
        have eh3 : ((b : Int) != 21) = false := by rw [bne_eq_false_iff_eq]; omega
        have HE : Hid (mk3 b g s m = (plB m 2)) := by
          show mk3 b g s m = _
          unfold mk3
          rw [if_pos h1, if_neg h2, if_pos h3]
        go_enter Tryd.func44, Tryd.ntmps44
        go_wp2_with fail
        refine (place_any m _ (by decide) hm _).mono ?_
        rintro e w1 ⟨rfl, hb⟩
        have gC := block_later hb (heap_alloc_new _ _)
        have hB := below_tr (below_new _ _) hb
        obtain ⟨k0, k1, k2, k3, k4, k5, k6⟩ := cells7 gC
        clear hb
        go_wp2
        go_ret
        exact ⟨by first | (rw [HE.out]; done) | (rw [HE.out]; rfl), hB⟩
      · have dh3 : ((b : Int) == 21) = false := by rw [beq_eq_false_iff_ne]; omega
        have eh3 : ((b : Int) != 21) = true := by rw [bne_iff_ne]; omega
        by_cases h4 : b = 30
        · have dh4 : ((b : Int) == 30) = true := by rw [beq_iff_eq]; omega
          have eh4 : ((b : Int) != 30) = false := by rw [bne_eq_false_iff_eq]; omega
          have HE : Hid (mk3 b g s m = (plB m 1)) := by
            show mk3 b g s m = _
            unfold mk3
            rw [if_pos h1, if_neg h2, if_neg h3, if_pos h4]
          go_enter Tryd.func44, Tryd.ntmps44
          go_wp2_with fail
          refine (place_any m _ (by decide) hm _).mono ?_
          rintro e w1 ⟨rfl, hb⟩
          have gC := block_later hb (heap_alloc_new _ _)
          have hB := below_tr (below_new _ _) hb
          obtain ⟨k0, k1, k2, k3, k4, k5, k6⟩ := cells7 gC
          clear hb
          go_wp2
          go_ret
          exact ⟨by first | (rw [HE.out]; done) | (rw [HE.out]; rfl), hB⟩
        · have dh4 : ((b : Int) == 30) = false := by rw [beq_eq_false_iff_ne]; omega
          have eh4 : ((b : Int) != 30) = true := by rw [bne_iff_ne]; omega
          have HE : Hid (mk3 b g s m = (plB m 3)) := by
            show mk3 b g s m = _
            unfold mk3
            rw [if_pos h1, if_neg h2, if_neg h3, if_neg h4]
          go_enter Tryd.func44, Tryd.ntmps44
          go_wp2_with fail
          refine (place_any m _ (by decide) hm _).mono ?_
          rintro e w1 ⟨rfl, hb⟩
          have gC := block_later hb (heap_alloc_new _ _)
          have hB := below_tr (below_new _ _) hb
          obtain ⟨k0, k1, k2, k3, k4, k5, k6⟩ := cells7 gC
          clear hb
          go_wp2
          go_ret
          exact ⟨by first | (rw [HE.out]; done) | (rw [HE.out]; rfl), hB⟩
  · have dh1 : ((g : Int) == 0) = false := by rw [beq_eq_false_iff_ne]; omega
    have eh1 : ((g : Int) != 0) = true := by rw [bne_iff_ne]; omega
    have HE : Hid (mk3 b g s m = (false)) := by
      show mk3 b g s m = _
      unfold mk3
      rw [if_neg h1]
    go_enter Tryd.func44, Tryd.ntmps44
    go_wp2
    go_ret
    exact ⟨by first | (rw [HE.out]; done) | (rw [HE.out]; rfl), below_new _ _⟩

def mk4 (b g s : Int) (m : Nat) : Bool := if s = 0 then (if g = 0 then ((m : Int) == 0) else (false)) else (if 1 ≤ g then (if g ≤ 3 then (plB m (g - 1)) else (false)) else (false))
set_option maxRecDepth 100000 in
set_option maxHeartbeats 4000000 in
theorem marked4_c (a : Nat) (b r g s : Int) (m : Nat) (hm : m < 18446744073709551616) (w : World) :
    Calls Tryd.prog 44 #[.agg #[.int .i64 4, .int .u64 (a : Nat), .int .i64 b, .int .i64 r, .int .i64 g, .int .i64 s, .int .u64 (m : Nat)]] w fun e w' => e = .returned (.bool (mk4 b g s m)) ∧ Below w.heap.size w w' := by
  by_cases h1 : s = 0
  · have dh1 : ((s : Int) == 0) = true := by rw [beq_iff_eq]; omega
    have eh1 : ((s : Int) != 0) = false := by rw [bne_eq_false_iff_eq]; omega
    by_cases h2 : g = 0
    · have dh2 : ((g : Int) == 0) = true := by rw [beq_iff_eq]; omega
      have eh2 : ((g : Int) != 0) = false := by rw [bne_eq_false_iff_eq]; omega
      have HE : Hid (mk4 b g s m = ((m : Int) == 0)) := by
        show mk4 b g s m = _
        unfold mk4
        rw [if_pos h1, if_pos h2]
      go_enter Tryd.func44, Tryd.ntmps44
      go_wp2
      go_ret
      exact ⟨by first | (rw [HE.out]; done) | (rw [HE.out]; rfl), below_new _ _⟩
    · have dh2 : ((g : Int) == 0) = false := by rw [beq_eq_false_iff_ne]; omega
      have eh2 : ((g : Int) != 0) = true := by rw [bne_iff_ne]; omega
      have HE : Hid (mk4 b g s m = (false)) := by
        show mk4 b g s m = _
        unfold mk4
        rw [if_pos h1, if_neg h2]
      go_enter Tryd.func44, Tryd.ntmps44
      go_wp2
      go_ret
      exact ⟨by first | (rw [HE.out]; done) | (rw [HE.out]; rfl), below_new _ _⟩
  · have dh1 : ((s : Int) == 0) = false := by rw [beq_eq_false_iff_ne]; omega
    have eh1 : ((s : Int) != 0) = true := by rw [bne_iff_ne]; omega
    by_cases h3 : 1 ≤ g
    · have dh3 : decide ((1 : Int) ≤ g) = true := decide_eq_true (by omega)
      by_cases h4 : g ≤ 3
      · have dh4 : decide ((g : Int) ≤ 3) = true := decide_eq_true (by omega)
        have HE : Hid (mk4 b g s m = (plB m (g - 1))) := by
          show mk4 b g s m = _
          unfold mk4
          rw [if_neg h1, if_pos h3, if_pos h4]
        go_enter Tryd.func44, Tryd.ntmps44
        go_wp2_with fail
        refine (place_any m _ (decide_eq_true (by omega)) hm _).mono ?_
        rintro e w1 ⟨rfl, hb⟩
        have gC := block_later hb (heap_alloc_new _ _)
        have hB := below_tr (below_new _ _) hb
        obtain ⟨k0, k1, k2, k3, k4, k5, k6⟩ := cells7 gC
        clear hb
        go_wp2
        go_ret
        exact ⟨by first | (rw [HE.out]; done) | (rw [HE.out]; rfl), hB⟩
      · have dh4 : decide ((g : Int) ≤ 3) = false := decide_eq_false (by omega)
        have HE : Hid (mk4 b g s m = (false)) := by
          show mk4 b g s m = _
          unfold mk4
          rw [if_neg h1, if_pos h3, if_neg h4]
        go_enter Tryd.func44, Tryd.ntmps44
        go_wp2
        go_ret
        exact ⟨by first | (rw [HE.out]; done) | (rw [HE.out]; rfl), below_new _ _⟩
    · have dh3 : decide ((1 : Int) ≤ g) = false := decide_eq_false (by omega)
      have HE : Hid (mk4 b g s m = (false)) := by
        show mk4 b g s m = _
        unfold mk4
        rw [if_neg h1, if_neg h3]
      go_enter Tryd.func44, Tryd.ntmps44
      go_wp2
      go_ret
      exact ⟨by first | (rw [HE.out]; done) | (rw [HE.out]; rfl), below_new _ _⟩

def mk7 (b g s : Int) (m : Nat) : Bool := if g = 0 then (decide ((m : Int) < 8)) else (false)
set_option maxRecDepth 100000 in
set_option maxHeartbeats 4000000 in
theorem marked7_c (a : Nat) (b r g s : Int) (m : Nat)  (w : World) :
    Calls Tryd.prog 44 #[.agg #[.int .i64 7, .int .u64 (a : Nat), .int .i64 b, .int .i64 r, .int .i64 g, .int .i64 s, .int .u64 (m : Nat)]] w fun e w' => e = .returned (.bool (mk7 b g s m)) ∧ Below w.heap.size w w' := by
  by_cases h1 : g = 0
  · have dh1 : ((g : Int) == 0) = true := by rw [beq_iff_eq]; omega
    have eh1 : ((g : Int) != 0) = false := by rw [bne_eq_false_iff_eq]; omega
    have HE : Hid (mk7 b g s m = (decide ((m : Int) < 8))) := by
      show mk7 b g s m = _
      unfold mk7
      rw [if_pos h1]
    go_enter Tryd.func44, Tryd.ntmps44
    go_wp2
    go_ret
    exact ⟨by first | (rw [HE.out]; done) | (rw [HE.out]; rfl), below_new _ _⟩
  · have dh1 : ((g : Int) == 0) = false := by rw [beq_eq_false_iff_ne]; omega
    have eh1 : ((g : Int) != 0) = true := by rw [bne_iff_ne]; omega
    have HE : Hid (mk7 b g s m = (false)) := by
      show mk7 b g s m = _
      unfold mk7
      rw [if_neg h1]
    go_enter Tryd.func44, Tryd.ntmps44
    go_wp2
    go_ret
    exact ⟨by first | (rw [HE.out]; done) | (rw [HE.out]; rfl), below_new _ _⟩

def mk9 (b g s : Int) (m : Nat) : Bool := if g = 0 then (true) else (false)
set_option maxRecDepth 100000 in
set_option maxHeartbeats 4000000 in
theorem marked9_c (a : Nat) (b r g s : Int) (m : Nat)  (w : World) :
    Calls Tryd.prog 44 #[.agg #[.int .i64 9, .int .u64 (a : Nat), .int .i64 b, .int .i64 r, .int .i64 g, .int .i64 s, .int .u64 (m : Nat)]] w fun e w' => e = .returned (.bool (mk9 b g s m)) ∧ Below w.heap.size w w' := by
  by_cases h1 : g = 0
  · have dh1 : ((g : Int) == 0) = true := by rw [beq_iff_eq]; omega
    have eh1 : ((g : Int) != 0) = false := by rw [bne_eq_false_iff_eq]; omega
    have HE : Hid (mk9 b g s m = (true)) := by
      show mk9 b g s m = _
      unfold mk9
      rw [if_pos h1]
    go_enter Tryd.func44, Tryd.ntmps44
    go_wp2
    go_ret
    exact ⟨by first | (rw [HE.out]; done) | (rw [HE.out]; rfl), below_new _ _⟩
  · have dh1 : ((g : Int) == 0) = false := by rw [beq_eq_false_iff_ne]; omega
    have eh1 : ((g : Int) != 0) = true := by rw [bne_iff_ne]; omega
    have HE : Hid (mk9 b g s m = (false)) := by
      show mk9 b g s m = _
      unfold mk9
      rw [if_neg h1]
    go_enter Tryd.func44, Tryd.ntmps44
    go_wp2
    go_ret
    exact ⟨by first | (rw [HE.out]; done) | (rw [HE.out]; rfl), below_new _ _⟩

def mk10 (b g s : Int) (m : Nat) : Bool := if g = 0 then (leP m b) else (false)
set_option maxRecDepth 100000 in
set_option maxHeartbeats 4000000 in
theorem marked10_c (a : Nat) (b r g s : Int) (m : Nat) (hb : 0 ≤ b ∧ b ≤ 32) (w : World) :
    Calls Tryd.prog 44 #[.agg #[.int .i64 10, .int .u64 (a : Nat), .int .i64 b, .int .i64 r, .int .i64 g, .int .i64 s, .int .u64 (m : Nat)]] w fun e w' => e = .returned (.bool (mk10 b g s m)) ∧ Below w.heap.size w w' := by
  obtain ⟨b0, b1⟩ := hb
  by_cases h1 : g = 0
  · subst h1
    have HE : Hid (mk10 b 0 s m = (leP m b)) := by
      show mk10 b 0 s m = _
      unfold mk10
      rw [if_pos rfl]
    obtain ⟨p, cP, hp, -⟩ := pow_c b (by omega) (by omega) m
    go_enter Tryd.func44, Tryd.ntmps44
    go_upto_region 23 with fail
    have gC := heap_alloc_new w (.cells #[.int .i64 10, .int .u64 (a : Nat), .int .i64 b, .int .i64 r, .int .i64 0, .int .i64 s, .int .u64 (m : Nat)] 36)
    have hB := below_new w (.cells #[.int .i64 10, .int .u64 (a : Nat), .int .i64 b, .int .i64 r, .int .i64 0, .int .i64 s, .int .u64 (m : Nat)] 36)
    generalize w.alloc (.cells #[.int .i64 10, .int .u64 (a : Nat), .int .i64 b, .int .i64 r, .int .i64 0, .int .i64 s, .int .u64 (m : Nat)] 36) = W at *
    obtain ⟨k0, k1, k2, k3, k4, k5, k6⟩ := cells7 gC
    refine wp_region_noPanic ?_
    refine wp_region_held_drew (S := (fun w' => w'.cell? ⟨w.heap.size, 0, none⟩ = some (.int .i64 10) ∧ w'.cell? ⟨w.heap.size, 1, none⟩ = some (.int .u64 (a : Nat)) ∧ w'.cell? ⟨w.heap.size, 2, none⟩ = some (.int .i64 b) ∧ w'.cell? ⟨w.heap.size, 3, none⟩ = some (.int .i64 r) ∧ w'.cell? ⟨w.heap.size, 4, none⟩ = some (.int .i64 0) ∧ w'.cell? ⟨w.heap.size, 5, none⟩ = some (.int .i64 s) ∧ w'.cell? ⟨w.heap.size, 6, none⟩ = some (.int .u64 (m : Nat)))) (by kernel_rfl) ?_ (fun hHeld => ?_)
    · exact ⟨cell_later (Below.refl _ _).drew k0, cell_later (Below.refl _ _).drew k1, cell_later (Below.refl _ _).drew k2, cell_later (Below.refl _ _).drew k3, cell_later (Below.refl _ _).drew k4, cell_later (Below.refl _ _).drew k5, cell_later (Below.refl _ _).drew k6⟩
    replace k0 := cell_later (Below.refl _ W).drew k0
    replace k1 := cell_later (Below.refl _ W).drew k1
    replace k2 := cell_later (Below.refl _ W).drew k2
    replace k3 := cell_later (Below.refl _ W).drew k3
    replace k4 := cell_later (Below.refl _ W).drew k4
    replace k5 := cell_later (Below.refl _ W).drew k5
    replace k6 := cell_later (Below.refl _ W).drew k6
    replace gC := block_later (Below.refl _ W).drew gC
    replace hB := below_tr hB (Below.refl _ W).drew
    generalize W.drew = Wd at *
    refine take_at (i := 0) (v := ?_) 114 rfl rfl (by kernel_rfl) (by kernel_rfl) (by kernel_rfl) (fun _ _ _ h => h) (Or.inl ⟨by rfl, ?_⟩) (by assumption) ?_
    rotate_left
    · (intro w' hSw; (try dsimp only at hSw); go_simp; all_goals with_reducible rfl)
    try simp only [Act.put, List.setIfInBounds_toArray, List.set_cons_zero, List.set_cons_succ]
    refine take_at (i := 1) (v := ?_) 115 rfl rfl (by kernel_rfl) (by kernel_rfl) (by kernel_rfl) (fun _ _ _ h => h) (Or.inl ⟨by rfl, ?_⟩) (by assumption) ?_
    rotate_left
    · (intro w' hSw; (try dsimp only at hSw); go_simp; all_goals with_reducible rfl)
    try simp only [Act.put, List.setIfInBounds_toArray, List.set_cons_zero, List.set_cons_succ]
    refine take_at (i := 2) (v := ?_) 116 rfl rfl (by kernel_rfl) (by kernel_rfl) (by kernel_rfl) (fun _ _ _ h => h) (Or.inl ⟨by rfl, ?_⟩) (by assumption) ?_
    rotate_left
    · (intro w' hSw; (try dsimp only at hSw); go_simp; all_goals with_reducible rfl)
    try simp only [Act.put, List.setIfInBounds_toArray, List.set_cons_zero, List.set_cons_succ]
    refine take_at (i := 3) (v := ?_) 117 rfl rfl (by kernel_rfl) (by kernel_rfl) (by kernel_rfl) (fun _ _ _ h => h) (Or.inl ⟨by rfl, ?_⟩) (by assumption) ?_
    rotate_left
    · (intro w' hSw; (try dsimp only at hSw); go_simp; all_goals with_reducible rfl)
    try simp only [Act.put, List.setIfInBounds_toArray, List.set_cons_zero, List.set_cons_succ]
    refine wpAnyH_ready (rs := [4]) (by kernel_rfl) (by simp) ?_
    refine AllReadyH.cons rfl (fun K hK => ?_) AllReadyH.nil
    go_simp
    refine (cP _).mono ?_
    rintro e wc1 ⟨rfl, rfl⟩
    go_wp2_with fail
    refine hK.out _ _ ⟨k0, k1, k2, k3, k4, k5, k6⟩ (fun hHeld1 => ?_)
    clear hK
    try simp only [Act.put, List.setIfInBounds_toArray, List.set_cons_zero, List.set_cons_succ]
    refine take_at (i := 5) (v := ?_) 119 rfl rfl (by kernel_rfl) (by kernel_rfl) (by kernel_rfl) (fun _ _ _ h => h) (Or.inl ⟨by rfl, ?_⟩) (by assumption) ?_
    rotate_left
    · (intro w' hSw; (try dsimp only at hSw); go_simp; all_goals with_reducible rfl)
    try simp only [Act.put, List.setIfInBounds_toArray, List.set_cons_zero, List.set_cons_succ]
    refine take_at (i := 6) (v := ?_) 2 rfl rfl (by kernel_rfl) (by kernel_rfl) (by kernel_rfl) (fun _ _ _ h => h) (Or.inl ⟨by rfl, ?_⟩) (by assumption) ?_
    rotate_left
    · (intro w' hSw; (try dsimp only at hSw); go_simp; all_goals with_reducible rfl)
    try simp only [Act.put, List.setIfInBounds_toArray, List.set_cons_zero, List.set_cons_succ]
    refine wpAnyH_done (by kernel_rfl) ?_ _
    refine NoPanic.normal ?_
    all_goals go_wp2
    all_goals go_ret
    all_goals exact ⟨by first | (rw [HE.out]; done) | (rw [HE.out]; rfl), hB⟩
  · have dh1 : ((g : Int) == 0) = false := by rw [beq_eq_false_iff_ne]; omega
    have eh1 : ((g : Int) != 0) = true := by rw [bne_iff_ne]; omega
    have HE : Hid (mk10 b g s m = (false)) := by
      show mk10 b g s m = _
      unfold mk10
      rw [if_neg h1]
    go_enter Tryd.func44, Tryd.ntmps44
    go_wp2
    go_ret
    exact ⟨by first | (rw [HE.out]; done) | (rw [HE.out]; rfl), below_new _ _⟩

def mk0 (b g s : Int) (m : Nat) : Bool := if g = 0 then ((m : Int) == 0) else (false)
set_option maxRecDepth 100000 in
set_option maxHeartbeats 4000000 in
theorem marked0_c (a : Nat) (b r g s : Int) (m : Nat)  (w : World) :
    Calls Tryd.prog 44 #[.agg #[.int .i64 0, .int .u64 (a : Nat), .int .i64 b, .int .i64 r, .int .i64 g, .int .i64 s, .int .u64 (m : Nat)]] w fun e w' => e = .returned (.bool (mk0 b g s m)) ∧ Below w.heap.size w w' := by
  by_cases h1 : g = 0
  · have dh1 : ((g : Int) == 0) = true := by rw [beq_iff_eq]; omega
    have eh1 : ((g : Int) != 0) = false := by rw [bne_eq_false_iff_eq]; omega
    have HE : Hid (mk0 b g s m = ((m : Int) == 0)) := by
      show mk0 b g s m = _
      unfold mk0
      rw [if_pos h1]
    go_enter Tryd.func44, Tryd.ntmps44
    go_wp2
    go_ret
    exact ⟨by first | (rw [HE.out]; done) | (rw [HE.out]; rfl), below_new _ _⟩
  · have dh1 : ((g : Int) == 0) = false := by rw [beq_eq_false_iff_ne]; omega
    have eh1 : ((g : Int) != 0) = true := by rw [bne_iff_ne]; omega
    have HE : Hid (mk0 b g s m = (false)) := by
      show mk0 b g s m = _
      unfold mk0
      rw [if_neg h1]
    go_enter Tryd.func44, Tryd.ntmps44
    go_wp2
    go_ret
    exact ⟨by first | (rw [HE.out]; done) | (rw [HE.out]; rfl), below_new _ _⟩

set_option maxRecDepth 100000 in
set_option maxHeartbeats 4000000 in
theorem marked5_c (a : Nat) (b r g s : Int) (m : Nat)  (w : World) :
    Calls Tryd.prog 44 #[.agg #[.int .i64 5, .int .u64 (a : Nat), .int .i64 b, .int .i64 r, .int .i64 g, .int .i64 s, .int .u64 (m : Nat)]] w fun e w' => e = .returned (.bool (mk0 b g s m)) ∧ Below w.heap.size w w' := by
  by_cases h1 : g = 0
  · have dh1 : ((g : Int) == 0) = true := by rw [beq_iff_eq]; omega
    have eh1 : ((g : Int) != 0) = false := by rw [bne_eq_false_iff_eq]; omega
    have HE : Hid (mk0 b g s m = ((m : Int) == 0)) := by
      show mk0 b g s m = _
      unfold mk0
      rw [if_pos h1]
    go_enter Tryd.func44, Tryd.ntmps44
    go_wp2
    go_ret
    exact ⟨by first | (rw [HE.out]; done) | (rw [HE.out]; rfl), below_new _ _⟩
  · have dh1 : ((g : Int) == 0) = false := by rw [beq_eq_false_iff_ne]; omega
    have eh1 : ((g : Int) != 0) = true := by rw [bne_iff_ne]; omega
    have HE : Hid (mk0 b g s m = (false)) := by
      show mk0 b g s m = _
      unfold mk0
      rw [if_neg h1]
    go_enter Tryd.func44, Tryd.ntmps44
    go_wp2
    go_ret
    exact ⟨by first | (rw [HE.out]; done) | (rw [HE.out]; rfl), below_new _ _⟩

set_option maxRecDepth 100000 in
set_option maxHeartbeats 4000000 in
theorem marked6_c (a : Nat) (b r g s : Int) (m : Nat)  (w : World) :
    Calls Tryd.prog 44 #[.agg #[.int .i64 6, .int .u64 (a : Nat), .int .i64 b, .int .i64 r, .int .i64 g, .int .i64 s, .int .u64 (m : Nat)]] w fun e w' => e = .returned (.bool (mk0 b g s m)) ∧ Below w.heap.size w w' := by
  by_cases h1 : g = 0
  · have dh1 : ((g : Int) == 0) = true := by rw [beq_iff_eq]; omega
    have eh1 : ((g : Int) != 0) = false := by rw [bne_eq_false_iff_eq]; omega
    have HE : Hid (mk0 b g s m = ((m : Int) == 0)) := by
      show mk0 b g s m = _
      unfold mk0
      rw [if_pos h1]
    go_enter Tryd.func44, Tryd.ntmps44
    go_wp2
    go_ret
    exact ⟨by first | (rw [HE.out]; done) | (rw [HE.out]; rfl), below_new _ _⟩
  · have dh1 : ((g : Int) == 0) = false := by rw [beq_eq_false_iff_ne]; omega
    have eh1 : ((g : Int) != 0) = true := by rw [bne_iff_ne]; omega
    have HE : Hid (mk0 b g s m = (false)) := by
      show mk0 b g s m = _
      unfold mk0
      rw [if_neg h1]
    go_enter Tryd.func44, Tryd.ntmps44
    go_wp2
    go_ret
    exact ⟨by first | (rw [HE.out]; done) | (rw [HE.out]; rfl), below_new _ _⟩

set_option maxRecDepth 100000 in
set_option maxHeartbeats 4000000 in
theorem marked8_c (a : Nat) (b r g s : Int) (m : Nat)  (w : World) :
    Calls Tryd.prog 44 #[.agg #[.int .i64 8, .int .u64 (a : Nat), .int .i64 b, .int .i64 r, .int .i64 g, .int .i64 s, .int .u64 (m : Nat)]] w fun e w' => e = .returned (.bool (mk0 b g s m)) ∧ Below w.heap.size w w' := by
  by_cases h1 : g = 0
  · have dh1 : ((g : Int) == 0) = true := by rw [beq_iff_eq]; omega
    have eh1 : ((g : Int) != 0) = false := by rw [bne_eq_false_iff_eq]; omega
    have HE : Hid (mk0 b g s m = ((m : Int) == 0)) := by
      show mk0 b g s m = _
      unfold mk0
      rw [if_pos h1]
    go_enter Tryd.func44, Tryd.ntmps44
    go_wp2
    go_ret
    exact ⟨by first | (rw [HE.out]; done) | (rw [HE.out]; rfl), below_new _ _⟩
  · have dh1 : ((g : Int) == 0) = false := by rw [beq_eq_false_iff_ne]; omega
    have eh1 : ((g : Int) != 0) = true := by rw [bne_iff_ne]; omega
    have HE : Hid (mk0 b g s m = (false)) := by
      show mk0 b g s m = _
      unfold mk0
      rw [if_neg h1]
    go_enter Tryd.func44, Tryd.ntmps44
    go_wp2
    go_ret
    exact ⟨by first | (rw [HE.out]; done) | (rw [HE.out]; rfl), below_new _ _⟩

/-- Is Mark right, and Guard, by the document? -/
def mkB (k b g s : Int) (m : Nat) : Bool := if k = 1 then mk1 b g s m else if k = 2 then mk2 b g s m else if k = 3 then mk3 b g s m else if k = 4 then mk4 b g s m else if k = 7 then mk7 b g s m else if k = 9 then mk9 b g s m else if k = 10 then mk10 b g s m else mk0 b g s m
set_option maxHeartbeats 4000000 in
theorem sz_bits {k b : Int} (h : ¬ szV k b = -2) : (k = 0 ∨ k = 1 ∨ k = 2 ∨ k = 3 ∨ k = 4 ∨ k = 5 ∨ k = 6 ∨ k = 7 ∨ k = 8 ∨ k = 9 ∨ k = 10) ∧ 0 ≤ b ∧ b ≤ 32 ∧ (k = 2 → 1 ≤ b ∧ b ≤ 12) := by
  unfold szV at h
  (repeat' split at h) <;> first | exact absurd rfl h | (refine ⟨by omega, ?_, ?_, ?_⟩ <;> omega)
theorem lies_sz {k b : Int} {a : Nat} (h : liesB k a b = true) : ¬ szV k b = -2 := by
  intro hc
  unfold liesB at h
  rw [hc, if_pos (by decide), if_neg (by decide)] at h
  cases h
theorem marked_c (k : Int) (a : Nat) (b r g s : Int) (m : Nat) (hm : m < 18446744073709551616) (h : ¬ szV k b = -2) (w : World) :
    Calls Tryd.prog 44 #[.agg #[.int .i64 k, .int .u64 (a : Nat), .int .i64 b, .int .i64 r, .int .i64 g, .int .i64 s, .int .u64 (m : Nat)]] w fun e w' => e = .returned (.bool (mkB k b g s m)) ∧ Below w.heap.size w w' := by
  obtain ⟨hk, b0, b1, b2⟩ := sz_bits h
  by_cases h1 : k = 1
  · subst h1; rw [mkB, if_pos rfl]; exact marked1_c a b r g s m ⟨b0, b1⟩ w
  by_cases h2 : k = 2
  · subst h2; rw [mkB, if_neg (by decide), if_pos rfl]; exact marked2_c a b r g s m (b2 rfl) w
  by_cases h3 : k = 3
  · subst h3; rw [mkB, if_neg (by decide), if_neg (by decide), if_pos rfl]; exact marked3_c a b r g s m hm w
  by_cases h4 : k = 4
  · subst h4; rw [mkB, if_neg (by decide), if_neg (by decide), if_neg (by decide), if_pos rfl]; exact marked4_c a b r g s m hm w
  by_cases h7 : k = 7
  · subst h7; rw [mkB, if_neg (by decide), if_neg (by decide), if_neg (by decide), if_neg (by decide), if_pos rfl]; exact marked7_c a b r g s m  w
  by_cases h9 : k = 9
  · subst h9; rw [mkB, if_neg (by decide), if_neg (by decide), if_neg (by decide), if_neg (by decide), if_neg (by decide), if_pos rfl]; exact marked9_c a b r g s m  w
  by_cases h10 : k = 10
  · subst h10; rw [mkB, if_neg (by decide), if_neg (by decide), if_neg (by decide), if_neg (by decide), if_neg (by decide), if_neg (by decide), if_pos rfl]; exact marked10_c a b r g s m ⟨b0, b1⟩ w
  by_cases h0 : k = 0
  · subst h0; rw [mkB, if_neg (by decide), if_neg (by decide), if_neg (by decide), if_neg (by decide), if_neg (by decide), if_neg (by decide), if_neg (by decide)]; exact marked0_c a b r g s m w
  by_cases h5 : k = 5
  · subst h5; rw [mkB, if_neg (by decide), if_neg (by decide), if_neg (by decide), if_neg (by decide), if_neg (by decide), if_neg (by decide), if_neg (by decide)]; exact marked5_c a b r g s m w
  by_cases h6 : k = 6
  · subst h6; rw [mkB, if_neg (by decide), if_neg (by decide), if_neg (by decide), if_neg (by decide), if_neg (by decide), if_neg (by decide), if_neg (by decide)]; exact marked6_c a b r g s m w
  by_cases h8 : k = 8
  · subst h8; rw [mkB, if_neg (by decide), if_neg (by decide), if_neg (by decide), if_neg (by decide), if_neg (by decide), if_neg (by decide), if_neg (by decide)]; exact marked8_c a b r g s m w
  · exfalso; omega

/-- Is a capability right, by the document? -/
def dB (k : Int) (a : Nat) (b r g s : Int) (m : Nat) : Bool := if liesB k a b = true then (if rB r = true then (if s < 0 then (false) else (if 4095 < s then (false) else (if r = 0 then (if s = 0 then (mkB k b g s m) else (if k = 3 then (mkB k b g s m) else (if k = 4 then (mkB k b g s m) else (if k = 5 then (mkB k b g s m) else (false))))) else (if k = 3 then (if s = 0 then (mkB k b g s m) else (mkB k b g s m)) else (if k = 9 then (if r ≤ 3 then (if s = 0 then (mkB k b g s m) else (false)) else (false)) else (false)))))) else (false)) else (false)
set_option maxHeartbeats 4000000 in
theorem dright_any (k : Int) (a : Nat) (b r g s : Int) (m : Nat) (ha : a < 18446744073709551616) (hm : m < 18446744073709551616) (w : World) :
    Calls Tryd.prog 26 #[.agg #[.int .i64 k, .int .u64 (a : Nat), .int .i64 b, .int .i64 r, .int .i64 g, .int .i64 s, .int .u64 (m : Nat)]] w fun e w' => e = .returned (.bool (dB k a b r g s m)) ∧ Below w.heap.size w w' := by
  cases h1 : liesB k a b
  · have HE : Hid (dB k a b r g s m = (false)) := by
      show dB k a b r g s m = _
      unfold dB
      rw [if_neg (ne_true_of_eq_false h1)]
    go_enter Tryd.func26, Tryd.ntmps26
    go_wp2_with fail
    refine (lies_any k a b r g s m ha _).mono ?_
    rintro e w1 ⟨rfl, hb⟩
    have gC := block_later hb (heap_alloc_new _ _)
    have hB := below_tr (below_new _ _) hb
    obtain ⟨k0, k1, k2, k3, k4, k5, k6⟩ := cells7 gC
    clear hb
    rw [h1]
    go_wp2
    go_ret
    exact ⟨by first | (rw [HE.out]; done) | (rw [HE.out]; rfl), hB⟩
  · cases h2 : rB r
    · have HE : Hid (dB k a b r g s m = (false)) := by
        show dB k a b r g s m = _
        unfold dB
        rw [if_pos h1, if_neg (ne_true_of_eq_false h2)]
      go_enter Tryd.func26, Tryd.ntmps26
      go_wp2_with fail
      refine (lies_any k a b r g s m ha _).mono ?_
      rintro e w1 ⟨rfl, hb⟩
      have gC := block_later hb (heap_alloc_new _ _)
      have hB := below_tr (below_new _ _) hb
      obtain ⟨k0, k1, k2, k3, k4, k5, k6⟩ := cells7 gC
      clear hb
      rw [h1]
      go_wp2_with fail
      refine (refRite_any r _).mono ?_
      rintro e w2 ⟨rfl, rfl⟩
      rw [h2]
      go_wp2
      go_ret
      exact ⟨by first | (rw [HE.out]; done) | (rw [HE.out]; rfl), hB⟩
    · by_cases h3 : s < 0
      · have dh3 : decide ((s : Int) < 0) = true := decide_eq_true (by omega)
        have HE : Hid (dB k a b r g s m = (false)) := by
          show dB k a b r g s m = _
          unfold dB
          rw [if_pos h1, if_pos h2, if_pos h3]
        go_enter Tryd.func26, Tryd.ntmps26
        go_wp2_with fail
        refine (lies_any k a b r g s m ha _).mono ?_
        rintro e w1 ⟨rfl, hb⟩
        have gC := block_later hb (heap_alloc_new _ _)
        have hB := below_tr (below_new _ _) hb
        obtain ⟨k0, k1, k2, k3, k4, k5, k6⟩ := cells7 gC
        clear hb
        rw [h1]
        go_wp2_with fail
        refine (refRite_any r _).mono ?_
        rintro e w2 ⟨rfl, rfl⟩
        rw [h2]
        go_wp2
        go_ret
        exact ⟨by first | (rw [HE.out]; done) | (rw [HE.out]; rfl), hB⟩
      · have dh3 : decide ((s : Int) < 0) = false := decide_eq_false (by omega)
        by_cases h4 : 4095 < s
        · have dh4 : decide ((4095 : Int) < s) = true := decide_eq_true (by omega)
          have HE : Hid (dB k a b r g s m = (false)) := by
            show dB k a b r g s m = _
            unfold dB
            rw [if_pos h1, if_pos h2, if_neg h3, if_pos h4]
          go_enter Tryd.func26, Tryd.ntmps26
          go_wp2_with fail
          refine (lies_any k a b r g s m ha _).mono ?_
          rintro e w1 ⟨rfl, hb⟩
          have gC := block_later hb (heap_alloc_new _ _)
          have hB := below_tr (below_new _ _) hb
          obtain ⟨k0, k1, k2, k3, k4, k5, k6⟩ := cells7 gC
          clear hb
          rw [h1]
          go_wp2_with fail
          refine (refRite_any r _).mono ?_
          rintro e w2 ⟨rfl, rfl⟩
          rw [h2]
          go_wp2
          go_ret
          exact ⟨by first | (rw [HE.out]; done) | (rw [HE.out]; rfl), hB⟩
        · have dh4 : decide ((4095 : Int) < s) = false := decide_eq_false (by omega)
          by_cases h5 : r = 0
          · subst h5
            by_cases h6 : s = 0
            · subst h6
              have HE : Hid (dB k a b 0 g 0 m = (mkB k b g 0 m)) := by
                show dB k a b 0 g 0 m = _
                unfold dB
                rw [if_pos h1, if_pos h2, if_neg h3, if_neg h4, if_pos rfl, if_pos rfl]
              go_enter Tryd.func26, Tryd.ntmps26
              go_wp2_with fail
              refine (lies_any k a b 0 g 0 m ha _).mono ?_
              rintro e w1 ⟨rfl, hb⟩
              have gC := block_later hb (heap_alloc_new _ _)
              have hB := below_tr (below_new _ _) hb
              obtain ⟨k0, k1, k2, k3, k4, k5, k6⟩ := cells7 gC
              clear hb
              rw [h1]
              go_wp2_with fail
              refine (refRite_any 0 _).mono ?_
              rintro e w2 ⟨rfl, rfl⟩
              rw [h2]
              go_wp2_with fail
              refine (marked_c k a b 0 g 0 m hm (lies_sz h1) _).mono ?_
              rintro e w3 ⟨rfl, hb⟩
              replace gC := block_later hb gC
              replace hB := below_tr hB hb
              obtain ⟨k0, k1, k2, k3, k4, k5, k6⟩ := cells7 gC
              clear hb
              go_wp2
              go_ret
              exact ⟨by first | (rw [HE.out]; done) | (rw [HE.out]; rfl), hB⟩
            · have dh6 : ((s : Int) == 0) = false := by rw [beq_eq_false_iff_ne]; omega
              have eh6 : ((s : Int) != 0) = true := by rw [bne_iff_ne]; omega
              by_cases h7 : k = 3
              · subst h7
                have HE : Hid (dB 3 a b 0 g s m = (mkB 3 b g s m)) := by
                  show dB 3 a b 0 g s m = _
                  unfold dB
                  rw [if_pos h1, if_pos h2, if_neg h3, if_neg h4, if_pos rfl, if_neg h6, if_pos rfl]
                go_enter Tryd.func26, Tryd.ntmps26
                go_wp2_with fail
                refine (lies_any 3 a b 0 g s m ha _).mono ?_
                rintro e w1 ⟨rfl, hb⟩
                have gC := block_later hb (heap_alloc_new _ _)
                have hB := below_tr (below_new _ _) hb
                obtain ⟨k0, k1, k2, k3, k4, k5, k6⟩ := cells7 gC
                clear hb
                rw [h1]
                go_wp2_with fail
                refine (refRite_any 0 _).mono ?_
                rintro e w2 ⟨rfl, rfl⟩
                rw [h2]
                go_wp2_with fail
                refine (marked_c 3 a b 0 g s m hm (lies_sz h1) _).mono ?_
                rintro e w3 ⟨rfl, hb⟩
                replace gC := block_later hb gC
                replace hB := below_tr hB hb
                obtain ⟨k0, k1, k2, k3, k4, k5, k6⟩ := cells7 gC
                clear hb
                go_wp2
                go_ret
                exact ⟨by first | (rw [HE.out]; done) | (rw [HE.out]; rfl), hB⟩
              · have dh7 : ((k : Int) == 3) = false := by rw [beq_eq_false_iff_ne]; omega
                have eh7 : ((k : Int) != 3) = true := by rw [bne_iff_ne]; omega
                by_cases h8 : k = 4
                · subst h8
                  have HE : Hid (dB 4 a b 0 g s m = (mkB 4 b g s m)) := by
                    show dB 4 a b 0 g s m = _
                    unfold dB
                    rw [if_pos h1, if_pos h2, if_neg h3, if_neg h4, if_pos rfl, if_neg h6, if_neg h7, if_pos rfl]
                  go_enter Tryd.func26, Tryd.ntmps26
                  go_wp2_with fail
                  refine (lies_any 4 a b 0 g s m ha _).mono ?_
                  rintro e w1 ⟨rfl, hb⟩
                  have gC := block_later hb (heap_alloc_new _ _)
                  have hB := below_tr (below_new _ _) hb
                  obtain ⟨k0, k1, k2, k3, k4, k5, k6⟩ := cells7 gC
                  clear hb
                  rw [h1]
                  go_wp2_with fail
                  refine (refRite_any 0 _).mono ?_
                  rintro e w2 ⟨rfl, rfl⟩
                  rw [h2]
                  go_wp2_with fail
                  refine (marked_c 4 a b 0 g s m hm (lies_sz h1) _).mono ?_
                  rintro e w3 ⟨rfl, hb⟩
                  replace gC := block_later hb gC
                  replace hB := below_tr hB hb
                  obtain ⟨k0, k1, k2, k3, k4, k5, k6⟩ := cells7 gC
                  clear hb
                  go_wp2
                  go_ret
                  exact ⟨by first | (rw [HE.out]; done) | (rw [HE.out]; rfl), hB⟩
                · have dh8 : ((k : Int) == 4) = false := by rw [beq_eq_false_iff_ne]; omega
                  have eh8 : ((k : Int) != 4) = true := by rw [bne_iff_ne]; omega
                  by_cases h9 : k = 5
                  · subst h9
                    have HE : Hid (dB 5 a b 0 g s m = (mkB 5 b g s m)) := by
                      show dB 5 a b 0 g s m = _
                      unfold dB
                      rw [if_pos h1, if_pos h2, if_neg h3, if_neg h4, if_pos rfl, if_neg h6, if_neg h7, if_neg h8, if_pos rfl]
                    go_enter Tryd.func26, Tryd.ntmps26
                    go_wp2_with fail
                    refine (lies_any 5 a b 0 g s m ha _).mono ?_
                    rintro e w1 ⟨rfl, hb⟩
                    have gC := block_later hb (heap_alloc_new _ _)
                    have hB := below_tr (below_new _ _) hb
                    obtain ⟨k0, k1, k2, k3, k4, k5, k6⟩ := cells7 gC
                    clear hb
                    rw [h1]
                    go_wp2_with fail
                    refine (refRite_any 0 _).mono ?_
                    rintro e w2 ⟨rfl, rfl⟩
                    rw [h2]
                    go_wp2_with fail
                    refine (marked_c 5 a b 0 g s m hm (lies_sz h1) _).mono ?_
                    rintro e w3 ⟨rfl, hb⟩
                    replace gC := block_later hb gC
                    replace hB := below_tr hB hb
                    obtain ⟨k0, k1, k2, k3, k4, k5, k6⟩ := cells7 gC
                    clear hb
                    go_wp2
                    go_ret
                    exact ⟨by first | (rw [HE.out]; done) | (rw [HE.out]; rfl), hB⟩
                  · have dh9 : ((k : Int) == 5) = false := by rw [beq_eq_false_iff_ne]; omega
                    have eh9 : ((k : Int) != 5) = true := by rw [bne_iff_ne]; omega
                    have HE : Hid (dB k a b 0 g s m = (false)) := by
                      show dB k a b 0 g s m = _
                      unfold dB
                      rw [if_pos h1, if_pos h2, if_neg h3, if_neg h4, if_pos rfl, if_neg h6, if_neg h7, if_neg h8, if_neg h9]
                    go_enter Tryd.func26, Tryd.ntmps26
                    go_wp2_with fail
                    refine (lies_any k a b 0 g s m ha _).mono ?_
                    rintro e w1 ⟨rfl, hb⟩
                    have gC := block_later hb (heap_alloc_new _ _)
                    have hB := below_tr (below_new _ _) hb
                    obtain ⟨k0, k1, k2, k3, k4, k5, k6⟩ := cells7 gC
                    clear hb
                    rw [h1]
                    go_wp2_with fail
                    refine (refRite_any 0 _).mono ?_
                    rintro e w2 ⟨rfl, rfl⟩
                    rw [h2]
                    go_wp2
                    go_ret
                    exact ⟨by first | (rw [HE.out]; done) | (rw [HE.out]; rfl), hB⟩
          · have dh5 : ((r : Int) == 0) = false := by rw [beq_eq_false_iff_ne]; omega
            have eh5 : ((r : Int) != 0) = true := by rw [bne_iff_ne]; omega
            by_cases h10 : k = 3
            · subst h10
              by_cases h11 : s = 0
              · subst h11
                have HE : Hid (dB 3 a b r g 0 m = (mkB 3 b g 0 m)) := by
                  show dB 3 a b r g 0 m = _
                  unfold dB
                  rw [if_pos h1, if_pos h2, if_neg h3, if_neg h4, if_neg h5, if_pos rfl, if_pos rfl]
                go_enter Tryd.func26, Tryd.ntmps26
                go_wp2_with fail
                refine (lies_any 3 a b r g 0 m ha _).mono ?_
                rintro e w1 ⟨rfl, hb⟩
                have gC := block_later hb (heap_alloc_new _ _)
                have hB := below_tr (below_new _ _) hb
                obtain ⟨k0, k1, k2, k3, k4, k5, k6⟩ := cells7 gC
                clear hb
                rw [h1]
                go_wp2_with fail
                refine (refRite_any r _).mono ?_
                rintro e w2 ⟨rfl, rfl⟩
                rw [h2]
                go_wp2_with fail
                refine (marked_c 3 a b r g 0 m hm (lies_sz h1) _).mono ?_
                rintro e w3 ⟨rfl, hb⟩
                replace gC := block_later hb gC
                replace hB := below_tr hB hb
                obtain ⟨k0, k1, k2, k3, k4, k5, k6⟩ := cells7 gC
                clear hb
                go_wp2
                go_ret
                exact ⟨by first | (rw [HE.out]; done) | (rw [HE.out]; rfl), hB⟩
              · have dh11 : ((s : Int) == 0) = false := by rw [beq_eq_false_iff_ne]; omega
                have eh11 : ((s : Int) != 0) = true := by rw [bne_iff_ne]; omega
                have HE : Hid (dB 3 a b r g s m = (mkB 3 b g s m)) := by
                  show dB 3 a b r g s m = _
                  unfold dB
                  rw [if_pos h1, if_pos h2, if_neg h3, if_neg h4, if_neg h5, if_pos rfl, if_neg h11]
                go_enter Tryd.func26, Tryd.ntmps26
                go_wp2_with fail
                refine (lies_any 3 a b r g s m ha _).mono ?_
                rintro e w1 ⟨rfl, hb⟩
                have gC := block_later hb (heap_alloc_new _ _)
                have hB := below_tr (below_new _ _) hb
                obtain ⟨k0, k1, k2, k3, k4, k5, k6⟩ := cells7 gC
                clear hb
                rw [h1]
                go_wp2_with fail
                refine (refRite_any r _).mono ?_
                rintro e w2 ⟨rfl, rfl⟩
                rw [h2]
                go_wp2_with fail
                refine (marked_c 3 a b r g s m hm (lies_sz h1) _).mono ?_
                rintro e w3 ⟨rfl, hb⟩
                replace gC := block_later hb gC
                replace hB := below_tr hB hb
                obtain ⟨k0, k1, k2, k3, k4, k5, k6⟩ := cells7 gC
                clear hb
                go_wp2
                go_ret
                exact ⟨by first | (rw [HE.out]; done) | (rw [HE.out]; rfl), hB⟩
            · have dh10 : ((k : Int) == 3) = false := by rw [beq_eq_false_iff_ne]; omega
              have eh10 : ((k : Int) != 3) = true := by rw [bne_iff_ne]; omega
              by_cases h12 : k = 9
              · subst h12
                by_cases h13 : r ≤ 3
                · have dh13 : decide ((r : Int) ≤ 3) = true := decide_eq_true (by omega)
                  have fh13 : decide (3 < r) = false := decide_eq_false (by omega)
                  by_cases h14 : s = 0
                  · subst h14
                    have HE : Hid (dB 9 a b r g 0 m = (mkB 9 b g 0 m)) := by
                      show dB 9 a b r g 0 m = _
                      unfold dB
                      rw [if_pos h1, if_pos h2, if_neg h3, if_neg h4, if_neg h5, if_neg h10, if_pos rfl, if_pos h13, if_pos rfl]
                    go_enter Tryd.func26, Tryd.ntmps26
                    go_wp2_with fail
                    refine (lies_any 9 a b r g 0 m ha _).mono ?_
                    rintro e w1 ⟨rfl, hb⟩
                    have gC := block_later hb (heap_alloc_new _ _)
                    have hB := below_tr (below_new _ _) hb
                    obtain ⟨k0, k1, k2, k3, k4, k5, k6⟩ := cells7 gC
                    clear hb
                    rw [h1]
                    go_wp2_with fail
                    refine (refRite_any r _).mono ?_
                    rintro e w2 ⟨rfl, rfl⟩
                    rw [h2]
                    go_wp2_with fail
                    refine (marked_c 9 a b r g 0 m hm (lies_sz h1) _).mono ?_
                    rintro e w3 ⟨rfl, hb⟩
                    replace gC := block_later hb gC
                    replace hB := below_tr hB hb
                    obtain ⟨k0, k1, k2, k3, k4, k5, k6⟩ := cells7 gC
                    clear hb
                    go_wp2
                    go_ret
                    exact ⟨by first | (rw [HE.out]; done) | (rw [HE.out]; rfl), hB⟩
                  · have dh14 : ((s : Int) == 0) = false := by rw [beq_eq_false_iff_ne]; omega
                    have eh14 : ((s : Int) != 0) = true := by rw [bne_iff_ne]; omega
                    have HE : Hid (dB 9 a b r g s m = (false)) := by
                      show dB 9 a b r g s m = _
                      unfold dB
                      rw [if_pos h1, if_pos h2, if_neg h3, if_neg h4, if_neg h5, if_neg h10, if_pos rfl, if_pos h13, if_neg h14]
                    go_enter Tryd.func26, Tryd.ntmps26
                    go_wp2_with fail
                    refine (lies_any 9 a b r g s m ha _).mono ?_
                    rintro e w1 ⟨rfl, hb⟩
                    have gC := block_later hb (heap_alloc_new _ _)
                    have hB := below_tr (below_new _ _) hb
                    obtain ⟨k0, k1, k2, k3, k4, k5, k6⟩ := cells7 gC
                    clear hb
                    rw [h1]
                    go_wp2_with fail
                    refine (refRite_any r _).mono ?_
                    rintro e w2 ⟨rfl, rfl⟩
                    rw [h2]
                    go_wp2
                    go_ret
                    exact ⟨by first | (rw [HE.out]; done) | (rw [HE.out]; rfl), hB⟩
                · have dh13 : decide ((r : Int) ≤ 3) = false := decide_eq_false (by omega)
                  have fh13 : decide (3 < r) = true := decide_eq_true (by omega)
                  have HE : Hid (dB 9 a b r g s m = (false)) := by
                    show dB 9 a b r g s m = _
                    unfold dB
                    rw [if_pos h1, if_pos h2, if_neg h3, if_neg h4, if_neg h5, if_neg h10, if_pos rfl, if_neg h13]
                  go_enter Tryd.func26, Tryd.ntmps26
                  go_wp2_with fail
                  refine (lies_any 9 a b r g s m ha _).mono ?_
                  rintro e w1 ⟨rfl, hb⟩
                  have gC := block_later hb (heap_alloc_new _ _)
                  have hB := below_tr (below_new _ _) hb
                  obtain ⟨k0, k1, k2, k3, k4, k5, k6⟩ := cells7 gC
                  clear hb
                  rw [h1]
                  go_wp2_with fail
                  refine (refRite_any r _).mono ?_
                  rintro e w2 ⟨rfl, rfl⟩
                  rw [h2]
                  go_wp2
                  go_ret
                  exact ⟨by first | (rw [HE.out]; done) | (rw [HE.out]; rfl), hB⟩
              · have dh12 : ((k : Int) == 9) = false := by rw [beq_eq_false_iff_ne]; omega
                have eh12 : ((k : Int) != 9) = true := by rw [bne_iff_ne]; omega
                have HE : Hid (dB k a b r g s m = (false)) := by
                  show dB k a b r g s m = _
                  unfold dB
                  rw [if_pos h1, if_pos h2, if_neg h3, if_neg h4, if_neg h5, if_neg h10, if_neg h12]
                go_enter Tryd.func26, Tryd.ntmps26
                go_wp2_with fail
                refine (lies_any k a b r g s m ha _).mono ?_
                rintro e w1 ⟨rfl, hb⟩
                have gC := block_later hb (heap_alloc_new _ _)
                have hB := below_tr (below_new _ _) hb
                obtain ⟨k0, k1, k2, k3, k4, k5, k6⟩ := cells7 gC
                clear hb
                rw [h1]
                go_wp2_with fail
                refine (refRite_any r _).mono ?_
                rintro e w2 ⟨rfl, rfl⟩
                rw [h2]
                go_wp2
                go_ret
                exact ⟨by first | (rw [HE.out]; done) | (rw [HE.out]; rfl), hB⟩

end Go.Proofs.YtieldgocgjoojaaDoor
