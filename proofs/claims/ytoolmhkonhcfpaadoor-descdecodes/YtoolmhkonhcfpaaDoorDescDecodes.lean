/- DescDecodes (P4.1): for every level and word the law returns true: the word says at the level what the document says, or is reserved; what it says has just that word, but of Invalid. No condition beyond the row's own. -/
import Derived.Test.YtoolmhkonhcfpaaDoorDescSeven
import Derived.Test.YtoolmhkonhcfpaaDoorDescFrame
import Derived.Deep.RegionHeld3
namespace Go.Proofs.YtoolmhkonhcfpaaDoor.descDecodes
open Go.ChangeShapes Go.WideShapes Go.ChangeAt Go.RowKit Go.Lib

/-- One operation of a region that draws, taken first; where its value goes is said. -/
theorem take_at {P : Program} {ops : Array Oper} {Q : Exit → Act → World → Prop} {md : Region.Mode} {S : World → Prop} {i : Nat} {oi : Oper} {v : Value} {fuel : Nat} {listed : Array Bool} {a : Act} {w : World} (t : Tmp) (hi : ops[i]? = some oi) (hd : oi.dst = some t)
    (hs : Region.noSelect ops = true) (hf : Region.free md ops listed i = true) (hr : (Region.ready md ops listed).contains i = true)
    (hQ : ∀ c a w, Q (.panic c) (a.put oi.dst v) w → Q (.panic c) a w) (hy : YieldsIf P ops S oi v a) (hS : S w)
    (h : wpAnyH P md ops Q S fuel (listed.setIfInBounds i true) (a.put (some t) v) w) : wpAnyH P md ops Q S (fuel + 1) listed a w :=
  wpAnyH_take hi hs hf hr hQ hy hS (by rw [hd]; exact h)

set_option maxRecDepth 100000 in
set_option maxHeartbeats 4000000 in
theorem walk_lv (l : Int) (x : Nat) (hl : isLv l = false) (w : World) (hF : Flds w) :
    Calls Tryd.prog 4 #[.int .i64 l, .int .u64 x] w fun e w' => e = .returned (.bool true) ∧ Below w.heap.size w w' := by
  have cA := anchor_any w hF
  have cD := fun w1 => decode_lv l x hl w1
  have hn : ¬ (0 ≤ l ∧ l ≤ 3) := of_decide_eq_false hl
  by_cases h1 : l < 0
  · have d1 : decide (l < 0) = true := decide_eq_true h1
    clear hn
    go_enter Tryd.func4, Tryd.ntmps4
    go_wp2_with (first
      | (go_at_call 7; refine cA.mono ?_; rintro e w1 ⟨rfl, hb1⟩)
      | (go_at_call 13; refine (cD _).mono ?_; rintro e w2 ⟨rfl, hb2⟩))
    go_ret
    exact ⟨rfl, (below_tr hb1 hb2).alloc (below_tr hb1 hb2).size _⟩
  · have d1 : decide (l < 0) = false := decide_eq_false h1
    have h3 : 3 < l := by omega
    have d2 : decide (3 < l) = true := decide_eq_true h3
    clear hn
    go_enter Tryd.func4, Tryd.ntmps4
    go_wp2_with (first
      | (go_at_call 7; refine cA.mono ?_; rintro e w1 ⟨rfl, hb1⟩)
      | (go_at_call 13; refine (cD _).mono ?_; rintro e w2 ⟨rfl, hb2⟩))
    go_ret
    exact ⟨rfl, (below_tr hb1 hb2).alloc (below_tr hb1 hb2).size _⟩

set_option maxRecDepth 100000 in
set_option maxHeartbeats 4000000 in
theorem walk_bad (l : Int) (x : Nat) (hx : x < 18446744073709551616) (hl : isLv l = true) (hg : goodD l x = false) (w : World) (hF : Flds w) :
    Calls Tryd.prog 4 #[.int .i64 l, .int .u64 x] w fun e w' => e = .returned (.bool true) ∧ Below w.heap.size w w' := by
  have cA := anchor_any w hF
  have cD := fun w1 h => decode_fail l x hl hx hg w1 h
  have cR := fun w1 => rdec_fail l x hl hx hg w1
  have hb := isLv_of hl
  have h1 : ¬ l < 0 := by omega
  have h3 : ¬ 3 < l := by omega
  have d1 : decide (l < 0) = false := decide_eq_false h1
  have d2 : decide (3 < l) = false := decide_eq_false h3
  clear hb
  go_enter Tryd.func4, Tryd.ntmps4
  go_wp2_with fail
  refine cA.mono ?_
  rintro e w1 ⟨rfl, hb1⟩
  go_wp2_with fail
  refine (cD _ (hF.later hb1)).mono ?_
  rintro e w2 ⟨rfl, hb2⟩
  have hB2 := below_tr hb1 hb2
  clear hb1 hb2 cA cD
  go_wp2_with fail
  refine (cR _).mono ?_
  rintro e w3 ⟨rfl, hb3⟩
  obtain ⟨k0, k1, k2, k3, k4, k5, k6⟩ := (D7.new w2 24 0 0 false false false false 0).later hb3
  have hB3 : Below w.heap.size w w3 := below_tr (hB2.alloc hB2.size _) hb3
  have j0 := fun ob => cell_alloc (o := ob) k0
  have j1 := fun ob => cell_alloc (o := ob) k1
  have j2 := fun ob => cell_alloc (o := ob) k2
  have j3 := fun ob => cell_alloc (o := ob) k3
  have j4 := fun ob => cell_alloc (o := ob) k4
  have j5 := fun ob => cell_alloc (o := ob) k5
  have j6 := fun ob => cell_alloc (o := ob) k6
  clear k0 k1 k2 k3 k4 k5 k6 hb3 cR
  go_wp2
  go_ret
  exact ⟨rfl, hB3.alloc hB3.size _⟩

set_option linter.unusedSimpArgs false in
set_option maxRecDepth 100000 in
set_option maxHeartbeats 8000000 in
theorem walk_same (l : Int) (x : Nat) (hx : x < 18446744073709551616) (hl : isLv l = true) (hg : goodD l x = true) (hV : encW l (rdK l x) (rdO x) (rdU l x) (rdR l x) (rdX l x) (rdS l x) (rdA l x) = x) (w : World) (hF : Flds w) :
    Calls Tryd.prog 4 #[.int .i64 l, .int .u64 x] w fun e w' => e = .returned (.bool true) ∧ Below w.heap.size w w' := by
  have cA := anchor_any w hF
  have cD := fun w1 h => decode_good l x hl hx hg w1 h
  have cR := fun w1 => rdec_good l x hl hx hg w1
  have hr := (good_right l x hl hg).1
  have hO := rdO_lt x
  have cE := fun w1 h => encode_any l (rdK l x) (rdO x) (rdU l x) (rdR l x) (rdX l x) (rdS l x) (rdA l x) hO w1 h
  have eE : encE l (rdK l x) (rdO x) (rdU l x) (rdR l x) (rdX l x) (rdS l x) (rdA l x) = 0 := by
    unfold encE; rw [if_neg (by rw [hl]; decide), if_neg (by rw [hr]; decide)]
  have cP := fun w1 h => right_d l (rdK l x) (rdO x) (rdU l x) (rdR l x) (rdX l x) (rdS l x) (rdA l x) hO w1 h
  have cS := fun w1 => listed_any (rdK l x) (rdO x) (rdU l x) (rdR l x) (rdX l x) (rdS l x) (rdA l x) w1
  rw [hV, eE] at cE
  rw [hr] at cP
  unfold rdV at cD cR
  clear hV eE hr
  generalize rdK l x = K at *
  generalize rdO x = O at *
  generalize rdU l x = U at *
  generalize rdR l x = R at *
  generalize rdX l x = X at *
  generalize rdS l x = S at *
  generalize rdA l x = A at *
  have hb := isLv_of hl
  have h1 : ¬ l < 0 := by omega
  have h3 : ¬ 3 < l := by omega
  have d1 : decide (l < 0) = false := decide_eq_false h1
  have d2 : decide (3 < l) = false := decide_eq_false h3
  clear hb hg hl hx hO
  go_enter Tryd.func4, Tryd.ntmps4
  go_wp2_with fail
  refine cA.mono ?_
  rintro e w1 ⟨rfl, hb1⟩
  have hF1 := hF.later hb1
  go_wp2_with fail
  refine (cD _ hF1).mono ?_
  rintro e w2 ⟨rfl, hb2⟩
  have hF2 := hF1.later hb2
  have hB2 := below_tr hb1 hb2
  clear hb1 hb2 cA cD hF1
  go_wp2_with fail
  refine (cR _).mono ?_
  rintro e w3 ⟨rfl, hb3⟩
  have hF3 := (hF2.alloc _).later hb3
  have hD3 := (D7.new w2 24 K O U R X S A).later hb3
  have hB3 : Below w.heap.size w w3 := below_tr (hB2.alloc hB2.size _) hb3
  have j0 := fun ob => cell_alloc (o := ob) hD3.c0
  have j1 := fun ob => cell_alloc (o := ob) hD3.c1
  have j2 := fun ob => cell_alloc (o := ob) hD3.c2
  have j3 := fun ob => cell_alloc (o := ob) hD3.c3
  have j4 := fun ob => cell_alloc (o := ob) hD3.c4
  have j5 := fun ob => cell_alloc (o := ob) hD3.c5
  have j6 := fun ob => cell_alloc (o := ob) hD3.c6
  clear hb3 cR hF2
  go_wp2_with fail
  refine (cE _ (hF3.alloc _)).mono ?_
  rintro e w4 ⟨rfl, hb4⟩
  clear j0 j1 j2 j3 j4 j5 j6
  have hF4 := (hF3.alloc _).later hb4
  have hD4 := (hD3.alloc _).later hb4
  have hX4 := (D7.new w3 31 K O U R X S A).later hb4
  have hB4 : Below w.heap.size w w4 := below_tr (hB3.alloc hB3.size _) hb4
  obtain ⟨j0, j1, j2, j3, j4, j5, j6⟩ := hD4
  obtain ⟨i0, i1, i2, i3, i4, i5, i6⟩ := hX4
  clear hb4 hF3 hD3 hB2 hB3 cE
  go_wp2_with fail
  refine wp_region_noPanic ?_
  refine wp_region_held_drew (S := (fun w' => w'.cell? ⟨w2.heap.size, 0, none⟩ = some (.int .i64 K) ∧ w'.cell? ⟨w2.heap.size, 1, none⟩ = some (.int .u64 (O : Int)) ∧ w'.cell? ⟨w2.heap.size, 2, none⟩ = some (.bool U) ∧ w'.cell? ⟨w2.heap.size, 3, none⟩ = some (.bool R) ∧ w'.cell? ⟨w2.heap.size, 4, none⟩ = some (.bool X) ∧ w'.cell? ⟨w2.heap.size, 5, none⟩ = some (.bool S) ∧ w'.cell? ⟨w2.heap.size, 6, none⟩ = some (.int .i64 A) ∧ w'.cell? ⟨w3.heap.size, 0, none⟩ = some (.int .i64 K) ∧ w'.cell? ⟨w3.heap.size, 1, none⟩ = some (.int .u64 (O : Int)) ∧ w'.cell? ⟨w3.heap.size, 2, none⟩ = some (.bool U) ∧ w'.cell? ⟨w3.heap.size, 3, none⟩ = some (.bool R) ∧ w'.cell? ⟨w3.heap.size, 4, none⟩ = some (.bool X) ∧ w'.cell? ⟨w3.heap.size, 5, none⟩ = some (.bool S) ∧ w'.cell? ⟨w3.heap.size, 6, none⟩ = some (.int .i64 A) ∧ Flds w' ∧ Below w.heap.size w w')) (by kernel_rfl) ?_ (fun hHeld => ?_)
  · exact ⟨cell_drew j0, cell_drew j1, cell_drew j2, cell_drew j3, cell_drew j4, cell_drew j5, cell_drew j6, cell_drew i0, cell_drew i1, cell_drew i2, cell_drew i3, cell_drew i4, cell_drew i5, cell_drew i6, hF4.drew, hB4.drew⟩
  refine take_at (i := 0) (v := ?_) 53 rfl rfl (by kernel_rfl) (by kernel_rfl) (by kernel_rfl) (fun _ _ _ h => h) (Or.inl ⟨by rfl, ?_⟩) (by assumption) ?_
  rotate_left
  · (intro w' hSw; (try dsimp only at hSw); go_simp; all_goals with_reducible rfl)
  try simp only [Act.put, List.setIfInBounds_toArray, List.set_cons_zero, List.set_cons_succ]
  refine take_at (i := 1) (v := ?_) 54 rfl rfl (by kernel_rfl) (by kernel_rfl) (by kernel_rfl) (fun _ _ _ h => h) (Or.inl ⟨by rfl, ?_⟩) (by assumption) ?_
  rotate_left
  · (intro w' hSw; (try dsimp only at hSw); go_simp; all_goals with_reducible rfl)
  try simp only [Act.put, List.setIfInBounds_toArray, List.set_cons_zero, List.set_cons_succ]
  refine take_at (i := 2) (v := ?_) 55 rfl rfl (by kernel_rfl) (by kernel_rfl) (by kernel_rfl) (fun _ _ _ h => h) (Or.inl ⟨by rfl, ?_⟩) (by assumption) ?_
  rotate_left
  · (intro w' hSw; (try dsimp only at hSw); go_simp; all_goals with_reducible rfl)
  try simp only [Act.put, List.setIfInBounds_toArray, List.set_cons_zero, List.set_cons_succ]
  refine take_at (i := 3) (v := ?_) 56 rfl rfl (by kernel_rfl) (by kernel_rfl) (by kernel_rfl) (fun _ _ _ h => h) (Or.inl ⟨by rfl, ?_⟩) (by assumption) ?_
  rotate_left
  · (intro w' hSw; (try dsimp only at hSw); go_simp; all_goals with_reducible rfl)
  try simp only [Act.put, List.setIfInBounds_toArray, List.set_cons_zero, List.set_cons_succ]
  refine take_at (i := 5) (v := ?_) 58 rfl rfl (by kernel_rfl) (by kernel_rfl) (by kernel_rfl) (fun _ _ _ h => h) (Or.inl ⟨by rfl, ?_⟩) (by assumption) ?_
  rotate_left
  · (intro w' hSw; (try dsimp only at hSw); go_simp; all_goals with_reducible rfl)
  try simp only [Act.put, List.setIfInBounds_toArray, List.set_cons_zero, List.set_cons_succ]
  refine wpAnyH_ready (rs := [4]) (by kernel_rfl) (by simp) ?_
  refine AllReadyH.cons rfl (fun K hK => ?_) AllReadyH.nil
  go_simp
  refine (cS _).mono ?_
  rintro e w5 ⟨rfl, hbm⟩
  go_wp2_with fail
  have hD5 := (D7.mk j0 j1 j2 j3 j4 j5 j6).later (below_tr (Below.refl _ _).drew hbm)
  have hX5 := (D7.mk i0 i1 i2 i3 i4 i5 i6).later (below_tr (Below.refl _ _).drew hbm)
  have hF5 := hF4.later (below_tr (Below.refl _ _).drew hbm)
  have hB5 : Below w.heap.size w w5 := below_tr hB4.drew hbm
  obtain ⟨m0, m1, m2, m3, m4, m5, m6⟩ := hD5
  obtain ⟨n0, n1, n2, n3, n4, n5, n6⟩ := hX5
  refine hK.out _ _ ⟨m0, m1, m2, m3, m4, m5, m6, n0, n1, n2, n3, n4, n5, n6, hF5, hB5⟩ (fun hHeld2 => ?_)
  clear hK hbm hHeld j0 j1 j2 j3 j4 j5 j6 i0 i1 i2 i3 i4 i5 i6 hF4 hB4
  try simp only [Act.put, List.setIfInBounds_toArray, List.set_cons_zero, List.set_cons_succ]
  refine take_at (i := 6) (v := ?_) 59 rfl rfl (by kernel_rfl) (by kernel_rfl) (by kernel_rfl) (fun _ _ _ h => h) (Or.inl ⟨by rfl, ?_⟩) (by assumption) ?_
  rotate_left
  · (intro w' hSw; (try dsimp only at hSw); go_simp; all_goals with_reducible rfl)
  try simp only [Act.put, List.setIfInBounds_toArray, List.set_cons_zero, List.set_cons_succ]
  refine take_at (i := 7) (v := ?_) 60 rfl rfl (by kernel_rfl) (by kernel_rfl) (by kernel_rfl) (fun _ _ _ h => h) (Or.inl ⟨by rfl, ?_⟩) (by assumption) ?_
  rotate_left
  · (intro w' hSw; (try dsimp only at hSw); go_simp; all_goals with_reducible rfl)
  try simp only [Act.put, List.setIfInBounds_toArray, List.set_cons_zero, List.set_cons_succ]
  refine take_at (i := 8) (v := ?_) 61 rfl rfl (by kernel_rfl) (by kernel_rfl) (by kernel_rfl) (fun _ _ _ h => h) (Or.inl ⟨by rfl, ?_⟩) (by assumption) ?_
  rotate_left
  · (intro w' hSw; (try dsimp only at hSw); go_simp; all_goals with_reducible rfl)
  try simp only [Act.put, List.setIfInBounds_toArray, List.set_cons_zero, List.set_cons_succ]
  refine take_at (i := 9) (v := ?_) 62 rfl rfl (by kernel_rfl) (by kernel_rfl) (by kernel_rfl) (fun _ _ _ h => h) (Or.inl ⟨by rfl, ?_⟩) (by assumption) ?_
  rotate_left
  · (intro w' hSw; (try dsimp only at hSw); go_simp; all_goals with_reducible rfl)
  try simp only [Act.put, List.setIfInBounds_toArray, List.set_cons_zero, List.set_cons_succ]
  refine take_at (i := 10) (v := ?_) 63 rfl rfl (by kernel_rfl) (by kernel_rfl) (by kernel_rfl) (fun _ _ _ h => h) (Or.inl ⟨by rfl, ?_⟩) (by assumption) ?_
  rotate_left
  · (intro w' hSw; (try dsimp only at hSw); go_simp; all_goals with_reducible rfl)
  try simp only [Act.put, List.setIfInBounds_toArray, List.set_cons_zero, List.set_cons_succ]
  refine wpAnyH_ready (rs := [11]) (by kernel_rfl) (by simp) ?_
  refine AllReadyH.cons rfl (fun K hK => ?_) AllReadyH.nil
  go_simp
  refine (cP _ hF5).mono ?_
  rintro e w6 ⟨rfl, hbm⟩
  go_wp2_with fail
  have hD6 := (D7.mk m0 m1 m2 m3 m4 m5 m6).later hbm
  have hX6 := (D7.mk n0 n1 n2 n3 n4 n5 n6).later hbm
  have hF6 := hF5.later hbm
  have hB6 : Below w.heap.size w w6 := below_tr hB5 hbm
  obtain ⟨q0, q1, q2, q3, q4, q5, q6⟩ := hD6
  obtain ⟨r0, r1, r2, r3, r4, r5, r6⟩ := hX6
  refine hK.out _ _ ⟨q0, q1, q2, q3, q4, q5, q6, r0, r1, r2, r3, r4, r5, r6, hF6, hB6⟩ (fun hHeld3 => ?_)
  clear hK hbm hHeld2 m0 m1 m2 m3 m4 m5 m6 n0 n1 n2 n3 n4 n5 n6 hF5 hB5
  try simp only [Act.put, List.setIfInBounds_toArray, List.set_cons_zero, List.set_cons_succ]
  refine take_at (i := 12) (v := ?_) 65 rfl rfl (by kernel_rfl) (by kernel_rfl) (by kernel_rfl) (fun _ _ _ h => h) (Or.inl ⟨by rfl, ?_⟩) (by assumption) ?_
  rotate_left
  · (intro w' hSw; (try dsimp only at hSw); go_simp; all_goals with_reducible rfl)
  try simp only [Act.put, List.setIfInBounds_toArray, List.set_cons_zero, List.set_cons_succ]
  refine take_at (i := 13) (v := ?_) 66 rfl rfl (by kernel_rfl) (by kernel_rfl) (by kernel_rfl) (fun _ _ _ h => h) (Or.inl ⟨by rfl, ?_⟩) (by assumption) ?_
  rotate_left
  · (intro w' hSw; (try dsimp only at hSw); go_simp; all_goals with_reducible rfl)
  try simp only [Act.put, List.setIfInBounds_toArray, List.set_cons_zero, List.set_cons_succ]
  refine take_at (i := 14) (v := ?_) 67 rfl rfl (by kernel_rfl) (by kernel_rfl) (by kernel_rfl) (fun _ _ _ h => h) (Or.inl ⟨by rfl, ?_⟩) (by assumption) ?_
  rotate_left
  · (intro w' hSw; (try dsimp only at hSw); go_simp; all_goals with_reducible rfl)
  try simp only [Act.put, List.setIfInBounds_toArray, List.set_cons_zero, List.set_cons_succ]
  refine take_at (i := 15) (v := ?_) 68 rfl rfl (by kernel_rfl) (by kernel_rfl) (by kernel_rfl) (fun _ _ _ h => h) (Or.inl ⟨by rfl, ?_⟩) (by assumption) ?_
  rotate_left
  · (intro w' hSw; (try dsimp only at hSw); go_simp; all_goals with_reducible rfl)
  try simp only [Act.put, List.setIfInBounds_toArray, List.set_cons_zero, List.set_cons_succ]
  refine take_at (i := 16) (v := ?_) 69 rfl rfl (by kernel_rfl) (by kernel_rfl) (by kernel_rfl) (fun _ _ _ h => h) (Or.inl ⟨by rfl, ?_⟩) (by assumption) ?_
  rotate_left
  · (intro w' hSw; (try dsimp only at hSw); go_simp; all_goals with_reducible rfl)
  try simp only [Act.put, List.setIfInBounds_toArray, List.set_cons_zero, List.set_cons_succ]
  refine take_at (i := 17) (v := ?_) 70 rfl rfl (by kernel_rfl) (by kernel_rfl) (by kernel_rfl) (fun _ _ _ h => h) (Or.inl ⟨by rfl, ?_⟩) (by assumption) ?_
  rotate_left
  · (intro w' hSw; (try dsimp only at hSw); go_simp; all_goals with_reducible rfl)
  try simp only [Act.put, List.setIfInBounds_toArray, List.set_cons_zero, List.set_cons_succ]
  refine take_at (i := 18) (v := ?_) 71 rfl rfl (by kernel_rfl) (by kernel_rfl) (by kernel_rfl) (fun _ _ _ h => h) (Or.inl ⟨by rfl, ?_⟩) (by assumption) ?_
  rotate_left
  · (intro w' hSw; (try dsimp only at hSw); go_simp; all_goals with_reducible rfl)
  try simp only [Act.put, List.setIfInBounds_toArray, List.set_cons_zero, List.set_cons_succ]
  refine take_at (i := 19) (v := ?_) 72 rfl rfl (by kernel_rfl) (by kernel_rfl) (by kernel_rfl) (fun _ _ _ h => h) (Or.inl ⟨by rfl, ?_⟩) (by assumption) ?_
  rotate_left
  · (intro w' hSw; (try dsimp only at hSw); go_simp; all_goals with_reducible rfl)
  try simp only [Act.put, List.setIfInBounds_toArray, List.set_cons_zero, List.set_cons_succ]
  refine take_at (i := 20) (v := ?_) 73 rfl rfl (by kernel_rfl) (by kernel_rfl) (by kernel_rfl) (fun _ _ _ h => h) (Or.inl ⟨by rfl, ?_⟩) (by assumption) ?_
  rotate_left
  · (intro w' hSw; (try dsimp only at hSw); go_simp; all_goals with_reducible rfl)
  try simp only [Act.put, List.setIfInBounds_toArray, List.set_cons_zero, List.set_cons_succ]
  refine take_at (i := 21) (v := ?_) 74 rfl rfl (by kernel_rfl) (by kernel_rfl) (by kernel_rfl) (fun _ _ _ h => h) (Or.inl ⟨by rfl, ?_⟩) (by assumption) ?_
  rotate_left
  · (intro w' hSw; (try dsimp only at hSw); go_simp; all_goals with_reducible rfl)
  try simp only [Act.put, List.setIfInBounds_toArray, List.set_cons_zero, List.set_cons_succ]
  refine take_at (i := 22) (v := undef) 75 rfl rfl (by kernel_rfl) (by kernel_rfl) (by kernel_rfl) (fun _ _ _ h => h) (Or.inr ⟨by rfl, rfl⟩) (by assumption) ?_
  try simp only [Act.put, List.setIfInBounds_toArray, List.set_cons_zero, List.set_cons_succ]
  refine take_at (i := 23) (v := undef) 76 rfl rfl (by kernel_rfl) (by kernel_rfl) (by kernel_rfl) (fun _ _ _ h => h) (Or.inr ⟨by rfl, rfl⟩) (by assumption) ?_
  try simp only [Act.put, List.setIfInBounds_toArray, List.set_cons_zero, List.set_cons_succ]
  refine take_at (i := 24) (v := undef) 77 rfl rfl (by kernel_rfl) (by kernel_rfl) (by kernel_rfl) (fun _ _ _ h => h) (Or.inr ⟨by rfl, rfl⟩) (by assumption) ?_
  try simp only [Act.put, List.setIfInBounds_toArray, List.set_cons_zero, List.set_cons_succ]
  refine take_at (i := 25) (v := undef) 78 rfl rfl (by kernel_rfl) (by kernel_rfl) (by kernel_rfl) (fun _ _ _ h => h) (Or.inr ⟨by rfl, rfl⟩) (by assumption) ?_
  try simp only [Act.put, List.setIfInBounds_toArray, List.set_cons_zero, List.set_cons_succ]
  refine take_at (i := 26) (v := undef) 79 rfl rfl (by kernel_rfl) (by kernel_rfl) (by kernel_rfl) (fun _ _ _ h => h) (Or.inr ⟨by rfl, rfl⟩) (by assumption) ?_
  try simp only [Act.put, List.setIfInBounds_toArray, List.set_cons_zero, List.set_cons_succ]
  refine take_at (i := 27) (v := undef) 80 rfl rfl (by kernel_rfl) (by kernel_rfl) (by kernel_rfl) (fun _ _ _ h => h) (Or.inr ⟨by rfl, rfl⟩) (by assumption) ?_
  try simp only [Act.put, List.setIfInBounds_toArray, List.set_cons_zero, List.set_cons_succ]
  refine take_at (i := 28) (v := undef) 81 rfl rfl (by kernel_rfl) (by kernel_rfl) (by kernel_rfl) (fun _ _ _ h => h) (Or.inr ⟨by rfl, rfl⟩) (by assumption) ?_
  try simp only [Act.put, List.setIfInBounds_toArray, List.set_cons_zero, List.set_cons_succ]
  refine take_at (i := 29) (v := ?_) 82 rfl rfl (by kernel_rfl) (by kernel_rfl) (by kernel_rfl) (fun _ _ _ h => h) (Or.inl ⟨by rfl, ?_⟩) (by assumption) ?_
  rotate_left
  · (intro w' hSw; (try dsimp only at hSw); go_simp; all_goals with_reducible rfl)
  try simp only [Act.put, List.setIfInBounds_toArray, List.set_cons_zero, List.set_cons_succ]
  refine take_at (i := 30) (v := ?_) 83 rfl rfl (by kernel_rfl) (by kernel_rfl) (by kernel_rfl) (fun _ _ _ h => h) (Or.inl ⟨by rfl, ?_⟩) (by assumption) ?_
  rotate_left
  · (intro w' hSw; (try dsimp only at hSw); go_simp; all_goals with_reducible rfl)
  try simp only [Act.put, List.setIfInBounds_toArray, List.set_cons_zero, List.set_cons_succ]
  refine take_at (i := 31) (v := ?_) 4 rfl rfl (by kernel_rfl) (by kernel_rfl) (by kernel_rfl) (fun _ _ _ h => h) (Or.inl ⟨by rfl, ?_⟩) (by assumption) ?_
  rotate_left
  · (intro w' hSw; (try dsimp only at hSw); go_simp; all_goals with_reducible rfl)
  try simp only [Act.put, List.setIfInBounds_toArray, List.set_cons_zero, List.set_cons_succ]
  refine wpAnyH_done (by kernel_rfl) ?_ _
  refine NoPanic.normal ?_
  go_wp2
  go_ret
  exact ⟨rfl, hB6⟩

set_option maxRecDepth 100000 in
set_option maxHeartbeats 8000000 in
theorem walk_inv (l : Int) (x : Nat) (hx : x < 18446744073709551616) (hl : isLv l = true) (hg : goodD l x = true) (h0 : x.testBit 0 = false) (hx0 : x ≠ 0) (w : World) (hF : Flds w) :
    Calls Tryd.prog 4 #[.int .i64 l, .int .u64 x] w fun e w' => e = .returned (.bool true) ∧ Below w.heap.size w w' := by
  have cA := anchor_any w hF
  have cD := fun w1 h => decode_good l x hl hx hg w1 h
  have cR := fun w1 => rdec_good l x hl hx hg w1
  have hr := (good_right l x hl hg).1
  have hO := rdO_lt x
  have cE := fun w1 h => encode_any l (rdK l x) (rdO x) (rdU l x) (rdR l x) (rdX l x) (rdS l x) (rdA l x) hO w1 h
  have eE : encE l (rdK l x) (rdO x) (rdU l x) (rdR l x) (rdX l x) (rdS l x) (rdA l x) = 0 := by
    unfold encE; rw [if_neg (by rw [hl]; decide), if_neg (by rw [hr]; decide)]
  have cP := fun w1 h => right_d l (rdK l x) (rdO x) (rdU l x) (rdR l x) (rdX l x) (rdS l x) (rdA l x) hO w1 h
  have cS := fun w1 => listed_any (rdK l x) (rdO x) (rdU l x) (rdR l x) (rdX l x) (rdS l x) (rdA l x) w1
  have hV : encW l (rdK l x) (rdO x) (rdU l x) (rdR l x) (rdX l x) (rdS l x) (rdA l x) = 0 := by
    rcases (good_right l x hl hg).2 with h | h
    · exact h.2.2
    · rw [h0] at h; cases h.1
  rw [hV, eE] at cE
  rw [hr] at cP
  unfold rdV at cD cR
  obtain ⟨z0, z1, z2, z3, z4, z5, z6⟩ := rd_inv l x h0
  rw [z0, z1, z2, z3, z4, z5, z6] at cD cR cE cP cS
  have hne : ((0 : Int) == (x : Int)) = false := by rw [beq_eq_false_iff_ne]; omega
  have hne2 : ¬ (0 : Int) = (x : Int) := by omega
  clear hV eE hr z0 z1 z2 z3 z4 z5 z6 h0 hx0
  have hb := isLv_of hl
  have h1 : ¬ l < 0 := by omega
  have h3 : ¬ 3 < l := by omega
  have d1 : decide (l < 0) = false := decide_eq_false h1
  have d2 : decide (3 < l) = false := decide_eq_false h3
  clear hb hg hl hx hO
  go_enter Tryd.func4, Tryd.ntmps4
  go_wp2_with fail
  refine cA.mono ?_
  rintro e w1 ⟨rfl, hb1⟩
  have hF1 := hF.later hb1
  go_wp2_with fail
  refine (cD _ hF1).mono ?_
  rintro e w2 ⟨rfl, hb2⟩
  have hF2 := hF1.later hb2
  have hB2 := below_tr hb1 hb2
  clear hb1 hb2 cA cD hF1
  go_wp2_with fail
  refine (cR _).mono ?_
  rintro e w3 ⟨rfl, hb3⟩
  have hF3 := (hF2.alloc _).later hb3
  have hD3 := (D7.new w2 24 0 0 false false false false 0).later hb3
  have hB3 : Below w.heap.size w w3 := below_tr (hB2.alloc hB2.size _) hb3
  have j0 := fun ob => cell_alloc (o := ob) hD3.c0
  have j1 := fun ob => cell_alloc (o := ob) hD3.c1
  have j2 := fun ob => cell_alloc (o := ob) hD3.c2
  have j3 := fun ob => cell_alloc (o := ob) hD3.c3
  have j4 := fun ob => cell_alloc (o := ob) hD3.c4
  have j5 := fun ob => cell_alloc (o := ob) hD3.c5
  have j6 := fun ob => cell_alloc (o := ob) hD3.c6
  clear hb3 cR hF2
  go_wp2_with fail
  refine (cE _ (hF3.alloc _)).mono ?_
  rintro e w4 ⟨rfl, hb4⟩
  clear j0 j1 j2 j3 j4 j5 j6
  have hF4 := (hF3.alloc _).later hb4
  have hD4 := (hD3.alloc _).later hb4
  have hX4 := (D7.new w3 31 0 0 false false false false 0).later hb4
  have hB4 : Below w.heap.size w w4 := below_tr (hB3.alloc hB3.size _) hb4
  obtain ⟨j0, j1, j2, j3, j4, j5, j6⟩ := hD4
  obtain ⟨i0, i1, i2, i3, i4, i5, i6⟩ := hX4
  clear hb4 hF3 hD3 hB2 hB3 cE
  replace j1 : w4.cell? ⟨w2.heap.size, 1, none⟩ = some (.int .u64 0) := j1
  replace i1 : w4.cell? ⟨w3.heap.size, 1, none⟩ = some (.int .u64 0) := i1
  go_wp2_with fail
  go_region_held3 (fun w' => w'.cell? ⟨w2.heap.size, 0, none⟩ = some (.int .i64 0) ∧ w'.cell? ⟨w2.heap.size, 1, none⟩ = some (.int .u64 0) ∧ w'.cell? ⟨w2.heap.size, 2, none⟩ = some (.bool false) ∧ w'.cell? ⟨w2.heap.size, 3, none⟩ = some (.bool false) ∧ w'.cell? ⟨w2.heap.size, 4, none⟩ = some (.bool false) ∧ w'.cell? ⟨w2.heap.size, 5, none⟩ = some (.bool false) ∧ w'.cell? ⟨w2.heap.size, 6, none⟩ = some (.int .i64 0) ∧ w'.cell? ⟨w3.heap.size, 0, none⟩ = some (.int .i64 0) ∧ w'.cell? ⟨w3.heap.size, 1, none⟩ = some (.int .u64 0) ∧ w'.cell? ⟨w3.heap.size, 2, none⟩ = some (.bool false) ∧ w'.cell? ⟨w3.heap.size, 3, none⟩ = some (.bool false) ∧ w'.cell? ⟨w3.heap.size, 4, none⟩ = some (.bool false) ∧ w'.cell? ⟨w3.heap.size, 5, none⟩ = some (.bool false) ∧ w'.cell? ⟨w3.heap.size, 6, none⟩ = some (.int .i64 0) ∧ Flds w' ∧ Below w.heap.size w w')
    ((go_split_ands; refine ⟨?_, ?_, ?_, ?_, ?_, ?_, ?_, ?_, ?_, ?_, ?_, ?_, ?_, ?_, ?_, ?_⟩ <;> first | (with_reducible assumption) | (with_reducible exact cell_later hbm (by assumption)) | (with_reducible exact Flds.later (by assumption) hbm) | (with_reducible exact below_tr (by assumption) hbm) | (with_reducible exact cell_drew (by assumption)) | (with_reducible exact hF4.drew) | (with_reducible exact hB4.drew) | exact hF4.drew | exact hB4.drew))
    (first
      | (go_at_call 11; refine (cS _).mono ?_; rintro e w' ⟨rfl, hbm⟩)
      | (go_at_call 9; refine (cP _ (by go_split_ands; assumption)).mono ?_; rintro e w' ⟨rfl, hbm⟩))
  all_goals go_wp2
  all_goals go_ret
  all_goals exact ⟨rfl, by go_split_ands; assumption⟩

theorem walk (l : Int) (x : Nat) (w : World) (hx : x < 18446744073709551616) (hF : Flds w) :
    Calls Tryd.prog 4 #[.int .i64 l, .int .u64 x] w fun e w' => e = .returned (.bool true) ∧ Below w.heap.size w w' := by
  cases hl : isLv l
  · exact walk_lv l x hl w hF
  cases hg : goodD l x
  · exact walk_bad l x hx hl hg w hF
  rcases (good_right l x hl hg).2 with h | h
  · by_cases h0 : x = 0
    · exact walk_same l x hx hl hg (by rw [h.2.2, h0]) w hF
    · exact walk_inv l x hx hl hg h.1 h0 w hF
  · exact walk_same l x hx hl hg h.2 w hF

theorem met {W : World} (h : laidMet Tryd.prog Rows.descDecodesRow.laid W) : Flds W := by
  have h1 := pair_of_reads (g := 1) (by kernel_rfl) (by kernel_rfl) (Lib.laidMet.reads h (n := "portreeve/desc.outField") (d := Rows.laid_portreeve_desc_outField) (by simp [Rows.descDecodesRow]))
  have h2 := pair_of_reads (g := 2) (by kernel_rfl) (by kernel_rfl) (Lib.laidMet.reads h (n := "portreeve/desc.attrField") (d := Rows.laid_portreeve_desc_attrField) (by simp [Rows.descDecodesRow]))
  exact ⟨h1.1, h1.2, h2.1, h2.2⟩

theorem own : ownKnob Tryd.prog.godebug = none := by kernel_rfl
theorem laidOut : laidOutB Tryd.prog = true := by kernel_rfl

set_option linter.unusedVariables false in
set_option maxRecDepth 100000 in
theorem contract (H : Type) (enc : TypeId × Value → H) (W : World) (base : Nat) (args : Array Value) (ds gs : List (DataW H)) (before : List MemPlace)
    (hval0 : ∀ (j : Nat) t v, Tryd.f4.params[j]? = some t → args[j]? = some v → Value.okWide Tryd.prog W .any base t v)
    (hW : DataW.Whole enc Tryd.prog Tryd.f4.params.toList Rows.descDecodesSpec.vars false W args.toList ds gs before) (hL0 : laidMetH Tryd.prog Rows.descDecodesRow.laid W) :
    Calls Tryd.prog 4 args W fun e W' => ∃ v, e = .returned v ∧ Rows.descDecodesSpec.post enc Tryd.prog Tryd.f4 false true false false W args v W' := by
  have hL := hL0
  rw [MakeChecks.laidMetH_plain _ _ _ (by kernel_rfl)] at hL
  have hval := hval0
  have hW' := hW
  obtain ⟨p, q, hA0, hV, rfl, hfz, hnd⟩ := hW
  have hA : DataW.TrodAll enc Tryd.prog W 0 (fun _ => true) true Tryd.f4.params.toList args.toList ds p := hA0
  rw [Tryd.params4] at hA hval
  obtain ⟨v0, vs0, d0, ds0, p0, q0, hargs, rfl, rfl, h0, r0⟩ := trodAll_cons hA
  obtain ⟨v1, vs1, d1, ds1, p1, q1, rfl, rfl, rfl, h1, r1⟩ := trodAll_cons r0
  obtain ⟨rfl, rfl, rfl⟩ := trodAll_nil r1
  obtain rfl : args = #[v0, v1] := by cases args; simp_all
  obtain ⟨rfl, rfl⟩ := trodVars_none hV
  have k0 := h0
  have lt0 : ∀ x ∈ p0, x.block < W.heap.size := by obtain ⟨m, hm⟩ := k0; exact DataW.trod_lt m _ _ _ hm
  have k1 := h1
  have lt1 : ∀ x ∈ p1, x.block < W.heap.size := by obtain ⟨m, hm⟩ := k1; exact DataW.trod_lt m _ _ _ hm
  obtain ⟨a0, rfl, _, _, w0⟩ := open_int Tryd.underlying3 (hval 0 3 v0 rfl rfl) h0
  obtain ⟨a1, rfl, _, _, w1⟩ := open_int Tryd.underlying22 (hval 1 22 v1 rfl rfl) h1
  obtain ⟨x1, rfl⟩ := Int.eq_ofNat_of_zero_le (bounds_u64 w1).1
  have b1 : x1 < 18446744073709551616 := by have := (bounds_u64 w1).2; omega
  clear hA0 hval0
  refine (walk a0 x1 W b1 (met hL)).mono fun e W' ⟨he, bel⟩ => ?_
  subst he
  exact ⟨_, rfl, _, _, _, [], _, [], hW', trodAll_mk1 (shut_bool Tryd.underlying4 _), (trodAll_cons_mk (Below.trod laidOut (by kernel_rfl) (of_decide_eq_true (by kernel_rfl)) k0 bel lt0) (trodAll_cons_mk (Below.trod laidOut (by kernel_rfl) (of_decide_eq_true (by kernel_rfl)) k1 bel lt1) trodAll_mk0)), rfl, bel.frame _, fun h => by cases h⟩

theorem laid_met (os : Os) : laidMet Tryd.prog Rows.descDecodesRow.laid ((World.laidAll Tryd.prog os Rows.descDecodesRow.laid).forCall (fun _ _ => 0) ⟨#[], #[.int .i64 0, .int .u64 0], []⟩).memory :=
  laidMet_laidAll _ (by kernel_rfl) (by kernel_rfl)
theorem reads (os : Os) {H : Type} (enc : TypeId × Value → H) : ∃ places, DataW.whole enc Tryd.prog ((World.laidAll Tryd.prog os Rows.descDecodesRow.laid).forCall (fun _ _ => 0) ⟨#[], #[.int .i64 0, .int .u64 0], []⟩).memory Tryd.f4.params.toList Rows.descDecodesSpec.vars false (#[.int .i64 0, .int .u64 0] : Array Value).toList 8 = some ([.lit (.int .i64 0), .lit (.int .u64 0)], [], places) :=
  ⟨[], by kernel_rfl⟩

set_option maxRecDepth 100000 in
theorem lifted (os : Os) (started : os.Started) (H : Type) (enc : TypeId × Value → H) (F : Stop.Interp) :
    ReturnsInHanded {} Tryd.checked os 4 .any ((OpenSpec.ofChange Rows.descDecodesSpec).preRow enc Tryd.prog Tryd.f4 Rows.descDecodesRow.domain false Rows.descDecodesRow.laid) (((OpenSpec.ofChange Rows.descDecodesSpec).at F).post enc Tryd.prog Tryd.f4 false true false false) := by
  obtain ⟨places, hx⟩ := reads os enc
  refine returnsInHanded_of_row (C := Tryd.checked) (s := (OpenSpec.ofChange Rows.descDecodesSpec)) own started (by kernel_rfl) Tryd.func4
    (witness_row_at (enc := enc) (C := Tryd.checked) false (World.laidAll Tryd.prog os Rows.descDecodesRow.laid) #[.int .i64 0, .int .u64 0] (World.laidAll_os _ _ _) (by kernel_rfl) (by kernel_rfl) (by kernel_rfl)
      (OpenSpec.preRow_of_cond 8 hx (by kernel_rfl) (fun k hk => by cases hk) (by kernel_rfl) (laid_met os))) ?_
  intro W base args ds gs before hval hW _ _ _ hL _ _
  exact contract H enc W base args ds gs before hval hW hL

theorem said : Rows.DescDecodesSaid :=
  OpenClaim.holds_of_cond 4 Tryd.f4 rfl rfl rfl rfl rfl rfl rfl ⟨rfl, rfl, rfl, rfl, rfl⟩ rfl rfl rfl rfl rfl (by kernel_rfl) Tryd.func4 (by kernel_rfl)
    (of_decide_eq_true (by kernel_rfl)) (by unfold Func.isWrapper; first | (rw [if_pos (by decide +kernel)]; kernel_rfl) | (rw [if_neg (by decide +kernel)]; exact ⟨rfl, rfl⟩))
    (fun os started H enc _ F => by rw [OpenClaim.pre_eq_preRow]; exact lifted os started H enc F)

theorem plain (f : FuncId) (fn : Func) (hf : Tryd.pinned.checked.prog.funcNamed "portreeve/portreevelaw04.DescDecodes" = some f) (hfn : Tryd.pinned.checked.prog.funcs[f]? = some fn) :
    false = Tryd.pinned.checked.prog.looks [] ∧ ∀ (j : Nat) t, fn.params[j]? = some t → Tryd.pinned.checked.prog.wantsStandIn t = false := by
  obtain rfl : f = 4 := Option.some.inj ((show Tryd.prog.funcNamed "portreeve/portreevelaw04.DescDecodes" = some 4 by kernel_rfl).symm.trans hf) |>.symm
  obtain rfl : fn = Tryd.f4 := (Option.some.inj (Tryd.func4.symm.trans hfn)).symm
  refine ⟨by kernel_rfl, fun j t ht => ?_⟩
  rw [Tryd.params4] at ht
  have hm : t ∈ [3, 22] := by simpa using Array.mem_of_getElem? ht
  have hall : ([3, 22].all fun u => !Tryd.prog.wantsStandIn u) = true := by kernel_rfl
  exact (show Tryd.prog.wantsStandIn t = false by simpa using List.all_eq_true.1 hall t hm)

theorem card : Rows.DescDecodesCardSaid :=
  Claim7.holds_tied_plain_at .later [] _ _ _ _ said (fun _ h => by cases h) (by kernel_rfl) (fun _ h => by cases h) descDecodes_row_tie rfl ⟨rfl, rfl⟩ (by kernel_rfl) rfl plain (by kernel_rfl)

end Go.Proofs.YtoolmhkonhcfpaaDoor.descDecodes
