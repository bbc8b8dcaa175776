/- DescBases (P4.2): for every base, ASID and word the law returns true: they have a register just if the document says so, and it tells these; a word is a register just if it is that of what it tells. No condition beyond the row's own. -/
import Derived.Test.YtoolmhkonhcfpaaDoorDescAnchor
import Derived.Test.YtoolmhkonhcfpaaDoorDescFrame
import Derived.Test.YtoolmhkonhcfpaaDoorDescBase
namespace Go.Proofs.YtoolmhkonhcfpaaDoor.descBases
open Go.ChangeShapes Go.WideShapes Go.ChangeAt Go.RowKit Go.Lib

theorem down12 (x : Nat) (hx : x < 18446744073709551616) : downV x 12 = x / 4096 * 4096 := down_mid x 12 (by omega) hx
theorem al12 (x : Nat) : alignedB x 12 = decide (x % 4096 = 0) := aligned_mod x (k := 12) (by omega) (by omega)
theorem out12 (x : Nat) (hx : x < 18446744073709551616) : isOutB x 12 = decide (x < 281474976710656 ∧ x % 4096 = 0) := isOut_mod x 12 hx (by omega) (by omega)
theorem g012 (y : Nat) : getV 0 12 y = y % 4096 := by
  have h := getV_mod (l := 0) (n := 12) (by decide) y
  rw [show getV 0 12 y = getV ((0 : Nat) : Int) ((12 : Nat) : Int) y from rfl, h]; simp
theorem g568 (y : Nat) : getV 56 8 y = y / 72057594037927936 % 256 := getV_mod (l := 56) (n := 8) (by decide) y
theorem g488 (y : Nat) : getV 48 8 y = y / 281474976710656 % 256 := getV_mod (l := 48) (n := 8) (by decide) y
theorem g1236 (y : Nat) : getV 12 36 y = y / 4096 % 68719476736 := getV_mod (l := 12) (n := 36) (by decide) y
theorem cG (l n : Nat) (h : rightB (l : Int) (n : Int) = true) (y : Nat) (hy : y < 18446744073709551616) (w : World) :
    Calls Tryd.prog 17 #[.int .u64 y, .int .i64 l, .int .i64 n] w fun e w' => e = .returned (.int .u64 ((getV l n y : Nat) : Int)) ∧ Below w.heap.size w w' := by
  have c := refGet_any y l n hy (by have := right_nat h; omega) w
  rw [getV_eq h] at c
  exact c
theorem cDown (x : Nat) (hx : x < 18446744073709551616) (w : World) :
    Calls Tryd.prog 15 #[.int .u64 x, .int .i64 12] w fun e w' => e = .returned (.int .u64 ((downV x 12 : Nat) : Int)) ∧ Below w.heap.size w w' := by
  have c := refDown_any x 12 hx (by omega) w
  rw [refDown_eq x 12 12 hx (by omega)] at c
  exact c

set_option maxRecDepth 100000 in
set_option maxHeartbeats 4000000 in
theorem walkAa (x : Nat) (n : Int) (y : Nat) (hx : x < 18446744073709551616) (hy : y < 18446744073709551616) (hx2 : x % 4096 ≠ 0) (g0 : y % 4096 ≠ 0) (w : World) (hF : Flds w) (hS : Asid w) :
    Calls Tryd.prog 5 #[.int .u64 x, .int .i64 n, .int .u64 y] w fun e w' => e = .returned (.bool true) ∧ Below w.heap.size w w' := by
  have cA := fun w1 h => anchor_any w1 h
  have hB : Below w.heap.size w w := Below.refl _ _
  have cB := fun w1 => base_align x n hx (by rw [al12]; exact decide_eq_false hx2) w1
  have dn : downV x 12 ≠ x := by rw [down12 x hx]; omega
  have dz : ((downV x 12 : Int) != (x : Int)) = true := by rw [bne_iff_ne]; omega
  have cD := fun w1 => cDown x hx w1
  generalize downV x 12 = D at *
  clear hx2 dn
  have hR : restR y ≠ 0 := by rw [restR_mod y hy]; omega
  have cY := fun w1 h1 h2 => readBase_bad y hy hR w1 h1 h2
  have z0 : getV 0 12 y ≠ 0 := by rw [g012]; exact g0
  have z1 : ((getV 0 12 y : Int) != 0) = true := by rw [bne_iff_ne]; omega
  have c0 := fun w1 => cG 0 12 (by decide) y hy w1
  change ∀ w1, Calls _ _ #[_, .int .i64 0, .int .i64 12] _ _ at c0
  change ∀ w1, Calls _ _ _ _ (fun e w' => e = .returned (.int .u64 ((getV 0 12 y : Nat) : Int)) ∧ _) at c0
  generalize getV 0 12 y = G0 at *
  clear hR g0 z0
  go_enter Tryd.func5, Tryd.ntmps5
  go_wp2_with fail
  refine (cA _ hF).mono ?_
  rintro e w1 ⟨rfl, hbm⟩
  replace hF := hF.later hbm
  replace hS := hS.later hbm
  replace hB := below_tr hB hbm
  clear hbm cA
  go_wp2_with fail
  refine (cB _).mono ?_
  rintro e w1 ⟨rfl, rfl⟩
  go_wp2_with fail
  refine (cD _).mono ?_
  rintro e w1 ⟨rfl, hbm⟩
  replace hF := hF.later hbm
  replace hS := hS.later hbm
  replace hB := below_tr hB hbm
  clear hbm cD
  go_wp2_with fail
  refine (cY _ hF hS).mono ?_
  rintro e w1 ⟨rfl, hbm⟩
  replace hF := hF.later hbm
  replace hS := hS.later hbm
  replace hB := below_tr hB hbm
  clear hbm cY
  go_wp2_with fail
  refine (c0 _).mono ?_
  rintro e w1 ⟨rfl, hbm⟩
  replace hF := hF.later hbm
  replace hS := hS.later hbm
  replace hB := below_tr hB hbm
  clear hbm c0
  go_wp2
  go_ret
  exact ⟨by first | rfl | (refine congrArg _ (congrArg _ ?_); simp), hB⟩

set_option maxRecDepth 100000 in
set_option maxHeartbeats 4000000 in
theorem walkAb (x : Nat) (n : Int) (y : Nat) (hx : x < 18446744073709551616) (hy : y < 18446744073709551616) (hx2 : x % 4096 ≠ 0) (g0 : y % 4096 = 0) (g1 : y / 72057594037927936 ≠ 0) (w : World) (hF : Flds w) (hS : Asid w) :
    Calls Tryd.prog 5 #[.int .u64 x, .int .i64 n, .int .u64 y] w fun e w' => e = .returned (.bool true) ∧ Below w.heap.size w w' := by
  have cA := fun w1 h => anchor_any w1 h
  have hB : Below w.heap.size w w := Below.refl _ _
  have cB := fun w1 => base_align x n hx (by rw [al12]; exact decide_eq_false hx2) w1
  have dn : downV x 12 ≠ x := by rw [down12 x hx]; omega
  have dz : ((downV x 12 : Int) != (x : Int)) = true := by rw [bne_iff_ne]; omega
  have cD := fun w1 => cDown x hx w1
  generalize downV x 12 = D at *
  clear hx2 dn
  have hR : restR y ≠ 0 := by rw [restR_mod y hy]; omega
  have cY := fun w1 h1 h2 => readBase_bad y hy hR w1 h1 h2
  have z0 : getV 0 12 y = 0 := by rw [g012]; exact g0
  have z2 : getV 56 8 y ≠ 0 := by rw [g568]; omega
  have z1 : ((getV 56 8 y : Int) != 0) = true := by rw [bne_iff_ne]; omega
  have c0 := fun w1 => cG 0 12 (by decide) y hy w1
  change ∀ w1, Calls _ _ #[_, .int .i64 0, .int .i64 12] _ _ at c0
  change ∀ w1, Calls _ _ _ _ (fun e w' => e = .returned (.int .u64 ((getV 0 12 y : Nat) : Int)) ∧ _) at c0
  have c1 := fun w1 => cG 56 8 (by decide) y hy w1
  change ∀ w1, Calls _ _ #[_, .int .i64 56, .int .i64 8] _ _ at c1
  change ∀ w1, Calls _ _ _ _ (fun e w' => e = .returned (.int .u64 ((getV 56 8 y : Nat) : Int)) ∧ _) at c1
  rw [z0] at c0
  generalize getV 56 8 y = G1 at *
  clear hR g0 g1 z0 z2
  go_enter Tryd.func5, Tryd.ntmps5
  go_wp2_with fail
  refine (cA _ hF).mono ?_
  rintro e w1 ⟨rfl, hbm⟩
  replace hF := hF.later hbm
  replace hS := hS.later hbm
  replace hB := below_tr hB hbm
  clear hbm cA
  go_wp2_with fail
  refine (cB _).mono ?_
  rintro e w1 ⟨rfl, rfl⟩
  go_wp2_with fail
  refine (cD _).mono ?_
  rintro e w1 ⟨rfl, hbm⟩
  replace hF := hF.later hbm
  replace hS := hS.later hbm
  replace hB := below_tr hB hbm
  clear hbm cD
  go_wp2_with fail
  refine (cY _ hF hS).mono ?_
  rintro e w1 ⟨rfl, hbm⟩
  replace hF := hF.later hbm
  replace hS := hS.later hbm
  replace hB := below_tr hB hbm
  clear hbm cY
  go_wp2_with fail
  refine (c0 _).mono ?_
  rintro e w1 ⟨rfl, hbm⟩
  replace hF := hF.later hbm
  replace hS := hS.later hbm
  replace hB := below_tr hB hbm
  clear hbm c0
  go_wp2_with fail
  refine (c1 _).mono ?_
  rintro e w1 ⟨rfl, hbm⟩
  replace hF := hF.later hbm
  replace hS := hS.later hbm
  replace hB := below_tr hB hbm
  clear hbm c1
  go_wp2
  go_ret
  exact ⟨by first | rfl | (refine congrArg _ (congrArg _ ?_); simp), hB⟩

set_option maxRecDepth 100000 in
set_option maxHeartbeats 4000000 in
theorem walkAc (x : Nat) (n : Int) (y : Nat) (hx : x < 18446744073709551616) (hy : y < 18446744073709551616) (hx2 : x % 4096 ≠ 0) (g0 : y % 4096 = 0) (g1 : y / 72057594037927936 = 0) (w : World) (hF : Flds w) (hS : Asid w) :
    Calls Tryd.prog 5 #[.int .u64 x, .int .i64 n, .int .u64 y] w fun e w' => e = .returned (.bool true) ∧ Below w.heap.size w w' := by
  have cA := fun w1 h => anchor_any w1 h
  have hB : Below w.heap.size w w := Below.refl _ _
  have cB := fun w1 => base_align x n hx (by rw [al12]; exact decide_eq_false hx2) w1
  have dn : downV x 12 ≠ x := by rw [down12 x hx]; omega
  have dz : ((downV x 12 : Int) != (x : Int)) = true := by rw [bne_iff_ne]; omega
  have cD := fun w1 => cDown x hx w1
  generalize downV x 12 = D at *
  clear hx2 dn
  have hR : restR y = 0 := by rw [restR_mod y hy]; omega
  have cY := fun w1 h1 h2 => readBase_ok y hy hR w1 h1 h2
  have z0 : getV 0 12 y = 0 := by rw [g012]; exact g0
  have z1 : getV 56 8 y = 0 := by rw [g568]; omega
  have c0 := fun w1 => cG 0 12 (by decide) y hy w1
  change ∀ w1, Calls _ _ #[_, .int .i64 0, .int .i64 12] _ _ at c0
  change ∀ w1, Calls _ _ _ _ (fun e w' => e = .returned (.int .u64 ((getV 0 12 y : Nat) : Int)) ∧ _) at c0
  have c1 := fun w1 => cG 56 8 (by decide) y hy w1
  change ∀ w1, Calls _ _ #[_, .int .i64 56, .int .i64 8] _ _ at c1
  change ∀ w1, Calls _ _ _ _ (fun e w' => e = .returned (.int .u64 ((getV 56 8 y : Nat) : Int)) ∧ _) at c1
  have c2 := fun w1 => cG 12 36 (by decide) y hy w1
  change ∀ w1, Calls _ _ #[_, .int .i64 12, .int .i64 36] _ _ at c2
  change ∀ w1, Calls _ _ _ _ (fun e w' => e = .returned (.int .u64 ((getV 12 36 y : Nat) : Int)) ∧ _) at c2
  have c3 := fun w1 => cG 48 8 (by decide) y hy w1
  change ∀ w1, Calls _ _ #[_, .int .i64 48, .int .i64 8] _ _ at c3
  change ∀ w1, Calls _ _ _ _ (fun e w' => e = .returned (.int .u64 ((getV 48 8 y : Nat) : Int)) ∧ _) at c3
  have e2 : IntKind.u64.wrap (((getV 12 36 y : Nat) : Int) * 4096) = ((outV y : Nat) : Int) := by
    rw [IntKind.wrap_u64, outV_mod, g1236]; omega
  have e3 : IntKind.i64.wrap ((getV 48 8 y : Nat) : Int) = ((getV 48 8 y : Nat) : Int) := by
    rw [IntKind.wrap_i64, g488]; omega
  rw [z0] at c0
  rw [z1] at c1
  generalize outV y = O at *
  generalize getV 48 8 y = G3 at *
  generalize getV 12 36 y = G2 at *
  clear hR g0 g1 z0 z1
  go_enter Tryd.func5, Tryd.ntmps5
  go_wp2_with fail
  refine (cA _ hF).mono ?_
  rintro e w1 ⟨rfl, hbm⟩
  replace hF := hF.later hbm
  replace hS := hS.later hbm
  replace hB := below_tr hB hbm
  clear hbm cA
  go_wp2_with fail
  refine (cB _).mono ?_
  rintro e w1 ⟨rfl, rfl⟩
  go_wp2_with fail
  refine (cD _).mono ?_
  rintro e w1 ⟨rfl, hbm⟩
  replace hF := hF.later hbm
  replace hS := hS.later hbm
  replace hB := below_tr hB hbm
  clear hbm cD
  go_wp2_with fail
  refine (cY _ hF hS).mono ?_
  rintro e w1 ⟨rfl, hbm⟩
  replace hF := hF.later hbm
  replace hS := hS.later hbm
  replace hB := below_tr hB hbm
  clear hbm cY
  go_wp2_with fail
  refine (c0 _).mono ?_
  rintro e w1 ⟨rfl, hbm⟩
  replace hF := hF.later hbm
  replace hS := hS.later hbm
  replace hB := below_tr hB hbm
  clear hbm c0
  go_wp2_with fail
  refine (c1 _).mono ?_
  rintro e w1 ⟨rfl, hbm⟩
  replace hF := hF.later hbm
  replace hS := hS.later hbm
  replace hB := below_tr hB hbm
  clear hbm c1
  go_wp2_with fail
  refine (c2 _).mono ?_
  rintro e w1 ⟨rfl, hbm⟩
  replace hF := hF.later hbm
  replace hS := hS.later hbm
  replace hB := below_tr hB hbm
  clear hbm c2
  go_wp2_with fail
  refine (c3 _).mono ?_
  rintro e w1 ⟨rfl, hbm⟩
  replace hF := hF.later hbm
  replace hS := hS.later hbm
  replace hB := below_tr hB hbm
  clear hbm c3
  go_wp2
  go_ret
  exact ⟨by first | rfl | (refine congrArg _ (congrArg _ ?_); simp), hB⟩

set_option maxRecDepth 100000 in
set_option maxHeartbeats 4000000 in
theorem walkBa (x : Nat) (n : Int) (y : Nat) (hx : x < 18446744073709551616) (hy : y < 18446744073709551616) (hx2 : x % 4096 = 0) (h48 : 281474976710656 ≤ x) (g0 : y % 4096 ≠ 0) (w : World) (hF : Flds w) (hS : Asid w) :
    Calls Tryd.prog 5 #[.int .u64 x, .int .i64 n, .int .u64 y] w fun e w' => e = .returned (.bool true) ∧ Below w.heap.size w w' := by
  have cA := fun w1 h => anchor_any w1 h
  have hB : Below w.heap.size w w := Below.refl _ _
  have hal : alignedB x 12 = true := by rw [al12]; exact decide_eq_true hx2
  have cB := fun w1 h1 => base_range x n hx hal (Or.inl (by rw [out12 x hx]; exact decide_eq_false (by omega))) w1 h1
  have d48 : decide ((281474976710656 : Int) ≤ (x : Int)) = true := decide_eq_true (by omega)
  have f48 : (281474976710656 : Int) ≤ (x : Int) := by omega
  have dz : downV x 12 = x := by rw [down12 x hx]; omega
  have cD := fun w1 => cDown x hx w1
  rw [dz] at cD
  clear hx2 dz hal
  have hR : restR y ≠ 0 := by rw [restR_mod y hy]; omega
  have cY := fun w1 h1 h2 => readBase_bad y hy hR w1 h1 h2
  have z0 : getV 0 12 y ≠ 0 := by rw [g012]; exact g0
  have z1 : ((getV 0 12 y : Int) != 0) = true := by rw [bne_iff_ne]; omega
  have c0 := fun w1 => cG 0 12 (by decide) y hy w1
  change ∀ w1, Calls _ _ #[_, .int .i64 0, .int .i64 12] _ _ at c0
  change ∀ w1, Calls _ _ _ _ (fun e w' => e = .returned (.int .u64 ((getV 0 12 y : Nat) : Int)) ∧ _) at c0
  generalize getV 0 12 y = G0 at *
  clear hR g0 z0
  go_enter Tryd.func5, Tryd.ntmps5
  go_wp2_with fail
  refine (cA _ hF).mono ?_
  rintro e w1 ⟨rfl, hbm⟩
  replace hF := hF.later hbm
  replace hS := hS.later hbm
  replace hB := below_tr hB hbm
  clear hbm cA
  go_wp2_with fail
  refine (cB _ hF).mono ?_
  rintro e w1 ⟨rfl, hbm⟩
  replace hF := hF.later hbm
  replace hS := hS.later hbm
  replace hB := below_tr hB hbm
  clear hbm cB
  go_wp2_with fail
  refine (cD _).mono ?_
  rintro e w1 ⟨rfl, hbm⟩
  replace hF := hF.later hbm
  replace hS := hS.later hbm
  replace hB := below_tr hB hbm
  clear hbm cD
  go_wp2_with fail
  refine (cY _ hF hS).mono ?_
  rintro e w1 ⟨rfl, hbm⟩
  replace hF := hF.later hbm
  replace hS := hS.later hbm
  replace hB := below_tr hB hbm
  clear hbm cY
  go_wp2_with fail
  refine (c0 _).mono ?_
  rintro e w1 ⟨rfl, hbm⟩
  replace hF := hF.later hbm
  replace hS := hS.later hbm
  replace hB := below_tr hB hbm
  clear hbm c0
  go_wp2
  go_ret
  exact ⟨by first | rfl | (refine congrArg _ (congrArg _ ?_); simp), hB⟩

set_option maxRecDepth 100000 in
set_option maxHeartbeats 4000000 in
theorem walkBb (x : Nat) (n : Int) (y : Nat) (hx : x < 18446744073709551616) (hy : y < 18446744073709551616) (hx2 : x % 4096 = 0) (h48 : 281474976710656 ≤ x) (g0 : y % 4096 = 0) (g1 : y / 72057594037927936 ≠ 0) (w : World) (hF : Flds w) (hS : Asid w) :
    Calls Tryd.prog 5 #[.int .u64 x, .int .i64 n, .int .u64 y] w fun e w' => e = .returned (.bool true) ∧ Below w.heap.size w w' := by
  have cA := fun w1 h => anchor_any w1 h
  have hB : Below w.heap.size w w := Below.refl _ _
  have hal : alignedB x 12 = true := by rw [al12]; exact decide_eq_true hx2
  have cB := fun w1 h1 => base_range x n hx hal (Or.inl (by rw [out12 x hx]; exact decide_eq_false (by omega))) w1 h1
  have d48 : decide ((281474976710656 : Int) ≤ (x : Int)) = true := decide_eq_true (by omega)
  have f48 : (281474976710656 : Int) ≤ (x : Int) := by omega
  have dz : downV x 12 = x := by rw [down12 x hx]; omega
  have cD := fun w1 => cDown x hx w1
  rw [dz] at cD
  clear hx2 dz hal
  have hR : restR y ≠ 0 := by rw [restR_mod y hy]; omega
  have cY := fun w1 h1 h2 => readBase_bad y hy hR w1 h1 h2
  have z0 : getV 0 12 y = 0 := by rw [g012]; exact g0
  have z2 : getV 56 8 y ≠ 0 := by rw [g568]; omega
  have z1 : ((getV 56 8 y : Int) != 0) = true := by rw [bne_iff_ne]; omega
  have c0 := fun w1 => cG 0 12 (by decide) y hy w1
  change ∀ w1, Calls _ _ #[_, .int .i64 0, .int .i64 12] _ _ at c0
  change ∀ w1, Calls _ _ _ _ (fun e w' => e = .returned (.int .u64 ((getV 0 12 y : Nat) : Int)) ∧ _) at c0
  have c1 := fun w1 => cG 56 8 (by decide) y hy w1
  change ∀ w1, Calls _ _ #[_, .int .i64 56, .int .i64 8] _ _ at c1
  change ∀ w1, Calls _ _ _ _ (fun e w' => e = .returned (.int .u64 ((getV 56 8 y : Nat) : Int)) ∧ _) at c1
  rw [z0] at c0
  generalize getV 56 8 y = G1 at *
  clear hR g0 g1 z0 z2
  go_enter Tryd.func5, Tryd.ntmps5
  go_wp2_with fail
  refine (cA _ hF).mono ?_
  rintro e w1 ⟨rfl, hbm⟩
  replace hF := hF.later hbm
  replace hS := hS.later hbm
  replace hB := below_tr hB hbm
  clear hbm cA
  go_wp2_with fail
  refine (cB _ hF).mono ?_
  rintro e w1 ⟨rfl, hbm⟩
  replace hF := hF.later hbm
  replace hS := hS.later hbm
  replace hB := below_tr hB hbm
  clear hbm cB
  go_wp2_with fail
  refine (cD _).mono ?_
  rintro e w1 ⟨rfl, hbm⟩
  replace hF := hF.later hbm
  replace hS := hS.later hbm
  replace hB := below_tr hB hbm
  clear hbm cD
  go_wp2_with fail
  refine (cY _ hF hS).mono ?_
  rintro e w1 ⟨rfl, hbm⟩
  replace hF := hF.later hbm
  replace hS := hS.later hbm
  replace hB := below_tr hB hbm
  clear hbm cY
  go_wp2_with fail
  refine (c0 _).mono ?_
  rintro e w1 ⟨rfl, hbm⟩
  replace hF := hF.later hbm
  replace hS := hS.later hbm
  replace hB := below_tr hB hbm
  clear hbm c0
  go_wp2_with fail
  refine (c1 _).mono ?_
  rintro e w1 ⟨rfl, hbm⟩
  replace hF := hF.later hbm
  replace hS := hS.later hbm
  replace hB := below_tr hB hbm
  clear hbm c1
  go_wp2
  go_ret
  exact ⟨by first | rfl | (refine congrArg _ (congrArg _ ?_); simp), hB⟩

set_option maxRecDepth 100000 in
set_option maxHeartbeats 4000000 in
theorem walkBc (x : Nat) (n : Int) (y : Nat) (hx : x < 18446744073709551616) (hy : y < 18446744073709551616) (hx2 : x % 4096 = 0) (h48 : 281474976710656 ≤ x) (g0 : y % 4096 = 0) (g1 : y / 72057594037927936 = 0) (w : World) (hF : Flds w) (hS : Asid w) :
    Calls Tryd.prog 5 #[.int .u64 x, .int .i64 n, .int .u64 y] w fun e w' => e = .returned (.bool true) ∧ Below w.heap.size w w' := by
  have cA := fun w1 h => anchor_any w1 h
  have hB : Below w.heap.size w w := Below.refl _ _
  have hal : alignedB x 12 = true := by rw [al12]; exact decide_eq_true hx2
  have cB := fun w1 h1 => base_range x n hx hal (Or.inl (by rw [out12 x hx]; exact decide_eq_false (by omega))) w1 h1
  have d48 : decide ((281474976710656 : Int) ≤ (x : Int)) = true := decide_eq_true (by omega)
  have f48 : (281474976710656 : Int) ≤ (x : Int) := by omega
  have dz : downV x 12 = x := by rw [down12 x hx]; omega
  have cD := fun w1 => cDown x hx w1
  rw [dz] at cD
  clear hx2 dz hal
  have hR : restR y = 0 := by rw [restR_mod y hy]; omega
  have cY := fun w1 h1 h2 => readBase_ok y hy hR w1 h1 h2
  have z0 : getV 0 12 y = 0 := by rw [g012]; exact g0
  have z1 : getV 56 8 y = 0 := by rw [g568]; omega
  have c0 := fun w1 => cG 0 12 (by decide) y hy w1
  change ∀ w1, Calls _ _ #[_, .int .i64 0, .int .i64 12] _ _ at c0
  change ∀ w1, Calls _ _ _ _ (fun e w' => e = .returned (.int .u64 ((getV 0 12 y : Nat) : Int)) ∧ _) at c0
  have c1 := fun w1 => cG 56 8 (by decide) y hy w1
  change ∀ w1, Calls _ _ #[_, .int .i64 56, .int .i64 8] _ _ at c1
  change ∀ w1, Calls _ _ _ _ (fun e w' => e = .returned (.int .u64 ((getV 56 8 y : Nat) : Int)) ∧ _) at c1
  have c2 := fun w1 => cG 12 36 (by decide) y hy w1
  change ∀ w1, Calls _ _ #[_, .int .i64 12, .int .i64 36] _ _ at c2
  change ∀ w1, Calls _ _ _ _ (fun e w' => e = .returned (.int .u64 ((getV 12 36 y : Nat) : Int)) ∧ _) at c2
  have c3 := fun w1 => cG 48 8 (by decide) y hy w1
  change ∀ w1, Calls _ _ #[_, .int .i64 48, .int .i64 8] _ _ at c3
  change ∀ w1, Calls _ _ _ _ (fun e w' => e = .returned (.int .u64 ((getV 48 8 y : Nat) : Int)) ∧ _) at c3
  have e2 : IntKind.u64.wrap (((getV 12 36 y : Nat) : Int) * 4096) = ((outV y : Nat) : Int) := by
    rw [IntKind.wrap_u64, outV_mod, g1236]; omega
  have e3 : IntKind.i64.wrap ((getV 48 8 y : Nat) : Int) = ((getV 48 8 y : Nat) : Int) := by
    rw [IntKind.wrap_i64, g488]; omega
  rw [z0] at c0
  rw [z1] at c1
  generalize outV y = O at *
  generalize getV 48 8 y = G3 at *
  generalize getV 12 36 y = G2 at *
  clear hR g0 g1 z0 z1
  go_enter Tryd.func5, Tryd.ntmps5
  go_wp2_with fail
  refine (cA _ hF).mono ?_
  rintro e w1 ⟨rfl, hbm⟩
  replace hF := hF.later hbm
  replace hS := hS.later hbm
  replace hB := below_tr hB hbm
  clear hbm cA
  go_wp2_with fail
  refine (cB _ hF).mono ?_
  rintro e w1 ⟨rfl, hbm⟩
  replace hF := hF.later hbm
  replace hS := hS.later hbm
  replace hB := below_tr hB hbm
  clear hbm cB
  go_wp2_with fail
  refine (cD _).mono ?_
  rintro e w1 ⟨rfl, hbm⟩
  replace hF := hF.later hbm
  replace hS := hS.later hbm
  replace hB := below_tr hB hbm
  clear hbm cD
  go_wp2_with fail
  refine (cY _ hF hS).mono ?_
  rintro e w1 ⟨rfl, hbm⟩
  replace hF := hF.later hbm
  replace hS := hS.later hbm
  replace hB := below_tr hB hbm
  clear hbm cY
  go_wp2_with fail
  refine (c0 _).mono ?_
  rintro e w1 ⟨rfl, hbm⟩
  replace hF := hF.later hbm
  replace hS := hS.later hbm
  replace hB := below_tr hB hbm
  clear hbm c0
  go_wp2_with fail
  refine (c1 _).mono ?_
  rintro e w1 ⟨rfl, hbm⟩
  replace hF := hF.later hbm
  replace hS := hS.later hbm
  replace hB := below_tr hB hbm
  clear hbm c1
  go_wp2_with fail
  refine (c2 _).mono ?_
  rintro e w1 ⟨rfl, hbm⟩
  replace hF := hF.later hbm
  replace hS := hS.later hbm
  replace hB := below_tr hB hbm
  clear hbm c2
  go_wp2_with fail
  refine (c3 _).mono ?_
  rintro e w1 ⟨rfl, hbm⟩
  replace hF := hF.later hbm
  replace hS := hS.later hbm
  replace hB := below_tr hB hbm
  clear hbm c3
  go_wp2
  go_ret
  exact ⟨by first | rfl | (refine congrArg _ (congrArg _ ?_); simp), hB⟩

set_option maxRecDepth 100000 in
set_option maxHeartbeats 4000000 in
theorem walkCa (x : Nat) (n : Int) (y : Nat) (hx : x < 18446744073709551616) (hy : y < 18446744073709551616) (hx2 : x % 4096 = 0) (h48 : ¬ 281474976710656 ≤ x) (hn0 : n < 0) (g0 : y % 4096 ≠ 0) (w : World) (hF : Flds w) (hS : Asid w) :
    Calls Tryd.prog 5 #[.int .u64 x, .int .i64 n, .int .u64 y] w fun e w' => e = .returned (.bool true) ∧ Below w.heap.size w w' := by
  have cA := fun w1 h => anchor_any w1 h
  have hB : Below w.heap.size w w := Below.refl _ _
  have hal : alignedB x 12 = true := by rw [al12]; exact decide_eq_true hx2
  have cB := fun w1 h1 => base_range x n hx hal (Or.inr (Or.inl hn0)) w1 h1
  have d48 : decide ((281474976710656 : Int) ≤ (x : Int)) = false := decide_eq_false (by omega)
  have f48 : ¬ (281474976710656 : Int) ≤ (x : Int) := by omega
  have d0 : decide (n < 0) = true := decide_eq_true hn0
  have dz : downV x 12 = x := by rw [down12 x hx]; omega
  have cD := fun w1 => cDown x hx w1
  rw [dz] at cD
  clear hx2 dz hal
  have hR : restR y ≠ 0 := by rw [restR_mod y hy]; omega
  have cY := fun w1 h1 h2 => readBase_bad y hy hR w1 h1 h2
  have z0 : getV 0 12 y ≠ 0 := by rw [g012]; exact g0
  have z1 : ((getV 0 12 y : Int) != 0) = true := by rw [bne_iff_ne]; omega
  have c0 := fun w1 => cG 0 12 (by decide) y hy w1
  change ∀ w1, Calls _ _ #[_, .int .i64 0, .int .i64 12] _ _ at c0
  change ∀ w1, Calls _ _ _ _ (fun e w' => e = .returned (.int .u64 ((getV 0 12 y : Nat) : Int)) ∧ _) at c0
  generalize getV 0 12 y = G0 at *
  clear hR g0 z0
  go_enter Tryd.func5, Tryd.ntmps5
  go_wp2_with fail
  refine (cA _ hF).mono ?_
  rintro e w1 ⟨rfl, hbm⟩
  replace hF := hF.later hbm
  replace hS := hS.later hbm
  replace hB := below_tr hB hbm
  clear hbm cA
  go_wp2_with fail
  refine (cB _ hF).mono ?_
  rintro e w1 ⟨rfl, hbm⟩
  replace hF := hF.later hbm
  replace hS := hS.later hbm
  replace hB := below_tr hB hbm
  clear hbm cB
  go_wp2_with fail
  refine (cD _).mono ?_
  rintro e w1 ⟨rfl, hbm⟩
  replace hF := hF.later hbm
  replace hS := hS.later hbm
  replace hB := below_tr hB hbm
  clear hbm cD
  go_wp2_with fail
  refine (cY _ hF hS).mono ?_
  rintro e w1 ⟨rfl, hbm⟩
  replace hF := hF.later hbm
  replace hS := hS.later hbm
  replace hB := below_tr hB hbm
  clear hbm cY
  go_wp2_with fail
  refine (c0 _).mono ?_
  rintro e w1 ⟨rfl, hbm⟩
  replace hF := hF.later hbm
  replace hS := hS.later hbm
  replace hB := below_tr hB hbm
  clear hbm c0
  go_wp2
  go_ret
  exact ⟨by first | rfl | (refine congrArg _ (congrArg _ ?_); simp), hB⟩

set_option maxRecDepth 100000 in
set_option maxHeartbeats 4000000 in
theorem walkCb (x : Nat) (n : Int) (y : Nat) (hx : x < 18446744073709551616) (hy : y < 18446744073709551616) (hx2 : x % 4096 = 0) (h48 : ¬ 281474976710656 ≤ x) (hn0 : n < 0) (g0 : y % 4096 = 0) (g1 : y / 72057594037927936 ≠ 0) (w : World) (hF : Flds w) (hS : Asid w) :
    Calls Tryd.prog 5 #[.int .u64 x, .int .i64 n, .int .u64 y] w fun e w' => e = .returned (.bool true) ∧ Below w.heap.size w w' := by
  have cA := fun w1 h => anchor_any w1 h
  have hB : Below w.heap.size w w := Below.refl _ _
  have hal : alignedB x 12 = true := by rw [al12]; exact decide_eq_true hx2
  have cB := fun w1 h1 => base_range x n hx hal (Or.inr (Or.inl hn0)) w1 h1
  have d48 : decide ((281474976710656 : Int) ≤ (x : Int)) = false := decide_eq_false (by omega)
  have f48 : ¬ (281474976710656 : Int) ≤ (x : Int) := by omega
  have d0 : decide (n < 0) = true := decide_eq_true hn0
  have dz : downV x 12 = x := by rw [down12 x hx]; omega
  have cD := fun w1 => cDown x hx w1
  rw [dz] at cD
  clear hx2 dz hal
  have hR : restR y ≠ 0 := by rw [restR_mod y hy]; omega
  have cY := fun w1 h1 h2 => readBase_bad y hy hR w1 h1 h2
  have z0 : getV 0 12 y = 0 := by rw [g012]; exact g0
  have z2 : getV 56 8 y ≠ 0 := by rw [g568]; omega
  have z1 : ((getV 56 8 y : Int) != 0) = true := by rw [bne_iff_ne]; omega
  have c0 := fun w1 => cG 0 12 (by decide) y hy w1
  change ∀ w1, Calls _ _ #[_, .int .i64 0, .int .i64 12] _ _ at c0
  change ∀ w1, Calls _ _ _ _ (fun e w' => e = .returned (.int .u64 ((getV 0 12 y : Nat) : Int)) ∧ _) at c0
  have c1 := fun w1 => cG 56 8 (by decide) y hy w1
  change ∀ w1, Calls _ _ #[_, .int .i64 56, .int .i64 8] _ _ at c1
  change ∀ w1, Calls _ _ _ _ (fun e w' => e = .returned (.int .u64 ((getV 56 8 y : Nat) : Int)) ∧ _) at c1
  rw [z0] at c0
  generalize getV 56 8 y = G1 at *
  clear hR g0 g1 z0 z2
  go_enter Tryd.func5, Tryd.ntmps5
  go_wp2_with fail
  refine (cA _ hF).mono ?_
  rintro e w1 ⟨rfl, hbm⟩
  replace hF := hF.later hbm
  replace hS := hS.later hbm
  replace hB := below_tr hB hbm
  clear hbm cA
  go_wp2_with fail
  refine (cB _ hF).mono ?_
  rintro e w1 ⟨rfl, hbm⟩
  replace hF := hF.later hbm
  replace hS := hS.later hbm
  replace hB := below_tr hB hbm
  clear hbm cB
  go_wp2_with fail
  refine (cD _).mono ?_
  rintro e w1 ⟨rfl, hbm⟩
  replace hF := hF.later hbm
  replace hS := hS.later hbm
  replace hB := below_tr hB hbm
  clear hbm cD
  go_wp2_with fail
  refine (cY _ hF hS).mono ?_
  rintro e w1 ⟨rfl, hbm⟩
  replace hF := hF.later hbm
  replace hS := hS.later hbm
  replace hB := below_tr hB hbm
  clear hbm cY
  go_wp2_with fail
  refine (c0 _).mono ?_
  rintro e w1 ⟨rfl, hbm⟩
  replace hF := hF.later hbm
  replace hS := hS.later hbm
  replace hB := below_tr hB hbm
  clear hbm c0
  go_wp2_with fail
  refine (c1 _).mono ?_
  rintro e w1 ⟨rfl, hbm⟩
  replace hF := hF.later hbm
  replace hS := hS.later hbm
  replace hB := below_tr hB hbm
  clear hbm c1
  go_wp2
  go_ret
  exact ⟨by first | rfl | (refine congrArg _ (congrArg _ ?_); simp), hB⟩

set_option maxRecDepth 100000 in
set_option maxHeartbeats 4000000 in
theorem walkCc (x : Nat) (n : Int) (y : Nat) (hx : x < 18446744073709551616) (hy : y < 18446744073709551616) (hx2 : x % 4096 = 0) (h48 : ¬ 281474976710656 ≤ x) (hn0 : n < 0) (g0 : y % 4096 = 0) (g1 : y / 72057594037927936 = 0) (w : World) (hF : Flds w) (hS : Asid w) :
    Calls Tryd.prog 5 #[.int .u64 x, .int .i64 n, .int .u64 y] w fun e w' => e = .returned (.bool true) ∧ Below w.heap.size w w' := by
  have cA := fun w1 h => anchor_any w1 h
  have hB : Below w.heap.size w w := Below.refl _ _
  have hal : alignedB x 12 = true := by rw [al12]; exact decide_eq_true hx2
  have cB := fun w1 h1 => base_range x n hx hal (Or.inr (Or.inl hn0)) w1 h1
  have d48 : decide ((281474976710656 : Int) ≤ (x : Int)) = false := decide_eq_false (by omega)
  have f48 : ¬ (281474976710656 : Int) ≤ (x : Int) := by omega
  have d0 : decide (n < 0) = true := decide_eq_true hn0
  have dz : downV x 12 = x := by rw [down12 x hx]; omega
  have cD := fun w1 => cDown x hx w1
  rw [dz] at cD
  clear hx2 dz hal
  have hR : restR y = 0 := by rw [restR_mod y hy]; omega
  have cY := fun w1 h1 h2 => readBase_ok y hy hR w1 h1 h2
  have z0 : getV 0 12 y = 0 := by rw [g012]; exact g0
  have z1 : getV 56 8 y = 0 := by rw [g568]; omega
  have c0 := fun w1 => cG 0 12 (by decide) y hy w1
  change ∀ w1, Calls _ _ #[_, .int .i64 0, .int .i64 12] _ _ at c0
  change ∀ w1, Calls _ _ _ _ (fun e w' => e = .returned (.int .u64 ((getV 0 12 y : Nat) : Int)) ∧ _) at c0
  have c1 := fun w1 => cG 56 8 (by decide) y hy w1
  change ∀ w1, Calls _ _ #[_, .int .i64 56, .int .i64 8] _ _ at c1
  change ∀ w1, Calls _ _ _ _ (fun e w' => e = .returned (.int .u64 ((getV 56 8 y : Nat) : Int)) ∧ _) at c1
  have c2 := fun w1 => cG 12 36 (by decide) y hy w1
  change ∀ w1, Calls _ _ #[_, .int .i64 12, .int .i64 36] _ _ at c2
  change ∀ w1, Calls _ _ _ _ (fun e w' => e = .returned (.int .u64 ((getV 12 36 y : Nat) : Int)) ∧ _) at c2
  have c3 := fun w1 => cG 48 8 (by decide) y hy w1
  change ∀ w1, Calls _ _ #[_, .int .i64 48, .int .i64 8] _ _ at c3
  change ∀ w1, Calls _ _ _ _ (fun e w' => e = .returned (.int .u64 ((getV 48 8 y : Nat) : Int)) ∧ _) at c3
  have e2 : IntKind.u64.wrap (((getV 12 36 y : Nat) : Int) * 4096) = ((outV y : Nat) : Int) := by
    rw [IntKind.wrap_u64, outV_mod, g1236]; omega
  have e3 : IntKind.i64.wrap ((getV 48 8 y : Nat) : Int) = ((getV 48 8 y : Nat) : Int) := by
    rw [IntKind.wrap_i64, g488]; omega
  rw [z0] at c0
  rw [z1] at c1
  generalize outV y = O at *
  generalize getV 48 8 y = G3 at *
  generalize getV 12 36 y = G2 at *
  clear hR g0 g1 z0 z1
  go_enter Tryd.func5, Tryd.ntmps5
  go_wp2_with fail
  refine (cA _ hF).mono ?_
  rintro e w1 ⟨rfl, hbm⟩
  replace hF := hF.later hbm
  replace hS := hS.later hbm
  replace hB := below_tr hB hbm
  clear hbm cA
  go_wp2_with fail
  refine (cB _ hF).mono ?_
  rintro e w1 ⟨rfl, hbm⟩
  replace hF := hF.later hbm
  replace hS := hS.later hbm
  replace hB := below_tr hB hbm
  clear hbm cB
  go_wp2_with fail
  refine (cD _).mono ?_
  rintro e w1 ⟨rfl, hbm⟩
  replace hF := hF.later hbm
  replace hS := hS.later hbm
  replace hB := below_tr hB hbm
  clear hbm cD
  go_wp2_with fail
  refine (cY _ hF hS).mono ?_
  rintro e w1 ⟨rfl, hbm⟩
  replace hF := hF.later hbm
  replace hS := hS.later hbm
  replace hB := below_tr hB hbm
  clear hbm cY
  go_wp2_with fail
  refine (c0 _).mono ?_
  rintro e w1 ⟨rfl, hbm⟩
  replace hF := hF.later hbm
  replace hS := hS.later hbm
  replace hB := below_tr hB hbm
  clear hbm c0
  go_wp2_with fail
  refine (c1 _).mono ?_
  rintro e w1 ⟨rfl, hbm⟩
  replace hF := hF.later hbm
  replace hS := hS.later hbm
  replace hB := below_tr hB hbm
  clear hbm c1
  go_wp2_with fail
  refine (c2 _).mono ?_
  rintro e w1 ⟨rfl, hbm⟩
  replace hF := hF.later hbm
  replace hS := hS.later hbm
  replace hB := below_tr hB hbm
  clear hbm c2
  go_wp2_with fail
  refine (c3 _).mono ?_
  rintro e w1 ⟨rfl, hbm⟩
  replace hF := hF.later hbm
  replace hS := hS.later hbm
  replace hB := below_tr hB hbm
  clear hbm c3
  go_wp2
  go_ret
  exact ⟨by first | rfl | (refine congrArg _ (congrArg _ ?_); simp), hB⟩

set_option maxRecDepth 100000 in
set_option maxHeartbeats 4000000 in
theorem walkDa (x : Nat) (n : Int) (y : Nat) (hx : x < 18446744073709551616) (hy : y < 18446744073709551616) (hx2 : x % 4096 = 0) (h48 : ¬ 281474976710656 ≤ x) (hn0 : ¬ n < 0) (hn1 : 255 < n) (g0 : y % 4096 ≠ 0) (w : World) (hF : Flds w) (hS : Asid w) :
    Calls Tryd.prog 5 #[.int .u64 x, .int .i64 n, .int .u64 y] w fun e w' => e = .returned (.bool true) ∧ Below w.heap.size w w' := by
  have cA := fun w1 h => anchor_any w1 h
  have hB : Below w.heap.size w w := Below.refl _ _
  have hal : alignedB x 12 = true := by rw [al12]; exact decide_eq_true hx2
  have cB := fun w1 h1 => base_range x n hx hal (Or.inr (Or.inr hn1)) w1 h1
  have d48 : decide ((281474976710656 : Int) ≤ (x : Int)) = false := decide_eq_false (by omega)
  have f48 : ¬ (281474976710656 : Int) ≤ (x : Int) := by omega
  have d0 : decide (n < 0) = false := decide_eq_false hn0
  have d1 : decide (255 < n) = true := decide_eq_true hn1
  have dz : downV x 12 = x := by rw [down12 x hx]; omega
  have cD := fun w1 => cDown x hx w1
  rw [dz] at cD
  clear hx2 dz hal
  have hR : restR y ≠ 0 := by rw [restR_mod y hy]; omega
  have cY := fun w1 h1 h2 => readBase_bad y hy hR w1 h1 h2
  have z0 : getV 0 12 y ≠ 0 := by rw [g012]; exact g0
  have z1 : ((getV 0 12 y : Int) != 0) = true := by rw [bne_iff_ne]; omega
  have c0 := fun w1 => cG 0 12 (by decide) y hy w1
  change ∀ w1, Calls _ _ #[_, .int .i64 0, .int .i64 12] _ _ at c0
  change ∀ w1, Calls _ _ _ _ (fun e w' => e = .returned (.int .u64 ((getV 0 12 y : Nat) : Int)) ∧ _) at c0
  generalize getV 0 12 y = G0 at *
  clear hR g0 z0
  go_enter Tryd.func5, Tryd.ntmps5
  go_wp2_with fail
  refine (cA _ hF).mono ?_
  rintro e w1 ⟨rfl, hbm⟩
  replace hF := hF.later hbm
  replace hS := hS.later hbm
  replace hB := below_tr hB hbm
  clear hbm cA
  go_wp2_with fail
  refine (cB _ hF).mono ?_
  rintro e w1 ⟨rfl, hbm⟩
  replace hF := hF.later hbm
  replace hS := hS.later hbm
  replace hB := below_tr hB hbm
  clear hbm cB
  go_wp2_with fail
  refine (cD _).mono ?_
  rintro e w1 ⟨rfl, hbm⟩
  replace hF := hF.later hbm
  replace hS := hS.later hbm
  replace hB := below_tr hB hbm
  clear hbm cD
  go_wp2_with fail
  refine (cY _ hF hS).mono ?_
  rintro e w1 ⟨rfl, hbm⟩
  replace hF := hF.later hbm
  replace hS := hS.later hbm
  replace hB := below_tr hB hbm
  clear hbm cY
  go_wp2_with fail
  refine (c0 _).mono ?_
  rintro e w1 ⟨rfl, hbm⟩
  replace hF := hF.later hbm
  replace hS := hS.later hbm
  replace hB := below_tr hB hbm
  clear hbm c0
  go_wp2
  go_ret
  exact ⟨by first | rfl | (refine congrArg _ (congrArg _ ?_); simp), hB⟩

set_option maxRecDepth 100000 in
set_option maxHeartbeats 4000000 in
theorem walkDb (x : Nat) (n : Int) (y : Nat) (hx : x < 18446744073709551616) (hy : y < 18446744073709551616) (hx2 : x % 4096 = 0) (h48 : ¬ 281474976710656 ≤ x) (hn0 : ¬ n < 0) (hn1 : 255 < n) (g0 : y % 4096 = 0) (g1 : y / 72057594037927936 ≠ 0) (w : World) (hF : Flds w) (hS : Asid w) :
    Calls Tryd.prog 5 #[.int .u64 x, .int .i64 n, .int .u64 y] w fun e w' => e = .returned (.bool true) ∧ Below w.heap.size w w' := by
  have cA := fun w1 h => anchor_any w1 h
  have hB : Below w.heap.size w w := Below.refl _ _
  have hal : alignedB x 12 = true := by rw [al12]; exact decide_eq_true hx2
  have cB := fun w1 h1 => base_range x n hx hal (Or.inr (Or.inr hn1)) w1 h1
  have d48 : decide ((281474976710656 : Int) ≤ (x : Int)) = false := decide_eq_false (by omega)
  have f48 : ¬ (281474976710656 : Int) ≤ (x : Int) := by omega
  have d0 : decide (n < 0) = false := decide_eq_false hn0
  have d1 : decide (255 < n) = true := decide_eq_true hn1
  have dz : downV x 12 = x := by rw [down12 x hx]; omega
  have cD := fun w1 => cDown x hx w1
  rw [dz] at cD
  clear hx2 dz hal
  have hR : restR y ≠ 0 := by rw [restR_mod y hy]; omega
  have cY := fun w1 h1 h2 => readBase_bad y hy hR w1 h1 h2
  have z0 : getV 0 12 y = 0 := by rw [g012]; exact g0
  have z2 : getV 56 8 y ≠ 0 := by rw [g568]; omega
  have z1 : ((getV 56 8 y : Int) != 0) = true := by rw [bne_iff_ne]; omega
  have c0 := fun w1 => cG 0 12 (by decide) y hy w1
  change ∀ w1, Calls _ _ #[_, .int .i64 0, .int .i64 12] _ _ at c0
  change ∀ w1, Calls _ _ _ _ (fun e w' => e = .returned (.int .u64 ((getV 0 12 y : Nat) : Int)) ∧ _) at c0
  have c1 := fun w1 => cG 56 8 (by decide) y hy w1
  change ∀ w1, Calls _ _ #[_, .int .i64 56, .int .i64 8] _ _ at c1
  change ∀ w1, Calls _ _ _ _ (fun e w' => e = .returned (.int .u64 ((getV 56 8 y : Nat) : Int)) ∧ _) at c1
  rw [z0] at c0
  generalize getV 56 8 y = G1 at *
  clear hR g0 g1 z0 z2
  go_enter Tryd.func5, Tryd.ntmps5
  go_wp2_with fail
  refine (cA _ hF).mono ?_
  rintro e w1 ⟨rfl, hbm⟩
  replace hF := hF.later hbm
  replace hS := hS.later hbm
  replace hB := below_tr hB hbm
  clear hbm cA
  go_wp2_with fail
  refine (cB _ hF).mono ?_
  rintro e w1 ⟨rfl, hbm⟩
  replace hF := hF.later hbm
  replace hS := hS.later hbm
  replace hB := below_tr hB hbm
  clear hbm cB
  go_wp2_with fail
  refine (cD _).mono ?_
  rintro e w1 ⟨rfl, hbm⟩
  replace hF := hF.later hbm
  replace hS := hS.later hbm
  replace hB := below_tr hB hbm
  clear hbm cD
  go_wp2_with fail
  refine (cY _ hF hS).mono ?_
  rintro e w1 ⟨rfl, hbm⟩
  replace hF := hF.later hbm
  replace hS := hS.later hbm
  replace hB := below_tr hB hbm
  clear hbm cY
  go_wp2_with fail
  refine (c0 _).mono ?_
  rintro e w1 ⟨rfl, hbm⟩
  replace hF := hF.later hbm
  replace hS := hS.later hbm
  replace hB := below_tr hB hbm
  clear hbm c0
  go_wp2_with fail
  refine (c1 _).mono ?_
  rintro e w1 ⟨rfl, hbm⟩
  replace hF := hF.later hbm
  replace hS := hS.later hbm
  replace hB := below_tr hB hbm
  clear hbm c1
  go_wp2
  go_ret
  exact ⟨by first | rfl | (refine congrArg _ (congrArg _ ?_); simp), hB⟩

set_option maxRecDepth 100000 in
set_option maxHeartbeats 4000000 in
theorem walkDc (x : Nat) (n : Int) (y : Nat) (hx : x < 18446744073709551616) (hy : y < 18446744073709551616) (hx2 : x % 4096 = 0) (h48 : ¬ 281474976710656 ≤ x) (hn0 : ¬ n < 0) (hn1 : 255 < n) (g0 : y % 4096 = 0) (g1 : y / 72057594037927936 = 0) (w : World) (hF : Flds w) (hS : Asid w) :
    Calls Tryd.prog 5 #[.int .u64 x, .int .i64 n, .int .u64 y] w fun e w' => e = .returned (.bool true) ∧ Below w.heap.size w w' := by
  have cA := fun w1 h => anchor_any w1 h
  have hB : Below w.heap.size w w := Below.refl _ _
  have hal : alignedB x 12 = true := by rw [al12]; exact decide_eq_true hx2
  have cB := fun w1 h1 => base_range x n hx hal (Or.inr (Or.inr hn1)) w1 h1
  have d48 : decide ((281474976710656 : Int) ≤ (x : Int)) = false := decide_eq_false (by omega)
  have f48 : ¬ (281474976710656 : Int) ≤ (x : Int) := by omega
  have d0 : decide (n < 0) = false := decide_eq_false hn0
  have d1 : decide (255 < n) = true := decide_eq_true hn1
  have dz : downV x 12 = x := by rw [down12 x hx]; omega
  have cD := fun w1 => cDown x hx w1
  rw [dz] at cD
  clear hx2 dz hal
  have hR : restR y = 0 := by rw [restR_mod y hy]; omega
  have cY := fun w1 h1 h2 => readBase_ok y hy hR w1 h1 h2
  have z0 : getV 0 12 y = 0 := by rw [g012]; exact g0
  have z1 : getV 56 8 y = 0 := by rw [g568]; omega
  have c0 := fun w1 => cG 0 12 (by decide) y hy w1
  change ∀ w1, Calls _ _ #[_, .int .i64 0, .int .i64 12] _ _ at c0
  change ∀ w1, Calls _ _ _ _ (fun e w' => e = .returned (.int .u64 ((getV 0 12 y : Nat) : Int)) ∧ _) at c0
  have c1 := fun w1 => cG 56 8 (by decide) y hy w1
  change ∀ w1, Calls _ _ #[_, .int .i64 56, .int .i64 8] _ _ at c1
  change ∀ w1, Calls _ _ _ _ (fun e w' => e = .returned (.int .u64 ((getV 56 8 y : Nat) : Int)) ∧ _) at c1
  have c2 := fun w1 => cG 12 36 (by decide) y hy w1
  change ∀ w1, Calls _ _ #[_, .int .i64 12, .int .i64 36] _ _ at c2
  change ∀ w1, Calls _ _ _ _ (fun e w' => e = .returned (.int .u64 ((getV 12 36 y : Nat) : Int)) ∧ _) at c2
  have c3 := fun w1 => cG 48 8 (by decide) y hy w1
  change ∀ w1, Calls _ _ #[_, .int .i64 48, .int .i64 8] _ _ at c3
  change ∀ w1, Calls _ _ _ _ (fun e w' => e = .returned (.int .u64 ((getV 48 8 y : Nat) : Int)) ∧ _) at c3
  have e2 : IntKind.u64.wrap (((getV 12 36 y : Nat) : Int) * 4096) = ((outV y : Nat) : Int) := by
    rw [IntKind.wrap_u64, outV_mod, g1236]; omega
  have e3 : IntKind.i64.wrap ((getV 48 8 y : Nat) : Int) = ((getV 48 8 y : Nat) : Int) := by
    rw [IntKind.wrap_i64, g488]; omega
  rw [z0] at c0
  rw [z1] at c1
  generalize outV y = O at *
  generalize getV 48 8 y = G3 at *
  generalize getV 12 36 y = G2 at *
  clear hR g0 g1 z0 z1
  go_enter Tryd.func5, Tryd.ntmps5
  go_wp2_with fail
  refine (cA _ hF).mono ?_
  rintro e w1 ⟨rfl, hbm⟩
  replace hF := hF.later hbm
  replace hS := hS.later hbm
  replace hB := below_tr hB hbm
  clear hbm cA
  go_wp2_with fail
  refine (cB _ hF).mono ?_
  rintro e w1 ⟨rfl, hbm⟩
  replace hF := hF.later hbm
  replace hS := hS.later hbm
  replace hB := below_tr hB hbm
  clear hbm cB
  go_wp2_with fail
  refine (cD _).mono ?_
  rintro e w1 ⟨rfl, hbm⟩
  replace hF := hF.later hbm
  replace hS := hS.later hbm
  replace hB := below_tr hB hbm
  clear hbm cD
  go_wp2_with fail
  refine (cY _ hF hS).mono ?_
  rintro e w1 ⟨rfl, hbm⟩
  replace hF := hF.later hbm
  replace hS := hS.later hbm
  replace hB := below_tr hB hbm
  clear hbm cY
  go_wp2_with fail
  refine (c0 _).mono ?_
  rintro e w1 ⟨rfl, hbm⟩
  replace hF := hF.later hbm
  replace hS := hS.later hbm
  replace hB := below_tr hB hbm
  clear hbm c0
  go_wp2_with fail
  refine (c1 _).mono ?_
  rintro e w1 ⟨rfl, hbm⟩
  replace hF := hF.later hbm
  replace hS := hS.later hbm
  replace hB := below_tr hB hbm
  clear hbm c1
  go_wp2_with fail
  refine (c2 _).mono ?_
  rintro e w1 ⟨rfl, hbm⟩
  replace hF := hF.later hbm
  replace hS := hS.later hbm
  replace hB := below_tr hB hbm
  clear hbm c2
  go_wp2_with fail
  refine (c3 _).mono ?_
  rintro e w1 ⟨rfl, hbm⟩
  replace hF := hF.later hbm
  replace hS := hS.later hbm
  replace hB := below_tr hB hbm
  clear hbm c3
  go_wp2
  go_ret
  exact ⟨by first | rfl | (refine congrArg _ (congrArg _ ?_); simp), hB⟩

set_option maxRecDepth 100000 in
set_option maxHeartbeats 4000000 in
theorem walkEa (x : Nat) (n : Nat) (y : Nat) (hx : x < 18446744073709551616) (hy : y < 18446744073709551616) (hx2 : x % 4096 = 0) (h48 : ¬ 281474976710656 ≤ x) (hn : n ≤ 255) (g0 : y % 4096 ≠ 0) (w : World) (hF : Flds w) (hS : Asid w) :
    Calls Tryd.prog 5 #[.int .u64 x, .int .i64 (n : Int), .int .u64 y] w fun e w' => e = .returned (.bool true) ∧ Below w.heap.size w w' := by
  have cA := fun w1 h => anchor_any w1 h
  have hB : Below w.heap.size w w := Below.refl _ _
  have hal : alignedB x 12 = true := by rw [al12]; exact decide_eq_true hx2
  have cB := fun w1 h1 h2 => base_ok x n hx hal (by rw [out12 x hx]; exact decide_eq_true (by omega)) hn w1 h1 h2
  have d48 : decide ((281474976710656 : Int) ≤ (x : Int)) = false := decide_eq_false (by omega)
  have f48 : ¬ (281474976710656 : Int) ≤ (x : Int) := by omega
  have hn0 : ¬ (n : Int) < 0 := by omega
  have d0 : decide ((n : Int) < 0) = false := decide_eq_false hn0
  have hn1 : ¬ 255 < (n : Int) := by omega
  have hn2 : ¬ 255 < n := by omega
  have d1 : decide (255 < (n : Int)) = false := decide_eq_false hn1
  have dz : downV x 12 = x := by rw [down12 x hx]; omega
  have cD := fun w1 => cDown x hx w1
  rw [dz] at cD
  have hV : x + n * 281474976710656 < 18446744073709551616 := by omega
  have hR2 : restR (x + n * 281474976710656) = 0 := by rw [restR_mod _ hV]; omega
  have hO2 : outV (x + n * 281474976710656) = x := by rw [outV_mod]; omega
  have hG2 : getV 48 8 (x + n * 281474976710656) = n := by rw [g488]; omega
  have cX := fun w1 h1 h2 => readBase_ok (x + n * 281474976710656) hV hR2 w1 h1 h2
  rw [hO2, hG2] at cX
  have e0 : IntKind.u64.wrap (n : Int) = (n : Int) := by rw [IntKind.wrap_u64]; omega
  have e1 : IntKind.u64.wrap ((n : Int) * 281474976710656) = (n : Int) * 281474976710656 := by rw [IntKind.wrap_u64]; omega
  have eV : IntKind.u64.wrap ((x : Int) + (n : Int) * 281474976710656) = ((x + n * 281474976710656 : Nat) : Int) := by rw [IntKind.wrap_u64]; omega
  generalize x + n * 281474976710656 = V at *
  clear hx2 dz hal hR2 hO2 hG2 hV
  have hR : restR y ≠ 0 := by rw [restR_mod y hy]; omega
  have cY := fun w1 h1 h2 => readBase_bad y hy hR w1 h1 h2
  have z0 : getV 0 12 y ≠ 0 := by rw [g012]; exact g0
  have z1 : ((getV 0 12 y : Int) != 0) = true := by rw [bne_iff_ne]; omega
  have c0 := fun w1 => cG 0 12 (by decide) y hy w1
  change ∀ w1, Calls _ _ #[_, .int .i64 0, .int .i64 12] _ _ at c0
  change ∀ w1, Calls _ _ _ _ (fun e w' => e = .returned (.int .u64 ((getV 0 12 y : Nat) : Int)) ∧ _) at c0
  generalize getV 0 12 y = G0 at *
  clear hR g0 z0
  go_enter Tryd.func5, Tryd.ntmps5
  go_wp2_with fail
  refine (cA _ hF).mono ?_
  rintro e w1 ⟨rfl, hbm⟩
  replace hF := hF.later hbm
  replace hS := hS.later hbm
  replace hB := below_tr hB hbm
  clear hbm cA
  go_wp2_with fail
  refine (cB _ hF hS).mono ?_
  rintro e w1 ⟨rfl, hbm⟩
  replace hF := hF.later hbm
  replace hS := hS.later hbm
  replace hB := below_tr hB hbm
  clear hbm cB
  go_wp2_with fail
  refine (cD _).mono ?_
  rintro e w1 ⟨rfl, hbm⟩
  replace hF := hF.later hbm
  replace hS := hS.later hbm
  replace hB := below_tr hB hbm
  clear hbm cD
  go_wp2_with fail
  refine (cX _ hF hS).mono ?_
  rintro e w1 ⟨rfl, hbm⟩
  replace hF := hF.later hbm
  replace hS := hS.later hbm
  replace hB := below_tr hB hbm
  clear hbm cX
  go_wp2_with fail
  refine (cY _ hF hS).mono ?_
  rintro e w1 ⟨rfl, hbm⟩
  replace hF := hF.later hbm
  replace hS := hS.later hbm
  replace hB := below_tr hB hbm
  clear hbm cY
  go_wp2_with fail
  refine (c0 _).mono ?_
  rintro e w1 ⟨rfl, hbm⟩
  replace hF := hF.later hbm
  replace hS := hS.later hbm
  replace hB := below_tr hB hbm
  clear hbm c0
  go_wp2
  go_ret
  exact ⟨by first | rfl | (refine congrArg _ (congrArg _ ?_); simp), hB⟩

set_option maxRecDepth 100000 in
set_option maxHeartbeats 4000000 in
theorem walkEb (x : Nat) (n : Nat) (y : Nat) (hx : x < 18446744073709551616) (hy : y < 18446744073709551616) (hx2 : x % 4096 = 0) (h48 : ¬ 281474976710656 ≤ x) (hn : n ≤ 255) (g0 : y % 4096 = 0) (g1 : y / 72057594037927936 ≠ 0) (w : World) (hF : Flds w) (hS : Asid w) :
    Calls Tryd.prog 5 #[.int .u64 x, .int .i64 (n : Int), .int .u64 y] w fun e w' => e = .returned (.bool true) ∧ Below w.heap.size w w' := by
  have cA := fun w1 h => anchor_any w1 h
  have hB : Below w.heap.size w w := Below.refl _ _
  have hal : alignedB x 12 = true := by rw [al12]; exact decide_eq_true hx2
  have cB := fun w1 h1 h2 => base_ok x n hx hal (by rw [out12 x hx]; exact decide_eq_true (by omega)) hn w1 h1 h2
  have d48 : decide ((281474976710656 : Int) ≤ (x : Int)) = false := decide_eq_false (by omega)
  have f48 : ¬ (281474976710656 : Int) ≤ (x : Int) := by omega
  have hn0 : ¬ (n : Int) < 0 := by omega
  have d0 : decide ((n : Int) < 0) = false := decide_eq_false hn0
  have hn1 : ¬ 255 < (n : Int) := by omega
  have hn2 : ¬ 255 < n := by omega
  have d1 : decide (255 < (n : Int)) = false := decide_eq_false hn1
  have dz : downV x 12 = x := by rw [down12 x hx]; omega
  have cD := fun w1 => cDown x hx w1
  rw [dz] at cD
  have hV : x + n * 281474976710656 < 18446744073709551616 := by omega
  have hR2 : restR (x + n * 281474976710656) = 0 := by rw [restR_mod _ hV]; omega
  have hO2 : outV (x + n * 281474976710656) = x := by rw [outV_mod]; omega
  have hG2 : getV 48 8 (x + n * 281474976710656) = n := by rw [g488]; omega
  have cX := fun w1 h1 h2 => readBase_ok (x + n * 281474976710656) hV hR2 w1 h1 h2
  rw [hO2, hG2] at cX
  have e0 : IntKind.u64.wrap (n : Int) = (n : Int) := by rw [IntKind.wrap_u64]; omega
  have e1 : IntKind.u64.wrap ((n : Int) * 281474976710656) = (n : Int) * 281474976710656 := by rw [IntKind.wrap_u64]; omega
  have eV : IntKind.u64.wrap ((x : Int) + (n : Int) * 281474976710656) = ((x + n * 281474976710656 : Nat) : Int) := by rw [IntKind.wrap_u64]; omega
  generalize x + n * 281474976710656 = V at *
  clear hx2 dz hal hR2 hO2 hG2 hV
  have hR : restR y ≠ 0 := by rw [restR_mod y hy]; omega
  have cY := fun w1 h1 h2 => readBase_bad y hy hR w1 h1 h2
  have z0 : getV 0 12 y = 0 := by rw [g012]; exact g0
  have z2 : getV 56 8 y ≠ 0 := by rw [g568]; omega
  have z1 : ((getV 56 8 y : Int) != 0) = true := by rw [bne_iff_ne]; omega
  have c0 := fun w1 => cG 0 12 (by decide) y hy w1
  change ∀ w1, Calls _ _ #[_, .int .i64 0, .int .i64 12] _ _ at c0
  change ∀ w1, Calls _ _ _ _ (fun e w' => e = .returned (.int .u64 ((getV 0 12 y : Nat) : Int)) ∧ _) at c0
  have c1 := fun w1 => cG 56 8 (by decide) y hy w1
  change ∀ w1, Calls _ _ #[_, .int .i64 56, .int .i64 8] _ _ at c1
  change ∀ w1, Calls _ _ _ _ (fun e w' => e = .returned (.int .u64 ((getV 56 8 y : Nat) : Int)) ∧ _) at c1
  rw [z0] at c0
  generalize getV 56 8 y = G1 at *
  clear hR g0 g1 z0 z2
  go_enter Tryd.func5, Tryd.ntmps5
  go_wp2_with fail
  refine (cA _ hF).mono ?_
  rintro e w1 ⟨rfl, hbm⟩
  replace hF := hF.later hbm
  replace hS := hS.later hbm
  replace hB := below_tr hB hbm
  clear hbm cA
  go_wp2_with fail
  refine (cB _ hF hS).mono ?_
  rintro e w1 ⟨rfl, hbm⟩
  replace hF := hF.later hbm
  replace hS := hS.later hbm
  replace hB := below_tr hB hbm
  clear hbm cB
  go_wp2_with fail
  refine (cD _).mono ?_
  rintro e w1 ⟨rfl, hbm⟩
  replace hF := hF.later hbm
  replace hS := hS.later hbm
  replace hB := below_tr hB hbm
  clear hbm cD
  go_wp2_with fail
  refine (cX _ hF hS).mono ?_
  rintro e w1 ⟨rfl, hbm⟩
  replace hF := hF.later hbm
  replace hS := hS.later hbm
  replace hB := below_tr hB hbm
  clear hbm cX
  go_wp2_with fail
  refine (cY _ hF hS).mono ?_
  rintro e w1 ⟨rfl, hbm⟩
  replace hF := hF.later hbm
  replace hS := hS.later hbm
  replace hB := below_tr hB hbm
  clear hbm cY
  go_wp2_with fail
  refine (c0 _).mono ?_
  rintro e w1 ⟨rfl, hbm⟩
  replace hF := hF.later hbm
  replace hS := hS.later hbm
  replace hB := below_tr hB hbm
  clear hbm c0
  go_wp2_with fail
  refine (c1 _).mono ?_
  rintro e w1 ⟨rfl, hbm⟩
  replace hF := hF.later hbm
  replace hS := hS.later hbm
  replace hB := below_tr hB hbm
  clear hbm c1
  go_wp2
  go_ret
  exact ⟨by first | rfl | (refine congrArg _ (congrArg _ ?_); simp), hB⟩

set_option maxRecDepth 100000 in
set_option maxHeartbeats 4000000 in
theorem walkEc (x : Nat) (n : Nat) (y : Nat) (hx : x < 18446744073709551616) (hy : y < 18446744073709551616) (hx2 : x % 4096 = 0) (h48 : ¬ 281474976710656 ≤ x) (hn : n ≤ 255) (g0 : y % 4096 = 0) (g1 : y / 72057594037927936 = 0) (w : World) (hF : Flds w) (hS : Asid w) :
    Calls Tryd.prog 5 #[.int .u64 x, .int .i64 (n : Int), .int .u64 y] w fun e w' => e = .returned (.bool true) ∧ Below w.heap.size w w' := by
  have cA := fun w1 h => anchor_any w1 h
  have hB : Below w.heap.size w w := Below.refl _ _
  have hal : alignedB x 12 = true := by rw [al12]; exact decide_eq_true hx2
  have cB := fun w1 h1 h2 => base_ok x n hx hal (by rw [out12 x hx]; exact decide_eq_true (by omega)) hn w1 h1 h2
  have d48 : decide ((281474976710656 : Int) ≤ (x : Int)) = false := decide_eq_false (by omega)
  have f48 : ¬ (281474976710656 : Int) ≤ (x : Int) := by omega
  have hn0 : ¬ (n : Int) < 0 := by omega
  have d0 : decide ((n : Int) < 0) = false := decide_eq_false hn0
  have hn1 : ¬ 255 < (n : Int) := by omega
  have hn2 : ¬ 255 < n := by omega
  have d1 : decide (255 < (n : Int)) = false := decide_eq_false hn1
  have dz : downV x 12 = x := by rw [down12 x hx]; omega
  have cD := fun w1 => cDown x hx w1
  rw [dz] at cD
  have hV : x + n * 281474976710656 < 18446744073709551616 := by omega
  have hR2 : restR (x + n * 281474976710656) = 0 := by rw [restR_mod _ hV]; omega
  have hO2 : outV (x + n * 281474976710656) = x := by rw [outV_mod]; omega
  have hG2 : getV 48 8 (x + n * 281474976710656) = n := by rw [g488]; omega
  have cX := fun w1 h1 h2 => readBase_ok (x + n * 281474976710656) hV hR2 w1 h1 h2
  rw [hO2, hG2] at cX
  have e0 : IntKind.u64.wrap (n : Int) = (n : Int) := by rw [IntKind.wrap_u64]; omega
  have e1 : IntKind.u64.wrap ((n : Int) * 281474976710656) = (n : Int) * 281474976710656 := by rw [IntKind.wrap_u64]; omega
  have eV : IntKind.u64.wrap ((x : Int) + (n : Int) * 281474976710656) = ((x + n * 281474976710656 : Nat) : Int) := by rw [IntKind.wrap_u64]; omega
  generalize x + n * 281474976710656 = V at *
  clear hx2 dz hal hR2 hO2 hG2 hV
  have hR : restR y = 0 := by rw [restR_mod y hy]; omega
  have cY := fun w1 h1 h2 => readBase_ok y hy hR w1 h1 h2
  have z0 : getV 0 12 y = 0 := by rw [g012]; exact g0
  have z1 : getV 56 8 y = 0 := by rw [g568]; omega
  have c0 := fun w1 => cG 0 12 (by decide) y hy w1
  change ∀ w1, Calls _ _ #[_, .int .i64 0, .int .i64 12] _ _ at c0
  change ∀ w1, Calls _ _ _ _ (fun e w' => e = .returned (.int .u64 ((getV 0 12 y : Nat) : Int)) ∧ _) at c0
  have c1 := fun w1 => cG 56 8 (by decide) y hy w1
  change ∀ w1, Calls _ _ #[_, .int .i64 56, .int .i64 8] _ _ at c1
  change ∀ w1, Calls _ _ _ _ (fun e w' => e = .returned (.int .u64 ((getV 56 8 y : Nat) : Int)) ∧ _) at c1
  have c2 := fun w1 => cG 12 36 (by decide) y hy w1
  change ∀ w1, Calls _ _ #[_, .int .i64 12, .int .i64 36] _ _ at c2
  change ∀ w1, Calls _ _ _ _ (fun e w' => e = .returned (.int .u64 ((getV 12 36 y : Nat) : Int)) ∧ _) at c2
  have c3 := fun w1 => cG 48 8 (by decide) y hy w1
  change ∀ w1, Calls _ _ #[_, .int .i64 48, .int .i64 8] _ _ at c3
  change ∀ w1, Calls _ _ _ _ (fun e w' => e = .returned (.int .u64 ((getV 48 8 y : Nat) : Int)) ∧ _) at c3
  have e2 : IntKind.u64.wrap (((getV 12 36 y : Nat) : Int) * 4096) = ((outV y : Nat) : Int) := by
    rw [IntKind.wrap_u64, outV_mod, g1236]; omega
  have e3 : IntKind.i64.wrap ((getV 48 8 y : Nat) : Int) = ((getV 48 8 y : Nat) : Int) := by
    rw [IntKind.wrap_i64, g488]; omega
  rw [z0] at c0
  rw [z1] at c1
  generalize outV y = O at *
  generalize getV 48 8 y = G3 at *
  generalize getV 12 36 y = G2 at *
  clear hR g0 g1 z0 z1
  go_enter Tryd.func5, Tryd.ntmps5
  go_wp2_with fail
  refine (cA _ hF).mono ?_
  rintro e w1 ⟨rfl, hbm⟩
  replace hF := hF.later hbm
  replace hS := hS.later hbm
  replace hB := below_tr hB hbm
  clear hbm cA
  go_wp2_with fail
  refine (cB _ hF hS).mono ?_
  rintro e w1 ⟨rfl, hbm⟩
  replace hF := hF.later hbm
  replace hS := hS.later hbm
  replace hB := below_tr hB hbm
  clear hbm cB
  go_wp2_with fail
  refine (cD _).mono ?_
  rintro e w1 ⟨rfl, hbm⟩
  replace hF := hF.later hbm
  replace hS := hS.later hbm
  replace hB := below_tr hB hbm
  clear hbm cD
  go_wp2_with fail
  refine (cX _ hF hS).mono ?_
  rintro e w1 ⟨rfl, hbm⟩
  replace hF := hF.later hbm
  replace hS := hS.later hbm
  replace hB := below_tr hB hbm
  clear hbm cX
  go_wp2_with fail
  refine (cY _ hF hS).mono ?_
  rintro e w1 ⟨rfl, hbm⟩
  replace hF := hF.later hbm
  replace hS := hS.later hbm
  replace hB := below_tr hB hbm
  clear hbm cY
  go_wp2_with fail
  refine (c0 _).mono ?_
  rintro e w1 ⟨rfl, hbm⟩
  replace hF := hF.later hbm
  replace hS := hS.later hbm
  replace hB := below_tr hB hbm
  clear hbm c0
  go_wp2_with fail
  refine (c1 _).mono ?_
  rintro e w1 ⟨rfl, hbm⟩
  replace hF := hF.later hbm
  replace hS := hS.later hbm
  replace hB := below_tr hB hbm
  clear hbm c1
  go_wp2_with fail
  refine (c2 _).mono ?_
  rintro e w1 ⟨rfl, hbm⟩
  replace hF := hF.later hbm
  replace hS := hS.later hbm
  replace hB := below_tr hB hbm
  clear hbm c2
  go_wp2_with fail
  refine (c3 _).mono ?_
  rintro e w1 ⟨rfl, hbm⟩
  replace hF := hF.later hbm
  replace hS := hS.later hbm
  replace hB := below_tr hB hbm
  clear hbm c3
  go_wp2
  go_ret
  exact ⟨by first | rfl | (refine congrArg _ (congrArg _ ?_); simp), hB⟩

theorem walk (x : Nat) (n : Int) (y : Nat) (w : World) (hx : x < 18446744073709551616) (hy : y < 18446744073709551616) (h : Flds w ∧ Asid w) :
    Calls Tryd.prog 5 #[.int .u64 x, .int .i64 n, .int .u64 y] w fun e w' => e = .returned (.bool true) ∧ Below w.heap.size w w' := by
  obtain ⟨hF, hS⟩ := h
  by_cases g0 : y % 4096 = 0
  rotate_left
  · by_cases hx2 : x % 4096 = 0
    rotate_left
    · exact walkAa x n y hx hy hx2 g0 w hF hS
    by_cases h48 : 281474976710656 ≤ x
    · exact walkBa x n y hx hy hx2 h48 g0 w hF hS
    by_cases hn0 : n < 0
    · exact walkCa x n y hx hy hx2 h48 hn0 g0 w hF hS
    by_cases hn1 : 255 < n
    · exact walkDa x n y hx hy hx2 h48 hn0 hn1 g0 w hF hS
    obtain ⟨m, rfl⟩ := Int.eq_ofNat_of_zero_le (show 0 ≤ n by omega)
    exact walkEa x m y hx hy hx2 h48 (by omega) g0 w hF hS
  by_cases g1 : y / 72057594037927936 = 0
  · by_cases hx2 : x % 4096 = 0
    rotate_left
    · exact walkAc x n y hx hy hx2 g0 g1 w hF hS
    by_cases h48 : 281474976710656 ≤ x
    · exact walkBc x n y hx hy hx2 h48 g0 g1 w hF hS
    by_cases hn0 : n < 0
    · exact walkCc x n y hx hy hx2 h48 hn0 g0 g1 w hF hS
    by_cases hn1 : 255 < n
    · exact walkDc x n y hx hy hx2 h48 hn0 hn1 g0 g1 w hF hS
    obtain ⟨m, rfl⟩ := Int.eq_ofNat_of_zero_le (show 0 ≤ n by omega)
    exact walkEc x m y hx hy hx2 h48 (by omega) g0 g1 w hF hS
  · by_cases hx2 : x % 4096 = 0
    rotate_left
    · exact walkAb x n y hx hy hx2 g0 g1 w hF hS
    by_cases h48 : 281474976710656 ≤ x
    · exact walkBb x n y hx hy hx2 h48 g0 g1 w hF hS
    by_cases hn0 : n < 0
    · exact walkCb x n y hx hy hx2 h48 hn0 g0 g1 w hF hS
    by_cases hn1 : 255 < n
    · exact walkDb x n y hx hy hx2 h48 hn0 hn1 g0 g1 w hF hS
    obtain ⟨m, rfl⟩ := Int.eq_ofNat_of_zero_le (show 0 ≤ n by omega)
    exact walkEb x m y hx hy hx2 h48 (by omega) g0 g1 w hF hS

theorem met {W : World} (h : laidMet Tryd.prog Rows.descBasesRow.laid W) : Flds W ∧ Asid W := by
  have h1 := pair_of_reads (g := 1) (by kernel_rfl) (by kernel_rfl) (Lib.laidMet.reads h (n := "portreeve/desc.outField") (d := Rows.laid_portreeve_desc_outField) (by simp [Rows.descBasesRow]))
  have h2 := pair_of_reads (g := 2) (by kernel_rfl) (by kernel_rfl) (Lib.laidMet.reads h (n := "portreeve/desc.attrField") (d := Rows.laid_portreeve_desc_attrField) (by simp [Rows.descBasesRow]))
  have h3 := pair_of_reads (g := 0) (by kernel_rfl) (by kernel_rfl) (Lib.laidMet.reads h (n := "portreeve/desc.asidField") (d := Rows.laid_portreeve_desc_asidField) (by simp [Rows.descBasesRow]))
  exact ⟨⟨h1.1, h1.2, h2.1, h2.2⟩, h3.1, h3.2⟩

theorem own : ownKnob Tryd.prog.godebug = none := by kernel_rfl
theorem laidOut : laidOutB Tryd.prog = true := by kernel_rfl

set_option linter.unusedVariables false in
set_option maxRecDepth 100000 in
theorem contract (H : Type) (enc : TypeId × Value → H) (W : World) (base : Nat) (args : Array Value) (ds gs : List (DataW H)) (before : List MemPlace)
    (hval0 : ∀ (j : Nat) t v, Tryd.f5.params[j]? = some t → args[j]? = some v → Value.okWide Tryd.prog W .any base t v)
    (hW : DataW.Whole enc Tryd.prog Tryd.f5.params.toList Rows.descBasesSpec.vars false W args.toList ds gs before) (hL0 : laidMetH Tryd.prog Rows.descBasesRow.laid W) :
    Calls Tryd.prog 5 args W fun e W' => ∃ v, e = .returned v ∧ Rows.descBasesSpec.post enc Tryd.prog Tryd.f5 false true false false W args v W' := by
  have hL := hL0
  rw [MakeChecks.laidMetH_plain _ _ _ (by kernel_rfl)] at hL
  have hval := hval0
  have hW' := hW
  obtain ⟨p, q, hA0, hV, rfl, hfz, hnd⟩ := hW
  have hA : DataW.TrodAll enc Tryd.prog W 0 (fun _ => true) true Tryd.f5.params.toList args.toList ds p := hA0
  rw [Tryd.params5] at hA hval
  obtain ⟨v0, vs0, d0, ds0, p0, q0, hargs, rfl, rfl, h0, r0⟩ := trodAll_cons hA
  obtain ⟨v1, vs1, d1, ds1, p1, q1, rfl, rfl, rfl, h1, r1⟩ := trodAll_cons r0
  obtain ⟨v2, vs2, d2, ds2, p2, q2, rfl, rfl, rfl, h2, r2⟩ := trodAll_cons r1
  obtain ⟨rfl, rfl, rfl⟩ := trodAll_nil r2
  obtain rfl : args = #[v0, v1, v2] := by cases args; simp_all
  obtain ⟨rfl, rfl⟩ := trodVars_none hV
  have k0 := h0
  have lt0 : ∀ x ∈ p0, x.block < W.heap.size := by obtain ⟨m, hm⟩ := k0; exact DataW.trod_lt m _ _ _ hm
  have k1 := h1
  have lt1 : ∀ x ∈ p1, x.block < W.heap.size := by obtain ⟨m, hm⟩ := k1; exact DataW.trod_lt m _ _ _ hm
  have k2 := h2
  have lt2 : ∀ x ∈ p2, x.block < W.heap.size := by obtain ⟨m, hm⟩ := k2; exact DataW.trod_lt m _ _ _ hm
  obtain ⟨a0, rfl, _, _, w0⟩ := open_int Tryd.underlying22 (hval 0 22 v0 rfl rfl) h0
  obtain ⟨x0, rfl⟩ := Int.eq_ofNat_of_zero_le (bounds_u64 w0).1
  have b0 : x0 < 18446744073709551616 := by have := (bounds_u64 w0).2; omega
  obtain ⟨a1, rfl, _, _, w1⟩ := open_int Tryd.underlying3 (hval 1 3 v1 rfl rfl) h1
  obtain ⟨a2, rfl, _, _, w2⟩ := open_int Tryd.underlying22 (hval 2 22 v2 rfl rfl) h2
  obtain ⟨x2, rfl⟩ := Int.eq_ofNat_of_zero_le (bounds_u64 w2).1
  have b2 : x2 < 18446744073709551616 := by have := (bounds_u64 w2).2; omega
  clear hA0 hval0
  refine (walk x0 a1 x2 W b0 b2 (met hL)).mono fun e W' ⟨he, bel⟩ => ?_
  subst he
  exact ⟨_, rfl, _, _, _, [], _, [], hW', trodAll_mk1 (shut_bool Tryd.underlying4 _), (trodAll_cons_mk (Below.trod laidOut (by kernel_rfl) (of_decide_eq_true (by kernel_rfl)) k0 bel lt0) (trodAll_cons_mk (Below.trod laidOut (by kernel_rfl) (of_decide_eq_true (by kernel_rfl)) k1 bel lt1) (trodAll_cons_mk (Below.trod laidOut (by kernel_rfl) (of_decide_eq_true (by kernel_rfl)) k2 bel lt2) trodAll_mk0))), rfl, bel.frame _, fun h => by cases h⟩

theorem laid_met (os : Os) : laidMet Tryd.prog Rows.descBasesRow.laid ((World.laidAll Tryd.prog os Rows.descBasesRow.laid).forCall (fun _ _ => 0) ⟨#[], #[.int .u64 0, .int .i64 0, .int .u64 0], []⟩).memory :=
  laidMet_laidAll _ (by kernel_rfl) (by kernel_rfl)
theorem reads (os : Os) {H : Type} (enc : TypeId × Value → H) : ∃ places, DataW.whole enc Tryd.prog ((World.laidAll Tryd.prog os Rows.descBasesRow.laid).forCall (fun _ _ => 0) ⟨#[], #[.int .u64 0, .int .i64 0, .int .u64 0], []⟩).memory Tryd.f5.params.toList Rows.descBasesSpec.vars false (#[.int .u64 0, .int .i64 0, .int .u64 0] : Array Value).toList 8 = some ([.lit (.int .u64 0), .lit (.int .i64 0), .lit (.int .u64 0)], [], places) :=
  ⟨[], by kernel_rfl⟩

set_option maxRecDepth 100000 in
theorem lifted (os : Os) (started : os.Started) (H : Type) (enc : TypeId × Value → H) (F : Stop.Interp) :
    ReturnsInHanded {} Tryd.checked os 5 .any ((OpenSpec.ofChange Rows.descBasesSpec).preRow enc Tryd.prog Tryd.f5 Rows.descBasesRow.domain false Rows.descBasesRow.laid) (((OpenSpec.ofChange Rows.descBasesSpec).at F).post enc Tryd.prog Tryd.f5 false true false false) := by
  obtain ⟨places, hx⟩ := reads os enc
  refine returnsInHanded_of_row (C := Tryd.checked) (s := (OpenSpec.ofChange Rows.descBasesSpec)) own started (by kernel_rfl) Tryd.func5
    (witness_row_at (enc := enc) (C := Tryd.checked) false (World.laidAll Tryd.prog os Rows.descBasesRow.laid) #[.int .u64 0, .int .i64 0, .int .u64 0] (World.laidAll_os _ _ _) (by kernel_rfl) (by kernel_rfl) (by kernel_rfl)
      (OpenSpec.preRow_of_cond 8 hx (by kernel_rfl) (fun k hk => by cases hk) (by kernel_rfl) (laid_met os))) ?_
  intro W base args ds gs before hval hW _ _ _ hL _ _
  exact contract H enc W base args ds gs before hval hW hL

theorem said : Rows.DescBasesSaid :=
  OpenClaim.holds_of_cond 5 Tryd.f5 rfl rfl rfl rfl rfl rfl rfl ⟨rfl, rfl, rfl, rfl, rfl⟩ rfl rfl rfl rfl rfl (by kernel_rfl) Tryd.func5 (by kernel_rfl)
    (of_decide_eq_true (by kernel_rfl)) (by unfold Func.isWrapper; first | (rw [if_pos (by decide +kernel)]; kernel_rfl) | (rw [if_neg (by decide +kernel)]; exact ⟨rfl, rfl⟩))
    (fun os started H enc _ F => by rw [OpenClaim.pre_eq_preRow]; exact lifted os started H enc F)

theorem plain (f : FuncId) (fn : Func) (hf : Tryd.pinned.checked.prog.funcNamed "portreeve/portreevelaw04.DescBases" = some f) (hfn : Tryd.pinned.checked.prog.funcs[f]? = some fn) :
    false = Tryd.pinned.checked.prog.looks [] ∧ ∀ (j : Nat) t, fn.params[j]? = some t → Tryd.pinned.checked.prog.wantsStandIn t = false := by
  obtain rfl : f = 5 := Option.some.inj ((show Tryd.prog.funcNamed "portreeve/portreevelaw04.DescBases" = some 5 by kernel_rfl).symm.trans hf) |>.symm
  obtain rfl : fn = Tryd.f5 := (Option.some.inj (Tryd.func5.symm.trans hfn)).symm
  refine ⟨by kernel_rfl, fun j t ht => ?_⟩
  rw [Tryd.params5] at ht
  have hm : t ∈ [22, 3, 22] := by simpa using Array.mem_of_getElem? ht
  have hall : ([22, 3, 22].all fun u => !Tryd.prog.wantsStandIn u) = true := by kernel_rfl
  exact (show Tryd.prog.wantsStandIn t = false by simpa using List.all_eq_true.1 hall t hm)

theorem card : Rows.DescBasesCardSaid :=
  Claim7.holds_tied_plain_at .later [] _ _ _ _ said (fun _ h => by cases h) (by kernel_rfl) (fun _ h => by cases h) descBases_row_tie rfl ⟨rfl, rfl⟩ (by kernel_rfl) rfl plain (by kernel_rfl)

end Go.Proofs.YtoolmhkonhcfpaaDoor.descBases
