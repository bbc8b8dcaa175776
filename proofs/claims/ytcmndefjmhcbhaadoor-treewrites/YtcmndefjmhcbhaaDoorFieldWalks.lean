/- The walks of package field. -/
import Derived.Test.YtcmndefjmhcbhaaDoorRefWalks
namespace Go.Proofs.YtcmndefjmhcbhaaDoor
open Go.RowKit

def rightB (l n : Int) : Bool := decide (0 ≤ l ∧ l < 64 ∧ 1 ≤ n ∧ n ≤ 64 - l)
def maskV (l n : Int) : Nat := if rightB l n = true then ones n * 2 ^ l.toNat else 0
def getV (l n : Int) (x : Nat) : Nat := if rightB l n = true then x / 2 ^ l.toNat &&& ones n else 0
/-- The error that Put tells: 0, 10 (no field) or 11 (too great). -/
def putE (l n : Int) (v : Nat) : Int := if rightB l n = false then 10 else if ones n < v then 11 else 0
def putX (l n : Int) (x v : Nat) : Nat := if rightB l n = false then 0 else if ones n < v then 0 else andn x (maskV l n) ||| v * 2 ^ l.toNat

set_option maxHeartbeats 400000 in
theorem ones_any (n : Int) (w : World) :
    Calls Tryd.prog 55 #[.int .i64 n] w fun e w' => e = .returned (.int .u64 ((ones n : Nat) : Int)) ∧ w' = w := by
  by_cases h1 : n < 1
  · have HE : Hid (ones n = 0) := by show ones n = 0; rw [ones, if_pos h1]
    go_enter Tryd.func55, Tryd.ntmps55
    go_wp2
    go_ret
    exact ⟨by rw [HE.out]; rfl, rfl⟩
  · by_cases h2 : 64 ≤ n
    · have HE : Hid (ones n = 18446744073709551615) := by show ones n = _; rw [ones, if_neg h1, if_pos h2]
      go_enter Tryd.func55, Tryd.ntmps55
      go_wp2
      go_ret
      exact ⟨by rw [HE.out]; rfl, rfl⟩
    · have HE : Hid ((ones n : Int) = IntKind.u64.wrap (IntKind.u64.wrap (2 ^ n.toNat) - 1)) := by
        show (ones n : Int) = _
        rw [ones, if_neg h1, if_neg h2]
        have h3 : 2 ^ n.toNat ≤ 2 ^ 63 := Nat.pow_le_pow_right (by omega) (by omega)
        have h4 : 0 < 2 ^ n.toNat := Nat.two_pow_pos _
        have h5 : ((2 : Int) ^ n.toNat) = ((2 ^ n.toNat : Nat) : Int) := by simp
        rw [h5, IntKind.wrap_u64, IntKind.wrap_u64]
        generalize 2 ^ n.toNat = p at *
        omega
      go_enter Tryd.func55, Tryd.ntmps55
      go_wp2
      go_ret
      exact ⟨by rw [HE.out]; rfl, rfl⟩

set_option maxHeartbeats 400000 in
theorem right_any (l n : Int) (w : World) :
    Calls Tryd.prog 82 #[.agg #[.int .i64 l, .int .i64 n]] w fun e w' => e = .returned (.bool (rightB l n)) ∧ Below w.heap.size w w' := by
  by_cases h1 : 0 ≤ l
  rotate_left
  · have d1 : decide (0 ≤ l) = false := decide_eq_false h1
    have HE : Hid (rightB l n = false) := by (show rightB l n = _; unfold rightB; rw [decide_eq_false_iff_not]; omega)
    go_enter Tryd.func82, Tryd.ntmps82
    go_wp2
    go_ret
    exact ⟨by rw [HE.out]; rfl, (Below.refl _ _).alloc (Nat.le_refl _) _⟩
  have d1 : decide (0 ≤ l) = true := decide_eq_true h1
  by_cases h2 : l < 64
  rotate_left
  · have d2 : decide (l < 64) = false := decide_eq_false h2
    have HE : Hid (rightB l n = false) := by (show rightB l n = _; unfold rightB; rw [decide_eq_false_iff_not]; omega)
    go_enter Tryd.func82, Tryd.ntmps82
    go_wp2
    go_ret
    exact ⟨by rw [HE.out]; rfl, (Below.refl _ _).alloc (Nat.le_refl _) _⟩
  have d2 : decide (l < 64) = true := decide_eq_true h2
  by_cases h3 : 1 ≤ n
  rotate_left
  · have d3 : decide (1 ≤ n) = false := decide_eq_false h3
    have HE : Hid (rightB l n = false) := by (show rightB l n = _; unfold rightB; rw [decide_eq_false_iff_not]; omega)
    go_enter Tryd.func82, Tryd.ntmps82
    go_wp2
    go_ret
    exact ⟨by rw [HE.out]; rfl, (Below.refl _ _).alloc (Nat.le_refl _) _⟩
  have d3 : decide (1 ≤ n) = true := decide_eq_true h3
  by_cases h4 : n ≤ 64 - l
  rotate_left
  · have d4 : decide (n ≤ 64 - l) = false := decide_eq_false h4
    have HE : Hid (rightB l n = false) := by (show rightB l n = _; unfold rightB; rw [decide_eq_false_iff_not]; omega)
    go_enter Tryd.func82, Tryd.ntmps82
    go_wp2
    go_ret
    exact ⟨by rw [HE.out]; rfl, (Below.refl _ _).alloc (Nat.le_refl _) _⟩
  have d4 : decide (n ≤ 64 - l) = true := decide_eq_true h4
  have HE : Hid (rightB l n = true) := by (show rightB l n = _; unfold rightB; rw [decide_eq_true_eq]; omega)
  go_enter Tryd.func82, Tryd.ntmps82
  go_wp2
  go_ret
  exact ⟨by rw [HE.out]; rfl, (Below.refl _ _).alloc (Nat.le_refl _) _⟩

theorem right_of {l n : Int} (h : rightB l n = true) : 0 ≤ l ∧ l < 64 ∧ 1 ≤ n ∧ n ≤ 64 - l := of_decide_eq_true h

theorem ones_eq {n : Int} (h1 : 1 ≤ n) (h2 : n ≤ 64) : ones n = 2 ^ n.toNat - 1 := by
  unfold ones
  rw [if_neg (by omega)]
  by_cases h : 64 ≤ n
  · have e : n = 64 := by omega
    subst e; rfl
  · rw [if_neg h]
theorem shl_lt {a i j : Nat} (ha : a < 2 ^ i) (h : i + j ≤ 64) : a * 2 ^ j < 18446744073709551616 := by
  have h1 : a * 2 ^ j < 2 ^ i * 2 ^ j := Nat.mul_lt_mul_of_pos_right ha (Nat.two_pow_pos _)
  rw [← Nat.pow_add] at h1
  have h2 : 2 ^ (i + j) ≤ 2 ^ 64 := Nat.pow_le_pow_right (by omega) h
  exact Nat.lt_of_lt_of_le h1 h2
theorem wrap_shl {a i j : Nat} (ha : a < 2 ^ i) (h : i + j ≤ 64) : IntKind.u64.wrap ((a : Int) * 2 ^ j) = ((a * 2 ^ j : Nat) : Int) := by
  have h1 := shl_lt ha h
  have h2 : ((a : Int) * 2 ^ j) = ((a * 2 ^ j : Nat) : Int) := by simp
  rw [h2, IntKind.wrap_u64]
  omega
theorem ones_pow {n : Int} (h1 : 1 ≤ n) (h2 : n ≤ 64) : ones n < 2 ^ n.toNat := by
  rw [ones_eq h1 h2]
  have : 0 < 2 ^ n.toNat := Nat.two_pow_pos _
  omega
theorem maskV_lt (l n : Int) : maskV l n < 18446744073709551616 := by
  unfold maskV
  by_cases h : rightB l n = true
  · rw [if_pos h]
    obtain ⟨h1, h2, h3, h4⟩ := right_of h
    exact shl_lt (ones_pow h3 (by omega)) (by omega)
  · rw [if_neg h]; omega

theorem below_tr {A B C : World} (h : Below A.heap.size A B) (k : Below B.heap.size B C) : Below A.heap.size A C := h.trans (k.mono h.size)

theorem bcell {W w1 : World} (hb : Below W.heap.size W w1) : (∀ b o, b < W.heap.size → w1.cell? ⟨b, o, none⟩ = W.cell? ⟨b, o, none⟩) ∧ (∀ b o, b < W.heap.size → w1.frozen? ⟨b, o, none⟩ = W.frozen? ⟨b, o, none⟩) :=
  ⟨fun b o h => hb.cell (p := ⟨b, o, none⟩) h, fun b o h => hb.frozen (p := ⟨b, o, none⟩) h⟩

set_option maxHeartbeats 400000 in
theorem mask_any (l n : Int) (w : World) :
    Calls Tryd.prog 85 #[.agg #[.int .i64 l, .int .i64 n]] w fun e w' => e = .returned (.int .u64 ((maskV l n : Nat) : Int)) ∧ Below w.heap.size w w' := by
  cases hr : rightB l n
  · have HE : Hid (maskV l n = 0) := by show maskV l n = 0; rw [maskV, hr]; rfl
    go_enter Tryd.func85, Tryd.ntmps85
    go_wp2_with fail
    refine (right_any l n _).mono ?_
    rintro e w1 ⟨rfl, hb⟩
    rw [hr]
    go_wp2
    go_ret
    exact ⟨by rw [HE.out]; rfl, ((Below.refl _ _).alloc (Nat.le_refl _) _).trans (hb.mono (by simp))⟩
  · obtain ⟨h1, h2, h3, h4⟩ := right_of hr
    have HE : Hid ((maskV l n : Int) = IntKind.u64.wrap ((ones n : Int) * 2 ^ l.toNat)) := by
      show (maskV l n : Int) = _
      rw [maskV, hr, if_pos rfl, wrap_shl (ones_pow h3 (by omega)) (by omega)]
    go_enter Tryd.func85, Tryd.ntmps85
    go_wp2_with fail
    refine (right_any l n _).mono ?_
    rintro e w1 ⟨rfl, hb⟩
    rw [hr]
    obtain ⟨hc, hf⟩ := bcell hb
    have hc0 : w1.cell? ⟨w.heap.size, 0, none⟩ = some (.int .i64 l) := by rw [hc _ _ (by simp)]; simp
    have hc1 : w1.cell? ⟨w.heap.size, 1, none⟩ = some (.int .i64 n) := by rw [hc _ _ (by simp)]; simp
    clear hc hf
    go_wp2
    go_region_held3 (fun w' => w'.cell? ⟨w.heap.size, 0, none⟩ = some (.int .i64 l) ∧ w'.cell? ⟨w.heap.size, 1, none⟩ = some (.int .i64 n)) (go_keep)
      (first | (go_at_call 55; refine (ones_any _ _).mono ?_; rintro e w' ⟨rfl, rfl⟩))
    all_goals go_wp2
    all_goals go_ret
    all_goals exact ⟨by rw [HE.out]; rfl, (((Below.refl _ _).alloc (Nat.le_refl _) _).trans (hb.mono (by simp))).drew⟩

theorem div_lt (x k : Nat) (hx : x < 18446744073709551616) : x / 2 ^ k < 18446744073709551616 := Nat.lt_of_le_of_lt (Nat.div_le_self _ _) hx

set_option maxHeartbeats 400000 in
theorem get_any (l n : Int) (x : Nat) (hx : x < 18446744073709551616) (w : World) :
    Calls Tryd.prog 68 #[.agg #[.int .i64 l, .int .i64 n], .int .u64 x] w fun e w' => e = .returned (.int .u64 ((getV l n x : Nat) : Int)) ∧ Below w.heap.size w w' := by
  cases hr : rightB l n
  · have HE : Hid (getV l n x = 0) := by show getV l n x = 0; rw [getV, hr]; rfl
    go_enter Tryd.func68, Tryd.ntmps68
    go_wp2_with fail
    refine (right_any l n _).mono ?_
    rintro e w1 ⟨rfl, hb⟩
    rw [hr]
    go_wp2
    go_ret
    exact ⟨by rw [HE.out]; rfl, ((Below.refl _ _).alloc (Nat.le_refl _) _).trans (hb.mono (by simp))⟩
  · obtain ⟨h1, h2, h3, h4⟩ := right_of hr
    have HE : Hid ((getV l n x : Int) = bits BinOp.and IntKind.u64 ((x : Int) / 2 ^ l.toNat) (ones n : Int)) := by
      show (getV l n x : Int) = _
      have e : ((x : Int) / 2 ^ l.toNat) = ((x / 2 ^ l.toNat : Nat) : Int) := by simp
      rw [getV, hr, if_pos rfl, e, bits_and_u64_nat _ _ (div_lt _ _ hx) (ones_lt n)]
    go_enter Tryd.func68, Tryd.ntmps68
    go_wp2_with fail
    refine (right_any l n _).mono ?_
    rintro e w1 ⟨rfl, hb⟩
    rw [hr]
    obtain ⟨hc, hf⟩ := bcell hb
    have hc0 : w1.cell? ⟨w.heap.size, 0, none⟩ = some (.int .i64 l) := by rw [hc _ _ (by simp)]; simp
    have hc1 : w1.cell? ⟨w.heap.size, 1, none⟩ = some (.int .i64 n) := by rw [hc _ _ (by simp)]; simp
    clear hc hf
    go_wp2
    go_region_held3 (fun w' => w'.cell? ⟨w.heap.size, 0, none⟩ = some (.int .i64 l) ∧ w'.cell? ⟨w.heap.size, 1, none⟩ = some (.int .i64 n)) (go_keep)
      (first | (go_at_call 55; refine (ones_any _ _).mono ?_; rintro e w' ⟨rfl, rfl⟩))
    all_goals go_wp2
    all_goals go_ret
    all_goals exact ⟨by rw [HE.out]; rfl, (((Below.refl _ _).alloc (Nat.le_refl _) _).trans (hb.mono (by simp))).drew⟩

set_option maxHeartbeats 400000 in
theorem put_any (l n : Int) (x v : Nat) (hx : x < 18446744073709551616) (w : World) :
    Calls Tryd.prog 71 #[.agg #[.int .i64 l, .int .i64 n], .int .u64 x, .int .u64 v] w fun e w' => e = .returned (.tuple #[.int .u64 ((putX l n x v : Nat) : Int), .int .i64 (putE l n v)]) ∧ Below w.heap.size w w' := by
  cases hr : rightB l n
  · have HE : Hid (putX l n x v = 0 ∧ putE l n v = 10) := by show _ ∧ _; unfold putX putE; rw [if_pos hr, if_pos hr]; exact ⟨rfl, rfl⟩
    go_enter Tryd.func71, Tryd.ntmps71
    go_wp2_with fail
    refine (right_any l n _).mono ?_
    rintro e w1 ⟨rfl, hb⟩
    rw [hr]
    go_wp2
    go_ret2
    exact ⟨by rw [HE.out.1, HE.out.2]; rfl, ((Below.refl _ _).alloc (Nat.le_refl _) _).trans (hb.mono (by simp))⟩
  · obtain ⟨h1, h2, h3, h4⟩ := right_of hr
    have hrf : ¬ rightB l n = false := by rw [hr]; decide
    go_enter Tryd.func71, Tryd.ntmps71
    go_wp2_with fail
    refine (right_any l n _).mono ?_
    rintro e w1 ⟨rfl, hb⟩
    rw [hr]
    obtain ⟨hc, hf⟩ := bcell hb
    have hc0 : w1.cell? ⟨w.heap.size, 0, none⟩ = some (.int .i64 l) := by rw [hc _ _ (by simp)]; simp
    have hc1 : w1.cell? ⟨w.heap.size, 1, none⟩ = some (.int .i64 n) := by rw [hc _ _ (by simp)]; simp
    have hsz : w.heap.size < w1.heap.size := by have := hb.size; simp at this; omega
    have hbb : Below w.heap.size w w1 := ((Below.refl _ _).alloc (Nat.le_refl _) _).trans (hb.mono (by simp))
    clear hc hf hb
    by_cases hbig : ones n < v
    · have HE : Hid (putX l n x v = 0 ∧ putE l n v = 11) := by show _ ∧ _; unfold putX putE; rw [if_neg hrf, if_neg hrf, if_pos hbig, if_pos hbig]; exact ⟨rfl, rfl⟩
      go_wp2_with (go_at_call 55; refine (ones_any _ _).mono ?_; rintro e w' ⟨rfl, rfl⟩)
      go_ret2
      exact ⟨by rw [HE.out.1, HE.out.2]; rfl, hbb⟩
    · have hvn : v < 2 ^ n.toNat := by
        rw [ones_eq h3 (by omega)] at hbig
        have : 0 < 2 ^ n.toNat := Nat.two_pow_pos _
        omega
      have HE : Hid ((putX l n x v : Int) = bits BinOp.or IntKind.u64 (bits BinOp.andNot IntKind.u64 (x : Int) (maskV l n : Int)) (IntKind.u64.wrap ((v : Int) * 2 ^ l.toNat)) ∧ putE l n v = 0) := by
        show _ ∧ _; unfold putX putE
        rw [if_neg hrf, if_neg hrf, if_neg hbig, if_neg hbig, wrap_shl hvn (by omega), bits_andNot _ _ hx (maskV_lt l n), bits_or_u64_nat _ _ (Nat.lt_of_le_of_lt (andn_le _ _) hx) (shl_lt hvn (by omega))]
        exact ⟨rfl, rfl⟩
      clear hvn
      go_wp2_with (go_at_call 55; refine (ones_any _ _).mono ?_; rintro e w' ⟨rfl, rfl⟩)
      go_region_held3 (fun w' => w'.cell? ⟨w.heap.size, 0, none⟩ = some (.int .i64 l) ∧ w'.cell? ⟨w.heap.size, 1, none⟩ = some (.int .i64 n)) (first | go_keep | (refine ⟨cell_later hbm ?_, cell_later hbm ?_⟩ <;> go_keep))
        (first | (go_at_call 85; refine (mask_any _ _ _).mono ?_; rintro e w' ⟨rfl, hbm⟩))
      all_goals go_wp2
      all_goals go_ret2
      all_goals exact ⟨by rw [HE.out.1, HE.out.2]; rfl, hbb.drew.trans (hbm.mono (by simp; omega))⟩

def alignedB (x : Nat) (n : Int) : Bool := (x &&& ones n) == 0
def downV (x : Nat) (n : Int) : Nat := andn x (ones n)
def upW (x : Nat) (n : Int) : Nat := ((x ||| ones n) + 1) % 18446744073709551616
def upV (x : Nat) (n : Int) : Nat := if alignedB x n = true then x else upW x n
def upB (x : Nat) (n : Int) : Bool := alignedB x n || upW x n != 0

set_option maxHeartbeats 400000 in
theorem aligned_any (x : Nat) (n : Int) (hx : x < 18446744073709551616) (w : World) :
    Calls Tryd.prog 44 #[.int .u64 x, .int .i64 n] w fun e w' => e = .returned (.bool (alignedB x n)) ∧ w' = w := by
  have HE : Hid (alignedB x n = (bits BinOp.and IntKind.u64 (x : Int) (ones n : Int) == 0)) := by
    show alignedB x n = _
    rw [bits_and_u64_nat _ _ hx (ones_lt n), alignedB, Bool.eq_iff_iff]; simp
  go_enter Tryd.func44, Tryd.ntmps44
  go_wp2_with (go_at_call 55; refine (ones_any _ _).mono ?_; rintro e w' ⟨rfl, rfl⟩)
  go_ret
  exact ⟨by rw [HE.out]; rfl, rfl⟩

set_option maxHeartbeats 400000 in
theorem down_any (x : Nat) (n : Int) (hx : x < 18446744073709551616) (w : World) :
    Calls Tryd.prog 39 #[.int .u64 x, .int .i64 n] w fun e w' => e = .returned (.int .u64 ((downV x n : Nat) : Int)) ∧ w' = w := by
  have HE : Hid ((downV x n : Int) = bits BinOp.andNot IntKind.u64 (x : Int) (ones n : Int)) := by
    show (downV x n : Int) = _
    rw [bits_andNot _ _ hx (ones_lt n)]; rfl
  go_enter Tryd.func39, Tryd.ntmps39
  go_wp2_with (go_at_call 55; refine (ones_any _ _).mono ?_; rintro e w' ⟨rfl, rfl⟩)
  go_ret
  exact ⟨by rw [HE.out]; rfl, rfl⟩

theorem or_lt (a b : Nat) (ha : a < 18446744073709551616) (hb : b < 18446744073709551616) : a ||| b < 18446744073709551616 :=
  Nat.or_lt_two_pow (n := 64) ha hb

def meetsB (l n l2 n2 : Int) : Bool := (maskV l n &&& maskV l2 n2) != 0

/-- A word without the bits of some fields. -/
def restV (x : Nat) (fs : List (Int × Int)) : Nat := fs.foldl (fun x f => andn x (maskV f.1 f.2)) x
theorem restV_lt (x : Nat) (hx : x < 18446744073709551616) : ∀ fs : List (Int × Int), restV x fs < 18446744073709551616
  | [] => hx
  | f :: fs => by
    show restV (andn x (maskV f.1 f.2)) fs < _
    exact restV_lt _ (Nat.lt_of_le_of_lt (andn_le _ _) hx) fs
theorem restV_snoc (x : Nat) (fs : List (Int × Int)) (f : Int × Int) : restV x (fs ++ [f]) = andn (restV x fs) (maskV f.1 f.2) := by
  simp [restV, List.foldl_append]

end Go.Proofs.YtcmndefjmhcbhaaDoor
