/- The walks of package field. -/
import Derived.Test.YtoblkicbfkgjnaaDoorRefWalks
namespace Go.Proofs.YtoblkicbfkgjnaaDoor
open Go.RowKit

def rightB (l n : Int) : Bool := decide (0 ≤ l ∧ l < 64 ∧ 1 ≤ n ∧ n ≤ 64 - l)
def maskV (l n : Int) : Nat := if rightB l n = true then ones n * 2 ^ l.toNat else 0
def getV (l n : Int) (x : Nat) : Nat := if rightB l n = true then x / 2 ^ l.toNat &&& ones n else 0
/-- The error that Put tells: 0, 10 (no field) or 11 (too great). -/
def putE (l n : Int) (v : Nat) : Int := if rightB l n = false then 10 else if ones n < v then 11 else 0
def putX (l n : Int) (x v : Nat) : Nat := if rightB l n = false then 0 else if ones n < v then 0 else andn x (maskV l n) ||| v * 2 ^ l.toNat

set_option maxHeartbeats 400000 in
theorem ones_any (n : Int) (w : World) :
    Calls Tryd.prog 39 #[.int .i64 n] w fun e w' => e = .returned (.int .u64 ((ones n : Nat) : Int)) ∧ w' = w := by
  by_cases h1 : n < 1
  · have HE : Hid (ones n = 0) := by show ones n = 0; rw [ones, if_pos h1]
    go_enter Tryd.func39, Tryd.ntmps39
    go_wp2
    go_ret
    exact ⟨by rw [HE.out]; rfl, rfl⟩
  · by_cases h2 : 64 ≤ n
    · have HE : Hid (ones n = 18446744073709551615) := by show ones n = _; rw [ones, if_neg h1, if_pos h2]
      go_enter Tryd.func39, Tryd.ntmps39
      go_wp2
      go_ret
      exact ⟨by rw [HE.out]; rfl, rfl⟩
    · have HE : Hid ((ones n : Int) = IntKind.u64.wrap (IntKind.u64.wrap (2 ^ n.toNat) - 1)) := by
        show (ones n : Int) = _
        rw [ones, if_neg h1, if_neg h2]
        have h3 : 2 ^ n.toNat ≤ 2 ^ 63 := Nat.pow_le_pow_right (by omega) (by omega)
        have h4 : 0 < 2 ^ n.toNat := Nat.two_pow_pos _
        have h5 : ((2 : Int) ^ n.toNat) = ((2 ^ n.toNat : Nat) : Int) := by simp
        rw [h5, IntKind.wrap_u64, IntKind.wrap_u64]
        generalize 2 ^ n.toNat = p at *
        omega
      go_enter Tryd.func39, Tryd.ntmps39
      go_wp2
      go_ret
      exact ⟨by rw [HE.out]; rfl, rfl⟩

set_option maxHeartbeats 400000 in
theorem right_any (l n : Int) (w : World) :
    Calls Tryd.prog 40 #[.agg #[.int .i64 l, .int .i64 n]] w fun e w' => e = .returned (.bool (rightB l n)) ∧ Below w.heap.size w w' := by
  by_cases h1 : 0 ≤ l
  rotate_left
  · have d1 : decide (0 ≤ l) = false := decide_eq_false h1
    have HE : Hid (rightB l n = false) := by (show rightB l n = _; unfold rightB; rw [decide_eq_false_iff_not]; omega)
    go_enter Tryd.func40, Tryd.ntmps40
    go_wp2
    go_ret
    exact ⟨by rw [HE.out]; rfl, (Below.refl _ _).alloc (Nat.le_refl _) _⟩
  have d1 : decide (0 ≤ l) = true := decide_eq_true h1
  by_cases h2 : l < 64
  rotate_left
  · have d2 : decide (l < 64) = false := decide_eq_false h2
    have HE : Hid (rightB l n = false) := by (show rightB l n = _; unfold rightB; rw [decide_eq_false_iff_not]; omega)
    go_enter Tryd.func40, Tryd.ntmps40
    go_wp2
    go_ret
    exact ⟨by rw [HE.out]; rfl, (Below.refl _ _).alloc (Nat.le_refl _) _⟩
  have d2 : decide (l < 64) = true := decide_eq_true h2
  by_cases h3 : 1 ≤ n
  rotate_left
  · have d3 : decide (1 ≤ n) = false := decide_eq_false h3
    have HE : Hid (rightB l n = false) := by (show rightB l n = _; unfold rightB; rw [decide_eq_false_iff_not]; omega)
    go_enter Tryd.func40, Tryd.ntmps40
    go_wp2
    go_ret
    exact ⟨by rw [HE.out]; rfl, (Below.refl _ _).alloc (Nat.le_refl _) _⟩
  have d3 : decide (1 ≤ n) = true := decide_eq_true h3
  by_cases h4 : n ≤ 64 - l
  rotate_left
  · have d4 : decide (n ≤ 64 - l) = false := decide_eq_false h4
    have HE : Hid (rightB l n = false) := by (show rightB l n = _; unfold rightB; rw [decide_eq_false_iff_not]; omega)
    go_enter Tryd.func40, Tryd.ntmps40
    go_wp2
    go_ret
    exact ⟨by rw [HE.out]; rfl, (Below.refl _ _).alloc (Nat.le_refl _) _⟩
  have d4 : decide (n ≤ 64 - l) = true := decide_eq_true h4
  have HE : Hid (rightB l n = true) := by (show rightB l n = _; unfold rightB; rw [decide_eq_true_eq]; omega)
  go_enter Tryd.func40, Tryd.ntmps40
  go_wp2
  go_ret
  exact ⟨by rw [HE.out]; rfl, (Below.refl _ _).alloc (Nat.le_refl _) _⟩

theorem right_of {l n : Int} (h : rightB l n = true) : 0 ≤ l ∧ l < 64 ∧ 1 ≤ n ∧ n ≤ 64 - l := of_decide_eq_true h

theorem ones_eq {n : Int} (h1 : 1 ≤ n) (h2 : n ≤ 64) : ones n = 2 ^ n.toNat - 1 := by
  unfold ones
  rw [if_neg (by omega)]
  by_cases h : 64 ≤ n
  · have e : n = 64 := by omega
    subst e; rfl
  · rw [if_neg h]
theorem shl_lt {a i j : Nat} (ha : a < 2 ^ i) (h : i + j ≤ 64) : a * 2 ^ j < 18446744073709551616 := by
  have h1 : a * 2 ^ j < 2 ^ i * 2 ^ j := Nat.mul_lt_mul_of_pos_right ha (Nat.two_pow_pos _)
  rw [← Nat.pow_add] at h1
  have h2 : 2 ^ (i + j) ≤ 2 ^ 64 := Nat.pow_le_pow_right (by omega) h
  exact Nat.lt_of_lt_of_le h1 h2
theorem wrap_shl {a i j : Nat} (ha : a < 2 ^ i) (h : i + j ≤ 64) : IntKind.u64.wrap ((a : Int) * 2 ^ j) = ((a * 2 ^ j : Nat) : Int) := by
  have h1 := shl_lt ha h
  have h2 : ((a : Int) * 2 ^ j) = ((a * 2 ^ j : Nat) : Int) := by simp
  rw [h2, IntKind.wrap_u64]
  omega
theorem ones_pow {n : Int} (h1 : 1 ≤ n) (h2 : n ≤ 64) : ones n < 2 ^ n.toNat := by
  rw [ones_eq h1 h2]
  have : 0 < 2 ^ n.toNat := Nat.two_pow_pos _
  omega
theorem maskV_lt (l n : Int) : maskV l n < 18446744073709551616 := by
  unfold maskV
  by_cases h : rightB l n = true
  · rw [if_pos h]
    obtain ⟨h1, h2, h3, h4⟩ := right_of h
    exact shl_lt (ones_pow h3 (by omega)) (by omega)
  · rw [if_neg h]; omega

theorem below_tr {A B C : World} (h : Below A.heap.size A B) (k : Below B.heap.size B C) : Below A.heap.size A C := h.trans (k.mono h.size)

theorem bcell {W w1 : World} (hb : Below W.heap.size W w1) : (∀ b o, b < W.heap.size → w1.cell? ⟨b, o, none⟩ = W.cell? ⟨b, o, none⟩) ∧ (∀ b o, b < W.heap.size → w1.frozen? ⟨b, o, none⟩ = W.frozen? ⟨b, o, none⟩) :=
  ⟨fun b o h => hb.cell (p := ⟨b, o, none⟩) h, fun b o h => hb.frozen (p := ⟨b, o, none⟩) h⟩

set_option maxHeartbeats 400000 in
theorem mask_any (l n : Int) (w : World) :
    Calls Tryd.prog 38 #[.agg #[.int .i64 l, .int .i64 n]] w fun e w' => e = .returned (.int .u64 ((maskV l n : Nat) : Int)) ∧ Below w.heap.size w w' := by
  cases hr : rightB l n
  · have HE : Hid (maskV l n = 0) := by show maskV l n = 0; rw [maskV, hr]; rfl
    go_enter Tryd.func38, Tryd.ntmps38
    go_wp2_with fail
    refine (right_any l n _).mono ?_
    rintro e w1 ⟨rfl, hb⟩
    rw [hr]
    go_wp2
    go_ret
    exact ⟨by rw [HE.out]; rfl, ((Below.refl _ _).alloc (Nat.le_refl _) _).trans (hb.mono (by simp))⟩
  · obtain ⟨h1, h2, h3, h4⟩ := right_of hr
    have HE : Hid ((maskV l n : Int) = IntKind.u64.wrap ((ones n : Int) * 2 ^ l.toNat)) := by
      show (maskV l n : Int) = _
      rw [maskV, hr, if_pos rfl, wrap_shl (ones_pow h3 (by omega)) (by omega)]
    go_enter Tryd.func38, Tryd.ntmps38
    go_wp2_with fail
    refine (right_any l n _).mono ?_
    rintro e w1 ⟨rfl, hb⟩
    rw [hr]
    obtain ⟨hc, hf⟩ := bcell hb
    have hc0 : w1.cell? ⟨w.heap.size, 0, none⟩ = some (.int .i64 l) := by rw [hc _ _ (by simp)]; simp
    have hc1 : w1.cell? ⟨w.heap.size, 1, none⟩ = some (.int .i64 n) := by rw [hc _ _ (by simp)]; simp
    clear hc hf
    go_wp2
    go_region_held3 (fun w' => w'.cell? ⟨w.heap.size, 0, none⟩ = some (.int .i64 l) ∧ w'.cell? ⟨w.heap.size, 1, none⟩ = some (.int .i64 n)) (go_keep)
      (first | (go_at_call 39; refine (ones_any _ _).mono ?_; rintro e w' ⟨rfl, rfl⟩))
    all_goals go_wp2
    all_goals go_ret
    all_goals exact ⟨by rw [HE.out]; rfl, (((Below.refl _ _).alloc (Nat.le_refl _) _).trans (hb.mono (by simp))).drew⟩

theorem div_lt (x k : Nat) (hx : x < 18446744073709551616) : x / 2 ^ k < 18446744073709551616 := Nat.lt_of_le_of_lt (Nat.div_le_self _ _) hx

def alignedB (x : Nat) (n : Int) : Bool := (x &&& ones n) == 0
def downV (x : Nat) (n : Int) : Nat := andn x (ones n)
def upW (x : Nat) (n : Int) : Nat := ((x ||| ones n) + 1) % 18446744073709551616
def upV (x : Nat) (n : Int) : Nat := if alignedB x n = true then x else upW x n
def upB (x : Nat) (n : Int) : Bool := alignedB x n || upW x n != 0

set_option maxHeartbeats 400000 in
theorem aligned_any (x : Nat) (n : Int) (hx : x < 18446744073709551616) (w : World) :
    Calls Tryd.prog 33 #[.int .u64 x, .int .i64 n] w fun e w' => e = .returned (.bool (alignedB x n)) ∧ w' = w := by
  have HE : Hid (alignedB x n = (bits BinOp.and IntKind.u64 (x : Int) (ones n : Int) == 0)) := by
    show alignedB x n = _
    rw [bits_and_u64_nat _ _ hx (ones_lt n), alignedB, Bool.eq_iff_iff]; simp
  go_enter Tryd.func33, Tryd.ntmps33
  go_wp2_with (go_at_call 39; refine (ones_any _ _).mono ?_; rintro e w' ⟨rfl, rfl⟩)
  go_ret
  exact ⟨by rw [HE.out]; rfl, rfl⟩

theorem or_lt (a b : Nat) (ha : a < 18446744073709551616) (hb : b < 18446744073709551616) : a ||| b < 18446744073709551616 :=
  Nat.or_lt_two_pow (n := 64) ha hb

def meetsB (l n l2 n2 : Int) : Bool := (maskV l n &&& maskV l2 n2) != 0

/-- A word without the bits of some fields. -/
def restV (x : Nat) (fs : List (Int × Int)) : Nat := fs.foldl (fun x f => andn x (maskV f.1 f.2)) x
theorem restV_lt (x : Nat) (hx : x < 18446744073709551616) : ∀ fs : List (Int × Int), restV x fs < 18446744073709551616
  | [] => hx
  | f :: fs => by
    show restV (andn x (maskV f.1 f.2)) fs < _
    exact restV_lt _ (Nat.lt_of_le_of_lt (andn_le _ _) hx) fs
theorem restV_snoc (x : Nat) (fs : List (Int × Int)) (f : Int × Int) : restV x (fs ++ [f]) = andn (restV x fs) (maskV f.1 f.2) := by
  simp [restV, List.foldl_append]

set_option maxHeartbeats 400000 in
theorem rest_none (x : Nat) (w : World) :
    Calls Tryd.prog 32 #[.int .u64 x, .slice none 0 0] w fun e w' => e = .returned (.int .u64 (x : Int)) ∧ Below w.heap.size w w' := by
  go_enter Tryd.func32, Tryd.ntmps32
  go_wp2
  go_loop [0, 9] (fun t i => t = .int .u64 (x : Int) ∧ i = .int .i64 0) (fun _ _ => 0)
  case atStart => exact ⟨rfl, rfl⟩
  case round =>
    obtain ⟨rfl, rfl⟩ := hrel
    go_wp2
    go_ret
    exact ⟨rfl, Below.refl _ _⟩

set_option maxHeartbeats 400000 in
theorem rest_some (x : Nat) (hx : x < 18446744073709551616) (fs : List (Int × Int)) (b : Nat) (c : Nat) (hlen : fs.length < 1000000) (w : World)
    (hc0 : ∀ i, i < fs.length → w.cell? ⟨b, i * 2, none⟩ = some (.int .i64 (fs.getD i (0, 0)).1)) (hc1 : ∀ i, i < fs.length → w.cell? ⟨b, i * 2 + 1, none⟩ = some (.int .i64 (fs.getD i (0, 0)).2)) :
    Calls Tryd.prog 32 #[.int .u64 x, .slice (some ⟨b, 0, none⟩) fs.length c] w fun e w' => e = .returned (.int .u64 ((restV x fs : Nat) : Int)) ∧ Below w.heap.size w w' := by
  go_enter Tryd.func32, Tryd.ntmps32
  go_wp2
  go_loopw [0, 9] (fun t i wr => ∃ k : Nat, k ≤ fs.length ∧ i = .int .i64 k ∧ t = .int .u64 ((restV x (fs.take k) : Nat) : Int) ∧ Below w.heap.size w wr) (fun _ i _ => fs.length - (intOf i).toNat)
  case atStart => exact ⟨0, by omega, rfl, rfl, Below.refl _ _⟩
  case round =>
    obtain ⟨k, hk, rfl, rfl, hR⟩ := hrel
    have hlt := restV_lt x hx (fs.take k)
    by_cases hkn : k < fs.length
    · have e0 := cell_later hR (hc0 k hkn)
      have e1 := cell_later hR (hc1 k hkn)
      have hlast : fs.take (k + 1) = fs.take k ++ [fs.getD k (0, 0)] := by
        rw [List.take_succ_eq_append_getElem hkn]; simp [hkn]
      have HN : Hid (restV x (fs.take (k + 1)) = andn (restV x (fs.take k)) (maskV (fs.getD k (0, 0)).1 (fs.getD k (0, 0)).2)) := by
        show restV x (fs.take (k + 1)) = _
        rw [hlast, restV_snoc]
      clear hc0 hc1 hlast
      generalize fs.getD k (0, 0) = f at *
      generalize restV x (fs.take k) = y at *
      obtain ⟨l, n⟩ := f
      go_wp2_with (go_at_call 38; refine (mask_any _ _ _).mono ?_; rintro e w' ⟨rfl, hbm⟩)
      refine ⟨⟨k + 1, by omega, by go_num, ?_, below_tr (hR.alloc hR.size _) hbm⟩, by simp [intOf]; omega⟩
      rw [HN.out, bits_andNot _ _ hlt (maskV_lt l n)]
    · have ek : k = fs.length := by omega
      subst ek
      rw [List.take_length]
      clear hc0 hc1
      go_wp2
      go_ret
      exact ⟨rfl, hR⟩

end Go.Proofs.YtoblkicbfkgjnaaDoor
