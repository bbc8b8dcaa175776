/- The walks of the document's own answers of layer 2: characters, numbers. -/
import Derived.Test.YtbpahdgkedfmdaaDoorLexLine
import Derived.Handy
namespace Go.Proofs.YtbpahdgkedfmdaaDoor
open Go.RowKit Go.Lib

theorem rdigit_any (r : Nat) (w : World) : Calls Tryd.prog 25 #[.int .i64 r] w fun e w' => e = .returned (.bool (isDig r)) ∧ w = w' := by
  by_cases h1 : 48 ≤ r
  · go_enter Tryd.func25, Tryd.ntmps25
    go_wp2
    go_ret
    refine ⟨ret_bool ?_, rfl⟩
    rw [isDig, decide_eq_decide]
    omega
  · rw [show isDig r = false from decide_eq_false fun h => h1 h.1]
    go_enter Tryd.func25, Tryd.ntmps25
    go_wp2
    go_ret
    exact ⟨rfl, rfl⟩

set_option maxHeartbeats 2000000 in
theorem rpart_any (r : Nat) (w : World) : Calls Tryd.prog 23 #[.int .i64 r] w fun e w' => e = .returned (.bool (isPart r)) ∧ w = w' := by
  have cD := rdigit_any r w
  rcases (by omega : (48 ≤ r ∧ r ≤ 57) ∨ (¬ (48 ≤ r ∧ r ≤ 57) ∧ r < 65) ∨ (65 ≤ r ∧ r ≤ 90) ∨ (90 < r ∧ r < 97) ∨ (97 ≤ r ∧ r ≤ 122) ∨ 122 < r) with h | h | h | h | h | h
  · have hd : isDig r = true := decide_eq_true h
    rw [hd] at cD
    rw [isPart_of_dig r hd]
    go_enter Tryd.func23, Tryd.ntmps23
    go_wp2_with (go_at_call 25; refine cD.mono ?_; rintro e w' ⟨rfl, rfl⟩)
    go_ret
    exact ⟨rfl, rfl⟩
  · have hd : isDig r = false := decide_eq_false h.1
    rw [hd] at cD
    have a1 : ¬ (65 ≤ r) := by omega
    have a2 : ¬ (97 ≤ r) := by omega
    have a3 : ¬ (r = 95) := by omega
    have a4 : ¬ (128 ≤ r) := by omega
    go_enter Tryd.func23, Tryd.ntmps23
    go_wp2_with (go_at_call 25; refine cD.mono ?_; rintro e w' ⟨rfl, rfl⟩)
    all_goals
      go_ret
      refine ⟨ret_bool ?_, rfl⟩
      rw [Bool.eq_iff_iff, isPart_iff]; simp; omega
  · have hd : isDig r = false := decide_eq_false (by omega)
    rw [hd] at cD
    have a1 : 65 ≤ r := h.1
    have a2 : r ≤ 90 := h.2
    go_enter Tryd.func23, Tryd.ntmps23
    go_wp2_with (go_at_call 25; refine cD.mono ?_; rintro e w' ⟨rfl, rfl⟩)
    all_goals
      go_ret
      refine ⟨ret_bool ?_, rfl⟩
      rw [Bool.eq_iff_iff, isPart_iff]; simp; omega
  · have hd : isDig r = false := decide_eq_false (by omega)
    rw [hd] at cD
    have a1 : 65 ≤ r := by omega
    have a2 : ¬ (97 ≤ r) := by omega
    go_enter Tryd.func23, Tryd.ntmps23
    go_wp2_with (go_at_call 25; refine cD.mono ?_; rintro e w' ⟨rfl, rfl⟩)
    all_goals
      go_ret
      refine ⟨ret_bool ?_, rfl⟩
      rw [Bool.eq_iff_iff, isPart_iff]; simp; omega
  · have hd : isDig r = false := decide_eq_false (by omega)
    rw [hd] at cD
    have a1 : 65 ≤ r := by omega
    obtain ⟨a2, a3⟩ := h
    go_enter Tryd.func23, Tryd.ntmps23
    go_wp2_with (go_at_call 25; refine cD.mono ?_; rintro e w' ⟨rfl, rfl⟩)
    all_goals
      go_ret
      refine ⟨ret_bool ?_, rfl⟩
      rw [Bool.eq_iff_iff, isPart_iff]; simp; omega
  · have hd : isDig r = false := decide_eq_false (by omega)
    rw [hd] at cD
    have a1 : 65 ≤ r := by omega
    have a2 : 97 ≤ r := by omega
    go_enter Tryd.func23, Tryd.ntmps23
    go_wp2_with (go_at_call 25; refine cD.mono ?_; rintro e w' ⟨rfl, rfl⟩)
    all_goals
      go_ret
      refine ⟨ret_bool ?_, rfl⟩
      rw [Bool.eq_iff_iff, isPart_iff]; simp; omega

/-- sign's answer. -/
def signE (r : Nat) : Nat := if isSign r = true then 0 else 61
def signsB : ByteArray := ⟨#[61, 58, 44, 46, 43, 45, 47, 42, 40, 41]⟩
def signAt (k : Nat) : Nat := [61, 58, 44, 46, 43, 45, 47, 42, 40, 41].getD k 0
theorem signs_at : ∀ k : Fin 10, ((signsB[k.val]'(by have := k.isLt; show k.val < 10; omega)).toNat) = signAt k.val := by decide
theorem signAt_lt : ∀ k : Fin 10, signAt k.val < 128 ∧ isSign (signAt k.val) = true := by decide
theorem isSign_ex (r : Nat) (h : isSign r = true) : ∃ k, k < 10 ∧ signAt k = r := by
  rw [isSign_iff] at h
  rcases h with h | h | h | h | h | h | h | h | h | h
  · exact ⟨0, by omega, h.symm⟩
  · exact ⟨1, by omega, h.symm⟩
  · exact ⟨2, by omega, h.symm⟩
  · exact ⟨3, by omega, h.symm⟩
  · exact ⟨4, by omega, h.symm⟩
  · exact ⟨5, by omega, h.symm⟩
  · exact ⟨6, by omega, h.symm⟩
  · exact ⟨7, by omega, h.symm⟩
  · exact ⟨8, by omega, h.symm⟩
  · exact ⟨9, by omega, h.symm⟩

set_option maxHeartbeats 2000000 in
theorem rsign_any (r : Nat) (w : World) : Calls Tryd.prog 24 #[.int .i64 r] w fun e w' => e = .returned (.int .i64 (signE r)) ∧ w = w' := by
  go_enter Tryd.func24, Tryd.ntmps24
  go_wp2
  go_loop [4] (fun i => ∃ k : Nat, k ≤ 10 ∧ i = .int .i64 k ∧ ∀ j, j < k → signAt j ≠ r) (fun i => 10 - (RowKit.intOf i).toNat)
  case atStart => exact ⟨0, by omega, rfl, fun j hj => by omega⟩
  case round =>
    obtain ⟨k, hk, rfl, hno⟩ := hrel
    by_cases hlt : k < 10
    · have hG : ∀ h : k < signsB.size, (signsB[k]'h).toNat = signAt k := fun _ => signs_at ⟨k, hlt⟩
      unfold signsB at hG
      have hs := signAt_lt ⟨k, hlt⟩
      simp only at hs
      have HN : Hid (∀ j, j < k → signAt j ≠ r) := hno
      clear hno
      by_cases he : signAt k = r
      · have HE : Hid (signE r = 0) := by show _ = _; unfold signE; rw [if_pos (by rw [← he]; exact hs.2)]
        have hr7 : r < 128 := by rw [← he]; exact hs.1
        rw [he] at hG
        clear hs he
        go_wp2
        go_ret
        exact ⟨ret_int (by rw [HE.out]; rfl), rfl⟩
      · have hez : ¬ ((signAt k : Int) = (r : Int)) := by omega
        have HE : Hid (signAt k ≠ r) := he
        obtain ⟨hs1, _⟩ := hs
        clear he
        obtain ⟨q, hq⟩ : ∃ q, signAt k = q := ⟨_, rfl⟩
        have HQ : Hid (signAt k = q) := hq
        rw [hq] at hG hez hs1
        clear hq
        go_wp2
        go_round
        case rel =>
          refine ⟨k + 1, by omega, by go_num, fun j hj => ?_⟩
          by_cases e : j = k
          · subst e; exact HE.out
          · exact HN.out j (by omega)
        case measure => simp [RowKit.intOf]; omega
    · have ek : k = 10 := by omega
      subst ek
      have HE : Hid (signE r = 61) := by
        show _ = _
        unfold signE
        rw [if_neg fun h => ?_]
        obtain ⟨j, hj, e⟩ := isSign_ex r h
        exact hno j hj e
      clear hno
      go_wp2
      go_ret
      exact ⟨ret_int (by rw [HE.out]; rfl), rfl⟩
end Go.Proofs.YtbpahdgkedfmdaaDoor
