/- The walks of package lex, part one: characters and numbers. -/
import Derived.Test.YtbpahdgkedfmdaaDoorLexSpec
import Derived.Test.YtbpahdgkedfmdaaDoorShelf
import Derived.Test.YtbpahdgkedfmdaaDoorRows
import Derived.WalkKit
import Derived.WalkMore
import Derived.BigCall
import Derived.Lib.OthersKept
import Derived.Deep.QuietTactic
import Derived.BigQuiet
namespace Go.Proofs.YtbpahdgkedfmdaaDoor
open Go.RowKit Go.Lib

theorem below_tr {A B C : World} (h : Below A.heap.size A B) (k : Below B.heap.size B C) : Below A.heap.size A C := h.trans (k.mono h.size)
theorem bcell {W w1 : World} (hb : Below W.heap.size W w1) : (∀ b o, b < W.heap.size → w1.cell? ⟨b, o, none⟩ = W.cell? ⟨b, o, none⟩) ∧ (∀ b o, b < W.heap.size → w1.frozen? ⟨b, o, none⟩ = W.frozen? ⟨b, o, none⟩) :=
  ⟨fun b o h => hb.cell (p := ⟨b, o, none⟩) h, fun b o h => hb.frozen (p := ⟨b, o, none⟩) h⟩
theorem ret_bool {a b : Bool} (h : a = b) : Ending.returned (.bool a) = .returned (.bool b) := by rw [h]
theorem ret_int {k : IntKind} {a b : Int} (h : a = b) : Ending.returned (.int k a) = .returned (.int k b) := by rw [h]

theorem isDigit_any (r : Nat) (w : World) : Calls Tryd.prog 18 #[.int .i32 r] w fun e w' => e = .returned (.bool (isDig r)) ∧ w' = w := by
  by_cases h1 : 48 ≤ r
  · go_enter Tryd.func18, Tryd.ntmps18
    go_wp2
    go_ret
    refine ⟨ret_bool ?_, rfl⟩
    rw [isDig, decide_eq_decide]
    omega
  · rw [show isDig r = false from decide_eq_false fun h => h1 h.1]
    go_enter Tryd.func18, Tryd.ntmps18
    go_wp2
    go_ret
    exact ⟨rfl, rfl⟩

theorem isLetter_any (r : Nat) (w : World) : Calls Tryd.prog 17 #[.int .i32 r] w fun e w' => e = .returned (.bool (isLet r)) ∧ w' = w := by
  rcases (by omega : r < 65 ∨ (65 ≤ r ∧ r ≤ 90) ∨ (90 < r ∧ r < 97) ∨ (97 ≤ r ∧ r ≤ 122) ∨ 122 < r) with h | h | h | h | h
  · have a1 : ¬ (65 ≤ r) := by omega
    have a2 : ¬ (97 ≤ r) := by omega
    have a3 : ¬ (r = 95) := by omega
    have a4 : ¬ (128 ≤ r) := by omega
    go_enter Tryd.func17, Tryd.ntmps17
    go_wp2
    go_ret
    refine ⟨ret_bool ?_, rfl⟩
    rw [Bool.eq_iff_iff]; simp [isLet]; omega
  · have a1 : 65 ≤ r := h.1
    have a2 : r ≤ 90 := h.2
    go_enter Tryd.func17, Tryd.ntmps17
    go_wp2
    go_ret
    refine ⟨ret_bool ?_, rfl⟩
    rw [Bool.eq_iff_iff]; simp [isLet]; omega
  · have a0 : 65 ≤ r := by omega
    have a2 : ¬ (97 ≤ r) := by omega
    go_enter Tryd.func17, Tryd.ntmps17
    go_wp2
    all_goals
      go_ret
      refine ⟨ret_bool ?_, rfl⟩
      rw [Bool.eq_iff_iff]; simp [isLet]; omega
  · have a0 : 65 ≤ r := by omega
    obtain ⟨a2, a3⟩ := h
    go_enter Tryd.func17, Tryd.ntmps17
    go_wp2
    go_ret
    refine ⟨ret_bool ?_, rfl⟩
    rw [Bool.eq_iff_iff]; simp [isLet]; omega
  · have a0 : 65 ≤ r := by omega
    have a2 : 97 ≤ r := by omega
    go_enter Tryd.func17, Tryd.ntmps17
    go_wp2
    go_ret
    refine ⟨ret_bool ?_, rfl⟩
    rw [Bool.eq_iff_iff]; simp [isLet]; omega

/-- The digit of a base, 10 or 16. -/
def digV (base r : Nat) : Nat := (digv base r).getD 0
def digB (base r : Nat) : Bool := (digv base r).isSome

theorem digitOf_any (r base : Nat) (w : World) (hr : r ≤ 1114111) (hb : base = 10 ∨ base = 16) :
    Calls Tryd.prog 29 #[.int .i32 r, .int .u64 base] w fun e w' => e = .returned (.tuple #[.int .u64 (digV base r), .bool (digB base r)]) ∧ w' = w := by
  unfold digV digB
  by_cases hd : 48 ≤ r ∧ r ≤ 57
  · have e1 : digv base r = some (r - 48) := if_pos hd
    have e2 := show isDig r = true from decide_eq_true hd
    rw [e1]
    obtain ⟨h1, h2⟩ := hd
    go_enter Tryd.func29, Tryd.ntmps29
    go_wp2_with (go_at_call 18; refine (isDigit_any _ _).mono ?_; rintro e w' ⟨rfl, rfl⟩; rw [e2])
    go_ret2
    refine ⟨?_, rfl⟩
    simp
    omega
  · have e2 := show isDig r = false from decide_eq_false hd
    by_cases hx : base = 16 ∧ 97 ≤ r ∧ r ≤ 102
    · have e1 : digv base r = some (r - 97 + 10) := by unfold digv; rw [if_neg hd, if_pos hx]
      rw [e1]
      obtain ⟨h0, h1, h2⟩ := hx
      subst h0
      clear hd hb
      go_enter Tryd.func29, Tryd.ntmps29
      go_wp2_with (go_at_call 18; refine (isDigit_any _ _).mono ?_; rintro e w' ⟨rfl, rfl⟩; rw [e2])
      go_ret2
      refine ⟨?_, rfl⟩
      simp
      omega
    · have e1 : digv base r = none := by unfold digv; rw [if_neg hd, if_neg hx]
      rw [e1]
      clear hd
      rcases hb with rfl | rfl
      · clear hx
        go_enter Tryd.func29, Tryd.ntmps29
        go_wp2_with (go_at_call 18; refine (isDigit_any _ _).mono ?_; rintro e w' ⟨rfl, rfl⟩; rw [e2])
        go_ret2
        exact ⟨rfl, rfl⟩
      · by_cases h97 : 97 ≤ r
        · have h102 : ¬ r ≤ 102 := by omega
          clear hx
          go_enter Tryd.func29, Tryd.ntmps29
          go_wp2_with (go_at_call 18; refine (isDigit_any _ _).mono ?_; rintro e w' ⟨rfl, rfl⟩; rw [e2])
          go_ret2
          exact ⟨rfl, rfl⟩
        · clear hx
          go_enter Tryd.func29, Tryd.ntmps29
          go_wp2_with (go_at_call 18; refine (isDigit_any _ _).mono ?_; rintro e w' ⟨rfl, rfl⟩; rw [e2])
          go_ret2
          exact ⟨rfl, rfl⟩

/-! ### Value -/
theorem low48 (l : List UInt8) (hne : l ≠ []) (k : Nat) (hk : k < 128) : (decodeL l).1 = k ↔ (l.getD 0 0).toNat = k := by
  constructor
  · intro h
    have := low_char l (by omega)
    omega
  · intro h
    match l, hne, h with
    | b :: t, _, h =>
      have hb : b.toNat = k := by simpa using h
      rw [decodeL_ascii b t (by omega)]
      exact hb

/-- The text's first two characters are 0x just if its first two bytes are. -/
theorem prefix_iff (l : List UInt8) : hasPrefix l [48, 120] = true ↔ ∃ t, (chs l).map (·.1) = 48 :: 120 :: t := by
  constructor
  · intro h
    match l, h with
    | a :: b :: t, h =>
      simp [hasPrefix, List.isPrefixOf] at h
      obtain ⟨rfl, rfl⟩ := h
      exact ⟨(chs t).map (·.1), by rw [chs_ascii 48 _ (by decide), chs_ascii 120 _ (by decide)]; rfl⟩
    | [a], h => simp [hasPrefix, List.isPrefixOf] at h
    | [], h => simp [hasPrefix, List.isPrefixOf] at h
  · rintro ⟨t, h⟩
    have hne : l ≠ [] := fun e => by subst e; simp [chs_nil] at h
    rw [chs_step l hne] at h
    simp only [List.map_cons, List.cons.injEq] at h
    obtain ⟨h1, h2⟩ := h
    have hl := low_char l (by omega)
    rw [hl.1] at h2
    have hne2 : l.drop 1 ≠ [] := fun e => by rw [e] at h2; simp [chs_nil] at h2
    rw [chs_step _ hne2] at h2
    simp only [List.map_cons, List.cons.injEq] at h2
    have hl2 := low_char (l.drop 1) (by omega)
    match l, hne, hne2, hl, hl2, h1, h2 with
    | a :: b :: t', _, _, hl, hl2, h1, h2 =>
      have ha : a.toNat = 48 := by have := hl.2; simp at this; omega
      have hb : b.toNat = 120 := by have := hl2.2; simp at this; have := h2.1; simp at this; omega
      have ea : a = 48 := UInt8.toNat_inj.1 ha
      have eb : b = 120 := UInt8.toNat_inj.1 hb
      subst ea eb
      simp [hasPrefix, List.isPrefixOf]
    | [a], _, hne2, _, _, _, _ => simp at hne2

theorem valS_pre (l : List UInt8) (h : hasPrefix l [48, 120] = true) : valS ((chs l).map (·.1)) = valGo 16 ((chs (trimPrefix l [48, 120])).map (·.1)) 0 false false := by
  match l, h with
  | a :: b :: t, h =>
    have h' := h
    simp [hasPrefix, List.isPrefixOf] at h
    obtain ⟨rfl, rfl⟩ := h
    rw [chs_ascii 48 _ (by decide), chs_ascii 120 _ (by decide)]
    unfold trimPrefix
    rw [if_pos h']
    rfl
  | [a], h => simp [hasPrefix, List.isPrefixOf] at h
  | [], h => simp [hasPrefix, List.isPrefixOf] at h
theorem valS_nopre (l : List UInt8) (h : hasPrefix l [48, 120] = false) : valS ((chs l).map (·.1)) = valGo 10 ((chs (trimPrefix l [48, 120])).map (·.1)) 0 false false := by
  unfold trimPrefix
  rw [h, if_neg (by simp)]
  refine valS_dec _ fun t e => ?_
  rw [(prefix_iff l).2 ⟨t, e⟩] at h
  cases h

/-- The loop's answer from a place on. -/
def valAt (base : Nat) (s : ByteArray) (pos w : Nat) (was over : Bool) : Nat × Nat := valGo base ((chs (s.data.toList.drop pos)).map (·.1)) w was over
theorem drop_ne (s : ByteArray) (pos : Nat) (h : pos < s.size) : s.data.toList.drop pos ≠ [] := fun e => by
  have := congrArg List.length e
  rw [List.length_drop, ← size_eq] at this
  simp at this
  omega
theorem drop_end (s : ByteArray) (pos : Nat) (h : ¬ pos < s.size) : s.data.toList.drop pos = [] := List.drop_eq_nil_of_le (by rw [← size_eq]; omega)
theorem chs_at (s : ByteArray) (pos : Nat) (h : pos < s.size) :
    chs (s.data.toList.drop pos) = ((Utf8.decode s pos).1, (s.data.toList.drop pos).take (Utf8.decode s pos).2) :: chs (s.data.toList.drop (pos + (Utf8.decode s pos).2)) := by
  rw [chs_step _ (drop_ne s pos h), decodeL_drop, List.drop_drop]
theorem valAt_step (base : Nat) (s : ByteArray) (pos w : Nat) (was over : Bool) (h : pos < s.size) :
    valAt base s pos w was over = valGo base ((Utf8.decode s pos).1 :: (chs (s.data.toList.drop (pos + (Utf8.decode s pos).2))).map (·.1)) w was over := by
  unfold valAt
  rw [chs_at s pos h]
  rfl
theorem valAt_dig (base : Nat) (s : ByteArray) (pos w : Nat) (was over : Bool) (h : pos < s.size) (hd : digB base (Utf8.decode s pos).1 = true) :
    valAt base s pos w was over = valAt base s (pos + (Utf8.decode s pos).2) ((w * base + digV base (Utf8.decode s pos).1) % 18446744073709551616) true (over || decide (18446744073709551616 ≤ w * base + digV base (Utf8.decode s pos).1)) := by
  rw [valAt_step base s pos w was over h]
  unfold digB at hd
  obtain ⟨d, e⟩ := Option.isSome_iff_exists.1 hd
  rw [valGo_some base _ d _ _ _ _ e]
  unfold digV
  rw [e]
  rfl
theorem valAt_none (base : Nat) (s : ByteArray) (pos w : Nat) (was over : Bool) (h : pos < s.size) (hd : digB base (Utf8.decode s pos).1 = false) :
    valAt base s pos w was over = if (Utf8.decode s pos).1 = 95 ∧ was = true then valAt base s (pos + (Utf8.decode s pos).2) w false over else (0, 61) := by
  rw [valAt_step base s pos w was over h]
  unfold digB at hd
  rw [valGo_none base _ _ _ _ _ (by simpa using hd)]
  rfl
theorem valAt_end (base : Nat) (s : ByteArray) (pos w : Nat) (was over : Bool) (h : ¬ pos < s.size) :
    valAt base s pos w was over = if was = false then (0, 61) else if over = true then (0, 11) else (w, 0) := by
  unfold valAt
  rw [drop_end s pos h, chs_nil]
  rfl
theorem digB_95 (base : Nat) : digB base 95 = false := by
  unfold digB digv
  rw [if_neg (by omega), if_neg (by omega)]
  rfl
theorem digV_lt (base r : Nat) : digV base r < 16 := by
  unfold digV
  cases h : digv base r with
  | none => simp
  | some d => exact digv_lt base r d h

theorem or_eq_zero (a b : Nat) : a ||| b = 0 ↔ a = 0 ∧ b = 0 := by
  constructor
  · intro h
    refine ⟨Nat.eq_of_testBit_eq fun i => ?_, Nat.eq_of_testBit_eq fun i => ?_⟩
    all_goals
      have := congrArg (fun x => Nat.testBit x i) h
      simp only [Nat.testBit_or, Nat.zero_testBit, Bool.or_eq_false_iff] at this
      simp [this]
  · rintro ⟨rfl, rfl⟩; rfl
/-- What is beyond a word, by the two carries. -/
theorem over_iff (x base d : Nat) : x * base / 18446744073709551616 ||| (x * base % 18446744073709551616 + d) / 18446744073709551616 = 0 ↔ ¬ 18446744073709551616 ≤ x * base + d := by
  rw [or_eq_zero]
  generalize x * base = y
  omega
theorem sum_eq (x base d : Nat) : (x * base % 18446744073709551616 + d) % 18446744073709551616 = (x * base + d) % 18446744073709551616 := by
  generalize x * base = y
  omega
end Go.Proofs.YtbpahdgkedfmdaaDoor
