/- A number's text in the base 16, and that it is read as the number: plain Lean. -/
import Derived.Test.YtbpahdgkedfmdaaDoorLexSpec
namespace Go.Proofs.YtbpahdgkedfmdaaDoor
open Go.Lib

/-- A digit's byte. -/
def hexB (d : Nat) : Nat := if d < 10 then 48 + d else 87 + d
def hexG : Nat → Nat → List Nat
  | 0, _ => []
  | f + 1, n => if n < 16 then [hexB n] else hexG f (n / 16) ++ [hexB (n % 16)]
/-- The digits of a word, as bytes. -/
def hexL (n : Nat) : List Nat := hexG 16 n

theorem hexG_fuel : ∀ (f g n : Nat), n < 16 ^ f → n < 16 ^ g → 0 < f → 0 < g → hexG f n = hexG g n
  | f + 1, g + 1, n, hf, hg, _, _ => by
    unfold hexG
    by_cases h : n < 16
    · rw [if_pos h, if_pos h]
    · rw [if_neg h, if_neg h]
      have h1 : n / 16 < 16 ^ f := by rw [Nat.pow_succ] at hf; omega
      have h2 : n / 16 < 16 ^ g := by rw [Nat.pow_succ] at hg; omega
      have hf0 : 0 < f := by cases f with | zero => simp at h1; omega | succ _ => omega
      have hg0 : 0 < g := by cases g with | zero => simp at h2; omega | succ _ => omega
      rw [hexG_fuel f g _ h1 h2 hf0 hg0]
theorem hexL_small (n : Nat) (h : n < 16) : hexL n = [hexB n] := by
  show hexG (15 + 1) n = _
  unfold hexG
  rw [if_pos h]
theorem hexL_step (n : Nat) (hn : n < 18446744073709551616) (h : ¬ n < 16) : hexL n = hexL (n / 16) ++ [hexB (n % 16)] := by
  show hexG (15 + 1) n = _
  unfold hexG
  rw [if_neg h]
  unfold hexL
  rw [hexG_fuel 15 16 (n / 16) (by have : (16 : Nat) ^ 15 = 1152921504606846976 := by decide
                                   omega) (by have : (16 : Nat) ^ 16 = 18446744073709551616 := by decide
                                              omega) (by omega) (by omega)]
theorem hexB_lt (d : Nat) (h : d < 16) : 48 ≤ hexB d ∧ hexB d < 103 ∧ (hexB d ≤ 57 ∨ 97 ≤ hexB d) := by unfold hexB; split <;> omega
theorem hexG_mem : ∀ (f n : Nat), ∀ b ∈ hexG f n, ∃ d, d < 16 ∧ b = hexB d
  | 0, _, b, h => by cases h
  | f + 1, n, b, h => by
    unfold hexG at h
    by_cases hn : n < 16
    · rw [if_pos hn] at h; simp at h; exact ⟨n, hn, h⟩
    · rw [if_neg hn] at h
      rcases List.mem_append.1 h with h | h
      · exact hexG_mem f _ b h
      · simp at h; exact ⟨n % 16, by omega, h⟩
theorem hexG_len : ∀ (f n : Nat), (hexG f n).length ≤ f
  | 0, _ => by simp [hexG]
  | f + 1, n => by
    unfold hexG
    split
    · simp
    · have := hexG_len f (n / 16)
      rw [List.length_append]; simp; omega
theorem hexL_len (n : Nat) : (hexL n).length ≤ 16 := hexG_len 16 n
theorem digv_hex (d : Nat) (h : d < 16) : digv 16 (hexB d) = some d := by
  unfold digv hexB
  by_cases h10 : d < 10
  · rw [if_pos h10, if_pos (by omega)]; congr 1; omega
  · rw [if_neg h10, if_neg (by omega), if_pos (by omega)]; congr 1; omega
/-- What digits come to, from a value on. -/
theorem valGo_hex : ∀ (l : List Nat) (x y : Nat) (was : Bool), (∀ b ∈ l, ∃ d, d < 16 ∧ b = hexB d) → l ≠ [] → True → (l.foldl (fun a b => a * 16 + (digv 16 b).getD 0) x = y) → y < 18446744073709551616 →
    valGo 16 l x was false = (y, 0)
  | [], _, _, _, _, h, _, _, _ => absurd rfl h
  | b :: l, x, y, was, hl, _, _, hy, hlt => by
    obtain ⟨d, hd, rfl⟩ := hl b List.mem_cons_self
    have e := digv_hex d hd
    rw [valGo_some 16 _ d l x was false e]
    rw [List.foldl_cons, e] at hy
    simp only [Option.getD_some] at hy
    have hmono : ∀ (l : List Nat) (a : Nat), a ≤ l.foldl (fun a b => a * 16 + (digv 16 b).getD 0) a := by
      intro l
      induction l with
      | nil => intro a; exact Nat.le_refl _
      | cons c l ih => intro a; rw [List.foldl_cons]; exact Nat.le_trans (by omega) (ih _)
    have h1 := hmono l (x * 16 + d)
    rw [hy] at h1
    have h2 : (x * 16 + d) % 18446744073709551616 = x * 16 + d := Nat.mod_eq_of_lt (by omega)
    have h3 : (false || decide (18446744073709551616 ≤ x * 16 + d)) = false := by simp; omega
    rw [h2, h3]
    cases hl2 : l with
    | nil =>
      rw [hl2] at hy
      simp only [List.foldl_nil] at hy
      rw [hy]
      rfl
    | cons c l2 =>
      rw [← hl2]
      exact valGo_hex l (x * 16 + d) y true (fun b hb => hl b (List.mem_cons_of_mem _ hb)) (by rw [hl2]; simp) trivial hy hlt
theorem fold_hexG : ∀ (f n : Nat), n < 16 ^ f → 0 < f → (hexG f n).foldl (fun a b => a * 16 + (digv 16 b).getD 0) 0 = n
  | f + 1, n, h, _ => by
    unfold hexG
    by_cases hn : n < 16
    · rw [if_pos hn, List.foldl_cons, digv_hex n hn]; simp
    · rw [if_neg hn, List.foldl_append, fold_hexG f (n / 16) (by rw [Nat.pow_succ] at h; omega) (by cases f with | zero => simp at h; omega | succ _ => omega), List.foldl_cons, digv_hex _ (by omega)]
      simp
      omega
theorem hexG_ne : ∀ (f n : Nat), 0 < f → hexG f n ≠ []
  | f + 1, n, _ => by unfold hexG; split <;> simp
/-- What Show says, as bytes. -/
def showL (w : Nat) : List Nat := if w < 10 then [48 + w] else 48 :: 120 :: hexL w
theorem valS_show (w : Nat) (h : w < 18446744073709551616) : valS (showL w) = (w, 0) := by
  unfold showL
  by_cases h10 : w < 10
  · rw [if_pos h10, valS_dec _ (fun t e => by simp at e)]
    have e : digv 10 (48 + w) = some w := by unfold digv; rw [if_pos (by omega)]; congr 1; omega
    rw [valGo_some 10 _ w [] 0 false false e, valGo_nil, if_neg (by simp), if_neg (by simp; omega)]
    congr 1
    omega
  · rw [if_neg h10, valS_hex]
    have hp : (16 : Nat) ^ 16 = 18446744073709551616 := by decide
    exact valGo_hex (hexL w) 0 w false (hexG_mem 16 w) (hexG_ne 16 w (by omega)) trivial (fold_hexG 16 w (by omega) (by omega)) h
/-- No nought ahead. -/
theorem hexG_head : ∀ (f n : Nat), 0 < n → n < 16 ^ f → 0 < f → (hexG f n).headD 48 ≠ 48
  | f + 1, n, h0, h, _ => by
    unfold hexG
    by_cases hn : n < 16
    · rw [if_pos hn]; show hexB n ≠ 48; unfold hexB; split <;> omega
    · rw [if_neg hn]
      have hf : 0 < f := by cases f with | zero => simp at h; omega | succ _ => omega
      have ih := hexG_head f (n / 16) (by omega) (by rw [Nat.pow_succ] at h; omega) hf
      have hne := hexG_ne f (n / 16) hf
      cases hx : hexG f (n / 16) with
      | nil => exact absurd hx hne
      | cons a t => rw [hx] at ih; exact ih
theorem hexL_head (n : Nat) (h0 : 0 < n) (h : n < 18446744073709551616) : (hexL n).headD 48 ≠ 48 :=
  hexG_head 16 n h0 (by have : (16 : Nat) ^ 16 = 18446744073709551616 := by decide
                        omega) (by omega)
theorem showL_byte (w : Nat) : ∀ b ∈ showL w, b < 128 := by
  unfold showL
  split
  · intro b hb; simp at hb; omega
  · intro b hb
    rcases List.mem_cons.1 hb with rfl | hb
    · omega
    · rcases List.mem_cons.1 hb with rfl | hb
      · omega
      · obtain ⟨d, hd, rfl⟩ := hexG_mem 16 w b hb
        have := hexB_lt d hd
        omega
/-- The text, and its characters. -/
def showB (w : Nat) : ByteArray := ⟨((showL w).map (·.toUInt8)).toArray⟩
theorem chs_low : ∀ (l : List Nat), (∀ b ∈ l, b < 128) → (chs (l.map (·.toUInt8))).map (·.1) = l
  | [], _ => rfl
  | b :: l, h => by
    have hb := h b List.mem_cons_self
    have e : b.toUInt8.toNat = b := by simp; omega
    rw [List.map_cons, chs_ascii _ _ (by rw [e]; exact hb), List.map_cons, e, chs_low l fun c hc => h c (List.mem_cons_of_mem _ hc)]
theorem chs_show (w : Nat) : (chs (showB w).data.toList).map (·.1) = showL w := by
  have e : (showB w).data.toList = (showL w).map (·.toUInt8) := by simp [showB]
  rw [e]
  exact chs_low _ (showL_byte w)
end Go.Proofs.YtbpahdgkedfmdaaDoor
