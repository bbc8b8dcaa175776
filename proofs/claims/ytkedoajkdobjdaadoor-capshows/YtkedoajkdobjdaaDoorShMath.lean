/- A number's text in the base 16: plain Lean (of ShowMath, less what reads it again). -/
import Derived.WalkKit
namespace Go.Proofs.YtkedoajkdobjdaaDoor

/-- A digit's byte. -/
def hexB (d : Nat) : Nat := if d < 10 then 48 + d else 87 + d
def hexG : Nat → Nat → List Nat
  | 0, _ => []
  | f + 1, n => if n < 16 then [hexB n] else hexG f (n / 16) ++ [hexB (n % 16)]
/-- The digits of a word, as bytes. -/
def hexL (n : Nat) : List Nat := hexG 16 n

theorem hexG_fuel : ∀ (f g n : Nat), n < 16 ^ f → n < 16 ^ g → 0 < f → 0 < g → hexG f n = hexG g n
  | f + 1, g + 1, n, hf, hg, _, _ => by
    unfold hexG
    by_cases h : n < 16
    · rw [if_pos h, if_pos h]
    · rw [if_neg h, if_neg h]
      have h1 : n / 16 < 16 ^ f := by rw [Nat.pow_succ] at hf; omega
      have h2 : n / 16 < 16 ^ g := by rw [Nat.pow_succ] at hg; omega
      have hf0 : 0 < f := by cases f with | zero => simp at h1; omega | succ _ => omega
      have hg0 : 0 < g := by cases g with | zero => simp at h2; omega | succ _ => omega
      rw [hexG_fuel f g _ h1 h2 hf0 hg0]
theorem hexL_small (n : Nat) (h : n < 16) : hexL n = [hexB n] := by
  show hexG (15 + 1) n = _
  unfold hexG
  rw [if_pos h]
theorem hexL_step (n : Nat) (hn : n < 18446744073709551616) (h : ¬ n < 16) : hexL n = hexL (n / 16) ++ [hexB (n % 16)] := by
  show hexG (15 + 1) n = _
  unfold hexG
  rw [if_neg h]
  unfold hexL
  rw [hexG_fuel 15 16 (n / 16) (by have : (16 : Nat) ^ 15 = 1152921504606846976 := by decide
                                   omega) (by have : (16 : Nat) ^ 16 = 18446744073709551616 := by decide
                                              omega) (by omega) (by omega)]
theorem hexB_lt (d : Nat) (h : d < 16) : 48 ≤ hexB d ∧ hexB d < 103 ∧ (hexB d ≤ 57 ∨ 97 ≤ hexB d) := by unfold hexB; split <;> omega
theorem hexG_mem : ∀ (f n : Nat), ∀ b ∈ hexG f n, ∃ d, d < 16 ∧ b = hexB d
  | 0, _, b, h => by cases h
  | f + 1, n, b, h => by
    unfold hexG at h
    by_cases hn : n < 16
    · rw [if_pos hn] at h; simp at h; exact ⟨n, hn, h⟩
    · rw [if_neg hn] at h
      rcases List.mem_append.1 h with h | h
      · exact hexG_mem f _ b h
      · simp at h; exact ⟨n % 16, by omega, h⟩
theorem hexG_len : ∀ (f n : Nat), (hexG f n).length ≤ f
  | 0, _ => by simp [hexG]
  | f + 1, n => by
    unfold hexG
    split
    · simp
    · have := hexG_len f (n / 16)
      rw [List.length_append]; simp; omega
theorem hexL_len (n : Nat) : (hexL n).length ≤ 16 := hexG_len 16 n
theorem hexG_ne : ∀ (f n : Nat), 0 < f → hexG f n ≠ []
  | f + 1, n, _ => by unfold hexG; split <;> simp
/-- What Show says, as bytes. -/
def showL (w : Nat) : List Nat := if w < 10 then [48 + w] else 48 :: 120 :: hexL w
/-- The text, and its characters. -/
def showB (w : Nat) : ByteArray := ⟨((showL w).map (·.toUInt8)).toArray⟩
end Go.Proofs.YtkedoajkdobjdaaDoor
