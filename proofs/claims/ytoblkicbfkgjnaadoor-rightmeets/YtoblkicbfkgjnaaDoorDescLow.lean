/- What stands in for the texts of Encode and Decode where a statement reaches neither: laws of what is right, and a descriptor's value. -/
import Derived.Test.YtoblkicbfkgjnaaDoorDescC
import Derived.Laws.ResultCell
namespace Go.Proofs.YtoblkicbfkgjnaaDoor
open Go.RowKit

theorem rightP_lv {l k : Int} {o : Nat} {u r x s : Bool} {a : Int} (h : rightP l k o u r x s a = true) : isLv l = true := by
  unfold rightP at h
  cases hl : isLv l
  · rw [if_pos hl] at h; cases h
  · rfl
theorem rightP_leaf {l : Int} {o : Nat} {u r x s : Bool} {a : Int} {k : Int} (hk : k = 2 ∨ k = 3) (h : rightP l k o u r x s a = true) : 0 ≤ a ∧ a ≤ 7 := by
  have hl : ¬ isLv l = false := by rw [rightP_lv h]; decide
  unfold rightP at h
  rw [if_neg hl] at h
  have hb : leafB l o a = true := by
    rcases hk with rfl | rfl
    · rw [if_neg (by decide), if_neg (by decide), if_pos rfl, Bool.and_eq_true] at h; exact h.2
    · rw [if_neg (by decide), if_neg (by decide), if_neg (by decide), if_pos rfl, Bool.and_eq_true] at h; exact h.2
  unfold leafB at hb
  rw [Bool.and_eq_true] at hb
  exact of_decide_eq_true hb.2
theorem rightP_kind {l k : Int} {o : Nat} {u r x s : Bool} {a : Int} (h : rightP l k o u r x s a = true) : k = 0 ∨ k = 1 ∨ k = 2 ∨ k = 3 := by
  have hl : ¬ isLv l = false := by rw [rightP_lv h]; decide
  unfold rightP at h
  rw [if_neg hl] at h
  by_cases h0 : k = 0
  · exact Or.inl h0
  by_cases h1 : k = 1
  · exact Or.inr (Or.inl h1)
  by_cases h2 : k = 2
  · exact Or.inr (Or.inr (Or.inl h2))
  by_cases h3 : k = 3
  · exact Or.inr (Or.inr (Or.inr h3))
  rw [if_neg h0, if_neg h1, if_neg h2, if_neg h3] at h; cases h

/-- The value of a descriptor's seven parts. -/
abbrev dv (k : Int) (o : Nat) (u r x s : Bool) (a : Int) : Value := .agg #[.int .i64 k, .int .u64 (o : Int), .bool u, .bool r, .bool x, .bool s, .int .i64 a]

end Go.Proofs.YtoblkicbfkgjnaaDoor
