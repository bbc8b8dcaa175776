/- The walks of the document's answers for layer 4, first part: listed, Right. -/
import Derived.Test.YtdpcbdbdacjcbaaDoorDescMath
import Derived.Test.YtdpcbdbdacjcbaaDoorDescAnchor
namespace Go.Proofs.YtdpcbdbdacjcbaaDoor
open Go.RowKit

theorem rightP_out {l k : Int} {o : Nat} {u r x s : Bool} {a : Int} (ho : o < 18446744073709551616) (h : rightP l k o u r x s a = true) : 0 ≤ k ∧ k ≤ 3 ∧ 0 ≤ a ∧ a ≤ 7 ∧ o < 281474976710656 := by
  have hl : ¬ isLv l = false := by rw [rightP_lv h]; decide
  have hb : ∀ {n : Nat}, 12 ≤ n → n < 48 → isOutB o (n : Int) = true → o < 281474976710656 := fun h1 h2 h3 => by
    rw [isOut_mod o _ ho h1 h2] at h3
    exact (of_decide_eq_true h3).1
  have hll : leafB l o a = true → o < 281474976710656 := fun hlb => by
    unfold leafB at hlb
    rw [Bool.and_eq_true] at hlb
    rcases low_lv (rightP_lv h) with rfl | rfl | rfl | rfl
    · exact hb (n := 39) (by omega) (by omega) hlb.1
    · exact hb (n := 30) (by omega) (by omega) hlb.1
    · exact hb (n := 21) (by omega) (by omega) hlb.1
    · exact hb (n := 12) (by omega) (by omega) hlb.1
  have hbare : bareB u r x s a = true → a = 0 := fun hq => by
    unfold bareB at hq
    simp only [Bool.and_eq_true, beq_iff_eq] at hq
    exact hq.2
  have hk := rightP_kind h
  rcases hk with rfl | rfl | rfl | rfl
  · unfold rightP at h
    rw [if_neg hl, if_pos rfl, Bool.and_eq_true, beq_iff_eq] at h
    have := hbare h.1
    omega
  · unfold rightP at h
    rw [if_neg hl, if_neg (by decide), if_pos rfl, Bool.and_eq_true, Bool.and_eq_true] at h
    have := hbare h.1.2
    have := hb (n := 12) (by omega) (by omega) h.2
    omega
  · have := rightP_leaf (Or.inl rfl) h
    unfold rightP at h
    rw [if_neg hl, if_neg (by decide), if_neg (by decide), if_pos rfl, Bool.and_eq_true] at h
    have := hll h.2
    omega
  · have := rightP_leaf (Or.inr rfl) h
    unfold rightP at h
    rw [if_neg hl, if_neg (by decide), if_neg (by decide), if_neg (by decide), if_pos rfl, Bool.and_eq_true] at h
    have := hll h.2
    omega

theorem down_al (o : Nat) (L : Int) (ho : o < 18446744073709551616) : ((downV o L : Int) == (o : Int)) = alignedB o L := by
  rcases align_cases o L ho with ⟨ha, hd, _⟩ | ⟨ha, hd, _⟩ | ⟨ha, hd, _⟩
  · rw [ha, hd]; simp
  · rw [ha, beq_eq_false_iff_ne]; omega
  · rw [ha, beq_eq_false_iff_ne]; omega
theorem leaf_al (l : Int) (o : Nat) (a : Int) (hl : isLv l = true) (ha0 : 0 ≤ a) (ha7 : a ≤ 7) (ho : o < 281474976710656) : leafB l o a = alignedB o (lowL l) := by
  have hq : ∀ {n : Nat}, 12 ≤ n → n < 48 → isOutB o (n : Int) = alignedB o (n : Int) := fun h1 h2 => by
    rw [isOut_mod o _ (by omega) h1 h2, aligned_mod o (by omega) (by omega), decide_eq_decide]
    exact ⟨fun h => h.2, fun h => ⟨ho, h⟩⟩
  unfold leafB
  rw [decide_eq_true (show 0 ≤ a ∧ a ≤ 7 from ⟨ha0, ha7⟩), Bool.and_true]
  rcases low_lv hl with rfl | rfl | rfl | rfl
  · exact hq (n := 39) (by omega) (by omega)
  · exact hq (n := 30) (by omega) (by omega)
  · exact hq (n := 21) (by omega) (by omega)
  · exact hq (n := 12) (by omega) (by omega)
theorem low_nn {l : Int} (hl : isLv l = true) : 0 ≤ lowL l := by
  rcases low_lv hl with rfl | rfl | rfl | rfl <;> decide
theorem cDownL (o : Nat) (L : Int) (h0 : 0 ≤ L) (ho : o < 18446744073709551616) (w : World) :
    Calls Tryd.prog 66 #[.int .u64 o, .int .i64 L] w fun e w' => e = .returned (.int .u64 ((downV o L : Nat) : Int)) ∧ Below w.heap.size w w' := by
  have c := refDown_any o L ho h0 w
  rw [refDown_eq o L L ho (by omega)] at c
  exact c

end Go.Proofs.YtdpcbdbdacjcbaaDoor
