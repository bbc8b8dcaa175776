/- Plain facts: a word says something just if the document says so; and the word of a right descriptor says it. -/
import Derived.Test.YtdpcbdbdacjcbaaDoorDescOK
import Derived.Test.YtdpcbdbdacjcbaaDoorRefDescC
namespace Go.Proofs.YtdpcbdbdacjcbaaDoor
open Go.RowKit

theorem mod_bits (y n : Nat) : y % 2 ^ n = 0 ↔ ∀ i, i < n → y.testBit i = false := by
  constructor
  · intro h i hi
    have e : (y % 2 ^ n).testBit i = false := by rw [h, Nat.zero_testBit]
    rw [Nat.testBit_mod_two_pow, decide_eq_true hi, Bool.true_and] at e
    exact e
  · intro h
    apply Nat.eq_of_testBit_eq
    intro i
    rw [Nat.testBit_mod_two_pow, Nat.zero_testBit]
    by_cases hi : i < n
    · rw [h i hi]; simp
    · rw [decide_eq_false hi, Bool.false_and]
theorem lt_bits (y n : Nat) (h : ∀ i, n ≤ i → y.testBit i = false) : y < 2 ^ n := Nat.lt_pow_two_of_testBit y h

theorem outV_lt48 (x : Nat) : outV x < 281474976710656 := lt_bits (outV x) 48 fun i hi => by
  rw [outV_testBit, decide_eq_false (show ¬ (12 ≤ i ∧ i < 48) by omega), Bool.and_false]
theorem isOut_outV (x n : Nat) (h1 : 12 ≤ n) (h2 : n < 48) : isOutB (outV x) (n : Int) = true ↔ ∀ i, 12 ≤ i → i < n → x.testBit i = false := by
  rw [isOut_mod _ _ (outV_lt x) h1 h2, decide_eq_true_eq, mod_bits]
  constructor
  · rintro ⟨_, h⟩ i a b
    have e := h i b
    rw [outV_testBit, decide_eq_true (show 12 ≤ i ∧ i < 48 by omega), Bool.and_true] at e
    exact e
  · intro h
    refine ⟨outV_lt48 x, fun i hi => ?_⟩
    rw [outV_testBit]
    by_cases h12 : 12 ≤ i
    · rw [h i h12 hi, Bool.false_and]
    · rw [decide_eq_false (show ¬ (12 ≤ i ∧ i < 48) by omega), Bool.and_false]
theorem isOut_low (x : Nat) (l : Int) (hl : isLv l = true) : isOutB (outV x) (lowL l) = true ↔ ∀ i : Nat, 12 ≤ i → (i : Int) < lowL l → x.testBit i = false := by
  rcases low_lv hl with rfl | rfl | rfl | rfl
  · exact (isOut_outV x 39 (by omega) (by omega)).trans ⟨fun h i a b => h i a (by have e : lowL 0 = 39 := rfl; omega), fun h i a b => h i a (by have e : lowL 0 = 39 := rfl; omega)⟩
  · exact (isOut_outV x 30 (by omega) (by omega)).trans ⟨fun h i a b => h i a (by have e : lowL 1 = 30 := rfl; omega), fun h i a b => h i a (by have e : lowL 1 = 30 := rfl; omega)⟩
  · exact (isOut_outV x 21 (by omega) (by omega)).trans ⟨fun h i a b => h i a (by have e : lowL 2 = 21 := rfl; omega), fun h i a b => h i a (by have e : lowL 2 = 21 := rfl; omega)⟩
  · exact (isOut_outV x 12 (by omega) (by omega)).trans ⟨fun h i a b => h i a (by have e : lowL 3 = 12 := rfl; omega), fun h i a b => h i a (by have e : lowL 3 = 12 := rfl; omega)⟩
theorem lowL_le {l : Int} (hl : isLv l = true) : 12 ≤ lowL l ∧ lowL l ≤ 39 := by
  rcases low_lv hl with rfl | rfl | rfl | rfl <;> decide

/-- The word of the leaf that x says. -/
def leafW (x : Nat) (p : Bool) : Nat := orN p (leafN (outV x) (x.testBit 6) (!x.testBit 7) (!x.testBit 54) (x.testBit 10) (getV 2 3 x) ||| 2 ^ 0) (2 ^ 1)
theorem leafW_lt (x : Nat) (p : Bool) : leafW x p < 18446744073709551616 :=
  orN_lt _ (or_lt _ _ (leafN_lt _ _ _ _ (outV_lt x) (getV23_le x)) (by decide)) (by decide)

theorem leafW_iff (x : Nat) (p : Bool) (hx : x < 18446744073709551616) (h0 : x.testBit 0 = true) (h1 : x.testBit 1 = p) :
    leafW x p = x ↔ (headOK x = true ∧ ∀ i, 48 ≤ i → i < 64 → i ≠ 53 → i ≠ 54 → x.testBit i = false) := by
  have hf : ∀ j, j < 64 → (leafW x p).testBit j = _ := fun j hj => enc_rd x j p hj
  constructor
  · intro h
    rw [h] at hf
    have q : ∀ j, j < 64 → _ := hf
    have e5 := q 5 (by omega)
    have e8 := q 8 (by omega)
    have e9 := q 9 (by omega)
    have e11 := q 11 (by omega)
    have e53 := q 53 (by omega)
    simp at e5 e8 e9 e11 e53
    refine ⟨?_, fun i a b c d => ?_⟩
    · unfold headOK; rw [e5, e8, e9, e11, e53]; rfl
    · have e := q i b
      rw [if_neg (show ¬ i = 0 by omega), if_neg (show ¬ i = 1 by omega), if_neg (show ¬ i = 5 by omega), if_neg (show ¬ (i = 8 ∨ i = 9 ∨ i = 11 ∨ i = 53) by omega), if_neg (show ¬ (i < 48 ∨ i = 54) by omega)] at e
      exact e
  · rintro ⟨hh, hz⟩
    unfold headOK at hh
    simp only [Bool.and_eq_true, Bool.not_eq_true'] at hh
    obtain ⟨⟨⟨⟨e8, e9⟩, e11⟩, e53⟩, e5⟩ := hh
    apply Nat.eq_of_testBit_eq
    intro j
    by_cases hj : j < 64
    · rw [hf j hj]
      by_cases c0 : j = 0
      · rw [if_pos c0, c0, h0]
      rw [if_neg c0]
      by_cases c1 : j = 1
      · rw [if_pos c1, c1, h1]
      rw [if_neg c1]
      by_cases c5 : j = 5
      · rw [if_pos c5, c5, e5]
      rw [if_neg c5]
      by_cases c8 : j = 8 ∨ j = 9 ∨ j = 11 ∨ j = 53
      · rw [if_pos c8]
        rcases c8 with c | c | c | c <;> rw [c] <;> simp [e8, e9, e11, e53]
      rw [if_neg c8]
      by_cases c48 : j < 48 ∨ j = 54
      · rw [if_pos c48]
      rw [if_neg c48]
      exact (hz j (by omega) hj (by omega) (by omega)).symm
    · rw [high_bit _ j (leafW_lt x p) (by omega), high_bit x j hx (by omega)]

theorem leaf_iff (l : Int) (x : Nat) (p : Bool) (hl : isLv l = true) (hx : x < 18446744073709551616) (h0 : x.testBit 0 = true) (h1 : x.testBit 1 = p) :
    (leafB l (outV x) ((getV 2 3 x : Nat) : Int) = true ∧ leafW x p = x) ↔ (headOK x = true ∧ ∀ i, 12 ≤ i → i < 64 → ¬ leafBad l x i) := by
  have hA := getV23_le x
  have hlo := lowL_le hl
  have e : leafB l (outV x) ((getV 2 3 x : Nat) : Int) = isOutB (outV x) (lowL l) := by
    unfold leafB; rw [decide_eq_true (show (0 : Int) ≤ ((getV 2 3 x : Nat) : Int) ∧ ((getV 2 3 x : Nat) : Int) ≤ 7 by omega), Bool.and_true]
  rw [e, isOut_low x l hl, leafW_iff x p hx h0 h1]
  constructor
  · rintro ⟨a, b, c⟩
    refine ⟨b, fun i i1 i2 hbad => ?_⟩
    obtain ⟨t, q | ⟨q1, q2, q3⟩⟩ := hbad
    · rw [a i i1 q] at t; cases t
    · rw [c i (by omega) i2 q2 q3] at t; cases t
  · rintro ⟨a, b⟩
    refine ⟨fun i i1 i2 => ?_, a, fun i i1 i2 i3 i4 => ?_⟩
    · cases t : x.testBit i
      · rfl
      · exact absurd ⟨t, Or.inl i2⟩ (b i i1 (by omega))
    · cases t : x.testBit i
      · rfl
      · exact absurd ⟨t, Or.inr ⟨by omega, i3, i4⟩⟩ (b i (by omega) i2)

theorem rd_leaf (l : Int) (x : Nat) (h0 : x.testBit 0 = true) (h : (x.testBit 1 && decide (l < 3)) = false) :
    rdK l x = (if x.testBit 1 = true then 3 else 2) ∧ rdO x = outV x ∧ rdU l x = x.testBit 6 ∧ rdR l x = (!x.testBit 7) ∧ rdX l x = (!x.testBit 54) ∧ rdS l x = x.testBit 10 ∧ rdA l x = ((getV 2 3 x : Nat) : Int) := by
  unfold rdK rdO rdU rdR rdX rdS rdA leafQ
  simp only [h0, h]
  simp

/-- A block. -/
theorem okD_block (l : Int) (x : Nat) (hl : isLv l = true) (hx : x < 18446744073709551616) (h0 : x.testBit 0 = true) (h1 : x.testBit 1 = false) :
    okD l x = true ↔ ((headOK x && decide (0 < l ∧ l < 3)) = true ∧ ∀ i, 12 ≤ i → i < 64 → ¬ leafBad l x i) := by
  obtain ⟨e0, e1, e2, e3, e4, e5, e6⟩ := rd_leaf l x h0 (by rw [h1]; rfl)
  rw [h1, if_neg (by decide)] at e0
  have hi := leaf_iff l x false hl hx h0 h1
  have hlf : ¬ isLv l = false := by rw [hl]; decide
  unfold okD
  rw [e0, e1, e2, e3, e4, e5, e6, rightP, if_neg hlf, if_neg (by decide), if_neg (by decide), if_pos rfl]
  have eN : encN 2 (outV x) (x.testBit 6) (!x.testBit 7) (!x.testBit 54) (x.testBit 10) ((getV 2 3 x : Nat) : Int) = leafW x false := rfl
  rw [eN]
  simp only [Bool.and_eq_true, beq_iff_eq] at hi ⊢
  constructor
  · rintro ⟨⟨a, b⟩, c⟩
    have := hi.1 ⟨b, c⟩
    exact ⟨⟨this.1, a⟩, this.2⟩
  · rintro ⟨⟨a, b⟩, c⟩
    have := hi.2 ⟨a, c⟩
    exact ⟨⟨b, this.1⟩, this.2⟩

/-- A page. -/
theorem okD_page (x : Nat) (hx : x < 18446744073709551616) (h0 : x.testBit 0 = true) (h1 : x.testBit 1 = true) :
    okD 3 x = true ↔ (headOK x = true ∧ ∀ i, 12 ≤ i → i < 64 → ¬ leafBad 3 x i) := by
  obtain ⟨e0, e1, e2, e3, e4, e5, e6⟩ := rd_leaf 3 x h0 (by rw [h1]; rfl)
  rw [h1, if_pos rfl] at e0
  have hi := leaf_iff 3 x true (by decide) hx h0 h1
  unfold okD
  rw [e0, e1, e2, e3, e4, e5, e6, rightP, if_neg (by decide), if_neg (by decide), if_neg (by decide), if_neg (by decide), if_pos rfl]
  have eN : encN 3 (outV x) (x.testBit 6) (!x.testBit 7) (!x.testBit 54) (x.testBit 10) ((getV 2 3 x : Nat) : Int) = leafW x true := rfl
  rw [eN]
  simp only [Bool.and_eq_true, beq_iff_eq, decide_eq_true_eq, true_and] at hi ⊢
  exact hi

theorem rd_tab (l : Int) (x : Nat) (h0 : x.testBit 0 = true) (h1 : x.testBit 1 = true) (h3 : l < 3) :
    rdK l x = 1 ∧ rdO x = outV x ∧ rdU l x = false ∧ rdR l x = false ∧ rdX l x = false ∧ rdS l x = false ∧ rdA l x = 0 := by
  unfold rdK rdO rdU rdR rdX rdS rdA leafQ
  simp only [h0, h1, decide_eq_true h3]
  simp

/-- A table. -/
theorem okD_table (l : Int) (x : Nat) (hl : isLv l = true) (hx : x < 18446744073709551616) (h0 : x.testBit 0 = true) (h1 : x.testBit 1 = true) (h3 : l < 3) :
    okD l x = true ↔ ∀ i, 2 ≤ i → i < 64 → ¬ tabBad x i := by
  obtain ⟨e0, e1, e2, e3, e4, e5, e6⟩ := rd_tab l x h0 h1 h3
  have hlf : ¬ isLv l = false := by rw [hl]; decide
  have ho : isOutB (outV x) 12 = true := (isOut_outV x 12 (by omega) (by omega)).2 (fun i a b => absurd b (by omega))
  have hb : bareB false false false false 0 = true := rfl
  have eN : encN 1 (outV x) false false false false 0 = outV x ||| 2 ^ 0 ||| 2 ^ 1 := rfl
  unfold okD
  rw [e0, e1, e2, e3, e4, e5, e6, rightP, if_neg hlf, if_neg (by decide), if_pos rfl, ho, hb, decide_eq_true h3, eN]
  simp only [Bool.and_true, Bool.true_and, beq_iff_eq]
  constructor
  · intro h i a b hbad
    have e : (outV x ||| 2 ^ 0 ||| 2 ^ 1).testBit i = x.testBit i := by rw [h]
    rw [or_testBit, or_testBit, outV_testBit, hbad.1, decide_eq_false (show ¬ (12 ≤ i ∧ i < 48) by have := hbad.2; omega), decide_eq_false (show ¬ 0 = i by omega), decide_eq_false (show ¬ 1 = i by omega)] at e
    cases e
  · intro h
    apply Nat.eq_of_testBit_eq
    intro i
    rw [or_testBit, or_testBit, outV_testBit]
    by_cases c0 : i = 0
    · subst c0; rw [h0]; rfl
    by_cases c1 : i = 1
    · subst c1; rw [h1]; rfl
    rw [decide_eq_false (show ¬ 0 = i by omega), decide_eq_false (show ¬ 1 = i by omega), Bool.or_false, Bool.or_false]
    by_cases c2 : i < 64
    · cases t : x.testBit i
      · rfl
      · have hn := h i (by omega) c2
        have : ¬ (i < 12 ∨ 47 < i) := fun q => hn ⟨t, q⟩
        rw [decide_eq_true (show 12 ≤ i ∧ i < 48 by omega)]; rfl
    · rw [high_bit x i hx (by omega)]; rfl

/-- The first of some bits. -/
theorem first_bad (P : Nat → Prop) (a b : Nat) (h : ¬ ∀ i, a ≤ i → i < b → ¬ P i) : ∃ i0, a ≤ i0 ∧ i0 < b ∧ P i0 ∧ ∀ i, a ≤ i → i < i0 → ¬ P i := by
  have hex : ∃ i, a ≤ i ∧ i < b ∧ P i := Classical.byContradiction fun hn => h fun i h1 h2 h3 => hn ⟨i, h1, h2, h3⟩
  have key : ∀ n, (∃ i, i ≤ n ∧ a ≤ i ∧ i < b ∧ P i) → ∃ i0, a ≤ i0 ∧ i0 < b ∧ P i0 ∧ ∀ i, a ≤ i → i < i0 → ¬ P i := by
    intro n
    induction n with
    | zero =>
      rintro ⟨i, h1, h2, h3, h4⟩
      exact ⟨i, h2, h3, h4, fun j _ hj => absurd hj (by omega)⟩
    | succ n ih =>
      rintro ⟨i, h1, h2, h3, h4⟩
      by_cases hq : ∃ i, i ≤ n ∧ a ≤ i ∧ i < b ∧ P i
      · exact ih hq
      · exact ⟨i, h2, h3, h4, fun j ha hj hP => hq ⟨j, by omega, ha, by omega, hP⟩⟩
  obtain ⟨i, h1, h2, h3⟩ := hex
  exact key i ⟨i, Nat.le_refl _, h1, h2, h3⟩

end Go.Proofs.YtdpcbdbdacjcbaaDoor
