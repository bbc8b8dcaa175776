/- Plain facts: the word of a right descriptor says just it. -/
import Derived.Test.YtoolmhkonhcfpaaDoorRefDescE
namespace Go.Proofs.YtoolmhkonhcfpaaDoor
open Go.RowKit

theorem bare_of {u r x s : Bool} {a : Int} (h : bareB u r x s a = true) : u = false ∧ r = false ∧ x = false ∧ s = false ∧ a = 0 := by
  unfold bareB at h
  simp only [Bool.and_eq_true, Bool.not_eq_true', beq_iff_eq] at h
  exact ⟨h.1.1.1.1, h.1.1.1.2, h.1.1.2, h.1.2, h.2⟩
theorem o_bits {o : Nat} (h1 : o < 281474976710656) (h2 : o % 4096 = 0) : (∀ i, i < 12 → o.testBit i = false) ∧ ∀ i, 48 ≤ i → o.testBit i = false := by
  refine ⟨(mod_bits o 12).1 h2, fun i hi => ?_⟩
  exact Nat.testBit_lt_two_pow (Nat.lt_of_lt_of_le h1 (show 281474976710656 ≤ 2 ^ i from Nat.pow_le_pow_right (n := 2) (by omega) (show 48 ≤ i from hi)))
theorem outV_back {o W : Nat} (hb : (∀ i, i < 12 → o.testBit i = false) ∧ ∀ i, 48 ≤ i → o.testBit i = false) (h : ∀ i, 12 ≤ i → i < 48 → W.testBit i = o.testBit i) : outV W = o := by
  apply Nat.eq_of_testBit_eq
  intro i
  rw [outV_testBit]
  by_cases h1 : i < 12
  · rw [decide_eq_false (show ¬ (12 ≤ i ∧ i < 48) by omega), Bool.and_false, hb.1 i h1]
  · by_cases h2 : i < 48
    · rw [decide_eq_true (show 12 ≤ i ∧ i < 48 by omega), Bool.and_true, h i (by omega) h2]
    · rw [decide_eq_false (show ¬ (12 ≤ i ∧ i < 48) by omega), Bool.and_false, hb.2 i (by omega)]

/-- The word of a leaf, bit by bit. -/
theorem leaf_bits {o : Nat} (u r x s : Bool) {a : Nat} (p : Bool) (hb : (∀ i, i < 12 → o.testBit i = false) ∧ ∀ i, 48 ≤ i → o.testBit i = false) (ha : a ≤ 7) (W : Nat) (hW : W = orN p (leafN o u r x s a ||| 2 ^ 0) (2 ^ 1)) :
    W.testBit 0 = true ∧ W.testBit 1 = p ∧ W.testBit 6 = u ∧ W.testBit 7 = (!r) ∧ W.testBit 10 = s ∧ W.testBit 54 = (!x) ∧ outV W = o ∧ getV 2 3 W = a := by
  have hf : ∀ j, W.testBit j = _ := fun j => by rw [hW, orN_testBit, or_testBit, leafN_testBit _ _ _ _ _ _ _ ha]
  have b0 := hb.1 0 (by omega)
  have b1 := hb.1 1 (by omega)
  have b6 := hb.1 6 (by omega)
  have b7 := hb.1 7 (by omega)
  have b10 := hb.1 10 (by omega)
  have b54 := hb.2 54 (by omega)
  refine ⟨?_, ?_, ?_, ?_, ?_, ?_, ?_, ?_⟩
  · rw [hf]; simp
  · rw [hf, b1]; simp
  · rw [hf, b6]; simp
  · rw [hf, b7]; simp
  · rw [hf, b10]; simp
  · rw [hf, b54]; simp
  · refine outV_back hb fun i h1 h2 => ?_
    have e : ∀ k, k < 12 ∨ 47 < k → decide (k = i) = false := fun k hk => decide_eq_false (by omega)
    rw [hf, if_neg (show ¬ (2 ≤ i ∧ i < 5) by omega), e 8 (by omega), e 9 (by omega), e 11 (by omega), e 53 (by omega), e 6 (by omega), e 7 (by omega), e 10 (by omega), e 54 (by omega), e 0 (by omega), e 1 (by omega), decide_eq_true (show i < 64 by omega)]
    simp
  · apply Nat.eq_of_testBit_eq
    intro i
    rw [getA_testBit]
    by_cases hi : i < 3
    · have e2 : 2 + i - 2 = i := by omega
      have e : ∀ k, k < 2 ∨ 4 < k → decide (k = 2 + i) = false := fun k hk => decide_eq_false (by omega)
      rw [decide_eq_true hi, Bool.true_and, hf, if_pos (show 2 ≤ 2 + i ∧ 2 + i < 5 by omega), e2, e 6 (by omega), e 7 (by omega), e 10 (by omega), e 54 (by omega), e 0 (by omega), e 1 (by omega)]
      simp
    · rw [decide_eq_false hi, Bool.false_and]
      exact (Nat.testBit_lt_two_pow (Nat.lt_of_lt_of_le (show a < 2 ^ 3 by omega) (Nat.pow_le_pow_right (by omega) (by omega)))).symm

/-- If a word says a right descriptor whose word it is, it is not reserved. -/
theorem good_of {l k : Int} {o : Nat} {u r x s : Bool} {a : Int} {W : Nat} (hr : rightP l k o u r x s a = true) (hW : encN k o u r x s a = W)
    (e0 : rdK l W = k) (e1 : rdO W = o) (e2 : rdU l W = u) (e3 : rdR l W = r) (e4 : rdX l W = x) (e5 : rdS l W = s) (e6 : rdA l W = a) : goodD l W = true ∧ rdV l W = dv k o u r x s a := by
  refine ⟨?_, by unfold rdV; rw [e0, e1, e2, e3, e4, e5, e6]⟩
  unfold goodD okD
  rw [e0, e1, e2, e3, e4, e5, e6, hr, hW]
  simp

theorem leaf_al12 {l : Int} {o : Nat} {a : Int} (hl : isLv l = true) (ha0 : 0 ≤ a) (ha7 : a ≤ 7) (ho : o < 281474976710656) (h : leafB l o a = true) : o % 4096 = 0 := by
  rw [leaf_al l o a hl ha0 ha7 ho] at h
  have key : ∀ {n : Nat}, 1 ≤ n → n < 64 → alignedB o (n : Int) = true → o % 2 ^ n = 0 := fun h1 h2 h3 => by
    rw [aligned_mod o h1 h2] at h3; exact of_decide_eq_true h3
  rcases low_lv hl with rfl | rfl | rfl | rfl
  · have := key (n := 39) (by omega) (by omega) h; omega
  · have := key (n := 30) (by omega) (by omega) h; omega
  · have := key (n := 21) (by omega) (by omega) h; omega
  · have := key (n := 12) (by omega) (by omega) h; omega

theorem enc_back (l k : Int) (o : Nat) (u r x s : Bool) (a : Int) (ho : o < 18446744073709551616) (hr : rightP l k o u r x s a = true) :
    encW l k o u r x s a < 18446744073709551616 ∧ goodD l (encW l k o u r x s a) = true ∧ rdV l (encW l k o u r x s a) = dv k o u r x s a := by
  have hl := rightP_lv hr
  have hlf : ¬ isLv l = false := by rw [hl]; decide
  have hW : encW l k o u r x s a = encN k o u r x s a := by unfold encW; rw [if_neg (by rw [hr]; decide)]
  obtain ⟨_, _, ha0, ha7, ho48⟩ := rightP_out ho hr
  rw [hW]
  rcases rightP_kind hr with rfl | rfl | rfl | rfl
  · have h := hr
    rw [rightP, if_neg hlf, if_pos rfl, Bool.and_eq_true, beq_iff_eq] at h
    obtain ⟨rfl, rfl, rfl, rfl, rfl⟩ := bare_of h.1
    have h2 := h.2
    subst h2
    have e : encN 0 0 false false false false 0 = 0 := rfl
    rw [e]
    exact ⟨by omega, by unfold goodD; simp, rdV_inv l 0 (by simp)⟩
  · have h := hr
    rw [rightP, if_neg hlf, if_neg (by decide), if_pos rfl, Bool.and_eq_true, Bool.and_eq_true] at h
    obtain ⟨⟨h3, hbr⟩, hio⟩ := h
    obtain ⟨rfl, rfl, rfl, rfl, rfl⟩ := bare_of hbr
    have hm : o % 4096 = 0 := by
      rw [show isOutB o 12 = isOutB o ((12 : Nat) : Int) from rfl, isOut_mod o 12 ho (by omega) (by omega)] at hio
      exact (of_decide_eq_true hio).2
    have hb := o_bits ho48 hm
    have hN : encN 1 o false false false false 0 = o ||| 2 ^ 0 ||| 2 ^ 1 := rfl
    have t0 : (o ||| 2 ^ 0 ||| 2 ^ 1).testBit 0 = true := by rw [or_testBit, or_testBit]; simp
    have t1 : (o ||| 2 ^ 0 ||| 2 ^ 1).testBit 1 = true := by rw [or_testBit, or_testBit]; simp
    have tO : outV (o ||| 2 ^ 0 ||| 2 ^ 1) = o := outV_back hb fun i h1 h2 => by
      rw [or_testBit, or_testBit, decide_eq_false (show ¬ 0 = i by omega), decide_eq_false (show ¬ 1 = i by omega), Bool.or_false, Bool.or_false]
    obtain ⟨e0, e1, e2, e3, e4, e5, e6⟩ := rd_tab l (o ||| 2 ^ 0 ||| 2 ^ 1) t0 t1 (of_decide_eq_true h3)
    rw [hN]
    exact ⟨or_lt _ _ (or_lt _ _ ho (by decide)) (by decide), good_of hr hN e0 (e1.trans tO) e2 e3 e4 e5 e6⟩
  · obtain ⟨n, rfl⟩ := Int.eq_ofNat_of_zero_le ha0
    have h := hr
    rw [rightP, if_neg hlf, if_neg (by decide), if_neg (by decide), if_pos rfl, Bool.and_eq_true] at h
    have hb := o_bits ho48 (leaf_al12 hl ha0 ha7 ho48 h.2)
    have hN : encN 2 o u r x s (n : Int) = orN false (leafN o u r x s n ||| 2 ^ 0) (2 ^ 1) := rfl
    have hlt : encN 2 o u r x s (n : Int) < 18446744073709551616 := by
      rw [hN]; exact orN_lt _ (or_lt _ _ (leafN_lt u r x s ho (show n ≤ 7 by omega)) (by decide)) (by decide)
    obtain ⟨t0, t1, t6, t7, t10, t54, tO, tA⟩ := leaf_bits u r x s (a := n) false hb (by omega) _ hN
    obtain ⟨e0, e1, e2, e3, e4, e5, e6⟩ := rd_leaf l _ t0 (by rw [t1]; rfl)
    rw [t1, if_neg (by decide)] at e0
    refine ⟨hlt, good_of hr rfl e0 (e1.trans tO) (e2.trans t6) ?_ ?_ (e5.trans t10) (e6.trans (by rw [tA]))⟩
    · rw [e3, t7, Bool.not_not]
    · rw [e4, t54, Bool.not_not]
  · obtain ⟨n, rfl⟩ := Int.eq_ofNat_of_zero_le ha0
    have h := hr
    rw [rightP, if_neg hlf, if_neg (by decide), if_neg (by decide), if_neg (by decide), if_pos rfl, Bool.and_eq_true] at h
    have h3 : l = 3 := of_decide_eq_true h.1
    have hb := o_bits ho48 (leaf_al12 hl ha0 ha7 ho48 h.2)
    have hN : encN 3 o u r x s (n : Int) = orN true (leafN o u r x s n ||| 2 ^ 0) (2 ^ 1) := rfl
    have hlt : encN 3 o u r x s (n : Int) < 18446744073709551616 := by
      rw [hN]; exact orN_lt _ (or_lt _ _ (leafN_lt u r x s ho (show n ≤ 7 by omega)) (by decide)) (by decide)
    obtain ⟨t0, t1, t6, t7, t10, t54, tO, tA⟩ := leaf_bits u r x s (a := n) true hb (by omega) _ hN
    obtain ⟨e0, e1, e2, e3, e4, e5, e6⟩ := rd_leaf l _ t0 (by rw [t1, h3]; rfl)
    rw [t1, if_pos rfl] at e0
    refine ⟨hlt, good_of hr rfl e0 (e1.trans tO) (e2.trans t6) ?_ ?_ (e5.trans t10) (e6.trans (by rw [tA]))⟩
    · rw [e3, t7, Bool.not_not]
    · rw [e4, t54, Bool.not_not]
end Go.Proofs.YtoolmhkonhcfpaaDoor
