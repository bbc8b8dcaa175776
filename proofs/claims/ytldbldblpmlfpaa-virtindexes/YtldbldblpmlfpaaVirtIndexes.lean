/- VirtIndexes (P5.1): for every two words and every level the law returns true: two low addresses have one base at a level just if they have the same indexes at it and all levels above. No condition beyond the row's own. -/
import Derived.Test.YtldbldblpmlfpaaVirtA
import Derived.Test.YtldbldblpmlfpaaChecked
import Derived.Lib.SmallJoins
namespace Go.Proofs.Ytldbldblpmlfpaa.virtIndexes
open Go.ChangeShapes Go.WideShapes Go.ChangeAt Go.RowKit Go.Lib Go.Joins

/-- Whether two addresses have the same indexes at the first k levels. -/
def sameB (a b : Nat) : Nat → Bool
  | 0 => true
  | k + 1 => sameB a b k && decide (idxN a (k : Int) = idxN b (k : Int))

theorem k0 : lowK ((0 : Nat) : Int) = 39 := by decide
theorem k1 : lowK ((1 : Nat) : Int) = 30 := by decide
theorem k2 : lowK ((2 : Nat) : Int) = 21 := by decide
theorem k3 : lowK ((3 : Nat) : Int) = 12 := by decide
theorem digits (a b : Nat) : ∀ k, sameB a b k = true ↔ ∀ j, j < k → idxN a (j : Int) = idxN b (j : Int)
  | 0 => by simp [sameB]
  | k + 1 => by
    rw [sameB, Bool.and_eq_true, digits a b k, decide_eq_true_eq]
    constructor
    · rintro ⟨h1, h2⟩ j hj
      by_cases e : j = k
      · subst e; exact h2
      · exact h1 j (by omega)
    · intro h
      exact ⟨fun j hj => h j (by omega), h k (by omega)⟩
theorem shift (a n m : Nat) : a / 2 ^ (n + m) = a / 2 ^ n / 2 ^ m := by rw [Nat.pow_add, Nat.div_div_eq_div_mul]
theorem base_iff {a b : Nat} (ha : a < 281474976710656) (hb : b < 281474976710656) {l : Int} (hl : isLv l = true) : baseV a l = baseV b l ↔ a / 2 ^ lowK l = b / 2 ^ lowK l := by
  unfold baseV baseN
  rw [if_pos hl, if_pos hl, Nat.mod_eq_of_lt ha, Nat.mod_eq_of_lt hb]
  constructor
  · intro h; exact Nat.eq_of_mul_eq_mul_right (Nat.two_pow_pos _) h
  · intro h; rw [h]
theorem same_base {a b : Nat} (ha : a < 281474976710656) (hb : b < 281474976710656) (k : Nat) (hk : k ≤ 3) : sameB a b (k + 1) = decide (baseV a (k : Int) = baseV b (k : Int)) := by
  have hl : isLv (k : Int) = true := decide_eq_true (by omega)
  rw [Bool.eq_iff_iff, decide_eq_true_eq, base_iff ha hb hl]
  have a1 := shift a 12 9
  have a2 := shift a 21 9
  have a3 := shift a 30 9
  have b1 := shift b 12 9
  have b2 := shift b 21 9
  have b3 := shift b 30 9
  simp only [Nat.reduceAdd] at a1 a2 a3 b1 b2 b3
  have hA : a / 2 ^ 12 < 68719476736 := by omega
  have hB : b / 2 ^ 12 < 68719476736 := by omega
  rw [a2, a1] at a3
  rw [a1] at a2
  rw [b2, b1] at b3
  rw [b1] at b2
  obtain rfl | rfl | rfl | rfl : k = 0 ∨ k = 1 ∨ k = 2 ∨ k = 3 := by omega
  all_goals simp only [sameB, Bool.and_eq_true, decide_eq_true_eq, idxN, k0, k1, k2, k3, a3, a2, a1, b3, b2, b1, true_and]
  all_goals generalize a / 2 ^ 12 = A at *
  all_goals generalize b / 2 ^ 12 = B at *
  all_goals clear a1 a2 a3 b1 b2 b3 ha hb
  all_goals omega

set_option maxHeartbeats 2000000 in
theorem walk (a b : Nat) (l : Int) (ha : a < 18446744073709551616) (hb : b < 18446744073709551616) (w : World) :
    Calls Try.prog 4 #[.int .u64 a, .int .u64 b, .int .i64 l] w fun e w' => e = .returned (.bool true) ∧ Below w.heap.size w w' := by
  have cA := anchor_any w
  have cLa := fun w1 => low_any a w1
  have cLb := fun w1 => low_any b w1
  by_cases h1 : l < 0
  · have d1 : decide (l < 0) = true := decide_eq_true h1
    go_enter Try.func4, Try.ntmps4
    go_wp2_with (go_at_call 8; refine cA.mono ?_; rintro e w1 ⟨rfl, hb⟩)
    go_ret
    exact ⟨rfl, hb⟩
  have d1 : decide (l < 0) = false := decide_eq_false h1
  by_cases h2 : 3 < l
  · have d2 : decide (3 < l) = true := decide_eq_true h2
    go_enter Try.func4, Try.ntmps4
    go_wp2_with (go_at_call 8; refine cA.mono ?_; rintro e w1 ⟨rfl, hb⟩)
    go_ret
    exact ⟨rfl, hb⟩
  have d2 : decide (3 < l) = false := decide_eq_false h2
  cases hla : lowB a
  · rw [hla] at cLa
    go_enter Try.func4, Try.ntmps4
    go_wp2_with fail
    refine cA.mono ?_
    rintro e w1 ⟨rfl, hb1⟩
    go_wp2_with fail
    refine (cLa _).mono ?_
    rintro e w2 ⟨rfl, rfl⟩
    go_wp2
    go_ret
    exact ⟨rfl, hb1⟩
  rw [hla] at cLa
  cases hlb : lowB b
  · rw [hlb] at cLb
    go_enter Try.func4, Try.ntmps4
    go_wp2_with fail
    refine cA.mono ?_
    rintro e w1 ⟨rfl, hb1⟩
    go_wp2_with fail
    refine (cLa _).mono ?_
    rintro e w2 ⟨rfl, rfl⟩
    go_wp2_with fail
    refine (cLb _).mono ?_
    rintro e w3 ⟨rfl, rfl⟩
    go_wp2
    go_ret
    exact ⟨rfl, hb1⟩
  rw [hlb] at cLb
  obtain ⟨m, rfl⟩ := Int.eq_ofNat_of_zero_le (show 0 ≤ l by omega)
  have hm : m ≤ 3 := by omega
  have HS : Hid (sameB a b (m + 1) = decide (baseV a (m : Int) = baseV b (m : Int))) := same_base (of_decide_eq_true hla) (of_decide_eq_true hlb) m hm
  have cBa := fun w1 => base_any a (m : Int) ha w1
  have cBb := fun w1 => base_any b (m : Int) hb w1
  clear hla hlb
  go_enter Try.func4, Try.ntmps4
  go_wp2_with fail
  refine cA.mono ?_
  rintro e w1 ⟨rfl, hb1⟩
  go_wp2_with fail
  refine (cLa _).mono ?_
  rintro e w2 ⟨rfl, rfl⟩
  go_wp2_with fail
  refine (cLb _).mono ?_
  rintro e w3 ⟨rfl, rfl⟩
  go_wp2
  go_loopw [7, 8] (fun s i wr => ∃ k : Nat, k ≤ m + 1 ∧ i = .int .i64 k ∧ s = .bool (sameB a b k) ∧ Below w.heap.size w wr) (fun _ i _ => m + 1 - (intOf i).toNat)
  case atStart => exact ⟨0, by omega, rfl, rfl, hb1⟩
  case round =>
    obtain ⟨k, hk, rfl, rfl, hR⟩ := hrel
    by_cases hlt : k ≤ m
    · have hkl : isLv (k : Int) = true := decide_eq_true (by omega)
      have ea : idxI a (k : Int) = (idxN a (k : Int) : Int) := by unfold idxI; rw [if_pos hkl]
      have eb : idxI b (k : Int) = (idxN b (k : Int) : Int) := by unfold idxI; rw [if_pos hkl]
      have cIa := fun w1 => index_any a (k : Int) ha w1
      have cIb := fun w1 => index_any b (k : Int) hb w1
      rw [ea] at cIa
      rw [eb] at cIb
      have HN : Hid (sameB a b (k + 1) = (sameB a b k && decide (idxN a (k : Int) = idxN b (k : Int)))) := by show sameB a b (k + 1) = _; rw [sameB]
      have hle : decide ((k : Int) ≤ (m : Int)) = true := decide_eq_true (by omega)
      clear ea eb hkl
      generalize idxN a (k : Int) = A at *
      generalize idxN b (k : Int) = B at *
      cases hs : sameB a b k
      · rw [hs] at HN
        go_wp2
        exact ⟨⟨k + 1, by omega, by go_num, by rw [HN.out]; rfl, hR⟩, by simp [intOf]; omega⟩
      · rw [hs] at HN
        go_wp2_with fail
        refine (cIa _).mono ?_
        rintro e w4 ⟨rfl, hb4⟩
        go_wp2_with fail
        refine (cIb _).mono ?_
        rintro e w5 ⟨rfl, hb5⟩
        go_wp2
        refine ⟨⟨k + 1, by omega, by go_num, ?_, below_tr hR (below_tr hb4 hb5)⟩, by simp [intOf]; omega⟩
        rw [HN.out]
        congr 1
        rw [Bool.eq_iff_iff]; simp; omega
    · have ek : k = m + 1 := by omega
      subst ek
      have hle : decide (((m + 1 : Nat) : Int) ≤ (m : Int)) = false := decide_eq_false (by omega)
      generalize sameB a b (m + 1) = S at *
      generalize baseV a (m : Int) = A at *
      generalize baseV b (m : Int) = B at *
      go_wp2_with fail
      refine (cBa _).mono ?_
      rintro e w4 ⟨rfl, rfl⟩
      go_wp2_with fail
      refine (cBb _).mono ?_
      rintro e w5 ⟨rfl, rfl⟩
      go_wp2
      go_ret
      refine ⟨?_, hR⟩
      rw [HS.out]
      have he : decide (A = B) = ((A : Int) == (B : Int)) := by rw [Bool.eq_iff_iff]; simp; omega
      rw [he]
      simp

theorem own : ownKnob Try.prog.godebug = none := by kernel_rfl
theorem laidOut : laidOutB Try.prog = true := by kernel_rfl

set_option linter.unusedVariables false in
set_option maxRecDepth 100000 in
theorem lifted (os : Os) (started : os.Started) (H : Type) (enc : TypeId × Value → H) :
    ReturnsInHanded {} Try.checked os 4 .any (Rows.virtIndexesSpec.pre6 enc Try.prog Try.f4 Rows.virtIndexesRow.domain false) (Rows.virtIndexesSpec.post enc Try.prog Try.f4 false true false false) := by
  refine returnsInHanded_of_change (C := Try.checked) own started (by kernel_rfl) Try.func4
    (ChangeSpec.witness6 (enc := enc) (C := Try.checked) false ⟨#[], #[.int .u64 0, .int .u64 0, .int .i64 0], []⟩ 8 (by kernel_rfl) (by kernel_rfl) (by kernel_rfl) (by kernel_rfl)) ?_
  intro W base args ds gs before hval0 hW hcnd _
  have hval : ∀ (j : Nat) t v, Try.f4.params[j]? = some t → args[j]? = some v → Value.okWide Try.prog W .any base t v := hval0
  have hW' := hW
  obtain ⟨p, q, hA0, hV, rfl, hfz, hnd⟩ := hW
  have hA : DataW.TrodAll enc Try.prog W 0 (fun _ => true) true Try.f4.params.toList args.toList ds p := hA0
  rw [Try.params4] at hA hval
  obtain ⟨v0, vs0, d0, ds0, p0, q0, hargs, rfl, rfl, h0, r0⟩ := trodAll_cons hA
  obtain ⟨v1, vs1, d1, ds1, p1, q1, rfl, rfl, rfl, h1, r1⟩ := trodAll_cons r0
  obtain ⟨v2, vs2, d2, ds2, p2, q2, rfl, rfl, rfl, h2, r2⟩ := trodAll_cons r1
  obtain ⟨rfl, rfl, rfl⟩ := trodAll_nil r2
  obtain rfl : args = #[v0, v1, v2] := by cases args; simp_all
  obtain ⟨rfl, rfl⟩ := trodVars_none hV
  have k0 := h0
  have lt0 : ∀ x ∈ p0, x.block < W.heap.size := by obtain ⟨m, hm⟩ := k0; exact DataW.trod_lt m _ _ _ hm
  have k1 := h1
  have lt1 : ∀ x ∈ p1, x.block < W.heap.size := by obtain ⟨m, hm⟩ := k1; exact DataW.trod_lt m _ _ _ hm
  have k2 := h2
  have lt2 : ∀ x ∈ p2, x.block < W.heap.size := by obtain ⟨m, hm⟩ := k2; exact DataW.trod_lt m _ _ _ hm
  obtain ⟨a0, rfl, _, _, w0⟩ := open_int Try.underlying22 (hval 0 22 v0 rfl rfl) h0
  obtain ⟨x0, rfl⟩ := Int.eq_ofNat_of_zero_le (bounds_u64 w0).1
  have b0 : x0 < 18446744073709551616 := by have := (bounds_u64 w0).2; omega
  obtain ⟨a1, rfl, _, _, w1⟩ := open_int Try.underlying22 (hval 1 22 v1 rfl rfl) h1
  obtain ⟨x1, rfl⟩ := Int.eq_ofNat_of_zero_le (bounds_u64 w1).1
  have b1 : x1 < 18446744073709551616 := by have := (bounds_u64 w1).2; omega
  obtain ⟨a2, rfl, _, _, w2⟩ := open_int Try.underlying3 (hval 2 3 v2 rfl rfl) h2
  clear hA0 hval0
  refine (walk x0 x1 a2 b0 b1 W).mono fun e W' ⟨he, bel⟩ => ?_
  subst he
  exact ⟨_, rfl, _, _, _, [], _, [], hW', trodAll_mk1 (shut_bool Try.underlying4 _), (trodAll_cons_mk (Below.trod laidOut (by kernel_rfl) (of_decide_eq_true (by kernel_rfl)) k0 bel lt0) (trodAll_cons_mk (Below.trod laidOut (by kernel_rfl) (of_decide_eq_true (by kernel_rfl)) k1 bel lt1) (trodAll_cons_mk (Below.trod laidOut (by kernel_rfl) (of_decide_eq_true (by kernel_rfl)) k2 bel lt2) trodAll_mk0))), rfl, bel.frame _, fun h => by cases h⟩

theorem over : Rows.virtIndexesRow.holds Try.pinned (OpenSpec.ofChange Rows.virtIndexesSpec) :=
  OpenClaim.holds_of_wide 4 Try.f4 rfl rfl rfl rfl rfl rfl rfl ⟨rfl, rfl, rfl, rfl, rfl⟩ rfl rfl rfl rfl rfl (by kernel_rfl) Try.func4 (by kernel_rfl)
    (of_decide_eq_true (by kernel_rfl)) (by unfold Func.isWrapper; first | (rw [if_pos (by decide +kernel)]; kernel_rfl) | (rw [if_neg (by decide +kernel)]; exact ⟨rfl, rfl⟩))
    (fun os started H enc _ => lifted os started H enc)

theorem proved : Rows.VirtIndexesSaid :=
  over

end Go.Proofs.Ytldbldblpmlfpaa.virtIndexes
