/- VirtPages (P5.3): for every address, every number of bytes and every level the law returns true: bytes at low addresses lie in just the stretches that are told, one behind the other. No condition beyond the row's own. -/
import Derived.Test.YtldbldblpmlfpaaVirtB
import Derived.Test.YtldbldblpmlfpaaVirtPagesM
import Derived.Test.YtldbldblpmlfpaaChecked
import Derived.Lib.SmallJoins
namespace Go.Proofs.Ytldbldblpmlfpaa.virtPages
open Go.ChangeShapes Go.WideShapes Go.ChangeAt Go.RowKit Go.Lib Go.Joins

set_option maxHeartbeats 4000000 in
theorem walk_bad (va n : Nat) (l : Int) (hbad : n = 0 ∨ l < 0 ∨ 3 < l ∨ 281474976710656 ≤ va ∨ 281474976710656 - va < n) (w : World) :
    Calls Try.prog 7 #[.int .u64 va, .int .u64 n, .int .i64 l] w fun e w' => e = .returned (.bool true) ∧ Below w.heap.size w w' := by
  have cA := anchor_any w
  by_cases h0 : n = 0
  · subst h0
    have cP := fun w1 => pages_zero va l w1
    clear hbad
    go_enter Try.func7, Try.ntmps7
    go_wp2_with (first
      | (go_at_call 8; refine cA.mono ?_; rintro e w1 ⟨rfl, hb⟩)
      | (go_at_call 20; refine (cP _).mono ?_; rintro e w2 ⟨rfl, rfl⟩))
    go_ret
    exact ⟨rfl, hb⟩
  have hne : ((n : Int) == 0) = false := by rw [beq_eq_false_iff_ne]; omega
  by_cases h1 : l < 0
  · have hl : isLv l = false := decide_eq_false (by omega)
    have cP := fun w1 => pages_level va n l h0 hl w1
    have d1 : decide (l < 0) = true := decide_eq_true h1
    clear hbad h0 hl
    go_enter Try.func7, Try.ntmps7
    go_wp2_with (first
      | (go_at_call 8; refine cA.mono ?_; rintro e w1 ⟨rfl, hb⟩)
      | (go_at_call 20; refine (cP _).mono ?_; rintro e w2 ⟨rfl, rfl⟩))
    go_ret
    exact ⟨rfl, hb⟩
  have d1 : decide (l < 0) = false := decide_eq_false h1
  by_cases h2 : 3 < l
  · have hl : isLv l = false := decide_eq_false (by omega)
    have cP := fun w1 => pages_level va n l h0 hl w1
    have d2 : decide (3 < l) = true := decide_eq_true h2
    clear hbad h0 hl
    go_enter Try.func7, Try.ntmps7
    go_wp2_with (first
      | (go_at_call 8; refine cA.mono ?_; rintro e w1 ⟨rfl, hb⟩)
      | (go_at_call 20; refine (cP _).mono ?_; rintro e w2 ⟨rfl, rfl⟩))
    go_ret
    exact ⟨rfl, hb⟩
  have d2 : decide (3 < l) = false := decide_eq_false h2
  have hl : isLv l = true := decide_eq_true (by omega)
  by_cases h3 : 281474976710656 ≤ va
  · have hv : lowB va = false := decide_eq_false (by omega)
    have cP := fun w1 => pages_high va n l h0 hl hv w1
    have h3I : (281474976710656 : Int) ≤ (va : Int) := by omega
    have d3 : decide ((281474976710656 : Int) ≤ (va : Int)) = true := decide_eq_true h3I
    clear hbad h0 hl hv h3
    go_enter Try.func7, Try.ntmps7
    go_wp2_with (first
      | (go_at_call 8; refine cA.mono ?_; rintro e w1 ⟨rfl, hb⟩)
      | (go_at_call 20; refine (cP _).mono ?_; rintro e w2 ⟨rfl, rfl⟩))
    go_ret
    exact ⟨rfl, hb⟩
  have h4 : 281474976710656 - va < n := by omega
  have cP := fun w1 => pages_over va n l hl (by omega) h4 w1
  have h3I : ¬ (281474976710656 : Int) ≤ (va : Int) := by omega
  have h3J : (va : Int) < 281474976710656 := by omega
  have d3 : decide ((281474976710656 : Int) ≤ (va : Int)) = false := decide_eq_false h3I
  have h4I : (281474976710656 : Int) - (va : Int) < (n : Int) := by omega
  have d4 : decide ((281474976710656 : Int) - (va : Int) < (n : Int)) = true := decide_eq_true h4I
  clear hbad h0 hl h3 h4
  go_enter Try.func7, Try.ntmps7
  go_wp2_with (first
    | (go_at_call 8; refine cA.mono ?_; rintro e w1 ⟨rfl, hb⟩)
    | (go_at_call 20; refine (cP _).mono ?_; rintro e w2 ⟨rfl, rfl⟩))
  go_ret
  exact ⟨rfl, hb⟩

set_option maxRecDepth 100000 in
set_option maxHeartbeats 4000000 in
theorem walk_good (va n : Nat) (l : Int) (hn : n ≠ 0) (hl : isLv l = true) (hv : va < 281474976710656) (ho : n ≤ 281474976710656 - va) (w : World) :
    Calls Try.prog 7 #[.int .u64 va, .int .u64 n, .int .i64 l] w fun e w' => e = .returned (.bool true) ∧ Below w.heap.size w w' := by
  have cA := anchor_any w
  have cK := fun w1 => refLowK_any l hl w1
  have cF := fun w1 => refBase_any va l hl (by omega) w1
  have cL := fun w1 => refBase_any (va + n - 1) l hl (by omega) w1
  have cM := fun w1 h => pages_many va n l hn hl hv ho h w1
  have cO := fun w1 h => pages_ok va n l hn hl hv ho h w1
  obtain ⟨eK, k1, k2, -⟩ := lowK_eq hl
  obtain ⟨hFL, hL⟩ := pages_facts hl hn hv ho
  have eA : ((va + n - 1 : Nat) : Int) = (va : Int) + (n : Int) - 1 := by omega
  rw [eA] at cL
  have hb := isLv_of hl
  have hne : ((n : Int) == 0) = false := by rw [beq_eq_false_iff_ne]; omega
  have h1 : ¬ l < 0 := by omega
  have h2 : ¬ 3 < l := by omega
  have d1 : decide (l < 0) = false := decide_eq_false h1
  have d2 : decide (3 < l) = false := decide_eq_false h2
  have h3I : ¬ (281474976710656 : Int) ≤ (va : Int) := by omega
  have h3J : (va : Int) < 281474976710656 := by omega
  have d3 : decide ((281474976710656 : Int) ≤ (va : Int)) = false := decide_eq_false h3I
  have h4I : ¬ (281474976710656 : Int) - (va : Int) < (n : Int) := by omega
  have d4 : decide ((281474976710656 : Int) - (va : Int) < (n : Int)) = false := decide_eq_false h4I
  have hn1 : (1 : Int) ≤ (n : Int) := by omega
  generalize baseV va l = F at *
  generalize baseV (va + n - 1) l = L at *
  clear eK eA hb ho hv hn hl
  have hpow : 2 ^ lowK l ≤ 549755813888 := by
    have : 2 ^ lowK l ≤ 2 ^ 39 := Nat.pow_le_pow_right (by omega) k2
    omega
  have hp1 : 1 ≤ 2 ^ lowK l := Nat.one_le_two_pow
  have hS : IntKind.u64.wrap ((2 : Int) ^ lowK l) = ((2 ^ lowK l : Nat) : Int) := by
    have e : ((2 : Int) ^ lowK l) = ((2 ^ lowK l : Nat) : Int) := by simp
    rw [e, IntKind.wrap_u64]; omega
  have hQ : ((L : Int) - (F : Int)) / ((2 ^ lowK l : Nat) : Int) + 1 = ((cntN F L (lowK l) : Nat) : Int) := by
    unfold cntN
    rw [← Int.ofNat_sub hFL]; simp
  have hQp : 0 ≤ ((L : Int) - (F : Int)) / ((2 ^ lowK l : Nat) : Int) := by
    have : 1 ≤ cntN F L (lowK l) := Nat.le_add_left 1 _
    omega
  have hQ2 : ((L : Int) - (F : Int)) / ((2 ^ lowK l : Nat) : Int) < 281474976710656 := by
    have h : cntN F L (lowK l) ≤ 281474976710656 := by
      have := Nat.div_le_self (L - F) (2 ^ lowK l)
      unfold cntN; omega
    omega
  have hpg : ∀ j, j < cntN F L (lowK l) → pg F (lowK l) (cntN F L (lowK l)) j = F + j * 2 ^ lowK l := fun j hj => by unfold pg; rw [if_pos hj]
  generalize cntN F L (lowK l) = C at *
  generalize hSd : 2 ^ lowK l = S at *
  generalize lowK l = K at *
  by_cases hc : 512 < C
  · have cP := fun w1 => cM w1 hc
    have hcI : (512 : Int) < (C : Int) := by omega
    have dC : decide ((512 : Int) < (C : Int)) = true := decide_eq_true hcI
    clear cM cO hpg hc
    go_enter Try.func7, Try.ntmps7
    go_wp2_with (first
      | (go_at_call 8; refine cA.mono ?_; rintro e w1 ⟨rfl, hb⟩)
      | (go_at_call 20; refine (cP _).mono ?_; rintro e w2 ⟨rfl, rfl⟩)
      | (go_at_call 21; refine (cK _).mono ?_; rintro e w3 ⟨rfl, hb3⟩)
      | fail)
    refine (cF _).mono ?_
    rintro e w4 ⟨rfl, hb4⟩
    go_wp2_with fail
    refine (cL _).mono ?_
    rintro e w5 ⟨rfl, hb5⟩
    go_wp2
    go_ret
    exact ⟨rfl, below_tr hb (below_tr hb3 (below_tr hb4 hb5))⟩
  · have cP := fun w1 => cO w1 (by omega)
    have hcI : (C : Int) ≤ 512 := by omega
    have dC : decide ((512 : Int) < (C : Int)) = false := decide_eq_false (by omega)
    have HC : Hid (C ≤ 512) := by show C ≤ 512; omega
    have HS : Hid (S ≤ 549755813888) := hpow
    have HP : Hid (∀ j, j < C → pg F K C j = F + j * S) := hpg
    have HF : Hid (F ≤ L ∧ L < 281474976710656) := ⟨hFL, hL⟩
    clear cM cO hpg hc
    go_enter Try.func7, Try.ntmps7
    go_wp2_with fail
    refine cA.mono ?_
    rintro e w1 ⟨rfl, hb⟩
    go_wp2_with fail
    refine (cP _).mono ?_
    rintro e w2 ⟨rfl, hb2, hrow⟩
    have hcell : ∀ j, j < C → w2.cell? ⟨w1.heap.size, j, none⟩ = some (.int .u64 ((F + j * S : Nat) : Int)) := fun j hj => by
      rw [hrow.cell hj, HP.out j hj]
    clear HP cP hrow
    go_wp2_with fail
    refine (cK _).mono ?_
    rintro e w3 ⟨rfl, hb3⟩
    replace hcell := fun j hj => cell_later hb3 (hcell j hj)
    go_wp2_with fail
    refine (cF _).mono ?_
    rintro e w4 ⟨rfl, hb4⟩
    replace hcell := fun j hj => cell_later hb4 (hcell j hj)
    go_wp2_with fail
    refine (cL _).mono ?_
    rintro e w5 ⟨rfl, hb5⟩
    replace hcell := fun j hj => cell_later hb5 (hcell j hj)
    have HB : Hid (Below w.heap.size w w5) := below_tr hb (below_tr hb2 (below_tr hb3 (below_tr hb4 hb5)))
    have HL : Hid _ := hcell
    clear hcell hb hb2 hb3 hb4 hb5 cA cK cF cL hne
    go_wp2
    clear hQ hQp hQ2 hFL hL hS hSd hn1 h3I h4I h3J d3 d4 dC
    go_loop [89] (fun t => ∃ i : Nat, i ≤ C ∧ t = .int .i64 i) (fun t => C - (intOf t).toNat)
    case atStart => exact ⟨0, by omega, rfl⟩
    case round =>
      obtain ⟨i, hi, rfl⟩ := hrel
      by_cases hlt : i < C
      · have hc1 := HL.out i hlt
        have hm : i * S < 281474976710656 := by
          have h1 : i * S ≤ 511 * S := Nat.mul_le_mul_right _ (by have := HC.out; omega)
          have := HS.out
          omega
        have hw : IntKind.u64.wrap ((i : Int) * (S : Int)) = ((i * S : Nat) : Int) := by
          have e : ((i : Int) * (S : Int)) = ((i * S : Nat) : Int) := by simp
          rw [e, IntKind.wrap_u64]; omega
        have hF : F < 281474976710656 := by have := HF.out; omega
        have hltI : (i : Int) < (C : Int) := by omega
        have hdI : decide ((i : Int) < (C : Int)) = true := decide_eq_true hltI
        have eC : ((F + i * S : Nat) : Int) = (F : Int) + ((i * S : Nat) : Int) := by omega
        rw [eC] at hc1
        clear eC
        generalize i * S = M at *
        go_wp2
        refine ⟨⟨i + 1, by omega, by go_num⟩, by simp [intOf]; omega⟩
      · obtain rfl : i = C := by omega
        have hdI : decide ((i : Int) < (i : Int)) = false := decide_eq_false (by omega)
        go_wp2
        go_ret
        exact ⟨rfl, HB.out⟩

theorem walk (va n : Nat) (l : Int) (_hva : va < 18446744073709551616) (_hn : n < 18446744073709551616) (w : World) :
    Calls Try.prog 7 #[.int .u64 va, .int .u64 n, .int .i64 l] w fun e w' => e = .returned (.bool true) ∧ Below w.heap.size w w' := by
  by_cases h : n = 0 ∨ l < 0 ∨ 3 < l ∨ 281474976710656 ≤ va ∨ 281474976710656 - va < n
  · exact walk_bad va n l h w
  · exact walk_good va n l (by omega) (decide_eq_true (by omega)) (by omega) (by omega) w

theorem own : ownKnob Try.prog.godebug = none := by kernel_rfl
theorem laidOut : laidOutB Try.prog = true := by kernel_rfl

set_option linter.unusedVariables false in
set_option maxRecDepth 100000 in
theorem lifted (os : Os) (started : os.Started) (H : Type) (enc : TypeId × Value → H) :
    ReturnsInHanded {} Try.checked os 7 .any (Rows.virtPagesSpec.pre6 enc Try.prog Try.f7 Rows.virtPagesRow.domain false) (Rows.virtPagesSpec.post enc Try.prog Try.f7 false true false false) := by
  refine returnsInHanded_of_change (C := Try.checked) own started (by kernel_rfl) Try.func7
    (ChangeSpec.witness6 (enc := enc) (C := Try.checked) false ⟨#[], #[.int .u64 0, .int .u64 0, .int .i64 0], []⟩ 8 (by kernel_rfl) (by kernel_rfl) (by kernel_rfl) (by kernel_rfl)) ?_
  intro W base args ds gs before hval0 hW hcnd _
  have hval : ∀ (j : Nat) t v, Try.f7.params[j]? = some t → args[j]? = some v → Value.okWide Try.prog W .any base t v := hval0
  have hW' := hW
  obtain ⟨p, q, hA0, hV, rfl, hfz, hnd⟩ := hW
  have hA : DataW.TrodAll enc Try.prog W 0 (fun _ => true) true Try.f7.params.toList args.toList ds p := hA0
  rw [Try.params7] at hA hval
  obtain ⟨v0, vs0, d0, ds0, p0, q0, hargs, rfl, rfl, h0, r0⟩ := trodAll_cons hA
  obtain ⟨v1, vs1, d1, ds1, p1, q1, rfl, rfl, rfl, h1, r1⟩ := trodAll_cons r0
  obtain ⟨v2, vs2, d2, ds2, p2, q2, rfl, rfl, rfl, h2, r2⟩ := trodAll_cons r1
  obtain ⟨rfl, rfl, rfl⟩ := trodAll_nil r2
  obtain rfl : args = #[v0, v1, v2] := by cases args; simp_all
  obtain ⟨rfl, rfl⟩ := trodVars_none hV
  have k0 := h0
  have lt0 : ∀ x ∈ p0, x.block < W.heap.size := by obtain ⟨m, hm⟩ := k0; exact DataW.trod_lt m _ _ _ hm
  have k1 := h1
  have lt1 : ∀ x ∈ p1, x.block < W.heap.size := by obtain ⟨m, hm⟩ := k1; exact DataW.trod_lt m _ _ _ hm
  have k2 := h2
  have lt2 : ∀ x ∈ p2, x.block < W.heap.size := by obtain ⟨m, hm⟩ := k2; exact DataW.trod_lt m _ _ _ hm
  obtain ⟨a0, rfl, _, _, w0⟩ := open_int Try.underlying22 (hval 0 22 v0 rfl rfl) h0
  obtain ⟨x0, rfl⟩ := Int.eq_ofNat_of_zero_le (bounds_u64 w0).1
  have b0 : x0 < 18446744073709551616 := by have := (bounds_u64 w0).2; omega
  obtain ⟨a1, rfl, _, _, w1⟩ := open_int Try.underlying22 (hval 1 22 v1 rfl rfl) h1
  obtain ⟨x1, rfl⟩ := Int.eq_ofNat_of_zero_le (bounds_u64 w1).1
  have b1 : x1 < 18446744073709551616 := by have := (bounds_u64 w1).2; omega
  obtain ⟨a2, rfl, _, _, w2⟩ := open_int Try.underlying3 (hval 2 3 v2 rfl rfl) h2
  clear hA0 hval0
  refine (walk x0 x1 a2 b0 b1 W).mono fun e W' ⟨he, bel⟩ => ?_
  subst he
  exact ⟨_, rfl, _, _, _, [], _, [], hW', trodAll_mk1 (shut_bool Try.underlying4 _), (trodAll_cons_mk (Below.trod laidOut (by kernel_rfl) (of_decide_eq_true (by kernel_rfl)) k0 bel lt0) (trodAll_cons_mk (Below.trod laidOut (by kernel_rfl) (of_decide_eq_true (by kernel_rfl)) k1 bel lt1) (trodAll_cons_mk (Below.trod laidOut (by kernel_rfl) (of_decide_eq_true (by kernel_rfl)) k2 bel lt2) trodAll_mk0))), rfl, bel.frame _, fun h => by cases h⟩

theorem over : Rows.virtPagesRow.holds Try.pinned (OpenSpec.ofChange Rows.virtPagesSpec) :=
  OpenClaim.holds_of_wide 7 Try.f7 rfl rfl rfl rfl rfl rfl rfl ⟨rfl, rfl, rfl, rfl, rfl⟩ rfl rfl rfl rfl rfl (by kernel_rfl) Try.func7 (by kernel_rfl)
    (of_decide_eq_true (by kernel_rfl)) (by unfold Func.isWrapper; first | (rw [if_pos (by decide +kernel)]; kernel_rfl) | (rw [if_neg (by decide +kernel)]; exact ⟨rfl, rfl⟩))
    (fun os started H enc _ => lifted os started H enc)

theorem proved : Rows.VirtPagesSaid :=
  over

end Go.Proofs.Ytldbldblpmlfpaa.virtPages
