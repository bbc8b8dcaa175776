/- For any word and any number of bits the law FieldAligns returns true, and its arguments read afterwards as before. No conditions. -/
import Derived.Test.YtdcjlonifbimcaaAlignMath
import Derived.ProofKit
import Derived.OpenShut
import Derived.ChangeOld
namespace Go.Proofs.Ytdcjlonifbimcaa.fieldAligns
open Go.ChangeShapes Go.WideShapes Go.ChangeAt Go.RowKit

theorem not_bits (a : Nat) (ha : a < 18446744073709551616) : bits BinOp.xor IntKind.u64 IntKind.u64.max (a : Int) = ((18446744073709551615 - a : Nat) : Int) := by
  have e : IntKind.u64.max = ((18446744073709551615 : Nat) : Int) := rfl
  rw [e, bits_xor_u64_nat _ _ (by omega) ha]
  congr 1
  apply Nat.eq_of_testBit_eq
  intro i
  have e2 : (18446744073709551615 : Nat).testBit i = decide (i < 64) := Nat.testBit_two_pow_sub_one 64 i
  rw [Nat.testBit_xor, show (18446744073709551615 - a) = 2 ^ 64 - 1 - a from rfl, not_testBit a i ha, e2]
  by_cases h : i < 64
  · rw [decide_eq_true h]; cases a.testBit i <;> rfl
  · rw [decide_eq_false h, high_bit a i ha (by omega)]; rfl

set_option maxHeartbeats 4000000 in
theorem walk (x : Nat) (n : Int) (hx : x < 18446744073709551616) (w : World) :
    Calls Try.prog 6 #[.int .u64 (x : Int), .int .i64 n] w fun e w' => e = .returned (.bool true) ∧ Below w.heap.size w w' := by
  have hdo := down_ones n
  have hol := ones_lt n
  have hdl := downV_lt x n hx
  have hsg : IntKind.u64.signed = false := rfl
  have hxo : bits BinOp.xor IntKind.u64 IntKind.u64.max ((18446744073709551615 - ones n : Nat) : Int) = ((ones n : Nat) : Int) := by
    rw [not_bits _ (by omega)]; congr 1; omega
  rcases align_cases x n hx with ⟨ha, hd, hu, hb⟩ | ⟨ha, hd, hu, hb, ho⟩ | ⟨ha, hd, hb, hlt, ha2, hu, hul⟩
  · by_cases h0 : 0 ≤ n
    all_goals
      go_enter Try.func6, Try.ntmps6
      go_wp2_with fail
      refine (anchor_any _).mono ?_
      rintro e w1 ⟨rfl, hb1⟩
      go_wp2_with fail
      refine (refDown_any x _ hx (by omega) _).mono ?_
      rintro e w2 ⟨rfl, hb2⟩
      rw [refDown_eq x n _ hx (by omega), hd]
      go_wp2_with fail
      refine (up_any x n hx _).mono ?_
      rintro e w3 ⟨rfl, e3⟩
      rw [hu, hb]
      subst e3
      go_wp2_with fail
      refine (down_any x n hx _).mono ?_
      rintro e w3 ⟨rfl, e3⟩
      rw [hd]
      subst e3
      go_wp2_with fail
      refine (aligned_any x n hx _).mono ?_
      rintro e w3 ⟨rfl, e3⟩
      rw [ha]
      subst e3
      go_wp2_with fail
      refine (ones_any n _).mono ?_
      rintro e w3 ⟨rfl, e3⟩
      subst e3
      go_wp2_with fail
      refine (refDown_any 18446744073709551615 _ (by omega) (by omega) _).mono ?_
      rintro e w4 ⟨rfl, hb4⟩
      rw [refDown_eq 18446744073709551615 n _ (by omega) (by omega), hdo]
      go_wp2_with fail
      refine (aligned_any x n hx _).mono ?_
      rintro e w5 ⟨rfl, e5⟩
      rw [ha]
      subst e5
      go_wp2
      go_ret
      exact ⟨rfl, below_tr hb1 (below_tr hb2 hb4)⟩
  · have hdb : ((downV x n : Int) == (x : Int)) = false := by rw [beq_eq_false_iff_ne]; omega
    have hdc : ((downV x n : Int) != (x : Int)) = true := by rw [bne_iff_ne]; omega
    have hxd : bits BinOp.xor IntKind.u64 IntKind.u64.max ((downV x n : Nat) : Int) = ((ones n : Nat) : Int) := by
      rw [not_bits _ hdl, ho]
    clear ho
    by_cases h0 : 0 ≤ n
    all_goals
      go_enter Try.func6, Try.ntmps6
      go_wp2_with fail
      refine (anchor_any _).mono ?_
      rintro e w1 ⟨rfl, hb1⟩
      go_wp2_with fail
      refine (refDown_any x _ hx (by omega) _).mono ?_
      rintro e w2 ⟨rfl, hb2⟩
      rw [refDown_eq x n _ hx (by omega)]
      go_wp2_with fail
      refine (up_any x n hx _).mono ?_
      rintro e w3 ⟨rfl, e3⟩
      rw [hu, hb]
      subst e3
      go_wp2_with fail
      refine (down_any x n hx _).mono ?_
      rintro e w3 ⟨rfl, e3⟩
      subst e3
      go_wp2_with fail
      refine (aligned_any x n hx _).mono ?_
      rintro e w3 ⟨rfl, e3⟩
      rw [ha]
      subst e3
      go_wp2_with fail
      refine (ones_any n _).mono ?_
      rintro e w3 ⟨rfl, e3⟩
      subst e3
      go_wp2_with fail
      refine (refDown_any 18446744073709551615 _ (by omega) (by omega) _).mono ?_
      rintro e w4 ⟨rfl, hb4⟩
      rw [refDown_eq 18446744073709551615 n _ (by omega) (by omega), hdo]
      go_wp2_with fail
      refine (ones_any n _).mono ?_
      rintro e w5 ⟨rfl, e5⟩
      subst e5
      go_wp2
      go_ret
      exact ⟨rfl, below_tr hb1 (below_tr hb2 hb4)⟩
  · have hdb : ((downV x n : Int) == (x : Int)) = false := by rw [beq_eq_false_iff_ne]; omega
    have hub : ((upV x n : Int) == (x : Int)) = false := by rw [beq_eq_false_iff_ne]; omega
    have hge : decide ((x : Int) ≤ (upV x n : Int)) = true := by rw [decide_eq_true_eq]; omega
    have hsb : (IntKind.u64.wrap ((upV x n : Int) - (downV x n : Int)) == IntKind.u64.wrap ((ones n : Int) + 1)) = true := by
      rw [beq_iff_eq, hu]; congr 1; omega
    clear hu
    by_cases h0 : 0 ≤ n
    all_goals
      go_enter Try.func6, Try.ntmps6
      go_wp2_with fail
      refine (anchor_any _).mono ?_
      rintro e w1 ⟨rfl, hb1⟩
      go_wp2_with fail
      refine (refDown_any x _ hx (by omega) _).mono ?_
      rintro e w2 ⟨rfl, hb2⟩
      rw [refDown_eq x n _ hx (by omega)]
      go_wp2_with fail
      refine (up_any x n hx _).mono ?_
      rintro e w3 ⟨rfl, e3⟩
      rw [hb]
      generalize upV x n = y at *
      subst e3
      go_wp2_with fail
      refine (down_any x n hx _).mono ?_
      rintro e w3 ⟨rfl, e3⟩
      subst e3
      go_wp2_with fail
      refine (aligned_any x n hx _).mono ?_
      rintro e w3 ⟨rfl, e3⟩
      rw [ha]
      subst e3
      go_wp2_with fail
      refine (ones_any n _).mono ?_
      rintro e w3 ⟨rfl, e3⟩
      subst e3
      go_wp2_with fail
      refine (refDown_any 18446744073709551615 _ (by omega) (by omega) _).mono ?_
      rintro e w4 ⟨rfl, hb4⟩
      rw [refDown_eq 18446744073709551615 n _ (by omega) (by omega), hdo]
      go_wp2_with fail
      refine (aligned_any y n hul _).mono ?_
      rintro e w5 ⟨rfl, e5⟩
      rw [ha2]
      subst e5
      go_wp2_with fail
      refine (ones_any n _).mono ?_
      rintro e w5 ⟨rfl, e5⟩
      subst e5
      go_wp2
      go_ret
      exact ⟨rfl, below_tr hb1 (below_tr hb2 hb4)⟩

theorem own : ownKnob Try.prog.godebug = none := by kernel_rfl
theorem laidOut : laidOutB Try.prog = true := by kernel_rfl

set_option linter.unusedVariables false in
set_option maxRecDepth 100000 in
theorem lifted (os : Os) (started : os.Started) (H : Type) (enc : TypeId × Value → H) :
    ReturnsInHanded {} Try.checked os 6 .any (Rows.fieldAlignsSpec.pre6 enc Try.prog Try.f6 Rows.fieldAlignsRow.domain false) (Rows.fieldAlignsSpec.post enc Try.prog Try.f6 false true false false) := by
  refine returnsInHanded_of_change (C := Try.checked) own started (by kernel_rfl) Try.func6
    (ChangeSpec.witness6 (enc := enc) (C := Try.checked) false ⟨#[], #[.int .u64 0, .int .i64 0], []⟩ 8 (by kernel_rfl) (by kernel_rfl) (by kernel_rfl) (by kernel_rfl)) ?_
  intro W base args ds gs before hval0 hW hcnd _
  have hval : ∀ (j : Nat) t v, Try.f6.params[j]? = some t → args[j]? = some v → Value.okWide Try.prog W .any base t v := hval0
  have hW' := hW
  obtain ⟨p, q, hA0, hV, rfl, hfz, hnd⟩ := hW
  have hA : DataW.TrodAll enc Try.prog W 0 (fun _ => true) true Try.f6.params.toList args.toList ds p := hA0
  rw [Try.params6] at hA hval
  obtain ⟨v0, vs0, d0, ds0, p0, q0, hargs, rfl, rfl, h0, r0⟩ := trodAll_cons hA
  obtain ⟨v1, vs1, d1, ds1, p1, q1, rfl, rfl, rfl, h1, r1⟩ := trodAll_cons r0
  obtain ⟨rfl, rfl, rfl⟩ := trodAll_nil r1
  obtain rfl : args = #[v0, v1] := by cases args; simp_all
  obtain ⟨rfl, rfl⟩ := trodVars_none hV
  have k0 := h0
  have lt0 : ∀ x ∈ p0, x.block < W.heap.size := by obtain ⟨m, hm⟩ := k0; exact DataW.trod_lt m _ _ _ hm
  have k1 := h1
  have lt1 : ∀ x ∈ p1, x.block < W.heap.size := by obtain ⟨m, hm⟩ := k1; exact DataW.trod_lt m _ _ _ hm
  obtain ⟨a0, rfl, _, _, w0⟩ := open_int Try.underlying24 (hval 0 24 v0 rfl rfl) h0
  obtain ⟨x0, rfl⟩ := Int.eq_ofNat_of_zero_le (bounds_u64 w0).1
  have b0 : x0 < 18446744073709551616 := by have := (bounds_u64 w0).2; omega
  obtain ⟨a1, rfl, _, _, w1⟩ := open_int Try.underlying3 (hval 1 3 v1 rfl rfl) h1
  clear hA0 hval0
  refine (walk x0 a1 b0 W).mono fun e W' ⟨he, bel⟩ => ?_
  subst he
  exact ⟨_, rfl, _, _, _, [], _, [], hW', trodAll_mk1 (shut_bool Try.underlying4 _), (trodAll_cons_mk (Below.trod laidOut (by kernel_rfl) (of_decide_eq_true (by kernel_rfl)) k0 bel lt0) (trodAll_cons_mk (Below.trod laidOut (by kernel_rfl) (of_decide_eq_true (by kernel_rfl)) k1 bel lt1) trodAll_mk0)), rfl, bel.frame _, fun h => by cases h⟩

theorem over : Rows.fieldAlignsRow.holds Try.pinned (OpenSpec.ofChange Rows.fieldAlignsSpec) :=
  OpenClaim.holds_of_wide 6 Try.f6 rfl rfl rfl rfl rfl rfl rfl ⟨rfl, rfl, rfl, rfl, rfl⟩ rfl rfl rfl rfl rfl (by kernel_rfl) Try.func6 (by kernel_rfl)
    (of_decide_eq_true (by kernel_rfl)) (by unfold Func.isWrapper; first | (rw [if_pos (by decide +kernel)]; kernel_rfl) | (rw [if_neg (by decide +kernel)]; exact ⟨rfl, rfl⟩))
    (fun os started H enc _ => lifted os started H enc)

theorem proved : Rows.FieldAlignsSaid :=
  over

end Go.Proofs.Ytdcjlonifbimcaa.fieldAligns
