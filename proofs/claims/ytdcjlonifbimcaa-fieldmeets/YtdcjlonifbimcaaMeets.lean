/- For any two fields and any two words the law FieldMeets returns true, and its arguments read afterwards as before. No conditions. -/
import Derived.Test.YtdcjlonifbimcaaFieldMath
import Derived.ProofKit
import Derived.OpenShut
import Derived.ChangeOld
import Derived.Lib.SmallJoins
import Derived.Deep.DeepCutAuto
import Derived.Deep.QuietTactic
import Derived.BigQuiet
namespace Go.Proofs.Ytdcjlonifbimcaa.fieldMeets
open Go.ChangeShapes Go.WideShapes Go.ChangeAt Go.RowKit Go.Joins

/-- What the law says of two fields: both are right, and overlap. -/
def mv (l n l2 n2 : Int) : Bool := rightB l n && (rightB l2 n2 && (decide (l < l2 + n2) && decide (l2 < l + n)))

theorem meets_eq (l n l2 n2 : Int) : meetsB l n l2 n2 = mv l n l2 n2 := by
  unfold mv
  cases h1 : rightB l n
  · unfold meetsB; rw [maskV_wrong h1]; simp
  · cases h2 : rightB l2 n2
    · unfold meetsB; rw [maskV_wrong h2]; simp
    · have hro := right_of h1
      have hro2 := right_of h2
      obtain ⟨l, rfl⟩ := Int.eq_ofNat_of_zero_le hro.1
      obtain ⟨n, rfl⟩ := Int.eq_ofNat_of_zero_le (show 0 ≤ n by omega)
      obtain ⟨l2, rfl⟩ := Int.eq_ofNat_of_zero_le hro2.1
      obtain ⟨n2, rfl⟩ := Int.eq_ofNat_of_zero_le (show 0 ≤ n2 by omega)
      have hb : ∀ i, (maskV l n &&& maskV l2 n2).testBit i = (decide (l ≤ i ∧ i < l + n) && decide (l2 ≤ i ∧ i < l2 + n2)) := fun i => by
        rw [Nat.testBit_and, maskV_testBit h1, maskV_testBit h2]
      unfold meetsB
      by_cases c : l < l2 + n2 ∧ l2 < l + n
      · have e1 : decide ((l : Int) < (l2 : Int) + (n2 : Int)) = true := by rw [decide_eq_true_eq]; omega
        have e2 : decide ((l2 : Int) < (l : Int) + (n : Int)) = true := by rw [decide_eq_true_eq]; omega
        rw [e1, e2]
        have hne : (maskV l n &&& maskV l2 n2) ≠ 0 := fun h => by
          have := hb (max l l2)
          rw [h, Nat.zero_testBit, decide_eq_true (by omega), decide_eq_true (by omega)] at this
          cases this
        simpa using hne
      · have e1 : (decide ((l : Int) < (l2 : Int) + (n2 : Int)) && decide ((l2 : Int) < (l : Int) + (n : Int))) = false := by
          rw [Bool.and_eq_false_iff, decide_eq_false_iff_not, decide_eq_false_iff_not]; omega
        rw [e1]
        have hz : (maskV l n &&& maskV l2 n2) = 0 := by
          apply Nat.eq_of_testBit_eq
          intro i
          rw [hb, Nat.zero_testBit, Bool.and_eq_false_iff, decide_eq_false_iff_not, decide_eq_false_iff_not]; omega
        rw [hz]; rfl

theorem get_other {l n : Nat} (h : rightB (l : Int) (n : Int) = true) {v : Nat} (hv : v < 2 ^ n) (x : Nat) (l2 n2 : Int) (hm : mv l n l2 n2 = false) : getV l2 n2 (putX l n x v) = getV l2 n2 x := by
  cases h2 : rightB l2 n2
  · rw [getV_wrong h2, getV_wrong h2]
  · have hro2 := right_of h2
    obtain ⟨l2, rfl⟩ := Int.eq_ofNat_of_zero_le hro2.1
    obtain ⟨n2, rfl⟩ := Int.eq_ofNat_of_zero_le (show 0 ≤ n2 by omega)
    unfold mv at hm
    rw [h, h2, Bool.true_and, Bool.true_and, Bool.and_eq_false_iff, decide_eq_false_iff_not, decide_eq_false_iff_not] at hm
    apply Nat.eq_of_testBit_eq
    intro i
    rw [getV_testBit h2, getV_testBit h2, putX_eq h hv, putV_testBit h _ _ _ hv]
    by_cases c : i < n2
    · rw [decide_eq_true c, if_neg (by omega), decide_eq_true (show l2 + i < 64 by omega), Bool.true_and, Bool.true_and]
    · rw [decide_eq_false c, Bool.false_and, Bool.false_and]

theorem put_cases (l n l2 n2 : Int) (x v : Nat) (hx : x < 18446744073709551616) :
    mv l n l2 n2 = true ∨ (mv l n l2 n2 = false ∧ (putE l n v != 0) = true) ∨ (mv l n l2 n2 = false ∧ putE l n v = 0 ∧ putX l n x v < 18446744073709551616 ∧ getV l2 n2 (putX l n x v) = getV l2 n2 x) := by
  cases hm : mv l n l2 n2
  · right
    cases h1 : rightB l n
    · left; refine ⟨rfl, ?_⟩; unfold putE; rw [if_pos h1]; rfl
    · have hrf : ¬ rightB l n = false := by rw [h1]; decide
      by_cases hbig : ones n < v
      · left; refine ⟨rfl, ?_⟩; unfold putE; rw [if_neg hrf, if_pos hbig]; rfl
      · right
        have hro := right_of h1
        obtain ⟨l, rfl⟩ := Int.eq_ofNat_of_zero_le hro.1
        obtain ⟨n, rfl⟩ := Int.eq_ofNat_of_zero_le (show 0 ≤ n by omega)
        have hrn := right_nat h1
        have hfi := fits_iff hrn.2.1 (by omega) v
        rw [decide_eq_false hbig] at hfi
        have hvn : v < 2 ^ n := of_decide_eq_true hfi
        refine ⟨rfl, ?_, putX_lt h1 hvn hx, get_other h1 hvn x l2 n2 hm⟩
        unfold putE; rw [if_neg hrf, if_neg hbig]
  · left; rfl

theorem cell_alloc {W : World} {o : Obj} {a : Addr} {v : Value} (h : W.cell? a = some v) : (W.alloc o).cell? a = some v :=
  ((Below.refl W.heap.size W).alloc (Nat.le_refl _) o).cell (block_lt_of_cell h) ▸ h

theorem rest_two (x : Nat) (hx : x < 18446744073709551616) (l n l2 n2 : Int) (b c : Nat) (w : World) (c0 : w.cell? ⟨b, 0, none⟩ = some (.int .i64 l)) (c1 : w.cell? ⟨b, 1, none⟩ = some (.int .i64 n))
    (c2 : w.cell? ⟨b, 2, none⟩ = some (.int .i64 l2)) (c3 : w.cell? ⟨b, 3, none⟩ = some (.int .i64 n2)) :
    Calls Try.prog 17 #[.int .u64 x, .slice (some ⟨b, 0, none⟩) 2 c] w fun e w' => e = .returned (.int .u64 ((andn (andn x (maskV l n)) (maskV l2 n2) : Nat) : Int)) ∧ Below w.heap.size w w' :=
  rest_some x hx [(l, n), (l2, n2)] b c (by simp) w
    (fun i hi => by
      match i, hi with
      | 0, _ => exact c0
      | 1, _ => exact c2)
    (fun i hi => by
      match i, hi with
      | 0, _ => exact c1
      | 1, _ => exact c3)

set_option maxRecDepth 100000 in
set_option maxHeartbeats 4000000 in
theorem walk (l n l2 n2 : Int) (x v : Nat) (hx : x < 18446744073709551616) (_hv : v < 18446744073709551616) (w : World) :
    Calls Try.prog 5 #[.agg #[.int .i64 l, .int .i64 n], .agg #[.int .i64 l2, .int .i64 n2], .int .u64 (x : Int), .int .u64 (v : Int)] w fun e w' => e = .returned (.bool true) ∧ Below w.heap.size w w' := by
  have hmeet := meets_eq l n l2 n2
  go_enter Try.func5, Try.ntmps5
  go_wp2_with fail
  refine (anchor_any _).mono ?_
  rintro e w1 ⟨rfl, hb1⟩
  have hc0 : w1.cell? ⟨w.heap.size, 0, none⟩ = some (.int .i64 l) := cell_later hb1 (by simp)
  have hc1 : w1.cell? ⟨w.heap.size, 1, none⟩ = some (.int .i64 n) := cell_later hb1 (by simp)
  have hc2 : w1.cell? ⟨w.heap.size + 1, 0, none⟩ = some (.int .i64 l2) := cell_later hb1 (by simp)
  have hc3 : w1.cell? ⟨w.heap.size + 1, 1, none⟩ = some (.int .i64 n2) := cell_later hb1 (by simp)
  have hB : Below w.heap.size w w1 := below_tr (((Below.refl _ _).alloc (Nat.le_refl _) _).alloc (by simp) _) hb1
  clear hb1
  go_upto_region 3 with fail
  go_cut [9] (fun m wm => m = .bool (mv l n l2 n2) ∧ wm.cell? ⟨w.heap.size, 0, none⟩ = some (.int .i64 l) ∧ wm.cell? ⟨w.heap.size, 1, none⟩ = some (.int .i64 n) ∧ wm.cell? ⟨w.heap.size + 1, 0, none⟩ = some (.int .i64 l2) ∧ wm.cell? ⟨w.heap.size + 1, 1, none⟩ = some (.int .i64 n2) ∧ Below w.heap.size w wm)
  case first =>
    cases h1 : rightB l n
    · have hm : Hid (mv l n l2 n2 = false) := by show mv l n l2 n2 = _; unfold mv; rw [h1]; rfl
      go_wp2_with fail
      refine (right_any l n _).mono ?_
      rintro e w2 ⟨rfl, hb2⟩
      rw [h1]
      go_wp2_with fail
      go_meet
      exact ⟨by rw [hm.out], cell_later hb2 hc0, cell_later hb2 hc1, cell_later hb2 hc2, cell_later hb2 hc3, below_tr hB hb2⟩
    · cases h2 : rightB l2 n2
      · have hm : Hid (mv l n l2 n2 = false) := by show mv l n l2 n2 = _; unfold mv; rw [h1, h2]; rfl
        go_wp2_with fail
        refine (right_any l n _).mono ?_
        rintro e w2 ⟨rfl, hb2⟩
        rw [h1]
        have hd2 := cell_later hb2 hc2
        have hd3 := cell_later hb2 hc3
        go_wp2_with fail
        refine (right_any l2 n2 _).mono ?_
        rintro e w3 ⟨rfl, hb3⟩
        rw [h2]
        clear hd2 hd3
        have hb4 := below_tr hb2 hb3
        clear hb2 hb3
        go_wp2_with fail
        go_meet
        exact ⟨by rw [hm.out], cell_later hb4 hc0, cell_later hb4 hc1, cell_later hb4 hc2, cell_later hb4 hc3, below_tr hB hb4⟩
      · have hr1 := right_of h1
        have hr2 := right_of h2
        by_cases c1 : l < l2 + n2
        · by_cases c2 : l2 < l + n
          · have hm : Hid (mv l n l2 n2 = true) := by show mv l n l2 n2 = _; unfold mv; rw [h1, h2, decide_eq_true c1, decide_eq_true c2]; rfl
            have d1 : decide (l < l2 + n2) = true := decide_eq_true c1
            have d2 : decide (l2 < l + n) = true := decide_eq_true c2
            go_wp2_with fail
            refine (right_any l n _).mono ?_
            rintro e w2 ⟨rfl, hb2⟩
            rw [h1]
            have hd2 := cell_later hb2 hc2
            have hd3 := cell_later hb2 hc3
            go_wp2_with fail
            refine (right_any l2 n2 _).mono ?_
            rintro e w3 ⟨rfl, hb3⟩
            rw [h2]
            have hb4 := below_tr hb2 hb3
            have he0 := cell_later hb4 hc0
            have he1 := cell_later hb4 hc1
            have he2 := cell_later hb4 hc2
            have he3 := cell_later hb4 hc3
            clear hb2 hb3 hd2 hd3
            go_wp2_with fail
            go_meet
            exact ⟨by rw [hm.out], he0, he1, he2, he3, below_tr hB hb4⟩
          · have hm : Hid (mv l n l2 n2 = false) := by show mv l n l2 n2 = _; unfold mv; rw [h1, h2, decide_eq_true c1, decide_eq_false c2]; rfl
            have d1 : decide (l < l2 + n2) = true := decide_eq_true c1
            have d2 : decide (l2 < l + n) = false := decide_eq_false c2
            go_wp2_with fail
            refine (right_any l n _).mono ?_
            rintro e w2 ⟨rfl, hb2⟩
            rw [h1]
            have hd2 := cell_later hb2 hc2
            have hd3 := cell_later hb2 hc3
            go_wp2_with fail
            refine (right_any l2 n2 _).mono ?_
            rintro e w3 ⟨rfl, hb3⟩
            rw [h2]
            have hb4 := below_tr hb2 hb3
            have he0 := cell_later hb4 hc0
            have he1 := cell_later hb4 hc1
            have he2 := cell_later hb4 hc2
            have he3 := cell_later hb4 hc3
            clear hb2 hb3 hd2 hd3
            go_wp2_with fail
            go_meet
            exact ⟨by rw [hm.out], he0, he1, he2, he3, below_tr hB hb4⟩
        · have hm : Hid (mv l n l2 n2 = false) := by show mv l n l2 n2 = _; unfold mv; rw [h1, h2, decide_eq_false c1]; rfl
          have d1 : decide (l < l2 + n2) = false := decide_eq_false c1
          go_wp2_with fail
          refine (right_any l n _).mono ?_
          rintro e w2 ⟨rfl, hb2⟩
          rw [h1]
          have hd2 := cell_later hb2 hc2
          have hd3 := cell_later hb2 hc3
          go_wp2_with fail
          refine (right_any l2 n2 _).mono ?_
          rintro e w3 ⟨rfl, hb3⟩
          rw [h2]
          have hb4 := below_tr hb2 hb3
          have he0 := cell_later hb4 hc0
          have he1 := cell_later hb4 hc1
          have he2 := cell_later hb4 hc2
          have he3 := cell_later hb4 hc3
          clear hb2 hb3 hd2 hd3
          go_wp2_with fail
          go_meet
          exact ⟨by rw [hm.out], he0, he1, he2, he3, below_tr hB hb4⟩
  case rest =>
    obtain ⟨rfl, hd0, hd1, hd2, hd3, hBc⟩ := hcut
    clear hc0 hc1 hc2 hc3 hB
    have hrest : ((andn (andn x (maskV l n)) (maskV l2 n2) : Nat) : Int) = bits BinOp.andNot IntKind.u64 (bits BinOp.andNot IntKind.u64 (x : Int) (maskV l n : Int)) (maskV l2 n2 : Int) := by
      rw [bits_andNot _ _ hx (maskV_lt _ _), bits_andNot _ _ (Nat.lt_of_le_of_lt (andn_le _ _) hx) (maskV_lt _ _)]
    go_wp2
    go_region_held3 (fun w' => w'.cell? ⟨w.heap.size, 0, none⟩ = some (.int .i64 l) ∧ w'.cell? ⟨w.heap.size, 1, none⟩ = some (.int .i64 n) ∧ w'.cell? ⟨w.heap.size + 1, 0, none⟩ = some (.int .i64 l2) ∧ w'.cell? ⟨w.heap.size + 1, 1, none⟩ = some (.int .i64 n2) ∧ Below w.heap.size w w')
      ((go_split_ands; refine ⟨?_, ?_, ?_, ?_, ?_⟩ <;> first | (assumption; done) | exact cell_later hbm (by assumption) | exact below_tr (by assumption) hbm | exact cell_alloc (by assumption) | exact Below.alloc (by assumption) (Below.size (by assumption)) _ | exact Below.drew (by assumption) | (go_keep; done)))
      (first
        | (go_at_call 16; refine (meets_any _ _ _ _ _).mono ?_; rintro e w' ⟨rfl, hbm⟩; rw [hmeet])
        | (go_at_call_of 17 (Value.slice none 0 0); refine (rest_none _ _).mono ?_; rintro e w' ⟨rfl, hbm⟩)
        | (go_at_call 17; refine (rest_two x hx l n l2 n2 _ _ _ ?_ ?_ ?_ ?_).mono ?_; (simp); (simp); (simp); (simp); rintro e w' ⟨rfl, hbm⟩)
        | (go_at_call 11; refine (mask_any _ _ _).mono ?_; rintro e w' ⟨rfl, hbm⟩))
    all_goals go_wp2_with fail
    obtain ⟨hc0, hc1, hc2, hc3, hB2⟩ : w'.cell? ⟨w.heap.size, 0, none⟩ = some (.int .i64 l) ∧ w'.cell? ⟨w.heap.size, 1, none⟩ = some (.int .i64 n) ∧ w'.cell? ⟨w.heap.size + 1, 0, none⟩ = some (.int .i64 l2) ∧ w'.cell? ⟨w.heap.size + 1, 1, none⟩ = some (.int .i64 n2) ∧ Below w.heap.size w w' := by assumption
    clear hd0 hd1 hd2 hd3 hBc hrest hbm hmeet
    have hpc := put_cases l n l2 n2 x v hx
    refine (put_any l n x v hx _).mono ?_
    rintro e w5 ⟨rfl, hb5⟩
    have hd2 := cell_later hb5 hc2
    have hd3 := cell_later hb5 hc3
    have hB5 := below_tr hB2 hb5
    clear hc0 hc1 hc2 hc3 hB2 hb5
    rcases hpc with hm | ⟨hm, he⟩ | ⟨hm, he, hlt, hg⟩
    · rw [hm]
      go_wp2
      go_quiet (fail)
      go_wp2
      go_ret
      exact ⟨rfl, below_drewN hB5 _⟩
    · rw [hm]
      go_wp2
      go_quiet (fail)
      go_wp2
      go_ret
      exact ⟨rfl, below_drewN hB5 _⟩
    · rw [hm, he]
      generalize putX l n x v = y at *
      go_wp2
      go_region_held3 (fun w' => w'.cell? ⟨w.heap.size + 1, 0, none⟩ = some (.int .i64 l2) ∧ w'.cell? ⟨w.heap.size + 1, 1, none⟩ = some (.int .i64 n2) ∧ Below w.heap.size w w')
        ((go_split_ands; refine ⟨?_, ?_, ?_⟩ <;> first | (assumption; done) | exact cell_later hbm (by assumption) | exact below_tr (by assumption) hbm | exact Below.drew (by assumption) | (go_keep; done)))
        (first
          | (go_at_call_of 10 (Value.int IntKind.u64 (y : Int)); refine (get_any _ _ y hlt _).mono ?_; rintro e w' ⟨rfl, hbm⟩; rw [hg])
          | (go_at_call 10; refine (get_any _ _ x hx _).mono ?_; rintro e w' ⟨rfl, hbm⟩))
      all_goals go_wp2
      have hh : w'.cell? ⟨w.heap.size + 1, 0, none⟩ = some (.int .i64 l2) ∧ w'.cell? ⟨w.heap.size + 1, 1, none⟩ = some (.int .i64 n2) ∧ Below w.heap.size w w' := by assumption
      go_ret
      exact ⟨rfl, hh.2.2⟩

theorem own : ownKnob Try.prog.godebug = none := by kernel_rfl
theorem laidOut : laidOutB Try.prog = true := by kernel_rfl

set_option linter.unusedVariables false in
set_option maxRecDepth 100000 in
theorem lifted (os : Os) (started : os.Started) (H : Type) (enc : TypeId × Value → H) :
    ReturnsInHanded {} Try.checked os 5 .any (Rows.fieldMeetsSpec.pre6 enc Try.prog Try.f5 Rows.fieldMeetsRow.domain false) (Rows.fieldMeetsSpec.post enc Try.prog Try.f5 false true false false) := by
  refine returnsInHanded_of_change (C := Try.checked) own started (by kernel_rfl) Try.func5
    (ChangeSpec.witness6 (enc := enc) (C := Try.checked) false ⟨#[], #[.agg #[.int .i64 0, .int .i64 0], .agg #[.int .i64 0, .int .i64 0], .int .u64 0, .int .u64 0], []⟩ 8 (by kernel_rfl) (by kernel_rfl) (by kernel_rfl) (by kernel_rfl)) ?_
  intro W base args ds gs before hval0 hW hcnd _
  have hval : ∀ (j : Nat) t v, Try.f5.params[j]? = some t → args[j]? = some v → Value.okWide Try.prog W .any base t v := hval0
  have hW' := hW
  obtain ⟨p, q, hA0, hV, rfl, hfz, hnd⟩ := hW
  have hA : DataW.TrodAll enc Try.prog W 0 (fun _ => true) true Try.f5.params.toList args.toList ds p := hA0
  rw [Try.params5] at hA hval
  obtain ⟨v0, vs0, d0, ds0, p0, q0, hargs, rfl, rfl, h0, r0⟩ := trodAll_cons hA
  obtain ⟨v1, vs1, d1, ds1, p1, q1, rfl, rfl, rfl, h1, r1⟩ := trodAll_cons r0
  obtain ⟨v2, vs2, d2, ds2, p2, q2, rfl, rfl, rfl, h2, r2⟩ := trodAll_cons r1
  obtain ⟨v3, vs3, d3, ds3, p3, q3, rfl, rfl, rfl, h3, r3⟩ := trodAll_cons r2
  obtain ⟨rfl, rfl, rfl⟩ := trodAll_nil r3
  obtain rfl : args = #[v0, v1, v2, v3] := by cases args; simp_all
  obtain ⟨rfl, rfl⟩ := trodVars_none hV
  have k0 := h0
  have lt0 : ∀ x ∈ p0, x.block < W.heap.size := by obtain ⟨m, hm⟩ := k0; exact DataW.trod_lt m _ _ _ hm
  have k1 := h1
  have lt1 : ∀ x ∈ p1, x.block < W.heap.size := by obtain ⟨m, hm⟩ := k1; exact DataW.trod_lt m _ _ _ hm
  have k2 := h2
  have lt2 : ∀ x ∈ p2, x.block < W.heap.size := by obtain ⟨m, hm⟩ := k2; exact DataW.trod_lt m _ _ _ hm
  have k3 := h3
  have lt3 : ∀ x ∈ p3, x.block < W.heap.size := by obtain ⟨m, hm⟩ := k3; exact DataW.trod_lt m _ _ _ hm
  obtain ⟨c00, c01, y00, y01, m0, rfl, _, _, hy00, hy01⟩ := open_agg2 Try.underlying23 (by kernel_rfl) (by kernel_rfl) (hval 0 23 v0 rfl rfl) h0
  obtain ⟨a0, e00, _, wa0⟩ := DataW.trod_int Try.underlying3 hy00
  obtain ⟨b0, e01, _, wb0⟩ := DataW.trod_int Try.underlying3 hy01
  simp only [List.cons.injEq, and_true] at e00 e01
  subst e00 e01
  obtain ⟨c10, c11, y10, y11, m1, rfl, _, _, hy10, hy11⟩ := open_agg2 Try.underlying23 (by kernel_rfl) (by kernel_rfl) (hval 1 23 v1 rfl rfl) h1
  obtain ⟨a1, e10, _, wa1⟩ := DataW.trod_int Try.underlying3 hy10
  obtain ⟨b1, e11, _, wb1⟩ := DataW.trod_int Try.underlying3 hy11
  simp only [List.cons.injEq, and_true] at e10 e11
  subst e10 e11
  obtain ⟨a2, rfl, _, _, w2⟩ := open_int Try.underlying24 (hval 2 24 v2 rfl rfl) h2
  obtain ⟨x2, rfl⟩ := Int.eq_ofNat_of_zero_le (bounds_u64 w2).1
  have b2 : x2 < 18446744073709551616 := by have := (bounds_u64 w2).2; omega
  obtain ⟨a3, rfl, _, _, w3⟩ := open_int Try.underlying24 (hval 3 24 v3 rfl rfl) h3
  obtain ⟨x3, rfl⟩ := Int.eq_ofNat_of_zero_le (bounds_u64 w3).1
  have b3 : x3 < 18446744073709551616 := by have := (bounds_u64 w3).2; omega
  clear hA0 hval0
  refine (walk a0 b0 a1 b1 x2 x3 b2 b3 W).mono fun e W' ⟨he, bel⟩ => ?_
  subst he
  exact ⟨_, rfl, _, _, _, [], _, [], hW', trodAll_mk1 (shut_bool Try.underlying4 _), (trodAll_cons_mk (Below.trod laidOut (by kernel_rfl) (of_decide_eq_true (by kernel_rfl)) k0 bel lt0) (trodAll_cons_mk (Below.trod laidOut (by kernel_rfl) (of_decide_eq_true (by kernel_rfl)) k1 bel lt1) (trodAll_cons_mk (Below.trod laidOut (by kernel_rfl) (of_decide_eq_true (by kernel_rfl)) k2 bel lt2) (trodAll_cons_mk (Below.trod laidOut (by kernel_rfl) (of_decide_eq_true (by kernel_rfl)) k3 bel lt3) trodAll_mk0)))), rfl, bel.frame _, fun h => by cases h⟩

theorem over : Rows.fieldMeetsRow.holds Try.pinned (OpenSpec.ofChange Rows.fieldMeetsSpec) :=
  OpenClaim.holds_of_wide 5 Try.f5 rfl rfl rfl rfl rfl rfl rfl ⟨rfl, rfl, rfl, rfl, rfl⟩ rfl rfl rfl rfl rfl (by kernel_rfl) Try.func5 (by kernel_rfl)
    (of_decide_eq_true (by kernel_rfl)) (by unfold Func.isWrapper; first | (rw [if_pos (by decide +kernel)]; kernel_rfl) | (rw [if_neg (by decide +kernel)]; exact ⟨rfl, rfl⟩))
    (fun os started H enc _ => lifted os started H enc)

theorem proved : Rows.FieldMeetsSaid :=
  over

end Go.Proofs.Ytdcjlonifbimcaa.fieldMeets
