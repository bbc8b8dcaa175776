/- For any field and any word the law FieldGets returns true, and its arguments read afterwards as before. No conditions. -/
import Derived.Test.YtdcjlonifbimcaaFieldMath
import Derived.ProofKit
import Derived.OpenShut
import Derived.ChangeOld
import Derived.Lib.SmallJoins
namespace Go.Proofs.Ytdcjlonifbimcaa.fieldGets
open Go.ChangeShapes Go.WideShapes Go.ChangeAt Go.RowKit Go.Joins

set_option maxHeartbeats 1000000 in
theorem walk (l n : Int) (x : Nat) (hx : x < 18446744073709551616) (w : World) :
    Calls Try.prog 3 #[.agg #[.int .i64 l, .int .i64 n], .int .u64 (x : Int)] w fun e w' => e = .returned (.bool true) ∧ Below w.heap.size w w' := by
  cases hr : rightB l n
  · have hg := getV_wrong hr x
    have hm := maskV_wrong hr
    go_enter Try.func3, Try.ntmps3
    go_wp2_with fail
    refine (anchor_any _).mono ?_
    rintro e w1 ⟨rfl, hb1⟩
    have hc0 : w1.cell? ⟨w.heap.size, 0, none⟩ = some (.int .i64 l) := cell_later hb1 (by simp)
    have hc1 : w1.cell? ⟨w.heap.size, 1, none⟩ = some (.int .i64 n) := cell_later hb1 (by simp)
    go_wp2_with fail
    refine (refRight_any l n _).mono ?_
    rintro e w2 ⟨rfl, e2⟩
    subst e2
    rw [hr]
    go_wp2_with fail
    refine (right_any l n _).mono ?_
    rintro e w3 ⟨rfl, hb3⟩
    rw [hr]
    have hd0 := cell_later hb3 hc0
    have hd1 := cell_later hb3 hc1
    clear hc0 hc1
    go_wp2_with fail
    refine (get_any l n x hx _).mono ?_
    rintro e w4 ⟨rfl, hb4⟩
    rw [hg]
    have he0 := cell_later hb4 hd0
    have he1 := cell_later hb4 hd1
    clear hd0 hd1
    go_wp2_with fail
    refine (mask_any l n _).mono ?_
    rintro e w5 ⟨rfl, hb5⟩
    rw [hm]
    go_wp2
    go_ret
    exact ⟨rfl, below_tr ((Below.refl _ _).alloc (Nat.le_refl _) _) (below_tr hb1 (below_tr hb3 (below_tr hb4 hb5)))⟩
  · have hro := right_of hr
    obtain ⟨l, rfl⟩ := Int.eq_ofNat_of_zero_le hro.1
    obtain ⟨n, rfl⟩ := Int.eq_ofNat_of_zero_le (show 0 ≤ n by omega)
    have hrn := right_nat hr
    have hv : ones n < 2 ^ n := by have := ones_pow (n := (n : Int)) (by omega) (by omega); rwa [Int.toNat_natCast] at this
    have hp : putVal 0 l n (ones n) = maskV l n := by rw [putVal_eq hr hv (by omega), mask_eq hr]
    have hf : fitsB (ones n) n = true := decide_eq_true hv
    have hge := getV_eq hr x
    clear hv hro
    go_enter Try.func3, Try.ntmps3
    go_wp2_with fail
    refine (anchor_any _).mono ?_
    rintro e w1 ⟨rfl, hb1⟩
    have hc0 : w1.cell? ⟨w.heap.size, 0, none⟩ = some (.int .i64 l) := cell_later hb1 (by simp)
    have hc1 : w1.cell? ⟨w.heap.size, 1, none⟩ = some (.int .i64 n) := cell_later hb1 (by simp)
    have hB : Below w.heap.size w w1 := below_tr ((Below.refl _ _).alloc (Nat.le_refl _) _) hb1
    clear hb1
    go_wp2_with fail
    refine (refRight_any l n _).mono ?_
    rintro e w2 ⟨rfl, e2⟩
    subst e2
    rw [hr]
    go_wp2
    go_region_held3 (fun w' => w'.cell? ⟨w.heap.size, 0, none⟩ = some (.int .i64 l) ∧ w'.cell? ⟨w.heap.size, 1, none⟩ = some (.int .i64 n) ∧ Below w.heap.size w w')
      (first | (go_keep; done) | exact ⟨by go_keep, by go_keep, Below.drew (by assumption)⟩ | exact ⟨cell_later hbm (by go_keep), cell_later hbm (by go_keep), below_tr (by go_keep) hbm⟩)
      (first
        | (go_at_call 13; refine (ones_any _ _).mono ?_; rintro e w' ⟨rfl, rfl⟩)
        | (go_at_call 12; refine (refPut_any 0 l n (ones n) (by omega) (ones_lt _) (by omega) _).mono ?_; rintro e w' ⟨rfl, hbm⟩; rw [hp, hf]))
    all_goals go_wp2
    obtain ⟨hd0, hd1, hB2⟩ : w'.cell? ⟨w.heap.size, 0, none⟩ = some (.int .i64 l) ∧ w'.cell? ⟨w.heap.size, 1, none⟩ = some (.int .i64 n) ∧ Below w.heap.size w w' := by assumption
    clear hc0 hc1 hbm hp hf
    go_region_held3 (fun w' => w'.cell? ⟨w.heap.size, 0, none⟩ = some (.int .i64 l) ∧ w'.cell? ⟨w.heap.size, 1, none⟩ = some (.int .i64 n) ∧ Below w.heap.size w w')
      (first | (go_keep; done) | exact ⟨by go_keep, by go_keep, Below.drew (by assumption)⟩ | exact ⟨cell_later hbm (by go_keep), cell_later hbm (by go_keep), below_tr (by go_keep) hbm⟩)
      (first
        | (go_at_call 9; refine (right_any _ _ _).mono ?_; rintro e w' ⟨rfl, hbm⟩; rw [hr])
        | (go_at_call 10; refine (get_any _ _ x hx _).mono ?_; rintro e w' ⟨rfl, hbm⟩)
        | (go_at_call 14; refine (refGet_any x l n hx (by omega) _).mono ?_; rintro e w' ⟨rfl, hbm⟩; rw [hge])
        | (go_at_call 11; refine (mask_any _ _ _).mono ?_; rintro e w' ⟨rfl, hbm⟩))
    all_goals go_wp2
    have hh : w'.cell? ⟨w.heap.size, 0, none⟩ = some (.int .i64 l) ∧ w'.cell? ⟨w.heap.size, 1, none⟩ = some (.int .i64 n) ∧ Below w.heap.size w w' := by assumption
    go_ret
    exact ⟨rfl, hh.2.2⟩

theorem own : ownKnob Try.prog.godebug = none := by kernel_rfl
theorem laidOut : laidOutB Try.prog = true := by kernel_rfl

set_option linter.unusedVariables false in
set_option maxRecDepth 100000 in
theorem lifted (os : Os) (started : os.Started) (H : Type) (enc : TypeId × Value → H) :
    ReturnsInHanded {} Try.checked os 3 .any (Rows.fieldGetsSpec.pre6 enc Try.prog Try.f3 Rows.fieldGetsRow.domain false) (Rows.fieldGetsSpec.post enc Try.prog Try.f3 false true false false) := by
  refine returnsInHanded_of_change (C := Try.checked) own started (by kernel_rfl) Try.func3
    (ChangeSpec.witness6 (enc := enc) (C := Try.checked) false ⟨#[], #[.agg #[.int .i64 0, .int .i64 0], .int .u64 0], []⟩ 8 (by kernel_rfl) (by kernel_rfl) (by kernel_rfl) (by kernel_rfl)) ?_
  intro W base args ds gs before hval0 hW hcnd _
  have hval : ∀ (j : Nat) t v, Try.f3.params[j]? = some t → args[j]? = some v → Value.okWide Try.prog W .any base t v := hval0
  have hW' := hW
  obtain ⟨p, q, hA0, hV, rfl, hfz, hnd⟩ := hW
  have hA : DataW.TrodAll enc Try.prog W 0 (fun _ => true) true Try.f3.params.toList args.toList ds p := hA0
  rw [Try.params3] at hA hval
  obtain ⟨v0, vs0, d0, ds0, p0, q0, hargs, rfl, rfl, h0, r0⟩ := trodAll_cons hA
  obtain ⟨v1, vs1, d1, ds1, p1, q1, rfl, rfl, rfl, h1, r1⟩ := trodAll_cons r0
  obtain ⟨rfl, rfl, rfl⟩ := trodAll_nil r1
  obtain rfl : args = #[v0, v1] := by cases args; simp_all
  obtain ⟨rfl, rfl⟩ := trodVars_none hV
  have k0 := h0
  have lt0 : ∀ x ∈ p0, x.block < W.heap.size := by obtain ⟨m, hm⟩ := k0; exact DataW.trod_lt m _ _ _ hm
  have k1 := h1
  have lt1 : ∀ x ∈ p1, x.block < W.heap.size := by obtain ⟨m, hm⟩ := k1; exact DataW.trod_lt m _ _ _ hm
  obtain ⟨c00, c01, y00, y01, m0, rfl, _, _, hy00, hy01⟩ := open_agg2 Try.underlying23 (by kernel_rfl) (by kernel_rfl) (hval 0 23 v0 rfl rfl) h0
  obtain ⟨a0, e00, _, wa0⟩ := DataW.trod_int Try.underlying3 hy00
  obtain ⟨b0, e01, _, wb0⟩ := DataW.trod_int Try.underlying3 hy01
  simp only [List.cons.injEq, and_true] at e00 e01
  subst e00 e01
  obtain ⟨a1, rfl, _, _, w1⟩ := open_int Try.underlying24 (hval 1 24 v1 rfl rfl) h1
  obtain ⟨x1, rfl⟩ := Int.eq_ofNat_of_zero_le (bounds_u64 w1).1
  have b1 : x1 < 18446744073709551616 := by have := (bounds_u64 w1).2; omega
  clear hA0 hval0
  refine (walk a0 b0 x1 b1 W).mono fun e W' ⟨he, bel⟩ => ?_
  subst he
  exact ⟨_, rfl, _, _, _, [], _, [], hW', trodAll_mk1 (shut_bool Try.underlying4 _), (trodAll_cons_mk (Below.trod laidOut (by kernel_rfl) (of_decide_eq_true (by kernel_rfl)) k0 bel lt0) (trodAll_cons_mk (Below.trod laidOut (by kernel_rfl) (of_decide_eq_true (by kernel_rfl)) k1 bel lt1) trodAll_mk0)), rfl, bel.frame _, fun h => by cases h⟩

theorem over : Rows.fieldGetsRow.holds Try.pinned (OpenSpec.ofChange Rows.fieldGetsSpec) :=
  OpenClaim.holds_of_wide 3 Try.f3 rfl rfl rfl rfl rfl rfl rfl ⟨rfl, rfl, rfl, rfl, rfl⟩ rfl rfl rfl rfl rfl (by kernel_rfl) Try.func3 (by kernel_rfl)
    (of_decide_eq_true (by kernel_rfl)) (by unfold Func.isWrapper; first | (rw [if_pos (by decide +kernel)]; kernel_rfl) | (rw [if_neg (by decide +kernel)]; exact ⟨rfl, rfl⟩))
    (fun os started H enc _ => lifted os started H enc)

theorem proved : Rows.FieldGetsSaid :=
  over

end Go.Proofs.Ytdcjlonifbimcaa.fieldGets
