/- For any field and any two words the law FieldPuts returns true, and its arguments read afterwards as before. No conditions. -/
import Derived.Test.YtdcjlonifbimcaaFieldMath
import Derived.ProofKit
import Derived.OpenShut
import Derived.ChangeOld
import Derived.Lib.SmallJoins
namespace Go.Proofs.Ytdcjlonifbimcaa.fieldPuts
open Go.ChangeShapes Go.WideShapes Go.ChangeAt Go.RowKit Go.Joins

theorem bits_put {l n : Nat} (h : rightB (l : Int) (n : Int) = true) {v : Nat} (hv : v < 2 ^ n) {x : Nat} (hx : x < 18446744073709551616) :
    bits BinOp.andNot IntKind.u64 ((putX l n x v : Nat) : Int) ((maskV l n : Nat) : Int) = bits BinOp.andNot IntKind.u64 (x : Int) ((maskV l n : Nat) : Int) := by
  rw [bits_andNot _ _ (putX_lt h hv hx) (maskV_lt _ _), bits_andNot _ _ hx (maskV_lt _ _), rest_put h hv]

set_option maxHeartbeats 1000000 in
theorem walk (l n : Int) (x v : Nat) (hx : x < 18446744073709551616) (hv : v < 18446744073709551616) (w : World) :
    Calls Try.prog 4 #[.agg #[.int .i64 l, .int .i64 n], .int .u64 (x : Int), .int .u64 (v : Int)] w fun e w' => e = .returned (.bool true) ∧ Below w.heap.size w w' := by
  cases hr : rightB l n
  · have hp1 : putX l n x v = 0 := by unfold putX; rw [if_pos hr]
    have hp2 : putE l n v = 10 := by unfold putE; rw [if_pos hr]
    go_enter Try.func4, Try.ntmps4
    go_wp2_with fail
    refine (anchor_any _).mono ?_
    rintro e w1 ⟨rfl, hb1⟩
    have hc0 : w1.cell? ⟨w.heap.size, 0, none⟩ = some (.int .i64 l) := cell_later hb1 (by simp)
    have hc1 : w1.cell? ⟨w.heap.size, 1, none⟩ = some (.int .i64 n) := cell_later hb1 (by simp)
    go_wp2_with fail
    refine (put_any l n x v hx _).mono ?_
    rintro e w2 ⟨rfl, hb2⟩
    rw [hp1, hp2]
    have hd0 := cell_later hb2 hc0
    have hd1 := cell_later hb2 hc1
    clear hc0 hc1
    go_wp2_with fail
    refine (right_any l n _).mono ?_
    rintro e w3 ⟨rfl, hb3⟩
    rw [hr]
    go_wp2
    go_ret
    exact ⟨rfl, below_tr ((Below.refl _ _).alloc (Nat.le_refl _) _) (below_tr hb1 (below_tr hb2 hb3))⟩
  · have hro := right_of hr
    obtain ⟨l, rfl⟩ := Int.eq_ofNat_of_zero_le hro.1
    obtain ⟨n, rfl⟩ := Int.eq_ofNat_of_zero_le (show 0 ≤ n by omega)
    have hrn := right_nat hr
    have hrf : ¬ rightB l n = false := by rw [hr]; decide
    have hfi := fits_iff hrn.2.1 (by omega) v
    by_cases hbig : ones (n : Int) < v
    · have hp1 : putX l n x v = 0 := by unfold putX; rw [if_neg hrf, if_pos hbig]
      have hp2 : putE l n v = 11 := by unfold putE; rw [if_neg hrf, if_pos hbig]
      have hf : fitsB v n = false := by rw [hfi, decide_eq_true hbig]; rfl
      have hp3 : putVal x l n v = 0 := by unfold putVal; rw [if_neg (of_decide_eq_false hf)]
      clear hro hrf hfi
      go_enter Try.func4, Try.ntmps4
      go_wp2_with fail
      refine (anchor_any _).mono ?_
      rintro e w1 ⟨rfl, hb1⟩
      have hc0 : w1.cell? ⟨w.heap.size, 0, none⟩ = some (.int .i64 l) := cell_later hb1 (by simp)
      have hc1 : w1.cell? ⟨w.heap.size, 1, none⟩ = some (.int .i64 n) := cell_later hb1 (by simp)
      go_wp2_with fail
      refine (put_any l n x v hx _).mono ?_
      rintro e w2 ⟨rfl, hb2⟩
      rw [hp1, hp2]
      have hd0 := cell_later hb2 hc0
      have hd1 := cell_later hb2 hc1
      clear hc0 hc1
      go_wp2_with fail
      refine (right_any l n _).mono ?_
      rintro e w3 ⟨rfl, hb3⟩
      rw [hr]
      have he0 := cell_later hb3 hd0
      have he1 := cell_later hb3 hd1
      clear hd0 hd1
      go_wp2_with fail
      refine (refPut_any x l n v hx hv (by omega) _).mono ?_
      rintro e w4 ⟨rfl, hb4⟩
      rw [hf, hp3]
      go_wp2
      go_ret
      exact ⟨rfl, below_tr ((Below.refl _ _).alloc (Nat.le_refl _) _) (below_tr hb1 (below_tr hb2 (below_tr hb3 hb4)))⟩
    · have hf : fitsB v n = true := by rw [hfi, decide_eq_false hbig]; rfl
      have hvn : v < 2 ^ n := of_decide_eq_true hf
      have hp2 : putE l n v = 0 := by unfold putE; rw [if_neg hrf, if_neg hbig]
      have hp3 : putVal x l n v = putX l n x v := putVal_eq hr hvn hx
      have hbt := bits_put hr hvn hx
      have hgp := get_put hr hvn x
      have hxl := putX_lt hr hvn hx
      clear hro hrf hfi hbig hvn
      go_enter Try.func4, Try.ntmps4
      go_wp2_with fail
      refine (anchor_any _).mono ?_
      rintro e w1 ⟨rfl, hb1⟩
      have hc0 : w1.cell? ⟨w.heap.size, 0, none⟩ = some (.int .i64 l) := cell_later hb1 (by simp)
      have hc1 : w1.cell? ⟨w.heap.size, 1, none⟩ = some (.int .i64 n) := cell_later hb1 (by simp)
      have hB : Below w.heap.size w w1 := below_tr ((Below.refl _ _).alloc (Nat.le_refl _) _) hb1
      clear hb1
      go_wp2_with fail
      refine (put_any l n x v hx _).mono ?_
      rintro e w2 ⟨rfl, hb2⟩
      generalize putX l n x v = y at *
      rw [hp2]
      have hd0 := cell_later hb2 hc0
      have hd1 := cell_later hb2 hc1
      have hB2 := below_tr hB hb2
      clear hc0 hc1 hb2 hB
      go_wp2_with fail
      refine (right_any l n _).mono ?_
      rintro e w3 ⟨rfl, hb3⟩
      rw [hr]
      have he0 := cell_later hb3 hd0
      have he1 := cell_later hb3 hd1
      have hB3 := below_tr hB2 hb3
      clear hd0 hd1 hB2 hb3
      go_wp2_with fail
      refine (refPut_any x l n v hx hv (by omega) _).mono ?_
      rintro e w4 ⟨rfl, hb4⟩
      rw [hf, hp3]
      have hc0 := cell_later hb4 he0
      have hc1 := cell_later hb4 he1
      have hB4 := below_tr hB3 hb4
      clear he0 he1 hB3 hb4
      go_wp2
      go_region_held3 (fun w' => w'.cell? ⟨w.heap.size, 0, none⟩ = some (.int .i64 l) ∧ w'.cell? ⟨w.heap.size, 1, none⟩ = some (.int .i64 n) ∧ Below w.heap.size w w')
        (first | (go_keep; done) | exact ⟨by go_keep, by go_keep, Below.drew (by assumption)⟩ | exact ⟨cell_later hbm (by go_keep), cell_later hbm (by go_keep), below_tr (by go_keep) hbm⟩)
        (first
          | (go_at_call 10; refine (get_any _ _ y hxl _).mono ?_; rintro e w' ⟨rfl, hbm⟩; rw [hgp])
          | (go_at_call 11; refine (mask_any _ _ _).mono ?_; rintro e w' ⟨rfl, hbm⟩))
      all_goals go_wp2
      have hh : w'.cell? ⟨w.heap.size, 0, none⟩ = some (.int .i64 l) ∧ w'.cell? ⟨w.heap.size, 1, none⟩ = some (.int .i64 n) ∧ Below w.heap.size w w' := by assumption
      go_ret
      exact ⟨rfl, hh.2.2⟩

theorem own : ownKnob Try.prog.godebug = none := by kernel_rfl
theorem laidOut : laidOutB Try.prog = true := by kernel_rfl

set_option linter.unusedVariables false in
set_option maxRecDepth 100000 in
theorem lifted (os : Os) (started : os.Started) (H : Type) (enc : TypeId × Value → H) :
    ReturnsInHanded {} Try.checked os 4 .any (Rows.fieldPutsSpec.pre6 enc Try.prog Try.f4 Rows.fieldPutsRow.domain false) (Rows.fieldPutsSpec.post enc Try.prog Try.f4 false true false false) := by
  refine returnsInHanded_of_change (C := Try.checked) own started (by kernel_rfl) Try.func4
    (ChangeSpec.witness6 (enc := enc) (C := Try.checked) false ⟨#[], #[.agg #[.int .i64 0, .int .i64 0], .int .u64 0, .int .u64 0], []⟩ 8 (by kernel_rfl) (by kernel_rfl) (by kernel_rfl) (by kernel_rfl)) ?_
  intro W base args ds gs before hval0 hW hcnd _
  have hval : ∀ (j : Nat) t v, Try.f4.params[j]? = some t → args[j]? = some v → Value.okWide Try.prog W .any base t v := hval0
  have hW' := hW
  obtain ⟨p, q, hA0, hV, rfl, hfz, hnd⟩ := hW
  have hA : DataW.TrodAll enc Try.prog W 0 (fun _ => true) true Try.f4.params.toList args.toList ds p := hA0
  rw [Try.params4] at hA hval
  obtain ⟨v0, vs0, d0, ds0, p0, q0, hargs, rfl, rfl, h0, r0⟩ := trodAll_cons hA
  obtain ⟨v1, vs1, d1, ds1, p1, q1, rfl, rfl, rfl, h1, r1⟩ := trodAll_cons r0
  obtain ⟨v2, vs2, d2, ds2, p2, q2, rfl, rfl, rfl, h2, r2⟩ := trodAll_cons r1
  obtain ⟨rfl, rfl, rfl⟩ := trodAll_nil r2
  obtain rfl : args = #[v0, v1, v2] := by cases args; simp_all
  obtain ⟨rfl, rfl⟩ := trodVars_none hV
  have k0 := h0
  have lt0 : ∀ x ∈ p0, x.block < W.heap.size := by obtain ⟨m, hm⟩ := k0; exact DataW.trod_lt m _ _ _ hm
  have k1 := h1
  have lt1 : ∀ x ∈ p1, x.block < W.heap.size := by obtain ⟨m, hm⟩ := k1; exact DataW.trod_lt m _ _ _ hm
  have k2 := h2
  have lt2 : ∀ x ∈ p2, x.block < W.heap.size := by obtain ⟨m, hm⟩ := k2; exact DataW.trod_lt m _ _ _ hm
  obtain ⟨c00, c01, y00, y01, m0, rfl, _, _, hy00, hy01⟩ := open_agg2 Try.underlying23 (by kernel_rfl) (by kernel_rfl) (hval 0 23 v0 rfl rfl) h0
  obtain ⟨a0, e00, _, wa0⟩ := DataW.trod_int Try.underlying3 hy00
  obtain ⟨b0, e01, _, wb0⟩ := DataW.trod_int Try.underlying3 hy01
  simp only [List.cons.injEq, and_true] at e00 e01
  subst e00 e01
  obtain ⟨a1, rfl, _, _, w1⟩ := open_int Try.underlying24 (hval 1 24 v1 rfl rfl) h1
  obtain ⟨x1, rfl⟩ := Int.eq_ofNat_of_zero_le (bounds_u64 w1).1
  have b1 : x1 < 18446744073709551616 := by have := (bounds_u64 w1).2; omega
  obtain ⟨a2, rfl, _, _, w2⟩ := open_int Try.underlying24 (hval 2 24 v2 rfl rfl) h2
  obtain ⟨x2, rfl⟩ := Int.eq_ofNat_of_zero_le (bounds_u64 w2).1
  have b2 : x2 < 18446744073709551616 := by have := (bounds_u64 w2).2; omega
  clear hA0 hval0
  refine (walk a0 b0 x1 x2 b1 b2 W).mono fun e W' ⟨he, bel⟩ => ?_
  subst he
  exact ⟨_, rfl, _, _, _, [], _, [], hW', trodAll_mk1 (shut_bool Try.underlying4 _), (trodAll_cons_mk (Below.trod laidOut (by kernel_rfl) (of_decide_eq_true (by kernel_rfl)) k0 bel lt0) (trodAll_cons_mk (Below.trod laidOut (by kernel_rfl) (of_decide_eq_true (by kernel_rfl)) k1 bel lt1) (trodAll_cons_mk (Below.trod laidOut (by kernel_rfl) (of_decide_eq_true (by kernel_rfl)) k2 bel lt2) trodAll_mk0))), rfl, bel.frame _, fun h => by cases h⟩

theorem over : Rows.fieldPutsRow.holds Try.pinned (OpenSpec.ofChange Rows.fieldPutsSpec) :=
  OpenClaim.holds_of_wide 4 Try.f4 rfl rfl rfl rfl rfl rfl rfl ⟨rfl, rfl, rfl, rfl, rfl⟩ rfl rfl rfl rfl rfl (by kernel_rfl) Try.func4 (by kernel_rfl)
    (of_decide_eq_true (by kernel_rfl)) (by unfold Func.isWrapper; first | (rw [if_pos (by decide +kernel)]; kernel_rfl) | (rw [if_neg (by decide +kernel)]; exact ⟨rfl, rfl⟩))
    (fun os started H enc _ => lifted os started H enc)

theorem proved : Rows.FieldPutsSaid :=
  over

end Go.Proofs.Ytdcjlonifbimcaa.fieldPuts
