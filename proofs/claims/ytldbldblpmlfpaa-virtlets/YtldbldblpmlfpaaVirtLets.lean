/- VirtLets (P5.2): for every descriptor, level and access the law returns true: a descriptor lets an access through just as the document says. No condition beyond the row's own. -/
import Derived.Test.YtldbldblpmlfpaaVirtFrame
import Derived.Test.YtldbldblpmlfpaaChecked
import Derived.Deep.RegionHeld3
namespace Go.Proofs.Ytldbldblpmlfpaa.virtLets
open Go.ChangeShapes Go.WideShapes Go.ChangeAt Go.RowKit Go.Lib Go.Joins

set_option maxHeartbeats 4000000 in
theorem walk (k : Int) (o : Nat) (u wr x s : Bool) (a l ac : Int) (w : World) :
    Calls Try.prog 6 #[dv k o u wr x s a, .int .i64 l, .int .i64 ac] w fun e w' => e = .returned (.bool true) ∧ Below w.heap.size w w' := by
  have cA := fun w1 => anchor_any w1
  have cL := fun w1 => let_any k o u wr x s a l ac w1
  have cR := fun w1 => refLet_any k o u wr x s a l ac w1
  unfold dv at *
  generalize letK u wr x s ac = K at *
  generalize letL u wr x s l ac = L at *
  go_enter Try.func6, Try.ntmps6
  go_wp2_with fail
  refine (cA _).mono ?_
  rintro e w1 ⟨rfl, hb1⟩
  have hB1 : Below w.heap.size w w1 := below_tr (below_new _ _) hb1
  have k0 : w1.cell? ⟨w.heap.size, 0, none⟩ = some (.int .i64 k) := cell_later hb1 (by simp)
  have k1 : w1.cell? ⟨w.heap.size, 1, none⟩ = some (.int .u64 o) := cell_later hb1 (by simp)
  have k2 : w1.cell? ⟨w.heap.size, 2, none⟩ = some (.bool u) := cell_later hb1 (by simp)
  have k3 : w1.cell? ⟨w.heap.size, 3, none⟩ = some (.bool wr) := cell_later hb1 (by simp)
  have k4 : w1.cell? ⟨w.heap.size, 4, none⟩ = some (.bool x) := cell_later hb1 (by simp)
  have k5 : w1.cell? ⟨w.heap.size, 5, none⟩ = some (.bool s) := cell_later hb1 (by simp)
  have k6 : w1.cell? ⟨w.heap.size, 6, none⟩ = some (.int .i64 a) := cell_later hb1 (by simp)
  clear hb1
  go_wp2_with fail
  refine (cL _).mono ?_
  rintro e w2 ⟨rfl, hb2⟩
  replace k0 := cell_later hb2 k0
  replace k1 := cell_later hb2 k1
  replace k2 := cell_later hb2 k2
  replace k3 := cell_later hb2 k3
  replace k4 := cell_later hb2 k4
  replace k5 := cell_later hb2 k5
  replace k6 := cell_later hb2 k6
  have hB2 := below_tr hB1 hb2
  have hsz := hB2.size
  have hB3 := fun ob => hB2.alloc (o := ob) hsz
  clear cA cL hB1 hb2 hB2
  go_wp2
  go_region_held3 (fun w' => w'.cell? ⟨w.heap.size, 0, none⟩ = some (.int .i64 k) ∧ w'.cell? ⟨w.heap.size, 1, none⟩ = some (.int .u64 o) ∧ w'.cell? ⟨w.heap.size, 2, none⟩ = some (.bool u) ∧ w'.cell? ⟨w.heap.size, 3, none⟩ = some (.bool wr) ∧ w'.cell? ⟨w.heap.size, 4, none⟩ = some (.bool x) ∧ w'.cell? ⟨w.heap.size, 5, none⟩ = some (.bool s) ∧ w'.cell? ⟨w.heap.size, 6, none⟩ = some (.int .i64 a) ∧ w'.cell? ⟨w2.heap.size, 0, none⟩ = some (.int .i64 K) ∧ w'.cell? ⟨w2.heap.size, 1, none⟩ = some (.int .i64 L) ∧ Below w.heap.size w w')
    ((go_split_ands; refine ⟨?_, ?_, ?_, ?_, ?_, ?_, ?_, ?_, ?_, ?_⟩ <;> first
      | (with_reducible assumption; done)
      | with_reducible exact cell_later hb3 (by assumption)
      | with_reducible exact below_tr (by assumption) hb3
      | with_reducible exact cell_alloc (by assumption)
      | with_reducible exact hB3 _
      | with_reducible exact Below.drew (by assumption)
      | with_reducible exact Below.drew (hB3 _)
      | (go_keep; done)))
    (first
      | (go_at_call 19; refine (cR _).mono ?_; rintro e w3 ⟨rfl, hb3⟩))
  all_goals go_wp2
  all_goals go_ret
  all_goals refine ⟨by simp, ?_⟩
  all_goals exact below_tr ((hB3 _).drew) hb3

theorem own : ownKnob Try.prog.godebug = none := by kernel_rfl
theorem laidOut : laidOutB Try.prog = true := by kernel_rfl

set_option linter.unusedVariables false in
set_option maxRecDepth 100000 in
theorem lifted (os : Os) (started : os.Started) (H : Type) (enc : TypeId × Value → H) :
    ReturnsInHanded {} Try.checked os 6 .any (Rows.virtLetsSpec.pre6 enc Try.prog Try.f6 Rows.virtLetsRow.domain false) (Rows.virtLetsSpec.post enc Try.prog Try.f6 false true false false) := by
  refine returnsInHanded_of_change (C := Try.checked) own started (by kernel_rfl) Try.func6
    (ChangeSpec.witness6 (enc := enc) (C := Try.checked) false ⟨#[], #[.agg #[.int .i64 0, .int .u64 0, .bool false, .bool false, .bool false, .bool false, .int .i64 0], .int .i64 0, .int .i64 0], []⟩ 8 (by kernel_rfl) (by kernel_rfl) (by kernel_rfl) (by kernel_rfl)) ?_
  intro W base args ds gs before hval0 hW hcnd _
  have hval : ∀ (j : Nat) t v, Try.f6.params[j]? = some t → args[j]? = some v → Value.okWide Try.prog W .any base t v := hval0
  have hW' := hW
  obtain ⟨p, q, hA0, hV, rfl, hfz, hnd⟩ := hW
  have hA : DataW.TrodAll enc Try.prog W 0 (fun _ => true) true Try.f6.params.toList args.toList ds p := hA0
  rw [Try.params6] at hA hval
  obtain ⟨v0, vs0, d0, ds0, p0, q0, hargs, rfl, rfl, h0, r0⟩ := trodAll_cons hA
  obtain ⟨v1, vs1, d1, ds1, p1, q1, rfl, rfl, rfl, h1, r1⟩ := trodAll_cons r0
  obtain ⟨v2, vs2, d2, ds2, p2, q2, rfl, rfl, rfl, h2, r2⟩ := trodAll_cons r1
  obtain ⟨rfl, rfl, rfl⟩ := trodAll_nil r2
  obtain rfl : args = #[v0, v1, v2] := by cases args; simp_all
  obtain ⟨rfl, rfl⟩ := trodVars_none hV
  have k0 := h0
  have lt0 : ∀ x ∈ p0, x.block < W.heap.size := by obtain ⟨m, hm⟩ := k0; exact DataW.trod_lt m _ _ _ hm
  have k1 := h1
  have lt1 : ∀ x ∈ p1, x.block < W.heap.size := by obtain ⟨m, hm⟩ := k1; exact DataW.trod_lt m _ _ _ hm
  have k2 := h2
  have lt2 : ∀ x ∈ p2, x.block < W.heap.size := by obtain ⟨m, hm⟩ := k2; exact DataW.trod_lt m _ _ _ hm
  obtain ⟨dk0, dO0, du0, dr0, dx0, ds0', da0, rfl, b0⟩ := open_desc (hval 0 34 v0 rfl rfl) h0
  obtain ⟨a1, rfl, _, _, w1⟩ := open_int Try.underlying3 (hval 1 3 v1 rfl rfl) h1
  obtain ⟨a2, rfl, _, _, w2⟩ := open_int Try.underlying3 (hval 2 3 v2 rfl rfl) h2
  clear hA0 hval0
  refine (walk dk0 dO0 du0 dr0 dx0 ds0' da0 a1 a2 W).mono fun e W' ⟨he, bel⟩ => ?_
  subst he
  exact ⟨_, rfl, _, _, _, [], _, [], hW', trodAll_mk1 (shut_bool Try.underlying4 _), (trodAll_cons_mk (Below.trod laidOut (by kernel_rfl) (of_decide_eq_true (by kernel_rfl)) k0 bel lt0) (trodAll_cons_mk (Below.trod laidOut (by kernel_rfl) (of_decide_eq_true (by kernel_rfl)) k1 bel lt1) (trodAll_cons_mk (Below.trod laidOut (by kernel_rfl) (of_decide_eq_true (by kernel_rfl)) k2 bel lt2) trodAll_mk0))), rfl, bel.frame _, fun h => by cases h⟩

theorem over : Rows.virtLetsRow.holds Try.pinned (OpenSpec.ofChange Rows.virtLetsSpec) :=
  OpenClaim.holds_of_wide 6 Try.f6 rfl rfl rfl rfl rfl rfl rfl ⟨rfl, rfl, rfl, rfl, rfl⟩ rfl rfl rfl rfl rfl (by kernel_rfl) Try.func6 (by kernel_rfl)
    (of_decide_eq_true (by kernel_rfl)) (by unfold Func.isWrapper; first | (rw [if_pos (by decide +kernel)]; kernel_rfl) | (rw [if_neg (by decide +kernel)]; exact ⟨rfl, rfl⟩))
    (fun os started H enc _ => lifted os started H enc)

theorem proved : Rows.VirtLetsSaid :=
  over

end Go.Proofs.Ytldbldblpmlfpaa.virtLets
