/- RightLeaves (P10.2): for every level, address and number the law returns true: the stretch with the rights is the document's descriptor, or refused; what it gives is within the rights. No condition beyond the row's own. -/
import Derived.Test.YtoblkicbfkgjnaaDoorRgE
import Derived.Test.YtoblkicbfkgjnaaDoorRgF
import Derived.Test.YtoblkicbfkgjnaaDoorDescFrame
namespace Go.Proofs.YtoblkicbfkgjnaaDoor.rightLeaves
open Go.ChangeShapes Go.WideShapes Go.ChangeAt Go.RowKit Go.Lib

set_option maxHeartbeats 2000000 in
set_option maxRecDepth 100000 in
theorem walk_bad (l : Int) (o : Nat) (r : Int) (h : ¬ (1 ≤ l ∧ l ≤ 3 ∧ rB r = true)) (w : World) (hF : Flds w) :
    Calls Tryd.prog 5 #[.int .i64 l, .int .u64 (o : Int), .int .i64 r] w fun e w' => e = .returned (.bool true) ∧ Below w.heap.size w w' := by
  have cA := fun w1 h => anchorR_any w1 h
  have cL := fun w1 => leaf_bad l o r h w1
  have cR := fun w1 => refRite_any r w1
  by_cases h1 : l < 1
  · have d1 : decide (l < 1) = true := decide_eq_true h1
    clear h cR
    go_enter Tryd.func5, Tryd.ntmps5
    go_wp2_with fail
    refine (cA _ hF).mono ?_
    rintro e w1 ⟨rfl, hB⟩
    go_wp2_with fail
    refine (cL _).mono ?_
    rintro e w2 ⟨rfl, hb⟩
    replace hB := below_tr hB hb
    clear hb cL cA
    go_wp2
    go_ret
    exact ⟨rfl, hB.alloc hB.size _⟩
  have d1 : decide (l < 1) = false := decide_eq_false h1
  by_cases h2 : 3 < l
  · have d2 : decide (3 < l) = true := decide_eq_true h2
    clear h cR
    go_enter Tryd.func5, Tryd.ntmps5
    go_wp2_with fail
    refine (cA _ hF).mono ?_
    rintro e w1 ⟨rfl, hB⟩
    go_wp2_with fail
    refine (cL _).mono ?_
    rintro e w2 ⟨rfl, hb⟩
    replace hB := below_tr hB hb
    clear hb cL cA
    go_wp2
    go_ret
    exact ⟨rfl, hB.alloc hB.size _⟩
  have d2 : decide (3 < l) = false := decide_eq_false h2
  have hr : rB r = false := by
    cases hb : rB r
    · rfl
    · exact absurd ⟨by omega, by omega, hb⟩ h
  rw [hr] at cR
  clear h hr
  go_enter Tryd.func5, Tryd.ntmps5
  go_wp2_with fail
  refine (cA _ hF).mono ?_
  rintro e w1 ⟨rfl, hB⟩
  go_wp2_with fail
  refine (cL _).mono ?_
  rintro e w2 ⟨rfl, hb⟩
  replace hB := below_tr hB hb
  clear hb cL cA
  go_wp2_with fail
  refine (cR _).mono ?_
  rintro e w3 ⟨rfl, rfl⟩
  go_wp2
  go_ret
  exact ⟨rfl, hB.alloc hB.size _⟩

theorem ofR : ∀ r : Nat, r < 8 → ∀ K : Int, K = 2 ∨ K = 3 → inV (ofV K (r.testBit 0) (r.testBit 0 && r.testBit 1) (r.testBit 0 && r.testBit 2) true) (r : Int) = true := by
  intro r hr K hK
  rcases hK with rfl | rfl
  · revert r; decide
  · revert r; decide

set_option maxHeartbeats 4000000 in
set_option maxRecDepth 100000 in
theorem walk_al (l K : Int) (hl : (l = 1 ∧ K = 2) ∨ (l = 2 ∧ K = 2) ∨ (l = 3 ∧ K = 3)) (o : Nat) (ho : o < 18446744073709551616) (r : Nat) (hr : r < 8) (hv : lfV l K o r = false) (w : World) (hF : Flds w) :
    Calls Tryd.prog 5 #[.int .i64 l, .int .u64 (o : Int), .int .i64 (r : Int)] w fun e w' => e = .returned (.bool true) ∧ Below w.heap.size w w' := by
  have cA := fun w1 h => anchorR_any w1 h
  have cL := fun w1 h => leaf_any l K hl o ho r hr w1 h
  have cR := fun w1 => refRite_any (r : Int) w1
  have cQ := fun w1 => refLeaf_any l K hl o ho r hr w1
  rw [rB_of hr] at cR
  rw [hv] at cL cQ
  unfold lfA at cL cQ
  rw [if_neg (by decide)] at cL cQ
  rw [show lfE false = 13 from rfl] at cL
  have d1 : decide (l < 1) = false := decide_eq_false (by omega)
  have d2 : decide (3 < l) = false := decide_eq_false (by omega)
  have h1 : ¬ l < 1 := by omega
  have h2 : ¬ 3 < l := by omega
  clear hl ho hr hv
  go_enter Tryd.func5, Tryd.ntmps5
  go_wp2_with fail
  refine (cA _ hF).mono ?_
  rintro e w1 ⟨rfl, hB⟩
  have hF1 := hF.later hB
  go_wp2_with fail
  refine (cL _ hF1).mono ?_
  rintro e w2 ⟨rfl, hb⟩
  replace hB := below_tr hB hb
  clear hb cL cA hF1
  go_wp2_with fail
  refine (cR _).mono ?_
  rintro e w3 ⟨rfl, rfl⟩
  go_wp2_with fail
  refine (cQ _).mono ?_
  rintro e w4 ⟨rfl, hb⟩
  have g1 := block_later hb (heap_alloc_new _ _)
  replace hB := below_tr (hB.alloc hB.size _) hb
  obtain ⟨k0, k1, k2, k3, k4, k5, k6⟩ := cells7r g1
  have j0 := fun ob => cell_alloc (o := ob) k0
  have j1 := fun ob => cell_alloc (o := ob) k1
  have j2 := fun ob => cell_alloc (o := ob) k2
  have j3 := fun ob => cell_alloc (o := ob) k3
  have j4 := fun ob => cell_alloc (o := ob) k4
  have j5 := fun ob => cell_alloc (o := ob) k5
  have j6 := fun ob => cell_alloc (o := ob) k6
  clear hb cR cQ k0 k1 k2 k3 k4 k5 k6 g1
  go_wp2
  go_ret
  exact ⟨rfl, hB.alloc hB.size _⟩

set_option maxHeartbeats 4000000 in
set_option maxRecDepth 100000 in
theorem walk_ok (l K : Int) (hl : (l = 1 ∧ K = 2) ∨ (l = 2 ∧ K = 2) ∨ (l = 3 ∧ K = 3)) (o : Nat) (ho : o < 18446744073709551616) (r : Nat) (hr : r < 8) (hv : lfV l K o r = true) (w : World) (hF : Flds w) :
    Calls Tryd.prog 5 #[.int .i64 l, .int .u64 (o : Int), .int .i64 (r : Int)] w fun e w' => e = .returned (.bool true) ∧ Below w.heap.size w w' := by
  have cA := fun w1 h => anchorR_any w1 h
  have cL := fun w1 h => leaf_any l K hl o ho r hr w1 h
  have cR := fun w1 => refRite_any (r : Int) w1
  have cQ := fun w1 => refLeaf_any l K hl o ho r hr w1
  have cP := fun w1 h => right_d l K o (r.testBit 0) (r.testBit 0 && r.testBit 1) (r.testBit 0 && r.testBit 2) true 0 ho w1 h
  have cO := fun w1 => of_any K o (r.testBit 0) (r.testBit 0 && r.testBit 1) (r.testBit 0 && r.testBit 2) true 0 w1
  have cN := fun w1 => refOf_any K o (r.testBit 0) (r.testBit 0 && r.testBit 1) (r.testBit 0 && r.testBit 2) true 0 w1
  have cI : ∀ w1, Calls Tryd.prog 11 #[.int .i64 (ofV K (r.testBit 0) (r.testBit 0 && r.testBit 1) (r.testBit 0 && r.testBit 2) true), .int .i64 (r : Int)] w1 fun e w' => e = .returned (.bool true) ∧ Below w1.heap.size w1 w' := fun w1 => by
    have h := in_any (ofV K (r.testBit 0) (r.testBit 0 && r.testBit 1) (r.testBit 0 && r.testBit 2) true) (r : Int) w1
    rw [ofR r hr K (by omega)] at h
    exact h.mono fun e w' hw => ⟨hw.1, by rw [← hw.2]; exact Below.refl _ _⟩
  rw [rB_of hr] at cR
  rw [show rightP l K o (r.testBit 0) (r.testBit 0 && r.testBit 1) (r.testBit 0 && r.testBit 2) true 0 = true from hv] at cP
  rw [hv] at cL cQ
  unfold lfA at cL cQ
  rw [if_pos rfl] at cL cQ
  rw [show lfE true = 0 from rfl] at cL
  have d1 : decide (l < 1) = false := decide_eq_false (by omega)
  have d2 : decide (3 < l) = false := decide_eq_false (by omega)
  have h1 : ¬ l < 1 := by omega
  have h2 : ¬ 3 < l := by omega
  clear hl ho hr hv
  generalize ofV K (r.testBit 0) (r.testBit 0 && r.testBit 1) (r.testBit 0 && r.testBit 2) true = V at *
  generalize (r.testBit 0 && r.testBit 1) = b1 at *
  generalize (r.testBit 0 && r.testBit 2) = b2 at *
  generalize r.testBit 0 = b0 at *
  go_enter Tryd.func5, Tryd.ntmps5
  go_wp2_with fail
  refine (cA _ hF).mono ?_
  rintro e w1 ⟨rfl, hB⟩
  have hF1 := hF.later hB
  go_wp2_with fail
  refine (cL _ hF1).mono ?_
  rintro e w2 ⟨rfl, hb⟩
  replace hB := below_tr hB hb
  clear hb cL cA hF1
  go_wp2_with fail
  refine (cR _).mono ?_
  rintro e w3 ⟨rfl, rfl⟩
  go_wp2_with fail
  refine (cQ _).mono ?_
  rintro e w4 ⟨rfl, hb⟩
  have g1 := block_later hb (heap_alloc_new _ _)
  have hlt := block_lt g1
  replace hB := below_tr (hB.alloc hB.size _) hb
  obtain ⟨k0, k1, k2, k3, k4, k5, k6⟩ := cells7r g1
  have j0 := fun ob => cell_alloc (o := ob) k0
  have j1 := fun ob => cell_alloc (o := ob) k1
  have j2 := fun ob => cell_alloc (o := ob) k2
  have j3 := fun ob => cell_alloc (o := ob) k3
  have j4 := fun ob => cell_alloc (o := ob) k4
  have j5 := fun ob => cell_alloc (o := ob) k5
  have j6 := fun ob => cell_alloc (o := ob) k6
  have hFw := hF.later (hB.alloc hB.size (.cells #[.int .i64 K, .int .u64 (o : Int), .bool b0, .bool b1, .bool b2, .bool true, .int .i64 0] 36))
  have hBw := hB.alloc hB.size (.cells #[.int .i64 K, .int .u64 (o : Int), .bool b0, .bool b1, .bool b2, .bool true, .int .i64 0] 36)
  clear hb cR cQ k0 k1 k2 k3 k4 k5 k6 g1
  go_wp2
  go_region_held3 (fun w' => (w'.cell? ⟨w2.heap.size, 0, none⟩ = some (.int .i64 K) ∧ w'.cell? ⟨w2.heap.size, 1, none⟩ = some (.int .u64 o) ∧ w'.cell? ⟨w2.heap.size, 2, none⟩ = some (.bool b0) ∧ w'.cell? ⟨w2.heap.size, 3, none⟩ = some (.bool b1) ∧ w'.cell? ⟨w2.heap.size, 4, none⟩ = some (.bool b2) ∧ w'.cell? ⟨w2.heap.size, 5, none⟩ = some (.bool true) ∧ w'.cell? ⟨w2.heap.size, 6, none⟩ = some (.int .i64 0)) ∧
      (w'.cell? ⟨w4.heap.size, 0, none⟩ = some (.int .i64 K) ∧ w'.cell? ⟨w4.heap.size, 1, none⟩ = some (.int .u64 o) ∧ w'.cell? ⟨w4.heap.size, 2, none⟩ = some (.bool b0) ∧ w'.cell? ⟨w4.heap.size, 3, none⟩ = some (.bool b1) ∧ w'.cell? ⟨w4.heap.size, 4, none⟩ = some (.bool b2) ∧ w'.cell? ⟨w4.heap.size, 5, none⟩ = some (.bool true) ∧ w'.cell? ⟨w4.heap.size, 6, none⟩ = some (.int .i64 0)) ∧ Flds w' ∧ Below w.heap.size w w')
    ((go_split_ands; refine ⟨⟨?_, ?_, ?_, ?_, ?_, ?_, ?_⟩, ⟨?_, ?_, ?_, ?_, ?_, ?_, ?_⟩, ?_, ?_⟩ <;> first | (with_reducible assumption; done) | with_reducible exact cell_later hbm (by assumption) | with_reducible exact Flds.later (by assumption) hbm | with_reducible exact below_tr (by assumption) hbm | exact hBw.drew | exact hFw.drew | (go_keep; done)))
    (first
      | (go_at_call 18; refine (cP _ (by go_split_ands; assumption)).mono ?_; rintro e w' ⟨rfl, hbm⟩)
      | (go_at_call 19; refine (cO _).mono ?_; rintro e w' ⟨rfl, hbm⟩)
      | (go_at_call 11; refine (cI _).mono ?_; rintro e w' ⟨rfl, hbm⟩)
      | (go_at_call 20; refine (cN _).mono ?_; rintro e w' ⟨rfl, hbm⟩))
  all_goals go_wp2
  all_goals go_ret
  all_goals exact ⟨by simp, by go_split_ands; assumption⟩

theorem walk (l : Int) (o : Nat) (r : Int) (w : World) (ho : o < 18446744073709551616) (hF : Flds w) :
    Calls Tryd.prog 5 #[.int .i64 l, .int .u64 (o : Int), .int .i64 r] w fun e w' => e = .returned (.bool true) ∧ Below w.heap.size w w' := by
  by_cases h : 1 ≤ l ∧ l ≤ 3 ∧ rB r = true
  · obtain ⟨h1, h2, h3⟩ := h
    obtain ⟨n, hn, rfl⟩ := rB_nat h3
    obtain ⟨K, hK⟩ : ∃ K : Int, (l = 1 ∧ K = 2) ∨ (l = 2 ∧ K = 2) ∨ (l = 3 ∧ K = 3) := by
      rcases (show l = 1 ∨ l = 2 ∨ l = 3 by omega) with rfl | rfl | rfl
      · exact ⟨2, Or.inl ⟨rfl, rfl⟩⟩
      · exact ⟨2, Or.inr (Or.inl ⟨rfl, rfl⟩)⟩
      · exact ⟨3, Or.inr (Or.inr ⟨rfl, rfl⟩)⟩
    cases hv : lfV l K o n
    · exact walk_al l K hK o ho n hn hv w hF
    · exact walk_ok l K hK o ho n hn hv w hF
  · exact walk_bad l o r h w hF

theorem met {W : World} (h : laidMet Tryd.prog Rows.rightLeavesRow.laid W) : Flds W := by
  have h1 := pair_of_reads (g := 0) (by kernel_rfl) (by kernel_rfl) (Lib.laidMet.reads h (n := "portreeve/desc.outField") (d := Rows.laid_portreeve_desc_outField) (by simp [Rows.rightLeavesRow]))
  exact ⟨h1.1, h1.2, trivial, trivial⟩

theorem own : ownKnob Tryd.prog.godebug = none := by kernel_rfl
theorem laidOut : laidOutB Tryd.prog = true := by kernel_rfl

set_option linter.unusedVariables false in
set_option maxRecDepth 100000 in
theorem contract (H : Type) (enc : TypeId × Value → H) (W : World) (base : Nat) (args : Array Value) (ds gs : List (DataW H)) (before : List MemPlace)
    (hval0 : ∀ (j : Nat) t v, Tryd.f5.params[j]? = some t → args[j]? = some v → Value.okWide Tryd.prog W .any base t v)
    (hW : DataW.Whole enc Tryd.prog Tryd.f5.params.toList Rows.rightLeavesSpec.vars false W args.toList ds gs before) (hL0 : laidMetH Tryd.prog Rows.rightLeavesRow.laid W) :
    Calls Tryd.prog 5 args W fun e W' => ∃ v, e = .returned v ∧ Rows.rightLeavesSpec.post enc Tryd.prog Tryd.f5 false true false false W args v W' := by
  have hL := hL0
  rw [MakeChecks.laidMetH_plain _ _ _ (by kernel_rfl)] at hL
  have hval := hval0
  have hW' := hW
  obtain ⟨p, q, hA0, hV, rfl, hfz, hnd⟩ := hW
  have hA : DataW.TrodAll enc Tryd.prog W 0 (fun _ => true) true Tryd.f5.params.toList args.toList ds p := hA0
  rw [Tryd.params5] at hA hval
  obtain ⟨v0, vs0, d0, ds0, p0, q0, hargs, rfl, rfl, h0, r0⟩ := trodAll_cons hA
  obtain ⟨v1, vs1, d1, ds1, p1, q1, rfl, rfl, rfl, h1, r1⟩ := trodAll_cons r0
  obtain ⟨v2, vs2, d2, ds2, p2, q2, rfl, rfl, rfl, h2, r2⟩ := trodAll_cons r1
  obtain ⟨rfl, rfl, rfl⟩ := trodAll_nil r2
  obtain rfl : args = #[v0, v1, v2] := by cases args; simp_all
  obtain ⟨rfl, rfl⟩ := trodVars_none hV
  have k0 := h0
  have lt0 : ∀ x ∈ p0, x.block < W.heap.size := by obtain ⟨m, hm⟩ := k0; exact DataW.trod_lt m _ _ _ hm
  have k1 := h1
  have lt1 : ∀ x ∈ p1, x.block < W.heap.size := by obtain ⟨m, hm⟩ := k1; exact DataW.trod_lt m _ _ _ hm
  have k2 := h2
  have lt2 : ∀ x ∈ p2, x.block < W.heap.size := by obtain ⟨m, hm⟩ := k2; exact DataW.trod_lt m _ _ _ hm
  obtain ⟨a0, rfl, _, _, w0⟩ := open_int Tryd.underlying3 (hval 0 3 v0 rfl rfl) h0
  obtain ⟨a1, rfl, _, _, w1⟩ := open_int Tryd.underlying30 (hval 1 30 v1 rfl rfl) h1
  obtain ⟨x1, rfl⟩ := Int.eq_ofNat_of_zero_le (bounds_u64 w1).1
  have b1 : x1 < 18446744073709551616 := by have := (bounds_u64 w1).2; omega
  obtain ⟨a2, rfl, _, _, w2⟩ := open_int Tryd.underlying3 (hval 2 3 v2 rfl rfl) h2
  clear hA0 hval0
  refine (walk a0 x1 a2 W b1 (met hL)).mono fun e W' ⟨he, bel⟩ => ?_
  subst he
  exact ⟨_, rfl, _, _, _, [], _, [], hW', trodAll_mk1 (shut_bool Tryd.underlying4 _), (trodAll_cons_mk (Below.trod laidOut (by kernel_rfl) (of_decide_eq_true (by kernel_rfl)) k0 bel lt0) (trodAll_cons_mk (Below.trod laidOut (by kernel_rfl) (of_decide_eq_true (by kernel_rfl)) k1 bel lt1) (trodAll_cons_mk (Below.trod laidOut (by kernel_rfl) (of_decide_eq_true (by kernel_rfl)) k2 bel lt2) trodAll_mk0))), rfl, bel.frame _, fun h => by cases h⟩

theorem laid_met (os : Os) : laidMet Tryd.prog Rows.rightLeavesRow.laid ((World.laidAll Tryd.prog os Rows.rightLeavesRow.laid).forCall (fun _ _ => 0) ⟨#[], #[.int .i64 0, .int .u64 0, .int .i64 0], []⟩).memory :=
  laidMet_laidAll _ (by kernel_rfl) (by kernel_rfl)
theorem reads (os : Os) {H : Type} (enc : TypeId × Value → H) : ∃ places, DataW.whole enc Tryd.prog ((World.laidAll Tryd.prog os Rows.rightLeavesRow.laid).forCall (fun _ _ => 0) ⟨#[], #[.int .i64 0, .int .u64 0, .int .i64 0], []⟩).memory Tryd.f5.params.toList Rows.rightLeavesSpec.vars false (#[.int .i64 0, .int .u64 0, .int .i64 0] : Array Value).toList 8 = some ([.lit (.int .i64 0), .lit (.int .u64 0), .lit (.int .i64 0)], [], places) :=
  ⟨[], by kernel_rfl⟩

set_option maxRecDepth 100000 in
theorem lifted (os : Os) (started : os.Started) (H : Type) (enc : TypeId × Value → H) (F : Stop.Interp) :
    ReturnsInHanded {} Tryd.checked os 5 .any ((OpenSpec.ofChange Rows.rightLeavesSpec).preRow enc Tryd.prog Tryd.f5 Rows.rightLeavesRow.domain false Rows.rightLeavesRow.laid) (((OpenSpec.ofChange Rows.rightLeavesSpec).at F).post enc Tryd.prog Tryd.f5 false true false false) := by
  obtain ⟨places, hx⟩ := reads os enc
  refine returnsInHanded_of_row (C := Tryd.checked) (s := (OpenSpec.ofChange Rows.rightLeavesSpec)) own started (by kernel_rfl) Tryd.func5
    (witness_row_at (enc := enc) (C := Tryd.checked) false (World.laidAll Tryd.prog os Rows.rightLeavesRow.laid) #[.int .i64 0, .int .u64 0, .int .i64 0] (World.laidAll_os _ _ _) (by kernel_rfl) (by kernel_rfl) (by kernel_rfl)
      (OpenSpec.preRow_of_cond 8 hx (by kernel_rfl) (fun k hk => by cases hk) (by kernel_rfl) (laid_met os))) ?_
  intro W base args ds gs before hval hW _ _ _ hL _ _
  exact contract H enc W base args ds gs before hval hW hL

theorem said : Rows.RightLeavesSaid :=
  OpenClaim.holds_of_cond 5 Tryd.f5 rfl rfl rfl rfl rfl rfl rfl ⟨rfl, rfl, rfl, rfl, rfl⟩ rfl rfl rfl rfl rfl (by kernel_rfl) Tryd.func5 (by kernel_rfl)
    (of_decide_eq_true (by kernel_rfl)) (by unfold Func.isWrapper; first | (rw [if_pos (by decide +kernel)]; kernel_rfl) | (rw [if_neg (by decide +kernel)]; exact ⟨rfl, rfl⟩))
    (fun os started H enc _ F => by rw [OpenClaim.pre_eq_preRow]; exact lifted os started H enc F)

theorem plain (f : FuncId) (fn : Func) (hf : Tryd.pinned.checked.prog.funcNamed "portreeve/portreevelaw10.RightLeaves" = some f) (hfn : Tryd.pinned.checked.prog.funcs[f]? = some fn) :
    false = Tryd.pinned.checked.prog.looks [] ∧ ∀ (j : Nat) t, fn.params[j]? = some t → Tryd.pinned.checked.prog.wantsStandIn t = false := by
  obtain rfl : f = 5 := Option.some.inj ((show Tryd.prog.funcNamed "portreeve/portreevelaw10.RightLeaves" = some 5 by kernel_rfl).symm.trans hf) |>.symm
  obtain rfl : fn = Tryd.f5 := (Option.some.inj (Tryd.func5.symm.trans hfn)).symm
  refine ⟨by kernel_rfl, fun j t ht => ?_⟩
  rw [Tryd.params5] at ht
  have hm : t ∈ [3, 30, 3] := by simpa using Array.mem_of_getElem? ht
  have hall : ([3, 30, 3].all fun u => !Tryd.prog.wantsStandIn u) = true := by kernel_rfl
  exact (show Tryd.prog.wantsStandIn t = false by simpa using List.all_eq_true.1 hall t hm)

theorem card : Rows.RightLeavesCardSaid :=
  Claim7.holds_tied_plain_at .later [] _ _ _ _ said (fun _ h => by cases h) (by kernel_rfl) (fun _ h => by cases h) rightLeaves_row_tie rfl ⟨rfl, rfl⟩ (by kernel_rfl) rfl plain (by kernel_rfl)

end Go.Proofs.YtoblkicbfkgjnaaDoor.rightLeaves
