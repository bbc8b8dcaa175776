/- RightMeets (P10.1): for every two numbers the law returns true: rights meet in those that both have, which are within each; those within others are just the ones that meet them in themselves. No condition beyond the row's own. -/
import Derived.Test.YtoblkicbfkgjnaaDoorRgE
import Derived.Test.YtoblkicbfkgjnaaDoorDescFrame
namespace Go.Proofs.YtoblkicbfkgjnaaDoor.rightMeets
open Go.ChangeShapes Go.WideShapes Go.ChangeAt Go.RowKit Go.Lib

theorem meet_n : ∀ n : Nat, n < 8 → ∀ m : Nat, m < 8 → meetV (n : Int) (m : Int) = ((n &&& m : Nat) : Int) := by decide
theorem in_n : ∀ n : Nat, n < 8 → ∀ m : Nat, m < 8 → inV (n : Int) (m : Int) = decide (n &&& m = n) := by decide
theorem and_lt (n m : Nat) (hn : n < 8) : n &&& m < 8 := Nat.lt_of_le_of_lt Nat.and_le_left hn

set_option maxHeartbeats 2000000 in
theorem walk_off (a b : Int) (h : (rB a && rB b) = false) (w : World) (hF : Flds w) :
    Calls Tryd.prog 3 #[.int .i64 a, .int .i64 b] w fun e w' => e = .returned (.bool true) ∧ Below w.heap.size w w' := by
  have cA := fun w1 h => anchorR_any w1 h
  have cPa := fun w1 => rite_any a w1
  have cRa := fun w1 => refRite_any a w1
  have cRb := fun w1 => refRite_any b w1
  have cM := fun w1 => meet_any a b w1
  have cI := fun w1 => in_any a b w1
  have e1 : meetV a b = 0 := by unfold meetV; rw [h]; rfl
  have e2 : inV a b = false := by unfold inV; rw [h]; rfl
  rw [e1] at cM
  rw [e2] at cI
  clear e1 e2
  cases ha : rB a
  · rw [ha] at cPa cRa
    clear h ha cRb
    go_enter Tryd.func3, Tryd.ntmps3
    go_wp2_with fail
    refine (cA _ hF).mono ?_
    rintro e w1 ⟨rfl, hB⟩
    go_wp2_with fail
    refine (cRa _).mono ?_
    rintro e w2 ⟨rfl, rfl⟩
    go_wp2_with fail
    refine (cPa _).mono ?_
    rintro e w2 ⟨rfl, rfl⟩
    go_wp2_with fail
    refine (cRa _).mono ?_
    rintro e w2 ⟨rfl, rfl⟩
    go_wp2_with fail
    refine (cM _).mono ?_
    rintro e w2 ⟨rfl, rfl⟩
    go_wp2_with fail
    refine (cI _).mono ?_
    rintro e w2 ⟨rfl, rfl⟩
    go_wp2
    go_ret
    exact ⟨rfl, hB⟩
  · rw [ha, Bool.true_and] at h
    rw [ha] at cPa cRa
    rw [h] at cRb
    clear h ha
    go_enter Tryd.func3, Tryd.ntmps3
    go_wp2_with fail
    refine (cA _ hF).mono ?_
    rintro e w1 ⟨rfl, hB⟩
    go_wp2_with fail
    refine (cRa _).mono ?_
    rintro e w2 ⟨rfl, rfl⟩
    go_wp2_with fail
    refine (cRb _).mono ?_
    rintro e w2 ⟨rfl, rfl⟩
    go_wp2_with fail
    refine (cPa _).mono ?_
    rintro e w2 ⟨rfl, rfl⟩
    go_wp2_with fail
    refine (cRa _).mono ?_
    rintro e w2 ⟨rfl, rfl⟩
    go_wp2_with fail
    refine (cM _).mono ?_
    rintro e w2 ⟨rfl, rfl⟩
    go_wp2_with fail
    refine (cI _).mono ?_
    rintro e w2 ⟨rfl, rfl⟩
    go_wp2
    go_ret
    exact ⟨rfl, hB⟩

set_option maxHeartbeats 2000000 in
theorem walk_on (n m : Nat) (hn : n < 8) (hm : m < 8) (w : World) (hF : Flds w) :
    Calls Tryd.prog 3 #[.int .i64 (n : Int), .int .i64 (m : Int)] w fun e w' => e = .returned (.bool true) ∧ Below w.heap.size w w' := by
  have cA := fun w1 h => anchorR_any w1 h
  have cPa := fun w1 => rite_any (n : Int) w1
  have cRa := fun w1 => refRite_any (n : Int) w1
  have cRb := fun w1 => refRite_any (m : Int) w1
  have cM := fun w1 => meet_any (n : Int) (m : Int) w1
  have cK := fun w1 => refMeet_any n m hn hm w1
  have cI := fun w1 => in_any (n : Int) (m : Int) w1
  have cJ := fun w1 => in_any ((n &&& m : Nat) : Int) (n : Int) w1
  have cL := fun w1 => in_any ((n &&& m : Nat) : Int) (m : Int) w1
  rw [rB_of hn] at cPa cRa
  rw [rB_of hm] at cRb
  rw [meet_n n hn m hm] at cM
  rw [in_n n hn m hm] at cI
  rw [in_n _ (and_lt n m hn) n hn, decide_eq_true (by rw [Nat.and_assoc, Nat.and_comm m n, ← Nat.and_assoc, Nat.and_self])] at cJ
  rw [in_n _ (and_lt n m hn) m hm, decide_eq_true (by rw [Nat.and_assoc, Nat.and_self])] at cL
  have e1 : (((n &&& m : Nat) : Int) == (n : Int)) = decide (n &&& m = n) := by rw [Bool.eq_iff_iff]; simp; omega
  generalize n &&& m = q at *
  generalize decide (q = n) = d at *
  clear hn hm
  go_enter Tryd.func3, Tryd.ntmps3
  go_wp2_with fail
  refine (cA _ hF).mono ?_
  rintro e w1 ⟨rfl, hB⟩
  go_wp2_with fail
  refine (cRa _).mono ?_
  rintro e w2 ⟨rfl, rfl⟩
  go_wp2_with fail
  refine (cRb _).mono ?_
  rintro e w2 ⟨rfl, rfl⟩
  go_wp2_with fail
  refine (cPa _).mono ?_
  rintro e w2 ⟨rfl, rfl⟩
  go_wp2_with fail
  refine (cRa _).mono ?_
  rintro e w2 ⟨rfl, rfl⟩
  go_wp2_with fail
  refine (cM _).mono ?_
  rintro e w2 ⟨rfl, rfl⟩
  go_wp2_with fail
  refine (cK _).mono ?_
  rintro e w2 ⟨rfl, hb⟩
  replace hB := below_tr hB hb
  clear hb
  go_wp2_with fail
  refine (cJ _).mono ?_
  rintro e w3 ⟨rfl, rfl⟩
  go_wp2_with fail
  refine (cL _).mono ?_
  rintro e w3 ⟨rfl, rfl⟩
  go_wp2_with fail
  refine (cI _).mono ?_
  rintro e w3 ⟨rfl, rfl⟩
  go_wp2
  go_ret
  exact ⟨by simp, hB⟩

theorem walk (a b : Int) (w : World) (hF : Flds w) :
    Calls Tryd.prog 3 #[.int .i64 a, .int .i64 b] w fun e w' => e = .returned (.bool true) ∧ Below w.heap.size w w' := by
  cases h : rB a && rB b
  · exact walk_off a b h w hF
  · rw [Bool.and_eq_true] at h
    obtain ⟨n, hn, rfl⟩ := rB_nat h.1
    obtain ⟨m, hm, rfl⟩ := rB_nat h.2
    exact walk_on n m hn hm w hF

theorem met {W : World} (h : laidMet Tryd.prog Rows.rightMeetsRow.laid W) : Flds W := by
  have h1 := pair_of_reads (g := 0) (by kernel_rfl) (by kernel_rfl) (Lib.laidMet.reads h (n := "portreeve/desc.outField") (d := Rows.laid_portreeve_desc_outField) (by simp [Rows.rightMeetsRow]))
  exact ⟨h1.1, h1.2, trivial, trivial⟩

theorem own : ownKnob Tryd.prog.godebug = none := by kernel_rfl
theorem laidOut : laidOutB Tryd.prog = true := by kernel_rfl

set_option linter.unusedVariables false in
set_option maxRecDepth 100000 in
theorem contract (H : Type) (enc : TypeId × Value → H) (W : World) (base : Nat) (args : Array Value) (ds gs : List (DataW H)) (before : List MemPlace)
    (hval0 : ∀ (j : Nat) t v, Tryd.f3.params[j]? = some t → args[j]? = some v → Value.okWide Tryd.prog W .any base t v)
    (hW : DataW.Whole enc Tryd.prog Tryd.f3.params.toList Rows.rightMeetsSpec.vars false W args.toList ds gs before) (hL0 : laidMetH Tryd.prog Rows.rightMeetsRow.laid W) :
    Calls Tryd.prog 3 args W fun e W' => ∃ v, e = .returned v ∧ Rows.rightMeetsSpec.post enc Tryd.prog Tryd.f3 false true false false W args v W' := by
  have hL := hL0
  rw [MakeChecks.laidMetH_plain _ _ _ (by kernel_rfl)] at hL
  have hval := hval0
  have hW' := hW
  obtain ⟨p, q, hA0, hV, rfl, hfz, hnd⟩ := hW
  have hA : DataW.TrodAll enc Tryd.prog W 0 (fun _ => true) true Tryd.f3.params.toList args.toList ds p := hA0
  rw [Tryd.params3] at hA hval
  obtain ⟨v0, vs0, d0, ds0, p0, q0, hargs, rfl, rfl, h0, r0⟩ := trodAll_cons hA
  obtain ⟨v1, vs1, d1, ds1, p1, q1, rfl, rfl, rfl, h1, r1⟩ := trodAll_cons r0
  obtain ⟨rfl, rfl, rfl⟩ := trodAll_nil r1
  obtain rfl : args = #[v0, v1] := by cases args; simp_all
  obtain ⟨rfl, rfl⟩ := trodVars_none hV
  have k0 := h0
  have lt0 : ∀ x ∈ p0, x.block < W.heap.size := by obtain ⟨m, hm⟩ := k0; exact DataW.trod_lt m _ _ _ hm
  have k1 := h1
  have lt1 : ∀ x ∈ p1, x.block < W.heap.size := by obtain ⟨m, hm⟩ := k1; exact DataW.trod_lt m _ _ _ hm
  obtain ⟨a0, rfl, _, _, w0⟩ := open_int Tryd.underlying3 (hval 0 3 v0 rfl rfl) h0
  obtain ⟨a1, rfl, _, _, w1⟩ := open_int Tryd.underlying3 (hval 1 3 v1 rfl rfl) h1
  clear hA0 hval0
  refine (walk a0 a1 W  (met hL)).mono fun e W' ⟨he, bel⟩ => ?_
  subst he
  exact ⟨_, rfl, _, _, _, [], _, [], hW', trodAll_mk1 (shut_bool Tryd.underlying4 _), (trodAll_cons_mk (Below.trod laidOut (by kernel_rfl) (of_decide_eq_true (by kernel_rfl)) k0 bel lt0) (trodAll_cons_mk (Below.trod laidOut (by kernel_rfl) (of_decide_eq_true (by kernel_rfl)) k1 bel lt1) trodAll_mk0)), rfl, bel.frame _, fun h => by cases h⟩

theorem laid_met (os : Os) : laidMet Tryd.prog Rows.rightMeetsRow.laid ((World.laidAll Tryd.prog os Rows.rightMeetsRow.laid).forCall (fun _ _ => 0) ⟨#[], #[.int .i64 0, .int .i64 0], []⟩).memory :=
  laidMet_laidAll _ (by kernel_rfl) (by kernel_rfl)
theorem reads (os : Os) {H : Type} (enc : TypeId × Value → H) : ∃ places, DataW.whole enc Tryd.prog ((World.laidAll Tryd.prog os Rows.rightMeetsRow.laid).forCall (fun _ _ => 0) ⟨#[], #[.int .i64 0, .int .i64 0], []⟩).memory Tryd.f3.params.toList Rows.rightMeetsSpec.vars false (#[.int .i64 0, .int .i64 0] : Array Value).toList 8 = some ([.lit (.int .i64 0), .lit (.int .i64 0)], [], places) :=
  ⟨[], by kernel_rfl⟩

set_option maxRecDepth 100000 in
theorem lifted (os : Os) (started : os.Started) (H : Type) (enc : TypeId × Value → H) (F : Stop.Interp) :
    ReturnsInHanded {} Tryd.checked os 3 .any ((OpenSpec.ofChange Rows.rightMeetsSpec).preRow enc Tryd.prog Tryd.f3 Rows.rightMeetsRow.domain false Rows.rightMeetsRow.laid) (((OpenSpec.ofChange Rows.rightMeetsSpec).at F).post enc Tryd.prog Tryd.f3 false true false false) := by
  obtain ⟨places, hx⟩ := reads os enc
  refine returnsInHanded_of_row (C := Tryd.checked) (s := (OpenSpec.ofChange Rows.rightMeetsSpec)) own started (by kernel_rfl) Tryd.func3
    (witness_row_at (enc := enc) (C := Tryd.checked) false (World.laidAll Tryd.prog os Rows.rightMeetsRow.laid) #[.int .i64 0, .int .i64 0] (World.laidAll_os _ _ _) (by kernel_rfl) (by kernel_rfl) (by kernel_rfl)
      (OpenSpec.preRow_of_cond 8 hx (by kernel_rfl) (fun k hk => by cases hk) (by kernel_rfl) (laid_met os))) ?_
  intro W base args ds gs before hval hW _ _ _ hL _ _
  exact contract H enc W base args ds gs before hval hW hL

theorem said : Rows.RightMeetsSaid :=
  OpenClaim.holds_of_cond 3 Tryd.f3 rfl rfl rfl rfl rfl rfl rfl ⟨rfl, rfl, rfl, rfl, rfl⟩ rfl rfl rfl rfl rfl (by kernel_rfl) Tryd.func3 (by kernel_rfl)
    (of_decide_eq_true (by kernel_rfl)) (by unfold Func.isWrapper; first | (rw [if_pos (by decide +kernel)]; kernel_rfl) | (rw [if_neg (by decide +kernel)]; exact ⟨rfl, rfl⟩))
    (fun os started H enc _ F => by rw [OpenClaim.pre_eq_preRow]; exact lifted os started H enc F)

theorem plain (f : FuncId) (fn : Func) (hf : Tryd.pinned.checked.prog.funcNamed "portreeve/portreevelaw10.RightMeets" = some f) (hfn : Tryd.pinned.checked.prog.funcs[f]? = some fn) :
    false = Tryd.pinned.checked.prog.looks [] ∧ ∀ (j : Nat) t, fn.params[j]? = some t → Tryd.pinned.checked.prog.wantsStandIn t = false := by
  obtain rfl : f = 3 := Option.some.inj ((show Tryd.prog.funcNamed "portreeve/portreevelaw10.RightMeets" = some 3 by kernel_rfl).symm.trans hf) |>.symm
  obtain rfl : fn = Tryd.f3 := (Option.some.inj (Tryd.func3.symm.trans hfn)).symm
  refine ⟨by kernel_rfl, fun j t ht => ?_⟩
  rw [Tryd.params3] at ht
  have hm : t ∈ [3, 3] := by simpa using Array.mem_of_getElem? ht
  have hall : ([3, 3].all fun u => !Tryd.prog.wantsStandIn u) = true := by kernel_rfl
  exact (show Tryd.prog.wantsStandIn t = false by simpa using List.all_eq_true.1 hall t hm)

theorem card : Rows.RightMeetsCardSaid :=
  Claim7.holds_tied_plain_at .later [] _ _ _ _ said (fun _ h => by cases h) (by kernel_rfl) (fun _ h => by cases h) rightMeets_row_tie rfl ⟨rfl, rfl⟩ (by kernel_rfl) rfl plain (by kernel_rfl)

end Go.Proofs.YtoblkicbfkgjnaaDoor.rightMeets
