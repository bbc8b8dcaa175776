/- DescEncodes (P4.1): for every level and descriptor the law returns true: the descriptor has a word at the level just if the document says so, and the word says it; nothing else does. No condition beyond the row's own. -/
import Derived.Test.YtoolmhkonhcfpaaDoorDescSeven
import Derived.Test.YtoolmhkonhcfpaaDoorDescBack
import Derived.Test.YtoolmhkonhcfpaaDoorDescFrame
import Derived.Deep.RegionHeld3
namespace Go.Proofs.YtoolmhkonhcfpaaDoor.descEncodes
open Go.ChangeShapes Go.WideShapes Go.ChangeAt Go.RowKit Go.Lib

set_option maxRecDepth 100000 in
set_option maxHeartbeats 8000000 in
theorem walk_lv (l k : Int) (o : Nat) (u r x s : Bool) (a : Int) (ho : o < 18446744073709551616) (hl : isLv l = false) (w : World) (hF : Flds w) :
    Calls Tryd.prog 3 #[.int .i64 l, dv k o u r x s a] w fun e w' => e = .returned (.bool true) ∧ Below w.heap.size w w' := by
  have cA := fun w1 h => anchor_any w1 h
  have cE := fun w1 h => encode_any l k o u r x s a ho w1 h
  have cP := fun w1 h => right_d l k o u r x s a ho w1 h
  have hr : rightP l k o u r x s a = false := by unfold rightP; rw [if_pos hl]
  have eE : encE l k o u r x s a = 12 := by unfold encE; rw [if_pos hl]
  have eW : encW l k o u r x s a = 0 := by unfold encW; rw [if_pos hr]
  rw [eE, eW] at cE
  rw [hr] at cP
  have hn : ¬ (0 ≤ l ∧ l ≤ 3) := of_decide_eq_false hl
  clear hl hr eE eW
  by_cases h1 : l < 0
  · have d1 : decide (l < 0) = true := decide_eq_true h1
    clear hn
    go_enter Tryd.func3, Tryd.ntmps3
    go_wp2_with fail
    refine (cA _ (hF.alloc _)).mono ?_
    rintro e w1 ⟨rfl, hbm⟩
    have hF1 := (hF.alloc _).later hbm
    have hD1 := (D7.new w 24 k o u r x s a).later hbm
    have hB1 : Below w.heap.size w w1 := below_tr (below_new _ _) hbm
    obtain ⟨j0, j1, j2, j3, j4, j5, j6⟩ := hD1
    clear hbm cA hF
    go_wp2_with fail
    refine (cE _ hF1).mono ?_
    rintro e w2 ⟨rfl, hbm⟩
    have hF2 := hF1.later hbm
    have hD2 := (D7.mk j0 j1 j2 j3 j4 j5 j6).later hbm
    have hB2 : Below w.heap.size w w2 := below_tr hB1 hbm
    clear hbm cE hF1 hB1 j0 j1 j2 j3 j4 j5 j6
    obtain ⟨j0, j1, j2, j3, j4, j5, j6⟩ := hD2
    go_wp2_with fail
    refine (cP _ hF2).mono ?_
    rintro e w3 ⟨rfl, hbm⟩
    go_wp2
    go_ret
    exact ⟨rfl, below_tr hB2 hbm⟩
  · have d1 : decide (l < 0) = false := decide_eq_false h1
    have h3 : 3 < l := by omega
    have d2 : decide (3 < l) = true := decide_eq_true h3
    clear hn
    go_enter Tryd.func3, Tryd.ntmps3
    go_wp2_with fail
    refine (cA _ (hF.alloc _)).mono ?_
    rintro e w1 ⟨rfl, hbm⟩
    have hF1 := (hF.alloc _).later hbm
    have hD1 := (D7.new w 24 k o u r x s a).later hbm
    have hB1 : Below w.heap.size w w1 := below_tr (below_new _ _) hbm
    obtain ⟨j0, j1, j2, j3, j4, j5, j6⟩ := hD1
    clear hbm cA hF
    go_wp2_with fail
    refine (cE _ hF1).mono ?_
    rintro e w2 ⟨rfl, hbm⟩
    have hF2 := hF1.later hbm
    have hD2 := (D7.mk j0 j1 j2 j3 j4 j5 j6).later hbm
    have hB2 : Below w.heap.size w w2 := below_tr hB1 hbm
    clear hbm cE hF1 hB1 j0 j1 j2 j3 j4 j5 j6
    obtain ⟨j0, j1, j2, j3, j4, j5, j6⟩ := hD2
    go_wp2_with fail
    refine (cP _ hF2).mono ?_
    rintro e w3 ⟨rfl, hbm⟩
    go_wp2
    go_ret
    exact ⟨rfl, below_tr hB2 hbm⟩

set_option maxRecDepth 100000 in
set_option maxHeartbeats 8000000 in
theorem walk_wrong (l k : Int) (o : Nat) (u r x s : Bool) (a : Int) (ho : o < 18446744073709551616) (hl : isLv l = true) (hr : rightP l k o u r x s a = false) (w : World) (hF : Flds w) :
    Calls Tryd.prog 3 #[.int .i64 l, dv k o u r x s a] w fun e w' => e = .returned (.bool true) ∧ Below w.heap.size w w' := by
  have cA := fun w1 h => anchor_any w1 h
  have cE := fun w1 h => encode_any l k o u r x s a ho w1 h
  have cP := fun w1 h => right_d l k o u r x s a ho w1 h
  have cS := fun w1 => listed_any k o u r x s a w1
  have cQ := fun w1 => refRight_any l k o u r x s a hl ho w1
  have eE : encE l k o u r x s a = 10 := by unfold encE; rw [if_neg (by rw [hl]; decide), if_pos hr]
  have eW : encW l k o u r x s a = 0 := by unfold encW; rw [if_pos hr]
  rw [eE, eW] at cE
  rw [hr] at cP cQ
  have hb := isLv_of hl
  have h1 : ¬ l < 0 := by omega
  have h3 : ¬ 3 < l := by omega
  have d1 : decide (l < 0) = false := decide_eq_false h1
  have d2 : decide (3 < l) = false := decide_eq_false h3
  clear hl hr eE eW hb
  go_enter Tryd.func3, Tryd.ntmps3
  go_wp2_with fail
  refine (cA _ (hF.alloc _)).mono ?_
  rintro e w1 ⟨rfl, hbm⟩
  have hF1 := (hF.alloc _).later hbm
  have hD1 := (D7.new w 24 k o u r x s a).later hbm
  have hB1 : Below w.heap.size w w1 := below_tr (below_new _ _) hbm
  obtain ⟨j0, j1, j2, j3, j4, j5, j6⟩ := hD1
  clear hbm cA hF
  go_wp2_with fail
  refine (cE _ hF1).mono ?_
  rintro e w2 ⟨rfl, hbm⟩
  have hF2 := hF1.later hbm
  have hD2 := (D7.mk j0 j1 j2 j3 j4 j5 j6).later hbm
  have hB2 : Below w.heap.size w w2 := below_tr hB1 hbm
  clear hbm cE hF1 hB1 j0 j1 j2 j3 j4 j5 j6
  obtain ⟨j0, j1, j2, j3, j4, j5, j6⟩ := hD2
  go_wp2_with fail
  refine (cS _).mono ?_
  rintro e w3 ⟨rfl, hbm⟩
  have hF3 := hF2.later hbm
  have hD3 := (D7.mk j0 j1 j2 j3 j4 j5 j6).later hbm
  have hB3 : Below w.heap.size w w3 := below_tr hB2 hbm
  clear hbm hF2 hB2 j0 j1 j2 j3 j4 j5 j6
  obtain ⟨j0, j1, j2, j3, j4, j5, j6⟩ := hD3
  go_wp2_with fail
  refine (cQ _).mono ?_
  rintro e w4 ⟨rfl, hbm⟩
  have hF4 := hF3.later hbm
  have hD4 := (D7.mk j0 j1 j2 j3 j4 j5 j6).later hbm
  have hB4 : Below w.heap.size w w4 := below_tr hB3 hbm
  clear hbm cQ hF3 hB3 j0 j1 j2 j3 j4 j5 j6
  obtain ⟨j0, j1, j2, j3, j4, j5, j6⟩ := hD4
  go_wp2_with fail
  refine (cP _ hF4).mono ?_
  rintro e w5 ⟨rfl, hbm⟩
  go_wp2
  go_ret
  exact ⟨rfl, below_tr hB4 hbm⟩

set_option maxRecDepth 100000 in
set_option maxHeartbeats 8000000 in
theorem walk_right (l k : Int) (o : Nat) (u r x s : Bool) (a : Int) (ho : o < 18446744073709551616) (hl : isLv l = true) (hr : rightP l k o u r x s a = true) (w : World) (hF : Flds w) :
    Calls Tryd.prog 3 #[.int .i64 l, dv k o u r x s a] w fun e w' => e = .returned (.bool true) ∧ Below w.heap.size w w' := by
  have cA := fun w1 h => anchor_any w1 h
  have cE := fun w1 h => encode_any l k o u r x s a ho w1 h
  have cP := fun w1 h => right_d l k o u r x s a ho w1 h
  have cS := fun w1 => listed_any k o u r x s a w1
  have cQ := fun w1 => refRight_any l k o u r x s a hl ho w1
  have eE : encE l k o u r x s a = 0 := by unfold encE; rw [if_neg (by rw [hl]; decide), if_neg (by rw [hr]; decide)]
  obtain ⟨hlt, hg, hv⟩ := enc_back l k o u r x s a ho hr
  have cD := fun w1 h => decode_good l _ hl hlt hg w1 h
  have cR := fun w1 => rdec_good l _ hl hlt hg w1
  rw [hv] at cD cR
  rw [eE] at cE
  rw [hr] at cP cQ
  generalize encW l k o u r x s a = W at *
  have hb := isLv_of hl
  have h1 : ¬ l < 0 := by omega
  have h3 : ¬ 3 < l := by omega
  have d1 : decide (l < 0) = false := decide_eq_false h1
  have d2 : decide (3 < l) = false := decide_eq_false h3
  clear hl hr eE hb hlt hg hv
  go_enter Tryd.func3, Tryd.ntmps3
  go_wp2_with fail
  refine (cA _ (hF.alloc _)).mono ?_
  rintro e w1 ⟨rfl, hbm⟩
  have hF1 := (hF.alloc _).later hbm
  have hD1 := (D7.new w 24 k o u r x s a).later hbm
  have hB1 : Below w.heap.size w w1 := below_tr (below_new _ _) hbm
  obtain ⟨j0, j1, j2, j3, j4, j5, j6⟩ := hD1
  clear hbm cA hF
  go_wp2_with fail
  refine (cE _ hF1).mono ?_
  rintro e w2 ⟨rfl, hbm⟩
  have hF2 := hF1.later hbm
  have hD2 := (D7.mk j0 j1 j2 j3 j4 j5 j6).later hbm
  have hB2 : Below w.heap.size w w2 := below_tr hB1 hbm
  clear hbm cE hF1 hB1 j0 j1 j2 j3 j4 j5 j6
  obtain ⟨j0, j1, j2, j3, j4, j5, j6⟩ := hD2
  go_wp2_with fail
  refine (cS _).mono ?_
  rintro e w3 ⟨rfl, hbm⟩
  have hF3 := hF2.later hbm
  have hD3 := (D7.mk j0 j1 j2 j3 j4 j5 j6).later hbm
  have hB3 : Below w.heap.size w w3 := below_tr hB2 hbm
  clear hbm hF2 hB2 j0 j1 j2 j3 j4 j5 j6
  obtain ⟨j0, j1, j2, j3, j4, j5, j6⟩ := hD3
  go_wp2_with fail
  refine (cQ _).mono ?_
  rintro e w4 ⟨rfl, hbm⟩
  have hF4 := hF3.later hbm
  have hD4 := (D7.mk j0 j1 j2 j3 j4 j5 j6).later hbm
  have hB4 : Below w.heap.size w w4 := below_tr hB3 hbm
  clear hbm cQ hF3 hB3 j0 j1 j2 j3 j4 j5 j6
  obtain ⟨j0, j1, j2, j3, j4, j5, j6⟩ := hD4
  go_wp2_with fail
  refine (cR _).mono ?_
  rintro e w5 ⟨rfl, hbm⟩
  have hF5 := hF4.later hbm
  have hD5 := (D7.mk j0 j1 j2 j3 j4 j5 j6).later hbm
  have hB5 : Below w.heap.size w w5 := below_tr hB4 hbm
  clear hbm cR hF4 hB4 j0 j1 j2 j3 j4 j5 j6
  go_wp2_with fail
  refine (cD _ (hF5.alloc _)).mono ?_
  rintro e w6 ⟨rfl, hbm⟩
  have hF6 := (hF5.alloc _).later hbm
  have hD6 := (hD5.alloc _).later hbm
  have hX6 := (D7.new w5 31 k o u r x s a).later hbm
  have hB6 : Below w.heap.size w w6 := below_tr (hB5.alloc hB5.size _) hbm
  clear hbm cD hF5 hB5 hD5
  have hFz := hF6.alloc (.cells #[.int .i64 k, .int .u64 (o : Int), .bool u, .bool r, .bool x, .bool s, .int .i64 a] 24)
  have hBz := hB6.alloc hB6.size (.cells #[.int .i64 k, .int .u64 (o : Int), .bool u, .bool r, .bool x, .bool s, .int .i64 a] 24)
  obtain ⟨j0, j1, j2, j3, j4, j5, j6⟩ := hD6.alloc (.cells #[.int .i64 k, .int .u64 (o : Int), .bool u, .bool r, .bool x, .bool s, .int .i64 a] 24)
  obtain ⟨i0, i1, i2, i3, i4, i5, i6⟩ := hX6.alloc (.cells #[.int .i64 k, .int .u64 (o : Int), .bool u, .bool r, .bool x, .bool s, .int .i64 a] 24)
  obtain ⟨q0, q1, q2, q3, q4, q5, q6⟩ := D7.new w6 24 k o u r x s a
  clear hF6 hB6 hD6 hX6
  go_wp2_with fail
  go_region_held3 (fun w' => w'.cell? ⟨w.heap.size, 0, none⟩ = some (.int .i64 k) ∧ w'.cell? ⟨w.heap.size, 1, none⟩ = some (.int .u64 (o : Int)) ∧ w'.cell? ⟨w.heap.size, 2, none⟩ = some (.bool u) ∧ w'.cell? ⟨w.heap.size, 3, none⟩ = some (.bool r) ∧ w'.cell? ⟨w.heap.size, 4, none⟩ = some (.bool x) ∧ w'.cell? ⟨w.heap.size, 5, none⟩ = some (.bool s) ∧ w'.cell? ⟨w.heap.size, 6, none⟩ = some (.int .i64 a) ∧ w'.cell? ⟨w5.heap.size, 0, none⟩ = some (.int .i64 k) ∧ w'.cell? ⟨w5.heap.size, 1, none⟩ = some (.int .u64 (o : Int)) ∧ w'.cell? ⟨w5.heap.size, 2, none⟩ = some (.bool u) ∧ w'.cell? ⟨w5.heap.size, 3, none⟩ = some (.bool r) ∧ w'.cell? ⟨w5.heap.size, 4, none⟩ = some (.bool x) ∧ w'.cell? ⟨w5.heap.size, 5, none⟩ = some (.bool s) ∧ w'.cell? ⟨w5.heap.size, 6, none⟩ = some (.int .i64 a) ∧ w'.cell? ⟨w6.heap.size, 0, none⟩ = some (.int .i64 k) ∧ w'.cell? ⟨w6.heap.size, 1, none⟩ = some (.int .u64 (o : Int)) ∧ w'.cell? ⟨w6.heap.size, 2, none⟩ = some (.bool u) ∧ w'.cell? ⟨w6.heap.size, 3, none⟩ = some (.bool r) ∧ w'.cell? ⟨w6.heap.size, 4, none⟩ = some (.bool x) ∧ w'.cell? ⟨w6.heap.size, 5, none⟩ = some (.bool s) ∧ w'.cell? ⟨w6.heap.size, 6, none⟩ = some (.int .i64 a) ∧ Flds w' ∧ Below w.heap.size w w')
    ((go_split_ands; refine ⟨?_, ?_, ?_, ?_, ?_, ?_, ?_, ?_, ?_, ?_, ?_, ?_, ?_, ?_, ?_, ?_, ?_, ?_, ?_, ?_, ?_, ?_, ?_⟩ <;> first | (with_reducible assumption) | (with_reducible exact cell_later hbm (by assumption)) | (with_reducible exact Flds.later (by assumption) hbm) | (with_reducible exact below_tr (by assumption) hbm) | (with_reducible exact cell_drew (by assumption)) | (with_reducible exact hFz.drew) | (with_reducible exact hBz.drew)))
    (first
      | (go_at_call 11; refine (cS _).mono ?_; rintro e w' ⟨rfl, hbm⟩)
      | (go_at_call 9; refine (cP _ (by go_split_ands; assumption)).mono ?_; rintro e w' ⟨rfl, hbm⟩))
  all_goals go_wp2
  all_goals go_ret
  all_goals exact ⟨rfl, by go_split_ands; assumption⟩

theorem walk (l : Int) (k : Int) (o : Nat) (u r x s : Bool) (a : Int) (w : World) (ho : o < 18446744073709551616) (hF : Flds w) :
    Calls Tryd.prog 3 #[.int .i64 l, dv k o u r x s a] w fun e w' => e = .returned (.bool true) ∧ Below w.heap.size w w' := by
  cases hl : isLv l
  · exact walk_lv l k o u r x s a ho hl w hF
  cases hr : rightP l k o u r x s a
  · exact walk_wrong l k o u r x s a ho hl hr w hF
  · exact walk_right l k o u r x s a ho hl hr w hF

theorem met {W : World} (h : laidMet Tryd.prog Rows.descEncodesRow.laid W) : Flds W := by
  have h1 := pair_of_reads (g := 1) (by kernel_rfl) (by kernel_rfl) (Lib.laidMet.reads h (n := "portreeve/desc.outField") (d := Rows.laid_portreeve_desc_outField) (by simp [Rows.descEncodesRow]))
  have h2 := pair_of_reads (g := 2) (by kernel_rfl) (by kernel_rfl) (Lib.laidMet.reads h (n := "portreeve/desc.attrField") (d := Rows.laid_portreeve_desc_attrField) (by simp [Rows.descEncodesRow]))
  exact ⟨h1.1, h1.2, h2.1, h2.2⟩

theorem own : ownKnob Tryd.prog.godebug = none := by kernel_rfl
theorem laidOut : laidOutB Tryd.prog = true := by kernel_rfl

set_option linter.unusedVariables false in
set_option maxRecDepth 100000 in
theorem contract (H : Type) (enc : TypeId × Value → H) (W : World) (base : Nat) (args : Array Value) (ds gs : List (DataW H)) (before : List MemPlace)
    (hval0 : ∀ (j : Nat) t v, Tryd.f3.params[j]? = some t → args[j]? = some v → Value.okWide Tryd.prog W .any base t v)
    (hW : DataW.Whole enc Tryd.prog Tryd.f3.params.toList Rows.descEncodesSpec.vars false W args.toList ds gs before) (hL0 : laidMetH Tryd.prog Rows.descEncodesRow.laid W) :
    Calls Tryd.prog 3 args W fun e W' => ∃ v, e = .returned v ∧ Rows.descEncodesSpec.post enc Tryd.prog Tryd.f3 false true false false W args v W' := by
  have hL := hL0
  rw [MakeChecks.laidMetH_plain _ _ _ (by kernel_rfl)] at hL
  have hval := hval0
  have hW' := hW
  obtain ⟨p, q, hA0, hV, rfl, hfz, hnd⟩ := hW
  have hA : DataW.TrodAll enc Tryd.prog W 0 (fun _ => true) true Tryd.f3.params.toList args.toList ds p := hA0
  rw [Tryd.params3] at hA hval
  obtain ⟨v0, vs0, d0, ds0, p0, q0, hargs, rfl, rfl, h0, r0⟩ := trodAll_cons hA
  obtain ⟨v1, vs1, d1, ds1, p1, q1, rfl, rfl, rfl, h1, r1⟩ := trodAll_cons r0
  obtain ⟨rfl, rfl, rfl⟩ := trodAll_nil r1
  obtain rfl : args = #[v0, v1] := by cases args; simp_all
  obtain ⟨rfl, rfl⟩ := trodVars_none hV
  have k0 := h0
  have lt0 : ∀ x ∈ p0, x.block < W.heap.size := by obtain ⟨m, hm⟩ := k0; exact DataW.trod_lt m _ _ _ hm
  have k1 := h1
  have lt1 : ∀ x ∈ p1, x.block < W.heap.size := by obtain ⟨m, hm⟩ := k1; exact DataW.trod_lt m _ _ _ hm
  obtain ⟨a0, rfl, _, _, w0⟩ := open_int Tryd.underlying3 (hval 0 3 v0 rfl rfl) h0
  obtain ⟨dk1, dO1, du1, dr1, dx1, ds1', da1, rfl, b1⟩ := open_desc (hval 1 24 v1 rfl rfl) h1
  clear hA0 hval0
  refine (walk a0 dk1 dO1 du1 dr1 dx1 ds1' da1 W b1 (met hL)).mono fun e W' ⟨he, bel⟩ => ?_
  subst he
  exact ⟨_, rfl, _, _, _, [], _, [], hW', trodAll_mk1 (shut_bool Tryd.underlying4 _), (trodAll_cons_mk (Below.trod laidOut (by kernel_rfl) (of_decide_eq_true (by kernel_rfl)) k0 bel lt0) (trodAll_cons_mk (Below.trod laidOut (by kernel_rfl) (of_decide_eq_true (by kernel_rfl)) k1 bel lt1) trodAll_mk0)), rfl, bel.frame _, fun h => by cases h⟩

theorem laid_met (os : Os) : laidMet Tryd.prog Rows.descEncodesRow.laid ((World.laidAll Tryd.prog os Rows.descEncodesRow.laid).forCall (fun _ _ => 0) ⟨#[], #[.int .i64 0, .agg #[.int .i64 0, .int .u64 0, .bool false, .bool false, .bool false, .bool false, .int .i64 0]], []⟩).memory :=
  laidMet_laidAll _ (by kernel_rfl) (by kernel_rfl)
theorem reads (os : Os) {H : Type} (enc : TypeId × Value → H) : ∃ places, DataW.whole enc Tryd.prog ((World.laidAll Tryd.prog os Rows.descEncodesRow.laid).forCall (fun _ _ => 0) ⟨#[], #[.int .i64 0, .agg #[.int .i64 0, .int .u64 0, .bool false, .bool false, .bool false, .bool false, .int .i64 0]], []⟩).memory Tryd.f3.params.toList Rows.descEncodesSpec.vars false (#[.int .i64 0, .agg #[.int .i64 0, .int .u64 0, .bool false, .bool false, .bool false, .bool false, .int .i64 0]] : Array Value).toList 8 = some ([.lit (.int .i64 0), .agg [.lit (.int .i64 0), .lit (.int .u64 0), .lit (.bool false), .lit (.bool false), .lit (.bool false), .lit (.bool false), .lit (.int .i64 0)]], [], places) :=
  ⟨[], by kernel_rfl⟩

set_option maxRecDepth 100000 in
theorem lifted (os : Os) (started : os.Started) (H : Type) (enc : TypeId × Value → H) (F : Stop.Interp) :
    ReturnsInHanded {} Tryd.checked os 3 .any ((OpenSpec.ofChange Rows.descEncodesSpec).preRow enc Tryd.prog Tryd.f3 Rows.descEncodesRow.domain false Rows.descEncodesRow.laid) (((OpenSpec.ofChange Rows.descEncodesSpec).at F).post enc Tryd.prog Tryd.f3 false true false false) := by
  obtain ⟨places, hx⟩ := reads os enc
  refine returnsInHanded_of_row (C := Tryd.checked) (s := (OpenSpec.ofChange Rows.descEncodesSpec)) own started (by kernel_rfl) Tryd.func3
    (witness_row_at (enc := enc) (C := Tryd.checked) false (World.laidAll Tryd.prog os Rows.descEncodesRow.laid) #[.int .i64 0, .agg #[.int .i64 0, .int .u64 0, .bool false, .bool false, .bool false, .bool false, .int .i64 0]] (World.laidAll_os _ _ _) (by kernel_rfl) (by kernel_rfl) (by kernel_rfl)
      (OpenSpec.preRow_of_cond 8 hx (by kernel_rfl) (fun k hk => by cases hk) (by kernel_rfl) (laid_met os))) ?_
  intro W base args ds gs before hval hW _ _ _ hL _ _
  exact contract H enc W base args ds gs before hval hW hL

theorem said : Rows.DescEncodesSaid :=
  OpenClaim.holds_of_cond 3 Tryd.f3 rfl rfl rfl rfl rfl rfl rfl ⟨rfl, rfl, rfl, rfl, rfl⟩ rfl rfl rfl rfl rfl (by kernel_rfl) Tryd.func3 (by kernel_rfl)
    (of_decide_eq_true (by kernel_rfl)) (by unfold Func.isWrapper; first | (rw [if_pos (by decide +kernel)]; kernel_rfl) | (rw [if_neg (by decide +kernel)]; exact ⟨rfl, rfl⟩))
    (fun os started H enc _ F => by rw [OpenClaim.pre_eq_preRow]; exact lifted os started H enc F)

theorem plain (f : FuncId) (fn : Func) (hf : Tryd.pinned.checked.prog.funcNamed "portreeve/portreevelaw04.DescEncodes" = some f) (hfn : Tryd.pinned.checked.prog.funcs[f]? = some fn) :
    false = Tryd.pinned.checked.prog.looks [] ∧ ∀ (j : Nat) t, fn.params[j]? = some t → Tryd.pinned.checked.prog.wantsStandIn t = false := by
  obtain rfl : f = 3 := Option.some.inj ((show Tryd.prog.funcNamed "portreeve/portreevelaw04.DescEncodes" = some 3 by kernel_rfl).symm.trans hf) |>.symm
  obtain rfl : fn = Tryd.f3 := (Option.some.inj (Tryd.func3.symm.trans hfn)).symm
  refine ⟨by kernel_rfl, fun j t ht => ?_⟩
  rw [Tryd.params3] at ht
  have hm : t ∈ [3, 24] := by simpa using Array.mem_of_getElem? ht
  have hall : ([3, 24].all fun u => !Tryd.prog.wantsStandIn u) = true := by kernel_rfl
  exact (show Tryd.prog.wantsStandIn t = false by simpa using List.all_eq_true.1 hall t hm)

theorem card : Rows.DescEncodesCardSaid :=
  Claim7.holds_tied_plain_at .later [] _ _ _ _ said (fun _ h => by cases h) (by kernel_rfl) (fun _ h => by cases h) descEncodes_row_tie rfl ⟨rfl, rfl⟩ (by kernel_rfl) rfl plain (by kernel_rfl)

end Go.Proofs.YtoolmhkonhcfpaaDoor.descEncodes
