/- CapNames (P11.4): for every number and every text the law returns true: any kind has a name of its own, by which it is found; others have none. No condition beyond the row's own. -/
import Derived.Test.YtkedoajkdobjdaaDoorCapP
import Derived.Test.YtkedoajkdobjdaaDoorCapFrame
import Derived.ChangeMaps5
set_option linter.unusedVariables false
namespace Go.Proofs.YtkedoajkdobjdaaDoor.capNames
open Go.ChangeShapes Go.WideShapes Go.ChangeAt Go.RowKit Go.Lib Go.ChangeMaps

theorem nm_inj : ∀ i, i ≤ 10 → ∀ j, j ≤ 10 → nmV i = nmV j → i = j := by
  intro i hi j hj h
  have h2 : ∀ i : Fin 11, ∀ j : Fin 11, (nmL.getD i.val ⟨#[]⟩).data = (nmL.getD j.val ⟨#[]⟩).data → i.val = j.val := by decide
  exact h2 ⟨i, by omega⟩ ⟨j, by omega⟩ (congrArg ByteArray.data h)
theorem nm_ne : ∀ i, i ≤ 10 → ¬ (nmV i).toList = [] := by
  intro i hi h
  rw [ByteArray.toList_eq] at h
  have h2 : ∀ i : Fin 11, ¬ (nmL.getD i.val ⟨#[]⟩).data.toList = [] := by decide
  exact h2 ⟨i, by omega⟩ h
theorem kind_in (i : Nat) (hi : i ≤ 10) (w : World) (hN : Nms w) :
    Calls Tryd.prog 26 #[.string (nmV i)] w fun e w' => e = .returned (.tuple #[.int .i64 (i : Int), .bool true]) ∧ w = w' := by
  refine (kind_c (nmV i) w hN).mono ?_
  rintro e w' ⟨⟨j, hj, hs, rfl⟩ | ⟨hn, -⟩, rfl⟩
  · rw [nm_inj i hi j hj hs]; exact ⟨rfl, rfl⟩
  · exact absurd rfl (hn i hi)
theorem ne_lists {s t : ByteArray} (h : ¬ s = t) : (s.toList == t.toList) = false := by
  rw [beq_eq_false_iff_ne]
  intro q
  rw [ByteArray.toList_eq, ByteArray.toList_eq] at q
  apply h
  obtain ⟨⟨x⟩⟩ := s
  obtain ⟨⟨y⟩⟩ := t
  simp at q
  subst q; rfl

set_option maxRecDepth 100000 in
set_option maxHeartbeats 8000000 in
theorem walk (kind : Int) (s : ByteArray) (w : World) (_ : s.size ≤ maxLen) (hM : Prts w ∧ Nms w) :
    Calls Tryd.prog 7 #[.int .i64 kind, .string s] w fun e w' => e = .returned (.bool true) ∧ Below w.heap.size w w' := by
  obtain ⟨hP, hN⟩ := hM
  have cA := anchorC_any w hP
  have cK := fun w1 h1 => kind_c s w1 h1
  have cN := fun j hj w1 h1 => name_in j hj w1 h1
  by_cases hk : 0 ≤ kind ∧ kind ≤ 10
  · obtain ⟨K, rfl⟩ : ∃ K : Nat, kind = (K : Int) := ⟨kind.toNat, by omega⟩
    have hK : K ≤ 10 := by omega
    have d0 : decide ((K : Int) < 0) = false := decide_eq_false (by omega)
    have d1 : decide (10 < (K : Int)) = false := decide_eq_false (by omega)
    have cI := fun w1 h1 => kind_in K hK w1 h1
    have cM := fun w1 h1 => name_in K hK w1 h1
    have e1 := nm_ne K hK
    have e2 : ((nmV K).toList == []) = false := by rw [beq_eq_false_iff_ne]; exact e1
    have e3 : (nmV K).toList.isEmpty = false := by cases h : (nmV K).toList with | nil => exact absurd h e1 | cons a l => rfl
    have HNE := Hid.mk (fun (h : ¬ s = nmV K) => ne_lists h)
    clear hk
    go_enter Tryd.func7, Tryd.ntmps7
    go_wp2_with fail
    refine cA.mono ?_
    rintro e w1 ⟨rfl, hB⟩
    have hN1 := hN.later hB
    go_wp2_with fail
    refine (cM _ hN1).mono ?_
    rintro e w2 ⟨rfl, rfl⟩
    go_wp2_with fail
    refine (cI _ hN1).mono ?_
    rintro e w2 ⟨rfl, rfl⟩
    go_wp2_with fail
    refine (cK _ hN1).mono ?_
    rintro e w2 ⟨⟨j, hj, rfl, rfl⟩ | ⟨hn, rfl⟩, rfl⟩
    · clear e1 e2 e3 HNE
      go_wp2_with fail
      refine (cN j hj _ hN1).mono ?_
      rintro e w2 ⟨rfl, rfl⟩
      go_wp2
      go_ret
      exact ⟨rfl, hB⟩
    · have f1 := HNE.out (hn K hK)
      clear HNE hn
      go_wp2_with fail
      refine (cM _ hN1).mono ?_
      rintro e w2 ⟨rfl, rfl⟩
      go_wp2
      go_ret
      exact ⟨rfl, hB⟩
  · have ho : kind < 0 ∨ 10 < kind := by omega
    have cM := fun w1 => name_out kind ho w1
    rcases ho with ho | ho
    · have d0 : decide (kind < 0) = true := decide_eq_true ho
      clear hk
      go_enter Tryd.func7, Tryd.ntmps7
      go_wp2_with fail
      refine cA.mono ?_
      rintro e w1 ⟨rfl, hB⟩
      have hN1 := hN.later hB
      go_wp2_with fail
      refine (cM _).mono ?_
      rintro e w2 ⟨rfl, rfl⟩
      go_wp2_with fail
      refine (cK _ hN1).mono ?_
      rintro e w2 ⟨⟨j, hj, rfl, rfl⟩ | ⟨hn, rfl⟩, rfl⟩
      · go_wp2_with fail
        refine (cN j hj _ hN1).mono ?_
        rintro e w2 ⟨rfl, rfl⟩
        go_wp2
        go_ret
        exact ⟨rfl, hB⟩
      · clear hn
        by_cases hs : s = ⟨#[]⟩
        · subst hs
          go_wp2_with fail
          refine (cM _).mono ?_
          rintro e w2 ⟨rfl, rfl⟩
          go_wp2
          go_ret
          exact ⟨rfl, hB⟩
        · have f1 : ¬ s.toList = [] := fun h => hs (of_list h.symm)
          have f2 : (s.toList == []) = false := by rw [beq_eq_false_iff_ne]; exact f1
          have f3 : s.toList.isEmpty = false := by cases h : s.toList with | nil => exact absurd h f1 | cons a l => rfl
          have HS := Hid.mk hs
          clear hs
          go_wp2_with fail
          refine (cM _).mono ?_
          rintro e w2 ⟨rfl, rfl⟩
          go_wp2
          go_ret
          exact ⟨rfl, hB⟩
    · have d0 : decide (kind < 0) = false := decide_eq_false (by omega)
      have d1 : decide (10 < kind) = true := decide_eq_true ho
      clear hk
      go_enter Tryd.func7, Tryd.ntmps7
      go_wp2_with fail
      refine cA.mono ?_
      rintro e w1 ⟨rfl, hB⟩
      have hN1 := hN.later hB
      go_wp2_with fail
      refine (cM _).mono ?_
      rintro e w2 ⟨rfl, rfl⟩
      go_wp2_with fail
      refine (cK _ hN1).mono ?_
      rintro e w2 ⟨⟨j, hj, rfl, rfl⟩ | ⟨hn, rfl⟩, rfl⟩
      · go_wp2_with fail
        refine (cN j hj _ hN1).mono ?_
        rintro e w2 ⟨rfl, rfl⟩
        go_wp2
        go_ret
        exact ⟨rfl, hB⟩
      · clear hn
        by_cases hs : s = ⟨#[]⟩
        · subst hs
          go_wp2_with fail
          refine (cM _).mono ?_
          rintro e w2 ⟨rfl, rfl⟩
          go_wp2
          go_ret
          exact ⟨rfl, hB⟩
        · have f1 : ¬ s.toList = [] := fun h => hs (of_list h.symm)
          have f2 : (s.toList == []) = false := by rw [beq_eq_false_iff_ne]; exact f1
          have f3 : s.toList.isEmpty = false := by cases h : s.toList with | nil => exact absurd h f1 | cons a l => rfl
          have HS := Hid.mk hs
          clear hs
          go_wp2_with fail
          refine (cM _).mono ?_
          rintro e w2 ⟨rfl, rfl⟩
          go_wp2
          go_ret
          exact ⟨rfl, hB⟩

theorem metP {W : World} (h : laidMet Tryd.prog Rows.capNamesRow.laid W) : Prts W := by
  have h0 := part_of_reads (g := 0) (by kernel_rfl) (by kernel_rfl) (Lib.laidMet.reads h (n := "portreeve/cap.kindPart") (d := Rows.laid_portreeve_cap_kindPart) (by simp [Rows.capNamesRow]))
  have h1 := part_of_reads (g := 1) (by kernel_rfl) (by kernel_rfl) (Lib.laidMet.reads h (n := "portreeve/cap.bitsPart") (d := Rows.laid_portreeve_cap_bitsPart) (by simp [Rows.capNamesRow]))
  have h2 := part_of_reads (g := 2) (by kernel_rfl) (by kernel_rfl) (Lib.laidMet.reads h (n := "portreeve/cap.rightsPart") (d := Rows.laid_portreeve_cap_rightsPart) (by simp [Rows.capNamesRow]))
  have h3 := part_of_reads (g := 3) (by kernel_rfl) (by kernel_rfl) (Lib.laidMet.reads h (n := "portreeve/cap.guardPart") (d := Rows.laid_portreeve_cap_guardPart) (by simp [Rows.capNamesRow]))
  have h4 := part_of_reads (g := 4) (by kernel_rfl) (by kernel_rfl) (Lib.laidMet.reads h (n := "portreeve/cap.asidPart") (d := Rows.laid_portreeve_cap_asidPart) (by simp [Rows.capNamesRow]))
  have h5 := part_of_reads (g := 5) (by kernel_rfl) (by kernel_rfl) (Lib.laidMet.reads h (n := "portreeve/cap.atPart") (d := Rows.laid_portreeve_cap_atPart) (by simp [Rows.capNamesRow]))
  exact ⟨h0.1, h0.2.1, h0.2.2, h1.1, h1.2.1, h1.2.2, h2.1, h2.2.1, h2.2.2, h3.1, h3.2.1, h3.2.2, h4.1, h4.2.1, h4.2.2, h5.1, h5.2.1, h5.2.2⟩

/-- The names' cells out of what the variable reads as. -/
theorem name_of_reads {W : World} (h : VarReads Tryd.prog W "portreeve/cap.names" Rows.laid_portreeve_cap_names) (i : Nat) (hi : i < 11) (l : List UInt8)
    (hq : (nmL.map (fun b => b.data.toList))[i]? = some l) : W.cell? ⟨6, i, none⟩ = some (.string ⟨l.toArray⟩) := by
  obtain ⟨g', t, cs, fuel, p, hg', hty, hvar, hd⟩ := h
  have hg : Tryd.prog.globalNamed "portreeve/cap.names" = some 6 := by kernel_rfl
  have ht : (Tryd.prog.globals[6]?).map (·.type) = some 75 := by kernel_rfl
  obtain rfl := Option.some.inj (hg.symm.trans hg')
  obtain rfl := Option.some.inj (ht.symm.trans hty)
  have hc1 : Tryd.prog.cellsOf 9 = 1 := by kernel_rfl
  obtain ⟨xs, m, _, hx, hl, hn, hf⟩ := DataW.trod_array Tryd.underlying75 hd
  have h1 := hf i hi
  obtain ⟨y, hy⟩ : ∃ y, xs[i]? = some y := ⟨xs[i]'(by omega), by simp⟩
  rw [hy, hc1] at h1
  obtain ⟨s, e1, e2, -⟩ := DataW.trod_string Tryd.underlying9 h1
  have hx1 : (Rows.laid_portreeve_cap_names : DataW Unit) = .agg (xs.map (·.1)) := congrArg Prod.fst hx
  have hx2 : xs.map (·.1) = nmL.map (fun b => DataW.lit (.string b.data.toList)) := by
    have : (Rows.laid_portreeve_cap_names : DataW Unit) = .agg (nmL.map (fun b => DataW.lit (.string b.data.toList))) := rfl
    rw [this] at hx1
    exact (DataW.agg.inj hx1).symm
  have hx3 := congrArg (fun q => q[i]?) hx2
  simp only [List.getElem?_map, hy, Option.map_some] at hx3 hq
  rw [World.var?_cell hg hvar i]
  cases hb : nmL[i]? with
  | none => rw [hb] at hq; cases hq
  | some b =>
    rw [hb] at hq hx3
    simp only [Option.map_some, Option.some.injEq] at hq hx3
    subst e2
    simp only [DataW.lit.injEq, Lit.string.injEq] at hx3
    have e3 : cs.toList[i]? = some (.string s) := by
      have := congrArg (fun q => q[0]?) e1
      simp only [List.getElem?_take, List.getElem?_drop] at this
      simpa using this
    rw [← Array.getElem?_toList, e3, ← hq, ← hx3]
theorem names_of_reads {W : World} (h : VarReads Tryd.prog W "portreeve/cap.names" Rows.laid_portreeve_cap_names) : Nms W :=
  ⟨name_of_reads h 0 (by decide) _ rfl, name_of_reads h 1 (by decide) _ rfl, name_of_reads h 2 (by decide) _ rfl, name_of_reads h 3 (by decide) _ rfl, name_of_reads h 4 (by decide) _ rfl, name_of_reads h 5 (by decide) _ rfl, name_of_reads h 6 (by decide) _ rfl, name_of_reads h 7 (by decide) _ rfl, name_of_reads h 8 (by decide) _ rfl, name_of_reads h 9 (by decide) _ rfl, name_of_reads h 10 (by decide) _ rfl⟩
theorem met {W : World} (h : laidMet Tryd.prog Rows.capNamesRow.laid W) : Prts W ∧ Nms W :=
  ⟨metP h, names_of_reads (Lib.laidMet.reads h (n := "portreeve/cap.names") (d := Rows.laid_portreeve_cap_names) (by simp [Rows.capNamesRow]))⟩

theorem own : ownKnob Tryd.prog.godebug = none := by kernel_rfl
theorem laidOut : laidOutB Tryd.prog = true := by kernel_rfl

set_option linter.unusedVariables false in
set_option maxRecDepth 100000 in
theorem contract (H : Type) (enc : TypeId × Value → H) (W : World) (base : Nat) (args : Array Value) (ds gs : List (DataW H)) (before : List MemPlace)
    (hval0 : ∀ (j : Nat) t v, Tryd.f7.params[j]? = some t → args[j]? = some v → Value.okWide Tryd.prog W .any base t v)
    (hW : DataW.Whole enc Tryd.prog Tryd.f7.params.toList Rows.capNamesSpec.vars false W args.toList ds gs before) (hL0 : laidMetH Tryd.prog Rows.capNamesRow.laid W) :
    Calls Tryd.prog 7 args W fun e W' => ∃ v, e = .returned v ∧ Rows.capNamesSpec.post enc Tryd.prog Tryd.f7 false true false false W args v W' := by
  have hL := hL0
  rw [MakeChecks.laidMetH_plain _ _ _ (by kernel_rfl)] at hL
  have hval := hval0
  have hW' := hW
  obtain ⟨p, q, hA0, hV, rfl, hfz, hnd⟩ := hW
  have hA : DataW.TrodAll enc Tryd.prog W 0 (fun _ => true) true Tryd.f7.params.toList args.toList ds p := hA0
  rw [Tryd.params7] at hA hval
  obtain ⟨v0, vs0, d0, ds0, p0, q0, hargs, rfl, rfl, h0, r0⟩ := trodAll_cons hA
  obtain ⟨v1, vs1, d1, ds1, p1, q1, rfl, rfl, rfl, h1, r1⟩ := trodAll_cons r0
  obtain ⟨rfl, rfl, rfl⟩ := trodAll_nil r1
  obtain rfl : args = #[v0, v1] := by cases args; simp_all
  obtain ⟨rfl, rfl⟩ := trodVars_none hV
  have k0 := h0
  have lt0 : ∀ x ∈ p0, x.block < W.heap.size := by obtain ⟨m, hm⟩ := k0; exact DataW.trod_lt m _ _ _ hm
  have k1 := h1
  have lt1 : ∀ x ∈ p1, x.block < W.heap.size := by obtain ⟨m, hm⟩ := k1; exact DataW.trod_lt m _ _ _ hm
  obtain ⟨a0, rfl, _, _, w0⟩ := open_int Tryd.underlying3 (hval 0 3 v0 rfl rfl) h0
  obtain ⟨s1, rfl, e1, _, w1⟩ := open_string Tryd.underlying9 (hval 1 9 v1 rfl rfl) h1
  subst e1
  clear hA0 hval0
  refine (walk a0 s1 W w1 (met hL)).mono fun e W' ⟨he, bel⟩ => ?_
  subst he
  exact ⟨_, rfl, _, _, _, [], _, [], hW', trodAll_mk1 (shut_bool Tryd.underlying4 _), (trodAll_cons_mk (Below.trod laidOut (by kernel_rfl) (of_decide_eq_true (by kernel_rfl)) k0 bel lt0) (trodAll_cons_mk (Below.trod laidOut (by kernel_rfl) (of_decide_eq_true (by kernel_rfl)) k1 bel lt1) trodAll_mk0)), rfl, bel.frame _, fun h => by cases h⟩

theorem laid_met (os : Os) : laidMet Tryd.prog Rows.capNamesRow.laid ((World.laidAll Tryd.prog os Rows.capNamesRow.laid).forCall (fun _ _ => 0) ⟨#[], #[.int .i64 0, .string ⟨#[]⟩], []⟩).memory :=
  laidMet_laidAll _ (by kernel_rfl) (by kernel_rfl)
theorem reads (os : Os) {H : Type} (enc : TypeId × Value → H) : ∃ places, DataW.whole enc Tryd.prog ((World.laidAll Tryd.prog os Rows.capNamesRow.laid).forCall (fun _ _ => 0) ⟨#[], #[.int .i64 0, .string ⟨#[]⟩], []⟩).memory Tryd.f7.params.toList Rows.capNamesSpec.vars false (#[.int .i64 0, .string ⟨#[]⟩] : Array Value).toList 8 = some ([.lit (.int .i64 0), .lit (.string [])], [], places) :=
  ⟨[], by kernel_rfl⟩

set_option maxRecDepth 100000 in
theorem lifted (os : Os) (started : os.Started) (H : Type) (enc : TypeId × Value → H) (F : Stop.Interp) :
    ReturnsInHanded {} Tryd.checked os 7 .any ((OpenSpec.ofChange Rows.capNamesSpec).preRow enc Tryd.prog Tryd.f7 Rows.capNamesRow.domain false Rows.capNamesRow.laid) (((OpenSpec.ofChange Rows.capNamesSpec).at F).post enc Tryd.prog Tryd.f7 false true false false) := by
  obtain ⟨places, hx⟩ := reads os enc
  refine returnsInHanded_of_row (C := Tryd.checked) (s := (OpenSpec.ofChange Rows.capNamesSpec)) own started (by kernel_rfl) Tryd.func7
    (witness_row_at (enc := enc) (C := Tryd.checked) false (World.laidAll Tryd.prog os Rows.capNamesRow.laid) #[.int .i64 0, .string ⟨#[]⟩] (World.laidAll_os _ _ _) (by kernel_rfl) (by kernel_rfl) (by kernel_rfl)
      (OpenSpec.preRow_of_cond 8 hx (by kernel_rfl) (fun k hk => by cases hk) (by kernel_rfl) (laid_met os))) ?_
  intro W base args ds gs before hval hW _ _ _ hL _ _
  exact contract H enc W base args ds gs before hval hW hL

theorem said : Rows.CapNamesSaid :=
  OpenClaim.holds_of_cond 7 Tryd.f7 rfl rfl rfl rfl rfl rfl rfl ⟨rfl, rfl, rfl, rfl, rfl⟩ rfl rfl rfl rfl rfl (by kernel_rfl) Tryd.func7 (by kernel_rfl)
    (of_decide_eq_true (by kernel_rfl)) (by unfold Func.isWrapper; first | (rw [if_pos (by decide +kernel)]; kernel_rfl) | (rw [if_neg (by decide +kernel)]; exact ⟨rfl, rfl⟩))
    (fun os started H enc _ F => by rw [OpenClaim.pre_eq_preRow]; exact lifted os started H enc F)

theorem plain (f : FuncId) (fn : Func) (hf : Tryd.pinned.checked.prog.funcNamed "portreeve/portreevelaw11.CapNames" = some f) (hfn : Tryd.pinned.checked.prog.funcs[f]? = some fn) :
    true = Tryd.pinned.checked.prog.looks [] ∧ ∀ (j : Nat) t, fn.params[j]? = some t → Tryd.pinned.checked.prog.wantsStandIn t = false := by
  obtain rfl : f = 7 := Option.some.inj ((show Tryd.prog.funcNamed "portreeve/portreevelaw11.CapNames" = some 7 by kernel_rfl).symm.trans hf) |>.symm
  obtain rfl : fn = Tryd.f7 := (Option.some.inj (Tryd.func7.symm.trans hfn)).symm
  refine ⟨by kernel_rfl, fun j t ht => ?_⟩
  rw [Tryd.params7] at ht
  have hm : t ∈ [3, 9] := by simpa using Array.mem_of_getElem? ht
  have hall : ([3, 9].all fun u => !Tryd.prog.wantsStandIn u) = true := by kernel_rfl
  exact (show Tryd.prog.wantsStandIn t = false by simpa using List.all_eq_true.1 hall t hm)

theorem card : Rows.CapNamesCardSaid :=
  Claim7.holds_tied_plain_at .later [] _ _ _ _ said (fun _ h => by cases h) (by kernel_rfl) (fun _ h => by cases h) capNames_row_tie rfl ⟨rfl, rfl⟩ (by kernel_rfl) rfl plain (by kernel_rfl)

end Go.Proofs.YtkedoajkdobjdaaDoor.capNames
