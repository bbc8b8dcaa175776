/- TlbPlays (P7.1 to P7.3): for every bound and every list of steps the law returns true: every play of fills, looks, evictions and flushes is the document's, entry by entry. No condition beyond the row's own. -/
import Derived.Test.YthebhgllnjgjhaaDoorTlbPlA
namespace Go.Proofs.YthebhgllnjgjhaaDoor.tlbPlays
open Go.ChangeShapes Go.WideShapes Go.ChangeAt Go.RowKit Go.Lib

set_option maxHeartbeats 8000000 in
set_option maxRecDepth 100000 in
theorem walk_long (most : Int) (ad : Option Addr) (cap n : Nat) (w : World) (hn2 : 80 < n) (hF : Flds w) :
    Calls Tryd.prog 3 #[.int .i64 most, .slice ad n cap] w fun r w' => r = .returned (.bool true) ∧ Below w.heap.size w w' := by
  have hnI : (80 : Int) < (n : Int) := by omega
  clear hn2
  go_enter Tryd.func3, Tryd.ntmps3
  go_wp2_with fail
  refine (tanchor_any _ hF).mono ?_
  rintro e w1 ⟨rfl, hb1⟩
  go_wp2
  go_ret
  exact ⟨rfl, hb1⟩

set_option maxHeartbeats 8000000 in
set_option maxRecDepth 100000 in
theorem walk_bad (most : Int) (ad : Option Addr) (cap n : Nat) (w : World) (hn2 : n ≤ 80) (hm : most < 1 ∨ 64 < most) (hF : Flds w) :
    Calls Tryd.prog 3 #[.int .i64 most, .slice ad n cap] w fun r w' => r = .returned (.bool true) ∧ Below w.heap.size w w' := by
  have hnI : (n : Int) ≤ (80 : Int) := by omega
  have hN := fun w1 => new_bad most hm w1
  clear hn2
  by_cases h1 : most < 1
  · have d1 : decide (most < 1) = true := decide_eq_true h1
    clear hm
    go_enter Tryd.func3, Tryd.ntmps3
    go_wp2_with fail
    refine (tanchor_any _ hF).mono ?_
    rintro e w1 ⟨rfl, hb1⟩
    go_wp2_with fail
    refine (hN _).mono ?_
    rintro e w2 ⟨rfl, rfl⟩
    go_wp2
    go_ret
    exact ⟨rfl, hb1⟩
  · have d1 : decide (most < 1) = false := decide_eq_false h1
    have h2 : 64 < most := by omega
    have d2 : decide (64 < most) = true := decide_eq_true h2
    clear hm
    go_enter Tryd.func3, Tryd.ntmps3
    go_wp2_with fail
    refine (tanchor_any _ hF).mono ?_
    rintro e w1 ⟨rfl, hb1⟩
    go_wp2_with fail
    refine (hN _).mono ?_
    rintro e w2 ⟨rfl, rfl⟩
    go_wp2
    go_ret
    exact ⟨rfl, hb1⟩

set_option maxHeartbeats 2000000 in
set_option maxRecDepth 100000 in
theorem walk_short (most : Int) (ad : Option Addr) (cap : Nat) (ops : List St) (w : World) (hn : ops.length ≤ 80) (hm1 : 1 ≤ most) (hm2 : most ≤ 64) (hr : OpsRd w ad ops) (hok : ∀ q ∈ ops, q.2.2.ok) (hF : Flds w) :
    Calls Tryd.prog 3 #[.int .i64 most, .slice ad ops.length cap] w fun r w' => r = .returned (.bool true) ∧ Below w.heap.size w w' := by
  have HF := Hid.mk hF
  have HR := Hid.mk hr
  have hnI : (ops.length : Int) ≤ 80 := by omega
  have HOK : Hid (∀ i, i < ops.length → (gO ops i).2.2.ok) := fun i hi => hok _ (by rw [gO_pos ops i hi]; exact List.getElem_mem hi)
  have HM := Hid.mk (And.intro hm1 hm2)
  have d1 : decide (most < 1) = false := decide_eq_false (by omega)
  have d2 : decide (64 < most) = false := decide_eq_false (by omega)
  clear hr hok hn
  go_enter Tryd.func3, Tryd.ntmps3
  go_wp2_with fail
  refine (tanchor_any _ hF).mono ?_
  rintro e w1 ⟨rfl, hb1⟩
  clear hF
  have HB1 := Hid.mk hb1
  clear hb1
  go_wp2_with fail
  refine (new_ok most hm1 hm2 _).mono ?_
  rintro e w2 ⟨rfl, hb2, hB2⟩
  have HP2 : Hid (PInv w w2 w1.heap.size most [] none 0) := ⟨⟨_, hB2, (fun j hj => by rw [hj]; exact HB1.out.size), (fun a ha => by cases ha)⟩, below_tr HB1.out hb2, ⟨RdA.nil _ _, Nat.zero_le _, Nat.zero_le _, Or.inl rfl, (fun a ha => by cases ha)⟩, (fun x hx => by cases hx), (by show (0 : Int) ≤ most; omega)⟩
  clear hb2 hB2 HB1 hm1 hm2
  generalize w1.heap.size = t at *
  go_wp2
  go_loopw [7, 9, 10, 41] (fun s7 _ _ s41 wr => ∃ (i : Nat) (l : List En) (adl : Option Addr) (capl : Nat), i ≤ ops.length ∧ s41 = .int .i64 (i : Nat) ∧ s7 = .slice adl l.length capl ∧ PInv w wr t most l adl capl) (fun _ _ _ s41 _ => ops.length - (RowKit.intOf s41).toNat)
  case atStart => exact ⟨0, [], none, 0, by omega, rfl, rfl, HP2.out⟩
  case round =>
    obtain ⟨i, l, adl, capl, hi, rfl, rfl, hP⟩ := hrel
    have HP := Hid.mk hP
    clear hP HP2
    by_cases hlt : i < ops.length
    · have hlt2 : (i : Int) < ops.length := by omega
      have HLT := Hid.mk hlt
      have hib : (i : Int) < 1000 := by omega
      obtain ⟨g, o, rfl, hg, hc⟩ := HR.out i hlt
      have hb := HP.out.bel
      have hoki := HOK.out i hlt
      generalize (gO ops i) = y at hc hoki
      obtain ⟨kd, nn, b0, b1, b2, b3, b4, b5, b6, b7, b8, b9⟩ := y
      have d0' := cell_later hb (hc 0 _ rfl)
      have d1' := cell_later hb (hc 1 _ rfl)
      have d2' := cell_later hb (hc 2 _ rfl)
      have d3' := cell_later hb (hc 3 _ rfl)
      have d4' := cell_later hb (hc 4 _ rfl)
      have d5' := cell_later hb (hc 5 _ rfl)
      have d6' := cell_later hb (hc 6 _ rfl)
      have d7' := cell_later hb (hc 7 _ rfl)
      have d8' := cell_later hb (hc 8 _ rfl)
      have d9' := cell_later hb (hc 9 _ rfl)
      have d10' := cell_later hb (hc 10 _ rfl)
      have d11' := cell_later hb (hc 11 _ rfl)
      rw [Nat.add_zero] at d0'
      have HST : Hid (∀ W, PInv w W t most l adl capl → ∀ (kd nn : Int) (e : En), e.ok → Calls Tryd.prog 9 #[.pointer (some ⟨t, 0, none⟩), .int .i64 most, .slice adl l.length capl, .agg #[.int .i64 kd, .int .i64 nn, .int .i64 e.aid, .int .u64 e.va, .int .i64 e.lv, .int .i64 e.k, .int .u64 e.o, .bool e.u, .bool e.r, .bool e.x, .bool e.s, .int .i64 e.a]] W fun r w' => ∃ l' ad' cap', r = .returned (.tuple #[.slice ad' l'.length cap', .bool true]) ∧ PInv w w' t most l' ad' cap') := fun W hW kd nn e he => step_any hW HM.out.1 HM.out.2 HF.out kd nn e he
      clear hc hb hi hlt hg
      have hcall := fun W hW => HST.out W hW kd nn ⟨b0, b1, b2, b3, b4, b5, b6, b7, b8, b9⟩ hoki
      simp only at hcall
      have HCA := Hid.mk hcall
      clear HST hcall hoki
      go_wp2_with fail
      refine (HCA.out _ (HP.out.later (below_new _ _))).mono ?_
      rintro e w' ⟨l', ad', cap', rfl, hP'⟩
      have HP' := Hid.mk hP'
      obtain ⟨X, hBf, -, -⟩ := hP'.ex
      have hln := hP'.ln
      have hlm : ¬ most < (l'.length : Int) := by omega
      have HSA := Hid.mk (same_c (cap := cap') hBf hP'.rl.rd (by have := HM.out.2; omega))
      clear HCA d0' d1' d2' d3' d4' d5' d6' d7' d8' d9' d10' d11' hP' hBf HP
      go_wp2_with fail
      refine HSA.out.mono ?_
      rintro e w3 ⟨rfl, hb3⟩
      clear HSA
      go_wp2
      go_roundw
      case rel => exact ⟨i + 1, l', ad', cap', by have := HLT.out; omega, by go_num, rfl, HP'.out.later hb3⟩
      case measure => have := HLT.out; simp [RowKit.intOf]; omega
    · have hlt2 : ¬ (i : Int) < ops.length := by omega
      clear hlt hi
      go_wp2
      go_ret
      exact ⟨rfl, HP.out.bel⟩

theorem walk (most : Int) (ad : Option Addr) (cap : Nat) (ops : List St) (w : World) (_ : ops.length ≤ maxLen) (hr : OpsRd w ad ops) (hok : ∀ q ∈ ops, q.2.2.ok) (hF : Flds w) :
    Calls Tryd.prog 3 #[.int .i64 most, .slice ad ops.length cap] w fun r w' => r = .returned (.bool true) ∧ Below w.heap.size w w' := by
  by_cases h : ops.length ≤ 80
  · by_cases h1 : most < 1 ∨ 64 < most
    · exact walk_bad most ad cap ops.length w h h1 hF
    · exact walk_short most ad cap ops w h (by omega) (by omega) hr hok hF
  · exact walk_long most ad cap ops.length w (by omega) hF

theorem met {W : World} (h : laidMet Tryd.prog Rows.tlbPlaysRow.laid W) : Flds W := by
  have h1 := pair_of_reads (g := 0) (by kernel_rfl) (by kernel_rfl) (Lib.laidMet.reads h (n := "portreeve/desc.outField") (d := Rows.laid_portreeve_desc_outField) (by simp [Rows.tlbPlaysRow]))
  exact ⟨h1.1, h1.2, trivial, trivial⟩

theorem own : ownKnob Tryd.prog.godebug = none := by kernel_rfl
theorem laidOut : laidOutB Tryd.prog = true := by kernel_rfl

set_option linter.unusedVariables false in
set_option maxRecDepth 100000 in
theorem contract (H : Type) (enc : TypeId × Value → H) (W : World) (base : Nat) (args : Array Value) (ds gs : List (DataW H)) (before : List MemPlace)
    (hval0 : ∀ (j : Nat) t v, Tryd.f3.params[j]? = some t → args[j]? = some v → Value.okWide Tryd.prog W .any base t v)
    (hW : DataW.Whole enc Tryd.prog Tryd.f3.params.toList Rows.tlbPlaysSpec.vars false W args.toList ds gs before) (hL0 : laidMetH Tryd.prog Rows.tlbPlaysRow.laid W) :
    Calls Tryd.prog 3 args W fun e W' => ∃ v, e = .returned v ∧ Rows.tlbPlaysSpec.post enc Tryd.prog Tryd.f3 false true false false W args v W' := by
  have hL := hL0
  rw [MakeChecks.laidMetH_plain _ _ _ (by kernel_rfl)] at hL
  have hval := hval0
  have hW' := hW
  obtain ⟨p, q, hA0, hV, rfl, hfz, hnd⟩ := hW
  have hA : DataW.TrodAll enc Tryd.prog W 0 (fun _ => true) true Tryd.f3.params.toList args.toList ds p := hA0
  rw [Tryd.params3] at hA hval
  obtain ⟨v0, vs0, d0, ds0, p0, q0, hargs, rfl, rfl, h0, r0⟩ := trodAll_cons hA
  obtain ⟨v1, vs1, d1, ds1, p1, q1, rfl, rfl, rfl, h1, r1⟩ := trodAll_cons r0
  obtain ⟨rfl, rfl, rfl⟩ := trodAll_nil r1
  obtain rfl : args = #[v0, v1] := by cases args; simp_all
  obtain ⟨rfl, rfl⟩ := trodVars_none hV
  have k0 := h0
  have lt0 : ∀ x ∈ p0, x.block < W.heap.size := by obtain ⟨m, hm⟩ := k0; exact DataW.trod_lt m _ _ _ hm
  have k1 := h1
  have lt1 : ∀ x ∈ p1, x.block < W.heap.size := by obtain ⟨m, hm⟩ := k1; exact DataW.trod_lt m _ _ _ hm
  obtain ⟨a0, rfl, _, _, w0⟩ := open_int Tryd.underlying3 (hval 0 3 v0 rfl rfl) h0
  obtain ⟨ad1, cap1, l1, rfl, mx1, rd1, ok1⟩ := open_ops (hval 1 22 v1 rfl rfl) h1
  clear hA0 hval0
  refine (walk a0 ad1 cap1 l1 W mx1 rd1 ok1 (met hL)).mono fun e W' ⟨he, bel⟩ => ?_
  subst he
  exact ⟨_, rfl, _, _, _, [], _, [], hW', trodAll_mk1 (shut_bool Tryd.underlying4 _), (trodAll_cons_mk (Below.trod laidOut (by kernel_rfl) (of_decide_eq_true (by kernel_rfl)) k0 bel lt0) (trodAll_cons_mk (Below.trod laidOut (by kernel_rfl) (of_decide_eq_true (by kernel_rfl)) k1 bel lt1) trodAll_mk0)), rfl, bel.frame _, fun h => by cases h⟩

theorem laid_met (os : Os) : laidMet Tryd.prog Rows.tlbPlaysRow.laid ((World.laidAll Tryd.prog os Rows.tlbPlaysRow.laid).forCall (fun _ _ => 0) ⟨#[], #[.int .i64 0, .slice none 0 0], []⟩).memory :=
  laidMet_laidAll _ (by kernel_rfl) (by kernel_rfl)
theorem reads (os : Os) {H : Type} (enc : TypeId × Value → H) : ∃ places, DataW.whole enc Tryd.prog ((World.laidAll Tryd.prog os Rows.tlbPlaysRow.laid).forCall (fun _ _ => 0) ⟨#[], #[.int .i64 0, .slice none 0 0], []⟩).memory Tryd.f3.params.toList Rows.tlbPlaysSpec.vars false (#[.int .i64 0, .slice none 0 0] : Array Value).toList 8 = some ([.lit (.int .i64 0), .nil], [], places) :=
  ⟨[], by kernel_rfl⟩

set_option maxRecDepth 100000 in
theorem lifted (os : Os) (started : os.Started) (H : Type) (enc : TypeId × Value → H) (F : Stop.Interp) :
    ReturnsInHanded {} Tryd.checked os 3 .any ((OpenSpec.ofChange Rows.tlbPlaysSpec).preRow enc Tryd.prog Tryd.f3 Rows.tlbPlaysRow.domain false Rows.tlbPlaysRow.laid) (((OpenSpec.ofChange Rows.tlbPlaysSpec).at F).post enc Tryd.prog Tryd.f3 false true false false) := by
  obtain ⟨places, hx⟩ := reads os enc
  refine returnsInHanded_of_row (C := Tryd.checked) (s := (OpenSpec.ofChange Rows.tlbPlaysSpec)) own started (by kernel_rfl) Tryd.func3
    (witness_row_at (enc := enc) (C := Tryd.checked) false (World.laidAll Tryd.prog os Rows.tlbPlaysRow.laid) #[.int .i64 0, .slice none 0 0] (World.laidAll_os _ _ _) (by kernel_rfl) (by kernel_rfl) (by kernel_rfl)
      (OpenSpec.preRow_of_cond 8 hx (by kernel_rfl) (fun k hk => by cases hk) (by kernel_rfl) (laid_met os))) ?_
  intro W base args ds gs before hval hW _ _ _ hL _ _
  exact contract H enc W base args ds gs before hval hW hL

theorem said : Rows.TlbPlaysSaid :=
  OpenClaim.holds_of_cond 3 Tryd.f3 rfl rfl rfl rfl rfl rfl rfl ⟨rfl, rfl, rfl, rfl, rfl⟩ rfl rfl rfl rfl rfl (by kernel_rfl) Tryd.func3 (by kernel_rfl)
    (of_decide_eq_true (by kernel_rfl)) (by unfold Func.isWrapper; first | (rw [if_pos (by decide +kernel)]; kernel_rfl) | (rw [if_neg (by decide +kernel)]; exact ⟨rfl, rfl⟩))
    (fun os started H enc _ F => by rw [OpenClaim.pre_eq_preRow]; exact lifted os started H enc F)

theorem plain (f : FuncId) (fn : Func) (hf : Tryd.pinned.checked.prog.funcNamed "portreeve/portreevelaw07.TlbPlays" = some f) (hfn : Tryd.pinned.checked.prog.funcs[f]? = some fn) :
    false = Tryd.pinned.checked.prog.looks [] ∧ ∀ (j : Nat) t, fn.params[j]? = some t → Tryd.pinned.checked.prog.wantsStandIn t = false := by
  obtain rfl : f = 3 := Option.some.inj ((show Tryd.prog.funcNamed "portreeve/portreevelaw07.TlbPlays" = some 3 by kernel_rfl).symm.trans hf) |>.symm
  obtain rfl : fn = Tryd.f3 := (Option.some.inj (Tryd.func3.symm.trans hfn)).symm
  refine ⟨by kernel_rfl, fun j t ht => ?_⟩
  rw [Tryd.params3] at ht
  have hm : t ∈ [3, 22] := by simpa using Array.mem_of_getElem? ht
  have hall : ([3, 22].all fun u => !Tryd.prog.wantsStandIn u) = true := by kernel_rfl
  exact (show Tryd.prog.wantsStandIn t = false by simpa using List.all_eq_true.1 hall t hm)

theorem card : Rows.TlbPlaysCardSaid :=
  Claim7.holds_tied_plain_at .later [] _ _ _ _ said (fun _ h => by cases h) (by kernel_rfl) (fun _ h => by cases h) tlbPlays_row_tie rfl ⟨rfl, rfl⟩ (by kernel_rfl) rfl plain (by kernel_rfl)

end Go.Proofs.YthebhgllnjgjhaaDoor.tlbPlays
