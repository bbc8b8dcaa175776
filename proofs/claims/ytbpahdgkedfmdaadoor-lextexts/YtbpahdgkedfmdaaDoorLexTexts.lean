/- LexTexts (P2.2): for every text, the texts of a line's tokens, with a blank between, are the same tokens again. No condition beyond the row's own. -/
import Derived.Test.YtbpahdgkedfmdaaDoorTextsMath
import Derived.Test.YtbpahdgkedfmdaaDoorLexAnchor
import Derived.Test.YtbpahdgkedfmdaaDoorLaidFrame
namespace Go.Proofs.YtbpahdgkedfmdaaDoor.lexTexts
open Go.ChangeShapes Go.WideShapes Go.ChangeAt Go.RowKit Go.Lib
open Go.ChangeMaps (open_string shut_string)

set_option maxRecDepth 100000 in
set_option maxHeartbeats 16000000 in
theorem walk (s : ByteArray) (w : World) (hs : s.size ≤ maxLen) (hT : Tabs w) :
    Calls Tryd.prog 4 #[.string s] w fun e w' => e = .returned (.bool true) ∧ Below w.heap.size w w' := by
  unfold maxLen at hs
  have cA := anchor_any w hT
  by_cases hlen : 1000 < s.size
  · go_enter Tryd.func4, Tryd.ntmps4
    go_wp2_with (go_at_call 7; refine cA.mono ?_; rintro e w1 ⟨rfl, hb⟩)
    go_ret
    exact ⟨rfl, hb⟩
  · by_cases hE : (lexS s.data.toList).2.1 = 0
    · obtain ⟨m1, m2, m3⟩ := lexS_texts s.data.toList (by rw [← size_eq]; omega) hE
      have cT := fun w1 (h : Tabs w1) => tokens_any s w1 hs h
      have M1 : Hid (lexS (textOf (lexS s.data.toList).1) = (placed (lexS s.data.toList).1 0, 0, 0)) := m1
      have M2 : Hid (∀ t ∈ (lexS s.data.toList).1, TokOk t) := m2
      clear m1 m2
      generalize lexS s.data.toList = ANS at *
      obtain ⟨toks, E, A⟩ := ANS
      simp only at hE M1 M2 m3
      subst hE
      go_enter Tryd.func4, Tryd.ntmps4
      go_wp2_with (go_at_call 7; refine cA.mono ?_; rintro e w1 ⟨rfl, hb1⟩)
      refine (cT w1 (hT.below hb1)).mono ?_
      rintro e w2 ⟨v, rfl, hown, hb2⟩
      have hB2 := below_tr hb1 hb2
      clear cT cA hb1 hb2
      obtain ⟨ao, cap, rfl, hcap, hcells⟩ := own_form hown
      have HC : Hid (∀ k (hk : k < toks.length), ∃ g, ao = some ⟨g, 0, none⟩ ∧ g < w2.heap.size ∧
        w2.cell? ⟨g, k * 4, none⟩ = some (.int .i64 toks[k].kind) ∧ w2.cell? ⟨g, k * 4 + 1, none⟩ = some (.string ⟨toks[k].text.toArray⟩) ∧ w2.cell? ⟨g, k * 4 + 2, none⟩ = some (.int .u64 toks[k].word) ∧ w2.cell? ⟨g, k * 4 + 3, none⟩ = some (.int .i64 toks[k].at_)) := hcells
      have hn : toks.length ≤ 2000 := by
        have h1 := textOf_len_ge toks
        omega
      clear hcells hown hcap
      go_wp2
      go_loopw [6, 30] (fun tx i wr => ∃ (k : Nat) (T : ByteArray), k ≤ toks.length ∧ i = .int .i64 k ∧ tx = .string T ∧ Hid (T.data.toList = textOf (toks.take k)) ∧ Below w2.heap.size w2 wr) (fun _ i _ => toks.length - (RowKit.intOf i).toNat)
      case atStart => exact ⟨0, ⟨#[]⟩, Nat.zero_le _, rfl, rfl, by show _ = _; simp [textOf], Below.refl _ _⟩
      case round =>
        obtain ⟨k, T, hk, rfl, rfl, HT, hbr⟩ := hrel
        have hTs : T.size ≤ 2000 := by
          have h1 := textOf_take_le toks k
          have h2 := size_eq T
          rw [HT.out] at h2
          omega
        by_cases hlt : k < toks.length
        · obtain ⟨g, rfl, hg, c0, c1, c2, c3⟩ := HC.out k hlt
          have d0 := cell_later hbr c0
          have d1 := cell_later hbr c1
          have d2 := cell_later hbr c2
          have d3 := cell_later hbr c3
          have HN := textOf_snoc toks k hlt
          have hts : toks[k].text.length ≤ 2000 := by
            have h1 := textOf_take_le toks (k + 1)
            rw [HN] at h1
            simp at h1
            omega
          have HN2 : Hid (textOf (toks.take (k + 1)) = textOf (toks.take k) ++ (toks[k].text ++ [32])) := HN
          clear HN c0 c1 c2 c3
          generalize toks[k].kind = kd at *
          generalize toks[k].word = wo at *
          generalize toks[k].at_ = aa at *
          generalize toks[k].text = tt at *
          obtain ⟨TT, hTT⟩ : ∃ TT : ByteArray, TT = ⟨tt.toArray⟩ := ⟨_, rfl⟩
          have hTs2 : TT.size ≤ 2000 := by rw [hTT]; show tt.toArray.size ≤ 2000; simpa using hts
          have HTT : Hid (TT.data.toList = tt) := by show _ = _; rw [hTT]
          rw [← hTT] at d1
          clear hTT hts
          have hk0 : (0 : Int) ≤ (k : Int) := by omega
          have hk1 : (k : Int) < (toks.length : Int) := by omega
          go_wp2
          go_roundw
          case rel =>
            refine ⟨k + 1, T ++ (TT ++ ⟨#[32]⟩), by omega, by go_num, rfl, ?_, hbr.alloc hbr.size _⟩
            show _ = _
            rw [HN2.out, ByteArray.data_append, ByteArray.data_append, Array.toList_append, Array.toList_append, HT.out, HTT.out]
          case measure => simp [RowKit.intOf]; omega
        · have ek : k = toks.length := by omega
          have HT2 := HT.out
          rw [ek, List.take_length] at HT2
          have cT := fun w1 (h : Tabs w1) => tokens_any T w1 (by omega) h
          rw [HT2, M1.out] at cT
          have hTr : Tabs wr := hT.below (below_tr hB2 hbr)
          have e58 : (decide ((k : Int) < (toks.length : Int))) = false := decide_eq_false (by omega)
          have hkn : ¬ (k : Int) < (toks.length : Int) := by omega
          clear HT HT2 M1 hlt
          go_wp2_with fail
          refine (cT wr hTr).mono ?_
          rintro e w3 ⟨v2, rfl, hown2, hb3⟩
          obtain ⟨ao2, cap2, rfl, hcap2, hcells2⟩ := own_form hown2
          have hB3 := below_tr (below_tr hB2 hbr) hb3
          have hb23 := below_tr hbr hb3
          have hT3 : Tabs w3 := hT.below hB3
          have hpl : (placed toks 0).length = toks.length := placed_len toks 0
          have HC2 : Hid (∀ k (hk : k < toks.length), ∃ g g2, ao = some ⟨g, 0, none⟩ ∧ ao2 = some ⟨g2, 0, none⟩ ∧
              w3.cell? ⟨g, k * 4, none⟩ = some (.int .i64 toks[k].kind) ∧ w3.cell? ⟨g, k * 4 + 1, none⟩ = some (.string ⟨toks[k].text.toArray⟩) ∧ w3.cell? ⟨g, k * 4 + 2, none⟩ = some (.int .u64 toks[k].word) ∧
              w3.cell? ⟨g2, k * 4, none⟩ = some (.int .i64 toks[k].kind) ∧ w3.cell? ⟨g2, k * 4 + 1, none⟩ = some (.string ⟨toks[k].text.toArray⟩) ∧ w3.cell? ⟨g2, k * 4 + 2, none⟩ = some (.int .u64 toks[k].word) ∧ w3.cell? ⟨g2, k * 4 + 3, none⟩ = some (.int .i64 (posOf toks k))) := by
            show ∀ k (hk : k < toks.length), _
            intro k hk
            obtain ⟨g, hg, _, c0, c1, c2, c3⟩ := HC.out k hk
            obtain ⟨g2, hg2, _, x0, x1, x2, x3⟩ := hcells2 k (by rw [hpl]; exact hk)
            have hp := placed_get toks 0 k hk (by rw [hpl]; exact hk)
            rw [Nat.zero_add] at hp
            rw [hp] at x0 x1 x2 x3
            exact ⟨g, g2, hg, hg2, cell_later hb23 c0, cell_later hb23 c1, cell_later hb23 c2, x0, x1, x2, x3⟩
          clear hcells2 HC hown2 cT hb3 hbr hcap2 hb23
          rw [hpl]
          clear hpl
          go_wp2
          go_loopw [12, 57] (fun a i wq => ∃ (j : Nat), j ≤ toks.length ∧ i = .int .i64 j ∧ a = .int .i64 (posOf toks j) ∧ Below w3.heap.size w3 wq) (fun _ i _ => toks.length - (RowKit.intOf i).toNat)
          case atStart => exact ⟨0, Nat.zero_le _, rfl, by rw [posOf_zero]; rfl, Below.refl _ _⟩
          case round =>
            obtain ⟨j, hj, rfl, rfl, hbq⟩ := hrel
            have hpj := posOf_le toks j
            clear e58 hkn
            by_cases hjn : j < toks.length
            · obtain ⟨g, g2, rfl, rfl, c0, c1, c2, x0, x1, x2, x3⟩ := HC2.out j hjn
              have c0 := cell_later hbq c0
              have c1 := cell_later hbq c1
              have c2 := cell_later hbq c2
              have x0 := cell_later hbq x0
              have x1 := cell_later hbq x1
              have x2 := cell_later hbq x2
              have x3 := cell_later hbq x3
              have hok := (ok_pos _ (M2.out toks[j] (List.getElem_mem hjn))).2
              have hps := posOf_succ toks j hjn
              have hpj2 := posOf_le toks (j + 1)
              have hcnt : countS toks[j].text = (chs toks[j].text).length := by unfold countS; rw [hok, if_pos rfl]
              have htl : toks[j].text.length ≤ 2000 := by
                have h1 := textOf_take_le toks (j + 1)
                rw [textOf_snoc toks j hjn] at h1
                simp at h1
                omega
              have hTq : Tabs wr := hT3.below hbq
              clear hok
              generalize toks[j].kind = kd at *
              generalize toks[j].word = wo at *
              generalize toks[j].text = tt at *
              generalize (chs tt).length = cn at *
              obtain ⟨TT, hTT⟩ : ∃ TT : ByteArray, TT = ⟨tt.toArray⟩ := ⟨_, rfl⟩
              have cC := fun w1 (h : Tabs w1) => count_any TT w1 (by rw [hTT]; show tt.toArray.size < _; simp; omega) h
              have eTT : TT.data.toList = tt := by rw [hTT]
              rw [eTT, hcnt] at cC
              rw [← hTT] at c1 x1
              clear hTT eTT hcnt
              have HP : Hid (posOf toks (j + 1) = posOf toks j + (cn + 1)) := hps
              have hb1 : posOf toks j + (cn + 1) ≤ 2000 := by omega
              clear hps hpj2
              generalize posOf toks j = pj at *
              have c0a := fun o => cell_past c0 o
              have c1a := fun o => cell_past c1 o
              have c2a := fun o => cell_past c2 o
              have hj0 : (0 : Int) ≤ (j : Int) := by omega
              have hj1 : (j : Int) < (toks.length : Int) := by omega
              go_wp2_with fail
              go_quiet (fail)
              go_wp2_with fail
              refine (cC _ (hTq.below (below_drewN ((Below.refl _ _).alloc (Nat.le_refl _) _) _))).mono ?_
              rintro e w4 ⟨rfl, hb4⟩
              go_wp2
              go_roundw
              case rel =>
                refine ⟨j + 1, by omega, by go_num, ?_, ?_⟩
                · rw [HP.out]; go_num
                · exact below_tr hbq (below_tr (below_drewN ((Below.refl _ _).alloc (Nat.le_refl _) _) _) hb4)
              case measure => simp [RowKit.intOf]; omega
            · have hjz : ¬ (j : Int) < (toks.length : Int) := by omega
              go_wp2
              go_ret
              exact ⟨rfl, below_tr hB3 hbq⟩
    · have cT := fun w1 (h : Tabs w1) => tokens_any s w1 hs h
      generalize lexS s.data.toList = ANS at *
      obtain ⟨toks, E, A⟩ := ANS
      simp only at hE
      have hEz : ¬ ((E : Int) = 0) := by omega
      go_enter Tryd.func4, Tryd.ntmps4
      go_wp2_with (go_at_call 7; refine cA.mono ?_; rintro e w1 ⟨rfl, hb1⟩)
      refine (cT w1 (hT.below hb1)).mono ?_
      rintro e w2 ⟨v, rfl, hown, hb2⟩
      go_wp2
      go_ret
      exact ⟨rfl, below_tr hb1 hb2⟩

theorem own : ownKnob Tryd.prog.godebug = none := by kernel_rfl
theorem laidOut : laidOutB Tryd.prog = true := by kernel_rfl
theorem first_eq : Rows.laid_unicode_utf8_first = firstData := Pinned.utf8First_eq
theorem accept_eq : (Rows.laid_unicode_utf8_acceptRanges : DataW Unit) = acceptData := by kernel_rfl
/-- WHAT THE ROW's LIST GIVES: utf8's two tables. -/
theorem tabs {W : World} (h : laidMet Tryd.prog Rows.lexTextsRow.laid W) : Tabs W := by
  have h1 := Lib.laidMet.reads h (n := "unicode/utf8.first") (d := Rows.laid_unicode_utf8_first) (by simp [Rows.lexTextsRow])
  have h2 := Lib.laidMet.reads h (n := "unicode/utf8.acceptRanges") (d := Rows.laid_unicode_utf8_acceptRanges) (by simp [Rows.lexTextsRow])
  rw [first_eq] at h1
  rw [accept_eq] at h2
  exact utf8Tabs_of_readsT (U8Types.of196 Tryd.lays196) ⟨by kernel_rfl, by kernel_rfl, by kernel_rfl, by kernel_rfl, by kernel_rfl, by kernel_rfl, by kernel_rfl⟩ h1 h2

set_option linter.unusedVariables false in
set_option maxRecDepth 100000 in
theorem contract (H : Type) (enc : TypeId × Value → H) (W : World) (base : Nat) (args : Array Value) (ds gs : List (DataW H)) (before : List MemPlace)
    (hval0 : ∀ (j : Nat) t v, Tryd.f4.params[j]? = some t → args[j]? = some v → Value.okWide Tryd.prog W .any base t v)
    (hW : DataW.Whole enc Tryd.prog Tryd.f4.params.toList Rows.lexTextsSpec.vars false W args.toList ds gs before) (hL0 : laidMetH Tryd.prog Rows.lexTextsRow.laid W) :
    Calls Tryd.prog 4 args W fun e W' => ∃ v, e = .returned v ∧ Rows.lexTextsSpec.post enc Tryd.prog Tryd.f4 false true false false W args v W' := by
  have hL := hL0
  rw [MakeChecks.laidMetH_plain _ _ _ (by kernel_rfl)] at hL
  have hval := hval0
  have hW' := hW
  obtain ⟨p, q, hA0, hV, rfl, hfz, hnd⟩ := hW
  have hA : DataW.TrodAll enc Tryd.prog W 0 (fun _ => true) true Tryd.f4.params.toList args.toList ds p := hA0
  rw [Tryd.params4] at hA hval
  obtain ⟨v0, vs0, d0, ds0, p0, q0, hargs, rfl, rfl, h0, r0⟩ := trodAll_cons hA
  obtain ⟨rfl, rfl, rfl⟩ := trodAll_nil r0
  obtain rfl : args = #[v0] := by cases args; simp_all
  obtain ⟨rfl, rfl⟩ := trodVars_none hV
  have k0 := h0
  have lt0 : ∀ x ∈ p0, x.block < W.heap.size := by obtain ⟨m, hm⟩ := k0; exact DataW.trod_lt m _ _ _ hm
  obtain ⟨s0, rfl, e0, _, w0⟩ := open_string Tryd.underlying9 (hval 0 9 v0 rfl rfl) h0
  subst e0
  clear hA0 hval0
  refine (walk s0 W w0 (tabs hL)).mono fun e W' ⟨he, bel⟩ => ?_
  subst he
  exact ⟨_, rfl, _, _, _, [], _, [], hW', trodAll_mk1 (shut_bool Tryd.underlying4 _), (trodAll_cons_mk (Below.trod laidOut (by kernel_rfl) (of_decide_eq_true (by kernel_rfl)) k0 bel lt0) trodAll_mk0), rfl, bel.frame _, fun h => by cases h⟩

theorem laid_met (os : Os) : laidMet Tryd.prog Rows.lexTextsRow.laid ((World.laidAll Tryd.prog os Rows.lexTextsRow.laid).forCall (fun _ _ => 0) ⟨#[], #[.string ⟨#[]⟩], []⟩).memory :=
  laidMet_laidAll _ (by kernel_rfl) (by kernel_rfl)
theorem reads (os : Os) {H : Type} (enc : TypeId × Value → H) : ∃ places, DataW.whole enc Tryd.prog ((World.laidAll Tryd.prog os Rows.lexTextsRow.laid).forCall (fun _ _ => 0) ⟨#[], #[.string ⟨#[]⟩], []⟩).memory Tryd.f4.params.toList Rows.lexTextsSpec.vars false (#[.string ⟨#[]⟩] : Array Value).toList 8 = some ([.lit (.string [])], [], places) :=
  ⟨[], by kernel_rfl⟩

set_option maxRecDepth 100000 in
theorem lifted (os : Os) (started : os.Started) (H : Type) (enc : TypeId × Value → H) (F : Stop.Interp) :
    ReturnsInHanded {} Tryd.checked os 4 .any ((OpenSpec.ofChange Rows.lexTextsSpec).preRow enc Tryd.prog Tryd.f4 Rows.lexTextsRow.domain false Rows.lexTextsRow.laid) (((OpenSpec.ofChange Rows.lexTextsSpec).at F).post enc Tryd.prog Tryd.f4 false true false false) := by
  obtain ⟨places, hx⟩ := reads os enc
  refine returnsInHanded_of_row (C := Tryd.checked) (s := (OpenSpec.ofChange Rows.lexTextsSpec)) own started (by kernel_rfl) Tryd.func4
    (witness_row_at (enc := enc) (C := Tryd.checked) false (World.laidAll Tryd.prog os Rows.lexTextsRow.laid) #[.string ⟨#[]⟩] (World.laidAll_os _ _ _) (by kernel_rfl) (by kernel_rfl) (by kernel_rfl)
      (OpenSpec.preRow_of_cond 8 hx (by kernel_rfl) (fun k hk => by cases hk) (by kernel_rfl) (laid_met os))) ?_
  intro W base args ds gs before hval hW _ _ _ hL _ _
  exact contract H enc W base args ds gs before hval hW hL

theorem said : Rows.LexTextsSaid :=
  OpenClaim.holds_of_cond 4 Tryd.f4 rfl rfl rfl rfl rfl rfl rfl ⟨rfl, rfl, rfl, rfl, rfl⟩ rfl rfl rfl rfl rfl (by kernel_rfl) Tryd.func4 (by kernel_rfl)
    (of_decide_eq_true (by kernel_rfl)) (by unfold Func.isWrapper; first | (rw [if_pos (by decide +kernel)]; kernel_rfl) | (rw [if_neg (by decide +kernel)]; exact ⟨rfl, rfl⟩))
    (fun os started H enc _ F => by rw [OpenClaim.pre_eq_preRow]; exact lifted os started H enc F)

theorem plain (f : FuncId) (fn : Func) (hf : Tryd.pinned.checked.prog.funcNamed "portreeve/portreevelaw02.LexTexts" = some f) (hfn : Tryd.pinned.checked.prog.funcs[f]? = some fn) :
    false = Tryd.pinned.checked.prog.looks [] ∧ ∀ (j : Nat) t, fn.params[j]? = some t → Tryd.pinned.checked.prog.wantsStandIn t = false := by
  obtain rfl : f = 4 := Option.some.inj ((show Tryd.prog.funcNamed "portreeve/portreevelaw02.LexTexts" = some 4 by kernel_rfl).symm.trans hf) |>.symm
  obtain rfl : fn = Tryd.f4 := (Option.some.inj (Tryd.func4.symm.trans hfn)).symm
  refine ⟨by kernel_rfl, fun j t ht => ?_⟩
  rw [Tryd.params4] at ht
  have hm : t ∈ [9] := by simpa using Array.mem_of_getElem? ht
  have hall : ([9].all fun u => !Tryd.prog.wantsStandIn u) = true := by kernel_rfl
  exact (show Tryd.prog.wantsStandIn t = false by simpa using List.all_eq_true.1 hall t hm)

theorem card : Rows.LexTextsCardSaid :=
  Claim7.holds_tied_plain_at .later [] _ _ _ _ said (fun _ h => by cases h) (by kernel_rfl) (fun _ h => by cases h) lexTexts_row_tie rfl ⟨rfl, rfl⟩ (by kernel_rfl) rfl plain (by kernel_rfl)

end Go.Proofs.YtbpahdgkedfmdaaDoor.lexTexts
