/- LexShows (P2.3): for every word, its text is the shortest one in its base, without a nought ahead, and says the word. No condition beyond the row's own. -/
import Derived.Test.YtbpahdgkedfmdaaDoorShowLaid
import Derived.Test.YtbpahdgkedfmdaaDoorLexAnchor
namespace Go.Proofs.YtbpahdgkedfmdaaDoor.lexShows
open Go.ChangeShapes Go.WideShapes Go.ChangeAt Go.RowKit Go.Lib

/-- The value of the first j digits. -/
def pre (x j : Nat) : Nat := ((hexL x).take j).foldl (fun a b => a * 16 + (digv 16 b).getD 0) 0
theorem pre_zero (x : Nat) : pre x 0 = 0 := by simp [pre]
theorem pre_all (x : Nat) (h : x < 18446744073709551616) : pre x (hexL x).length = x := by
  unfold pre
  rw [List.take_length]
  exact fold_hexG 16 x (by have : (16 : Nat) ^ 16 = 18446744073709551616 := by decide
                           omega) (by omega)
theorem pre_step (x j : Nat) (h : j < (hexL x).length) : ∃ d, d < 16 ∧ (hexL x)[j] = hexB d ∧ pre x (j + 1) = pre x j * 16 + d := by
  obtain ⟨d, hd, e⟩ := hexG_mem 16 x (hexL x)[j] (List.getElem_mem h)
  refine ⟨d, hd, e, ?_⟩
  unfold pre
  rw [List.take_succ_eq_append_getElem h, List.foldl_append, List.foldl_cons, List.foldl_nil, e, digv_hex d hd]
  rfl
theorem pre_le (x : Nat) (hx : x < 18446744073709551616) : ∀ n j, j + n = (hexL x).length → pre x j ≤ x
  | 0, j, h => by
    have : j = (hexL x).length := by omega
    rw [this, pre_all x hx]
    exact Nat.le_refl _
  | n + 1, j, h => by
    obtain ⟨d, _, _, e⟩ := pre_step x j (by omega)
    have := pre_le x hx n (j + 1) (by omega)
    omega
theorem show_get (x k : Nat) (h : k < (showB x).size) : ((showB x)[k]'h).toNat = (showL x).getD k 0 := by
  have hs : (showB x).size = (showL x).length := by simp [showB, ByteArray.size]
  have e : ((showB x)[k]'h) = ((showL x).map (·.toUInt8))[k]'(by simp; omega) := by simp [showB, ByteArray.getElem_eq_getElem_data]
  rw [e, List.getElem_map]
  have hb := showL_byte x _ (List.getElem_mem (show k < (showL x).length by omega))
  simp [List.getD, List.getElem?_eq_getElem (show k < (showL x).length by omega)]
  omega
theorem show_size (x : Nat) : (showB x).size = (showL x).length := by simp [showB, ByteArray.size]
theorem or_low (q d : Nat) (hd : d < 16) (hq : q * 16 + d < 18446744073709551616) : bits .or .u64 ((q : Int) * 16) (d : Int) = ((q * 16 + d : Nat) : Int) := by
  have := bits_or_u64_nat (q * 16) d (by omega) (by omega)
  rw [show (((q * 16 : Nat)) : Int) = (q : Int) * 16 by simp] at this
  rw [this]
  congr 1
  have h4 := Nat.two_pow_add_eq_or_of_lt (i := 4) (b := d) (by omega) q
  have e : q * 16 = 2 ^ 4 * q := by omega
  rw [e, ← h4]

set_option maxRecDepth 100000 in
set_option maxHeartbeats 8000000 in
theorem walk (x : Nat) (w : World) (hx : x < 18446744073709551616) (hT : Tabs w) (hZ : Tz w) :
    Calls Tryd.prog 6 #[.int .u64 x] w fun e w' => e = .returned (.bool true) ∧ Below w.heap.size w w' := by
  have cA := anchor_any w hT
  have cS := fun w1 (h : Tz w1) => show_any x hx w1 h
  have hG := show_get x
  have hsz := show_size x
  by_cases h10 : x < 10
  · have hl : showL x = [48 + x] := by unfold showL; rw [if_pos h10]
    rw [hl] at hG hsz
    have hG0 : ∀ h : 0 < (showB x).size, ((showB x)[0]'h).toNat = 48 + x := fun h => hG 0 h
    generalize showB x = S at *
    have hsz1 : (S.size : Int) = 1 := by rw [hsz]; rfl
    clear hG hsz hl
    go_enter Tryd.func6, Tryd.ntmps6
    go_wp2_with (go_at_call 7; refine cA.mono ?_; rintro e w1 ⟨rfl, hb1⟩)
    refine (cS _ (hZ.later hb1)).mono ?_
    rintro e w2 ⟨rfl, hb2⟩
    go_wp2
    go_ret
    exact ⟨ret_bool (by rw [beq_iff_eq]; omega), below_tr hb1 hb2⟩
  · have hl : showL x = 48 :: 120 :: hexL x := by unfold showL; rw [if_neg h10]
    have hlen := hexL_len x
    have hne := List.length_pos_iff.2 (hexG_ne 16 x (by omega))
    have hne' : 0 < (hexL x).length := hne
    have hhead := hexL_head x (by omega) hx
    have hpa := pre_all x hx
    rw [hl] at hG hsz
    have hG0 : ∀ h : 0 < (showB x).size, ((showB x)[0]'h).toNat = 48 := fun h => hG 0 h
    have hG1 : ∀ h : 1 < (showB x).size, ((showB x)[1]'h).toNat = 120 := fun h => hG 1 h
    obtain ⟨c2, hc2, hc2n, hc2b⟩ : ∃ c2 : Nat, (∀ h : 2 < (showB x).size, ((showB x)[2]'h).toNat = c2) ∧ c2 ≠ 48 ∧ c2 < 256 := by
      refine ⟨(hexL x).getD 0 0, fun h => hG 2 h, ?_, ?_⟩
      · cases hh : hexL x with
        | nil => rw [hh] at hne'; simp at hne'
        | cons a t => rw [hh] at hhead; simpa using hhead
      · have := hG 2 (by rw [hsz]; simp; omega)
        have h3 := ((showB x)[2]'(by rw [hsz]; simp; omega)).toNat_lt
        have e : (48 :: 120 :: hexL x).getD 2 0 = (hexL x).getD 0 0 := rfl
        rw [e] at this
        omega
    have HGk : Hid (∀ (k : Nat) (h : k < (showB x).size), ((showB x)[k]'h).toNat = (48 :: 120 :: hexL x).getD k 0) := hG
    have hsz1 : (showB x).size = (hexL x).length + 2 := by rw [hsz]; simp
    generalize showB x = S at *
    have hszz : (S.size : Int) = ((hexL x).length : Int) + 2 := by omega
    have hc2z : ((c2 : Int) == 48) = false := by simp; omega
    have hs3 : (3 : Int) ≤ (S.size : Int) := by omega
    clear hG hsz hl hne hhead hne'
    go_enter Tryd.func6, Tryd.ntmps6
    go_wp2_with (go_at_call 7; refine cA.mono ?_; rintro e w1 ⟨rfl, hb1⟩)
    refine (cS _ (hZ.later hb1)).mono ?_
    rintro e w2 ⟨rfl, hb2⟩
    go_wp2
    go_loop [4, 5] (fun n i => ∃ k : Nat, 2 ≤ k ∧ k ≤ S.size ∧ i = .int .i64 k ∧ n = .int .u64 (pre x (k - 2))) (fun _ i => S.size - (RowKit.intOf i).toNat)
    case atStart => exact ⟨2, by omega, by omega, rfl, by rw [show 2 - 2 = 0 from rfl, pre_zero]; rfl⟩
    case round =>
      obtain ⟨k, hk1, hk2, rfl, rfl⟩ := hrel
      by_cases hlt : k < S.size
      · obtain ⟨d, hd, e1, e2⟩ := pre_step x (k - 2) (by omega)
        have hple := pre_le x hx ((hexL x).length - (k - 2 + 1)) (k - 2 + 1) (by omega)
        have eG : (48 :: 120 :: hexL x).getD k 0 = (hexL x)[k - 2]'(by omega) := by
          obtain ⟨m, rfl⟩ : ∃ m, k = m + 2 := ⟨k - 2, by omega⟩
          simp only [Nat.add_sub_cancel, List.getD, List.getElem?_cons_succ]
          rw [List.getElem?_eq_getElem (by omega)]
          rfl
        have hGk : ∀ h : k < S.size, (S[k]'h).toNat = hexB d := fun h => by rw [HGk.out k h, eG, e1]
        have e2' : k + 1 - 2 = k - 2 + 1 := by omega
        have HP : Hid (pre x (k + 1 - 2) = pre x (k - 2) * 16 + d) := by show _ = _; rw [e2', e2]
        have hor := or_low (pre x (k - 2)) d hd (by omega)
        have hqb : pre x (k - 2) * 16 + d < 18446744073709551616 := by omega
        clear e1 e2 e2' eG hG0 hG1 hc2 hc2n hc2b hc2z hpa hple
        generalize pre x (k - 2) = q at *
        have hkz : (k : Int) < (S.size : Int) := by omega
        by_cases hd10 : d < 10
        · have hB : hexB d = 48 + d := by unfold hexB; rw [if_pos hd10]
          rw [hB] at hGk
          clear hB
          go_wp2
          go_round
          case rel =>
            refine ⟨k + 1, by omega, by omega, by go_num, ?_⟩
            rw [HP.out, ← hor]
            congr 2
            omega
          case measure => simp [RowKit.intOf]; omega
        · have hB : hexB d = 87 + d := by unfold hexB; rw [if_neg hd10]
          rw [hB] at hGk
          clear hB
          go_wp2
          go_round
          case rel =>
            refine ⟨k + 1, by omega, by omega, by go_num, ?_⟩
            rw [HP.out, ← hor]
            congr 2
            omega
          case measure => simp [RowKit.intOf]; omega
      · have ek : k - 2 = (hexL x).length := by omega
        rw [ek, hpa]
        have hkz : ¬ (k : Int) < (S.size : Int) := by omega
        go_wp2
        go_ret
        exact ⟨ret_bool (decide_eq_true (by omega)), below_tr hb1 hb2⟩

theorem extra {W : World} (h : laidMet Tryd.prog Rows.lexShowsRow.laid W) : Tz W := by
  have h1 := Lib.laidMet.reads h (n := "math/bits.deBruijn64tab") (d := Rows.laid_math_bits_deBruijn64tab) (by simp [Rows.lexShowsRow])
  rw [db_eq] at h1
  exact tz_of_reads h1

theorem own : ownKnob Tryd.prog.godebug = none := by kernel_rfl
theorem laidOut : laidOutB Tryd.prog = true := by kernel_rfl
theorem first_eq : Rows.laid_unicode_utf8_first = firstData := Pinned.utf8First_eq
theorem accept_eq : (Rows.laid_unicode_utf8_acceptRanges : DataW Unit) = acceptData := by kernel_rfl
/-- WHAT THE ROW's LIST GIVES: utf8's two tables. -/
theorem tabs {W : World} (h : laidMet Tryd.prog Rows.lexShowsRow.laid W) : Tabs W := by
  have h1 := Lib.laidMet.reads h (n := "unicode/utf8.first") (d := Rows.laid_unicode_utf8_first) (by simp [Rows.lexShowsRow])
  have h2 := Lib.laidMet.reads h (n := "unicode/utf8.acceptRanges") (d := Rows.laid_unicode_utf8_acceptRanges) (by simp [Rows.lexShowsRow])
  rw [first_eq] at h1
  rw [accept_eq] at h2
  exact utf8Tabs_of_readsT (U8Types.of196 Tryd.lays196) ⟨by kernel_rfl, by kernel_rfl, by kernel_rfl, by kernel_rfl, by kernel_rfl, by kernel_rfl, by kernel_rfl⟩ h1 h2

set_option linter.unusedVariables false in
set_option maxRecDepth 100000 in
theorem contract (H : Type) (enc : TypeId × Value → H) (W : World) (base : Nat) (args : Array Value) (ds gs : List (DataW H)) (before : List MemPlace)
    (hval0 : ∀ (j : Nat) t v, Tryd.f6.params[j]? = some t → args[j]? = some v → Value.okWide Tryd.prog W .any base t v)
    (hW : DataW.Whole enc Tryd.prog Tryd.f6.params.toList Rows.lexShowsSpec.vars false W args.toList ds gs before) (hL0 : laidMetH Tryd.prog Rows.lexShowsRow.laid W) :
    Calls Tryd.prog 6 args W fun e W' => ∃ v, e = .returned v ∧ Rows.lexShowsSpec.post enc Tryd.prog Tryd.f6 false true false false W args v W' := by
  have hL := hL0
  rw [MakeChecks.laidMetH_plain _ _ _ (by kernel_rfl)] at hL
  have hval := hval0
  have hW' := hW
  obtain ⟨p, q, hA0, hV, rfl, hfz, hnd⟩ := hW
  have hA : DataW.TrodAll enc Tryd.prog W 0 (fun _ => true) true Tryd.f6.params.toList args.toList ds p := hA0
  rw [Tryd.params6] at hA hval
  obtain ⟨v0, vs0, d0, ds0, p0, q0, hargs, rfl, rfl, h0, r0⟩ := trodAll_cons hA
  obtain ⟨rfl, rfl, rfl⟩ := trodAll_nil r0
  obtain rfl : args = #[v0] := by cases args; simp_all
  obtain ⟨rfl, rfl⟩ := trodVars_none hV
  have k0 := h0
  have lt0 : ∀ x ∈ p0, x.block < W.heap.size := by obtain ⟨m, hm⟩ := k0; exact DataW.trod_lt m _ _ _ hm
  obtain ⟨a0, rfl, _, _, w0⟩ := open_int Tryd.underlying30 (hval 0 30 v0 rfl rfl) h0
  obtain ⟨x0, rfl⟩ := Int.eq_ofNat_of_zero_le (bounds_u64 w0).1
  have b0 : x0 < 18446744073709551616 := by have := (bounds_u64 w0).2; omega
  clear hA0 hval0
  refine (walk x0 W b0 (tabs hL) (extra hL)).mono fun e W' ⟨he, bel⟩ => ?_
  subst he
  exact ⟨_, rfl, _, _, _, [], _, [], hW', trodAll_mk1 (shut_bool Tryd.underlying4 _), (trodAll_cons_mk (Below.trod laidOut (by kernel_rfl) (of_decide_eq_true (by kernel_rfl)) k0 bel lt0) trodAll_mk0), rfl, bel.frame _, fun h => by cases h⟩

theorem laid_met (os : Os) : laidMet Tryd.prog Rows.lexShowsRow.laid ((World.laidAll Tryd.prog os Rows.lexShowsRow.laid).forCall (fun _ _ => 0) ⟨#[], #[.int .u64 0], []⟩).memory :=
  laidMet_laidAll _ (by kernel_rfl) (by kernel_rfl)
theorem reads (os : Os) {H : Type} (enc : TypeId × Value → H) : ∃ places, DataW.whole enc Tryd.prog ((World.laidAll Tryd.prog os Rows.lexShowsRow.laid).forCall (fun _ _ => 0) ⟨#[], #[.int .u64 0], []⟩).memory Tryd.f6.params.toList Rows.lexShowsSpec.vars false (#[.int .u64 0] : Array Value).toList 8 = some ([.lit (.int .u64 0)], [], places) :=
  ⟨[], by kernel_rfl⟩

set_option maxRecDepth 100000 in
theorem lifted (os : Os) (started : os.Started) (H : Type) (enc : TypeId × Value → H) (F : Stop.Interp) :
    ReturnsInHanded {} Tryd.checked os 6 .any ((OpenSpec.ofChange Rows.lexShowsSpec).preRow enc Tryd.prog Tryd.f6 Rows.lexShowsRow.domain false Rows.lexShowsRow.laid) (((OpenSpec.ofChange Rows.lexShowsSpec).at F).post enc Tryd.prog Tryd.f6 false true false false) := by
  obtain ⟨places, hx⟩ := reads os enc
  refine returnsInHanded_of_row (C := Tryd.checked) (s := (OpenSpec.ofChange Rows.lexShowsSpec)) own started (by kernel_rfl) Tryd.func6
    (witness_row_at (enc := enc) (C := Tryd.checked) false (World.laidAll Tryd.prog os Rows.lexShowsRow.laid) #[.int .u64 0] (World.laidAll_os _ _ _) (by kernel_rfl) (by kernel_rfl) (by kernel_rfl)
      (OpenSpec.preRow_of_cond 8 hx (by kernel_rfl) (fun k hk => by cases hk) (by kernel_rfl) (laid_met os))) ?_
  intro W base args ds gs before hval hW _ _ _ hL _ _
  exact contract H enc W base args ds gs before hval hW hL

theorem said : Rows.LexShowsSaid :=
  OpenClaim.holds_of_cond 6 Tryd.f6 rfl rfl rfl rfl rfl rfl rfl ⟨rfl, rfl, rfl, rfl, rfl⟩ rfl rfl rfl rfl rfl (by kernel_rfl) Tryd.func6 (by kernel_rfl)
    (of_decide_eq_true (by kernel_rfl)) (by unfold Func.isWrapper; first | (rw [if_pos (by decide +kernel)]; kernel_rfl) | (rw [if_neg (by decide +kernel)]; exact ⟨rfl, rfl⟩))
    (fun os started H enc _ F => by rw [OpenClaim.pre_eq_preRow]; exact lifted os started H enc F)

theorem plain (f : FuncId) (fn : Func) (hf : Tryd.pinned.checked.prog.funcNamed "portreeve/portreevelaw02.LexShows" = some f) (hfn : Tryd.pinned.checked.prog.funcs[f]? = some fn) :
    false = Tryd.pinned.checked.prog.looks [] ∧ ∀ (j : Nat) t, fn.params[j]? = some t → Tryd.pinned.checked.prog.wantsStandIn t = false := by
  obtain rfl : f = 6 := Option.some.inj ((show Tryd.prog.funcNamed "portreeve/portreevelaw02.LexShows" = some 6 by kernel_rfl).symm.trans hf) |>.symm
  obtain rfl : fn = Tryd.f6 := (Option.some.inj (Tryd.func6.symm.trans hfn)).symm
  refine ⟨by kernel_rfl, fun j t ht => ?_⟩
  rw [Tryd.params6] at ht
  have hm : t ∈ [30] := by simpa using Array.mem_of_getElem? ht
  have hall : ([30].all fun u => !Tryd.prog.wantsStandIn u) = true := by kernel_rfl
  exact (show Tryd.prog.wantsStandIn t = false by simpa using List.all_eq_true.1 hall t hm)

theorem card : Rows.LexShowsCardSaid :=
  Claim7.holds_tied_plain_at .later [] _ _ _ _ said (fun _ h => by cases h) (by kernel_rfl) (fun _ h => by cases h) lexShows_row_tie rfl ⟨rfl, rfl⟩ (by kernel_rfl) rfl plain (by kernel_rfl)

end Go.Proofs.YtbpahdgkedfmdaaDoor.lexShows
