/- RightTexts (P10.1): for every number and every text the law returns true: rights have a text that is read as them; any other text is none. No condition beyond the row's own. -/
import Derived.Test.YtoblkicbfkgjnaaDoorRgE
import Derived.Test.YtoblkicbfkgjnaaDoorDescFrame
import Derived.ChangeMaps5
import Derived.Deep.RegionHeld3
import Derived.Deep.DeepCutAuto
namespace Go.Proofs.YtoblkicbfkgjnaaDoor.rightTexts
open Go.ChangeShapes Go.WideShapes Go.ChangeAt Go.RowKit Go.Lib
open Go.ChangeMaps (open_string)

/-- A right among rights; rights' text. -/
def hB (n : Nat) (k : Int) : Bool := n.testBit k.toNat
def TX (n : Nat) : ByteArray := ⟨(shL n 3).toArray⟩
theorem tx_ok : ∀ n : Nat, n < 8 → pOk (TX n) = true := by decide +kernel
theorem tx_v : ∀ n : Nat, n < 8 → pV (TX n) = (n : Int) := by decide +kernel
theorem tx_3 (n : Nat) : (TX n).size = 3 := by simp [TX, ByteArray.size, shL]
theorem tx_b0 : ∀ n : Nat, n < 8 → decide (bt (TX n) 0 = 114) = n.testBit 0 := by decide +kernel
theorem tx_b1 : ∀ n : Nat, n < 8 → decide (bt (TX n) 1 = 119) = n.testBit 1 := by decide +kernel
theorem tx_b2 : ∀ n : Nat, n < 8 → decide (bt (TX n) 2 = 120) = n.testBit 2 := by decide +kernel
theorem ok_sign {x : UInt8} {k : Nat} (h : (decide (x.toNat = sgN k) || decide (x.toNat = 45)) = true) (hk : k < 3) : x = [114, 119, 120].getD k 0 ∨ x = 45 := by
  rw [Bool.or_eq_true, decide_eq_true_eq, decide_eq_true_eq] at h
  rcases h with h | h
  · refine Or.inl (UInt8.toNat_inj.1 (h.trans ?_))
    rcases (show k = 0 ∨ k = 1 ∨ k = 2 by omega) with rfl | rfl | rfl <;> rfl
  · exact Or.inr (UInt8.toNat_inj.1 h)
theorem tx_of (s : ByteArray) (h : pOk s = true) : TX (pR s 3) = s ∧ pR s 3 < 8 ∧ pV s = (pR s 3 : Nat) := by
  have hl : pR s 3 < 8 := pR_lt s 3
  refine ⟨?_, hl, by unfold pV; rw [if_pos h]⟩
  unfold pOk at h
  simp only [Bool.and_eq_true, decide_eq_true_eq] at h
  obtain ⟨⟨⟨h3, h0⟩, h1⟩, h2⟩ := h
  obtain ⟨⟨l⟩⟩ := s
  match l, h3 with
  | [x, y, z], _ =>
    have q0 := ok_sign (x := x) (k := 0) h0 (by omega)
    have q1 := ok_sign (x := y) (k := 1) h1 (by omega)
    have q2 := ok_sign (x := z) (k := 2) h2 (by omega)
    clear h0 h1 h2 hl
    rcases q0 with rfl | rfl <;> rcases q1 with rfl | rfl <;> rcases q2 with rfl | rfl <;> rfl
theorem tx_ne (s : ByteArray) (h : pOk s = false) (n : Nat) (hn : n < 8) : ((TX n).toList == s.toList) = false := by
  rw [beq_eq_false_iff_ne]
  intro e
  rw [ByteArray.toList_eq, ByteArray.toList_eq] at e
  have hs : TX n = s := bytes_inj e
  have := tx_ok n hn
  rw [hs, h] at this
  cases this
theorem index_tx (n k c : Nat) (hk : k < (TX n).size) (hc : decide (bt (TX n) k = c) = n.testBit k) : ((((TX n)[k]'hk).toNat : Int) == (c : Int)) = n.testBit k := by
  rw [← hc, bt_eq _ _ hk, Bool.eq_iff_iff]
  simp
  omega

set_option maxHeartbeats 4000000 in
set_option maxRecDepth 100000 in
theorem walk_bad_yes (r : Int) (hr : rB r = false) (s : ByteArray) (hv : pOk s = true) (w : World) (hF : Flds w) :
    Calls Tryd.prog 4 #[.int .i64 r, .string s] w fun e w' => e = .returned (.bool true) ∧ Below w.heap.size w w' := by
  have cA := fun w1 h => anchorR_any w1 h
  have cR := fun w1 => refRite_any r w1
  have cP := fun w1 => parse_any s w1
  rw [hr] at cR
  have cS := fun w1 => show_bad r hr w1
  clear hr
  obtain ⟨q1, q2, q3⟩ := tx_of s hv
  have cT : ∀ w1, Calls Tryd.prog 13 #[.int .i64 ((pR s 3 : Nat) : Int)] w1 fun e w' => e = .returned (.string s) ∧ Below w1.heap.size w1 w' := fun w1 => by
    have := show_any (pR s 3) q2 w1
    rw [show (⟨(shL (pR s 3) 3).toArray⟩ : ByteArray) = s from q1] at this
    exact this
  rw [hv, q3] at cP
  generalize pR s 3 = n' at *
  clear hv q1 q2 q3
  go_enter Tryd.func4, Tryd.ntmps4
  go_wp2_with fail
  refine (cA _ hF).mono ?_
  rintro e w1 ⟨rfl, hB⟩
  go_wp2_with fail
  refine (cS _).mono ?_
  rintro e w2 ⟨rfl, hb⟩
  replace hB := below_tr hB hb
  clear hb
  go_wp2_with fail
  refine (cR _).mono ?_
  rintro e w3 ⟨rfl, rfl⟩
  go_wp2_with fail
  refine (cP _).mono ?_
  rintro e w5 ⟨rfl, hb⟩
  replace hB := below_tr hB hb
  clear hb cP
  go_wp2_with fail
  refine (cT _).mono ?_
  rintro e w8 ⟨rfl, hb⟩
  replace hB := below_tr hB hb
  clear hb
  go_wp2
  go_ret
  exact ⟨by simp, hB⟩

set_option maxHeartbeats 4000000 in
set_option maxRecDepth 100000 in
theorem walk_bad_no (r : Int) (hr : rB r = false) (s : ByteArray) (hv : pOk s = false) (w : World) (hF : Flds w) :
    Calls Tryd.prog 4 #[.int .i64 r, .string s] w fun e w' => e = .returned (.bool true) ∧ Below w.heap.size w w' := by
  have cA := fun w1 h => anchorR_any w1 h
  have cR := fun w1 => refRite_any r w1
  have cP := fun w1 => parse_any s w1
  rw [hr] at cR
  have cS := fun w1 => show_bad r hr w1
  clear hr
  have e1 : pV s = 0 := by unfold pV; rw [hv]; rfl
  rw [hv, e1] at cP
  have hT := fun n hn => tx_ne s hv n hn
  clear hv e1
  go_enter Tryd.func4, Tryd.ntmps4
  go_wp2_with fail
  refine (cA _ hF).mono ?_
  rintro e w1 ⟨rfl, hB⟩
  go_wp2_with fail
  refine (cS _).mono ?_
  rintro e w2 ⟨rfl, hb⟩
  replace hB := below_tr hB hb
  clear hb
  go_wp2_with fail
  refine (cR _).mono ?_
  rintro e w3 ⟨rfl, rfl⟩
  go_wp2_with fail
  refine (cP _).mono ?_
  rintro e w5 ⟨rfl, hb⟩
  replace hB := below_tr hB hb
  clear hb cP
  go_wp2
  go_loopw [70] (fun i wr => ∃ k : Nat, k ≤ 8 ∧ i = .int .i64 k ∧ Below w.heap.size w wr) (fun i _ => 8 - (RowKit.intOf i).toNat)
  case atStart => exact ⟨0, by omega, rfl, hB⟩
  case round =>
    obtain ⟨k, hk, rfl, hBk⟩ := hrel
    by_cases hlt : k < 8
    · have cS2 := fun w1 => show_any k hlt w1
      have hT2 : ((⟨(shL k 3).toArray⟩ : ByteArray).toList == s.toList) = false := hT k hlt
      generalize (⟨(shL k 3).toArray⟩ : ByteArray) = TT at *
      clear hB hT
      go_wp2_with fail
      refine (cS2 _).mono ?_
      rintro e w7 ⟨rfl, hb⟩
      replace hBk := below_tr hBk hb
      clear hb cS2
      go_wp2
      exact ⟨⟨k + 1, by omega, by go_num, hBk⟩, by simp [RowKit.intOf]; omega⟩
    · have e8 : k = 8 := by omega
      subst e8
      clear hB hT
      go_wp2
      go_ret
      exact ⟨rfl, hBk⟩

set_option maxHeartbeats 4000000 in
set_option maxRecDepth 100000 in
theorem walk_ok_yes (n : Nat) (hn : n < 8) (s : ByteArray) (hv : pOk s = true) (w : World) (hF : Flds w) :
    Calls Tryd.prog 4 #[.int .i64 (n : Int), .string s] w fun e w' => e = .returned (.bool true) ∧ Below w.heap.size w w' := by
  have cA := fun w1 h => anchorR_any w1 h
  have cR := fun w1 => refRite_any (n : Int) w1
  have cP := fun w1 => parse_any s w1
  rw [rB_of hn] at cR
  have cS : ∀ w1, Calls Tryd.prog 13 #[.int .i64 (n : Int)] w1 fun e w' => e = .returned (.string (TX n)) ∧ Below w1.heap.size w1 w' := fun w1 => show_any n hn w1
  have cQ := fun w1 => parse_any (TX n) w1
  rw [tx_ok n hn, tx_v n hn] at cQ
  have cH : ∀ (k : Int) w1, 0 ≤ k ∧ k < 64 → Calls Tryd.prog 15 #[.int .i64 (n : Int), .int .i64 k] w1 fun e w' => e = .returned (.bool (hB n k)) ∧ Below w1.heap.size w1 w' := fun k w1 hk => by
    obtain ⟨q, rfl⟩ := Int.eq_ofNat_of_zero_le hk.1
    exact has_any n q hn (by omega) w1
  have f0 : hB n 0 = n.testBit 0 := rfl
  have f1 : hB n 1 = n.testBit 1 := rfl
  have f2 : hB n 2 = n.testBit 2 := rfl
  have h3 := tx_3 n
  have hl0 : 0 < (TX n).size := by omega
  have hl1 : 1 < (TX n).size := by omega
  have hl2 : 2 < (TX n).size := by omega
  have z0 : (0 : Int) < ((TX n).size : Int) := by omega
  have z1 : (1 : Int) < ((TX n).size : Int) := by omega
  have z2 : (2 : Int) < ((TX n).size : Int) := by omega
  have z3 : (((TX n).size : Int) != 3) = false := by rw [h3]; rfl
  have i0 : ((((TX n)[0]'hl0).toNat : Int) == 114) = n.testBit 0 := index_tx n 0 114 hl0 (tx_b0 n hn)
  have i1 : ((((TX n)[1]'hl1).toNat : Int) == 119) = n.testBit 1 := index_tx n 1 119 hl1 (tx_b1 n hn)
  have i2 : ((((TX n)[2]'hl2).toNat : Int) == 120) = n.testBit 2 := index_tx n 2 120 hl2 (tx_b2 n hn)
  generalize hB n = HB at *
  generalize n.testBit 0 = b0 at *
  generalize n.testBit 1 = b1 at *
  generalize n.testBit 2 = b2 at *
  generalize TX n = TT at *
  obtain ⟨q1, q2, q3⟩ := tx_of s hv
  have cT : ∀ w1, Calls Tryd.prog 13 #[.int .i64 ((pR s 3 : Nat) : Int)] w1 fun e w' => e = .returned (.string s) ∧ Below w1.heap.size w1 w' := fun w1 => by
    have := show_any (pR s 3) q2 w1
    rw [show (⟨(shL (pR s 3) 3).toArray⟩ : ByteArray) = s from q1] at this
    exact this
  rw [hv, q3] at cP
  generalize pR s 3 = n' at *
  clear hv q1 q2 q3
  go_enter Tryd.func4, Tryd.ntmps4
  go_wp2_with fail
  refine (cA _ hF).mono ?_
  rintro e w1 ⟨rfl, hB⟩
  go_wp2_with fail
  refine (cS _).mono ?_
  rintro e w2 ⟨rfl, hb⟩
  replace hB := below_tr hB hb
  clear hb
  go_wp2_with fail
  refine (cR _).mono ?_
  rintro e w3 ⟨rfl, rfl⟩
  go_wp2_with fail
  refine (cQ _).mono ?_
  rintro e w4 ⟨rfl, hb⟩
  replace hB := below_tr hB hb
  clear hb cA cS cR cQ
  go_upto_region 8 with fail
  go_cut [60] (fun t wc => t = .bool false ∧ Below w.heap.size w wc)
  case first =>
    go_region_held3 (fun w' => Below w.heap.size w w')
      ((go_split_ands; first | (assumption; done) | exact below_tr (by assumption) hbm | exact hB.drew | (go_keep; done)))
      ((go_at_call 15; refine (cH _ _ (by decide)).mono ?_; rintro e w' ⟨rfl, hbm⟩; first | rw [f0] | rw [f1] | rw [f2]))
    all_goals
      go_wp2
      go_meet
      exact ⟨by simp, by go_split_ands; assumption⟩
  case rest =>
    obtain ⟨rfl, hB⟩ := hcut
    clear cH f0 f1 f2 i0 i1 i2 z0 z1 z2 z3 h3
    go_wp2_with fail
    refine (cP _).mono ?_
    rintro e w5 ⟨rfl, hb⟩
    replace hB := below_tr hB hb
    clear hb cP
    go_wp2_with fail
    refine (cT _).mono ?_
    rintro e w8 ⟨rfl, hb⟩
    replace hB := below_tr hB hb
    clear hb
    go_wp2
    go_ret
    exact ⟨by simp, hB⟩

set_option maxHeartbeats 4000000 in
set_option maxRecDepth 100000 in
theorem walk_ok_no (n : Nat) (hn : n < 8) (s : ByteArray) (hv : pOk s = false) (w : World) (hF : Flds w) :
    Calls Tryd.prog 4 #[.int .i64 (n : Int), .string s] w fun e w' => e = .returned (.bool true) ∧ Below w.heap.size w w' := by
  have cA := fun w1 h => anchorR_any w1 h
  have cR := fun w1 => refRite_any (n : Int) w1
  have cP := fun w1 => parse_any s w1
  rw [rB_of hn] at cR
  have cS : ∀ w1, Calls Tryd.prog 13 #[.int .i64 (n : Int)] w1 fun e w' => e = .returned (.string (TX n)) ∧ Below w1.heap.size w1 w' := fun w1 => show_any n hn w1
  have cQ := fun w1 => parse_any (TX n) w1
  rw [tx_ok n hn, tx_v n hn] at cQ
  have cH : ∀ (k : Int) w1, 0 ≤ k ∧ k < 64 → Calls Tryd.prog 15 #[.int .i64 (n : Int), .int .i64 k] w1 fun e w' => e = .returned (.bool (hB n k)) ∧ Below w1.heap.size w1 w' := fun k w1 hk => by
    obtain ⟨q, rfl⟩ := Int.eq_ofNat_of_zero_le hk.1
    exact has_any n q hn (by omega) w1
  have f0 : hB n 0 = n.testBit 0 := rfl
  have f1 : hB n 1 = n.testBit 1 := rfl
  have f2 : hB n 2 = n.testBit 2 := rfl
  have h3 := tx_3 n
  have hl0 : 0 < (TX n).size := by omega
  have hl1 : 1 < (TX n).size := by omega
  have hl2 : 2 < (TX n).size := by omega
  have z0 : (0 : Int) < ((TX n).size : Int) := by omega
  have z1 : (1 : Int) < ((TX n).size : Int) := by omega
  have z2 : (2 : Int) < ((TX n).size : Int) := by omega
  have z3 : (((TX n).size : Int) != 3) = false := by rw [h3]; rfl
  have i0 : ((((TX n)[0]'hl0).toNat : Int) == 114) = n.testBit 0 := index_tx n 0 114 hl0 (tx_b0 n hn)
  have i1 : ((((TX n)[1]'hl1).toNat : Int) == 119) = n.testBit 1 := index_tx n 1 119 hl1 (tx_b1 n hn)
  have i2 : ((((TX n)[2]'hl2).toNat : Int) == 120) = n.testBit 2 := index_tx n 2 120 hl2 (tx_b2 n hn)
  generalize hB n = HB at *
  generalize n.testBit 0 = b0 at *
  generalize n.testBit 1 = b1 at *
  generalize n.testBit 2 = b2 at *
  generalize TX n = TT at *
  have e1 : pV s = 0 := by unfold pV; rw [hv]; rfl
  rw [hv, e1] at cP
  have hT := fun n hn => tx_ne s hv n hn
  clear hv e1
  go_enter Tryd.func4, Tryd.ntmps4
  go_wp2_with fail
  refine (cA _ hF).mono ?_
  rintro e w1 ⟨rfl, hB⟩
  go_wp2_with fail
  refine (cS _).mono ?_
  rintro e w2 ⟨rfl, hb⟩
  replace hB := below_tr hB hb
  clear hb
  go_wp2_with fail
  refine (cR _).mono ?_
  rintro e w3 ⟨rfl, rfl⟩
  go_wp2_with fail
  refine (cQ _).mono ?_
  rintro e w4 ⟨rfl, hb⟩
  replace hB := below_tr hB hb
  clear hb cA cS cR cQ
  go_upto_region 8 with fail
  go_cut [60] (fun t wc => t = .bool false ∧ Below w.heap.size w wc)
  case first =>
    go_region_held3 (fun w' => Below w.heap.size w w')
      ((go_split_ands; first | (assumption; done) | exact below_tr (by assumption) hbm | exact hB.drew | (go_keep; done)))
      ((go_at_call 15; refine (cH _ _ (by decide)).mono ?_; rintro e w' ⟨rfl, hbm⟩; first | rw [f0] | rw [f1] | rw [f2]))
    all_goals
      go_wp2
      go_meet
      exact ⟨by simp, by go_split_ands; assumption⟩
  case rest =>
    obtain ⟨rfl, hB⟩ := hcut
    clear cH f0 f1 f2 i0 i1 i2 z0 z1 z2 z3 h3
    go_wp2_with fail
    refine (cP _).mono ?_
    rintro e w5 ⟨rfl, hb⟩
    replace hB := below_tr hB hb
    clear hb cP
    go_wp2
    go_loopw [70] (fun i wr => ∃ k : Nat, k ≤ 8 ∧ i = .int .i64 k ∧ Below w.heap.size w wr) (fun i _ => 8 - (RowKit.intOf i).toNat)
    case atStart => exact ⟨0, by omega, rfl, hB⟩
    case round =>
      obtain ⟨k, hk, rfl, hBk⟩ := hrel
      by_cases hlt : k < 8
      · have cS2 := fun w1 => show_any k hlt w1
        have hT2 : ((⟨(shL k 3).toArray⟩ : ByteArray).toList == s.toList) = false := hT k hlt
        generalize (⟨(shL k 3).toArray⟩ : ByteArray) = TT at *
        clear hB hT
        go_wp2_with fail
        refine (cS2 _).mono ?_
        rintro e w7 ⟨rfl, hb⟩
        replace hBk := below_tr hBk hb
        clear hb cS2
        go_wp2
        exact ⟨⟨k + 1, by omega, by go_num, hBk⟩, by simp [RowKit.intOf]; omega⟩
      · have e8 : k = 8 := by omega
        subst e8
        clear hB hT
        go_wp2
        go_ret
        exact ⟨rfl, hBk⟩

theorem walk (r : Int) (s : ByteArray) (w : World) (_ : s.size ≤ maxLen) (hF : Flds w) :
    Calls Tryd.prog 4 #[.int .i64 r, .string s] w fun e w' => e = .returned (.bool true) ∧ Below w.heap.size w w' := by
  cases hr : rB r
  · cases hv : pOk s
    · exact walk_bad_no r hr s hv w hF
    · exact walk_bad_yes r hr s hv w hF
  · obtain ⟨n, hn, rfl⟩ := rB_nat hr
    cases hv : pOk s
    · exact walk_ok_no n hn s hv w hF
    · exact walk_ok_yes n hn s hv w hF

theorem met {W : World} (h : laidMet Tryd.prog Rows.rightTextsRow.laid W) : Flds W := by
  have h1 := pair_of_reads (g := 0) (by kernel_rfl) (by kernel_rfl) (Lib.laidMet.reads h (n := "portreeve/desc.outField") (d := Rows.laid_portreeve_desc_outField) (by simp [Rows.rightTextsRow]))
  exact ⟨h1.1, h1.2, trivial, trivial⟩

theorem own : ownKnob Tryd.prog.godebug = none := by kernel_rfl
theorem laidOut : laidOutB Tryd.prog = true := by kernel_rfl

set_option linter.unusedVariables false in
set_option maxRecDepth 100000 in
theorem contract (H : Type) (enc : TypeId × Value → H) (W : World) (base : Nat) (args : Array Value) (ds gs : List (DataW H)) (before : List MemPlace)
    (hval0 : ∀ (j : Nat) t v, Tryd.f4.params[j]? = some t → args[j]? = some v → Value.okWide Tryd.prog W .any base t v)
    (hW : DataW.Whole enc Tryd.prog Tryd.f4.params.toList Rows.rightTextsSpec.vars false W args.toList ds gs before) (hL0 : laidMetH Tryd.prog Rows.rightTextsRow.laid W) :
    Calls Tryd.prog 4 args W fun e W' => ∃ v, e = .returned v ∧ Rows.rightTextsSpec.post enc Tryd.prog Tryd.f4 false true false false W args v W' := by
  have hL := hL0
  rw [MakeChecks.laidMetH_plain _ _ _ (by kernel_rfl)] at hL
  have hval := hval0
  have hW' := hW
  obtain ⟨p, q, hA0, hV, rfl, hfz, hnd⟩ := hW
  have hA : DataW.TrodAll enc Tryd.prog W 0 (fun _ => true) true Tryd.f4.params.toList args.toList ds p := hA0
  rw [Tryd.params4] at hA hval
  obtain ⟨v0, vs0, d0, ds0, p0, q0, hargs, rfl, rfl, h0, r0⟩ := trodAll_cons hA
  obtain ⟨v1, vs1, d1, ds1, p1, q1, rfl, rfl, rfl, h1, r1⟩ := trodAll_cons r0
  obtain ⟨rfl, rfl, rfl⟩ := trodAll_nil r1
  obtain rfl : args = #[v0, v1] := by cases args; simp_all
  obtain ⟨rfl, rfl⟩ := trodVars_none hV
  have k0 := h0
  have lt0 : ∀ x ∈ p0, x.block < W.heap.size := by obtain ⟨m, hm⟩ := k0; exact DataW.trod_lt m _ _ _ hm
  have k1 := h1
  have lt1 : ∀ x ∈ p1, x.block < W.heap.size := by obtain ⟨m, hm⟩ := k1; exact DataW.trod_lt m _ _ _ hm
  obtain ⟨a0, rfl, _, _, w0⟩ := open_int Tryd.underlying3 (hval 0 3 v0 rfl rfl) h0
  obtain ⟨s1, rfl, e1, _, w1⟩ := open_string Tryd.underlying9 (hval 1 9 v1 rfl rfl) h1
  subst e1
  clear hA0 hval0
  refine (walk a0 s1 W w1 (met hL)).mono fun e W' ⟨he, bel⟩ => ?_
  subst he
  exact ⟨_, rfl, _, _, _, [], _, [], hW', trodAll_mk1 (shut_bool Tryd.underlying4 _), (trodAll_cons_mk (Below.trod laidOut (by kernel_rfl) (of_decide_eq_true (by kernel_rfl)) k0 bel lt0) (trodAll_cons_mk (Below.trod laidOut (by kernel_rfl) (of_decide_eq_true (by kernel_rfl)) k1 bel lt1) trodAll_mk0)), rfl, bel.frame _, fun h => by cases h⟩

theorem laid_met (os : Os) : laidMet Tryd.prog Rows.rightTextsRow.laid ((World.laidAll Tryd.prog os Rows.rightTextsRow.laid).forCall (fun _ _ => 0) ⟨#[], #[.int .i64 0, .string ⟨#[]⟩], []⟩).memory :=
  laidMet_laidAll _ (by kernel_rfl) (by kernel_rfl)
theorem reads (os : Os) {H : Type} (enc : TypeId × Value → H) : ∃ places, DataW.whole enc Tryd.prog ((World.laidAll Tryd.prog os Rows.rightTextsRow.laid).forCall (fun _ _ => 0) ⟨#[], #[.int .i64 0, .string ⟨#[]⟩], []⟩).memory Tryd.f4.params.toList Rows.rightTextsSpec.vars false (#[.int .i64 0, .string ⟨#[]⟩] : Array Value).toList 8 = some ([.lit (.int .i64 0), .lit (.string [])], [], places) :=
  ⟨[], by kernel_rfl⟩

set_option maxRecDepth 100000 in
theorem lifted (os : Os) (started : os.Started) (H : Type) (enc : TypeId × Value → H) (F : Stop.Interp) :
    ReturnsInHanded {} Tryd.checked os 4 .any ((OpenSpec.ofChange Rows.rightTextsSpec).preRow enc Tryd.prog Tryd.f4 Rows.rightTextsRow.domain false Rows.rightTextsRow.laid) (((OpenSpec.ofChange Rows.rightTextsSpec).at F).post enc Tryd.prog Tryd.f4 false true false false) := by
  obtain ⟨places, hx⟩ := reads os enc
  refine returnsInHanded_of_row (C := Tryd.checked) (s := (OpenSpec.ofChange Rows.rightTextsSpec)) own started (by kernel_rfl) Tryd.func4
    (witness_row_at (enc := enc) (C := Tryd.checked) false (World.laidAll Tryd.prog os Rows.rightTextsRow.laid) #[.int .i64 0, .string ⟨#[]⟩] (World.laidAll_os _ _ _) (by kernel_rfl) (by kernel_rfl) (by kernel_rfl)
      (OpenSpec.preRow_of_cond 8 hx (by kernel_rfl) (fun k hk => by cases hk) (by kernel_rfl) (laid_met os))) ?_
  intro W base args ds gs before hval hW _ _ _ hL _ _
  exact contract H enc W base args ds gs before hval hW hL

theorem said : Rows.RightTextsSaid :=
  OpenClaim.holds_of_cond 4 Tryd.f4 rfl rfl rfl rfl rfl rfl rfl ⟨rfl, rfl, rfl, rfl, rfl⟩ rfl rfl rfl rfl rfl (by kernel_rfl) Tryd.func4 (by kernel_rfl)
    (of_decide_eq_true (by kernel_rfl)) (by unfold Func.isWrapper; first | (rw [if_pos (by decide +kernel)]; kernel_rfl) | (rw [if_neg (by decide +kernel)]; exact ⟨rfl, rfl⟩))
    (fun os started H enc _ F => by rw [OpenClaim.pre_eq_preRow]; exact lifted os started H enc F)

theorem plain (f : FuncId) (fn : Func) (hf : Tryd.pinned.checked.prog.funcNamed "portreeve/portreevelaw10.RightTexts" = some f) (hfn : Tryd.pinned.checked.prog.funcs[f]? = some fn) :
    false = Tryd.pinned.checked.prog.looks [] ∧ ∀ (j : Nat) t, fn.params[j]? = some t → Tryd.pinned.checked.prog.wantsStandIn t = false := by
  obtain rfl : f = 4 := Option.some.inj ((show Tryd.prog.funcNamed "portreeve/portreevelaw10.RightTexts" = some 4 by kernel_rfl).symm.trans hf) |>.symm
  obtain rfl : fn = Tryd.f4 := (Option.some.inj (Tryd.func4.symm.trans hfn)).symm
  refine ⟨by kernel_rfl, fun j t ht => ?_⟩
  rw [Tryd.params4] at ht
  have hm : t ∈ [3, 9] := by simpa using Array.mem_of_getElem? ht
  have hall : ([3, 9].all fun u => !Tryd.prog.wantsStandIn u) = true := by kernel_rfl
  exact (show Tryd.prog.wantsStandIn t = false by simpa using List.all_eq_true.1 hall t hm)

theorem card : Rows.RightTextsCardSaid :=
  Claim7.holds_tied_plain_at .later [] _ _ _ _ said (fun _ h => by cases h) (by kernel_rfl) (fun _ h => by cases h) rightTexts_row_tie rfl ⟨rfl, rfl⟩ (by kernel_rfl) rfl plain (by kernel_rfl)

end Go.Proofs.YtoblkicbfkgjnaaDoor.rightTexts
