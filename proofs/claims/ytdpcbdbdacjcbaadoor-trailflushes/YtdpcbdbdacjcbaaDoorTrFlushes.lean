/- TrailFlushes (P8.3): for every list of marks, ASID and address the law returns true: behind a flush of an address no mark leads it, and each that doesn't is still there, in its order. No condition beyond the row's own. -/
import Derived.Test.YtdpcbdbdacjcbaaDoorTrFlM
import Derived.Test.YtdpcbdbdacjcbaaDoorTrFrame
namespace Go.Proofs.YtdpcbdbdacjcbaaDoor.TR.trailFlushes
open Go.ChangeShapes Go.WideShapes Go.ChangeAt Go.RowKit Go.Lib

set_option maxHeartbeats 8000000 in
set_option maxRecDepth 100000 in
theorem walk_long (ad : Option Addr) (cap n : Nat) (i : Int) (x : Nat) (w : World) (hn2 : 60 < n) (hF : Flds w) :
    Calls Tryd.prog 5 #[.slice ad n cap, .int .i64 i, .int .u64 x] w fun r w' => r = .returned (.bool true) ∧ Below w.heap.size w w' := by
  have hnI : (60 : Int) < (n : Int) := by omega
  clear hn2
  go_enter Tryd.func5, Tryd.ntmps5
  go_wp2_with fail
  refine (tanchor_any _ hF).mono ?_
  rintro e w1 ⟨rfl, hb1⟩
  go_wp2
  go_ret
  exact ⟨rfl, hb1⟩

set_option maxHeartbeats 16000000 in
set_option maxRecDepth 1000000 in
theorem walk_short (ad : Option Addr) (cap : Nat) (l : List En) (i : Int) (x : Nat) (w : World) (hn : l.length ≤ 60) (hr : RdA w ad l) (hok : ∀ e ∈ l, e.ok) (hx : x < 18446744073709551616) (hF : Flds w) :
    Calls Tryd.prog 5 #[.slice ad l.length cap, .int .i64 i, .int .u64 x] w fun r w' => r = .returned (.bool true) ∧ Below w.heap.size w w' := by
  have HF := Hid.mk hF
  have HR := Hid.mk hr
  have HN := Hid.mk hn
  have HX := Hid.mk hx
  have hnI : (l.length : Int) ≤ 60 := by omega
  have HOK : Hid (∀ i, i < l.length → (gE l i).ok) := fun i hi => hok _ (by rw [gE_pos l i hi]; exact List.getElem_mem hi)
  have HFS : Hid (∀ i, i < l.length → fillsI l (i + 1) = fillL (fillsI l i) 64 (gE l i)) := fun i hi => fills_succ hi
  have HFN : Hid (∀ i, i ≤ l.length → (fillsI l i).length ≤ 60) := fun i hi => Nat.le_trans (fills_len l i hi) (by omega)
  clear hr hok hn hx
  go_enter Tryd.func5, Tryd.ntmps5
  go_wp2_with fail
  refine (tanchor_any _ hF).mono ?_
  rintro e w1 ⟨rfl, hb1⟩
  clear hF
  have HB1 := Hid.mk hb1
  clear hb1
  go_wp2_with fail
  refine (new_ok 64 (by omega) (by omega) _).mono ?_
  rintro e w2 ⟨rfl, hb2, hB2⟩
  have HL2 : Hid (LBuf w w2 w1.heap.size 64 (fillsI l 0)) := ⟨_, hB2, fun j hj => by rw [hj]; exact HB1.out.size, below_tr HB1.out hb2⟩
  clear hb2 hB2 HB1
  generalize w1.heap.size = t at *
  go_wp2
  go_loopw [10, 36] (fun _ s40 wr => ∃ j : Nat, j ≤ l.length ∧ s40 = .int .i64 (j : Nat) ∧ LBuf w wr t 64 (fillsI l j)) (fun _ s40 _ => l.length - (RowKit.intOf s40).toNat)
  case atStart => exact ⟨0, by omega, rfl, HL2.out⟩
  case round =>
    obtain ⟨j, hj, rfl, hL⟩ := hrel
    have HL := Hid.mk hL
    clear hL HL2
    by_cases hlt : j < l.length
    · have hlt2 : (j : Int) < l.length := by omega
      have HLT := Hid.mk hlt
      have hjb : (j : Int) < 1000 := by omega
      obtain ⟨g, o, rfl, hg, hc⟩ := HR.out j hlt
      have hb := HL.out.bel
      have d0 := cell_later hb (hc 0 _ rfl)
      have d1 := cell_later hb (hc 1 _ rfl)
      have d2 := cell_later hb (hc 2 _ rfl)
      have d3 := cell_later hb (hc 3 _ rfl)
      rw [Nat.add_zero] at d0
      have hcall := fun W (hW : LBuf w W t 64 (fillsI l j)) => fill_l (gE l j) (HOK.out j hlt) hW (by have := HFN.out j hj; omega) HF.out
      have HFj := Hid.mk (HFS.out j hlt)
      rw [← HFj.out] at hcall
      have HCA := Hid.mk hcall
      clear hc hb hj hlt hg hcall HFj
      generalize fillN (gE l j) = FN at *
      generalize (gE l j) = y at *
      obtain ⟨b0, b1, b2, b3⟩ := y
      simp only [En.v] at *
      go_wp2_with fail
      refine (HCA.out _ (HL.out.later (below_new _ _))).mono ?_
      rintro e w' ⟨rfl, hL'⟩
      clear HCA d0 d1 d2 d3
      go_wp2
      go_roundw
      case rel => exact ⟨j + 1, by have := HLT.out; omega, by go_num, hL'⟩
      case measure => have := HLT.out; simp [RowKit.intOf]; omega
    · have hlt2 : ¬ (j : Int) < l.length := by omega
      obtain rfl : j = l.length := by omega
      have hF60 := HFN.out l.length (Nat.le_refl _)
      clear hlt hj HR HOK HFS HFN HN
      generalize hFe : fillsI l l.length = F at *
      clear hFe
      obtain ⟨X, hB3, hXlo, hBel⟩ := HL.out
      have HB3 := Hid.mk hB3
      have HXLO := Hid.mk hXlo
      have HBEL := Hid.mk hBel
      have HFL := Hid.mk hF60
      have hXlt : ∀ i, X i → i < wr.heap.size := by obtain ⟨v, h⟩ := hB3; exact h.lt
      have HXLT := Hid.mk hXlt
      clear hB3 hXlo hBel HL hXlt
      go_wp2_with fail
      refine (list_c HB3.out (by have := HFL.out; omega)).mono ?_
      rintro e w4 ⟨adb, capb, rfl, hrb, hab, hb4⟩
      have HRB := Hid.mk hrb
      have HNB : Hid (notIn X adb) := fun a ha hX => by have := hab a ha; have := HXLT.out _ hX; omega
      have HB4 := Hid.mk (HB3.out.later hb4)
      have HBEL4 := Hid.mk (below_tr HBEL.out hb4)
      have HXL4 : Hid (∀ i, X i → i < w4.heap.size) := fun i hi => Nat.lt_of_lt_of_le (HXLT.out i hi) hb4.size
      have hOKF : ∀ e ∈ F, e.okR := by obtain ⟨v, h⟩ := HB3.out; exact h.ok
      have HOKF : Hid (∀ j, j < F.length → 1 ≤ (gE F j).lv ∧ (gE F j).lv ≤ 3) := fun j hj => right_lv (hOKF _ (gE_mem F j hj)).2
      clear hrb hab hb4 HB3 HBEL HXLT hOKF
      go_wp2_with fail
      refine (flushVa_c HB4.out (by have := HFL.out; omega) i x HX.out).mono ?_
      rintro e w5 ⟨rfl, hB5, ht5⟩
      have HB5 := Hid.mk hB5
      have HRB5 := Hid.mk (HRB.out.turn ht5 HNB.out)
      have HBEL5 := Hid.mk (HBEL4.out.trans (ht5.below HXLO.out HBEL4.out.size))
      have hle := keep_le (fun e => mB e i x) F
      have hz := bst_kept (fun e => mB e i x) F
      have HKG : Hid (∀ j, j < F.length → mB (gE F j) i x = false → kpI (fun e => mB e i x) F j < (keepP (fun e => mB e i x) F).length ∧ (gE (keepP (fun e => mB e i x) F) (kpI (fun e => mB e i x) F j)) = (gE F j)) := fun j h1 h2 => kp_get h1 h2
      have HKY : Hid (∀ j, j < F.length → mB (gE F j) i x = true → kpI (fun e => mB e i x) F (j + 1) = kpI (fun e => mB e i x) F j) := fun j h1 h2 => kp_yes h1 h2
      have HKN : Hid (∀ j, j < F.length → mB (gE F j) i x = false → kpI (fun e => mB e i x) F (j + 1) = kpI (fun e => mB e i x) F j + 1) := fun j h1 h2 => kp_no h1 h2
      have HKA : Hid (kpI (fun e => mB e i x) F F.length = (keepP (fun e => mB e i x) F).length ∧ kpI (fun e => mB e i x) F 0 = 0) := ⟨kp_all _ _, rfl⟩
      have hFd : ∀ W, Buf W X t 64 (keepP (fun e => mB e i x) F) → Calls Tryd.prog 14 #[.pointer (some ⟨t, 0, none⟩), .int .i64 i, .int .u64 x] W fun r w' => r = .returned (.tuple #[.agg #[.int .i64 0, .int .u64 0, .int .i64 0, .int .u64 0], .bool false]) ∧ Below W.heap.size W w' := fun W hW => by
        have := best_c hW (by omega) i x HX.out
        rw [hz] at this; exact this
      have HFD := Hid.mk hFd
      have hF1 : (keepP (fun e => mB e i x) F).length ≤ 60 := by omega
      clear hB5 ht5 HRB HB4 HBEL4 HXL4 hz hFd HNB hle
      generalize keepP (fun e => mB e i x) F = F1 at *
      generalize kpI (fun e => mB e i x) F = kI at *
      go_wp2_with fail
      refine (list_c HB5.out (by omega)).mono ?_
      rintro e w6 ⟨adl, capl, rfl, hrl, hal, hb6⟩
      have HRL := Hid.mk hrl
      have HB6 := Hid.mk (HB5.out.later hb6)
      have HRB6 := Hid.mk (HRB5.out.later hb6)
      have HBEL6 := Hid.mk (below_tr HBEL5.out hb6)
      clear hrl hal hb6 HB5 HRB5 HBEL5
      go_wp2_with fail
      refine (HFD.out _ HB6.out).mono ?_
      rintro e w7 ⟨rfl, hb7⟩
      have hb8 := below_tr hb7 (below_new w7 (.cells #[.int .i64 0, .int .u64 0, .int .i64 0, .int .u64 0] 31))
      have HRL8 := Hid.mk (HRL.out.later hb8)
      have HRB8 := Hid.mk (HRB6.out.later hb8)
      have HBEL8 := Hid.mk (below_tr HBEL6.out hb8)
      clear hb7 hb8 HRL HB6 HRB6 HBEL6 HFD
      have hFI : (F.length : Int) ≤ 60 := by omega
      have hsub : (F.length : Int) - ((F.length : Int) - (F1.length : Int)) = (F1.length : Int) := by omega
      have hne : ((F1.length : Int) != (F.length : Int) - ((F.length : Int) - (F1.length : Int))) = false := by rw [hsub]; simp
      have hF1I : (F1.length : Int) ≤ 60 := by omega
      go_wp2
      generalize w7.alloc (.cells #[.int .i64 0, .int .u64 0, .int .i64 0, .int .u64 0] 31) = w8 at *
      go_loopw [16, 18, 71] (fun s16 _ s71 wq => ∃ j : Nat, j ≤ F.length ∧ s71 = .int .i64 (j : Nat) ∧ s16 = .int .i64 ((kI j : Nat) : Int) ∧ Below w8.heap.size w8 wq) (fun _ _ s71 _ => F.length - (RowKit.intOf s71).toNat)
      case atStart => exact ⟨0, by omega, rfl, by rw [HKA.out.2]; rfl, Below.refl _ _⟩
      case round =>
        obtain ⟨j, hj, rfl, rfl, hb⟩ := hrel
        have HB := Hid.mk hb
        by_cases hlt : j < F.length
        · have hlt2 : (j : Int) < F.length := by omega
          have HLT := Hid.mk hlt
          have hjb : (j : Int) < 1000 := by omega
          obtain ⟨g, o, rfl, hg, hc⟩ := HRB8.out j hlt
          have d0 := cell_later hb (hc 0 _ rfl)
          have d1 := cell_later hb (hc 1 _ rfl)
          have d2 := cell_later hb (hc 2 _ rfl)
          have d3 := cell_later hb (hc 3 _ rfl)
          rw [Nat.add_zero] at d0
          have hlvj := HOKF.out j hlt
          have hcall := fun W => matches_any (gE F j) hlvj.1 hlvj.2 i x HX.out W
          clear hlvj
          cases hpy : mB (gE F j) i x
          · have HKNj := Hid.mk (HKN.out j hlt hpy)
            obtain ⟨hk1, hk2⟩ := HKG.out j hlt hpy
            obtain ⟨gl, ol, rfl, hgl, hcl⟩ := HRL8.out (kI j) hk1
            rw [hk2] at hcl
            have HCL := Hid.mk hcl
            have hkI : ((kI j : Nat) : Int) < (F1.length : Int) := by omega
            have dk : decide (F1.length ≤ kI j) = false := decide_eq_false (by omega)
            have hkb : ((kI j : Nat) : Int) < 1000 := by omega
            rw [hpy] at hcall
            clear hpy hc hb hj hlt hg hcl hgl hk2 hk1
            generalize (gE F j) = y at *
            obtain ⟨b0, b1, b2, b3⟩ := y
            simp only [En.v, En.cs] at *
            go_wp2_with fail
            refine (hcall _).mono ?_
            rintro e w' ⟨rfl, hb'⟩
            have hB2 := Hid.mk (below_tr (below_new wr (.cells #[.int .i64 b0, .int .u64 b1, .int .i64 b2, .int .u64 b3] 31)) hb')
            have hK7 := block_later hb' (heap_alloc_new wr (.cells #[.int .i64 b0, .int .u64 b1, .int .i64 b2, .int .u64 b3] 31))
            obtain ⟨q0, q1, q2, q3⟩ := cells4 hK7
            clear hb' hK7 hcall d0 d1 d2 d3
            have hbb := below_tr HB.out hB2.out
            have d0 := cell_later hbb (HCL.out 0 _ rfl)
            have d1 := cell_later hbb (HCL.out 1 _ rfl)
            have d2 := cell_later hbb (HCL.out 2 _ rfl)
            have d3 := cell_later hbb (HCL.out 3 _ rfl)
            rw [Nat.add_zero] at d0
            clear HCL hbb
            go_wp2
            go_quiet (fail)
            go_wp2
            go_roundw
            case rel => exact ⟨j + 1, by have := HLT.out; omega, by go_num, by rw [HKNj.out]; go_num, below_dN (below_tr HB.out hB2.out) _⟩
            case measure => have := HLT.out; simp [RowKit.intOf]; omega
          · have HKYj := Hid.mk (HKY.out j hlt hpy)
            rw [hpy] at hcall
            clear hpy hc hb hj hlt hg
            generalize (gE F j) = y at *
            obtain ⟨b0, b1, b2, b3⟩ := y
            simp only [En.v] at *
            go_wp2_with fail
            refine (hcall _).mono ?_
            rintro e w' ⟨rfl, hb'⟩
            have hB2 := Hid.mk (below_tr (below_new _ _) hb')
            clear hb' hcall d0 d1 d2 d3
            go_wp2
            go_roundw
            case rel => exact ⟨j + 1, by have := HLT.out; omega, by go_num, by rw [HKYj.out], below_tr HB.out hB2.out⟩
            case measure => have := HLT.out; simp [RowKit.intOf]; omega
        · have hlt2 : ¬ (j : Int) < F.length := by omega
          obtain rfl : j = F.length := by omega
          rw [HKA.out.1]
          clear hlt hj hb HKG HKY HKN HKA HRL8 HRB8
          go_wp2
          go_ret
          exact ⟨rfl, below_tr HBEL8.out HB.out⟩

theorem walk (ad : Option Addr) (cap : Nat) (l : List En) (i : Int) (x : Nat) (w : World) (_ : l.length ≤ maxLen) (hr : RdA w ad l) (hok : ∀ e ∈ l, e.ok) (hx : x < 18446744073709551616) (hF : Flds w) :
    Calls Tryd.prog 5 #[.slice ad l.length cap, .int .i64 i, .int .u64 x] w fun r w' => r = .returned (.bool true) ∧ Below w.heap.size w w' := by
  by_cases h : l.length ≤ 60
  · exact walk_short ad cap l i x w h hr hok hx hF
  · exact walk_long ad cap l.length i x w (by omega) hF

theorem met {W : World} (h : laidMet Tryd.prog Rows.trailFlushesRow.laid W) : Flds W := by
  have h1 := pair_of_reads (g := 1) (by kernel_rfl) (by kernel_rfl) (Lib.laidMet.reads h (n := "portreeve/desc.outField") (d := Rows.laid_portreeve_desc_outField) (by simp [Rows.trailFlushesRow]))
  have h2 := pair_of_reads (g := 2) (by kernel_rfl) (by kernel_rfl) (Lib.laidMet.reads h (n := "portreeve/desc.attrField") (d := Rows.laid_portreeve_desc_attrField) (by simp [Rows.trailFlushesRow]))
  have h3 := pair_of_reads (g := 0) (by kernel_rfl) (by kernel_rfl) (Lib.laidMet.reads h (n := "portreeve/trail.tableField") (d := Rows.laid_portreeve_trail_tableField) (by simp [Rows.trailFlushesRow]))
  exact ⟨⟨h1.1, h1.2, h2.1, h2.2⟩, h3.1, h3.2⟩

theorem own : ownKnob Tryd.prog.godebug = none := by kernel_rfl
theorem laidOut : laidOutB Tryd.prog = true := by kernel_rfl

set_option linter.unusedVariables false in
set_option maxRecDepth 100000 in
theorem contract (H : Type) (enc : TypeId × Value → H) (W : World) (base : Nat) (args : Array Value) (ds gs : List (DataW H)) (before : List MemPlace)
    (hval0 : ∀ (j : Nat) t v, Tryd.f5.params[j]? = some t → args[j]? = some v → Value.okWide Tryd.prog W .any base t v)
    (hW : DataW.Whole enc Tryd.prog Tryd.f5.params.toList Rows.trailFlushesSpec.vars false W args.toList ds gs before) (hL0 : laidMetH Tryd.prog Rows.trailFlushesRow.laid W) :
    Calls Tryd.prog 5 args W fun e W' => ∃ v, e = .returned v ∧ Rows.trailFlushesSpec.post enc Tryd.prog Tryd.f5 false true false false W args v W' := by
  have hL := hL0
  rw [MakeChecks.laidMetH_plain _ _ _ (by kernel_rfl)] at hL
  have hval := hval0
  have hW' := hW
  obtain ⟨p, q, hA0, hV, rfl, hfz, hnd⟩ := hW
  have hA : DataW.TrodAll enc Tryd.prog W 0 (fun _ => true) true Tryd.f5.params.toList args.toList ds p := hA0
  rw [Tryd.params5] at hA hval
  obtain ⟨v0, vs0, d0, ds0, p0, q0, hargs, rfl, rfl, h0, r0⟩ := trodAll_cons hA
  obtain ⟨v1, vs1, d1, ds1, p1, q1, rfl, rfl, rfl, h1, r1⟩ := trodAll_cons r0
  obtain ⟨v2, vs2, d2, ds2, p2, q2, rfl, rfl, rfl, h2, r2⟩ := trodAll_cons r1
  obtain ⟨rfl, rfl, rfl⟩ := trodAll_nil r2
  obtain rfl : args = #[v0, v1, v2] := by cases args; simp_all
  obtain ⟨rfl, rfl⟩ := trodVars_none hV
  have k0 := h0
  have lt0 : ∀ x ∈ p0, x.block < W.heap.size := by obtain ⟨m, hm⟩ := k0; exact DataW.trod_lt m _ _ _ hm
  have k1 := h1
  have lt1 : ∀ x ∈ p1, x.block < W.heap.size := by obtain ⟨m, hm⟩ := k1; exact DataW.trod_lt m _ _ _ hm
  have k2 := h2
  have lt2 : ∀ x ∈ p2, x.block < W.heap.size := by obtain ⟨m, hm⟩ := k2; exact DataW.trod_lt m _ _ _ hm
  obtain ⟨ad0, cap0, l0, rfl, mx0, rd0, ok0⟩ := open_entries (hval 0 37 v0 rfl rfl) h0
  obtain ⟨a1, rfl, _, _, w1⟩ := open_int Tryd.underlying3 (hval 1 3 v1 rfl rfl) h1
  obtain ⟨a2, rfl, _, _, w2⟩ := open_int Tryd.underlying29 (hval 2 29 v2 rfl rfl) h2
  obtain ⟨x2, rfl⟩ := Int.eq_ofNat_of_zero_le (bounds_u64 w2).1
  have b2 : x2 < 18446744073709551616 := by have := (bounds_u64 w2).2; omega
  clear hA0 hval0
  refine (walk ad0 cap0 l0 a1 x2 W mx0 rd0 ok0 b2 (met hL)).mono fun e W' ⟨he, bel⟩ => ?_
  subst he
  exact ⟨_, rfl, _, _, _, [], _, [], hW', trodAll_mk1 (shut_bool Tryd.underlying4 _), (trodAll_cons_mk (Below.trod laidOut (by kernel_rfl) (of_decide_eq_true (by kernel_rfl)) k0 bel lt0) (trodAll_cons_mk (Below.trod laidOut (by kernel_rfl) (of_decide_eq_true (by kernel_rfl)) k1 bel lt1) (trodAll_cons_mk (Below.trod laidOut (by kernel_rfl) (of_decide_eq_true (by kernel_rfl)) k2 bel lt2) trodAll_mk0))), rfl, bel.frame _, fun h => by cases h⟩

theorem laid_met (os : Os) : laidMet Tryd.prog Rows.trailFlushesRow.laid ((World.laidAll Tryd.prog os Rows.trailFlushesRow.laid).forCall (fun _ _ => 0) ⟨#[], #[.slice none 0 0, .int .i64 0, .int .u64 0], []⟩).memory :=
  laidMet_laidAll _ (by kernel_rfl) (by kernel_rfl)
theorem reads (os : Os) {H : Type} (enc : TypeId × Value → H) : ∃ places, DataW.whole enc Tryd.prog ((World.laidAll Tryd.prog os Rows.trailFlushesRow.laid).forCall (fun _ _ => 0) ⟨#[], #[.slice none 0 0, .int .i64 0, .int .u64 0], []⟩).memory Tryd.f5.params.toList Rows.trailFlushesSpec.vars false (#[.slice none 0 0, .int .i64 0, .int .u64 0] : Array Value).toList 8 = some ([.nil, .lit (.int .i64 0), .lit (.int .u64 0)], [], places) :=
  ⟨[], by kernel_rfl⟩

set_option maxRecDepth 100000 in
theorem lifted (os : Os) (started : os.Started) (H : Type) (enc : TypeId × Value → H) (F : Stop.Interp) :
    ReturnsInHanded {} Tryd.checked os 5 .any ((OpenSpec.ofChange Rows.trailFlushesSpec).preRow enc Tryd.prog Tryd.f5 Rows.trailFlushesRow.domain false Rows.trailFlushesRow.laid) (((OpenSpec.ofChange Rows.trailFlushesSpec).at F).post enc Tryd.prog Tryd.f5 false true false false) := by
  obtain ⟨places, hx⟩ := reads os enc
  refine returnsInHanded_of_row (C := Tryd.checked) (s := (OpenSpec.ofChange Rows.trailFlushesSpec)) own started (by kernel_rfl) Tryd.func5
    (witness_row_at (enc := enc) (C := Tryd.checked) false (World.laidAll Tryd.prog os Rows.trailFlushesRow.laid) #[.slice none 0 0, .int .i64 0, .int .u64 0] (World.laidAll_os _ _ _) (by kernel_rfl) (by kernel_rfl) (by kernel_rfl)
      (OpenSpec.preRow_of_cond 8 hx (by kernel_rfl) (fun k hk => by cases hk) (by kernel_rfl) (laid_met os))) ?_
  intro W base args ds gs before hval hW _ _ _ hL _ _
  exact contract H enc W base args ds gs before hval hW hL

theorem said : Rows.TrailFlushesSaid :=
  OpenClaim.holds_of_cond 5 Tryd.f5 rfl rfl rfl rfl rfl rfl rfl ⟨rfl, rfl, rfl, rfl, rfl⟩ rfl rfl rfl rfl rfl (by kernel_rfl) Tryd.func5 (by kernel_rfl)
    (of_decide_eq_true (by kernel_rfl)) (by unfold Func.isWrapper; first | (rw [if_pos (by decide +kernel)]; kernel_rfl) | (rw [if_neg (by decide +kernel)]; exact ⟨rfl, rfl⟩))
    (fun os started H enc _ F => by rw [OpenClaim.pre_eq_preRow]; exact lifted os started H enc F)

theorem plain (f : FuncId) (fn : Func) (hf : Tryd.pinned.checked.prog.funcNamed "portreeve/portreevelaw08.TrailFlushes" = some f) (hfn : Tryd.pinned.checked.prog.funcs[f]? = some fn) :
    false = Tryd.pinned.checked.prog.looks [] ∧ ∀ (j : Nat) t, fn.params[j]? = some t → Tryd.pinned.checked.prog.wantsStandIn t = false := by
  obtain rfl : f = 5 := Option.some.inj ((show Tryd.prog.funcNamed "portreeve/portreevelaw08.TrailFlushes" = some 5 by kernel_rfl).symm.trans hf) |>.symm
  obtain rfl : fn = Tryd.f5 := (Option.some.inj (Tryd.func5.symm.trans hfn)).symm
  refine ⟨by kernel_rfl, fun j t ht => ?_⟩
  rw [Tryd.params5] at ht
  have hm : t ∈ [37, 3, 29] := by simpa using Array.mem_of_getElem? ht
  have hall : ([37, 3, 29].all fun u => !Tryd.prog.wantsStandIn u) = true := by kernel_rfl
  exact (show Tryd.prog.wantsStandIn t = false by simpa using List.all_eq_true.1 hall t hm)

theorem card : Rows.TrailFlushesCardSaid :=
  Claim7.holds_tied_plain_at .later [] _ _ _ _ said (fun _ h => by cases h) (by kernel_rfl) (fun _ h => by cases h) trailFlushes_row_tie rfl ⟨rfl, rfl⟩ (by kernel_rfl) rfl plain (by kernel_rfl)

end Go.Proofs.YtdpcbdbdacjcbaaDoor.TR.trailFlushes
