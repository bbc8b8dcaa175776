/- WalkRoots (P6.1): for every list of words, root and address the law returns true: a walk from a root is that from the level 0; it goes on as the walk from any table that it comes through. No condition beyond the row's own. -/
import Derived.Test.YtjhplcpaaghleaaDoorWalkAnc
import Derived.Test.YtjhplcpaaghleaaDoorRootsM
import Derived.Test.YtjhplcpaaghleaaDoorStepOpen
import Derived.Test.YtjhplcpaaghleaaDoorWalkFrame
namespace Go.Proofs.YtjhplcpaaghleaaDoor.walkRoots
open Go.ChangeShapes Go.WideShapes Go.ChangeAt Go.RowKit Go.Lib Go.Maps

theorem right20 : rightS 1048576 := ⟨by decide, by decide, by decide⟩

set_option maxHeartbeats 1000000 in
theorem walk_long (ad : Option Addr) (n cap root va : Nat) (w : World) (hn : 60 < n) (hF : Flds w) :
    Calls Tryd.prog 4 #[.slice ad n cap, .int .u64 root, .int .u64 va] w fun e w' => e = .returned (.bool true) ∧ Below w.heap.size w w' := by
  have hn2 : (60 : Int) < n := by omega
  have hL := fun w1 => laid_bad 1048576 n cap ad (by omega) (Or.inr ⟨right20, hn⟩) w1
  go_enter Tryd.func4, Tryd.ntmps4
  go_wp2_with fail
  refine (wanchor_any _ hF).mono ?_
  rintro e w1 ⟨rfl, hb1⟩
  go_wp2_with fail
  refine (hL _).mono ?_
  rintro e w2 ⟨rfl, hb2⟩
  go_wp2
  go_ret
  exact ⟨by first | rfl | (simp; omega), below_tr hb1 (below_tr hb2 (below_new _ _))⟩

set_option maxHeartbeats 8000000 in
theorem walk_short (ad : Option Addr) (n cap : Nat) (A V : Nat → Nat) (root va : Nat) (w : World) (hn : n ≤ 60) (hst : StepsAt w ad n A V) (hr : root < 18446744073709551616) (hF : Flds w) :
    Calls Tryd.prog 4 #[.slice ad n cap, .int .u64 root, .int .u64 va] w fun e w' => e = .returned (.bool true) ∧ Below w.heap.size w w' := by
  have HF := Hid.mk hF
  have HST := Hid.mk hst
  clear hst
  go_enter Tryd.func4, Tryd.ntmps4
  go_wp2_with fail
  refine (wanchor_any _ hF).mono ?_
  rintro e w1 ⟨rfl, hb1⟩
  clear hF
  go_wp2_with fail
  refine (laid_ok 1048576 n cap ad A V right20 hn _ (HST.out.later hb1)).mono ?_
  rintro e w2 ⟨a, v, rfl, hL⟩
  have HB2 := Hid.mk (below_tr hb1 hL.bel)
  obtain ⟨X, hM, -⟩ := hL.mem
  obtain ⟨L, hp, -⟩ := hL.lst
  obtain ⟨p, c, rfl, -⟩ := hp.form
  have HM := Hid.mk hM
  clear hL hp hM hb1 HST
  generalize L.length = N at *
  generalize fW 1048576 A V n = f at *
  clear L
  have hfl : ∀ x, f x < 18446744073709551616 := by obtain ⟨_, _, h⟩ := HM.out; exact h.fl
  have HWd : Hid (∀ i, i < (wk0 1048576 f 0 root va).1.length → (wk0 1048576 f 0 root va).1[i]!.2 < 18446744073709551616) := fun i h1 => by rw [wk0_words h1]; exact hfl _
  have hL4 := wk0_len 1048576 f 0 root va
  have CW := fun w1 (h1 : MemAt w1 X a 1048576 61 f) (h2 : Flds w1) => walk_any root va hr h1 h2
  have CF := fun w1 (h1 : MemAt w1 X a 1048576 61 f) (h2 : Flds w1) => from_any 0 root va hr h1 h2
  have CT := fun w1 (h1 : MemAt w1 X a 1048576 61 f) (h2 : Flds w1) => trace_any 0 root va hr h1 h2
  have CG : ∀ i : Nat, i < (wk0 1048576 f 0 root va).1.length → goodD i (wk0 1048576 f 0 root va).1[i]!.2 = true → rdK i (wk0 1048576 f 0 root va).1[i]!.2 = 1 → ∀ w1, MemAt w1 X a 1048576 61 f → Flds w1 →
      Calls Tryd.prog 10 #[.pointer (some ⟨a, 0, none⟩), .int .i64 ((i : Int) + 1), .int .u64 (rdO (wk0 1048576 f 0 root va).1[i]!.2 : Nat), .int .u64 va] w1 fun e w' => e = .returned (.tuple #[.agg (leafL (wk0 1048576 f 0 root va).2).toArray, .agg (faultL (wk0 1048576 f 0 root va).2).toArray]) ∧ Below w1.heap.size w1 w' := fun i h1 h2 h3 w1 h4 h5 => by
    have := from_any ((i : Int) + 1) (rdO (wk0 1048576 f 0 root va).1[i]!.2) va (rdO_lt _) h4 h5
    rw [roots_tail h1 h2 h3] at this
    exact this
  generalize wk0 1048576 f 0 root va = R at *
  obtain ⟨L, r⟩ := R
  simp only at *
  obtain ⟨ll, K, O, bU, bR, bX, bS, at1, hlf⟩ := leaf_form r
  obtain ⟨fk, fl, hft⟩ := fault_form r
  rw [hlf, hft] at CW CF CG
  clear hlf hft hfl
  have HCW := Hid.mk CW
  have HCF := Hid.mk CF
  have HCT := Hid.mk CT
  have HCG := Hid.mk CG
  clear CW CF CT CG
  go_wp2_with fail
  refine (HCW.out _ (HM.out.below (below_new _ _)) (HF.out.later (below_tr HB2.out (below_new _ _)))).mono ?_
  rintro e w3 ⟨rfl, hb3⟩
  have HB3 := Hid.mk (below_tr HB2.out (below_tr (below_new _ _) (below_tr hb3 (below2 w3 (.cells #[.int .i64 ll, .int .i64 K, .int .u64 (O : Nat), .bool bU, .bool bR, .bool bX, .bool bS, .int .i64 at1] 35) (.cells #[.int .i64 fk, .int .i64 fl] 37)))))
  have HM3 := Hid.mk (HM.out.below (below_tr (below_new _ _) (below_tr hb3 (below2 w3 (.cells #[.int .i64 ll, .int .i64 K, .int .u64 (O : Nat), .bool bU, .bool bR, .bool bX, .bool bS, .int .i64 at1] 35) (.cells #[.int .i64 fk, .int .i64 fl] 37)))))
  have K10 := Hid.mk (heap_alloc2_old w3 (.cells #[.int .i64 ll, .int .i64 K, .int .u64 (O : Nat), .bool bU, .bool bR, .bool bX, .bool bS, .int .i64 at1] 35) (.cells #[.int .i64 fk, .int .i64 fl] 37))
  have K11 := Hid.mk (heap_alloc2_new w3 (.cells #[.int .i64 ll, .int .i64 K, .int .u64 (O : Nat), .bool bU, .bool bR, .bool bX, .bool bS, .int .i64 at1] 35) (.cells #[.int .i64 fk, .int .i64 fl] 37))
  clear hb3 HB2 HM HCW
  go_upto_region 7 with fail
  generalize (w3.alloc (.cells #[.int .i64 ll, .int .i64 K, .int .u64 (O : Nat), .bool bU, .bool bR, .bool bX, .bool bS, .int .i64 at1] 35)).alloc (.cells #[.int .i64 fk, .int .i64 fl] 37) = w4 at *
  go_wp2_with fail
  refine (HCF.out _ HM3.out (HF.out.later HB3.out)).mono ?_
  rintro e w5 ⟨rfl, hb5⟩
  have HB5 := Hid.mk (below_tr HB3.out (below_tr hb5 (below2 w5 (.cells #[.int .i64 ll, .int .i64 K, .int .u64 (O : Nat), .bool bU, .bool bR, .bool bX, .bool bS, .int .i64 at1] 35) (.cells #[.int .i64 fk, .int .i64 fl] 37))))
  have HM5 := Hid.mk (HM3.out.below (below_tr hb5 (below2 w5 (.cells #[.int .i64 ll, .int .i64 K, .int .u64 (O : Nat), .bool bU, .bool bR, .bool bX, .bool bS, .int .i64 at1] 35) (.cells #[.int .i64 fk, .int .i64 fl] 37))))
  have J10 := Hid.mk (block_later (below_tr hb5 (below2 w5 (.cells #[.int .i64 ll, .int .i64 K, .int .u64 (O : Nat), .bool bU, .bool bR, .bool bX, .bool bS, .int .i64 at1] 35) (.cells #[.int .i64 fk, .int .i64 fl] 37))) K10.out)
  have J11 := Hid.mk (block_later (below_tr hb5 (below2 w5 (.cells #[.int .i64 ll, .int .i64 K, .int .u64 (O : Nat), .bool bU, .bool bR, .bool bX, .bool bS, .int .i64 at1] 35) (.cells #[.int .i64 fk, .int .i64 fl] 37))) K11.out)
  have J12 := Hid.mk (heap_alloc2_old w5 (.cells #[.int .i64 ll, .int .i64 K, .int .u64 (O : Nat), .bool bU, .bool bR, .bool bX, .bool bS, .int .i64 at1] 35) (.cells #[.int .i64 fk, .int .i64 fl] 37))
  have J13 := Hid.mk (heap_alloc2_new w5 (.cells #[.int .i64 ll, .int .i64 K, .int .u64 (O : Nat), .bool bU, .bool bR, .bool bX, .bool bS, .int .i64 at1] 35) (.cells #[.int .i64 fk, .int .i64 fl] 37))
  clear hb5 HB3 HM3 K10 K11 HCF
  go_upto_region 8 with fail
  generalize (w5.alloc (.cells #[.int .i64 ll, .int .i64 K, .int .u64 (O : Nat), .bool bU, .bool bR, .bool bX, .bool bS, .int .i64 at1] 35)).alloc (.cells #[.int .i64 fk, .int .i64 fl] 37) = w6 at *
  obtain ⟨⟨a0, a1, a2, a3, a4, a5, a6, a7⟩, af⟩ := cells8 J10.out
  obtain ⟨b0, b1, bf0, bf1⟩ := row2_facts J11.out
  obtain ⟨⟨c0, c1, c2, c3, c4, c5, c6, c7⟩, cf⟩ := cells8 J12.out
  obtain ⟨d0, d1, df0, df1⟩ := row2_facts J13.out
  clear af bf0 bf1 cf df0 df1 J12 J13
  go_wp2_with fail
  refine (HCT.out _ HM5.out (HF.out.later HB5.out)).mono ?_
  rintro e wt ⟨vt, rfl, hpt, hbt⟩
  obtain ⟨pt, ct, rfl, hct⟩ := hpt.form
  have HBT := Hid.mk (below_tr HB5.out hbt)
  have HMT := Hid.mk (HM5.out.below hbt)
  have I10 := Hid.mk (block_later hbt J10.out)
  have I11 := Hid.mk (block_later hbt J11.out)
  have HCT2 := Hid.mk hct
  clear hbt hpt HB5 HM5 J10 J11 HCT a0 a1 a2 a3 a4 a5 a6 a7 b0 b1 c0 c1 c2 c3 c4 c5 c6 c7 d0 d1 hct
  generalize L.length = NN at *
  go_wp2
  go_loopw [60] (fun s60 wr => ∃ i : Nat, i ≤ NN ∧ s60 = .int .i64 (i : Nat) ∧ Below wt.heap.size wt wr) (fun s60 _ => NN - (RowKit.intOf s60).toNat)
  case atStart => exact ⟨0, by omega, rfl, Below.refl _ _⟩
  case round =>
    obtain ⟨i, hi, rfl, hbr⟩ := hrel
    have HBR := Hid.mk hbr
    clear hbr
    by_cases hlt : i < NN
    · have hlt2 : (i : Int) < NN := by omega
      obtain ⟨g, rfl, hg, q1, q2⟩ := HCT2.out i hlt
      have d1 := cell_later HBR.out q1
      have d2 := cell_later HBR.out q2
      have hx := HWd.out i hlt
      have hG := HCG.out i hlt
      generalize L[i]! = q at *
      obtain ⟨at0, x⟩ := q
      simp only at d1 d2 hx hG
      have HG := Hid.mk hG
      clear q1 q2 hG
      have hlv : isLv (i : Int) = true := decide_eq_true (by omega)
      have hblk := below_new wr (.cells #[.int .u64 (at0 : Nat), .int .u64 (x : Nat)] 48)
      have HBR2 := Hid.mk (below_tr HBR.out hblk)
      cases hgd : goodD (i : Int) x
      · have hD := fun w1 h => decode_fail (i : Int) x hlv hx hgd w1 h
        clear hblk
        go_wp2_with fail
        refine (hD _ (HF.out.later (below_tr HBT.out HBR2.out))).mono ?_
        rintro e w7 ⟨rfl, hb7⟩
        clear hD
        have HB7 := Hid.mk (below_tr HBT.out (below_tr HBR2.out (below_tr hb7 (below_new w7 (.cells #[.int .i64 0, .int .u64 0, .bool false, .bool false, .bool false, .bool false, .int .i64 0] 33)))))
        go_wp2
        go_ret
        exact ⟨rfl, HB7.out⟩
      · have hD := fun w1 h => decode_good (i : Int) x hlv hx hgd w1 h
        rw [show rdV (i : Int) x = .agg #[.int .i64 (rdK i x), .int .u64 (rdO x : Nat), .bool (rdU i x), .bool (rdR i x), .bool (rdX i x), .bool (rdS i x), .int .i64 (rdA i x)] from rfl] at hD
        have HG2 := Hid.mk (HG.out hgd)
        clear hblk HG
        go_wp2_with fail
        refine (hD _ (HF.out.later (below_tr HBT.out HBR2.out))).mono ?_
        rintro e w7 ⟨rfl, hb7⟩
        clear hD
        generalize rdU (i : Int) x = eU at *
        generalize rdR (i : Int) x = eR at *
        generalize rdX (i : Int) x = eX at *
        generalize rdS (i : Int) x = eS at *
        generalize rdA (i : Int) x = eA at *
        generalize rdK (i : Int) x = kk at *
        generalize rdO x = oo at *
        have HB7 := Hid.mk (below_tr HBR2.out (below_tr hb7 (below_new w7 (.cells #[.int .i64 kk, .int .u64 (oo : Nat), .bool eU, .bool eR, .bool eX, .bool eS, .int .i64 eA] 33))))
        have K16 := Hid.mk (heap_alloc_new w7 (.cells #[.int .i64 kk, .int .u64 (oo : Nat), .bool eU, .bool eR, .bool eX, .bool eS, .int .i64 eA] 33))
        clear hb7 HBR HBR2 d1 d2
        by_cases hkk : kk = 1
        · subst hkk
          have hC := HG2.out rfl
          have HC := Hid.mk hC
          clear hC HG2
          go_upto_region 14 with fail
          generalize w7.alloc (.cells #[.int .i64 1, .int .u64 (oo : Nat), .bool eU, .bool eR, .bool eX, .bool eS, .int .i64 eA] 33) = w8 at *
          obtain ⟨⟨m0, m1, -⟩, -⟩ := cells7 K16.out
          clear K16
          go_wp2_with fail
          refine (HC.out _ (HMT.out.below HB7.out) (HF.out.later (below_tr HBT.out HB7.out))).mono ?_
          rintro e w9 ⟨rfl, hb9⟩
          have HB9 := Hid.mk (below_tr HB7.out (below_tr hb9 (below2 w9 (.cells #[.int .i64 ll, .int .i64 K, .int .u64 (O : Nat), .bool bU, .bool bR, .bool bX, .bool bS, .int .i64 at1] 35) (.cells #[.int .i64 fk, .int .i64 fl] 37))))
          have J18 := Hid.mk (heap_alloc2_old w9 (.cells #[.int .i64 ll, .int .i64 K, .int .u64 (O : Nat), .bool bU, .bool bR, .bool bX, .bool bS, .int .i64 at1] 35) (.cells #[.int .i64 fk, .int .i64 fl] 37))
          have J19 := Hid.mk (heap_alloc2_new w9 (.cells #[.int .i64 ll, .int .i64 K, .int .u64 (O : Nat), .bool bU, .bool bR, .bool bX, .bool bS, .int .i64 at1] 35) (.cells #[.int .i64 fk, .int .i64 fl] 37))
          clear hb9 HB7 HC m0 m1
          go_upto_region 16 with fail
          generalize (w9.alloc (.cells #[.int .i64 ll, .int .i64 K, .int .u64 (O : Nat), .bool bU, .bool bR, .bool bX, .bool bS, .int .i64 at1] 35)).alloc (.cells #[.int .i64 fk, .int .i64 fl] 37) = w10 at *
          obtain ⟨⟨a0, a1, a2, a3, a4, a5, a6, a7⟩, af⟩ := cells8 (block_later HB9.out I10.out)
          obtain ⟨b0, b1, bf0, bf1⟩ := row2_facts (block_later HB9.out I11.out)
          obtain ⟨⟨c0, c1, c2, c3, c4, c5, c6, c7⟩, cf⟩ := cells8 J18.out
          obtain ⟨d0, d1, df0, df1⟩ := row2_facts J19.out
          clear af bf0 bf1 cf df0 df1 J18 J19
          go_wp2
          exact ⟨⟨i + 1, by omega, by go_num, HB9.out⟩, by simp [RowKit.intOf]; omega⟩
        · go_wp2
          go_ret
          exact ⟨rfl, below_tr HBT.out HB7.out⟩
    · obtain rfl : i = NN := by omega
      go_wp2
      go_ret
      exact ⟨rfl, below_tr HBT.out HBR.out⟩

theorem walk (ad : Option Addr) (n cap : Nat) (A V : Nat → Nat) (root va : Nat) (w : World) (_mx : n ≤ maxLen) (hst : StepsAt w ad n A V) (hr : root < 18446744073709551616) (_hv : va < 18446744073709551616) (hF : Flds w) :
    Calls Tryd.prog 4 #[.slice ad n cap, .int .u64 root, .int .u64 va] w fun e w' => e = .returned (.bool true) ∧ Below w.heap.size w w' := by
  by_cases hn : n ≤ 60
  · exact walk_short ad n cap A V root va w hn hst hr hF
  · exact walk_long ad n cap root va w (by omega) hF

theorem met {W : World} (h : laidMet Tryd.prog Rows.walkRootsRow.laid W) : Flds W := by
  have h1 := pair_of_reads (g := 0) (by kernel_rfl) (by kernel_rfl) (Lib.laidMet.reads h (n := "portreeve/desc.outField") (d := Rows.laid_portreeve_desc_outField) (by simp [Rows.walkRootsRow]))
  have h2 := pair_of_reads (g := 1) (by kernel_rfl) (by kernel_rfl) (Lib.laidMet.reads h (n := "portreeve/desc.attrField") (d := Rows.laid_portreeve_desc_attrField) (by simp [Rows.walkRootsRow]))
  exact ⟨h1.1, h1.2, h2.1, h2.2⟩

theorem own : ownKnob Tryd.prog.godebug = none := by kernel_rfl
theorem laidOut : laidOutB Tryd.prog = true := by kernel_rfl

set_option linter.unusedVariables false in
set_option maxRecDepth 100000 in
theorem contract (H : Type) (enc : TypeId × Value → H) (W : World) (base : Nat) (args : Array Value) (ds gs : List (DataW H)) (before : List MemPlace)
    (hval0 : ∀ (j : Nat) t v, Tryd.f4.params[j]? = some t → args[j]? = some v → Value.okWide Tryd.prog W .any base t v)
    (hW : DataW.Whole enc Tryd.prog Tryd.f4.params.toList Rows.walkRootsSpec.vars false W args.toList ds gs before) (hL0 : laidMetH Tryd.prog Rows.walkRootsRow.laid W) :
    Calls Tryd.prog 4 args W fun e W' => ∃ v, e = .returned v ∧ Rows.walkRootsSpec.post enc Tryd.prog Tryd.f4 false true false false W args v W' := by
  have hL := hL0
  rw [MakeChecks.laidMetH_plain _ _ _ (by kernel_rfl)] at hL
  have hval := hval0
  have hW' := hW
  obtain ⟨p, q, hA0, hV, rfl, hfz, hnd⟩ := hW
  have hA : DataW.TrodAll enc Tryd.prog W 0 (fun _ => true) true Tryd.f4.params.toList args.toList ds p := hA0
  rw [Tryd.params4] at hA hval
  obtain ⟨v0, vs0, d0, ds0, p0, q0, hargs, rfl, rfl, h0, r0⟩ := trodAll_cons hA
  obtain ⟨v1, vs1, d1, ds1, p1, q1, rfl, rfl, rfl, h1, r1⟩ := trodAll_cons r0
  obtain ⟨v2, vs2, d2, ds2, p2, q2, rfl, rfl, rfl, h2, r2⟩ := trodAll_cons r1
  obtain ⟨rfl, rfl, rfl⟩ := trodAll_nil r2
  obtain rfl : args = #[v0, v1, v2] := by cases args; simp_all
  obtain ⟨rfl, rfl⟩ := trodVars_none hV
  have k0 := h0
  have lt0 : ∀ x ∈ p0, x.block < W.heap.size := by obtain ⟨m, hm⟩ := k0; exact DataW.trod_lt m _ _ _ hm
  have k1 := h1
  have lt1 : ∀ x ∈ p1, x.block < W.heap.size := by obtain ⟨m, hm⟩ := k1; exact DataW.trod_lt m _ _ _ hm
  have k2 := h2
  have lt2 : ∀ x ∈ p2, x.block < W.heap.size := by obtain ⟨m, hm⟩ := k2; exact DataW.trod_lt m _ _ _ hm
  obtain ⟨ad0, n0, cap0, A0, V0, rfl, mx0, ho0⟩ := open_steps (hval 0 23 v0 rfl rfl) h0
  obtain ⟨a1, rfl, _, _, w1⟩ := open_int Tryd.underlying22 (hval 1 22 v1 rfl rfl) h1
  obtain ⟨x1, rfl⟩ := Int.eq_ofNat_of_zero_le (bounds_u64 w1).1
  have b1 : x1 < 18446744073709551616 := by have := (bounds_u64 w1).2; omega
  obtain ⟨a2, rfl, _, _, w2⟩ := open_int Tryd.underlying22 (hval 2 22 v2 rfl rfl) h2
  obtain ⟨x2, rfl⟩ := Int.eq_ofNat_of_zero_le (bounds_u64 w2).1
  have b2 : x2 < 18446744073709551616 := by have := (bounds_u64 w2).2; omega
  clear hA0 hval0
  refine (walk ad0 n0 cap0 A0 V0 x1 x2 W mx0 ho0 b1 b2 (met hL)).mono fun e W' ⟨he, bel⟩ => ?_
  subst he
  exact ⟨_, rfl, _, _, _, [], _, [], hW', trodAll_mk1 (shut_bool Tryd.underlying4 _), (trodAll_cons_mk (Below.trod laidOut (by kernel_rfl) (of_decide_eq_true (by kernel_rfl)) k0 bel lt0) (trodAll_cons_mk (Below.trod laidOut (by kernel_rfl) (of_decide_eq_true (by kernel_rfl)) k1 bel lt1) (trodAll_cons_mk (Below.trod laidOut (by kernel_rfl) (of_decide_eq_true (by kernel_rfl)) k2 bel lt2) trodAll_mk0))), rfl, bel.frame _, fun h => by cases h⟩

theorem laid_met (os : Os) : laidMet Tryd.prog Rows.walkRootsRow.laid ((World.laidAll Tryd.prog os Rows.walkRootsRow.laid).forCall (fun _ _ => 0) ⟨#[], #[.slice none 0 0, .int .u64 0, .int .u64 0], []⟩).memory :=
  laidMet_laidAll _ (by kernel_rfl) (by kernel_rfl)
theorem reads (os : Os) {H : Type} (enc : TypeId × Value → H) : ∃ places, DataW.whole enc Tryd.prog ((World.laidAll Tryd.prog os Rows.walkRootsRow.laid).forCall (fun _ _ => 0) ⟨#[], #[.slice none 0 0, .int .u64 0, .int .u64 0], []⟩).memory Tryd.f4.params.toList Rows.walkRootsSpec.vars false (#[.slice none 0 0, .int .u64 0, .int .u64 0] : Array Value).toList 8 = some ([.nil, .lit (.int .u64 0), .lit (.int .u64 0)], [], places) :=
  ⟨[], by kernel_rfl⟩

set_option maxRecDepth 100000 in
theorem lifted (os : Os) (started : os.Started) (H : Type) (enc : TypeId × Value → H) (F : Stop.Interp) :
    ReturnsInHanded {} Tryd.checked os 4 .any ((OpenSpec.ofChange Rows.walkRootsSpec).preRow enc Tryd.prog Tryd.f4 Rows.walkRootsRow.domain false Rows.walkRootsRow.laid) (((OpenSpec.ofChange Rows.walkRootsSpec).at F).post enc Tryd.prog Tryd.f4 false true false false) := by
  obtain ⟨places, hx⟩ := reads os enc
  refine returnsInHanded_of_row (C := Tryd.checked) (s := (OpenSpec.ofChange Rows.walkRootsSpec)) own started (by kernel_rfl) Tryd.func4
    (witness_row_at (enc := enc) (C := Tryd.checked) false (World.laidAll Tryd.prog os Rows.walkRootsRow.laid) #[.slice none 0 0, .int .u64 0, .int .u64 0] (World.laidAll_os _ _ _) (by kernel_rfl) (by kernel_rfl) (by kernel_rfl)
      (OpenSpec.preRow_of_cond 8 hx (by kernel_rfl) (fun k hk => by cases hk) (by kernel_rfl) (laid_met os))) ?_
  intro W base args ds gs before hval hW _ _ _ hL _ _
  exact contract H enc W base args ds gs before hval hW hL

theorem said : Rows.WalkRootsSaid :=
  OpenClaim.holds_of_cond 4 Tryd.f4 rfl rfl rfl rfl rfl rfl rfl ⟨rfl, rfl, rfl, rfl, rfl⟩ rfl rfl rfl rfl rfl (by kernel_rfl) Tryd.func4 (by kernel_rfl)
    (of_decide_eq_true (by kernel_rfl)) (by unfold Func.isWrapper; first | (rw [if_pos (by decide +kernel)]; kernel_rfl) | (rw [if_neg (by decide +kernel)]; exact ⟨rfl, rfl⟩))
    (fun os started H enc _ F => by rw [OpenClaim.pre_eq_preRow]; exact lifted os started H enc F)

theorem plain (f : FuncId) (fn : Func) (hf : Tryd.pinned.checked.prog.funcNamed "portreeve/portreevelaw06.WalkRoots" = some f) (hfn : Tryd.pinned.checked.prog.funcs[f]? = some fn) :
    false = Tryd.pinned.checked.prog.looks [] ∧ ∀ (j : Nat) t, fn.params[j]? = some t → Tryd.pinned.checked.prog.wantsStandIn t = false := by
  obtain rfl : f = 4 := Option.some.inj ((show Tryd.prog.funcNamed "portreeve/portreevelaw06.WalkRoots" = some 4 by kernel_rfl).symm.trans hf) |>.symm
  obtain rfl : fn = Tryd.f4 := (Option.some.inj (Tryd.func4.symm.trans hfn)).symm
  refine ⟨by kernel_rfl, fun j t ht => ?_⟩
  rw [Tryd.params4] at ht
  have hm : t ∈ [23, 22, 22] := by simpa using Array.mem_of_getElem? ht
  have hall : ([23, 22, 22].all fun u => !Tryd.prog.wantsStandIn u) = true := by kernel_rfl
  exact (show Tryd.prog.wantsStandIn t = false by simpa using List.all_eq_true.1 hall t hm)

theorem card : Rows.WalkRootsCardSaid :=
  Claim7.holds_tied_plain_at .later [] _ _ _ _ said (fun _ h => by cases h) (by kernel_rfl) (fun _ h => by cases h) walkRoots_row_tie rfl ⟨rfl, rfl⟩ (by kernel_rfl) rfl plain (by kernel_rfl)

end Go.Proofs.YtjhplcpaaghleaaDoor.walkRoots
