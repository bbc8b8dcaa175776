/- WalkStretch (P6.1): for every list of words, root, address and offset the law returns true: all addresses of a leaf's stretch come to the same leaf, one behind the other. No condition beyond the row's own. -/
import Derived.Test.YtjhplcpaaghleaaDoorWalkAnc
import Derived.Test.YtjhplcpaaghleaaDoorStretchM
import Derived.Test.YtjhplcpaaghleaaDoorStepOpen
import Derived.Test.YtjhplcpaaghleaaDoorWalkFrame
namespace Go.Proofs.YtjhplcpaaghleaaDoor.walkStretch
open Go.ChangeShapes Go.WideShapes Go.ChangeAt Go.RowKit Go.Lib Go.Maps

theorem right20 : rightS 1048576 := ⟨by decide, by decide, by decide⟩

set_option maxHeartbeats 1000000 in
theorem walk_long (ad : Option Addr) (n cap root va off : Nat) (w : World) (hn : 60 < n) (hF : Flds w) :
    Calls Tryd.prog 5 #[.slice ad n cap, .int .u64 root, .int .u64 va, .int .u64 off] w fun e w' => e = .returned (.bool true) ∧ Below w.heap.size w w' := by
  have hn2 : (60 : Int) < n := by omega
  have hL := fun w1 => laid_bad 1048576 n cap ad (by omega) (Or.inr ⟨right20, hn⟩) w1
  go_enter Tryd.func5, Tryd.ntmps5
  go_wp2_with fail
  refine (wanchor_any _ hF).mono ?_
  rintro e w1 ⟨rfl, hb1⟩
  go_wp2_with fail
  refine (hL _).mono ?_
  rintro e w2 ⟨rfl, hb2⟩
  go_wp2
  go_ret
  exact ⟨by first | rfl | (simp; omega), below_tr hb1 (below_tr hb2 (below_new _ _))⟩

set_option maxHeartbeats 4000000 in
theorem walk_short (ad : Option Addr) (n cap : Nat) (A V : Nat → Nat) (root va off : Nat) (w : World) (hn : n ≤ 60) (hst : StepsAt w ad n A V) (hr : root < 18446744073709551616) (hv : va < 18446744073709551616) (ho : off < 18446744073709551616) (hF : Flds w) :
    Calls Tryd.prog 5 #[.slice ad n cap, .int .u64 root, .int .u64 va, .int .u64 off] w fun e w' => e = .returned (.bool true) ∧ Below w.heap.size w w' := by
  have HF := Hid.mk hF
  have HST := Hid.mk hst
  clear hst
  go_enter Tryd.func5, Tryd.ntmps5
  go_wp2_with fail
  refine (wanchor_any _ hF).mono ?_
  rintro e w1 ⟨rfl, hb1⟩
  clear hF
  go_wp2_with fail
  refine (laid_ok 1048576 n cap ad A V right20 hn _ (HST.out.later hb1)).mono ?_
  rintro e w2 ⟨a, v, rfl, hL⟩
  have HB2 := Hid.mk (below_tr hb1 hL.bel)
  obtain ⟨X, hM, -⟩ := hL.mem
  obtain ⟨L, hp, -⟩ := hL.lst
  obtain ⟨p, c, rfl, -⟩ := hp.form
  have HM := Hid.mk hM
  clear hL hp hM hb1 HST
  generalize L.length = N at *
  generalize fW 1048576 A V n = f at *
  go_wp2_with fail
  refine (walk_any root va hr (HM.out.below (below_new _ _)) (HF.out.later (below_tr HB2.out (below_new _ _)))).mono ?_
  rintro e w3 ⟨rfl, hb3⟩
  have HB3 := Hid.mk (below_tr HB2.out (below_tr (below_new _ _) hb3))
  have HM3 := Hid.mk (HM.out.below (below_tr (below_new _ _) hb3))
  clear hb3 HB2 HM
  generalize hres : (wk0 1048576 f 0 root va).2 = r at *
  obtain ⟨fk, l, x⟩ := r
  by_cases hk : fk = 0
  · subst hk
    obtain ⟨-, -, hlow, -, hlv, hm, hkd⟩ := wk0_leaf hres
    have hho := mf_holds hm hkd
    have hsm : ∀ vb, vb / 2 ^ lowK l = va / 2 ^ lowK l → vb < 281474976710656 → (wk0 1048576 f 0 root vb).2 = (0, l, x) := fun vb h1 h2 => by rw [stretch_same hres h1 h2, hres]
    have h2 := hsm (inV va off l) (inV_div hlv hlow) (inV_low hlv hlow)
    have hi64 : inV va off l < 18446744073709551616 := Nat.lt_trans (inV_low hlv hlow) (by decide)
    have hBa := fun w1 => base_any va l hv w1
    have hOf := fun w1 => offset_any off l ho w1
    have hoff := inV_off (off := off) hlv hlow
    have hoffl : offV off l < 2 ^ lowK l := by unfold offV; rw [if_pos hlv]; exact Nat.mod_lt _ (Nat.two_pow_pos _)
    have hOr : bits BinOp.or IntKind.u64 ((baseV va l : Nat) : Int) ((offV off l : Nat) : Int) = ((inV va off l : Nat) : Int) := bits_or_u64_nat _ _ (Nat.lt_trans (baseV_lt va l) (by decide)) (Nat.lt_of_le_of_lt (offV_le off l) ho)
    have hOut : ∀ (K : Int) (bU bR bX bS : Bool) (at1 : Int) (w1 : World), Calls Tryd.prog 13 #[.agg #[.int .i64 l, .int .i64 K, .int .u64 (rdO x : Nat), .bool bU, .bool bR, .bool bX, .bool bS, .int .i64 at1], .int .u64 (inV va off l : Nat)] w1 fun e w' => e = .returned (.int .u64 ((rdO x : Int) + (offV off l : Int))) ∧ Below w1.heap.size w1 w' := fun K bU bR bX bS at1 w1 => by
      have := out_any l K (rdO x) bU bR bX bS at1 (inV va off l) hi64 (by rw [hoff]; omega) w1
      rw [hoff, Int.natCast_add] at this
      exact this
    have hsum : (rdO x : Int) + (offV off l : Int) < 18446744073709551616 := by omega
    have hwr : IntKind.u64.wrap ((rdO x : Int) + (offV off l : Int)) = (rdO x : Int) + (offV off l : Int) := by rw [IntKind.wrap_u64]; omega
    rw [show leafL (0, l, x) = [.int .i64 l, .int .i64 (rdK l x), .int .u64 (rdO x : Nat), .bool (rdU l x), .bool (rdR l x), .bool (rdX l x), .bool (rdS l x), .int .i64 (rdA l x)] from rfl, show faultL (0, l, x) = [.int .i64 0, .int .i64 0] from rfl]
    have hleaf2 : leafL (wk0 1048576 f 0 root (inV va off l)).2 = [.int .i64 l, .int .i64 (rdK l x), .int .u64 (rdO x : Nat), .bool (rdU l x), .bool (rdR l x), .bool (rdX l x), .bool (rdS l x), .int .i64 (rdA l x)] := by rw [h2]; rfl
    have hfault2 : faultL (wk0 1048576 f 0 root (inV va off l)).2 = [.int .i64 0, .int .i64 0] := by rw [h2]; rfl
    have hWalk : ∀ w1, MemAt w1 X a 1048576 61 f → Flds w1 → Calls Tryd.prog 15 #[.pointer (some ⟨a, 0, none⟩), .int .u64 root, .int .u64 (inV va off l : Nat)] w1 fun e w' => e = .returned (.tuple #[.agg #[.int .i64 l, .int .i64 (rdK l x), .int .u64 (rdO x : Nat), .bool (rdU l x), .bool (rdR l x), .bool (rdX l x), .bool (rdS l x), .int .i64 (rdA l x)], .agg #[.int .i64 0, .int .i64 0]]) ∧ Below w1.heap.size w1 w' := fun w1 h3 h4 => by
      have := walk_any root (inV va off l) hr h3 h4
      rw [hleaf2, hfault2] at this
      exact this
    clear hleaf2 hfault2 h2 hsm hho hm hkd hres hlow hoff hoffl
    generalize rdK l x = K at *
    generalize rdO x = O at *
    generalize rdU l x = bU at *
    generalize rdR l x = bR at *
    generalize rdX l x = bX at *
    generalize rdS l x = bS at *
    generalize rdA l x = at1 at *
    generalize inV va off l = vb at *
    generalize baseV va l = bs at *
    generalize offV off l = oq at *
    have HOut := Hid.mk (hOut K bU bR bX bS at1)
    have HWalk := Hid.mk hWalk
    clear hOut hWalk
    go_upto_region 7 with fail
    have HB4 := Hid.mk (below_tr HB3.out (below2 w3 (.cells #[.int .i64 l, .int .i64 K, .int .u64 (O : Nat), .bool bU, .bool bR, .bool bX, .bool bS, .int .i64 at1] 35) (.cells #[.int .i64 0, .int .i64 0] 37)))
    have HM4 := Hid.mk (HM3.out.below (below2 w3 (.cells #[.int .i64 l, .int .i64 K, .int .u64 (O : Nat), .bool bU, .bool bR, .bool bX, .bool bS, .int .i64 at1] 35) (.cells #[.int .i64 0, .int .i64 0] 37)))
    have k12 := heap_alloc2_old w3 (.cells #[.int .i64 l, .int .i64 K, .int .u64 (O : Nat), .bool bU, .bool bR, .bool bX, .bool bS, .int .i64 at1] 35) (.cells #[.int .i64 0, .int .i64 0] 37)
    have k13 := heap_alloc2_new w3 (.cells #[.int .i64 l, .int .i64 K, .int .u64 (O : Nat), .bool bU, .bool bR, .bool bX, .bool bS, .int .i64 at1] 35) (.cells #[.int .i64 0, .int .i64 0] 37)
    clear HB3 HM3
    generalize (w3.alloc (.cells #[.int .i64 l, .int .i64 K, .int .u64 (O : Nat), .bool bU, .bool bR, .bool bX, .bool bS, .int .i64 at1] 35)).alloc (.cells #[.int .i64 0, .int .i64 0] 37) = w4 at *
    obtain ⟨⟨a0, a1, a2, a3, a4, a5, a6, a7⟩, af⟩ := cells8 k12
    obtain ⟨b0, b1, bf0, bf1⟩ := row2_facts k13
    have K12 := Hid.mk k12
    have K13 := Hid.mk k13
    clear k12 k13 af bf0 bf1
    go_wp2
    go_quiet (first
      | (go_at_call 17; refine Calls.quiet_of_same ((hBa _).mono (fun e w1 hh => ⟨hh.1, hh.2.symm⟩)))
      | (go_at_call 18; refine Calls.quiet_of_same ((hOf _).mono (fun e w1 hh => ⟨hh.1, hh.2.symm⟩))))
    have HB4' : Hid (Below w.heap.size w (w4.drewN nq)) := below_tr HB4.out (below_drewN ⟨_, rfl⟩)
    have HM4' : Hid (MemAt (w4.drewN nq) X a 1048576 61 f) := HM4.out.below (below_drewN ⟨_, rfl⟩)
    have K12' : Hid ((w4.drewN nq).heap[w3.heap.size]? = _) := K12.out
    have K13' : Hid ((w4.drewN nq).heap[w3.heap.size + 1]? = _) := K13.out
    clear a0 a1 a2 a3 a4 a5 a6 a7 b0 b1 K12 K13 HB4 HM4
    generalize w4.drewN nq = w4' at *
    go_wp2_with fail
    refine (HWalk.out _ HM4'.out (HF.out.later HB4'.out)).mono ?_
    rintro e w5 ⟨rfl, hb5⟩
    have K12 := Hid.mk (block_later (below_tr hb5 (below2 w5 (.cells #[.int .i64 l, .int .i64 K, .int .u64 (O : Nat), .bool bU, .bool bR, .bool bX, .bool bS, .int .i64 at1] 35) (.cells #[.int .i64 0, .int .i64 0] 37))) K12'.out)
    have K13 := Hid.mk (block_later (below_tr hb5 (below2 w5 (.cells #[.int .i64 l, .int .i64 K, .int .u64 (O : Nat), .bool bU, .bool bR, .bool bX, .bool bS, .int .i64 at1] 35) (.cells #[.int .i64 0, .int .i64 0] 37))) K13'.out)
    have HB5 := Hid.mk (below_tr HB4'.out (below_tr hb5 (below2 w5 (.cells #[.int .i64 l, .int .i64 K, .int .u64 (O : Nat), .bool bU, .bool bR, .bool bX, .bool bS, .int .i64 at1] 35) (.cells #[.int .i64 0, .int .i64 0] 37))))
    have K15 := Hid.mk (heap_alloc2_old w5 (.cells #[.int .i64 l, .int .i64 K, .int .u64 (O : Nat), .bool bU, .bool bR, .bool bX, .bool bS, .int .i64 at1] 35) (.cells #[.int .i64 0, .int .i64 0] 37))
    have K16 := Hid.mk (heap_alloc2_new w5 (.cells #[.int .i64 l, .int .i64 K, .int .u64 (O : Nat), .bool bU, .bool bR, .bool bX, .bool bS, .int .i64 at1] 35) (.cells #[.int .i64 0, .int .i64 0] 37))
    clear hb5 HB4' HM4' K12' K13' HWalk
    go_upto_region 11 with fail
    generalize (w5.alloc (.cells #[.int .i64 l, .int .i64 K, .int .u64 (O : Nat), .bool bU, .bool bR, .bool bX, .bool bS, .int .i64 at1] 35)).alloc (.cells #[.int .i64 0, .int .i64 0] 37) = w6 at *
    obtain ⟨⟨a0, a1, a2, a3, a4, a5, a6, a7⟩, af⟩ := cells8 K12.out
    obtain ⟨b0, b1, bf0, bf1⟩ := row2_facts K13.out
    obtain ⟨⟨c0, c1, c2, c3, c4, c5, c6, c7⟩, cf⟩ := cells8 K15.out
    obtain ⟨d0, d1, df0, df1⟩ := row2_facts K16.out
    have hB6 := HB5.out
    clear K12 K13 K15 K16 af bf0 bf1 cf df0 df1 HB5 HF
    go_region_held3 (fun w' => w'.cell? ⟨w3.heap.size, 0, none⟩ = some (.int .i64 l) ∧ w'.cell? ⟨w3.heap.size, 1, none⟩ = some (.int .i64 K) ∧ w'.cell? ⟨w3.heap.size, 2, none⟩ = some (.int .u64 (O : Nat)) ∧ w'.cell? ⟨w3.heap.size, 3, none⟩ = some (.bool bU) ∧ w'.cell? ⟨w3.heap.size, 4, none⟩ = some (.bool bR) ∧ w'.cell? ⟨w3.heap.size, 5, none⟩ = some (.bool bX) ∧ w'.cell? ⟨w3.heap.size, 6, none⟩ = some (.bool bS) ∧ w'.cell? ⟨w3.heap.size, 7, none⟩ = some (.int .i64 at1) ∧ w'.cell? ⟨w3.heap.size + 1, 0, none⟩ = some (.int .i64 0) ∧ w'.cell? ⟨w3.heap.size + 1, 1, none⟩ = some (.int .i64 0) ∧ w'.cell? ⟨w5.heap.size, 0, none⟩ = some (.int .i64 l) ∧ w'.cell? ⟨w5.heap.size, 1, none⟩ = some (.int .i64 K) ∧ w'.cell? ⟨w5.heap.size, 2, none⟩ = some (.int .u64 (O : Nat)) ∧ w'.cell? ⟨w5.heap.size, 3, none⟩ = some (.bool bU) ∧ w'.cell? ⟨w5.heap.size, 4, none⟩ = some (.bool bR) ∧ w'.cell? ⟨w5.heap.size, 5, none⟩ = some (.bool bX) ∧ w'.cell? ⟨w5.heap.size, 6, none⟩ = some (.bool bS) ∧ w'.cell? ⟨w5.heap.size, 7, none⟩ = some (.int .i64 at1) ∧ w'.cell? ⟨w5.heap.size + 1, 0, none⟩ = some (.int .i64 0) ∧ w'.cell? ⟨w5.heap.size + 1, 1, none⟩ = some (.int .i64 0) ∧ Below w.heap.size w w')
      ((go_split_ands; refine ⟨?_, ?_, ?_, ?_, ?_, ?_, ?_, ?_, ?_, ?_, ?_, ?_, ?_, ?_, ?_, ?_, ?_, ?_, ?_, ?_, ?_⟩ <;> first | (with_reducible assumption) | (with_reducible exact cell_later hbm (by assumption)) | (with_reducible exact below_tr (by assumption) hbm) | (with_reducible exact cell_drw (by assumption)) | (with_reducible exact hB6.drew) | exact hB6.drew))
      (first
        | (go_at_call 13; refine (HOut.out _).mono ?_; rintro e w' ⟨rfl, hbm⟩)
        | (go_at_call 18; refine (hOf _).mono ?_; rintro e w' ⟨rfl, rfl⟩))
    all_goals go_wp2
    all_goals go_ret
    all_goals exact ⟨by first | rfl | (rw [hwr]; simp; done) | (simp [hwr]; done), by go_split_ands; assumption⟩
  · rw [show leafL (fk, l, x) = [.int .i64 0, .int .i64 0, .int .u64 0, .bool false, .bool false, .bool false, .bool false, .int .i64 0] from if_neg hk, show faultL (fk, l, x) = [.int .i64 fk, .int .i64 l] from if_neg hk]
    clear hres
    go_wp2
    go_ret
    exact ⟨rfl, below_tr HB3.out (below2 _ _ _)⟩

theorem walk (ad : Option Addr) (n cap : Nat) (A V : Nat → Nat) (root va off : Nat) (w : World) (_mx : n ≤ maxLen) (hst : StepsAt w ad n A V) (hr : root < 18446744073709551616) (hv : va < 18446744073709551616) (ho : off < 18446744073709551616) (hF : Flds w) :
    Calls Tryd.prog 5 #[.slice ad n cap, .int .u64 root, .int .u64 va, .int .u64 off] w fun e w' => e = .returned (.bool true) ∧ Below w.heap.size w w' := by
  by_cases hn : n ≤ 60
  · exact walk_short ad n cap A V root va off w hn hst hr hv ho hF
  · exact walk_long ad n cap root va off w (by omega) hF

theorem met {W : World} (h : laidMet Tryd.prog Rows.walkStretchRow.laid W) : Flds W := by
  have h1 := pair_of_reads (g := 0) (by kernel_rfl) (by kernel_rfl) (Lib.laidMet.reads h (n := "portreeve/desc.outField") (d := Rows.laid_portreeve_desc_outField) (by simp [Rows.walkStretchRow]))
  have h2 := pair_of_reads (g := 1) (by kernel_rfl) (by kernel_rfl) (Lib.laidMet.reads h (n := "portreeve/desc.attrField") (d := Rows.laid_portreeve_desc_attrField) (by simp [Rows.walkStretchRow]))
  exact ⟨h1.1, h1.2, h2.1, h2.2⟩

theorem own : ownKnob Tryd.prog.godebug = none := by kernel_rfl
theorem laidOut : laidOutB Tryd.prog = true := by kernel_rfl

set_option linter.unusedVariables false in
set_option maxRecDepth 100000 in
theorem contract (H : Type) (enc : TypeId × Value → H) (W : World) (base : Nat) (args : Array Value) (ds gs : List (DataW H)) (before : List MemPlace)
    (hval0 : ∀ (j : Nat) t v, Tryd.f5.params[j]? = some t → args[j]? = some v → Value.okWide Tryd.prog W .any base t v)
    (hW : DataW.Whole enc Tryd.prog Tryd.f5.params.toList Rows.walkStretchSpec.vars false W args.toList ds gs before) (hL0 : laidMetH Tryd.prog Rows.walkStretchRow.laid W) :
    Calls Tryd.prog 5 args W fun e W' => ∃ v, e = .returned v ∧ Rows.walkStretchSpec.post enc Tryd.prog Tryd.f5 false true false false W args v W' := by
  have hL := hL0
  rw [MakeChecks.laidMetH_plain _ _ _ (by kernel_rfl)] at hL
  have hval := hval0
  have hW' := hW
  obtain ⟨p, q, hA0, hV, rfl, hfz, hnd⟩ := hW
  have hA : DataW.TrodAll enc Tryd.prog W 0 (fun _ => true) true Tryd.f5.params.toList args.toList ds p := hA0
  rw [Tryd.params5] at hA hval
  obtain ⟨v0, vs0, d0, ds0, p0, q0, hargs, rfl, rfl, h0, r0⟩ := trodAll_cons hA
  obtain ⟨v1, vs1, d1, ds1, p1, q1, rfl, rfl, rfl, h1, r1⟩ := trodAll_cons r0
  obtain ⟨v2, vs2, d2, ds2, p2, q2, rfl, rfl, rfl, h2, r2⟩ := trodAll_cons r1
  obtain ⟨v3, vs3, d3, ds3, p3, q3, rfl, rfl, rfl, h3, r3⟩ := trodAll_cons r2
  obtain ⟨rfl, rfl, rfl⟩ := trodAll_nil r3
  obtain rfl : args = #[v0, v1, v2, v3] := by cases args; simp_all
  obtain ⟨rfl, rfl⟩ := trodVars_none hV
  have k0 := h0
  have lt0 : ∀ x ∈ p0, x.block < W.heap.size := by obtain ⟨m, hm⟩ := k0; exact DataW.trod_lt m _ _ _ hm
  have k1 := h1
  have lt1 : ∀ x ∈ p1, x.block < W.heap.size := by obtain ⟨m, hm⟩ := k1; exact DataW.trod_lt m _ _ _ hm
  have k2 := h2
  have lt2 : ∀ x ∈ p2, x.block < W.heap.size := by obtain ⟨m, hm⟩ := k2; exact DataW.trod_lt m _ _ _ hm
  have k3 := h3
  have lt3 : ∀ x ∈ p3, x.block < W.heap.size := by obtain ⟨m, hm⟩ := k3; exact DataW.trod_lt m _ _ _ hm
  obtain ⟨ad0, n0, cap0, A0, V0, rfl, mx0, ho0⟩ := open_steps (hval 0 23 v0 rfl rfl) h0
  obtain ⟨a1, rfl, _, _, w1⟩ := open_int Tryd.underlying22 (hval 1 22 v1 rfl rfl) h1
  obtain ⟨x1, rfl⟩ := Int.eq_ofNat_of_zero_le (bounds_u64 w1).1
  have b1 : x1 < 18446744073709551616 := by have := (bounds_u64 w1).2; omega
  obtain ⟨a2, rfl, _, _, w2⟩ := open_int Tryd.underlying22 (hval 2 22 v2 rfl rfl) h2
  obtain ⟨x2, rfl⟩ := Int.eq_ofNat_of_zero_le (bounds_u64 w2).1
  have b2 : x2 < 18446744073709551616 := by have := (bounds_u64 w2).2; omega
  obtain ⟨a3, rfl, _, _, w3⟩ := open_int Tryd.underlying22 (hval 3 22 v3 rfl rfl) h3
  obtain ⟨x3, rfl⟩ := Int.eq_ofNat_of_zero_le (bounds_u64 w3).1
  have b3 : x3 < 18446744073709551616 := by have := (bounds_u64 w3).2; omega
  clear hA0 hval0
  refine (walk ad0 n0 cap0 A0 V0 x1 x2 x3 W mx0 ho0 b1 b2 b3 (met hL)).mono fun e W' ⟨he, bel⟩ => ?_
  subst he
  exact ⟨_, rfl, _, _, _, [], _, [], hW', trodAll_mk1 (shut_bool Tryd.underlying4 _), (trodAll_cons_mk (Below.trod laidOut (by kernel_rfl) (of_decide_eq_true (by kernel_rfl)) k0 bel lt0) (trodAll_cons_mk (Below.trod laidOut (by kernel_rfl) (of_decide_eq_true (by kernel_rfl)) k1 bel lt1) (trodAll_cons_mk (Below.trod laidOut (by kernel_rfl) (of_decide_eq_true (by kernel_rfl)) k2 bel lt2) (trodAll_cons_mk (Below.trod laidOut (by kernel_rfl) (of_decide_eq_true (by kernel_rfl)) k3 bel lt3) trodAll_mk0)))), rfl, bel.frame _, fun h => by cases h⟩

theorem laid_met (os : Os) : laidMet Tryd.prog Rows.walkStretchRow.laid ((World.laidAll Tryd.prog os Rows.walkStretchRow.laid).forCall (fun _ _ => 0) ⟨#[], #[.slice none 0 0, .int .u64 0, .int .u64 0, .int .u64 0], []⟩).memory :=
  laidMet_laidAll _ (by kernel_rfl) (by kernel_rfl)
theorem reads (os : Os) {H : Type} (enc : TypeId × Value → H) : ∃ places, DataW.whole enc Tryd.prog ((World.laidAll Tryd.prog os Rows.walkStretchRow.laid).forCall (fun _ _ => 0) ⟨#[], #[.slice none 0 0, .int .u64 0, .int .u64 0, .int .u64 0], []⟩).memory Tryd.f5.params.toList Rows.walkStretchSpec.vars false (#[.slice none 0 0, .int .u64 0, .int .u64 0, .int .u64 0] : Array Value).toList 8 = some ([.nil, .lit (.int .u64 0), .lit (.int .u64 0), .lit (.int .u64 0)], [], places) :=
  ⟨[], by kernel_rfl⟩

set_option maxRecDepth 100000 in
theorem lifted (os : Os) (started : os.Started) (H : Type) (enc : TypeId × Value → H) (F : Stop.Interp) :
    ReturnsInHanded {} Tryd.checked os 5 .any ((OpenSpec.ofChange Rows.walkStretchSpec).preRow enc Tryd.prog Tryd.f5 Rows.walkStretchRow.domain false Rows.walkStretchRow.laid) (((OpenSpec.ofChange Rows.walkStretchSpec).at F).post enc Tryd.prog Tryd.f5 false true false false) := by
  obtain ⟨places, hx⟩ := reads os enc
  refine returnsInHanded_of_row (C := Tryd.checked) (s := (OpenSpec.ofChange Rows.walkStretchSpec)) own started (by kernel_rfl) Tryd.func5
    (witness_row_at (enc := enc) (C := Tryd.checked) false (World.laidAll Tryd.prog os Rows.walkStretchRow.laid) #[.slice none 0 0, .int .u64 0, .int .u64 0, .int .u64 0] (World.laidAll_os _ _ _) (by kernel_rfl) (by kernel_rfl) (by kernel_rfl)
      (OpenSpec.preRow_of_cond 8 hx (by kernel_rfl) (fun k hk => by cases hk) (by kernel_rfl) (laid_met os))) ?_
  intro W base args ds gs before hval hW _ _ _ hL _ _
  exact contract H enc W base args ds gs before hval hW hL

theorem said : Rows.WalkStretchSaid :=
  OpenClaim.holds_of_cond 5 Tryd.f5 rfl rfl rfl rfl rfl rfl rfl ⟨rfl, rfl, rfl, rfl, rfl⟩ rfl rfl rfl rfl rfl (by kernel_rfl) Tryd.func5 (by kernel_rfl)
    (of_decide_eq_true (by kernel_rfl)) (by unfold Func.isWrapper; first | (rw [if_pos (by decide +kernel)]; kernel_rfl) | (rw [if_neg (by decide +kernel)]; exact ⟨rfl, rfl⟩))
    (fun os started H enc _ F => by rw [OpenClaim.pre_eq_preRow]; exact lifted os started H enc F)

theorem plain (f : FuncId) (fn : Func) (hf : Tryd.pinned.checked.prog.funcNamed "portreeve/portreevelaw06.WalkStretch" = some f) (hfn : Tryd.pinned.checked.prog.funcs[f]? = some fn) :
    false = Tryd.pinned.checked.prog.looks [] ∧ ∀ (j : Nat) t, fn.params[j]? = some t → Tryd.pinned.checked.prog.wantsStandIn t = false := by
  obtain rfl : f = 5 := Option.some.inj ((show Tryd.prog.funcNamed "portreeve/portreevelaw06.WalkStretch" = some 5 by kernel_rfl).symm.trans hf) |>.symm
  obtain rfl : fn = Tryd.f5 := (Option.some.inj (Tryd.func5.symm.trans hfn)).symm
  refine ⟨by kernel_rfl, fun j t ht => ?_⟩
  rw [Tryd.params5] at ht
  have hm : t ∈ [23, 22, 22, 22] := by simpa using Array.mem_of_getElem? ht
  have hall : ([23, 22, 22, 22].all fun u => !Tryd.prog.wantsStandIn u) = true := by kernel_rfl
  exact (show Tryd.prog.wantsStandIn t = false by simpa using List.all_eq_true.1 hall t hm)

theorem card : Rows.WalkStretchCardSaid :=
  Claim7.holds_tied_plain_at .later [] _ _ _ _ said (fun _ h => by cases h) (by kernel_rfl) (fun _ h => by cases h) walkStretch_row_tie rfl ⟨rfl, rfl⟩ (by kernel_rfl) rfl plain (by kernel_rfl)

end Go.Proofs.YtjhplcpaaghleaaDoor.walkStretch
