/- TreeWrites (P13.4): for every list of steps, every address and every word the law returns true: a tree writes in no word of memory but of the slots that it has, and had. No condition beyond the row's own. -/
import Derived.Test.YtcmndefjmhcbhaaDoorTreP3
set_option linter.unusedVariables false
namespace Go.Proofs.YtcmndefjmhcbhaaDoor.treeWrites
open Go.ChangeShapes Go.WideShapes Go.ChangeAt Go.RowKit Go.Lib TE

/-- The memory's words: one, at y. -/
def gW (y v : Nat) : Nat → Nat := updF (fun _ => 0) y v
theorem gW_zr {y v z : Nat} (h : z / 32 ≠ y / 32) : Zr (gW y v) z := fun hz => by
  unfold gW updF
  refine ⟨?_, ?_, ?_, ?_⟩ <;> (rw [if_neg]; omega)
theorem gW_at (y v : Nat) : gW y v y = v := by unfold gW updF; rw [if_pos rfl]
theorem gW_off (y v : Nat) : updF (gW y v) y 0 = fun _ => 0 := by
  funext z
  unfold gW updF
  by_cases h : z = y
  · rw [if_pos h]
  · rw [if_neg h, if_neg h]

set_option maxHeartbeats 8000000 in
set_option maxRecDepth 1000000 in
theorem walk_out (ad : Option Addr) (cap n : Nat) (y v : Nat) (w : World) (hn : 60 < n ∨ ¬ y % 8 = 0 ∨ 65536 ≤ y) (hF : SPrts w) :
    Calls Tryd.prog 4 #[.slice ad n cap, .int .u64 (y : Nat), .int .u64 (v : Nat)] w fun r w' => r = .returned (.bool true) ∧ Below w.heap.size w w' := by
  have hC := anchor_c w hF
  clear hF
  by_cases h1 : 60 < n
  · have hnI : (60 : Int) < (n : Int) := by omega
    clear hn
    go_enter Tryd.func4, Tryd.ntmps4
    go_wp2_with fail
    refine hC.mono ?_
    rintro e w1 ⟨rfl, hb1⟩
    go_wp2
    go_ret
    exact ⟨rfl, hb1⟩
  · have hnI : ¬ (60 : Int) < (n : Int) := by omega
    by_cases h2 : y % 8 = 0
    · have h3 : 65536 ≤ y := by omega
      have hyI : (65536 : Int) ≤ (y : Int) := by omega
      have e8 : (y : Int) % 8 = 0 := by omega
      clear hn h3 h2
      go_enter Tryd.func4, Tryd.ntmps4
      go_wp2_with fail
      refine hC.mono ?_
      rintro e w1 ⟨rfl, hb1⟩
      go_wp2
      go_ret
      exact ⟨rfl, hb1⟩
    · have e8 : ¬ (y : Int) % 8 = 0 := by omega
      clear hn h2
      go_enter Tryd.func4, Tryd.ntmps4
      go_wp2_with fail
      refine hC.mono ?_
      rintro e w1 ⟨rfl, hb1⟩
      go_wp2
      go_ret
      exact ⟨rfl, hb1⟩

set_option maxHeartbeats 8000000 in
set_option maxRecDepth 1000000 in
theorem walk_in (ad : Option Addr) (cap : Nat) (ops : List To) (y v : Nat) (w : World) (hn : ops.length ≤ 60) (h8 : y % 8 = 0) (hy : y < 65536) (hv : v < 18446744073709551616) (hrd : ToRd w ad ops) (hok : ∀ q ∈ ops, q.Ok) (hF : SPrts w) :
    Calls Tryd.prog 4 #[.slice ad ops.length cap, .int .u64 (y : Nat), .int .u64 (v : Nat)] w fun r w' => r = .returned (.bool true) ∧ Below w.heap.size w w' := by
  have hC := anchor_c w hF
  have HF := Hid.mk hF
  have HRD := Hid.mk hrd
  have HOK : Hid (∀ i, i < ops.length → (gT ops i).Ok) := fun i hi => hok _ (by rw [gT_pos ops i hi]; exact List.getElem_mem hi)
  have HNO := Hid.mk hn
  have HY := Hid.mk (And.intro h8 (And.intro hy hv))
  have hnI : ¬ (60 : Int) < (ops.length : Int) := by omega
  have hyI : ¬ (65536 : Int) ≤ (y : Int) := by omega
  have e8 : (y : Int) % 8 = 0 := by omega
  clear hF hrd hok hn h8 hy hv
  go_enter Tryd.func4, Tryd.ntmps4
  go_wp2_with fail
  refine hC.mono ?_
  rintro e w1 ⟨rfl, hb1⟩
  clear hC
  have HB1 := Hid.mk hb1
  go_wp2_with fail
  refine (opened_c _ (HF.out.later hb1)).mono ?_
  rintro e w2 ⟨x, a, O, rfl, h⟩
  replace h := Hid.mk (h.later (below_new w2 (.cells #[.int .u64 65536, .slice none 0 0] 29)))
  clear hb1
  go_upto_region 6 with fail
  generalize w2.alloc (.cells #[.int .u64 65536, .slice none 0 0] 29) = w3 at *
  go_wp2_with fail
  refine (h.out.1.lay (by decide) HY.out.1 HY.out.2.1 rfl HY.out.2.2).mono ?_
  rintro e w4 ⟨rfl, hN⟩
  obtain ⟨O4, h4, -, -⟩ := hN
  replace h4 : Hid (TrL w1 w4 O4 x a 65536 (0 + 1) (gW y v) []) := ⟨h4, h.out.2⟩
  clear h
  go_wp2
  go_loopw [11, 45] (fun _ s45 wr => ∃ (i : Nat) (O : Nat → Prop) (n : Nat) (L : List Nd), i ≤ ops.length ∧ s45 = .int .i64 (i : Nat) ∧ n ≤ 1 + i * 400 ∧ L.length ≤ i ∧ y / 32 * 32 ∉ ps L ∧ TrL w1 wr O x a 65536 n (gW y v) L) (fun _ s45 _ => ops.length - (RowKit.intOf s45).toNat)
  case atStart => exact ⟨0, _, _, [], Nat.zero_le _, rfl, Nat.le_refl _, Nat.le_refl _, fun c => (by cases c), h4.out⟩
  case round =>
    clear h4
    obtain ⟨i, O, n, L, hi, rfl, hnn, hLi, hyL, h⟩ := hrel
    have HH := Hid.mk h
    have HLI := Hid.mk hLi
    have HNN := Hid.mk hnn
    have HYL := Hid.mk hyL
    have HW := Hid.mk (below_tr HB1.out h.1.hb)
    clear h hLi hnn hyL
    by_cases hlt : i < ops.length
    · have hlt2 : (i : Int) < ops.length := by omega
      have HLT := Hid.mk hlt
      have hib : (i : Int) < 60 := by have := HNO.out; omega
      obtain ⟨g, oo, rfl, hg, hc⟩ := HRD.out i hlt
      have hbW := HW.out
      have d0 := cell_later hbW (hc 0 _ rfl)
      have d1 := cell_later hbW (hc 1 _ rfl)
      have d2 := cell_later hbW (hc 2 _ rfl)
      have d3 := cell_later hbW (hc 3 _ rfl)
      have d4 := cell_later hbW (hc 4 _ rfl)
      have d5 := cell_later hbW (hc 5 _ rfl)
      have d6 := cell_later hbW (hc 6 _ rfl)
      have d7 := cell_later hbW (hc 7 _ rfl)
      have d8 := cell_later hbW (hc 8 _ rfl)
      have d9 := cell_later hbW (hc 9 _ rfl)
      rw [Nat.add_zero] at d0
      have hq := Hid.mk (HOK.out i hlt)
      clear hc hi hlt hg hbW
      generalize gT ops i = q at *
      obtain ⟨kd, qa, qb, ⟨ck, ca, cb, cr, cg, cs, cm⟩⟩ := q
      simp only at d0 d1 d2 d3 d4 d5 d6 d7 d8 d9
      have hrB := heap_alloc_new wr (.cells #[.int .i64 kd, .int .u64 (qa : Nat), .int .u64 (qb : Nat), .int .i64 ck, .int .u64 (ca : Nat), .int .i64 cb, .int .i64 cr, .int .i64 cg, .int .i64 cs, .int .u64 (cm : Nat)] 35)
      have hbB := below_new wr (.cells #[.int .i64 kd, .int .u64 (qa : Nat), .int .u64 (qb : Nat), .int .i64 ck, .int .u64 (ca : Nat), .int .i64 cb, .int .i64 cr, .int .i64 cg, .int .i64 cs, .int .u64 (cm : Nat)] 35)
      have HBX := Hid.mk (below_tr HW.out hbB)
      go_upto_region 11 with fail
      generalize wr.alloc (.cells #[.int .i64 kd, .int .u64 (qa : Nat), .int .u64 (qb : Nat), .int .i64 ck, .int .u64 (ca : Nat), .int .i64 cb, .int .i64 cr, .int .i64 cg, .int .i64 cs, .int .u64 (cm : Nat)] 35) = w8 at *
      obtain ⟨o0, o1, o2, o3, o4, o5, o6, o7, o8, o9⟩ := cells10 hrB
      replace HH := Hid.mk (HH.out.later hbB)
      clear d0 d1 d2 d3 d4 d5 d6 d7 d8 d9 hrB hbB
      generalize wr.heap.size = BB at *
      by_cases e1 : qa / 32 = y / 32
      · have i1 : (qa : Int) / 32 = (y : Int) / 32 := by omega
        have f1 : ((qa : Int) / 32 == (y : Int) / 32) = true := beq_iff_eq.2 i1
        go_wp2
        go_ret
        exact ⟨rfl, HBX.out⟩
      · have i1 : ¬ (qa : Int) / 32 = (y : Int) / 32 := by omega
        have f1 : ((qa : Int) / 32 == (y : Int) / 32) = false := beq_eq_false_iff_ne.2 i1
        by_cases e2 : qb / 32 = y / 32
        · have i2 : (qb : Int) / 32 = (y : Int) / 32 := by omega
          have f2 : ((qb : Int) / 32 == (y : Int) / 32) = true := beq_iff_eq.2 i2
          go_wp2
          go_ret
          exact ⟨rfl, HBX.out⟩
        · have i2 : ¬ (qb : Int) / 32 = (y : Int) / 32 := by omega
          have f2 : ((qb : Int) / 32 == (y : Int) / 32) = false := beq_eq_false_iff_ne.2 i2
          have HS2 := Hid.mk (done_c HH.out (by have := HLI.out; have := HNO.out; have := HLT.out; omega) (by have := HLI.out; have := HNO.out; have := HLT.out; have := HNN.out; omega) hq.out (gW_zr e1) (gW_zr e2))
          have HYN : Hid (y / 32 * 32 ∉ ps (opL 65536 L ⟨kd, qa, qb, ⟨ck, ca, cb, cr, cg, cs, cm⟩⟩)) := fun c => by
            rcases opL_in c with c | c | c
            · exact HYL.out c
            · dsimp only at c; omega
            · dsimp only at c; omega
          clear HH
          go_wp2_with fail
          refine HS2.out.mono ?_
          clear HS2 o0 o1 o2 o3 o4 o5 o6 o7 o8 o9
          rintro e w9 ⟨rfl, hN⟩
          obtain ⟨O9, h9, -, -⟩ := hN.open_
          have H9 := Hid.mk h9
          clear hN h9
          go_wp2
          exact ⟨⟨i + 1, O9, _, _, by have := HLT.out; omega, by go_num, by have := HNN.out; have := HLI.out; have := HNO.out; have := HLT.out; omega, by have := opL_len 65536 L ⟨kd, qa, qb, ⟨ck, ca, cb, cr, cg, cs, cm⟩⟩; have := HLI.out; omega, HYN.out, H9.out⟩, by have := HLT.out; simp [RowKit.intOf]; omega⟩
    · have hlt2 : ¬ (i : Int) < ops.length := by omega
      have HL : Hid (L.length ≤ ops.length) := by have := HLI.out; show _ ≤ _; omega
      have HN : Hid (n ≤ 24001) := by have := HNN.out; have := HNO.out; show _ ≤ _; omega
      clear hlt hi HLI HNN
      have cG := HH.out.1.get HY.out.1 HY.out.2.1 (sg_none HYL.out 0 0)
      rw [gW_at] at cG
      have ev : ((v : Int) != (v : Int)) = false := by simp
      go_wp2_with fail
      refine cG.mono ?_
      clear cG
      rintro e y1 ⟨rfl, hb⟩
      replace HH := Hid.mk (HH.out.later hb)
      clear hb
      have cP := HH.out.1.lay (by have := HN.out; omega) HY.out.1 HY.out.2.1 (sg_none HYL.out 0 0) (v := 0) (by decide)
      rw [gW_off] at cP
      have HWf := Hid.mk HH.out.2
      go_wp2_with fail
      refine cP.mono ?_
      clear cP HH
      rintro e y2 ⟨rfl, O2, h2, -, -⟩
      replace h2 : Hid (TrL w1 y2 O2 x a 65536 (n + 1) (fun _ => 0) L) := ⟨h2, HWf.out⟩
      clear HYL HWf HW
      go_wp2
      go_loopw [14, 85] (fun _ s85 wr => ∃ (j : Nat) (O : Nat → Prop) (m : Nat) (M : List Nd), j ≤ ops.length ∧ s85 = .int .i64 (j : Nat) ∧ m ≤ 24002 + j * 400 ∧ (M.length + j ≤ ops.length ∨ M = []) ∧ TrL w1 wr O x a 65536 m (fun _ => 0) M) (fun _ s85 _ => ops.length - (RowKit.intOf s85).toNat)
      case atStart => exact ⟨0, _, _, L, Nat.zero_le _, rfl, by have := HN.out; omega, Or.inl (by have := HL.out; omega), h2.out⟩
      case round =>
        clear h2
        obtain ⟨j, O3, m, M, hj, rfl, hmm, hMj, h⟩ := hrel
        have HH := Hid.mk h
        have HMM := Hid.mk hmm
        have HMJ := Hid.mk hMj
        clear h hmm hMj
        by_cases hlt : j < ops.length
        · have hlt2 : (j : Int) < ops.length := by omega
          have HLT := Hid.mk hlt
          have hib : (j : Int) < 60 := by have := HNO.out; omega
          have HM60 : Hid (M.length ≤ 60) := by
            show _ ≤ _
            rcases HMJ.out with c | c
            · have := HNO.out; omega
            · rw [c]; exact Nat.zero_le _
          clear hlt hj
          go_wp2_with fail
          refine (list_c HH.out (by have := HM60.out; omega)).mono ?_
          rintro e z1 ⟨vl, rfl, l1, l2, hb⟩
          replace HH := Hid.mk (HH.out.later hb)
          clear hb
          cases M with
          | nil =>
            obtain rfl := l2.2 rfl
            clear l1 l2
            go_wp2
            exact ⟨⟨j + 1, O3, m, [], by have := HLT.out; omega, by go_num, by have := HMM.out; omega, Or.inr rfl, HH.out⟩, by have := HLT.out; simp [RowKit.intOf]; omega⟩
          | cons m0 M =>
            obtain ⟨g, cp, rfl, hc⟩ := ws_lit (own_ws (xs := ps (m0 :: M)) l1 (by unfold ps; rw [List.length_map])) (by simp [ps])
            have q0 : z1.cell? ⟨g, 0, none⟩ = some (.int .u64 (m0.p : Nat)) := hc 0 (by simp [ps])
            have hpos : (0 : Int) < ((ps (m0 :: M)).length : Nat) := by rw [ps_cons, List.length_cons]; omega
            have hgood := (HH.out.1.good (sg_at (A := []) HH.out.2.nd)).2
            have cR := remove_l HH.out (by have := HM60.out; omega) (by have := HM60.out; have := HMM.out; have := HNO.out; have := HLT.out; omega) (y := m0.p) (by omega) (zr0 _)
            have e0 : reE 65536 (m0 :: M) m0.p = 0 := by
              unfold reE
              rw [show fnd m0.p (m0 :: M) = some m0 from fnd_at (A := []) (fun c => by cases c)]
            rw [if_pos e0, e0] at cR
            have HL2 : Hid ((remL m0.p (m0 :: M)).length + 1 = (m0 :: M).length) := remL_len2 (by rw [ps_cons]; exact List.mem_cons_self ..)
            clear l1 l2 hc e0
            generalize (ps (m0 :: M)).length = Nl at *
            go_wp2_with fail
            refine cR.mono ?_
            clear cR q0 HH
            rintro e z2 ⟨rfl, hN⟩
            obtain ⟨O9, h9, -, -⟩ := hN.open_
            have H9 := Hid.mk h9
            clear hN h9
            go_wp2
            exact ⟨⟨j + 1, O9, _, _, by have := HLT.out; omega, by go_num, by have := HMM.out; have := HM60.out; omega, Or.inl (by have := HL2.out; rcases HMJ.out with c | c; omega; cases c), H9.out⟩, by have := HLT.out; simp [RowKit.intOf]; omega⟩
        · have hlt2 : ¬ (j : Int) < ops.length := by omega
          have hM0 : M = [] := by
            rcases HMJ.out with c | c
            · exact List.eq_nil_of_length_eq_zero (by omega)
            · exact c
          subst hM0
          clear hlt hj
          go_wp2_with fail
          refine (count_c HH.out.1).mono ?_
          rintro e z1 ⟨rfl, hb⟩
          replace HH := Hid.mk (HH.out.later hb)
          clear hb
          go_wp2_with fail
          refine (HH.out.1.wds rfl (fun _ => rfl)).mono ?_
          rintro e z2 ⟨rfl, hb⟩
          replace HH := Hid.mk (HH.out.later hb)
          clear hb
          go_wp2
          go_ret
          exact ⟨rfl, below_tr HB1.out HH.out.1.hb⟩

theorem walk (ad : Option Addr) (cap : Nat) (ops : List To) (y v : Nat) (w : World) (_ : ops.length ≤ maxLen) (hrd : ToRd w ad ops) (hok : ∀ q ∈ ops, q.Ok) (hy : y < 18446744073709551616) (hv : v < 18446744073709551616) (hF : SPrts w) :
    Calls Tryd.prog 4 #[.slice ad ops.length cap, .int .u64 (y : Nat), .int .u64 (v : Nat)] w fun r w' => r = .returned (.bool true) ∧ Below w.heap.size w w' := by
  by_cases h : 60 < ops.length ∨ ¬ y % 8 = 0 ∨ 65536 ≤ y
  · exact walk_out ad cap ops.length y v w h hF
  · exact walk_in ad cap ops y v w (by omega) (by omega) (by omega) hv hrd hok hF
theorem met {W : World} (h : laidMet Tryd.prog Rows.treeWritesRow.laid W) : SPrts W := by
  have h0 := part_of_reads (g := 2) (by kernel_rfl) (by kernel_rfl) (Lib.laidMet.reads h (n := "portreeve/cap.kindPart") (d := Rows.laid_portreeve_cap_kindPart) (by simp [Rows.treeWritesRow]))
  have h1 := part_of_reads (g := 4) (by kernel_rfl) (by kernel_rfl) (Lib.laidMet.reads h (n := "portreeve/cap.bitsPart") (d := Rows.laid_portreeve_cap_bitsPart) (by simp [Rows.treeWritesRow]))
  have h2 := part_of_reads (g := 5) (by kernel_rfl) (by kernel_rfl) (Lib.laidMet.reads h (n := "portreeve/cap.rightsPart") (d := Rows.laid_portreeve_cap_rightsPart) (by simp [Rows.treeWritesRow]))
  have h3 := part_of_reads (g := 6) (by kernel_rfl) (by kernel_rfl) (Lib.laidMet.reads h (n := "portreeve/cap.guardPart") (d := Rows.laid_portreeve_cap_guardPart) (by simp [Rows.treeWritesRow]))
  have h4 := part_of_reads (g := 7) (by kernel_rfl) (by kernel_rfl) (Lib.laidMet.reads h (n := "portreeve/cap.asidPart") (d := Rows.laid_portreeve_cap_asidPart) (by simp [Rows.treeWritesRow]))
  have h5 := part_of_reads (g := 3) (by kernel_rfl) (by kernel_rfl) (Lib.laidMet.reads h (n := "portreeve/cap.atPart") (d := Rows.laid_portreeve_cap_atPart) (by simp [Rows.treeWritesRow]))
  have g0 := two_of_reads (g := 0) (by kernel_rfl) (by kernel_rfl) (Lib.laidMet.reads h (n := "portreeve/slot.nextPart") (d := Rows.laid_portreeve_slot_nextPart) (by simp [Rows.treeWritesRow]))
  have g1 := two_of_reads (g := 1) (by kernel_rfl) (by kernel_rfl) (Lib.laidMet.reads h (n := "portreeve/slot.prevPart") (d := Rows.laid_portreeve_slot_prevPart) (by simp [Rows.treeWritesRow]))
  exact ⟨⟨h0.1, h0.2.1, h0.2.2, h1.1, h1.2.1, h1.2.2, h2.1, h2.2.1, h2.2.2, h3.1, h3.2.1, h3.2.2, h4.1, h4.2.1, h4.2.2, h5.1, h5.2.1, h5.2.2⟩, g0.1, g0.2, g1.1, g1.2⟩

theorem own : ownKnob Tryd.prog.godebug = none := by kernel_rfl
theorem laidOut : laidOutB Tryd.prog = true := by kernel_rfl

set_option linter.unusedVariables false in
set_option maxRecDepth 100000 in
set_option maxHeartbeats 4000000 in
theorem contract (H : Type) (enc : TypeId × Value → H) (W : World) (base : Nat) (args : Array Value) (ds gs : List (DataW H)) (before : List MemPlace)
    (hval0 : ∀ (j : Nat) t v, Tryd.f4.params[j]? = some t → args[j]? = some v → Value.okWide Tryd.prog W .any base t v)
    (hW : DataW.Whole enc Tryd.prog Tryd.f4.params.toList Rows.treeWritesSpec.vars false W args.toList ds gs before) (hL0 : laidMetH Tryd.prog Rows.treeWritesRow.laid W) :
    Calls Tryd.prog 4 args W fun e W' => ∃ v, e = .returned v ∧ Rows.treeWritesSpec.post enc Tryd.prog Tryd.f4 false true false false W args v W' := by
  have hL := hL0
  rw [MakeChecks.laidMetH_plain _ _ _ (by kernel_rfl)] at hL
  have hval := hval0
  have hW' := hW
  obtain ⟨p, q, hA0, hV, rfl, hfz, hnd⟩ := hW
  have hA : DataW.TrodAll enc Tryd.prog W 0 (fun _ => true) true Tryd.f4.params.toList args.toList ds p := hA0
  rw [Tryd.params4] at hA hval
  obtain ⟨v0, vs0, d0, ds0, p0, q0, hargs, rfl, rfl, h0, r0⟩ := trodAll_cons hA
  obtain ⟨v1, vs1, d1, ds1, p1, q1, rfl, rfl, rfl, h1, r1⟩ := trodAll_cons r0
  obtain ⟨v2, vs2, d2, ds2, p2, q2, rfl, rfl, rfl, h2, r2⟩ := trodAll_cons r1
  obtain ⟨rfl, rfl, rfl⟩ := trodAll_nil r2
  obtain rfl : args = #[v0, v1, v2] := by cases args; simp_all
  obtain ⟨rfl, rfl⟩ := trodVars_none hV
  have k0 := h0
  have lt0 : ∀ x ∈ p0, x.block < W.heap.size := by obtain ⟨m, hm⟩ := k0; exact DataW.trod_lt m _ _ _ hm
  have k1 := h1
  have lt1 : ∀ x ∈ p1, x.block < W.heap.size := by obtain ⟨m, hm⟩ := k1; exact DataW.trod_lt m _ _ _ hm
  have k2 := h2
  have lt2 : ∀ x ∈ p2, x.block < W.heap.size := by obtain ⟨m, hm⟩ := k2; exact DataW.trod_lt m _ _ _ hm
  obtain ⟨ad0, cap0, l0, rfl, mx0, rd0, ok0⟩ := open_ops (hval 0 22 v0 rfl rfl) h0
  obtain ⟨a1, rfl, _, _, w1⟩ := open_int Tryd.underlying23 (hval 1 23 v1 rfl rfl) h1
  obtain ⟨x1, rfl⟩ := Int.eq_ofNat_of_zero_le (bounds_u64 w1).1
  have b1 : x1 < 18446744073709551616 := by have := (bounds_u64 w1).2; omega
  obtain ⟨a2, rfl, _, _, w2⟩ := open_int Tryd.underlying23 (hval 2 23 v2 rfl rfl) h2
  obtain ⟨x2, rfl⟩ := Int.eq_ofNat_of_zero_le (bounds_u64 w2).1
  have b2 : x2 < 18446744073709551616 := by have := (bounds_u64 w2).2; omega
  clear hA0 hval0
  refine (walk ad0 cap0 l0 x1 x2 W mx0 rd0 ok0 b1 b2 (met hL)).mono fun e W' ⟨he, bel⟩ => ?_
  subst he
  exact ⟨_, rfl, _, _, _, [], _, [], hW', trodAll_mk1 (shut_bool Tryd.underlying4 _), (trodAll_cons_mk (Below.trod laidOut (by kernel_rfl) (of_decide_eq_true (by kernel_rfl)) k0 bel lt0) (trodAll_cons_mk (Below.trod laidOut (by kernel_rfl) (of_decide_eq_true (by kernel_rfl)) k1 bel lt1) (trodAll_cons_mk (Below.trod laidOut (by kernel_rfl) (of_decide_eq_true (by kernel_rfl)) k2 bel lt2) trodAll_mk0))), rfl, bel.frame _, fun h => by cases h⟩

theorem laid_met (os : Os) : laidMet Tryd.prog Rows.treeWritesRow.laid ((World.laidAll Tryd.prog os Rows.treeWritesRow.laid).forCall (fun _ _ => 0) ⟨#[], #[.slice none 0 0, .int .u64 0, .int .u64 0], []⟩).memory :=
  laidMet_laidAll _ (by kernel_rfl) (by kernel_rfl)
theorem reads (os : Os) {H : Type} (enc : TypeId × Value → H) : ∃ places, DataW.whole enc Tryd.prog ((World.laidAll Tryd.prog os Rows.treeWritesRow.laid).forCall (fun _ _ => 0) ⟨#[], #[.slice none 0 0, .int .u64 0, .int .u64 0], []⟩).memory Tryd.f4.params.toList Rows.treeWritesSpec.vars false (#[.slice none 0 0, .int .u64 0, .int .u64 0] : Array Value).toList 8 = some ([.nil, .lit (.int .u64 0), .lit (.int .u64 0)], [], places) :=
  ⟨[], by kernel_rfl⟩

set_option maxRecDepth 100000 in
theorem lifted (os : Os) (started : os.Started) (H : Type) (enc : TypeId × Value → H) (F : Stop.Interp) :
    ReturnsInHanded {} Tryd.checked os 4 .any ((OpenSpec.ofChange Rows.treeWritesSpec).preRow enc Tryd.prog Tryd.f4 Rows.treeWritesRow.domain false Rows.treeWritesRow.laid) (((OpenSpec.ofChange Rows.treeWritesSpec).at F).post enc Tryd.prog Tryd.f4 false true false false) := by
  obtain ⟨places, hx⟩ := reads os enc
  refine returnsInHanded_of_row (C := Tryd.checked) (s := (OpenSpec.ofChange Rows.treeWritesSpec)) own started (by kernel_rfl) Tryd.func4
    (witness_row_at (enc := enc) (C := Tryd.checked) false (World.laidAll Tryd.prog os Rows.treeWritesRow.laid) #[.slice none 0 0, .int .u64 0, .int .u64 0] (World.laidAll_os _ _ _) (by kernel_rfl) (by kernel_rfl) (by kernel_rfl)
      (OpenSpec.preRow_of_cond 8 hx (by kernel_rfl) (fun k hk => by cases hk) (by kernel_rfl) (laid_met os))) ?_
  intro W base args ds gs before hval hW _ _ _ hL _ _
  exact contract H enc W base args ds gs before hval hW hL

theorem said : Rows.TreeWritesSaid :=
  OpenClaim.holds_of_cond 4 Tryd.f4 rfl rfl rfl rfl rfl rfl rfl ⟨rfl, rfl, rfl, rfl, rfl⟩ rfl rfl rfl rfl rfl (by kernel_rfl) Tryd.func4 (by kernel_rfl)
    (of_decide_eq_true (by kernel_rfl)) (by unfold Func.isWrapper; first | (rw [if_pos (by decide +kernel)]; kernel_rfl) | (rw [if_neg (by decide +kernel)]; exact ⟨rfl, rfl⟩))
    (fun os started H enc _ F => by rw [OpenClaim.pre_eq_preRow]; exact lifted os started H enc F)

theorem plain (f : FuncId) (fn : Func) (hf : Tryd.pinned.checked.prog.funcNamed "portreeve/portreevelaw13.TreeWrites" = some f) (hfn : Tryd.pinned.checked.prog.funcs[f]? = some fn) :
    false = Tryd.pinned.checked.prog.looks [] ∧ ∀ (j : Nat) t, fn.params[j]? = some t → Tryd.pinned.checked.prog.wantsStandIn t = false := by
  obtain rfl : f = 4 := Option.some.inj ((show Tryd.prog.funcNamed "portreeve/portreevelaw13.TreeWrites" = some 4 by kernel_rfl).symm.trans hf) |>.symm
  obtain rfl : fn = Tryd.f4 := (Option.some.inj (Tryd.func4.symm.trans hfn)).symm
  refine ⟨by kernel_rfl, fun j t ht => ?_⟩
  rw [Tryd.params4] at ht
  have hm : t ∈ [22, 23, 23] := by simpa using Array.mem_of_getElem? ht
  have hall : ([22, 23, 23].all fun u => !Tryd.prog.wantsStandIn u) = true := by kernel_rfl
  exact (show Tryd.prog.wantsStandIn t = false by simpa using List.all_eq_true.1 hall t hm)

theorem card : Rows.TreeWritesCardSaid :=
  Claim7.holds_tied_plain_at .later [] _ _ _ _ said (fun _ h => by cases h) (by kernel_rfl) (fun _ h => by cases h) treeWrites_row_tie rfl ⟨rfl, rfl⟩ (by kernel_rfl) rfl plain (by kernel_rfl)

end Go.Proofs.YtcmndefjmhcbhaaDoor.treeWrites
