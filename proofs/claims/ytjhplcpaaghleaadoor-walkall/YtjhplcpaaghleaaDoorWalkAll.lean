/- WalkAll (P6.2): for every list of words, root, address and bound the law returns true: the list of all leaves, if there are not too many, has just those stretches, rising, in which walks end, each with its leaf. No condition beyond the row's own. -/
import Derived.Test.YtjhplcpaaghleaaDoorWalkAllP
namespace Go.Proofs.YtjhplcpaaghleaaDoor.walkAll
open Go.ChangeShapes Go.WideShapes Go.ChangeAt Go.RowKit Go.Lib Go.Maps

def lastV (L : ML) : Nat → Nat
  | 0 => 0
  | i + 1 => L[i]!.1
theorem cells9 {w1 : World} {g t : Nat} {c0 c1 c2 c3 c4 c5 c6 c7 c8 : Value} (hh : w1.heap[g]? = some (.cells #[c0, c1, c2, c3, c4, c5, c6, c7, c8] t (0, 0))) :
    w1.cell? ⟨g, 0, none⟩ = some c0 ∧ w1.cell? ⟨g, 1, none⟩ = some c1 ∧ w1.cell? ⟨g, 2, none⟩ = some c2 ∧ w1.cell? ⟨g, 3, none⟩ = some c3 ∧ w1.cell? ⟨g, 4, none⟩ = some c4 ∧ w1.cell? ⟨g, 5, none⟩ = some c5 ∧ w1.cell? ⟨g, 6, none⟩ = some c6 ∧ w1.cell? ⟨g, 7, none⟩ = some c7 ∧ w1.cell? ⟨g, 8, none⟩ = some c8 := by
  refine ⟨?_, ?_, ?_, ?_, ?_, ?_, ?_, ?_, ?_⟩
  all_goals (rw [cell_of_row _ _ _ _ _ _ hh]; rfl)

set_option maxHeartbeats 8000000 in
set_option maxRecDepth 100000 in
theorem walk_short (ad : Option Addr) (n cap : Nat) (A V : Nat → Nat) (root va : Nat) (most : Int) (w : World) (hn : n ≤ 60) (hst : StepsAt w ad n A V) (hr : root < 18446744073709551616) (hv : va < 18446744073709551616) (hF : Flds w) :
    Calls Tryd.prog 6 #[.slice ad n cap, .int .u64 root, .int .u64 va, .int .i64 most] w fun e w' => e = .returned (.bool true) ∧ Below w.heap.size w w' := by
  have HF := Hid.mk hF
  have HST := Hid.mk hst
  clear hst
  go_enter Tryd.func6, Tryd.ntmps6
  go_wp2_with fail
  refine (wanchor_any _ hF).mono ?_
  rintro e w1 ⟨rfl, hb1⟩
  clear hF
  go_wp2_with fail
  refine (laid_ok 1048576 n cap ad A V right20 hn _ (HST.out.later hb1)).mono ?_
  rintro e w2 ⟨a, v, rfl, hL⟩
  have HB2 := Hid.mk (below_tr hb1 hL.bel)
  obtain ⟨X, hM, -⟩ := hL.mem
  obtain ⟨Lm, hp, -⟩ := hL.lst
  obtain ⟨p, c, rfl, -⟩ := hp.form
  have HM := Hid.mk hM
  clear hL hp hM hb1 HST
  generalize Lm.length = N at *
  generalize fW 1048576 A V n = f at *
  clear Lm
  go_wp2_with fail
  refine (all_c root most hr (HM.out.below (below_new _ _)) (HF.out.later (below_tr HB2.out (below_new _ _)))).mono ?_
  rintro e w3 hA
  rcases hA with ⟨-, rfl, hb3⟩ | ⟨L, v3, hR, rfl, hown, hL8, hb3⟩
  · have HB3 := Hid.mk (below_tr HB2.out (below_tr (below_new _ _) hb3))
    clear hb3 HM
    go_wp2
    go_ret
    exact ⟨rfl, HB3.out⟩
  · obtain ⟨hG, hmost⟩ := all_good (by decide) hR
    obtain ⟨pl, cl, rfl, hcl⟩ := own_cells hown
    have HB3 := Hid.mk (below_tr HB2.out (below_tr (below_new _ _) hb3))
    have HM3 := Hid.mk (HM.out.below (below_tr (below_new _ _) hb3))
    have HCL := Hid.mk hcl
    have HEF : Hid (∀ i, i < L.length → L[i]!.1 < 281474976710656 ∧ (wk0 1048576 f 0 root L[i]!.1).2 = (0, L[i]!.2.1, L[i]!.2.2) ∧ isLv L[i]!.2.1 = true ∧ baseV L[i]!.1 L[i]!.2.1 = L[i]!.1 ∧ (0 < i → L[i - 1]!.1 < L[i]!.1)) := fun i hi => entry_fact hG hi
    have HFN : Hid (fnd va L L.length = decide ((wk0 1048576 f 0 root va).2.1 = 0)) := found_iff hG
    have HMT : Hid (∀ i, i < L.length → mt va L[i]! = true → (wk0 1048576 f 0 root va).2 = (0, L[i]!.2.1, L[i]!.2.2)) := fun i hi hm => mt_walk (entry_fact hG hi).2.1 hm
    have CW := fun w1 (h1 : MemAt w1 X a 1048576 61 f) (h2 : Flds w1) => walk_any root va hr h1 h2
    have CQ : ∀ i, i < L.length → ∀ w1, MemAt w1 X a 1048576 61 f → Flds w1 → Calls Tryd.prog 15 #[.pointer (some ⟨a, 0, none⟩), .int .u64 root, .int .u64 (L[i]!.1 : Nat)] w1 fun e w' => e = .returned (.tuple #[.agg (Value.int .i64 L[i]!.2.1 :: d7 L[i]!.2.1 L[i]!.2.2).toArray, .agg #[.int .i64 0, .int .i64 0]]) ∧ Below w1.heap.size w1 w' := fun i hi w1 h1 h2 => by
      have := walk_any root L[i]!.1 hr h1 h2
      rw [(entry_fact hG hi).2.1] at this
      exact this
    have HNX : Hid (∀ i, fnd va L (i + 1) = (fnd va L i || mt va L[i]!)) := fun i => rfl
    have HCQ := Hid.mk CQ
    obtain ⟨ll, aK, aO, aU, aR, aX, aS, aA, hlf⟩ := leaf_form (wk0 1048576 f 0 root va).2
    obtain ⟨fk, fl, hft⟩ := fault_form (wk0 1048576 f 0 root va).2
    have HLF := Hid.mk hlf
    have HFT := Hid.mk hft
    rw [hlf, hft] at CW
    have HCW := Hid.mk CW
    have hmax : ¬ (max most 0 < (L.length : Int)) := by omega
    have hm0 : (0 : Int) ≤ most := by omega
    have hL9 : (L.length : Int) ≤ 8193 := by omega
    generalize (wk0 1048576 f 0 root va).2 = r at *
    clear hb3 HM HB2 CW CQ hG hR hown hcl hlf hft hL8
    have HLL := Hid.mk (rfl : L.length = L.length)
    go_wp2_with fail
    refine (HCW.out _ HM3.out (HF.out.later HB3.out)).mono ?_
    rintro e w4 ⟨rfl, hb4⟩
    have HBT := Hid.mk (below_tr HB3.out (below_tr hb4 (below2 w4 (.cells #[.int .i64 ll, .int .i64 aK, .int .u64 (aO : Nat), .bool aU, .bool aR, .bool aX, .bool aS, .int .i64 aA] 35) (.cells #[.int .i64 fk, .int .i64 fl] 37))))
    have HM4 := Hid.mk (HM3.out.below (below_tr hb4 (below2 w4 (.cells #[.int .i64 ll, .int .i64 aK, .int .u64 (aO : Nat), .bool aU, .bool aR, .bool aX, .bool aS, .int .i64 aA] 35) (.cells #[.int .i64 fk, .int .i64 fl] 37))))
    have HB34 := Hid.mk (below_tr hb4 (below2 w4 (.cells #[.int .i64 ll, .int .i64 aK, .int .u64 (aO : Nat), .bool aU, .bool aR, .bool aX, .bool aS, .int .i64 aA] 35) (.cells #[.int .i64 fk, .int .i64 fl] 37)))
    have I14 := Hid.mk (heap_alloc2_old w4 (.cells #[.int .i64 ll, .int .i64 aK, .int .u64 (aO : Nat), .bool aU, .bool aR, .bool aX, .bool aS, .int .i64 aA] 35) (.cells #[.int .i64 fk, .int .i64 fl] 37))
    have I15 := Hid.mk (heap_alloc2_new w4 (.cells #[.int .i64 ll, .int .i64 aK, .int .u64 (aO : Nat), .bool aU, .bool aR, .bool aX, .bool aS, .int .i64 aA] 35) (.cells #[.int .i64 fk, .int .i64 fl] 37))
    clear hb4 HB3 HM3 HCW hmax hm0 hmost
    go_upto_region 10 with fail
    generalize (w4.alloc (.cells #[.int .i64 ll, .int .i64 aK, .int .u64 (aO : Nat), .bool aU, .bool aR, .bool aX, .bool aS, .int .i64 aA] 35)).alloc (.cells #[.int .i64 fk, .int .i64 fl] 37) = wt at *
    go_wp2
    go_loopw [16, 17, 67] (fun s16 s17 s67 wr => ∃ i : Nat, i ≤ L.length ∧ s67 = .int .i64 (i : Nat) ∧ s16 = .bool (fnd va L i) ∧ s17 = .int .u64 ((lastV L i : Nat) : Int) ∧ Below wt.heap.size wt wr) (fun _ _ s67 _ => L.length - (RowKit.intOf s67).toNat)
    case atStart => exact ⟨0, by omega, rfl, rfl, rfl, Below.refl _ _⟩
    case round =>
      obtain ⟨i, hi, rfl, rfl, rfl, hbr⟩ := hrel
      have HBR := Hid.mk hbr
      clear hbr
      by_cases hlt : i < L.length
      · have hlt2 : (i : Int) < L.length := by omega
        have hib : (i : Int) < 8193 := by omega
        have HLT := Hid.mk hlt
        obtain ⟨g, rfl, hg, hc⟩ := HCL.out i hlt
        have EF := HEF.out i hlt
        have hCQ := HCQ.out i hlt
        have HMTi := Hid.mk (HMT.out i hlt)
        have HNXi := Hid.mk (HNX.out i)
        have hB9 := below_tr HB34.out HBR.out
        have d0 := cell_later hB9 (hc 0 _ rfl)
        have d1 := cell_later hB9 (hc 1 _ rfl)
        have d2 := cell_later hB9 (hc 2 _ rfl)
        have d3 := cell_later hB9 (hc 3 _ rfl)
        have d4 := cell_later hB9 (hc 4 _ rfl)
        have d5 := cell_later hB9 (hc 5 _ rfl)
        have d6 := cell_later hB9 (hc 6 _ rfl)
        have d7' := cell_later hB9 (hc 7 _ rfl)
        have d8 := cell_later hB9 (hc 8 _ rfl)
        have HLS : Hid (True ∧ (0 < i → lastV L i < L[i]!.1)) := ⟨trivial, fun h0 => by
          have := EF.2.2.2.2 h0
          obtain ⟨j, rfl⟩ : ∃ j, i = j + 1 := ⟨i - 1, by omega⟩
          exact this⟩
        have HEQ : Hid (lastV L (i + 1) = L[i]!.1) := rfl
        generalize lastV L i = la at *
        clear hc hB9 hi
        generalize L[i]! = q at *
        obtain ⟨qv, ql, qx⟩ := q
        simp only at *
        obtain ⟨hqv, -, hlv, hqb, -⟩ := EF
        have hBq : ∀ w1, Calls Tryd.prog 17 #[.int .u64 qv, .int .i64 ql] w1 fun e w' => e = .returned (.int .u64 (qv : Nat)) ∧ w1 = w' := fun w1 => by
          have := base_any qv ql (by omega) w1
          rw [hqb] at this
          exact this
        have HD7 : Hid (leafL (0, ql, qx) = [.int .i64 ql, .int .i64 (rdK ql qx), .int .u64 (rdO qx : Nat), .bool (rdU ql qx), .bool (rdR ql qx), .bool (rdX ql qx), .bool (rdS ql qx), .int .i64 (rdA ql qx)]) := rfl
        rw [show d7 ql qx = [.int .i64 (rdK ql qx), .int .u64 (rdO qx : Nat), .bool (rdU ql qx), .bool (rdR ql qx), .bool (rdX ql qx), .bool (rdS ql qx), .int .i64 (rdA ql qx)] from rfl] at hCQ
        generalize rdK ql qx = K at *
        generalize rdO qx = O at *
        generalize rdU ql qx = bU at *
        generalize rdR ql qx = bR at *
        generalize rdX ql qx = bX at *
        generalize rdS ql qx = bS at *
        generalize rdA ql qx = at1 at *
        have HCQi := Hid.mk hCQ
        clear hCQ hqb hqv
        rw [Nat.add_zero] at d0
        go_upto_region 15 with fail
        have HB5 := Hid.mk (below_tr HBR.out (below_new wr (.cells #[.int .u64 (qv : Nat), .int .i64 ql, .int .i64 K, .int .u64 (O : Nat), .bool bU, .bool bR, .bool bX, .bool bS, .int .i64 at1] 63)))
        have K19a := Hid.mk (heap_alloc_new wr (.cells #[.int .u64 (qv : Nat), .int .i64 ql, .int .i64 K, .int .u64 (O : Nat), .bool bU, .bool bR, .bool bX, .bool bS, .int .i64 at1] 63))
        clear d0 d1 d2 d3 d4 d5 d6 d7' d8 HBR
        generalize wr.alloc (.cells #[.int .u64 (qv : Nat), .int .i64 ql, .int .i64 K, .int .u64 (O : Nat), .bool bU, .bool bR, .bool bX, .bool bS, .int .i64 at1] 63) = w5 at *
        obtain ⟨q0, q1, q2, q3, q4, q5, q6, q7, q8⟩ := cells9 K19a.out
        go_wp2_with fail
        refine (HCQi.out _ (HM4.out.below HB5.out) (HF.out.later (below_tr HBT.out HB5.out))).mono ?_
        rintro e w6 ⟨rfl, hb6⟩
        have K19 := Hid.mk (block_later (below_tr hb6 (below2 w6 (.cells #[.int .i64 ql, .int .i64 K, .int .u64 (O : Nat), .bool bU, .bool bR, .bool bX, .bool bS, .int .i64 at1] 35) (.cells #[.int .i64 0, .int .i64 0] 37))) K19a.out)
        have HB7 := Hid.mk (below_tr HB5.out (below_tr hb6 (below2 w6 (.cells #[.int .i64 ql, .int .i64 K, .int .u64 (O : Nat), .bool bU, .bool bR, .bool bX, .bool bS, .int .i64 at1] 35) (.cells #[.int .i64 0, .int .i64 0] 37))))
        have K20 := Hid.mk (heap_alloc2_old w6 (.cells #[.int .i64 ql, .int .i64 K, .int .u64 (O : Nat), .bool bU, .bool bR, .bool bX, .bool bS, .int .i64 at1] 35) (.cells #[.int .i64 0, .int .i64 0] 37))
        have K21 := Hid.mk (heap_alloc2_new w6 (.cells #[.int .i64 ql, .int .i64 K, .int .u64 (O : Nat), .bool bU, .bool bR, .bool bX, .bool bS, .int .i64 at1] 35) (.cells #[.int .i64 0, .int .i64 0] 37))
        clear hb6 HB5 K19a HCQi q0 q1 q2 q3 q4 q5 q6 q7 q8
        go_upto_region 16 with fail
        generalize (w6.alloc (.cells #[.int .i64 ql, .int .i64 K, .int .u64 (O : Nat), .bool bU, .bool bR, .bool bX, .bool bS, .int .i64 at1] 35)).alloc (.cells #[.int .i64 0, .int .i64 0] 37) = w7 at *
        obtain ⟨q0, q1, q2, q3, q4, q5, q6, q7, q8⟩ := cells9 K19.out
        obtain ⟨⟨m0, m1, m2, m3, m4, m5, m6, m7⟩, -⟩ := cells8 K20.out
        obtain ⟨z0, z1, -, -⟩ := row2_facts K21.out
        clear K20 K21
        by_cases hi0 : 0 < i
        · have dla : decide (qv ≤ la) = false := decide_eq_false (by have := HLS.out.2 hi0; omega)
          have dI : decide ((0 : Int) < (i : Int)) = true := decide_eq_true (by omega)
          clear hlt HLS
          go_quiet ((go_at_call 17; refine Calls.quiet_of_same ((hBq _).mono (fun e w1 hh => ⟨hh.1, hh.2.symm⟩))))
          have HBd := Hid.mk (below_tr HB7.out (below_drewN (w' := w7.drewN nq) ⟨_, rfl⟩))
          have K19d := Hid.mk (block_later (below_drewN (w' := w7.drewN nq) ⟨_, rfl⟩) K19.out)
          clear q0 q1 q2 q3 q4 q5 q6 q7 q8 m0 m1 m2 m3 m4 m5 m6 m7 z0 z1 K19 HB7 dI
          generalize w7.drewN nq = w8 at *
          obtain ⟨q0, q1, q2, q3, q4, q5, q6, q7, q8⟩ := cells9 K19d.out
          obtain ⟨⟨e0, e1, e2, e3, e4, e5, e6, e7⟩, -⟩ := cells8 (block_later HBd.out I14.out)
          go_wp2
          cases hfi : fnd va L i
          · cases hlow : lowB va
            · have hLo : ∀ w1, Calls Tryd.prog 20 #[.int .u64 va] w1 fun e w' => e = .returned (.bool false) ∧ w1 = w' := fun w1 => by rw [← hlow]; exact low_any va w1
              have hmf : mt va (qv, ql, qx) = false := by unfold mt; rw [hlow]; rfl
              go_quiet ((go_at_call 20; refine Calls.quiet_of_same ((hLo _).mono (fun e w1 hh => ⟨hh.1, hh.2.symm⟩))))
              go_wp2
              exact ⟨⟨i + 1, by have := HLT.out; omega, by go_num, by rw [HNXi.out, hfi, hmf]; rfl, by rw [HEQ.out], below_tr HBd.out (below_drewN ⟨_, rfl⟩)⟩, by have := HLT.out; simp [RowKit.intOf]; omega⟩
            · have hLo : ∀ w1, Calls Tryd.prog 20 #[.int .u64 va] w1 fun e w' => e = .returned (.bool true) ∧ w1 = w' := fun w1 => by rw [← hlow]; exact low_any va w1
              by_cases hbe : baseV va ql = qv
              · have hmf : mt va (qv, ql, qx) = true := by unfold mt; rw [hlow, Bool.true_and]; exact decide_eq_true hbe
                have hBv : ∀ w1, Calls Tryd.prog 17 #[.int .u64 va, .int .i64 ql] w1 fun e w' => e = .returned (.int .u64 (qv : Nat)) ∧ w1 = w' := fun w1 => by rw [← hbe]; exact base_any va ql hv w1
                have hrr := HMTi.out hmf
                have hl2 := HLF.out
                rw [hrr, HD7.out] at hl2
                simp only [List.cons.injEq, Value.int.injEq, Value.bool.injEq, true_and, and_true] at hl2
                obtain ⟨g0, g1, g2, g3, g4, g5, g6, g7⟩ := hl2
                rw [← g0] at e0
                rw [← g1] at e1
                rw [← g2] at e2
                rw [← g3] at e3
                rw [← g4] at e4
                rw [← g5] at e5
                rw [← g6] at e6
                rw [← g7] at e7
                clear g0 g1 g2 g3 g4 g5 g6 g7 hrr
                go_quiet (first
                  | (go_at_call 20; refine Calls.quiet_of_same ((hLo _).mono (fun e w1 hh => ⟨hh.1, hh.2.symm⟩)))
                  | (go_at_call 17; refine Calls.quiet_of_same ((hBv _).mono (fun e w1 hh => ⟨hh.1, hh.2.symm⟩))))
                go_wp2
                exact ⟨⟨i + 1, by have := HLT.out; omega, by go_num, by rw [HNXi.out, hfi, hmf]; rfl, by rw [HEQ.out], below_tr HBd.out (below_drewN ⟨_, rfl⟩)⟩, by have := HLT.out; simp [RowKit.intOf]; omega⟩
              · have hmf : mt va (qv, ql, qx) = false := by unfold mt; rw [hlow, Bool.true_and]; exact decide_eq_false hbe
                have hBv := fun w1 => base_any va ql hv w1
                have hbi : ¬ ((baseV va ql : Int) = (qv : Int)) := by omega
                generalize baseV va ql = bb at *
                have dbb : ((bb : Int) == (qv : Int)) = false := by simp; omega
                go_quiet (first
                  | (go_at_call 20; refine Calls.quiet_of_same ((hLo _).mono (fun e w1 hh => ⟨hh.1, hh.2.symm⟩)))
                  | (go_at_call 17; refine Calls.quiet_of_same ((hBv _).mono (fun e w1 hh => ⟨hh.1, hh.2.symm⟩))))
                go_wp2
                exact ⟨⟨i + 1, by have := HLT.out; omega, by go_num, by rw [HNXi.out, hfi, hmf]; rfl, by rw [HEQ.out], below_tr HBd.out (below_drewN ⟨_, rfl⟩)⟩, by have := HLT.out; simp [RowKit.intOf]; omega⟩
          · go_quiet (fail)
            go_wp2
            exact ⟨⟨i + 1, by have := HLT.out; omega, by go_num, by rw [HNXi.out, hfi]; rfl, by rw [HEQ.out], below_tr HBd.out (below_drewN ⟨_, rfl⟩)⟩, by have := HLT.out; simp [RowKit.intOf]; omega⟩
        · have dI : decide (0 < i) = false := decide_eq_false (by omega)
          clear hlt HLS hi0
          go_quiet ((go_at_call 17; refine Calls.quiet_of_same ((hBq _).mono (fun e w1 hh => ⟨hh.1, hh.2.symm⟩))))
          have HBd := Hid.mk (below_tr HB7.out (below_drewN (w' := w7.drewN nq) ⟨_, rfl⟩))
          have K19d := Hid.mk (block_later (below_drewN (w' := w7.drewN nq) ⟨_, rfl⟩) K19.out)
          clear q0 q1 q2 q3 q4 q5 q6 q7 q8 m0 m1 m2 m3 m4 m5 m6 m7 z0 z1 K19 HB7 dI
          generalize w7.drewN nq = w8 at *
          obtain ⟨q0, q1, q2, q3, q4, q5, q6, q7, q8⟩ := cells9 K19d.out
          obtain ⟨⟨e0, e1, e2, e3, e4, e5, e6, e7⟩, -⟩ := cells8 (block_later HBd.out I14.out)
          go_wp2
          cases hfi : fnd va L i
          · cases hlow : lowB va
            · have hLo : ∀ w1, Calls Tryd.prog 20 #[.int .u64 va] w1 fun e w' => e = .returned (.bool false) ∧ w1 = w' := fun w1 => by rw [← hlow]; exact low_any va w1
              have hmf : mt va (qv, ql, qx) = false := by unfold mt; rw [hlow]; rfl
              go_quiet ((go_at_call 20; refine Calls.quiet_of_same ((hLo _).mono (fun e w1 hh => ⟨hh.1, hh.2.symm⟩))))
              go_wp2
              exact ⟨⟨i + 1, by have := HLT.out; omega, by go_num, by rw [HNXi.out, hfi, hmf]; rfl, by rw [HEQ.out], below_tr HBd.out (below_drewN ⟨_, rfl⟩)⟩, by have := HLT.out; simp [RowKit.intOf]; omega⟩
            · have hLo : ∀ w1, Calls Tryd.prog 20 #[.int .u64 va] w1 fun e w' => e = .returned (.bool true) ∧ w1 = w' := fun w1 => by rw [← hlow]; exact low_any va w1
              by_cases hbe : baseV va ql = qv
              · have hmf : mt va (qv, ql, qx) = true := by unfold mt; rw [hlow, Bool.true_and]; exact decide_eq_true hbe
                have hBv : ∀ w1, Calls Tryd.prog 17 #[.int .u64 va, .int .i64 ql] w1 fun e w' => e = .returned (.int .u64 (qv : Nat)) ∧ w1 = w' := fun w1 => by rw [← hbe]; exact base_any va ql hv w1
                have hrr := HMTi.out hmf
                have hl2 := HLF.out
                rw [hrr, HD7.out] at hl2
                simp only [List.cons.injEq, Value.int.injEq, Value.bool.injEq, true_and, and_true] at hl2
                obtain ⟨g0, g1, g2, g3, g4, g5, g6, g7⟩ := hl2
                rw [← g0] at e0
                rw [← g1] at e1
                rw [← g2] at e2
                rw [← g3] at e3
                rw [← g4] at e4
                rw [← g5] at e5
                rw [← g6] at e6
                rw [← g7] at e7
                clear g0 g1 g2 g3 g4 g5 g6 g7 hrr
                go_quiet (first
                  | (go_at_call 20; refine Calls.quiet_of_same ((hLo _).mono (fun e w1 hh => ⟨hh.1, hh.2.symm⟩)))
                  | (go_at_call 17; refine Calls.quiet_of_same ((hBv _).mono (fun e w1 hh => ⟨hh.1, hh.2.symm⟩))))
                go_wp2
                exact ⟨⟨i + 1, by have := HLT.out; omega, by go_num, by rw [HNXi.out, hfi, hmf]; rfl, by rw [HEQ.out], below_tr HBd.out (below_drewN ⟨_, rfl⟩)⟩, by have := HLT.out; simp [RowKit.intOf]; omega⟩
              · have hmf : mt va (qv, ql, qx) = false := by unfold mt; rw [hlow, Bool.true_and]; exact decide_eq_false hbe
                have hBv := fun w1 => base_any va ql hv w1
                have hbi : ¬ ((baseV va ql : Int) = (qv : Int)) := by omega
                generalize baseV va ql = bb at *
                have dbb : ((bb : Int) == (qv : Int)) = false := by simp; omega
                go_quiet (first
                  | (go_at_call 20; refine Calls.quiet_of_same ((hLo _).mono (fun e w1 hh => ⟨hh.1, hh.2.symm⟩)))
                  | (go_at_call 17; refine Calls.quiet_of_same ((hBv _).mono (fun e w1 hh => ⟨hh.1, hh.2.symm⟩))))
                go_wp2
                exact ⟨⟨i + 1, by have := HLT.out; omega, by go_num, by rw [HNXi.out, hfi, hmf]; rfl, by rw [HEQ.out], below_tr HBd.out (below_drewN ⟨_, rfl⟩)⟩, by have := HLT.out; simp [RowKit.intOf]; omega⟩
          · go_quiet (fail)
            go_wp2
            exact ⟨⟨i + 1, by have := HLT.out; omega, by go_num, by rw [HNXi.out, hfi]; rfl, by rw [HEQ.out], below_tr HBd.out (below_drewN ⟨_, rfl⟩)⟩, by have := HLT.out; simp [RowKit.intOf]; omega⟩
      · obtain rfl : i = L.length := by omega
        obtain ⟨b0, b1, -, -⟩ := row2_facts (block_later HBR.out I15.out)
        have hfn := HFN.out
        by_cases h0 : r.1 = 0
        · have hf2 := HFT.out
          rw [show faultL r = [.int .i64 0, .int .i64 0] from if_pos h0] at hf2
          simp only [List.cons.injEq, Value.int.injEq, true_and, and_true] at hf2
          obtain ⟨rfl, rfl⟩ := hf2
          rw [decide_eq_true h0] at hfn
          go_wp2
          go_ret
          exact ⟨by simp [hfn], below_tr HBT.out HBR.out⟩
        · have hf2 := HFT.out
          rw [show faultL r = [.int .i64 r.1, .int .i64 r.2.1] from if_neg h0] at hf2
          simp only [List.cons.injEq, Value.int.injEq, true_and, and_true] at hf2
          obtain ⟨e1, -⟩ := hf2
          have hfk : ¬ fk = 0 := fun c => h0 (e1.trans c)
          rw [decide_eq_false h0] at hfn
          clear e1
          go_wp2
          go_ret
          exact ⟨by simp [hfn], below_tr HBT.out HBR.out⟩

theorem walk (ad : Option Addr) (n cap : Nat) (A V : Nat → Nat) (root va : Nat) (most : Int) (w : World) (_mx : n ≤ maxLen) (hst : StepsAt w ad n A V) (hr : root < 18446744073709551616) (hv : va < 18446744073709551616) (hF : Flds w) :
    Calls Tryd.prog 6 #[.slice ad n cap, .int .u64 root, .int .u64 va, .int .i64 most] w fun e w' => e = .returned (.bool true) ∧ Below w.heap.size w w' := by
  by_cases hn : n ≤ 60
  · exact walk_short ad n cap A V root va most w hn hst hr hv hF
  · exact walk_long ad n cap root va most w (by omega) hF

theorem met {W : World} (h : laidMet Tryd.prog Rows.walkAllRow.laid W) : Flds W := by
  have h1 := pair_of_reads (g := 0) (by kernel_rfl) (by kernel_rfl) (Lib.laidMet.reads h (n := "portreeve/desc.outField") (d := Rows.laid_portreeve_desc_outField) (by simp [Rows.walkAllRow]))
  have h2 := pair_of_reads (g := 1) (by kernel_rfl) (by kernel_rfl) (Lib.laidMet.reads h (n := "portreeve/desc.attrField") (d := Rows.laid_portreeve_desc_attrField) (by simp [Rows.walkAllRow]))
  exact ⟨h1.1, h1.2, h2.1, h2.2⟩

theorem own : ownKnob Tryd.prog.godebug = none := by kernel_rfl
theorem laidOut : laidOutB Tryd.prog = true := by kernel_rfl

set_option linter.unusedVariables false in
set_option maxRecDepth 100000 in
theorem contract (H : Type) (enc : TypeId × Value → H) (W : World) (base : Nat) (args : Array Value) (ds gs : List (DataW H)) (before : List MemPlace)
    (hval0 : ∀ (j : Nat) t v, Tryd.f6.params[j]? = some t → args[j]? = some v → Value.okWide Tryd.prog W .any base t v)
    (hW : DataW.Whole enc Tryd.prog Tryd.f6.params.toList Rows.walkAllSpec.vars false W args.toList ds gs before) (hL0 : laidMetH Tryd.prog Rows.walkAllRow.laid W) :
    Calls Tryd.prog 6 args W fun e W' => ∃ v, e = .returned v ∧ Rows.walkAllSpec.post enc Tryd.prog Tryd.f6 false true false false W args v W' := by
  have hL := hL0
  rw [MakeChecks.laidMetH_plain _ _ _ (by kernel_rfl)] at hL
  have hval := hval0
  have hW' := hW
  obtain ⟨p, q, hA0, hV, rfl, hfz, hnd⟩ := hW
  have hA : DataW.TrodAll enc Tryd.prog W 0 (fun _ => true) true Tryd.f6.params.toList args.toList ds p := hA0
  rw [Tryd.params6] at hA hval
  obtain ⟨v0, vs0, d0, ds0, p0, q0, hargs, rfl, rfl, h0, r0⟩ := trodAll_cons hA
  obtain ⟨v1, vs1, d1, ds1, p1, q1, rfl, rfl, rfl, h1, r1⟩ := trodAll_cons r0
  obtain ⟨v2, vs2, d2, ds2, p2, q2, rfl, rfl, rfl, h2, r2⟩ := trodAll_cons r1
  obtain ⟨v3, vs3, d3, ds3, p3, q3, rfl, rfl, rfl, h3, r3⟩ := trodAll_cons r2
  obtain ⟨rfl, rfl, rfl⟩ := trodAll_nil r3
  obtain rfl : args = #[v0, v1, v2, v3] := by cases args; simp_all
  obtain ⟨rfl, rfl⟩ := trodVars_none hV
  have k0 := h0
  have lt0 : ∀ x ∈ p0, x.block < W.heap.size := by obtain ⟨m, hm⟩ := k0; exact DataW.trod_lt m _ _ _ hm
  have k1 := h1
  have lt1 : ∀ x ∈ p1, x.block < W.heap.size := by obtain ⟨m, hm⟩ := k1; exact DataW.trod_lt m _ _ _ hm
  have k2 := h2
  have lt2 : ∀ x ∈ p2, x.block < W.heap.size := by obtain ⟨m, hm⟩ := k2; exact DataW.trod_lt m _ _ _ hm
  have k3 := h3
  have lt3 : ∀ x ∈ p3, x.block < W.heap.size := by obtain ⟨m, hm⟩ := k3; exact DataW.trod_lt m _ _ _ hm
  obtain ⟨ad0, n0, cap0, A0, V0, rfl, mx0, ho0⟩ := open_steps (hval 0 23 v0 rfl rfl) h0
  obtain ⟨a1, rfl, _, _, w1⟩ := open_int Tryd.underlying22 (hval 1 22 v1 rfl rfl) h1
  obtain ⟨x1, rfl⟩ := Int.eq_ofNat_of_zero_le (bounds_u64 w1).1
  have b1 : x1 < 18446744073709551616 := by have := (bounds_u64 w1).2; omega
  obtain ⟨a2, rfl, _, _, w2⟩ := open_int Tryd.underlying22 (hval 2 22 v2 rfl rfl) h2
  obtain ⟨x2, rfl⟩ := Int.eq_ofNat_of_zero_le (bounds_u64 w2).1
  have b2 : x2 < 18446744073709551616 := by have := (bounds_u64 w2).2; omega
  obtain ⟨a3, rfl, _, _, w3⟩ := open_int Tryd.underlying3 (hval 3 3 v3 rfl rfl) h3
  clear hA0 hval0
  refine (walk ad0 n0 cap0 A0 V0 x1 x2 a3 W mx0 ho0 b1 b2 (met hL)).mono fun e W' ⟨he, bel⟩ => ?_
  subst he
  exact ⟨_, rfl, _, _, _, [], _, [], hW', trodAll_mk1 (shut_bool Tryd.underlying4 _), (trodAll_cons_mk (Below.trod laidOut (by kernel_rfl) (of_decide_eq_true (by kernel_rfl)) k0 bel lt0) (trodAll_cons_mk (Below.trod laidOut (by kernel_rfl) (of_decide_eq_true (by kernel_rfl)) k1 bel lt1) (trodAll_cons_mk (Below.trod laidOut (by kernel_rfl) (of_decide_eq_true (by kernel_rfl)) k2 bel lt2) (trodAll_cons_mk (Below.trod laidOut (by kernel_rfl) (of_decide_eq_true (by kernel_rfl)) k3 bel lt3) trodAll_mk0)))), rfl, bel.frame _, fun h => by cases h⟩

theorem laid_met (os : Os) : laidMet Tryd.prog Rows.walkAllRow.laid ((World.laidAll Tryd.prog os Rows.walkAllRow.laid).forCall (fun _ _ => 0) ⟨#[], #[.slice none 0 0, .int .u64 0, .int .u64 0, .int .i64 0], []⟩).memory :=
  laidMet_laidAll _ (by kernel_rfl) (by kernel_rfl)
theorem reads (os : Os) {H : Type} (enc : TypeId × Value → H) : ∃ places, DataW.whole enc Tryd.prog ((World.laidAll Tryd.prog os Rows.walkAllRow.laid).forCall (fun _ _ => 0) ⟨#[], #[.slice none 0 0, .int .u64 0, .int .u64 0, .int .i64 0], []⟩).memory Tryd.f6.params.toList Rows.walkAllSpec.vars false (#[.slice none 0 0, .int .u64 0, .int .u64 0, .int .i64 0] : Array Value).toList 8 = some ([.nil, .lit (.int .u64 0), .lit (.int .u64 0), .lit (.int .i64 0)], [], places) :=
  ⟨[], by kernel_rfl⟩

set_option maxRecDepth 100000 in
theorem lifted (os : Os) (started : os.Started) (H : Type) (enc : TypeId × Value → H) (F : Stop.Interp) :
    ReturnsInHanded {} Tryd.checked os 6 .any ((OpenSpec.ofChange Rows.walkAllSpec).preRow enc Tryd.prog Tryd.f6 Rows.walkAllRow.domain false Rows.walkAllRow.laid) (((OpenSpec.ofChange Rows.walkAllSpec).at F).post enc Tryd.prog Tryd.f6 false true false false) := by
  obtain ⟨places, hx⟩ := reads os enc
  refine returnsInHanded_of_row (C := Tryd.checked) (s := (OpenSpec.ofChange Rows.walkAllSpec)) own started (by kernel_rfl) Tryd.func6
    (witness_row_at (enc := enc) (C := Tryd.checked) false (World.laidAll Tryd.prog os Rows.walkAllRow.laid) #[.slice none 0 0, .int .u64 0, .int .u64 0, .int .i64 0] (World.laidAll_os _ _ _) (by kernel_rfl) (by kernel_rfl) (by kernel_rfl)
      (OpenSpec.preRow_of_cond 8 hx (by kernel_rfl) (fun k hk => by cases hk) (by kernel_rfl) (laid_met os))) ?_
  intro W base args ds gs before hval hW _ _ _ hL _ _
  exact contract H enc W base args ds gs before hval hW hL

theorem said : Rows.WalkAllSaid :=
  OpenClaim.holds_of_cond 6 Tryd.f6 rfl rfl rfl rfl rfl rfl rfl ⟨rfl, rfl, rfl, rfl, rfl⟩ rfl rfl rfl rfl rfl (by kernel_rfl) Tryd.func6 (by kernel_rfl)
    (of_decide_eq_true (by kernel_rfl)) (by unfold Func.isWrapper; first | (rw [if_pos (by decide +kernel)]; kernel_rfl) | (rw [if_neg (by decide +kernel)]; exact ⟨rfl, rfl⟩))
    (fun os started H enc _ F => by rw [OpenClaim.pre_eq_preRow]; exact lifted os started H enc F)

theorem plain (f : FuncId) (fn : Func) (hf : Tryd.pinned.checked.prog.funcNamed "portreeve/portreevelaw06.WalkAll" = some f) (hfn : Tryd.pinned.checked.prog.funcs[f]? = some fn) :
    false = Tryd.pinned.checked.prog.looks [] ∧ ∀ (j : Nat) t, fn.params[j]? = some t → Tryd.pinned.checked.prog.wantsStandIn t = false := by
  obtain rfl : f = 6 := Option.some.inj ((show Tryd.prog.funcNamed "portreeve/portreevelaw06.WalkAll" = some 6 by kernel_rfl).symm.trans hf) |>.symm
  obtain rfl : fn = Tryd.f6 := (Option.some.inj (Tryd.func6.symm.trans hfn)).symm
  refine ⟨by kernel_rfl, fun j t ht => ?_⟩
  rw [Tryd.params6] at ht
  have hm : t ∈ [23, 22, 22, 3] := by simpa using Array.mem_of_getElem? ht
  have hall : ([23, 22, 22, 3].all fun u => !Tryd.prog.wantsStandIn u) = true := by kernel_rfl
  exact (show Tryd.prog.wantsStandIn t = false by simpa using List.all_eq_true.1 hall t hm)

theorem card : Rows.WalkAllCardSaid :=
  Claim7.holds_tied_plain_at .later [] _ _ _ _ said (fun _ h => by cases h) (by kernel_rfl) (fun _ h => by cases h) walkAll_row_tie rfl ⟨rfl, rfl⟩ (by kernel_rfl) rfl plain (by kernel_rfl)

end Go.Proofs.YtjhplcpaaghleaaDoor.walkAll
