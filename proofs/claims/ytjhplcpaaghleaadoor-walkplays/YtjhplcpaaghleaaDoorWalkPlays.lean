/- WalkPlays (P6.1, P6.2): for every size, list of words, level, table and address the law returns true: from any table in any memory any address comes to the document's leaf, or its fault, through the words that the document reads. No condition beyond the row's own. -/
import Derived.Test.YtjhplcpaaghleaaDoorWalkAnc
import Derived.Test.YtjhplcpaaghleaaDoorRefWkG
import Derived.Test.YtjhplcpaaghleaaDoorStretchM
import Derived.Test.YtjhplcpaaghleaaDoorStepOpen
import Derived.Test.YtjhplcpaaghleaaDoorWalkFrame
namespace Go.Proofs.YtjhplcpaaghleaaDoor.walkPlays
open Go.ChangeShapes Go.WideShapes Go.ChangeAt Go.RowKit Go.Lib Go.Maps

theorem rfrom_any (l : Int) (tb va : Nat) (htl : tb < 18446744073709551616) {w : World} {B : Nat → Prop} {S : Nat} {vm : Value} {Lm : WL} {f : Nat → Nat} (hP : Psl w B vm Lm) (hRf : Ref Lm f) (hlen : Lm.length < 100000000) (hout : ∀ x, errA S x ≠ 0 → f x = 0) (hfl : ∀ x, f x < 18446744073709551616) (hS : S ≤ 4294967296) :
    Calls Tryd.prog 11 #[.agg #[.int .u64 (S : Nat), vm], .int .i64 l, .int .u64 tb, .int .u64 va] w fun e w' => ∃ sv, e = .returned (.agg (resL (wk0 S f l tb va).2 sv).toArray) ∧ Psl w' (fun g => w.heap.size ≤ g) sv (wk0 S f l tb va).1 ∧ Below w.heap.size w w' := by
  by_cases h : isLv l = true ∧ tb % 4096 = 0 ∧ va < 281474976710656
  · rw [show wk0 S f l tb va = wk S f va (4 - l).toNat tb from if_pos h]
    exact rfrom_ok l tb va h.1 h.2.1 htl h.2.2 hP hRf hlen hout hfl hS
  · rw [show wk0 S f l tb va = ([], 1, 0, 0) from if_neg h]
    refine (rfrom_bad S vm l tb va h w).mono fun e w' hh => ?_
    exact ⟨.slice none 0 0, hh.1, Or.inl ⟨rfl, rfl⟩, hh.2⟩

/-- What a result without a fault says of its leaf. -/
theorem fin_fact {S : Nat} {f : Nat → Nat} {l : Int} {tb va : Nat} {ll K : Int} {O : Nat} {bU bR bX bS : Bool} {at1 fk fl : Int} (hS : S ≤ 4294967296) (hl : leafL (wk0 S f l tb va).2 = [.int .i64 ll, .int .i64 K, .int .u64 (O : Nat), .bool bU, .bool bR, .bool bX, .bool bS, .int .i64 at1]) (hf : faultL (wk0 S f l tb va).2 = [.int .i64 fk, .int .i64 fl]) (h0 : fk = 0) :
    isLv ll = true ∧ O + offV va ll < 18446744073709551616 ∧ fl = 0 := by
  generalize hr : (wk0 S f l tb va).2 = r at *
  obtain ⟨k, l', x⟩ := r
  by_cases hk : k = 0
  · subst hk
    obtain ⟨-, -, -, -, hlv, hm, hkd⟩ := wk0_leaf hr
    have hho := mf_holds hm hkd
    have e : Value.int .i64 l' :: d7 l' x = [.int .i64 ll, .int .i64 K, .int .u64 (O : Nat), .bool bU, .bool bR, .bool bX, .bool bS, .int .i64 at1] := hl
    unfold d7 at e
    simp only [List.cons.injEq, Value.int.injEq, true_and, and_true] at e
    obtain ⟨rfl, -, e2, -⟩ := e
    have e3 : rdO x = O := by omega
    have : offV va l' < 2 ^ lowK l' := by unfold offV; rw [if_pos hlv]; exact Nat.mod_lt _ (Nat.two_pow_pos _)
    have e4 : [Value.int .i64 0, .int .i64 0] = [.int .i64 fk, .int .i64 fl] := hf
    simp only [List.cons.injEq, Value.int.injEq, true_and, and_true] at e4
    exact ⟨hlv, by omega, e4.2.symm⟩
  · have e : [Value.int .i64 k, .int .i64 l'] = [.int .i64 fk, .int .i64 fl] := by rw [← hf]; exact (if_neg hk).symm
    simp only [List.cons.injEq, Value.int.injEq, true_and, and_true] at e
    exact absurd (e.1.trans h0) hk

theorem cells11 {w1 : World} {g t : Nat} {c0 c1 c2 c3 c4 c5 c6 c7 c8 c9 c10 : Value} (hh : w1.heap[g]? = some (.cells #[c0, c1, c2, c3, c4, c5, c6, c7, c8, c9, c10] t (0, 0))) :
    w1.cell? ⟨g, 0, none⟩ = some c0 ∧ w1.cell? ⟨g, 1, none⟩ = some c1 ∧ w1.cell? ⟨g, 2, none⟩ = some c2 ∧ w1.cell? ⟨g, 3, none⟩ = some c3 ∧ w1.cell? ⟨g, 4, none⟩ = some c4 ∧ w1.cell? ⟨g, 5, none⟩ = some c5 ∧ w1.cell? ⟨g, 6, none⟩ = some c6 ∧ w1.cell? ⟨g, 7, none⟩ = some c7 ∧ w1.cell? ⟨g, 8, none⟩ = some c8 ∧ w1.cell? ⟨g, 9, none⟩ = some c9 ∧ w1.cell? ⟨g, 10, none⟩ = some c10 := by
  refine ⟨?_, ?_, ?_, ?_, ?_, ?_, ?_, ?_, ?_, ?_, ?_⟩
  all_goals (rw [cell_of_row _ _ _ _ _ _ hh]; rfl)

set_option maxHeartbeats 1000000 in
set_option maxRecDepth 100000 in
theorem walk_bad (S : Nat) (ad : Option Addr) (n cap : Nat) (l : Int) (tb va : Nat) (w : World) (hS : S < 18446744073709551616) (h : ¬ rightS S ∨ (rightS S ∧ 60 < n)) (hF : Flds w) :
    Calls Tryd.prog 3 #[.int .u64 S, .slice ad n cap, .int .i64 l, .int .u64 tb, .int .u64 va] w fun e w' => e = .returned (.bool true) ∧ Below w.heap.size w w' := by
  have hL := fun w1 => laid_bad S n cap ad hS h w1
  rcases h with h | ⟨h, hn⟩
  · go_enter Tryd.func3, Tryd.ntmps3
    go_wp2_with fail
    refine (wanchor_any _ hF).mono ?_
    rintro e w1 ⟨rfl, hb1⟩
    go_wp2_with fail
    refine (hL _).mono ?_
    rintro e w2 ⟨rfl, hb2⟩
    go_wp2_with fail
    refine (rightF_c S h _).mono ?_
    rintro e w3 ⟨rfl, rfl⟩
    clear h hL
    go_wp2
    go_ret
    exact ⟨rfl, below_tr hb1 (below_tr hb2 (below_new _ _))⟩
  · have hn2 : (60 : Int) < n := by omega
    go_enter Tryd.func3, Tryd.ntmps3
    go_wp2_with fail
    refine (wanchor_any _ hF).mono ?_
    rintro e w1 ⟨rfl, hb1⟩
    go_wp2_with fail
    refine (hL _).mono ?_
    rintro e w2 ⟨rfl, hb2⟩
    go_wp2_with fail
    refine (rightT_c S h _).mono ?_
    rintro e w3 ⟨rfl, rfl⟩
    clear h hL
    go_wp2
    go_ret
    exact ⟨by first | rfl | (simp; omega), below_tr hb1 (below_tr hb2 (below_new _ _))⟩

set_option maxHeartbeats 8000000 in
set_option maxRecDepth 100000 in
theorem walk_ok (S : Nat) (ad : Option Addr) (n cap : Nat) (A V : Nat → Nat) (l : Int) (tb va : Nat) (w : World) (hrS : rightS S) (hn : n ≤ 60) (hst : StepsAt w ad n A V) (htl : tb < 18446744073709551616) (hv : va < 18446744073709551616) (hF : Flds w) :
    Calls Tryd.prog 3 #[.int .u64 S, .slice ad n cap, .int .i64 l, .int .u64 tb, .int .u64 va] w fun e w' => e = .returned (.bool true) ∧ Below w.heap.size w w' := by
  have hS32 : S ≤ 4294967296 := hrS.2.1
  have HF := Hid.mk hF
  have HST := Hid.mk hst
  clear hst
  go_enter Tryd.func3, Tryd.ntmps3
  go_wp2_with fail
  refine (wanchor_any _ hF).mono ?_
  rintro e w1 ⟨rfl, hb1⟩
  clear hF
  go_wp2_with fail
  refine (laid_ok S n cap ad A V hrS hn _ (HST.out.later hb1)).mono ?_
  rintro e w2 ⟨a, v, rfl, hL⟩
  have HB2 := Hid.mk (below_tr hb1 hL.bel)
  obtain ⟨X, hM, -⟩ := hL.mem
  obtain ⟨Lm, hp, hRf, hLm⟩ := hL.lst
  obtain ⟨p, c, rfl, -⟩ := hp.form
  have hout : ∀ x, errA S x ≠ 0 → fW S A V n x = 0 := fun x hx => hM.outs hx
  have hfl : ∀ x, fW S A V n x < 18446744073709551616 := by obtain ⟨_, _, h⟩ := hM; exact h.fl
  generalize fW S A V n = f at *
  have hL4 := wk0_len S f l tb va
  have CF := fun w1 (h1 : MemAt w1 X a S 61 f) (h2 : Flds w1) => from_any l tb va htl h1 h2
  have CT := fun w1 (h1 : MemAt w1 X a S 61 f) (h2 : Flds w1) => trace_any l tb va htl h1 h2
  have CR := fun w1 (h1 : Psl w1 (fun _ => True) (.slice p Lm.length c) Lm) => rfrom_any l tb va htl h1 hRf (by omega) hout hfl hS32
  obtain ⟨ll, K, O, bU, bR, bX, bS, at1, hlf⟩ := leaf_form (wk0 S f l tb va).2
  obtain ⟨fk, fl, hft⟩ := fault_form (wk0 S f l tb va).2
  have HFIN : Hid (fk = 0 → isLv ll = true ∧ O + offV va ll < 18446744073709551616 ∧ fl = 0) := fun h0 => fin_fact hS32 hlf hft h0
  unfold resL l11 at CR
  rw [hlf, hft] at CF CR
  clear hlf hft
  have HPw := Hid.mk (hp.mono (B' := fun _ => True) (fun _ _ => trivial))
  generalize (wk0 S f l tb va).1 = L at *
  generalize Lm.length = N at *
  have HM := Hid.mk hM
  have HCF := Hid.mk CF
  have HCT := Hid.mk CT
  have HCR := Hid.mk CR
  clear hL hp hM hb1 HST CF CT CR hout hfl hRf hLm hrS
  have K12 := Hid.mk (heap_alloc_new w2 (.cells #[.int .u64 (S : Nat), .slice p N c] 28))
  have HB2a := Hid.mk (below_tr HB2.out (below_new w2 (.cells #[.int .u64 (S : Nat), .slice p N c] 28)))
  have HMa := Hid.mk (HM.out.below (below_new w2 (.cells #[.int .u64 (S : Nat), .slice p N c] 28)))
  have HPa := Hid.mk (HPw.out.below (below_new w2 (.cells #[.int .u64 (S : Nat), .slice p N c] 28)))
  clear HB2 HM HPw
  go_upto_region 6 with fail
  generalize w2.alloc (.cells #[.int .u64 (S : Nat), .slice p N c] 28) = w2a at *
  go_wp2_with fail
  refine (HCF.out _ HMa.out (HF.out.later HB2a.out)).mono ?_
  rintro e w3 ⟨rfl, hb3⟩
  have J12 := Hid.mk (block_later (below_tr hb3 (below2 w3 (.cells #[.int .i64 ll, .int .i64 K, .int .u64 (O : Nat), .bool bU, .bool bR, .bool bX, .bool bS, .int .i64 at1] 35) (.cells #[.int .i64 fk, .int .i64 fl] 37))) K12.out)
  have HB3 := Hid.mk (below_tr HB2a.out (below_tr hb3 (below2 w3 (.cells #[.int .i64 ll, .int .i64 K, .int .u64 (O : Nat), .bool bU, .bool bR, .bool bX, .bool bS, .int .i64 at1] 35) (.cells #[.int .i64 fk, .int .i64 fl] 37))))
  have HM3 := Hid.mk (HMa.out.below (below_tr hb3 (below2 w3 (.cells #[.int .i64 ll, .int .i64 K, .int .u64 (O : Nat), .bool bU, .bool bR, .bool bX, .bool bS, .int .i64 at1] 35) (.cells #[.int .i64 fk, .int .i64 fl] 37))))
  have HP3 := Hid.mk (HPa.out.below (below_tr hb3 (below2 w3 (.cells #[.int .i64 ll, .int .i64 K, .int .u64 (O : Nat), .bool bU, .bool bR, .bool bX, .bool bS, .int .i64 at1] 35) (.cells #[.int .i64 fk, .int .i64 fl] 37))))
  have J14 := Hid.mk (heap_alloc2_old w3 (.cells #[.int .i64 ll, .int .i64 K, .int .u64 (O : Nat), .bool bU, .bool bR, .bool bX, .bool bS, .int .i64 at1] 35) (.cells #[.int .i64 fk, .int .i64 fl] 37))
  have J15 := Hid.mk (heap_alloc2_new w3 (.cells #[.int .i64 ll, .int .i64 K, .int .u64 (O : Nat), .bool bU, .bool bR, .bool bX, .bool bS, .int .i64 at1] 35) (.cells #[.int .i64 fk, .int .i64 fl] 37))
  clear hb3 K12 HB2a HMa HPa HCF
  go_upto_region 7 with fail
  generalize (w3.alloc (.cells #[.int .i64 ll, .int .i64 K, .int .u64 (O : Nat), .bool bU, .bool bR, .bool bX, .bool bS, .int .i64 at1] 35)).alloc (.cells #[.int .i64 fk, .int .i64 fl] 37) = w4 at *
  obtain ⟨y0, y1, -, -⟩ := row2_facts J12.out
  go_wp2_with fail
  refine (HCR.out _ HP3.out).mono ?_
  rintro e w5 ⟨sv, rfl, hps, hb5⟩
  obtain ⟨ps, cs, rfl, hcs⟩ := hps.form
  generalize hNN : L.length = NN at *
  have HNN := Hid.mk hNN
  clear hNN
  have I14 := Hid.mk (block_later (below_tr hb5 (below_new w5 (.cells #[.int .i64 ll, .int .i64 K, .int .u64 (O : Nat), .bool bU, .bool bR, .bool bX, .bool bS, .int .i64 at1, .int .i64 fk, .int .i64 fl, .slice ps NN cs] 44))) J14.out)
  have I15 := Hid.mk (block_later (below_tr hb5 (below_new w5 (.cells #[.int .i64 ll, .int .i64 K, .int .u64 (O : Nat), .bool bU, .bool bR, .bool bX, .bool bS, .int .i64 at1, .int .i64 fk, .int .i64 fl, .slice ps NN cs] 44))) J15.out)
  have I16 := Hid.mk (heap_alloc_new w5 (.cells #[.int .i64 ll, .int .i64 K, .int .u64 (O : Nat), .bool bU, .bool bR, .bool bX, .bool bS, .int .i64 at1, .int .i64 fk, .int .i64 fl, .slice ps NN cs] 44))
  have HB5 := Hid.mk (below_tr HB3.out (below_tr hb5 (below_new w5 (.cells #[.int .i64 ll, .int .i64 K, .int .u64 (O : Nat), .bool bU, .bool bR, .bool bX, .bool bS, .int .i64 at1, .int .i64 fk, .int .i64 fl, .slice ps NN cs] 44))))
  have HM5 := Hid.mk (HM3.out.below (below_tr hb5 (below_new w5 (.cells #[.int .i64 ll, .int .i64 K, .int .u64 (O : Nat), .bool bU, .bool bR, .bool bX, .bool bS, .int .i64 at1, .int .i64 fk, .int .i64 fl, .slice ps NN cs] 44))))
  have HCS := Hid.mk hcs
  have HB5n := Hid.mk (below_new w5 (.cells #[.int .i64 ll, .int .i64 K, .int .u64 (O : Nat), .bool bU, .bool bR, .bool bX, .bool bS, .int .i64 at1, .int .i64 fk, .int .i64 fl, .slice ps NN cs] 44))
  clear hb5 hps hcs J12 J14 J15 HB3 HM3 HP3 HCR y0 y1
  go_upto_region 8 with fail
  generalize w5.alloc (.cells #[.int .i64 ll, .int .i64 K, .int .u64 (O : Nat), .bool bU, .bool bR, .bool bX, .bool bS, .int .i64 at1, .int .i64 fk, .int .i64 fl, .slice ps NN cs] 44) = w6 at *
  obtain ⟨⟨a0, a1, a2, a3, a4, a5, a6, a7⟩, -⟩ := cells8 I14.out
  obtain ⟨b0, b1, -, -⟩ := row2_facts I15.out
  obtain ⟨r0, r1, r2, r3, r4, r5, r6, r7, r8, r9, r10⟩ := cells11 I16.out
  go_wp2_with fail
  refine (HCT.out _ HM5.out (HF.out.later HB5.out)).mono ?_
  rintro e wt ⟨vt, rfl, hpt, hbt⟩
  obtain ⟨pt, ct, rfl, hct⟩ := hpt.form
  rw [HNN.out] at hct ⊢
  have HBT := Hid.mk (below_tr HB5.out hbt)
  have HB6 := Hid.mk (below_tr HB5n.out hbt)
  have I14t := Hid.mk (block_later hbt I14.out)
  have I15t := Hid.mk (block_later hbt I15.out)
  have I16t := Hid.mk (block_later hbt I16.out)
  have HCT2 := Hid.mk hct
  clear hbt hpt hct HB5 HB5n HM5 I14 I15 I16 HCT a0 a1 a2 a3 a4 a5 a6 a7 b0 b1 r0 r1 r2 r3 r4 r5 r6 r7 r8 r9 r10
  obtain ⟨-, -, -, -, -, -, -, -, -, -, r10⟩ := cells11 I16t.out
  go_wp2
  clear r10
  go_loopw [83] (fun s83 wr => ∃ i : Nat, i ≤ NN ∧ s83 = .int .i64 (i : Nat) ∧ Below wt.heap.size wt wr) (fun s83 _ => NN - (RowKit.intOf s83).toNat)
  case atStart => exact ⟨0, by omega, rfl, Below.refl _ _⟩
  case round =>
    obtain ⟨i, hi, rfl, hbr⟩ := hrel
    have HBR := Hid.mk hbr
    clear hbr
    by_cases hlt : i < NN
    · have hlt2 : (i : Int) < NN := by omega
      obtain ⟨g, rfl, hg, q1, q2⟩ := HCT2.out i hlt
      obtain ⟨g', rfl, hg', q3, q4⟩ := HCS.out i hlt
      have d1 := cell_later HBR.out q1
      have d2 := cell_later HBR.out q2
      have d3 := cell_later (below_tr HBR.out (below_new wr (.cells #[.int .u64 (L[i]!.1 : Nat), .int .u64 (L[i]!.2 : Nat)] 48))) (cell_later HB6.out q3)
      have d4 := cell_later (below_tr HBR.out (below_new wr (.cells #[.int .u64 (L[i]!.1 : Nat), .int .u64 (L[i]!.2 : Nat)] 48))) (cell_later HB6.out q4)
      have K19 := Hid.mk (heap_alloc_new wr (.cells #[.int .u64 (L[i]!.1 : Nat), .int .u64 (L[i]!.2 : Nat)] 48))
      have K16 := Hid.mk (block_later (below_tr HBR.out (below_new wr (.cells #[.int .u64 (L[i]!.1 : Nat), .int .u64 (L[i]!.2 : Nat)] 48))) I16t.out)
      have HB9 := Hid.mk (below_tr HBR.out (below_new wr (.cells #[.int .u64 (L[i]!.1 : Nat), .int .u64 (L[i]!.2 : Nat)] 48)))
      have D3 := Hid.mk d3
      have D4 := Hid.mk d4
      generalize L[i]!.1 = pa at *
      generalize L[i]!.2 = pw at *
      clear q1 q2 q3 q4 d3 d4
      go_upto_region 16 with fail
      generalize wr.alloc (.cells #[.int .u64 (pa : Nat), .int .u64 (pw : Nat)] 48) = w9 at *
      obtain ⟨e0, e1, -, -⟩ := row2_facts K19.out
      obtain ⟨-, -, -, -, -, -, -, -, -, -, r10⟩ := cells11 K16.out
      have d3 := D3.out
      have d4 := D4.out
      clear d1 d2 D3 D4 K19 K16
      go_quiet (fail)
      go_wp2
      exact ⟨⟨i + 1, by omega, by go_num, below_tr HB9.out (below_drewN ⟨_, rfl⟩)⟩, by simp [RowKit.intOf]; omega⟩
    · obtain rfl : i = NN := by omega
      by_cases hfk : fk = 0
      · subst hfk
        obtain ⟨hlv, hsum, hfl0⟩ := HFIN.out rfl
        subst hfl0
        have hOut := fun w1 => out_any ll K O bU bR bX bS at1 va hv hsum w1
        have hOf := fun w1 => refOffset_any va ll hlv hv w1
        have hsum2 : (O : Int) + (offV va ll : Int) < 18446744073709551616 := by omega
        have hwr : IntKind.u64.wrap ((O : Int) + (offV va ll : Int)) = (O : Int) + (offV va ll : Int) := by rw [IntKind.wrap_u64]; omega
        rw [Int.natCast_add] at hOut
        generalize offV va ll = oq at *
        obtain ⟨⟨a0, a1, a2, a3, a4, a5, a6, a7⟩, -⟩ := cells8 (block_later HBR.out I14t.out)
        obtain ⟨b0, b1, -, -⟩ := row2_facts (block_later HBR.out I15t.out)
        obtain ⟨r0, r1, r2, -⟩ := cells11 (block_later HBR.out I16t.out)
        have hB6 := below_tr HBT.out HBR.out
        have HOut := Hid.mk hOut
        clear hOut hsum HCT2 HCS HFIN
        go_wp2
        go_region_held3 (fun w' => w'.cell? ⟨w3.heap.size, 0, none⟩ = some (.int .i64 ll) ∧ w'.cell? ⟨w3.heap.size, 1, none⟩ = some (.int .i64 K) ∧ w'.cell? ⟨w3.heap.size, 2, none⟩ = some (.int .u64 (O : Nat)) ∧ w'.cell? ⟨w3.heap.size, 3, none⟩ = some (.bool bU) ∧ w'.cell? ⟨w3.heap.size, 4, none⟩ = some (.bool bR) ∧ w'.cell? ⟨w3.heap.size, 5, none⟩ = some (.bool bX) ∧ w'.cell? ⟨w3.heap.size, 6, none⟩ = some (.bool bS) ∧ w'.cell? ⟨w3.heap.size, 7, none⟩ = some (.int .i64 at1) ∧ w'.cell? ⟨w3.heap.size + 1, 0, none⟩ = some (.int .i64 0) ∧ w'.cell? ⟨w3.heap.size + 1, 1, none⟩ = some (.int .i64 0) ∧ w'.cell? ⟨w5.heap.size, 0, none⟩ = some (.int .i64 ll) ∧ w'.cell? ⟨w5.heap.size, 1, none⟩ = some (.int .i64 K) ∧ w'.cell? ⟨w5.heap.size, 2, none⟩ = some (.int .u64 (O : Nat)) ∧ Below w.heap.size w w')
          ((go_split_ands; refine ⟨?_, ?_, ?_, ?_, ?_, ?_, ?_, ?_, ?_, ?_, ?_, ?_, ?_, ?_⟩ <;> first | (with_reducible assumption) | (with_reducible exact cell_later hbm (by assumption)) | (with_reducible exact below_tr (by assumption) hbm) | (with_reducible exact cell_drw (by assumption)) | (with_reducible exact hB6.drew) | exact hB6.drew))
          (first
            | (go_at_call 13; refine (HOut.out _).mono ?_; rintro e w' ⟨rfl, hbm⟩)
            | (go_at_call 14; refine (hOf _).mono ?_; rintro e w' ⟨rfl, hbm⟩))
        all_goals go_wp2
        all_goals go_ret
        all_goals exact ⟨by first | rfl | (rw [hwr]; simp; done) | (simp [hwr]; done), by go_split_ands; assumption⟩
      · obtain ⟨b0, b1, -, -⟩ := row2_facts (block_later HBR.out I15t.out)
        clear HFIN HCT2 HCS
        go_wp2
        go_quiet (fail)
        go_wp2
        go_ret
        exact ⟨rfl, below_tr HBT.out (below_tr HBR.out (below_drewN ⟨_, rfl⟩))⟩

theorem walk (S : Nat) (ad : Option Addr) (n cap : Nat) (A V : Nat → Nat) (l : Int) (tb va : Nat) (w : World) (hS : S < 18446744073709551616) (_mx : n ≤ maxLen) (hst : StepsAt w ad n A V) (htl : tb < 18446744073709551616) (hv : va < 18446744073709551616) (hF : Flds w) :
    Calls Tryd.prog 3 #[.int .u64 S, .slice ad n cap, .int .i64 l, .int .u64 tb, .int .u64 va] w fun e w' => e = .returned (.bool true) ∧ Below w.heap.size w w' := by
  by_cases hr : rightS S
  · by_cases hn : n ≤ 60
    · exact walk_ok S ad n cap A V l tb va w hr hn hst htl hv hF
    · exact walk_bad S ad n cap l tb va w hS (Or.inr ⟨hr, by omega⟩) hF
  · exact walk_bad S ad n cap l tb va w hS (Or.inl hr) hF

theorem met {W : World} (h : laidMet Tryd.prog Rows.walkPlaysRow.laid W) : Flds W := by
  have h1 := pair_of_reads (g := 0) (by kernel_rfl) (by kernel_rfl) (Lib.laidMet.reads h (n := "portreeve/desc.outField") (d := Rows.laid_portreeve_desc_outField) (by simp [Rows.walkPlaysRow]))
  have h2 := pair_of_reads (g := 1) (by kernel_rfl) (by kernel_rfl) (Lib.laidMet.reads h (n := "portreeve/desc.attrField") (d := Rows.laid_portreeve_desc_attrField) (by simp [Rows.walkPlaysRow]))
  exact ⟨h1.1, h1.2, h2.1, h2.2⟩

theorem own : ownKnob Tryd.prog.godebug = none := by kernel_rfl
theorem laidOut : laidOutB Tryd.prog = true := by kernel_rfl

set_option linter.unusedVariables false in
set_option maxRecDepth 100000 in
theorem contract (H : Type) (enc : TypeId × Value → H) (W : World) (base : Nat) (args : Array Value) (ds gs : List (DataW H)) (before : List MemPlace)
    (hval0 : ∀ (j : Nat) t v, Tryd.f3.params[j]? = some t → args[j]? = some v → Value.okWide Tryd.prog W .any base t v)
    (hW : DataW.Whole enc Tryd.prog Tryd.f3.params.toList Rows.walkPlaysSpec.vars false W args.toList ds gs before) (hL0 : laidMetH Tryd.prog Rows.walkPlaysRow.laid W) :
    Calls Tryd.prog 3 args W fun e W' => ∃ v, e = .returned v ∧ Rows.walkPlaysSpec.post enc Tryd.prog Tryd.f3 false true false false W args v W' := by
  have hL := hL0
  rw [MakeChecks.laidMetH_plain _ _ _ (by kernel_rfl)] at hL
  have hval := hval0
  have hW' := hW
  obtain ⟨p, q, hA0, hV, rfl, hfz, hnd⟩ := hW
  have hA : DataW.TrodAll enc Tryd.prog W 0 (fun _ => true) true Tryd.f3.params.toList args.toList ds p := hA0
  rw [Tryd.params3] at hA hval
  obtain ⟨v0, vs0, d0, ds0, p0, q0, hargs, rfl, rfl, h0, r0⟩ := trodAll_cons hA
  obtain ⟨v1, vs1, d1, ds1, p1, q1, rfl, rfl, rfl, h1, r1⟩ := trodAll_cons r0
  obtain ⟨v2, vs2, d2, ds2, p2, q2, rfl, rfl, rfl, h2, r2⟩ := trodAll_cons r1
  obtain ⟨v3, vs3, d3, ds3, p3, q3, rfl, rfl, rfl, h3, r3⟩ := trodAll_cons r2
  obtain ⟨v4, vs4, d4, ds4, p4, q4, rfl, rfl, rfl, h4, r4⟩ := trodAll_cons r3
  obtain ⟨rfl, rfl, rfl⟩ := trodAll_nil r4
  obtain rfl : args = #[v0, v1, v2, v3, v4] := by cases args; simp_all
  obtain ⟨rfl, rfl⟩ := trodVars_none hV
  have k0 := h0
  have lt0 : ∀ x ∈ p0, x.block < W.heap.size := by obtain ⟨m, hm⟩ := k0; exact DataW.trod_lt m _ _ _ hm
  have k1 := h1
  have lt1 : ∀ x ∈ p1, x.block < W.heap.size := by obtain ⟨m, hm⟩ := k1; exact DataW.trod_lt m _ _ _ hm
  have k2 := h2
  have lt2 : ∀ x ∈ p2, x.block < W.heap.size := by obtain ⟨m, hm⟩ := k2; exact DataW.trod_lt m _ _ _ hm
  have k3 := h3
  have lt3 : ∀ x ∈ p3, x.block < W.heap.size := by obtain ⟨m, hm⟩ := k3; exact DataW.trod_lt m _ _ _ hm
  have k4 := h4
  have lt4 : ∀ x ∈ p4, x.block < W.heap.size := by obtain ⟨m, hm⟩ := k4; exact DataW.trod_lt m _ _ _ hm
  obtain ⟨a0, rfl, _, _, w0⟩ := open_int Tryd.underlying22 (hval 0 22 v0 rfl rfl) h0
  obtain ⟨x0, rfl⟩ := Int.eq_ofNat_of_zero_le (bounds_u64 w0).1
  have b0 : x0 < 18446744073709551616 := by have := (bounds_u64 w0).2; omega
  obtain ⟨ad1, n1, cap1, A1, V1, rfl, mx1, ho1⟩ := open_steps (hval 1 23 v1 rfl rfl) h1
  obtain ⟨a2, rfl, _, _, w2⟩ := open_int Tryd.underlying3 (hval 2 3 v2 rfl rfl) h2
  obtain ⟨a3, rfl, _, _, w3⟩ := open_int Tryd.underlying22 (hval 3 22 v3 rfl rfl) h3
  obtain ⟨x3, rfl⟩ := Int.eq_ofNat_of_zero_le (bounds_u64 w3).1
  have b3 : x3 < 18446744073709551616 := by have := (bounds_u64 w3).2; omega
  obtain ⟨a4, rfl, _, _, w4⟩ := open_int Tryd.underlying22 (hval 4 22 v4 rfl rfl) h4
  obtain ⟨x4, rfl⟩ := Int.eq_ofNat_of_zero_le (bounds_u64 w4).1
  have b4 : x4 < 18446744073709551616 := by have := (bounds_u64 w4).2; omega
  clear hA0 hval0
  refine (walk x0 ad1 n1 cap1 A1 V1 a2 x3 x4 W b0 mx1 ho1 b3 b4 (met hL)).mono fun e W' ⟨he, bel⟩ => ?_
  subst he
  exact ⟨_, rfl, _, _, _, [], _, [], hW', trodAll_mk1 (shut_bool Tryd.underlying4 _), (trodAll_cons_mk (Below.trod laidOut (by kernel_rfl) (of_decide_eq_true (by kernel_rfl)) k0 bel lt0) (trodAll_cons_mk (Below.trod laidOut (by kernel_rfl) (of_decide_eq_true (by kernel_rfl)) k1 bel lt1) (trodAll_cons_mk (Below.trod laidOut (by kernel_rfl) (of_decide_eq_true (by kernel_rfl)) k2 bel lt2) (trodAll_cons_mk (Below.trod laidOut (by kernel_rfl) (of_decide_eq_true (by kernel_rfl)) k3 bel lt3) (trodAll_cons_mk (Below.trod laidOut (by kernel_rfl) (of_decide_eq_true (by kernel_rfl)) k4 bel lt4) trodAll_mk0))))), rfl, bel.frame _, fun h => by cases h⟩

theorem laid_met (os : Os) : laidMet Tryd.prog Rows.walkPlaysRow.laid ((World.laidAll Tryd.prog os Rows.walkPlaysRow.laid).forCall (fun _ _ => 0) ⟨#[], #[.int .u64 0, .slice none 0 0, .int .i64 0, .int .u64 0, .int .u64 0], []⟩).memory :=
  laidMet_laidAll _ (by kernel_rfl) (by kernel_rfl)
theorem reads (os : Os) {H : Type} (enc : TypeId × Value → H) : ∃ places, DataW.whole enc Tryd.prog ((World.laidAll Tryd.prog os Rows.walkPlaysRow.laid).forCall (fun _ _ => 0) ⟨#[], #[.int .u64 0, .slice none 0 0, .int .i64 0, .int .u64 0, .int .u64 0], []⟩).memory Tryd.f3.params.toList Rows.walkPlaysSpec.vars false (#[.int .u64 0, .slice none 0 0, .int .i64 0, .int .u64 0, .int .u64 0] : Array Value).toList 8 = some ([.lit (.int .u64 0), .nil, .lit (.int .i64 0), .lit (.int .u64 0), .lit (.int .u64 0)], [], places) :=
  ⟨[], by kernel_rfl⟩

set_option maxRecDepth 100000 in
theorem lifted (os : Os) (started : os.Started) (H : Type) (enc : TypeId × Value → H) (F : Stop.Interp) :
    ReturnsInHanded {} Tryd.checked os 3 .any ((OpenSpec.ofChange Rows.walkPlaysSpec).preRow enc Tryd.prog Tryd.f3 Rows.walkPlaysRow.domain false Rows.walkPlaysRow.laid) (((OpenSpec.ofChange Rows.walkPlaysSpec).at F).post enc Tryd.prog Tryd.f3 false true false false) := by
  obtain ⟨places, hx⟩ := reads os enc
  refine returnsInHanded_of_row (C := Tryd.checked) (s := (OpenSpec.ofChange Rows.walkPlaysSpec)) own started (by kernel_rfl) Tryd.func3
    (witness_row_at (enc := enc) (C := Tryd.checked) false (World.laidAll Tryd.prog os Rows.walkPlaysRow.laid) #[.int .u64 0, .slice none 0 0, .int .i64 0, .int .u64 0, .int .u64 0] (World.laidAll_os _ _ _) (by kernel_rfl) (by kernel_rfl) (by kernel_rfl)
      (OpenSpec.preRow_of_cond 8 hx (by kernel_rfl) (fun k hk => by cases hk) (by kernel_rfl) (laid_met os))) ?_
  intro W base args ds gs before hval hW _ _ _ hL _ _
  exact contract H enc W base args ds gs before hval hW hL

theorem said : Rows.WalkPlaysSaid :=
  OpenClaim.holds_of_cond 3 Tryd.f3 rfl rfl rfl rfl rfl rfl rfl ⟨rfl, rfl, rfl, rfl, rfl⟩ rfl rfl rfl rfl rfl (by kernel_rfl) Tryd.func3 (by kernel_rfl)
    (of_decide_eq_true (by kernel_rfl)) (by unfold Func.isWrapper; first | (rw [if_pos (by decide +kernel)]; kernel_rfl) | (rw [if_neg (by decide +kernel)]; exact ⟨rfl, rfl⟩))
    (fun os started H enc _ F => by rw [OpenClaim.pre_eq_preRow]; exact lifted os started H enc F)

theorem plain (f : FuncId) (fn : Func) (hf : Tryd.pinned.checked.prog.funcNamed "portreeve/portreevelaw06.WalkPlays" = some f) (hfn : Tryd.pinned.checked.prog.funcs[f]? = some fn) :
    false = Tryd.pinned.checked.prog.looks [] ∧ ∀ (j : Nat) t, fn.params[j]? = some t → Tryd.pinned.checked.prog.wantsStandIn t = false := by
  obtain rfl : f = 3 := Option.some.inj ((show Tryd.prog.funcNamed "portreeve/portreevelaw06.WalkPlays" = some 3 by kernel_rfl).symm.trans hf) |>.symm
  obtain rfl : fn = Tryd.f3 := (Option.some.inj (Tryd.func3.symm.trans hfn)).symm
  refine ⟨by kernel_rfl, fun j t ht => ?_⟩
  rw [Tryd.params3] at ht
  have hm : t ∈ [22, 23, 3, 22, 22] := by simpa using Array.mem_of_getElem? ht
  have hall : ([22, 23, 3, 22, 22].all fun u => !Tryd.prog.wantsStandIn u) = true := by kernel_rfl
  exact (show Tryd.prog.wantsStandIn t = false by simpa using List.all_eq_true.1 hall t hm)

theorem card : Rows.WalkPlaysCardSaid :=
  Claim7.holds_tied_plain_at .later [] _ _ _ _ said (fun _ h => by cases h) (by kernel_rfl) (fun _ h => by cases h) walkPlays_row_tie rfl ⟨rfl, rfl⟩ (by kernel_rfl) rfl plain (by kernel_rfl)

end Go.Proofs.YtjhplcpaaghleaaDoor.walkPlays
