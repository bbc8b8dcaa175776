/- P40 -/
import Derived.Test.YtfdbdeckohaneaaGreatDoorP22
import Derived.Test.YtfdbdeckohaneaaGreatDoorP21
import Derived.Test.YtfdbdeckohaneaaGreatDoorP20
set_option maxHeartbeats 16000000
set_option maxRecDepth 100000
namespace Go.Proofs.YtfdbdeckohaneaaGreatDoor.TB
open Go.RowKit
theorem etyR : ETy 30 94 := ⟨Tryz.underlying30, by kernel_rfl⟩
structure RLst (w : World) (ad : Option Addr) (cap : Nat) (l : List En) : Prop where
 rd : RdA w ad l
 cp : l.length ≤ cap
 cm : cap ≤ maxLen
 fm : ad = none ∨ ∃ g o, ad = some ⟨g, o, none⟩
 lt : ∀ a, ad = some a → a.block < w.heap.size
theorem RLst.later {w w' : World} {ad : Option Addr} {cap : Nat} {l : List En} (h : RLst w ad cap l) (hb : Below w.heap.size w w') : RLst w' ad cap l := ⟨h.rd.later hb, h.cp, h.cm, h.fm, fun a ha => Nat.lt_of_lt_of_le (h.lt a ha) hb.size⟩
theorem RLst.turn {w w' : World} {X : Nat → Prop} {ad : Option Addr} {cap : Nat} {l : List En} (h : RLst w ad cap l) (ht : Turn X w w') (hn : notIn X ad) : RLst w' ad cap l := ⟨h.rd.turn ht hn, h.cp, h.cm, h.fm, fun a ha => Nat.lt_of_lt_of_le (h.lt a ha) ht.size⟩
theorem own_rl {w : World} {base : Nat} {T : TypeId} {v : Value} {l : List En} (h : w.ownsRow base T 10 v l.length (ecs l)) : ∃ ad cap, v = .slice ad l.length cap ∧ RLst w ad cap l ∧ (∀ a, ad = some a → base ≤ a.block ∧ a.block < w.heap.size) := by
 obtain ⟨ad, cap, hv, hr, hb⟩ := own_rd h
 refine ⟨ad, cap, hv, ?_, hb⟩
 rcases h.2 with ⟨rfl, h0⟩ | ⟨g, c, cur, rfl, h1, hg, h2, h3, -⟩
 ·simp only [Value.slice.injEq] at hv
  exact ⟨hr, by omega, by rw [← hv.2.2]; exact Nat.zero_le _, Or.inl hv.1.symm, fun a ha => (hb a ha).2⟩
 ·simp only [Value.slice.injEq] at hv
  exact ⟨hr, by omega, by omega, Or.inr ⟨g, 0, hv.1.symm⟩, fun a ha => (hb a ha).2⟩
theorem own_cap {w : World} {base g n cap : Nat} {T : TypeId} {k : Nat} {xs : List Value} (h : w.ownsRow base T 10 (.slice (some ⟨g, 0, none⟩) k cap) n xs) : n ≤ cap := by
 rcases h.2 with ⟨e, -⟩ | ⟨g', c, cur, e, h1, hg, h2, -⟩
 ·cases e
 ·cases e; exact h2
def Fs (w : World) (ad ad' : Option Addr) : Prop := ad' = ad ∨ ∀ b, ad' = some b → w.heap.size ≤ b.block
theorem qcb {w wr w1 w4 : World} {v : Value} {b : Nat} {T : TypeId} {n : Nat} {xs : List Value} (hB : Below w.heap.size w wr) (h1 : Below wr.heap.size wr w1) (ho : wr.ownsRow b T 10 v n xs) (hb : w.heap.size ≤ b) (hg : w1.grownBy w4 v.ownBlock) : Below w.heap.size w w4 :=
 (qab hB h1).grown hg (Nat.le_trans hB.size h1.size) (fun q hq => Nat.le_trans hb (ho.lt q hq).1)
theorem block_app {w w4 : World} {v : Value} {b g : Nat} {o : Obj} (hg : w.grownBy w4 v.ownBlock) (h : w.heap[g]? = some o) (hv : ∀ q, v.ownBlock = some q → b ≤ q) (hlt : g < b) : w4.heap[g]? = some o :=
 (hg.block g (qag h) (fun c => by have := hv g c.symm; omega)).trans h
theorem qea {w w' : World} {b : Nat} {T : TypeId} {v : Value} {n : Nat} {xs : List Value} (h : w.ownsRow b T 10 v n xs) (hb : Below w.heap.size w w') : w'.ownsRow b T 10 v n xs :=
 qdp h (fun g hg => hb.block g (h.lt g hg).2)
def qcv (l : List En) (most : Int) (e : En) : List En := if memB e l = true then l else if most < (l.length : Int) + 1 then (l ++ [e]).eraseIdx 0 else l ++ [e]
theorem rfill_c (l : List En) (e : En) (ad : Option Addr) (cap : Nat) (most : Int) (w : World) (hm : 1 ≤ most) (hn : l.length ≤ 900) (hr : RLst w ad cap l) :
  Calls Tryz.prog 93 #[.slice ad l.length cap, .int .i64 most, e.v] w fun r w' => ∃ ad' cap', r = .returned (.slice ad' (qcv l most e).length cap') ∧ RLst w' ad' cap' (qcv l most e) ∧ Fs w ad ad' ∧ Below w.heap.size w w' := by
 have HR := Hid.mk hr
 have HME : Hid (∀ i, i < l.length → (gE l i) = e → qcv l most e = l) := fun i hi h => by
  unfold qcv
  rw [if_pos (qdc (by rw [← h, qbp l i hi]; exact List.getElem_mem hi))]
 have HMN : Hid ((∀ j, j < l.length → (gE l j) ≠ e) → qcv l most e = if most < (l.length : Int) + 1 then (l ++ [e]).eraseIdx 0 else l ++ [e]) := fun h => by
  unfold qcv
  rw [if_neg fun hm => by
   obtain ⟨j, hj, rfl⟩ := List.getElem_of_mem (qdj.1 hm)
   exact h j hj (qbp l j hj)]
 have HTK : Hid (∀ i, i < l.length → l.take (i + 1) = l.take i ++ [(gE l i)]) := fun i hi => qat l i hi
 have HTL : Hid (∀ i, i ≤ l.length → (l.take i).length = i) := fun i hi => by rw [List.length_take]; omega
 have heq := fun y w1 => eqR y e w1
 have HEQ := Hid.mk heq
 have HN := Hid.mk hn
 have hnI : (l.length : Int) ≤ 900 := by omega
 obtain ⟨f, hf⟩ : ∃ f : En, f = e := ⟨_, rfl⟩
 have HEF := Hid.mk hf
 generalize hRf : qcv l most e = RF at *
 clear hRf
 rw [← hf]
 clear hf heq hn hr
 obtain ⟨a0, a1, a2, a3, a4, a5, a6, a7, a8, a9⟩ := f
 simp only [En.v] at *
 go_enter Tryz.func93, Tryz.ntmps93
 go_wp2
 go_loopw [7, 8] (fun s7 s8 wr => ∃ (i : Nat) (v : Value), i ≤ l.length ∧ s8 = .int .i64 i ∧ v = s7 ∧ Below w.heap.size w wr ∧ wr.heap[w.heap.size]? = some (.cells #[.int .i64 a0, .int .u64 a1, .int .i64 a2, .int .i64 a3, .int .u64 a4, .bool a5, .bool a6, .bool a7, .bool a8, .int .i64 a9] 94 (0, 0)) ∧ wr.ownsRow (w.heap.size + 1) 94 10 v (l.take i).length (ecs (l.take i)) ∧ ∀ j, j < i → (gE l j) ≠ e) (fun _ s8 _ => l.length - (RowKit.intOf s8).toNat)
 case atStart => exact ⟨0, _, by omega, rfl, rfl, qac _ _, heap_alloc_new _ _, World.ownsRow_nil _ _ _ _, fun j hj => absurd hj (Nat.not_lt_zero _)⟩
 case round =>
  obtain ⟨i, v, hi, rfl, rfl, hb, hK, hown, hno⟩ := hrel
  have HB := Hid.mk hb
  have HK := Hid.mk hK
  have HO := Hid.mk hown
  have HNO := Hid.mk hno
  clear hno hown
  by_cases hlt : i < l.length
  ·have hlt2 : (i : Int) < l.length := by omega
   have HLT := Hid.mk hlt
   have hib : (i : Int) < 1000 := by omega
   obtain ⟨g, o, rfl, hg, hc⟩ := HR.out.rd i hlt
   have HC := Hid.mk hc
   have d0 := cell_later hb (hc 0 _ rfl)
   have d1 := cell_later hb (hc 1 _ rfl)
   have d2 := cell_later hb (hc 2 _ rfl)
   have d3 := cell_later hb (hc 3 _ rfl)
   have d4 := cell_later hb (hc 4 _ rfl)
   have d5 := cell_later hb (hc 5 _ rfl)
   have d6 := cell_later hb (hc 6 _ rfl)
   have d7 := cell_later hb (hc 7 _ rfl)
   have d8 := cell_later hb (hc 8 _ rfl)
   have d9 := cell_later hb (hc 9 _ rfl)
   rw [Nat.add_zero] at d0
   have hq := HEQ.out (gE l i)
   have HF2 : Hid ((gE l i) = e → RF = l) := fun h => HME.out i hlt h
   clear hc hb hi hg
   obtain ⟨q0, q1, q2, q3, q4, q5, q6, q7, q8, q9⟩ := qck hK
   clear hK
   by_cases hey : (gE l i) = e
   ·rw [qdn hey] at hq
    have HRL := Hid.mk (HF2.out hey)
    rw [← HEF.out] at hq
    clear hey HF2 hlt
    generalize (gE l i) = y at *
    obtain ⟨b0, b1, b2, b3, b4, b5, b6, b7, b8, b9⟩ := y
    simp only at *
    go_wp2
    go_quiet (fail)
    go_wp2
    go_ret
    rw [HRL.out]
    exact ⟨_, _, rfl, HR.out.later (qav HB.out _), Or.inl rfl, qav HB.out _⟩
   ·rw [qdy hey] at hq
    have HX : Hid (∀ j, j < i + 1 → (gE l j) ≠ e) := fun j hj => by
     by_cases h : j = i
     ·subst h; exact hey
     ·exact HNO.out j (by omega)
    have HTi := Hid.mk (HTK.out i hlt)
    have hTL := HTL.out i (by omega)
    have HTL1 := Hid.mk hTL
    rw [← HEF.out] at hq
    clear hey HF2 hlt hTL
    generalize (gE l i) = y at *
    obtain ⟨b0, b1, b2, b3, b4, b5, b6, b7, b8, b9⟩ := y
    simp only at *
    go_wp2
    go_quiet (fail)
    have HBq := Hid.mk (qav (Below.refl _ wr) nq)
    clear d0 d1 d2 d3 d4 d5 d6 d7 d8 d9 q0 q1 q2 q3 q4 q5 q6 q7 q8 q9 hq
    generalize wr.drewN nq = wq at *
    have hb := qab HB.out HBq.out
    have hc := HC.out
    have d0 := cell_later hb (hc 0 _ rfl)
    have d1 := cell_later hb (hc 1 _ rfl)
    have d2 := cell_later hb (hc 2 _ rfl)
    have d3 := cell_later hb (hc 3 _ rfl)
    have d4 := cell_later hb (hc 4 _ rfl)
    have d5 := cell_later hb (hc 5 _ rfl)
    have d6 := cell_later hb (hc 6 _ rfl)
    have d7 := cell_later hb (hc 7 _ rfl)
    have d8 := cell_later hb (hc 8 _ rfl)
    have d9 := cell_later hb (hc 9 _ rfl)
    rw [Nat.add_zero] at d0
    have HOq := Hid.mk (qea HO.out HBq.out)
    have HKq := Hid.mk (qaa HBq.out HK.out)
    have HBB := Hid.mk hb
    clear hb hc
    go_wp2_with (first
     | (at_builtin
        refine qbc etyR _ rfl _ _ rfl (w.heap.size + 1) v (l.take i) rfl ((World.ownsRow.alloc HOq.out _)) [⟨b0, b1, b2, b3, b4, b5, b6, b7, b8, b9⟩] ⟨wq.heap.size, 0, none⟩ 1 rfl (fun j u hu => World.news_of_block (cs := #[.int .i64 b0, .int .u64 b1, .int .i64 b2, .int .i64 b3, .int .u64 b4, .bool b5, .bool b6, .bool b7, .bool b8, .int .i64 b9]) (t := 94) (fr := (0, 0)) (heap_alloc_new wq _) j u hu) Nat.zero_lt_one (by have := HN.out; have := HTL1.out; have := HLT.out; show (l.take i).length + 1 ≤ 100000; omega) (by have := qag HKq.out; simp; omega) _ rfl ?_
        intro g2 cap2 w4 hown4 hgrow hat hlt4
        have HO4 := Hid.mk hown4
        have HG4 := Hid.mk hgrow
        clear hown4 hgrow hat hlt4)
     | fail)
    go_roundw
    case rel =>
     refine ⟨i + 1, _, by have := HLT.out; omega, by go_num, rfl, qcb HBB.out (qac wq _) HOq.out (Nat.le_succ _) HG4.out, block_app (b := w.heap.size + 1) HG4.out (qaa (qac wq _) HKq.out) (fun q hq => (HOq.out.lt q hq).1) (Nat.lt_succ_self _), ?_, HX.out⟩
     have e1 : min i l.length + 1 = (l.take i).length + 1 := by rw [List.length_take]
     rw [HTi.out, e1]
     exact HO4.out
    case measure => have := HLT.out; simp [RowKit.intOf]; omega
  ·have hlt2 : ¬ (i : Int) < l.length := by omega
   obtain rfl : i = l.length := by omega
   have hR2 := HMN.out HNO.out
   have HRF := Hid.mk hR2
   have hTl : l.take l.length = l := List.take_length
   have HO2 := HO.out
   rw [hTl] at HO2
   have HOq := Hid.mk HO2
   obtain ⟨q0, q1, q2, q3, q4, q5, q6, q7, q8, q9⟩ := qck hK
   clear hR2 hlt hi hTl HO2 HO HNO HME HMN HTK HTL hK hb
   by_cases hmo : most < (l.length : Int) + 1
   ·rw [if_pos hmo] at HRF
    have hl1 : 1 ≤ l.length := by omega
    go_wp2_with (first
     | (at_builtin
        refine qbc etyR _ rfl _ _ rfl (w.heap.size + 1) v l rfl ((World.ownsRow.alloc HOq.out _)) [⟨a0, a1, a2, a3, a4, a5, a6, a7, a8, a9⟩] ⟨wr.heap.size, 0, none⟩ 1 rfl (fun j u hu => World.news_of_block (cs := #[.int .i64 a0, .int .u64 a1, .int .i64 a2, .int .i64 a3, .int .u64 a4, .bool a5, .bool a6, .bool a7, .bool a8, .int .i64 a9]) (t := 94) (fr := (0, 0)) (heap_alloc_new wr _) j u hu) Nat.zero_lt_one (by have := HN.out; show l.length + 1 ≤ 100000; omega) (by have := qag HK.out; simp; omega) _ rfl ?_
        intro g2 cap2 w4 hown4 hgrow hat hlt4
        have HO4 := Hid.mk hown4
        have HG4 := Hid.mk hgrow
        have hcp := own_cap hown4
        have hc1 : ¬ cap2 = 1 := by simp at hcp; omega
        have nc1 : 1 ≤ cap2 := by simp at hcp; omega
        have nl1 : 1 ≤ l.length + 1 := by omega
        clear hown4 hgrow hat hlt4 hcp)
     | fail)
    go_ret
    obtain ⟨ad', cap', hv, hrl, hfr⟩ := own_rl HO4.out
    simp only [Value.slice.injEq] at hv
    obtain ⟨hv1, -, hv3⟩ := hv
    rw [HRF.out]
    have e1 : ∀ y : En, (l ++ [y]).eraseIdx 0 = (l ++ [y]).drop 1 := fun y => by cases l <;> rfl
    have e2 : ∀ y : En, ((l ++ [y]).drop 1).length = l.length := fun y => by simp
    rw [← hv1] at hrl hfr
    rw [← hv3] at hrl
    have h1 := hrl.rd.drop 1
    rw [e1]
    refine ⟨some ⟨g2, 10, none⟩, cap2 - 1, by rw [← HEF.out, e2]; rfl, ⟨by rw [← HEF.out]; exact h1, by rw [e2]; have := hrl.cp; simp at this; omega, by have := hrl.cm; omega, Or.inr ⟨_, _, rfl⟩, fun a ha => by cases ha; exact hrl.lt ⟨g2, 0, none⟩ rfl⟩, Or.inr (fun b hb => ?_), qcb HB.out (qac wr _) HOq.out (Nat.le_succ _) HG4.out⟩
    cases hb
    have := (hfr _ rfl).1
    show w.heap.size ≤ g2
    exact Nat.le_trans (Nat.le_succ _) this
   ·rw [if_neg hmo] at HRF
    go_wp2_with (first
     | (at_builtin
        refine qbc etyR _ rfl _ _ rfl (w.heap.size + 1) v l rfl ((World.ownsRow.alloc HOq.out _)) [⟨a0, a1, a2, a3, a4, a5, a6, a7, a8, a9⟩] ⟨wr.heap.size, 0, none⟩ 1 rfl (fun j u hu => World.news_of_block (cs := #[.int .i64 a0, .int .u64 a1, .int .i64 a2, .int .i64 a3, .int .u64 a4, .bool a5, .bool a6, .bool a7, .bool a8, .int .i64 a9]) (t := 94) (fr := (0, 0)) (heap_alloc_new wr _) j u hu) Nat.zero_lt_one (by have := HN.out; show l.length + 1 ≤ 100000; omega) (by have := qag HK.out; simp; omega) _ rfl ?_
        intro g2 cap2 w4 hown4 hgrow hat hlt4
        have HO4 := Hid.mk hown4
        have HG4 := Hid.mk hgrow
        clear hown4 hgrow hat hlt4)
     | fail)
    go_ret
    obtain ⟨ad', cap', hv, hrl, hfr⟩ := own_rl HO4.out
    simp only [Value.slice.injEq] at hv
    obtain ⟨hv1, -, hv3⟩ := hv
    rw [HRF.out]
    rw [← hv1] at hrl hfr
    rw [← hv3] at hrl
    have e2 : ∀ y : En, (l ++ [y]).length = l.length + 1 := fun y => by simp
    refine ⟨some ⟨g2, 0, none⟩, cap2, by rw [e2]; rfl, by rw [← HEF.out]; exact hrl, Or.inr (fun b hb => ?_), qcb HB.out (qac wr _) HOq.out (Nat.le_succ _) HG4.out⟩
    cases hb
    have := (hfr _ rfl).1
    show w.heap.size ≤ g2
    exact Nat.le_trans (Nat.le_succ _) this
theorem below_dN2 {w0 w : World} (h : Below w0.heap.size w0 w) : ∀ n, Below w0.heap.size w0 (w.drewN n)
 | 0 => h
 | n + 1 => (below_dN2 h n).drew
theorem rmatches_any (e : En) (hl : isLv e.lv = true) (i : Int) (x : Nat) (hx : x < 18446744073709551616) (w : World) :
  Calls Tryz.prog 90 #[e.v, .int .i64 i, .int .u64 x] w fun r w' => r = .returned (.bool (mB e i x)) ∧ Below w.heap.size w w' := by
 have HE : Hid (mB e i x = (decide (e.aid = i) && (decide (x < 281474976710656) && decide (qbn x e.lv = e.va)))) := by
  show mB e i x = _
  unfold mB lowB qdd
  rw [hl, Bool.true_and]
 have hBs := fun w1 => qcz x e.lv hl hx w1
 generalize mB e i x = M at *
 obtain ⟨a0, a1, a2, a3, a4, a5, a6, a7, a8, a9⟩ := e
 simp only [En.v] at *
 generalize qbn x a2 = B at *
 clear hl
 by_cases h0 : a0 = i
 ·rw [decide_eq_true h0, Bool.true_and] at HE
  have d0 : (a0 == i) = true := by rw [beq_iff_eq]; exact h0
  by_cases h1 : x < 281474976710656
  ·rw [decide_eq_true h1, Bool.true_and] at HE
   have h1I : (x : Int) < 281474976710656 := by omega
   have d1 : decide ((x : Int) < 281474976710656) = true := decide_eq_true h1I
   have d1n : decide (x < 281474976710656) = true := decide_eq_true h1
   have HE2 : Hid (M = ((B : Int) == (a1 : Int))) := by
    show M = _
    rw [HE.out, Bool.eq_iff_iff, decide_eq_true_eq, beq_iff_eq]; omega
   clear HE h0 h1 hx h1I
   go_enter Tryz.func90, Tryz.ntmps90
   go_wp2
   first | (go_region_with ((go_at_call 94; refine (hBs _).mono ?_; rintro e w' ⟨rfl, hbm⟩; have c1 : w'.cell? ⟨w.heap.size, 1, none⟩ = some (.int .u64 a1) := cell_later hbm (by go_keep)))) | fail
   all_goals go_wp2
   all_goals go_ret
   all_goals exact ⟨by rw [HE2.out]; rfl, qab (qac _ _).drew hbm⟩
  ·rw [decide_eq_false h1, Bool.false_and] at HE
   have h1I : ¬ (x : Int) < 281474976710656 := by omega
   have d1 : decide ((x : Int) < 281474976710656) = false := decide_eq_false h1I
   have d1n : decide (x < 281474976710656) = false := decide_eq_false h1
   clear h0 hx hBs
   go_enter Tryz.func90, Tryz.ntmps90
   go_wp2
   go_quiet (fail)
   go_wp2
   go_ret
   exact ⟨by rw [HE.out]; rfl, below_dN2 (qac _ _) _⟩
 ·rw [decide_eq_false h0, Bool.false_and] at HE
  have d0 : (a0 == i) = false := by rw [beq_eq_false_iff_ne]; exact h0
  clear h0 hx hBs
  go_enter Tryz.func90, Tryz.ntmps90
  go_wp2
  go_quiet (fail)
  go_wp2
  go_ret
  exact ⟨by rw [HE.out]; rfl, below_dN2 (qac _ _) _⟩
theorem info_er : (Tryz.prog.info? 94).map (·.size) = some 10 := by kernel_rfl
theorem rfind_c {w : World} (l : List En) (ad : Option Addr) (cap : Nat) (hr : RdA w ad l) (hlv : ∀ e ∈ l, isLv e.lv = true) (hn : l.length ≤ 1000) (i0 : Int) (x : Nat) (hx : x < 18446744073709551616) :
  Calls Tryz.prog 55 #[.slice ad l.length cap, .int .i64 i0, .int .u64 x] w fun r w' => r = .returned (.tuple #[(fndE (fun e => mB e i0 x) l).v, .int .i64 ((cntE (fun e => mB e i0 x) l : Nat) : Int)]) ∧ Below w.heap.size w w' := by
 have hM := fun i (hi : i < l.length) w1 => rmatches_any (gE l i) (hlv _ (by rw [qbp l i hi]; exact List.getElem_mem hi)) i0 x hx w1
 have HRE : Hid (fndE (fun e => mB e i0 x) l = fstI (fun e => mB e i0 x) l l.length ∧ cntE (fun e => mB e i0 x) l = cntI (fun e => mB e i0 x) l l.length) := ⟨(fst_all _ _).symm, (cnt_all _ _).symm⟩
 have HZ : Hid (fstI (fun e => mB e i0 x) l 0 = e0 ∧ cntI (fun e => mB e i0 x) l 0 = 0) := ⟨rfl, rfl⟩
 have HNO : Hid (∀ i, i < l.length → mB (gE l i) i0 x = false → fstI (fun e => mB e i0 x) l (i + 1) = fstI (fun e => mB e i0 x) l i ∧ cntI (fun e => mB e i0 x) l (i + 1) = cntI (fun e => mB e i0 x) l i) := fun i h1 h2 => fst_no h1 h2
 have HYES : Hid (∀ i, i < l.length → mB (gE l i) i0 x = true → fstI (fun e => mB e i0 x) l (i + 1) = (if cntI (fun e => mB e i0 x) l i = 0 then (gE l i) else fstI (fun e => mB e i0 x) l i) ∧ cntI (fun e => mB e i0 x) l (i + 1) = cntI (fun e => mB e i0 x) l i + 1) := fun i h1 h2 => fst_yes h1 h2
 have HCL : Hid (∀ i, i ≤ l.length → cntI (fun e => mB e i0 x) l i ≤ i) := fun i h1 => cnt_le _ _ _ h1
 have HM := Hid.mk hM
 have HR := Hid.mk hr
 have hlI : (l.length : Int) ≤ 1000 := by omega
 clear hr hM hn hx hlv
 generalize fndE (fun e => mB e i0 x) l = FE at *
 generalize cntE (fun e => mB e i0 x) l = CE at *
 generalize fstI (fun e => mB e i0 x) l = fI at *
 generalize cntI (fun e => mB e i0 x) l = cI at *
 go_enter Tryz.func55, Tryz.ntmps55
 go_wp2
 go_loopw [9, 10] (fun s9 s17 wr => ∃ i : Nat, i ≤ l.length ∧ s17 = .int .i64 i ∧ s9 = .int .i64 ((cI i : Nat) : Int) ∧ Below w.heap.size w wr ∧ wr.heap[w.heap.size]? = some (.cells e0.ar 94 (0, 0)) ∧ wr.heap[w.heap.size + 1]? = some (.cells (fI i).ar 94 (0, 0))) (fun _ s17 _ => l.length - (RowKit.intOf s17).toNat)
 case atStart =>
  refine ⟨0, by omega, rfl, by rw [HZ.out.2]; rfl, qab (qac _ _) (qac _ _), heap_alloc2_old _ _ _, ?_⟩
  rw [HZ.out.1]; exact heap_alloc2_new _ _ _
 case round =>
  obtain ⟨i, hi, rfl, rfl, hb, h6, h8⟩ := hrel
  have HB := Hid.mk hb
  have H6 := Hid.mk h6
  have H8 := Hid.mk h8
  have hcl := HCL.out i hi
  by_cases hlt : i < l.length
  ·have hlt2 : (i : Int) < l.length := by omega
   have HLT := Hid.mk hlt
   have hib : (i : Int) < 1000 := by omega
   have hcb : ((cI i : Nat) : Int) < 1000 := by omega
   obtain ⟨g, o, rfl, hg, hc⟩ := HR.out i hlt
   have d0 := cell_later hb (hc 0 _ rfl)
   have d1 := cell_later hb (hc 1 _ rfl)
   have d2 := cell_later hb (hc 2 _ rfl)
   have d3 := cell_later hb (hc 3 _ rfl)
   have d4 := cell_later hb (hc 4 _ rfl)
   have d5 := cell_later hb (hc 5 _ rfl)
   have d6 := cell_later hb (hc 6 _ rfl)
   have d7 := cell_later hb (hc 7 _ rfl)
   have d8 := cell_later hb (hc 8 _ rfl)
   have d9 := cell_later hb (hc 9 _ rfl)
   rw [Nat.add_zero] at d0
   have hcall := HM.out i hlt
   have HCC := Hid.mk hc
   have HNi := Hid.mk (HNO.out i hlt)
   have HYi := Hid.mk (HYES.out i hlt)
   clear hc hb hi hlt h6 h8 hcl hg
   cases hpy : mB (gE l i) i0 x
   ·have HN2 := Hid.mk (HNi.out hpy)
    rw [hpy] at hcall
    clear hpy HNi HYi
    generalize (gE l i) = y at *
    obtain ⟨b0, b1, b2, b3, b4, b5, b6, b7, b8, b9⟩ := y
    simp only [En.v] at *
    go_wp2_with fail
    refine (hcall _).mono ?_
    rintro e w' ⟨rfl, hb'⟩
    clear hcall d0 d1 d2 d3 d4 d5 d6 d7 d8 d9
    have hB2 := Hid.mk hb'
    clear hb'
    go_wp2
    go_roundw
    case rel =>
     refine ⟨i + 1, by have := HLT.out; omega, by go_num, by rw [HN2.out.2], qab HB.out hB2.out, qaa hB2.out H6.out, ?_⟩
     rw [HN2.out.1]; exact qaa hB2.out H8.out
    case measure => have := HLT.out; simp [RowKit.intOf]; omega
   ·have HY2 := Hid.mk (HYi.out hpy)
    rw [hpy] at hcall
    clear hpy HNi HYi
    by_cases h0 : cI i = 0
    ·rw [if_pos h0] at HY2
     have hz : ((cI i : Nat) : Int) = 0 := by omega
     have HZ0 := Hid.mk h0
     clear h0
     generalize (gE l i) = y at *
     obtain ⟨b0, b1, b2, b3, b4, b5, b6, b7, b8, b9⟩ := y
     simp only [En.v] at *
     go_wp2_with fail
     refine (hcall _).mono ?_
     rintro e w' ⟨rfl, hb'⟩
     clear hcall d0 d1 d2 d3 d4 d5 d6 d7 d8 d9
     have hB2 := Hid.mk hb'
     have hbb := qab HB.out hb'
     have d0 := cell_later hbb (HCC.out 0 _ rfl)
     have d1 := cell_later hbb (HCC.out 1 _ rfl)
     have d2 := cell_later hbb (HCC.out 2 _ rfl)
     have d3 := cell_later hbb (HCC.out 3 _ rfl)
     have d4 := cell_later hbb (HCC.out 4 _ rfl)
     have d5 := cell_later hbb (HCC.out 5 _ rfl)
     have d6 := cell_later hbb (HCC.out 6 _ rfl)
     have d7 := cell_later hbb (HCC.out 7 _ rfl)
     have d8 := cell_later hbb (HCC.out 8 _ rfl)
     have d9 := cell_later hbb (HCC.out 9 _ rfl)
     rw [Nat.add_zero] at d0
     clear hb' hbb
     go_wp2_with (first
      | (refine qad rfl 94 _ _ rfl rfl (w.heap.size + 1) 0 _ #[.int .i64 b0, .int .u64 b1, .int .i64 b2, .int .i64 b3, .int .u64 b4, .bool b5, .bool b6, .bool b7, .bool b8, .int .i64 b9] rfl rfl rfl 94 _ (qaa hB2.out H8.out) (show 0 + 10 ≤ 10 by decide) info_er (by simp [Value.oneCell']) #[.int .i64 b0, .int .u64 b1, .int .i64 b2, .int .i64 b3, .int .u64 b4, .bool b5, .bool b6, .bool b7, .bool b8, .int .i64 b9] rfl ?_
         intro w8 hk8 ht8
         clear d0 d1 d2 d3 d4 d5 d6 d7 d8 d9)
      | fail)
     go_roundw
     case rel =>
      refine ⟨i + 1, by have := HLT.out; omega, by go_num, ?_, qaf (qab HB.out hB2.out) ht8 (by omega), qae ht8 (qaa hB2.out H6.out) (by omega), ?_⟩
      ·rw [HY2.out.2, HZ0.out]; go_num
      ·rw [HY2.out.1]; exact hk8
     case measure => have := HLT.out; simp [RowKit.intOf]; omega
    ·rw [if_neg h0] at HY2
     have hz : ¬ ((cI i : Nat) : Int) = 0 := by omega
     clear h0
     generalize (gE l i) = y at *
     obtain ⟨b0, b1, b2, b3, b4, b5, b6, b7, b8, b9⟩ := y
     simp only [En.v] at *
     go_wp2_with fail
     refine (hcall _).mono ?_
     rintro e w' ⟨rfl, hb'⟩
     clear hcall d0 d1 d2 d3 d4 d5 d6 d7 d8 d9
     have hB2 := Hid.mk hb'
     clear hb'
     go_wp2
     go_roundw
     case rel =>
      refine ⟨i + 1, by have := HLT.out; omega, by go_num, by rw [HY2.out.2]; go_num, qab HB.out hB2.out, qaa hB2.out H6.out, ?_⟩
      rw [HY2.out.1]; exact qaa hB2.out H8.out
     case measure => have := HLT.out; simp [RowKit.intOf]; omega
  ·have hlt2 : ¬ (i : Int) < l.length := by omega
   obtain rfl : i = l.length := by omega
   have HF6 := Hid.mk h6
   have hc8 := qck h8
   rw [← HRE.out.1] at hc8
   rw [← HRE.out.2] at hcl ⊢
   obtain ⟨q0, q1, q2, q3, q4, q5, q6, q7, q8, q9⟩ := hc8
   obtain ⟨b0, b1, b2, b3, b4, b5, b6, b7, b8, b9⟩ := FE
   simp only [En.v] at *
   clear h6 h8 hb hi hlt
   go_wp2_with (first
    | (refine qad rfl 94 _ _ rfl rfl w.heap.size 0 _ #[.int .i64 b0, .int .u64 b1, .int .i64 b2, .int .i64 b3, .int .u64 b4, .bool b5, .bool b6, .bool b7, .bool b8, .int .i64 b9] rfl rfl rfl 94 _ HF6.out (show 0 + 10 ≤ 10 by decide) info_er (by simp [Value.oneCell']) #[.int .i64 b0, .int .u64 b1, .int .i64 b2, .int .i64 b3, .int .u64 b4, .bool b5, .bool b6, .bool b7, .bool b8, .int .i64 b9] rfl ?_
       intro w8 hk8 ht8)
    | fail)
   refine bodyPost_ret (v := .tuple #[.agg #[.int .i64 b0, .int .u64 b1, .int .i64 b2, .int .i64 b3, .int .u64 b4, .bool b5, .bool b6, .bool b7, .bool b8, .int .i64 b9], .int .i64 CE]) ?_ rfl ⟨rfl, qaf HB.out ht8 (Nat.le_refl _)⟩
   exact qax (p := 6) (u := 7) rfl _ _ w.heap.size 94 _ _ _ rfl hk8 Tryz.underlying94 rfl (by kernel_rfl)
theorem zP40x01 {Z : Prop} (z : Z := by
 cases hpy : mB (gE l i) i0 x
 ·rw [hpy] at hcall
  have HN2 := Hid.mk (HNi.out hpy)
  clear hpy HYi HNi hc hb hi hlt hg
  generalize (gE l i) = y at *
  obtain ⟨b0, b1, b2, b3, b4, b5, b6, b7, b8, b9⟩ := y
  simp only [En.v, En.cs] at *
  go_wp2_with fail
  refine (hcall _).mono ?_
  rintro e w' ⟨rfl, hb'⟩
  have HBq := Hid.mk hb'
  clear hcall d0 d1 d2 d3 d4 d5 d6 d7 d8 d9 hb'
  have hb := qab HB.out HBq.out
  have hc := HC.out
  have d0 := cell_later hb (hc 0 _ rfl)
  have d1 := cell_later hb (hc 1 _ rfl)
  have d2 := cell_later hb (hc 2 _ rfl)
  have d3 := cell_later hb (hc 3 _ rfl)
  have d4 := cell_later hb (hc 4 _ rfl)
  have d5 := cell_later hb (hc 5 _ rfl)
  have d6 := cell_later hb (hc 6 _ rfl)
  have d7 := cell_later hb (hc 7 _ rfl)
  have d8 := cell_later hb (hc 8 _ rfl)
  have d9 := cell_later hb (hc 9 _ rfl)
  rw [Nat.add_zero] at d0
  have HOq := Hid.mk (qea HO.out HBq.out)
  have HBB := Hid.mk hb
  clear hb hc
  go_wp2_with (first
   | (at_builtin
      refine qbc etyR _ rfl _ _ rfl w.heap.size v (KP i) rfl ((World.ownsRow.alloc HOq.out _)) [⟨b0, b1, b2, b3, b4, b5, b6, b7, b8, b9⟩] ⟨w'.heap.size, 0, none⟩ 1 rfl (fun j u hu => World.news_of_block (cs := #[.int .i64 b0, .int .u64 b1, .int .i64 b2, .int .i64 b3, .int .u64 b4, .bool b5, .bool b6, .bool b7, .bool b8, .int .i64 b9]) (t := 94) (fr := (0, 0)) (heap_alloc_new w' _) j u hu) Nat.zero_lt_one (by have := HKLi.out; show (KP i).length + 1 ≤ 100000; omega) (by have := HBB.out.size; simp; omega) _ rfl ?_
      intro g2 cap2 w4 hown4 hgrow hat hlt4
      have HO4 := Hid.mk hown4
      have HG4 := Hid.mk hgrow
      clear hown4 hgrow hat hlt4)
   | fail)
  go_roundw
  case rel =>
   refine ⟨i + 1, _, by have := HLT.out; omega, by go_num, rfl, qcb HBB.out (qac w' _) HOq.out (Nat.le_refl _) HG4.out, ?_⟩
   rw [HN2.out]
   exact HO4.out
  case measure => have := HLT.out; simp [RowKit.intOf]; omega
 ·rw [hpy] at hcall
  have HY2 := Hid.mk (HYi.out hpy)
  clear hpy HYi HNi hc hb hi hlt hg
  generalize (gE l i) = y at *
  obtain ⟨b0, b1, b2, b3, b4, b5, b6, b7, b8, b9⟩ := y
  simp only [En.v, En.cs] at *
  go_wp2_with fail
  refine (hcall _).mono ?_
  rintro e w' ⟨rfl, hb'⟩
  have HBq := Hid.mk hb'
  clear hcall d0 d1 d2 d3 d4 d5 d6 d7 d8 d9 hb'
  go_wp2
  go_roundw
  case rel =>
   refine ⟨i + 1, _, by have := HLT.out; omega, by go_num, rfl, qab HB.out HBq.out, ?_⟩
   rw [HY2.out]
   exact qea HO.out HBq.out
  case measure => have := HLT.out; simp [RowKit.intOf]; omega) : Z := z
theorem zP40x02 {Z : Prop} (z : Z := by
 obtain rfl : i = l.length := by omega
 have HO2 := HO.out
 rw [HKA.out.1] at HO2
 obtain ⟨ad', cap', rfl, h1, h2⟩ := own_rl HO2
 have H1 := Hid.mk h1
 have H2 := Hid.mk h2
 clear hlt hi hb h1 h2 HO HO2
 go_wp2
 go_ret
 exact ⟨_, _, rfl, H1.out, fun b hb => (H2.out b hb).1, HB.out⟩) : Z := z
theorem rflush_va {w : World} (l : List En) (ad : Option Addr) (cap : Nat) (hr : RdA w ad l) (hlv : ∀ e ∈ l, isLv e.lv = true) (hn : l.length ≤ 900) (i0 : Int) (x : Nat) (hx : x < 18446744073709551616) :
  Calls Tryz.prog 64 #[.slice ad l.length cap, .int .i64 i0, .bool true, .int .u64 x] w fun r w' => ∃ ad' cap', r = .returned (.slice ad' (qar (fun e => mB e i0 x) l).length cap') ∧ RLst w' ad' cap' (qar (fun e => mB e i0 x) l) ∧ (∀ b, ad' = some b → w.heap.size ≤ b.block) ∧ Below w.heap.size w w' := by
 have HR := Hid.mk hr
 have HM : Hid (∀ i, i < l.length → ∀ w1, Calls Tryz.prog 90 #[(gE l i).v, .int .i64 i0, .int .u64 x] w1 fun r w' => r = .returned (.bool (mB (gE l i) i0 x)) ∧ Below w1.heap.size w1 w') := fun i hi w1 => rmatches_any (gE l i) (hlv _ (by rw [qbp l i hi]; exact List.getElem_mem hi)) i0 x hx w1
 have HKY : Hid (∀ i, i < l.length → mB (gE l i) i0 x = true → qar (fun e => mB e i0 x) (l.take (i + 1)) = qar (fun e => mB e i0 x) (l.take i)) := fun i hi h => by
  unfold qar
  rw [qat l i hi, List.filter_append, filt0 (p := (fun e => mB e i0 x)) h, List.append_nil]
 have HKN : Hid (∀ i, i < l.length → mB (gE l i) i0 x = false → qar (fun e => mB e i0 x) (l.take (i + 1)) = qar (fun e => mB e i0 x) (l.take i) ++ [(gE l i)]) := fun i hi h => by
  unfold qar
  rw [qat l i hi, List.filter_append, filt1 (p := (fun e => mB e i0 x)) h]
 have HKL : Hid (∀ i, i ≤ l.length → (qar (fun e => mB e i0 x) (l.take i)).length ≤ 900) := fun i hi => by
  have := keep_le (fun e => mB e i0 x) (l.take i)
  rw [List.length_take] at this
  omega
 have HKA : Hid (qar (fun e => mB e i0 x) (l.take l.length) = qar (fun e => mB e i0 x) l ∧ qar (fun e => mB e i0 x) (l.take 0) = []) := ⟨by rw [List.take_length], rfl⟩
 have hnI : (l.length : Int) ≤ 900 := by omega
 obtain ⟨KP, hKP⟩ : ∃ KP : Nat → List En, KP = fun i => qar (fun e => mB e i0 x) (l.take i) := ⟨_, rfl⟩
 have eK : ∀ i, qar (fun e => mB e i0 x) (l.take i) = KP i := fun i => by rw [hKP]
 simp only [eK] at HKY HKN HKL HKA
 generalize qar (fun e => mB e i0 x) l = KL at *
 clear hKP eK hr hn
 clear hlv hx
 go_enter Tryz.func64, Tryz.ntmps64
 go_wp2
 go_loopw [9, 10, 11] (fun s9 s10 _ wr => ∃ (i : Nat) (v : Value), i ≤ l.length ∧ s10 = .int .i64 i ∧ v = s9 ∧ Below w.heap.size w wr ∧ wr.ownsRow w.heap.size 94 10 v (KP i).length (ecs (KP i))) (fun _ s10 _ _ => l.length - (RowKit.intOf s10).toNat)
 case atStart =>
  refine ⟨0, _, by omega, rfl, rfl, Below.refl _ _, ?_⟩
  rw [HKA.out.2]
  exact World.ownsRow_nil _ _ _ _
 case round =>
  obtain ⟨i, v, hi, rfl, rfl, hb, hown⟩ := hrel
  have HB := Hid.mk hb
  have HO := Hid.mk hown
  have HKLi := Hid.mk (HKL.out i hi)
  clear hown
  by_cases hlt : i < l.length
  ·have hlt2 : (i : Int) < l.length := by omega
   have HLT := Hid.mk hlt
   have hib : (i : Int) < 1000 := by omega
   obtain ⟨g, o, rfl, hg, hc⟩ := HR.out i hlt
   have HC := Hid.mk hc
   have d0 := cell_later hb (hc 0 _ rfl)
   have d1 := cell_later hb (hc 1 _ rfl)
   have d2 := cell_later hb (hc 2 _ rfl)
   have d3 := cell_later hb (hc 3 _ rfl)
   have d4 := cell_later hb (hc 4 _ rfl)
   have d5 := cell_later hb (hc 5 _ rfl)
   have d6 := cell_later hb (hc 6 _ rfl)
   have d7 := cell_later hb (hc 7 _ rfl)
   have d8 := cell_later hb (hc 8 _ rfl)
   have d9 := cell_later hb (hc 9 _ rfl)
   rw [Nat.add_zero] at d0
   have HYi := Hid.mk (HKY.out i hlt)
   have HNi := Hid.mk (HKN.out i hlt)
   have hcall := HM.out i hlt
   by_cases hz : i0 < 0
   ·have dz : decide (i0 < 0) = true := decide_eq_true hz
    exact zP40x01
   ·have dz : decide (i0 < 0) = false := decide_eq_false hz
    exact zP40x01
  ·have hlt2 : ¬ (i : Int) < l.length := by omega
   exact zP40x02
theorem rflush_as {w : World} (l : List En) (ad : Option Addr) (cap : Nat) (hr : RdA w ad l) (hn : l.length ≤ 900) (i0 : Int) (h0 : 0 ≤ i0) :
  Calls Tryz.prog 64 #[.slice ad l.length cap, .int .i64 i0, .bool false, .int .u64 0] w fun r w' => ∃ ad' cap', r = .returned (.slice ad' (qar (fun e => decide (e.aid = i0)) l).length cap') ∧ RLst w' ad' cap' (qar (fun e => decide (e.aid = i0)) l) ∧ (∀ b, ad' = some b → w.heap.size ≤ b.block) ∧ Below w.heap.size w w' := by
 have HR := Hid.mk hr
 have HKY : Hid (∀ i, i < l.length → decide ((gE l i).aid = i0) = true → qar (fun e => decide (e.aid = i0)) (l.take (i + 1)) = qar (fun e => decide (e.aid = i0)) (l.take i)) := fun i hi h => by
  unfold qar
  rw [qat l i hi, List.filter_append, filt0 (p := (fun e => decide (e.aid = i0))) h, List.append_nil]
 have HKN : Hid (∀ i, i < l.length → decide ((gE l i).aid = i0) = false → qar (fun e => decide (e.aid = i0)) (l.take (i + 1)) = qar (fun e => decide (e.aid = i0)) (l.take i) ++ [(gE l i)]) := fun i hi h => by
  unfold qar
  rw [qat l i hi, List.filter_append, filt1 (p := (fun e => decide (e.aid = i0))) h]
 have HKL : Hid (∀ i, i ≤ l.length → (qar (fun e => decide (e.aid = i0)) (l.take i)).length ≤ 900) := fun i hi => by
  have := keep_le (fun e => decide (e.aid = i0)) (l.take i)
  rw [List.length_take] at this
  omega
 have HKA : Hid (qar (fun e => decide (e.aid = i0)) (l.take l.length) = qar (fun e => decide (e.aid = i0)) l ∧ qar (fun e => decide (e.aid = i0)) (l.take 0) = []) := ⟨by rw [List.take_length], rfl⟩
 have hnI : (l.length : Int) ≤ 900 := by omega
 obtain ⟨KP, hKP⟩ : ∃ KP : Nat → List En, KP = fun i => qar (fun e => decide (e.aid = i0)) (l.take i) := ⟨_, rfl⟩
 have eK : ∀ i, qar (fun e => decide (e.aid = i0)) (l.take i) = KP i := fun i => by rw [hKP]
 simp only [eK] at HKY HKN HKL HKA
 generalize qar (fun e => decide (e.aid = i0)) l = KL at *
 clear hKP eK hr hn
 have dz : decide (i0 < 0) = false := decide_eq_false (by omega)
 go_enter Tryz.func64, Tryz.ntmps64
 go_wp2
 go_loopw [9, 10, 11] (fun s9 s10 _ wr => ∃ (i : Nat) (v : Value), i ≤ l.length ∧ s10 = .int .i64 i ∧ v = s9 ∧ Below w.heap.size w wr ∧ wr.ownsRow w.heap.size 94 10 v (KP i).length (ecs (KP i))) (fun _ s10 _ _ => l.length - (RowKit.intOf s10).toNat)
 case atStart =>
  refine ⟨0, _, by omega, rfl, rfl, Below.refl _ _, ?_⟩
  rw [HKA.out.2]
  exact World.ownsRow_nil _ _ _ _
 case round =>
  obtain ⟨i, v, hi, rfl, rfl, hb, hown⟩ := hrel
  have HB := Hid.mk hb
  have HO := Hid.mk hown
  have HKLi := Hid.mk (HKL.out i hi)
  clear hown
  by_cases hlt : i < l.length
  ·have hlt2 : (i : Int) < l.length := by omega
   have HLT := Hid.mk hlt
   have hib : (i : Int) < 1000 := by omega
   obtain ⟨g, o, rfl, hg, hc⟩ := HR.out i hlt
   have HC := Hid.mk hc
   have d0 := cell_later hb (hc 0 _ rfl)
   have d1 := cell_later hb (hc 1 _ rfl)
   have d2 := cell_later hb (hc 2 _ rfl)
   have d3 := cell_later hb (hc 3 _ rfl)
   have d4 := cell_later hb (hc 4 _ rfl)
   have d5 := cell_later hb (hc 5 _ rfl)
   have d6 := cell_later hb (hc 6 _ rfl)
   have d7 := cell_later hb (hc 7 _ rfl)
   have d8 := cell_later hb (hc 8 _ rfl)
   have d9 := cell_later hb (hc 9 _ rfl)
   rw [Nat.add_zero] at d0
   have HYi := Hid.mk (HKY.out i hlt)
   have HNi := Hid.mk (HKN.out i hlt)
   by_cases hpy : (gE l i).aid = i0
   ·have HY2 := Hid.mk (HYi.out (decide_eq_true hpy))
    clear HYi HNi hc hb hi hlt hg
    generalize (gE l i) = y at *
    obtain ⟨b0, b1, b2, b3, b4, b5, b6, b7, b8, b9⟩ := y
    simp only at *
    have dq : (b0 == i0) = true := by rw [beq_iff_eq]; exact hpy
    clear hpy
    go_wp2
    go_roundw
    case rel =>
     refine ⟨i + 1, _, by have := HLT.out; omega, by go_num, rfl, HB.out, ?_⟩
     rw [HY2.out]
     exact HO.out
    case measure => have := HLT.out; simp [RowKit.intOf]; omega
   ·have HN2 := Hid.mk (HNi.out (decide_eq_false hpy))
    have HOq := Hid.mk HO.out
    clear HYi HNi hc hb hi hlt hg
    generalize (gE l i) = y at *
    obtain ⟨b0, b1, b2, b3, b4, b5, b6, b7, b8, b9⟩ := y
    simp only at *
    have dq : (b0 == i0) = false := by rw [beq_eq_false_iff_ne]; exact hpy
    clear hpy
    go_wp2_with (first
     | (at_builtin
        refine qbc etyR _ rfl _ _ rfl w.heap.size v (KP i) rfl ((World.ownsRow.alloc HOq.out _)) [⟨b0, b1, b2, b3, b4, b5, b6, b7, b8, b9⟩] ⟨wr.heap.size, 0, none⟩ 1 rfl (fun j u hu => World.news_of_block (cs := #[.int .i64 b0, .int .u64 b1, .int .i64 b2, .int .i64 b3, .int .u64 b4, .bool b5, .bool b6, .bool b7, .bool b8, .int .i64 b9]) (t := 94) (fr := (0, 0)) (heap_alloc_new wr _) j u hu) Nat.zero_lt_one (by have := HKLi.out; show (KP i).length + 1 ≤ 100000; omega) (by have := HB.out.size; simp; omega) _ rfl ?_
        intro g2 cap2 w4 hown4 hgrow hat hlt4
        have HO4 := Hid.mk hown4
        have HG4 := Hid.mk hgrow
        clear hown4 hgrow hat hlt4)
     | fail)
    go_roundw
    case rel =>
     refine ⟨i + 1, _, by have := HLT.out; omega, by go_num, rfl, qcb HB.out (qac wr _) HOq.out (Nat.le_refl _) HG4.out, ?_⟩
     rw [HN2.out]
     exact HO4.out
    case measure => have := HLT.out; simp [RowKit.intOf]; omega
  ·have hlt2 : ¬ (i : Int) < l.length := by omega
   exact zP40x02
end Go.Proofs.YtfdbdeckohaneaaGreatDoor.TB
