/- P44 -/
import Derived.Test.YtfdbdeckohaneaaGreatDoorP41
import Derived.Test.YtfdbdeckohaneaaGreatDoorP39
import Derived.Test.YtfdbdeckohaneaaGreatDoorP36
import Derived.Test.YtfdbdeckohaneaaGreatDoorP40
import Derived.Test.YtfdbdeckohaneaaGreatDoorP43
set_option maxHeartbeats 16000000
set_option maxRecDepth 100000
namespace Go.Proofs.YtfdbdeckohaneaaGreatDoor.TR
open Go.RowKit
theorem etyR : ETy 31 97 := ⟨Tryz.underlying31, by kernel_rfl⟩
structure RLst (w : World) (ad : Option Addr) (cap : Nat) (l : List En) : Prop where
 rd : RdA w ad l
 cp : l.length ≤ cap
 cm : cap ≤ maxLen
 fm : ad = none ∨ ∃ g o, ad = some ⟨g, o, none⟩
 lt : ∀ a, ad = some a → a.block < w.heap.size
theorem RLst.later {w w' : World} {ad : Option Addr} {cap : Nat} {l : List En} (h : RLst w ad cap l) (hb : Below w.heap.size w w') : RLst w' ad cap l := ⟨h.rd.later hb, h.cp, h.cm, h.fm, fun a ha => Nat.lt_of_lt_of_le (h.lt a ha) hb.size⟩
theorem RLst.turn {w w' : World} {X : Nat → Prop} {ad : Option Addr} {cap : Nat} {l : List En} (h : RLst w ad cap l) (ht : Turn X w w') (hn : notIn X ad) : RLst w' ad cap l := ⟨h.rd.turn ht hn, h.cp, h.cm, h.fm, fun a ha => Nat.lt_of_lt_of_le (h.lt a ha) ht.size⟩
theorem own_rl {w : World} {base : Nat} {T : TypeId} {v : Value} {l : List En} (h : w.ownsRow base T 4 v l.length (ecs l)) : ∃ ad cap, v = .slice ad l.length cap ∧ RLst w ad cap l ∧ (∀ a, ad = some a → base ≤ a.block ∧ a.block < w.heap.size) := by
 obtain ⟨ad, cap, hv, hr, hb⟩ := own_rd h
 refine ⟨ad, cap, hv, ?_, hb⟩
 rcases h.2 with ⟨rfl, h0⟩ | ⟨g, c, cur, rfl, h1, hg, h2, h3, -⟩
 ·simp only [Value.slice.injEq] at hv
  exact ⟨hr, by omega, by rw [← hv.2.2]; exact Nat.zero_le _, Or.inl hv.1.symm, fun a ha => (hb a ha).2⟩
 ·simp only [Value.slice.injEq] at hv
  exact ⟨hr, by omega, by omega, Or.inr ⟨g, 0, hv.1.symm⟩, fun a ha => (hb a ha).2⟩
theorem own_cap {w : World} {base g n cap : Nat} {T : TypeId} {k : Nat} {xs : List Value} (h : w.ownsRow base T 4 (.slice (some ⟨g, 0, none⟩) k cap) n xs) : n ≤ cap := by
 rcases h.2 with ⟨e, -⟩ | ⟨g', c, cur, e, h1, hg, h2, -⟩
 ·cases e
 ·cases e; exact h2
def Fs (w : World) (ad ad' : Option Addr) : Prop := ad' = ad ∨ ∀ b, ad' = some b → w.heap.size ≤ b.block
theorem qcb {w wr w1 w4 : World} {v : Value} {b : Nat} {T : TypeId} {n : Nat} {xs : List Value} (hB : Below w.heap.size w wr) (h1 : Below wr.heap.size wr w1) (ho : wr.ownsRow b T 4 v n xs) (hb : w.heap.size ≤ b) (hg : w1.grownBy w4 v.ownBlock) : Below w.heap.size w w4 :=
 (qab hB h1).grown hg (Nat.le_trans hB.size h1.size) (fun q hq => Nat.le_trans hb (ho.lt q hq).1)
theorem block_app {w w4 : World} {v : Value} {b g : Nat} {o : Obj} (hg : w.grownBy w4 v.ownBlock) (h : w.heap[g]? = some o) (hv : ∀ q, v.ownBlock = some q → b ≤ q) (hlt : g < b) : w4.heap[g]? = some o :=
 (hg.block g (qag h) (fun c => by have := hv g c.symm; omega)).trans h
theorem qea {w w' : World} {b : Nat} {T : TypeId} {v : Value} {n : Nat} {xs : List Value} (h : w.ownsRow b T 4 v n xs) (hb : Below w.heap.size w w') : w'.ownsRow b T 4 v n xs :=
 qdp h (fun g hg => hb.block g (h.lt g hg).2)
def qcv (l : List En) (most : Int) (e : En) : List En := if memB e l = true then l else if most < (l.length : Int) + 1 then (l ++ [e]).eraseIdx 0 else l ++ [e]
theorem rfill_c (l : List En) (e : En) (he : e.ok) (hrt : qbe e = true) (ad : Option Addr) (cap : Nat) (most : Int) (w : World) (hm : 1 ≤ most) (hn : l.length ≤ 900) (hr : RLst w ad cap l) :
  Calls Tryz.prog 126 #[.slice ad l.length cap, .int .i64 most, e.v] w fun r w' => ∃ ad' cap', r = .returned (.slice ad' (qcv l most e).length cap') ∧ RLst w' ad' cap' (qcv l most e) ∧ Fs w ad ad' ∧ Below w.heap.size w w' := by
 have HR := Hid.mk hr
 have hRt := fun W => rright_any e he W
 rw [hrt] at hRt
 have HRT := Hid.mk hRt
 clear hRt hrt he
 have HME : Hid (∀ i, i < l.length → (gE l i) = e → qcv l most e = l) := fun i hi h => by
  unfold qcv
  rw [if_pos (qdc (by rw [← h, qbp l i hi]; exact List.getElem_mem hi))]
 have HMN : Hid ((∀ j, j < l.length → (gE l j) ≠ e) → qcv l most e = if most < (l.length : Int) + 1 then (l ++ [e]).eraseIdx 0 else l ++ [e]) := fun h => by
  unfold qcv
  rw [if_neg fun hm => by
   obtain ⟨j, hj, rfl⟩ := List.getElem_of_mem (qdj.1 hm)
   exact h j hj (qbp l j hj)]
 have HTK : Hid (∀ i, i < l.length → l.take (i + 1) = l.take i ++ [(gE l i)]) := fun i hi => qat l i hi
 have HTL : Hid (∀ i, i ≤ l.length → (l.take i).length = i) := fun i hi => by rw [List.length_take]; omega
 have heq := fun y w1 => eqR y e w1
 have HEQ := Hid.mk heq
 have HN := Hid.mk hn
 have hnI : (l.length : Int) ≤ 900 := by omega
 obtain ⟨f, hf⟩ : ∃ f : En, f = e := ⟨_, rfl⟩
 have HEF := Hid.mk hf
 generalize hRf : qcv l most e = RF at *
 clear hRf
 rw [← hf] at HRT ⊢
 clear hf heq hn hr
 obtain ⟨a0, a1, a2, a3⟩ := f
 simp only [En.v] at *
 go_enter Tryz.func126, Tryz.ntmps126
 go_wp2_with fail
 refine (HRT.out _).mono ?_
 rintro e' w1 ⟨rfl, hb1⟩
 have HB1 := Hid.mk (qab (qac w (.cells #[.int .i64 a0, .int .u64 a1, .int .i64 a2, .int .u64 a3] 97)) hb1)
 have HK1 := Hid.mk (qaa hb1 (heap_alloc_new w (.cells #[.int .i64 a0, .int .u64 a1, .int .i64 a2, .int .u64 a3] 97)))
 clear hb1 HRT
 go_wp2
 go_loopw [7, 8] (fun s7 s8 wr => ∃ (i : Nat) (v : Value), i ≤ l.length ∧ s8 = .int .i64 i ∧ v = s7 ∧ Below w.heap.size w wr ∧ wr.heap[w.heap.size]? = some (.cells #[.int .i64 a0, .int .u64 a1, .int .i64 a2, .int .u64 a3] 97 (0, 0)) ∧ wr.ownsRow (w.heap.size + 1) 97 4 v (l.take i).length (ecs (l.take i)) ∧ ∀ j, j < i → (gE l j) ≠ e) (fun _ s8 _ => l.length - (RowKit.intOf s8).toNat)
 case atStart => exact ⟨0, _, by omega, rfl, rfl, HB1.out, HK1.out, World.ownsRow_nil _ _ _ _, fun j hj => absurd hj (Nat.not_lt_zero _)⟩
 case round =>
  obtain ⟨i, v, hi, rfl, rfl, hb, hK, hown, hno⟩ := hrel
  have HB := Hid.mk hb
  have HK := Hid.mk hK
  have HO := Hid.mk hown
  have HNO := Hid.mk hno
  clear hno hown
  by_cases hlt : i < l.length
  ·have hlt2 : (i : Int) < l.length := by omega
   have HLT := Hid.mk hlt
   have hib : (i : Int) < 1000 := by omega
   obtain ⟨g, o, rfl, hg, hc⟩ := HR.out.rd i hlt
   have HC := Hid.mk hc
   have d0 := cell_later hb (hc 0 _ rfl)
   have d1 := cell_later hb (hc 1 _ rfl)
   have d2 := cell_later hb (hc 2 _ rfl)
   have d3 := cell_later hb (hc 3 _ rfl)
   rw [Nat.add_zero] at d0
   have hq := HEQ.out (gE l i)
   have HF2 : Hid ((gE l i) = e → RF = l) := fun h => HME.out i hlt h
   clear hc hb hi hg
   obtain ⟨q0, q1, q2, q3⟩ := qca hK
   clear hK
   by_cases hey : (gE l i) = e
   ·rw [qdn hey] at hq
    have HRL := Hid.mk (HF2.out hey)
    rw [← HEF.out] at hq
    clear hey HF2 hlt
    generalize (gE l i) = y at *
    obtain ⟨b0, b1, b2, b3⟩ := y
    simp only at *
    go_wp2
    go_quiet (fail)
    go_wp2
    go_ret
    rw [HRL.out]
    exact ⟨_, _, rfl, HR.out.later (qav HB.out _), Or.inl rfl, qav HB.out _⟩
   ·rw [qdy hey] at hq
    have HX : Hid (∀ j, j < i + 1 → (gE l j) ≠ e) := fun j hj => by
     by_cases h : j = i
     ·subst h; exact hey
     ·exact HNO.out j (by omega)
    have HTi := Hid.mk (HTK.out i hlt)
    have hTL := HTL.out i (by omega)
    have HTL1 := Hid.mk hTL
    rw [← HEF.out] at hq
    clear hey HF2 hlt hTL
    generalize (gE l i) = y at *
    obtain ⟨b0, b1, b2, b3⟩ := y
    simp only at *
    go_wp2
    go_quiet (fail)
    have HBq := Hid.mk (qav (Below.refl _ wr) nq)
    clear d0 d1 d2 d3 q0 q1 q2 q3 hq
    generalize wr.drewN nq = wq at *
    have hb := qab HB.out HBq.out
    have hc := HC.out
    have d0 := cell_later hb (hc 0 _ rfl)
    have d1 := cell_later hb (hc 1 _ rfl)
    have d2 := cell_later hb (hc 2 _ rfl)
    have d3 := cell_later hb (hc 3 _ rfl)
    rw [Nat.add_zero] at d0
    have HOq := Hid.mk (qea HO.out HBq.out)
    have HKq := Hid.mk (qaa HBq.out HK.out)
    have HBB := Hid.mk hb
    clear hb hc
    go_wp2_with (first
     | (at_builtin
        refine qbc etyR _ rfl _ _ rfl (w.heap.size + 1) v (l.take i) rfl ((World.ownsRow.alloc HOq.out _)) [⟨b0, b1, b2, b3⟩] ⟨wq.heap.size, 0, none⟩ 1 rfl (fun j u hu => World.news_of_block (cs := #[.int .i64 b0, .int .u64 b1, .int .i64 b2, .int .u64 b3]) (t := 97) (fr := (0, 0)) (heap_alloc_new wq _) j u hu) Nat.zero_lt_one (by have := HN.out; have := HTL1.out; have := HLT.out; show (l.take i).length + 1 ≤ 100000; omega) (by have := qag HKq.out; simp; omega) _ rfl ?_
        intro g2 cap2 w4 hown4 hgrow hat hlt4
        have HO4 := Hid.mk hown4
        have HG4 := Hid.mk hgrow
        clear hown4 hgrow hat hlt4)
     | fail)
    go_roundw
    case rel =>
     refine ⟨i + 1, _, by have := HLT.out; omega, by go_num, rfl, qcb HBB.out (qac wq _) HOq.out (Nat.le_succ _) HG4.out, block_app (b := w.heap.size + 1) HG4.out (qaa (qac wq _) HKq.out) (fun q hq => (HOq.out.lt q hq).1) (Nat.lt_succ_self _), ?_, HX.out⟩
     have e1 : min i l.length + 1 = (l.take i).length + 1 := by rw [List.length_take]
     rw [HTi.out, e1]
     exact HO4.out
    case measure => have := HLT.out; simp [RowKit.intOf]; omega
  ·have hlt2 : ¬ (i : Int) < l.length := by omega
   obtain rfl : i = l.length := by omega
   have hR2 := HMN.out HNO.out
   have HRF := Hid.mk hR2
   have hTl : l.take l.length = l := List.take_length
   have HO2 := HO.out
   rw [hTl] at HO2
   have HOq := Hid.mk HO2
   obtain ⟨q0, q1, q2, q3⟩ := qca hK
   clear hR2 hlt hi hTl HO2 HO HNO HME HMN HTK HTL hK hb
   by_cases hmo : most < (l.length : Int) + 1
   ·rw [if_pos hmo] at HRF
    have hl1 : 1 ≤ l.length := by omega
    go_wp2_with (first
     | (at_builtin
        refine qbc etyR _ rfl _ _ rfl (w.heap.size + 1) v l rfl ((World.ownsRow.alloc HOq.out _)) [⟨a0, a1, a2, a3⟩] ⟨wr.heap.size, 0, none⟩ 1 rfl (fun j u hu => World.news_of_block (cs := #[.int .i64 a0, .int .u64 a1, .int .i64 a2, .int .u64 a3]) (t := 97) (fr := (0, 0)) (heap_alloc_new wr _) j u hu) Nat.zero_lt_one (by have := HN.out; show l.length + 1 ≤ 100000; omega) (by have := qag HK.out; simp; omega) _ rfl ?_
        intro g2 cap2 w4 hown4 hgrow hat hlt4
        have HO4 := Hid.mk hown4
        have HG4 := Hid.mk hgrow
        have hcp := own_cap hown4
        have hc1 : ¬ cap2 = 1 := by simp at hcp; omega
        have nc1 : 1 ≤ cap2 := by simp at hcp; omega
        have nl1 : 1 ≤ l.length + 1 := by omega
        clear hown4 hgrow hat hlt4 hcp)
     | fail)
    go_ret
    obtain ⟨ad', cap', hv, hrl, hfr⟩ := own_rl HO4.out
    simp only [Value.slice.injEq] at hv
    obtain ⟨hv1, -, hv3⟩ := hv
    rw [HRF.out]
    have e1 : ∀ y : En, (l ++ [y]).eraseIdx 0 = (l ++ [y]).drop 1 := fun y => by cases l <;> rfl
    have e2 : ∀ y : En, ((l ++ [y]).drop 1).length = l.length := fun y => by simp
    rw [← hv1] at hrl hfr
    rw [← hv3] at hrl
    have h1 := hrl.rd.drop 1
    rw [e1]
    refine ⟨some ⟨g2, 4, none⟩, cap2 - 1, by rw [← HEF.out, e2]; rfl, ⟨by rw [← HEF.out]; exact h1, by rw [e2]; have := hrl.cp; simp at this; omega, by have := hrl.cm; omega, Or.inr ⟨_, _, rfl⟩, fun a ha => by cases ha; exact hrl.lt ⟨g2, 0, none⟩ rfl⟩, Or.inr (fun b hb => ?_), qcb HB.out (qac wr _) HOq.out (Nat.le_succ _) HG4.out⟩
    cases hb
    have := (hfr _ rfl).1
    show w.heap.size ≤ g2
    exact Nat.le_trans (Nat.le_succ _) this
   ·rw [if_neg hmo] at HRF
    go_wp2_with (first
     | (at_builtin
        refine qbc etyR _ rfl _ _ rfl (w.heap.size + 1) v l rfl ((World.ownsRow.alloc HOq.out _)) [⟨a0, a1, a2, a3⟩] ⟨wr.heap.size, 0, none⟩ 1 rfl (fun j u hu => World.news_of_block (cs := #[.int .i64 a0, .int .u64 a1, .int .i64 a2, .int .u64 a3]) (t := 97) (fr := (0, 0)) (heap_alloc_new wr _) j u hu) Nat.zero_lt_one (by have := HN.out; show l.length + 1 ≤ 100000; omega) (by have := qag HK.out; simp; omega) _ rfl ?_
        intro g2 cap2 w4 hown4 hgrow hat hlt4
        have HO4 := Hid.mk hown4
        have HG4 := Hid.mk hgrow
        clear hown4 hgrow hat hlt4)
     | fail)
    go_ret
    obtain ⟨ad', cap', hv, hrl, hfr⟩ := own_rl HO4.out
    simp only [Value.slice.injEq] at hv
    obtain ⟨hv1, -, hv3⟩ := hv
    rw [HRF.out]
    rw [← hv1] at hrl hfr
    rw [← hv3] at hrl
    have e2 : ∀ y : En, (l ++ [y]).length = l.length + 1 := fun y => by simp
    refine ⟨some ⟨g2, 0, none⟩, cap2, by rw [e2]; rfl, by rw [← HEF.out]; exact hrl, Or.inr (fun b hb => ?_), qcb HB.out (qac wr _) HOq.out (Nat.le_succ _) HG4.out⟩
    cases hb
    have := (hfr _ rfl).1
    show w.heap.size ≤ g2
    exact Nat.le_trans (Nat.le_succ _) this
theorem radd_c (l : List En) (e : En) (he : e.ok) (ad : Option Addr) (cap : Nat) (most : Int) (w : World) (hm : 1 ≤ most) (hn : l.length ≤ 900) (hr : RLst w ad cap l) :
  Calls Tryz.prog 126 #[.slice ad l.length cap, .int .i64 most, e.v] w fun r w' => ∃ ad' cap', r = .returned (.slice ad' (qbt l most e).length cap') ∧ RLst w' ad' cap' (qbt l most e) ∧ Fs w ad ad' ∧ Below w.heap.size w w' := by
 cases hrt : qbe e
 ·have hL : qbt l most e = l := by unfold qbt; rw [hrt]; rfl
  rw [hL]
  have hRt := fun W => rright_any e he W
  rw [hrt] at hRt
  have HR := Hid.mk hr
  clear hr hL hrt he hn
  obtain ⟨a0, a1, a2, a3⟩ := e
  simp only [En.v] at *
  go_enter Tryz.func126, Tryz.ntmps126
  go_wp2_with fail
  refine (hRt _).mono ?_
  rintro e' w1 ⟨rfl, hb1⟩
  go_wp2
  go_ret
  exact ⟨_, _, rfl, HR.out.later (qab (qac _ _) hb1), Or.inl rfl, qab (qac _ _) hb1⟩
 ·have hL : qbt l most e = qcv l most e := by unfold qbt qcv; rw [hrt]; rfl
  rw [hL]
  exact rfill_c l e he hrt ad cap most w hm hn hr
theorem zP44x01 {Z : Prop} (z : Z := by
 cases hpy : mB (gE l i) i0 x
 ·rw [hpy] at hcall
  have HN2 := Hid.mk (HNi.out hpy)
  clear hpy HYi HNi hc hb hi hlt hg
  generalize (gE l i) = y at *
  obtain ⟨b0, b1, b2, b3⟩ := y
  simp only [En.v, En.cs] at *
  go_wp2_with fail
  refine (hcall _).mono ?_
  rintro e w' ⟨rfl, hb'⟩
  have HBq := Hid.mk hb'
  clear hcall d0 d1 d2 d3 hb'
  have hb := qab HB.out HBq.out
  have hc := HC.out
  have d0 := cell_later hb (hc 0 _ rfl)
  have d1 := cell_later hb (hc 1 _ rfl)
  have d2 := cell_later hb (hc 2 _ rfl)
  have d3 := cell_later hb (hc 3 _ rfl)
  rw [Nat.add_zero] at d0
  have HOq := Hid.mk (qea HO.out HBq.out)
  have HBB := Hid.mk hb
  clear hb hc
  go_wp2_with (first
   | (at_builtin
      refine qbc etyR _ rfl _ _ rfl w.heap.size v (KP i) rfl ((World.ownsRow.alloc HOq.out _)) [⟨b0, b1, b2, b3⟩] ⟨w'.heap.size, 0, none⟩ 1 rfl (fun j u hu => World.news_of_block (cs := #[.int .i64 b0, .int .u64 b1, .int .i64 b2, .int .u64 b3]) (t := 97) (fr := (0, 0)) (heap_alloc_new w' _) j u hu) Nat.zero_lt_one (by have := HKLi.out; show (KP i).length + 1 ≤ 100000; omega) (by have := HBB.out.size; simp; omega) _ rfl ?_
      intro g2 cap2 w4 hown4 hgrow hat hlt4
      have HO4 := Hid.mk hown4
      have HG4 := Hid.mk hgrow
      clear hown4 hgrow hat hlt4)
   | fail)
  go_roundw
  case rel =>
   refine ⟨i + 1, _, by have := HLT.out; omega, by go_num, rfl, qcb HBB.out (qac w' _) HOq.out (Nat.le_refl _) HG4.out, ?_⟩
   rw [HN2.out]
   exact HO4.out
  case measure => have := HLT.out; simp [RowKit.intOf]; omega
 ·rw [hpy] at hcall
  have HY2 := Hid.mk (HYi.out hpy)
  clear hpy HYi HNi hc hb hi hlt hg
  generalize (gE l i) = y at *
  obtain ⟨b0, b1, b2, b3⟩ := y
  simp only [En.v, En.cs] at *
  go_wp2_with fail
  refine (hcall _).mono ?_
  rintro e w' ⟨rfl, hb'⟩
  have HBq := Hid.mk hb'
  clear hcall d0 d1 d2 d3 hb'
  go_wp2
  go_roundw
  case rel =>
   refine ⟨i + 1, _, by have := HLT.out; omega, by go_num, rfl, qab HB.out HBq.out, ?_⟩
   rw [HY2.out]
   exact qea HO.out HBq.out
  case measure => have := HLT.out; simp [RowKit.intOf]; omega) : Z := z
theorem zP44x02 {Z : Prop} (z : Z := by
 obtain rfl : i = l.length := by omega
 have HO2 := HO.out
 rw [HKA.out.1] at HO2
 obtain ⟨ad', cap', rfl, h1, h2⟩ := own_rl HO2
 have H1 := Hid.mk h1
 have H2 := Hid.mk h2
 clear hlt hi hb h1 h2 HO HO2
 go_wp2
 go_ret
 exact ⟨_, _, rfl, H1.out, fun b hb => (H2.out b hb).1, HB.out⟩) : Z := z
theorem rflush_va {w : World} (l : List En) (ad : Option Addr) (cap : Nat) (hr : RdA w ad l) (hlv : ∀ e ∈ l, 1 ≤ e.lv ∧ e.lv ≤ 3) (hn : l.length ≤ 900) (i0 : Int) (x : Nat) (hx : x < 18446744073709551616) :
  Calls Tryz.prog 65 #[.slice ad l.length cap, .int .i64 i0, .bool true, .int .u64 x] w fun r w' => ∃ ad' cap', r = .returned (.slice ad' (qar (fun e => mB e i0 x) l).length cap') ∧ RLst w' ad' cap' (qar (fun e => mB e i0 x) l) ∧ (∀ b, ad' = some b → w.heap.size ≤ b.block) ∧ Below w.heap.size w w' := by
 have HR := Hid.mk hr
 have HM : Hid (∀ i, i < l.length → ∀ w1, Calls Tryz.prog 104 #[(gE l i).v, .int .i64 i0, .int .u64 x] w1 fun r w' => r = .returned (.bool (mB (gE l i) i0 x)) ∧ Below w1.heap.size w1 w') := fun i hi w1 => rleads_any (gE l i) (hlv _ (gE_mem l i hi)).1 (hlv _ (gE_mem l i hi)).2 i0 x hx w1
 have HKY : Hid (∀ i, i < l.length → mB (gE l i) i0 x = true → qar (fun e => mB e i0 x) (l.take (i + 1)) = qar (fun e => mB e i0 x) (l.take i)) := fun i hi h => by
  unfold qar
  rw [qat l i hi, List.filter_append, filt0 (p := (fun e => mB e i0 x)) h, List.append_nil]
 have HKN : Hid (∀ i, i < l.length → mB (gE l i) i0 x = false → qar (fun e => mB e i0 x) (l.take (i + 1)) = qar (fun e => mB e i0 x) (l.take i) ++ [(gE l i)]) := fun i hi h => by
  unfold qar
  rw [qat l i hi, List.filter_append, filt1 (p := (fun e => mB e i0 x)) h]
 have HKL : Hid (∀ i, i ≤ l.length → (qar (fun e => mB e i0 x) (l.take i)).length ≤ 900) := fun i hi => by
  have := keep_le (fun e => mB e i0 x) (l.take i)
  rw [List.length_take] at this
  omega
 have HKA : Hid (qar (fun e => mB e i0 x) (l.take l.length) = qar (fun e => mB e i0 x) l ∧ qar (fun e => mB e i0 x) (l.take 0) = []) := ⟨by rw [List.take_length], rfl⟩
 have hnI : (l.length : Int) ≤ 900 := by omega
 obtain ⟨KP, hKP⟩ : ∃ KP : Nat → List En, KP = fun i => qar (fun e => mB e i0 x) (l.take i) := ⟨_, rfl⟩
 have eK : ∀ i, qar (fun e => mB e i0 x) (l.take i) = KP i := fun i => by rw [hKP]
 simp only [eK] at HKY HKN HKL HKA
 generalize qar (fun e => mB e i0 x) l = KL at *
 clear hKP eK hr hn
 clear hlv hx
 go_enter Tryz.func65, Tryz.ntmps65
 go_wp2
 go_loopw [9, 10, 11] (fun s9 s10 _ wr => ∃ (i : Nat) (v : Value), i ≤ l.length ∧ s10 = .int .i64 i ∧ v = s9 ∧ Below w.heap.size w wr ∧ wr.ownsRow w.heap.size 97 4 v (KP i).length (ecs (KP i))) (fun _ s10 _ _ => l.length - (RowKit.intOf s10).toNat)
 case atStart =>
  refine ⟨0, _, by omega, rfl, rfl, Below.refl _ _, ?_⟩
  rw [HKA.out.2]
  exact World.ownsRow_nil _ _ _ _
 case round =>
  obtain ⟨i, v, hi, rfl, rfl, hb, hown⟩ := hrel
  have HB := Hid.mk hb
  have HO := Hid.mk hown
  have HKLi := Hid.mk (HKL.out i hi)
  clear hown
  by_cases hlt : i < l.length
  ·have hlt2 : (i : Int) < l.length := by omega
   have HLT := Hid.mk hlt
   have hib : (i : Int) < 1000 := by omega
   obtain ⟨g, o, rfl, hg, hc⟩ := HR.out i hlt
   have HC := Hid.mk hc
   have d0 := cell_later hb (hc 0 _ rfl)
   have d1 := cell_later hb (hc 1 _ rfl)
   have d2 := cell_later hb (hc 2 _ rfl)
   have d3 := cell_later hb (hc 3 _ rfl)
   rw [Nat.add_zero] at d0
   have HYi := Hid.mk (HKY.out i hlt)
   have HNi := Hid.mk (HKN.out i hlt)
   have hcall := HM.out i hlt
   by_cases hz : i0 < 0
   ·have dz : decide (i0 < 0) = true := decide_eq_true hz
    exact zP44x01
   ·have dz : decide (i0 < 0) = false := decide_eq_false hz
    exact zP44x01
  ·have hlt2 : ¬ (i : Int) < l.length := by omega
   exact zP44x02
theorem rflush_as {w : World} (l : List En) (ad : Option Addr) (cap : Nat) (hr : RdA w ad l) (hn : l.length ≤ 900) (i0 : Int) (h0 : 0 ≤ i0) :
  Calls Tryz.prog 65 #[.slice ad l.length cap, .int .i64 i0, .bool false, .int .u64 0] w fun r w' => ∃ ad' cap', r = .returned (.slice ad' (qar (fun e => decide (e.aid = i0)) l).length cap') ∧ RLst w' ad' cap' (qar (fun e => decide (e.aid = i0)) l) ∧ (∀ b, ad' = some b → w.heap.size ≤ b.block) ∧ Below w.heap.size w w' := by
 have HR := Hid.mk hr
 have HKY : Hid (∀ i, i < l.length → decide ((gE l i).aid = i0) = true → qar (fun e => decide (e.aid = i0)) (l.take (i + 1)) = qar (fun e => decide (e.aid = i0)) (l.take i)) := fun i hi h => by
  unfold qar
  rw [qat l i hi, List.filter_append, filt0 (p := (fun e => decide (e.aid = i0))) h, List.append_nil]
 have HKN : Hid (∀ i, i < l.length → decide ((gE l i).aid = i0) = false → qar (fun e => decide (e.aid = i0)) (l.take (i + 1)) = qar (fun e => decide (e.aid = i0)) (l.take i) ++ [(gE l i)]) := fun i hi h => by
  unfold qar
  rw [qat l i hi, List.filter_append, filt1 (p := (fun e => decide (e.aid = i0))) h]
 have HKL : Hid (∀ i, i ≤ l.length → (qar (fun e => decide (e.aid = i0)) (l.take i)).length ≤ 900) := fun i hi => by
  have := keep_le (fun e => decide (e.aid = i0)) (l.take i)
  rw [List.length_take] at this
  omega
 have HKA : Hid (qar (fun e => decide (e.aid = i0)) (l.take l.length) = qar (fun e => decide (e.aid = i0)) l ∧ qar (fun e => decide (e.aid = i0)) (l.take 0) = []) := ⟨by rw [List.take_length], rfl⟩
 have hnI : (l.length : Int) ≤ 900 := by omega
 obtain ⟨KP, hKP⟩ : ∃ KP : Nat → List En, KP = fun i => qar (fun e => decide (e.aid = i0)) (l.take i) := ⟨_, rfl⟩
 have eK : ∀ i, qar (fun e => decide (e.aid = i0)) (l.take i) = KP i := fun i => by rw [hKP]
 simp only [eK] at HKY HKN HKL HKA
 generalize qar (fun e => decide (e.aid = i0)) l = KL at *
 clear hKP eK hr hn
 have dz : decide (i0 < 0) = false := decide_eq_false (by omega)
 go_enter Tryz.func65, Tryz.ntmps65
 go_wp2
 go_loopw [9, 10, 11] (fun s9 s10 _ wr => ∃ (i : Nat) (v : Value), i ≤ l.length ∧ s10 = .int .i64 i ∧ v = s9 ∧ Below w.heap.size w wr ∧ wr.ownsRow w.heap.size 97 4 v (KP i).length (ecs (KP i))) (fun _ s10 _ _ => l.length - (RowKit.intOf s10).toNat)
 case atStart =>
  refine ⟨0, _, by omega, rfl, rfl, Below.refl _ _, ?_⟩
  rw [HKA.out.2]
  exact World.ownsRow_nil _ _ _ _
 case round =>
  obtain ⟨i, v, hi, rfl, rfl, hb, hown⟩ := hrel
  have HB := Hid.mk hb
  have HO := Hid.mk hown
  have HKLi := Hid.mk (HKL.out i hi)
  clear hown
  by_cases hlt : i < l.length
  ·have hlt2 : (i : Int) < l.length := by omega
   have HLT := Hid.mk hlt
   have hib : (i : Int) < 1000 := by omega
   obtain ⟨g, o, rfl, hg, hc⟩ := HR.out i hlt
   have HC := Hid.mk hc
   have d0 := cell_later hb (hc 0 _ rfl)
   have d1 := cell_later hb (hc 1 _ rfl)
   have d2 := cell_later hb (hc 2 _ rfl)
   have d3 := cell_later hb (hc 3 _ rfl)
   rw [Nat.add_zero] at d0
   have HYi := Hid.mk (HKY.out i hlt)
   have HNi := Hid.mk (HKN.out i hlt)
   by_cases hpy : (gE l i).aid = i0
   ·have HY2 := Hid.mk (HYi.out (decide_eq_true hpy))
    clear HYi HNi hc hb hi hlt hg
    generalize (gE l i) = y at *
    obtain ⟨b0, b1, b2, b3⟩ := y
    simp only at *
    have dq : (b0 == i0) = true := by rw [beq_iff_eq]; exact hpy
    clear hpy
    go_wp2
    go_roundw
    case rel =>
     refine ⟨i + 1, _, by have := HLT.out; omega, by go_num, rfl, HB.out, ?_⟩
     rw [HY2.out]
     exact HO.out
    case measure => have := HLT.out; simp [RowKit.intOf]; omega
   ·have HN2 := Hid.mk (HNi.out (decide_eq_false hpy))
    have HOq := Hid.mk HO.out
    clear HYi HNi hc hb hi hlt hg
    generalize (gE l i) = y at *
    obtain ⟨b0, b1, b2, b3⟩ := y
    simp only at *
    have dq : (b0 == i0) = false := by rw [beq_eq_false_iff_ne]; exact hpy
    clear hpy
    go_wp2_with (first
     | (at_builtin
        refine qbc etyR _ rfl _ _ rfl w.heap.size v (KP i) rfl ((World.ownsRow.alloc HOq.out _)) [⟨b0, b1, b2, b3⟩] ⟨wr.heap.size, 0, none⟩ 1 rfl (fun j u hu => World.news_of_block (cs := #[.int .i64 b0, .int .u64 b1, .int .i64 b2, .int .u64 b3]) (t := 97) (fr := (0, 0)) (heap_alloc_new wr _) j u hu) Nat.zero_lt_one (by have := HKLi.out; show (KP i).length + 1 ≤ 100000; omega) (by have := HB.out.size; simp; omega) _ rfl ?_
        intro g2 cap2 w4 hown4 hgrow hat hlt4
        have HO4 := Hid.mk hown4
        have HG4 := Hid.mk hgrow
        clear hown4 hgrow hat hlt4)
     | fail)
    go_roundw
    case rel =>
     refine ⟨i + 1, _, by have := HLT.out; omega, by go_num, rfl, qcb HB.out (qac wr _) HOq.out (Nat.le_refl _) HG4.out, ?_⟩
     rw [HN2.out]
     exact HO4.out
    case measure => have := HLT.out; simp [RowKit.intOf]; omega
  ·have hlt2 : ¬ (i : Int) < l.length := by omega
   exact zP44x02
def BestAt (p : En → Bool) (l : List En) (n : Nat) (b : En) : Prop :=
 (b = e0 ∧ ∀ j, j < n → p (gE l j) = false) ∨ ∃ j, j < n ∧ b = gE l j ∧ p (gE l j) = true ∧ ∀ k, k < n → p (gE l k) = true → (gE l k).lv < (gE l j).lv ∨ ((gE l k).lv = (gE l j).lv ∧ k ≤ j)
theorem best_one {p : En → Bool} {l : List En} {n : Nat} {b c : En} (h : BestAt p l n b) (k : BestAt p l n c) : b = c := by
 rcases h with ⟨rfl, h⟩ | ⟨j, hj, rfl, pj, h⟩
 ·rcases k with ⟨rfl, k⟩ | ⟨i, hi, rfl, pi, k⟩
  ·rfl
  ·have := h i hi; rw [this] at pi; cases pi
 ·rcases k with ⟨rfl, k⟩ | ⟨i, hi, rfl, pi, k⟩
  ·have := k j hj; rw [this] at pj; cases pj
  ·have h1 := h i hi pi
   have h2 := k j hj pj
   have : j = i := by omega
   rw [this]
theorem bst_best (p : En → Bool) (l : List En) (hlv : ∀ e ∈ l, 1 ≤ e.lv) : ∀ n, n ≤ l.length → BestAt p l n (bstI p l n)
 | 0, _ => Or.inl ⟨rfl, fun j hj => absurd hj (Nat.not_lt_zero _)⟩
 | n + 1, hn => by
  have ih := bst_best p l hlv n (by omega)
  cases hp : p (gE l n)
  ·rw [bst_no hp]
   rcases ih with ⟨h1, h2⟩ | ⟨j, hj, h1, pj, h2⟩
   ·refine Or.inl ⟨h1, fun j hj => ?_⟩
    by_cases h : j = n
    ·subst h; exact hp
    ·exact h2 j (by omega)
   ·refine Or.inr ⟨j, by omega, h1, pj, fun k hk pk => ?_⟩
    by_cases h : k = n
    ·subst h; rw [hp] at pk; cases pk
    ·exact h2 k (by omega) pk
  ·by_cases hle : (bstI p l n).lv ≤ (gE l n).lv
   ·rw [bst_yes hp hle]
    refine Or.inr ⟨n, by omega, rfl, hp, fun k hk pk => ?_⟩
    by_cases h : k = n
    ·subst h; exact Or.inr ⟨rfl, Nat.le_refl _⟩
    ·rcases ih with ⟨h1, h2⟩ | ⟨j, hj, h1, pj, h2⟩
     ·have := h2 k (by omega); rw [this] at pk; cases pk
     ·rw [h1] at hle
      have := h2 k (by omega) pk
      omega
   ·rw [bst_low hle]
    rcases ih with ⟨h1, h2⟩ | ⟨j, hj, h1, pj, h2⟩
    ·rw [h1] at hle
     have h3 := hlv _ (gE_mem l n (by omega))
     exact absurd (show (0 : Int) ≤ _ by omega) hle
    ·rw [h1] at hle
     refine Or.inr ⟨j, by omega, h1, pj, fun k hk pk => ?_⟩
     by_cases h : k = n
     ·subst h; exact Or.inl (by omega)
     ·exact h2 k (by omega) pk
theorem info_er4 : (Tryz.prog.info? 97).map (·.size) = some 4 := by kernel_rfl
def NoAb (p : En → Bool) (l : List En) (lv : Int) : Prop := ∀ k, k < l.length → p (gE l k) = true → (gE l k).lv ≤ lv
def NoFr (p : En → Bool) (l : List En) (lv : Int) (i : Nat) : Prop := ∀ k, i ≤ k → k < l.length → ¬ ((gE l k).lv = lv ∧ p (gE l k) = true)
theorem be_found {p : En → Bool} {l : List En} {lv : Int} {i : Nat} (hi : i < l.length) (h1 : NoAb p l lv) (h2 : NoFr p l lv (i + 1)) (hl : (gE l i).lv = lv) (hp : p (gE l i) = true) : BestAt p l l.length (gE l i) := by
 refine Or.inr ⟨i, hi, rfl, hp, fun k hk pk => ?_⟩
 have h3 := h1 k hk pk
 by_cases h4 : (gE l k).lv = lv
 ·refine Or.inr ⟨by omega, ?_⟩
  apply Classical.byContradiction
  intro h5
  exact h2 k (by omega) hk ⟨h4, pk⟩
 ·exact Or.inl (by omega)
theorem be_next {p : En → Bool} {l : List En} {lv : Int} (h1 : NoAb p l lv) (h2 : NoFr p l lv 0) : NoAb p l (lv - 1) := fun k hk pk => by
 have h3 := h1 k hk pk
 by_cases h4 : (gE l k).lv = lv
 ·exact absurd ⟨h4, pk⟩ (h2 k (Nat.zero_le _) hk)
 ·omega
theorem be_step {p : En → Bool} {l : List En} {lv : Int} {i : Nat} (h2 : NoFr p l lv (i + 1)) (h : ¬ ((gE l i).lv = lv ∧ p (gE l i) = true)) : NoFr p l lv i := fun k h1 hk => by
 by_cases h3 : k = i
 ·subst h3; exact h
 ·exact h2 k (by omega) hk
theorem be_none {p : En → Bool} {l : List En} (hlv : ∀ e ∈ l, 1 ≤ e.lv) (h1 : NoAb p l 0) : BestAt p l l.length e0 := Or.inl ⟨rfl, fun j hj => by
 cases hp : p (gE l j)
 ·rfl
 ·have h2 := h1 j hj hp
  have h3 := hlv _ (gE_mem l j hj)
  omega⟩
theorem rbest_c {w : World} (l : List En) (ad : Option Addr) (cap : Nat) (hr : RdA w ad l) (hlv : ∀ e ∈ l, 1 ≤ e.lv ∧ e.lv ≤ 3) (hn : l.length ≤ 900) (i0 : Int) (x : Nat) (hx : x < 18446744073709551616) :
  Calls Tryz.prog 91 #[.slice ad l.length cap, .int .i64 i0, .int .u64 x] w fun r w' => r = .returned (bstE (fun e => mB e i0 x) l).v ∧ Below w.heap.size w w' := by
 have HR := Hid.mk hr
 have HM : Hid (∀ i, i < l.length → ∀ w1, Calls Tryz.prog 104 #[(gE l i).v, .int .i64 i0, .int .u64 x] w1 fun r w' => r = .returned (.bool (mB (gE l i) i0 x)) ∧ Below w1.heap.size w1 w') := fun i hi w1 => rleads_any (gE l i) (hlv _ (gE_mem l i hi)).1 (hlv _ (gE_mem l i hi)).2 i0 x hx w1
 have HLV : Hid (∀ e ∈ l, 1 ≤ e.lv ∧ e.lv ≤ 3) := hlv
 have HB : Hid (∀ b, BestAt (fun e => mB e i0 x) l l.length b → bstE (fun e => mB e i0 x) l = b) := fun b hb => best_one (bst_best _ l (fun e he => (hlv e he).1) l.length (Nat.le_refl _)) hb
 have HA3 : Hid (NoAb (fun e => mB e i0 x) l 3) := fun k hk _ => (hlv _ (gE_mem l k hk)).2
 have hnI : (l.length : Int) ≤ 900 := by omega
 clear hr hlv hn hx
 generalize bstE (fun e => mB e i0 x) l = BE at *
 go_enter Tryz.func91, Tryz.ntmps91
 go_wp2
 go_loopw [7, 8] (fun s7 _ wr => ∃ v : Int, 0 ≤ v ∧ v ≤ 3 ∧ s7 = .int .i64 v ∧ NoAb (fun e => mB e i0 x) l v ∧ Below w.heap.size w wr ∧ wr.heap[w.heap.size]? = some (.cells e0.ar 97 (0, 0))) (fun s7 _ _ => (RowKit.intOf s7).toNat)
 case atStart => exact ⟨3, by omega, by omega, rfl, HA3.out, qac _ _, heap_alloc_new _ _⟩
 case round =>
  obtain ⟨v, hv0, hv3, rfl, hNA, hb, h6⟩ := hrel
  have HNA := Hid.mk hNA
  have HBE := Hid.mk hb
  have H6 := Hid.mk h6
  clear hNA hb h6 HA3
  by_cases hv : 1 ≤ v
  ·go_wp2
   go_loopw [8] (fun s8 wq => ∃ i : Nat, i ≤ l.length ∧ s8 = .int .i64 ((i : Int) - 1) ∧ NoFr (fun e => mB e i0 x) l v i ∧ Below w.heap.size w wq ∧ wq.heap[w.heap.size]? = some (.cells e0.ar 97 (0, 0))) (fun s8 _ => (RowKit.intOf s8 + 1).toNat)
   case atStart => exact ⟨l.length, Nat.le_refl _, rfl, (fun k h1 h2 => by omega), HBE.out, H6.out⟩
   case round =>
    obtain ⟨i, hi, rfl, hNF, hb, h6⟩ := hrel
    have HNF := Hid.mk hNF
    have HBQ := Hid.mk hb
    have H6Q := Hid.mk h6
    clear hNF h6 H6 HBE
    cases i with
    | zero =>
     have hneg : ¬ (0 : Int) ≤ ((0 : Nat) : Int) - 1 := by omega
     clear hb hi
     go_wp2
     go_roundw
     case rel => exact ⟨v - 1, by omega, by omega, by go_num, be_next HNA.out HNF.out, HBQ.out, H6Q.out⟩
     case measure => simp [RowKit.intOf]; omega
    | succ i =>
     have hlt : i < l.length := by omega
     have HLT := Hid.mk hlt
     have hib : (i : Int) < 900 := by omega
     have hltI : (i : Int) < (l.length : Int) := by omega
     have ei : (((i + 1 : Nat) : Int) - 1) = (i : Int) := by omega
     rw [ei]
     obtain ⟨g, o, rfl, hg, hc⟩ := HR.out i hlt
     have d0 := cell_later hb (hc 0 _ rfl)
     have d1 := cell_later hb (hc 1 _ rfl)
     have d2 := cell_later hb (hc 2 _ rfl)
     have d3 := cell_later hb (hc 3 _ rfl)
     rw [Nat.add_zero] at d0
     have HC := Hid.mk hc
     have hcall := HM.out i hlt
     have HFO := Hid.mk (fun h1 h2 => HB.out _ (be_found hlt HNA.out HNF.out h1 h2))
     have HST := Hid.mk (fun h => be_step (i := i) HNF.out h)
     clear hb hi ei hg hc hlt
     by_cases hq : (gE l i).lv = v
     ·cases hpy : mB (gE l i) i0 x
      ·have HX := Hid.mk (HST.out (fun h => by rw [hpy] at h; cases h.2))
       rw [hpy] at hcall
       clear hpy HFO HST
       generalize (gE l i) = y at *
       obtain ⟨b0, b1, b2, b3⟩ := y
       simp only [En.v] at *
       have dq : (b2 == v) = true := by rw [beq_iff_eq]; exact hq
       clear hq
       go_wp2_with fail
       refine (hcall _).mono ?_
       rintro e w' ⟨rfl, hb'⟩
       have HB' := Hid.mk hb'
       clear hb' hcall d0 d1 d2 d3
       go_wp2
       go_roundw
       case rel => exact ⟨i, by have := HLT.out; omega, by go_num, HX.out, qab HBQ.out HB'.out, qaa HB'.out H6Q.out⟩
       case measure => simp [RowKit.intOf]
      ·have HX := Hid.mk (HFO.out hq hpy)
       rw [hpy] at hcall
       clear hpy HFO HST
       generalize (gE l i) = y at *
       obtain ⟨b0, b1, b2, b3⟩ := y
       simp only [En.v, En.cs] at *
       have dq : (b2 == v) = true := by rw [beq_iff_eq]; exact hq
       clear hq
       go_wp2_with fail
       refine (hcall _).mono ?_
       rintro e w' ⟨rfl, hb'⟩
       have HB' := Hid.mk hb'
       clear hb' hcall d0 d1 d2 d3
       have hbb := qab HBQ.out HB'.out
       have d0 := cell_later hbb (HC.out 0 _ rfl)
       have d1 := cell_later hbb (HC.out 1 _ rfl)
       have d2 := cell_later hbb (HC.out 2 _ rfl)
       have d3 := cell_later hbb (HC.out 3 _ rfl)
       rw [Nat.add_zero] at d0
       clear hbb
       go_wp2_with (first
        | (refine qad rfl 97 _ _ rfl rfl w.heap.size 0 _ #[.int .i64 b0, .int .u64 b1, .int .i64 b2, .int .u64 b3] rfl rfl rfl 97 _ (qaa HB'.out H6Q.out) (show 0 + 4 ≤ 4 by decide) info_er4 (by simp [Value.oneCell']) #[.int .i64 b0, .int .u64 b1, .int .i64 b2, .int .u64 b3] rfl ?_
           intro w8 hk8 ht8)
        | fail)
       rw [HX.out]
       refine bodyPost_ret (v := .agg #[.int .i64 b0, .int .u64 b1, .int .i64 b2, .int .u64 b3]) ?_ rfl ⟨rfl, qaf (qab HBQ.out HB'.out) ht8 (Nat.le_refl _)⟩
       exact results_cell_row rfl _ _ w.heap.size 97 _ _ _ rfl hk8 Tryz.underlying97 rfl (by kernel_rfl)
     ·have HX := Hid.mk (HST.out (fun h => hq h.1))
      clear HFO HST hcall
      generalize (gE l i) = y at *
      obtain ⟨b0, b1, b2, b3⟩ := y
      simp only at *
      have dq : (b2 == v) = false := by rw [beq_eq_false_iff_ne]; exact hq
      clear hq
      go_wp2
      go_roundw
      case rel => exact ⟨i, by have := HLT.out; omega, by go_num, HX.out, HBQ.out, H6Q.out⟩
      case measure => simp [RowKit.intOf]
  ·have hv' : v = 0 := by omega
   subst hv'
   have HZ := Hid.mk (HB.out e0 (be_none (fun e he => (HLV.out e he).1) HNA.out))
   clear hv hv0 hv3
   go_wp2_with (first
    | (refine qad rfl 97 _ _ rfl rfl w.heap.size 0 _ #[.int .i64 0, .int .u64 0, .int .i64 0, .int .u64 0] rfl rfl rfl 97 _ H6.out (show 0 + 4 ≤ 4 by decide) info_er4 (by simp [Value.oneCell']) #[.int .i64 0, .int .u64 0, .int .i64 0, .int .u64 0] rfl ?_
       intro w8 hk8 ht8)
    | fail)
   rw [HZ.out]
   refine bodyPost_ret (v := e0.v) ?_ rfl ⟨rfl, qaf HBE.out ht8 (Nat.le_refl _)⟩
   exact results_cell_row rfl _ _ w.heap.size 97 _ _ _ rfl hk8 Tryz.underlying97 rfl (by kernel_rfl)
open Go.RowKit Go.Maps
theorem rdec_yes {l : Int} {x : Nat} (h : isT l x = true) (hx : x < 18446744073709551616) (w : World) :
  Calls Tryz.prog 110 #[.int .i64 l, .int .u64 x] w fun e w' => ∃ u r y s a, e = .returned (.tuple #[dv 1 (rdO x) u r y s a, .bool true]) ∧ Below w.heap.size w w' := by
 unfold isT at h
 rw [Bool.and_eq_true, Bool.and_eq_true, decide_eq_true_eq] at h
 refine (rdec_good l x h.1 hx h.2.1 w).mono ?_
 rintro e w' ⟨rfl, hb⟩
 unfold rdV
 rw [h.2.2]
 exact ⟨_, _, _, _, _, rfl, hb⟩
theorem rdec_no {l : Int} {x : Nat} (hl : isLv l = true) (h : isT l x = false) (hx : x < 18446744073709551616) (w : World) :
  Calls Tryz.prog 110 #[.int .i64 l, .int .u64 x] w fun e w' => ∃ k o u r y s a z, e = .returned (.tuple #[dv k o u r y s a, .bool z]) ∧ (z = false ∨ (z = true ∧ k ≠ 1)) ∧ Below w.heap.size w w' := by
 cases hg : qde l x
 ·refine (rdec_fail l x hl hx hg w).mono ?_
  rintro e w' ⟨rfl, hb⟩
  exact ⟨_, _, _, _, _, _, _, _, rfl, Or.inl rfl, hb⟩
 ·have hk : rdK l x ≠ 1 := by
   intro hk
   unfold isT at h
   rw [hl, hg, decide_eq_true hk] at h
   cases h
  refine (rdec_good l x hl hx hg w).mono ?_
  rintro e w' ⟨rfl, hb⟩
  exact ⟨_, _, _, _, _, _, _, _, rfl, Or.inr ⟨rfl, hk⟩, hb⟩
theorem Fs.trans {w w1 : World} {a b c : Option Addr} (h : Fs w a b) (k : Fs w1 b c) (hs : w.heap.size ≤ w1.heap.size) : Fs w a c := by
 rcases k with rfl | k
 ·exact h
 ·exact Or.inr (fun q hq => Nat.le_trans hs (k q hq))
theorem zP44x03 {Z : Prop} (z : Z := by
 clear cst
 go_wp2
 go_ret2
 first | exact ⟨i, adl, capl, by have := HLT.out; omega, HT.out, fun _ => HTI.out, rfl, HRL.out, HFS.out, HBR.out⟩ | exact ⟨i, by have := HLT.out; omega, HT.out, fun _ => HTI.out, adl, capl, rfl, HRL.out, HFS.out, HBR.out⟩) : Z := z
theorem zP44x04 {Z : Prop} (z : Z := by
 go_ret2
 exact ⟨i, adl, capl, by have := HLT.out; omega, HT.out, fun _ => HTI.out, rfl, HRL.out.later (qab HBE.out (qac _ _)), HFS.out, qab HBR.out (qab HBE.out (qac _ _))⟩) : Z := z
theorem rwalked_c {w : World} (l : List En) (ad : Option Addr) (cap : Nat) (hr : RLst w ad cap l) (hl : l.length ≤ 800) (most : Int) (hm : 1 ≤ most) (i0 : Int) (x : Nat) (hx : x < 18446744073709551616) (lv : Int) (adS : Option Addr) (n capS : Nat) (A V : Nat → Nat) (hn : n ≤ 50) (hs : StepsAt w adS n A V) :
  Calls Tryz.prog 92 #[.slice ad l.length cap, .int .i64 most, .int .i64 i0, .int .u64 x, .int .i64 lv, .slice adS n capS] w fun r w' => ∃ (k : Nat) (ad' : Option Addr) (cap' : Nat), k ≤ n ∧ (∀ j : Nat, j < k → isT (lv + j) (V j) = true) ∧ (k < n → isT (lv + k) (V k) = false) ∧ r = .returned (.tuple #[.slice ad' (wdL most i0 x lv V l k).length cap', .int .i64 k]) ∧ RLst w' ad' cap' (wdL most i0 x lv V l k) ∧ Fs w ad ad' ∧ Below w.heap.size w w' := by
 have HS := Hid.mk hs
 have HX := Hid.mk hx
 have HR0 : Hid (RLst w ad cap (wdL most i0 x lv V l 0)) := hr
 have HL0 : Hid (l.length = (wdL most i0 x lv V l 0).length) := rfl
 have HLL : Hid (∀ i, i ≤ 50 → (wdL most i0 x lv V l i).length ≤ 850) := fun i hi => by have := wdL_len most i0 x lv V l i; omega
 have HYES : Hid (x < 281474976710656 → ∀ i, wdL most i0 x lv V l (i + 1) = qbt (wdL most i0 x lv V l i) most ⟨i0, qbn x (lv + i), lv + i + 1, rdO (V i)⟩) := fun h1 i => by show (if _ then _ else _) = _; rw [if_pos (show lowB x = true from decide_eq_true h1)]; rfl
 have HNO : Hid (¬ x < 281474976710656 → ∀ i, wdL most i0 x lv V l (i + 1) = wdL most i0 x lv V l i) := fun h1 i => by show (if _ then _ else _) = _; rw [if_neg (show ¬ lowB x = true by unfold lowB; rw [decide_eq_true_eq]; exact h1)]
 have HEOK : Hid (∀ i : Nat, (⟨i0, qbn x (lv + i), lv + i + 1, rdO (V i)⟩ : En).ok) := fun i => wdE_ok i0 x lv V i
 have hnI : (n : Int) ≤ 50 := by omega
 clear hs hr hx hl
 rw [HL0.out]
 clear HL0
 generalize wdL most i0 x lv V l = WD at *
 go_enter Tryz.func92, Tryz.ntmps92
 go_wp2
 go_loopw [0, 4, 14, 15, 16] (fun s0 s4 s14 _ _ wr => ∃ (i : Nat) (adl : Option Addr) (capl : Nat), i ≤ n ∧ s14 = .int .i64 i ∧ s4 = .int .i64 (lv + i) ∧ s0 = .slice adl (WD i).length capl ∧ (∀ j : Nat, j < i → isT (lv + j) (V j) = true) ∧ RLst wr adl capl (WD i) ∧ Fs w ad adl ∧ Below w.heap.size w wr) (fun _ _ s14 _ _ _ => n - (RowKit.intOf s14).toNat)
 case atStart => exact ⟨0, ad, cap, by omega, rfl, by simp, rfl, (fun j hj => absurd hj (Nat.not_lt_zero _)), HR0.out, Or.inl rfl, Below.refl _ _⟩
 case round =>
  obtain ⟨i, adl, capl, hi, rfl, rfl, rfl, hT, hRL, hFS, hb⟩ := hrel
  have HT := Hid.mk hT
  have HRL := Hid.mk hRL
  have HFS := Hid.mk hFS
  have HBR := Hid.mk hb
  clear HR0 hT hRL hFS
  by_cases hlt : i < n
  ·have hlt2 : (i : Int) < n := by omega
   have HLT := Hid.mk hlt
   have hib : (i : Int) < 50 := by omega
   obtain ⟨g, o, rfl, hg, q1, q2⟩ := HS.out.cells i hlt
   have d1 := cell_later hb q1
   have d2 := cell_later hb q2
   have HVI := Hid.mk (HS.out.vl i)
   have cst : ((i + 1 : Nat) : Int) = (i : Int) + 1 := by omega
   clear q1 q2 hg hb hlt hi
   by_cases hneg : lv + (i : Int) < 0
   ·have HTI : Hid (isT (lv + i) (V i) = false) := by
     show _ = _
     cases h : isT (lv + i) (V i)
     ·rfl
     ·have := isT_lv h; omega
    have dn : decide (lv + (i : Int) < 0) = true := decide_eq_true hneg
    exact zP44x03
   ·have dn : decide (lv + (i : Int) < 0) = false := decide_eq_false hneg
    by_cases hbig : 2 < lv + (i : Int)
    ·have HTI : Hid (isT (lv + i) (V i) = false) := by
      show _ = _
      cases h : isT (lv + i) (V i)
      ·rfl
      ·have := isT_lv h; omega
     have db : decide (2 < lv + (i : Int)) = true := decide_eq_true hbig
     exact zP44x03
    ·have db : decide (2 < lv + (i : Int)) = false := decide_eq_false hbig
     have hlvl : isLv (lv + (i : Int)) = true := by unfold isLv; rw [decide_eq_true_eq]; omega
     cases hTi : isT (lv + i) (V i)
     ·have HDE := Hid.mk (fun W => rdec_no hlvl hTi HVI.out W)
      have HTI := Hid.mk hTi
      clear hTi hlvl cst
      go_wp2_with fail
      refine (HDE.out _).mono ?_
      rintro e w1 ⟨k, o, u, r, y, s, a, z, rfl, hz, hb⟩
      have HBE := Hid.mk hb
      clear hb HDE d1 d2
      rcases hz with rfl | ⟨rfl, hz⟩
      ·go_wp2
       exact zP44x04
      ·go_wp2
       exact zP44x04
     ·have HDE := Hid.mk (fun W => rdec_yes hTi HVI.out W)
      have HTI : Hid (∀ j : Nat, j < i + 1 → isT (lv + j) (V j) = true) := fun j hj => by
       by_cases hji : j = i
       ·subst hji; exact hTi
       ·exact HT.out j (by omega)
      have HOKi := Hid.mk (HEOK.out i)
      have hBa := fun W => qcz x (lv + i) hlvl HX.out W
      have HLLi := Hid.mk (HLL.out i (by omega))
      have HYi := Hid.mk (fun h => HYES.out h i)
      have HNi := Hid.mk (fun h => HNO.out h i)
      clear hTi hlvl
      generalize qbn x (lv + i) = bv at *
      generalize rdO (V i) = ov at *
      go_wp2_with fail
      refine (HDE.out _).mono ?_
      rintro e w1 ⟨u, r, y, s, a, rfl, hb⟩
      have HBE := Hid.mk hb
      clear hb HDE d1 d2
      by_cases hlow : x < 281474976710656
      ·have dl : decide ((x : Int) < 281474976710656) = true := decide_eq_true (by omega)
       have HY2 := Hid.mk (HYi.out hlow)
       clear HYi HNi hlow
       have hK := heap_alloc_new w1 (.cells #[.int .i64 1, .int .u64 ov, .bool u, .bool r, .bool y, .bool s, .int .i64 a] 92)
       have HBW := Hid.mk (qab HBE.out (qac w1 (.cells #[.int .i64 1, .int .u64 ov, .bool u, .bool r, .bool y, .bool s, .int .i64 a] 92)))
       have hw2 : IntKind.i64.wrap (lv + (i : Int) + 1) = lv + (i : Int) + 1 := by rw [IntKind.wrap_i64]; omega
       go_upto_region 10 with fail
       generalize w1.alloc (.cells #[.int .i64 1, .int .u64 ov, .bool u, .bool r, .bool y, .bool s, .int .i64 a] 92) = wd at *
       generalize w1.heap.size = D at *
       have k1 : wd.cell? ⟨D, 1, none⟩ = some (.int .u64 ov) := (cell_of_row _ _ _ _ _ _ hK).trans rfl
       clear hK
       refine wp_region_noPanic ?_
       refine wp_region_held_drew (S := (fun w' => w'.cell? ⟨D, 1, none⟩ = some (.int .u64 ov))) (by kernel_rfl) ?_ (fun hHeld => ?_)
       ·exact cell_later (Below.refl _ _).drew k1
       refine tk 0 52 (h := ?_)
       refine tk 1 53 (h := ?_)
       refine tk 2 54 (h := ?_)
       refine tk 3 55 (h := ?_)
       refine tk 4 56 (h := ?_)
       refine tk 6 58 (h := ?_)
       refine tk 7 59 (h := ?_)
       refine tk 8 60 (h := ?_)
       refine tk 9 61 (h := ?_)
       refine rd1 5 (h := fun K hK => ?_)
       go_simp
       refine (hBa _).mono ?_
       rintro e v1 ⟨rfl, hbm⟩
       go_wp2_with fail
       have hbd := qab (Below.refl _ wd).drew hbm
       have k2 := cell_later hbd k1
       have HB1 := Hid.mk (qab HBW.out hbd)
       refine hK.out _ _ k2 (fun hHeld1 => ?_)
       clear hK hHeld hbm hbd k1 hBa
       try simp only [Act.put, sq]
       refine tk 10 62 (h := ?_)
       refine rd1 11 (h := fun K hK => ?_)
       go_simp
       refine (radd_c (WD i) ⟨i0, bv, lv + i + 1, ov⟩ HOKi.out adl capl most _ hm (by have := HLLi.out; omega) (HRL.out.later HB1.out)).mono ?_
       rintro e v2 ⟨ad2, cap2, rfl, hr2, hf2, hb2⟩
       go_wp2_with fail
       refine hK.out _ _ (cell_later hb2 k2) (fun hHeld2 => ?_)
       clear hK hHeld1 k2
       try simp only [Act.put, sq]
       refine qbo (i := 12) (v := ?_) 0 rfl rfl (by kernel_rfl) (by kernel_rfl) (by kernel_rfl) (fun _ _ _ h => h) (Or.inl ⟨by rfl, ?_⟩) (by assumption) ?_
       rotate_left
       ·(intro w' hSw; (try dsimp only at hSw); go_simp; all_goals with_reducible rfl)
       try simp only [Act.put, List.setIfInBounds_toArray, List.set_cons_zero]
       refine wpAnyH_done (by kernel_rfl) ?_ _
       refine NoPanic.normal ?_
       have HR2 := Hid.mk hr2
       have HF2 := Hid.mk hf2
       have HB2 := Hid.mk (qab HB1.out hb2)
       have HSZ := Hid.mk (Nat.le_trans HBR.out.size HB1.out.size)
       clear hr2 hf2 hb2 hHeld2
       rw [← HY2.out] at HR2
       rw [← HY2.out]
       go_wp2
       go_roundw
       case rel => exact ⟨i + 1, ad2, cap2, by have := HLT.out; omega, by go_num, by rw [cst]; go_num, rfl, HTI.out, HR2.out, HFS.out.trans HF2.out HSZ.out, qab HBR.out HB2.out⟩
       case measure => have := HLT.out; simp [RowKit.intOf]; omega
      ·have dl : decide ((x : Int) < 281474976710656) = false := decide_eq_false (by omega)
       have HN2 := Hid.mk (HNi.out (by omega))
       clear HYi HNi hlow hBa
       go_wp2
       go_roundw
       case rel =>
        refine ⟨i + 1, adl, capl, by have := HLT.out; omega, by go_num, by rw [cst]; go_num, by rw [HN2.out], HTI.out, ?_, HFS.out, qab HBR.out (qab HBE.out (qac _ _))⟩
        rw [HN2.out]; exact HRL.out.later (qab HBE.out (qac _ _))
       case measure => have := HLT.out; simp [RowKit.intOf]; omega
  ·have hlt2 : ¬ (i : Int) < n := by omega
   obtain rfl : i = n := by omega
   clear hlt hi hb
   go_wp2
   go_ret2
   first | exact ⟨i, adl, capl, Nat.le_refl _, HT.out, fun h => absurd h (Nat.lt_irrefl _), rfl, HRL.out, HFS.out, HBR.out⟩ | exact ⟨i, Nat.le_refl _, HT.out, fun h => absurd h (Nat.lt_irrefl _), adl, capl, rfl, HRL.out, HFS.out, HBR.out⟩
end Go.Proofs.YtfdbdeckohaneaaGreatDoor.TR
namespace Go.Proofs.YtfdbdeckohaneaaGreatDoor.MM
open Go.RowKit Go.Maps
structure Yd where
 vm : Value
 L : WL
 aE : Option Addr
 cE : Nat
 aK : Option Addr
 cK : Nat
 aP : Option Addr
 cP : Nat
 on : Bool
 R : Nat
 I : Nat
abbrev Yd.cs (d : Yd) (S : Nat) (most : Int) (s : St) : Array Value := #[.int .u64 S, d.vm, .int .i64 most, .slice d.aE s.E.length d.cE, .slice d.aK s.K.length d.cK, .bool d.on, .int .u64 (d.R : Nat), .int .i64 (d.I : Nat), .slice d.aP s.P.length d.cP]
structure YOk (w : World) (B : Nat → Prop) (m : Nat) (s : St) (d : Yd) : Prop where
 ref : Ref d.L s.f
 len : d.L.length ≤ m
 psl : Psl w B d.vm d.L
 re : TB.RLst w d.aE d.cE s.E
 rk : TR.RLst w d.aK d.cK s.K
 rp : PL.RdA w d.aP s.P
 be : ∀ a, d.aE = some a → B a.block
 bk : ∀ a, d.aK = some a → B a.block
 bp : ∀ a, d.aP = some a → B a.block ∧ a.block < w.heap.size
 on : d.on = s.rg.isSome
 rg : ∀ R I, s.rg = some (R, I) → d.R = R ∧ d.I = I
structure Fm (S : Nat) (f : Nat → Nat) : Prop where
 outs : ∀ x, errA S x ≠ 0 → f x = 0
 fl : ∀ x, f x < 18446744073709551616
 hS : S ≤ 4294967296
section
variable {w w' : World} {B B' X : Nat → Prop} {m S : Nat} {most : Int} {s : St} {d : Yd}
theorem YOk.mono (h : YOk w B m s d) (hB : ∀ i, B i → B' i) : YOk w B' m s d :=
 ⟨h.ref, h.len, h.psl.mono hB, h.re, h.rk, h.rp, fun a ha => hB _ (h.be a ha), fun a ha => hB _ (h.bk a ha), fun a ha => ⟨hB _ (h.bp a ha).1, (h.bp a ha).2⟩, h.on, h.rg⟩
theorem YOk.later (h : YOk w B m s d) (hb : Below w.heap.size w w') : YOk w' B m s d :=
 ⟨h.ref, h.len, h.psl.below hb, h.re.later hb, h.rk.later hb, h.rp.later hb, h.be, h.bk, fun a ha => ⟨(h.bp a ha).1, Nat.lt_of_lt_of_le (h.bp a ha).2 hb.size⟩, h.on, h.rg⟩
theorem YOk.turn (h : YOk w B m s d) (ht : Turn X w w') (hX : ∀ i, B i → ¬ X i) : YOk w' B m s d :=
 ⟨h.ref, h.len, h.psl.turn ht hX, h.re.turn ht (fun a ha => hX _ (h.be a ha)), h.rk.turn ht (fun a ha => hX _ (h.bk a ha)), h.rp.kept ht.size (fun a ha hl => ht.block _ hl (hX _ (h.bp a ha).1)), h.be, h.bk, fun a ha => ⟨(h.bp a ha).1, Nat.lt_of_lt_of_le (h.bp a ha).2 ht.size⟩, h.on, h.rg⟩
theorem YOk.tight (h : YOk w B m s d) : YOk w (fun g => B g ∧ g < w.heap.size) m s d := by
 refine ⟨h.ref, h.len, ?_, h.re, h.rk, h.rp, fun a ha => ⟨h.be a ha, h.re.lt a ha⟩, fun a ha => ⟨h.bk a ha, h.rk.lt a ha⟩, fun a ha => ⟨⟨(h.bp a ha).1, (h.bp a ha).2⟩, (h.bp a ha).2⟩, h.on, h.rg⟩
 rcases h.psl with q | ⟨g, cap, q1, q2, q3, q4⟩
 ·exact Or.inl q
 ·exact Or.inr ⟨g, cap, q1, ⟨q2, q3⟩, q3, q4⟩
theorem YOk.up {n : Nat} (h : YOk w B m s d) (hn : m ≤ n) : YOk w B n s d := { h with len := Nat.le_trans h.len hn }
theorem YOk.vm1 (h : YOk w B m s d) : d.vm.oneCell' = true := by
 obtain ⟨p, c, e, -⟩ := h.psl.form
 rw [e]; rfl
theorem YOk.setE (h : YOk w B m s d) {E' : List TB.En} {a' : Option Addr} {c' : Nat} (hr : TB.RLst w' a' c' E') (hb : Below w.heap.size w w') (hf : TB.Fs w d.aE a') : YOk w' (fun g => B g ∨ w.heap.size ≤ g) m { s with E := E' } { d with aE := a', cE := c' } := by
 have h2 := (h.later hb).mono (B' := fun g => B g ∨ w.heap.size ≤ g) (fun _ hi => Or.inl hi)
 refine ⟨h2.ref, h2.len, h2.psl, hr, h2.rk, h2.rp, fun a ha => ?_, h2.bk, h2.bp, h2.on, h2.rg⟩
 rcases hf with hf | hf
 ·exact Or.inl (h.be a (hf.symm.trans ha))
 ·exact Or.inr (hf a ha)
theorem YOk.setK (h : YOk w B m s d) {K' : List TR.En} {a' : Option Addr} {c' : Nat} (hr : TR.RLst w' a' c' K') (hb : Below w.heap.size w w') (hf : TR.Fs w d.aK a') : YOk w' (fun g => B g ∨ w.heap.size ≤ g) m { s with K := K' } { d with aK := a', cK := c' } := by
 have h2 := (h.later hb).mono (B' := fun g => B g ∨ w.heap.size ≤ g) (fun _ hi => Or.inl hi)
 refine ⟨h2.ref, h2.len, h2.psl, h2.re, hr, h2.rp, h2.be, fun a ha => ?_, h2.bp, h2.on, h2.rg⟩
 rcases hf with hf | hf
 ·exact Or.inl (h.bk a (hf.symm.trans ha))
 ·exact Or.inr (hf a ha)
theorem YOk.back {n k : Nat} (h : YOk w (fun g => (B g ∨ n ≤ g) ∨ k ≤ g) m s d) (hk : n ≤ k) : YOk w (fun g => B g ∨ n ≤ g) m s d :=
 h.mono (fun i hi => by
  rcases hi with hi | hi
  ·exact hi
  ·exact Or.inr (Nat.le_trans hk hi))
theorem qeq (h : YOk w B m s d) (hf : Fm S s.f) (hm : m < 1000000) (l : Int) (tb va : Nat) (ht : tb < 18446744073709551616) :
  Calls Tryz.prog 71 #[.agg #[.int .u64 S, d.vm], .int .i64 l, .int .u64 tb, .int .u64 va] w fun e w' => ∃ p cap, e = .returned (.agg (l11 (lfR (wk0 S s.f l tb va).2).cs [.int .i64 (ftR (wk0 S s.f l tb va).2).1, .int .i64 (ftR (wk0 S s.f l tb va).2).2] (.slice p (wk0 S s.f l tb va).1.length cap)).toArray) ∧
   Psl w' (fun g => w.heap.size ≤ g) (.slice p (wk0 S s.f l tb va).1.length cap) (wk0 S s.f l tb va).1 ∧ Below w.heap.size w w' := by
 by_cases hq : isLv l = true ∧ tb % 4096 = 0 ∧ va < 281474976710656
 ·have e : wk0 S s.f l tb va = wk S s.f va (4 - l).toNat tb := if_pos hq
  rw [e]
  refine (rfrom_ok l tb va hq.1 hq.2.1 ht hq.2.2 h.psl h.ref (by have := h.len; omega) hf.outs hf.fl hf.hS).mono ?_
  rintro r w1 ⟨sv, rfl, hp, hb⟩
  obtain ⟨p, cap, rfl, -⟩ := hp.form
  refine ⟨p, cap, ?_, hp, hb⟩
  unfold resL
  rw [leafL_cs, faultL_cs]
 ·have e : wk0 S s.f l tb va = ([], 1, 0, 0) := if_neg hq
  rw [e]
  refine (rfrom_bad S d.vm l tb va hq w).mono ?_
  rintro r w1 ⟨rfl, hb⟩
  exact ⟨none, 0, rfl, Or.inl ⟨rfl, rfl⟩, hb⟩
theorem base_idem (x : Nat) {l : Int} (hl : isLv l = true) : qbn (qbn x l) l = qbn x l := by
 unfold qbn
 rw [if_pos hl, if_pos hl]
 unfold baseN
 have h1 : x % 281474976710656 / 2 ^ lowK l * 2 ^ lowK l ≤ x % 281474976710656 := Nat.div_mul_le_self _ _
 have h2 : x % 281474976710656 < 281474976710656 := Nat.mod_lt _ (by omega)
 rw [Nat.mod_eq_of_lt (by omega : x % 281474976710656 / 2 ^ lowK l * 2 ^ lowK l < 281474976710656), Nat.mul_div_cancel _ (Nat.two_pow_pos _)]
theorem leaf_right {f : Nat → Nat} {l0 : Int} {tb va I : Nat} (hI : I ≤ 255) (hs : (lfR (wk0 S f l0 tb va).2).s = true) : TB.qbe ((lfR (wk0 S f l0 tb va).2).en I va) = true := by
 obtain ⟨r1, r2, r3⟩ := lfR_s hs
 have hw : (wk0 S f l0 tb va).2 = (0, (lfR (wk0 S f l0 tb va).2).l, (wk0 S f l0 tb va).2.2.2) := Prod.ext r1 (Prod.ext r2.symm rfl)
 obtain ⟨-, -, hv, -, hl, hm, hk⟩ := wk0_leaf hw
 generalize (wk0 S f l0 tb va).2 = r at *
 obtain ⟨q0, l, x⟩ := r
 have e0 : q0 = 0 := r1
 subst e0
 have el : (lfR (0, l, x)).l = l := rfl
 rw [el] at hl hm hk
 unfold mf at hm
 have hg : qde l x = true := by
  cases hg : qde l x
  ·rw [if_pos hg] at hm; exact absurd hm (by decide)
  ·rfl
 rw [if_neg (by rw [hg]; decide)] at hm
 have hk0 : rdK l x ≠ 0 := fun c => by rw [if_pos c] at hm; exact absurd hm (by decide)
 have hb0 : x.testBit 0 = true := by
  cases hb : x.testBit 0
  ·exact absurd (rd_inv l x hb).1 hk0
  ·rfl
 unfold qde at hg
 rw [hb0] at hg
 have hok : okD l x = true := hg
 unfold okD at hok
 rw [Bool.and_eq_true] at hok
 have hr := hok.1
 have hkk : rdK l x = 2 ∨ rdK l x = 3 := by
  rcases rightP_kind hr with h | h | h | h
  ·exact absurd h hk0
  ·exact absurd h hk
  ·exact Or.inl h
  ·exact Or.inr h
 have hls : rdS l x = true := hs
 unfold TB.qbe
 rw [Bool.and_eq_true, Bool.and_eq_true, Bool.and_eq_true, decide_eq_true_eq]
 refine ⟨⟨by show (0 : Int) ≤ (I : Int); omega, by show (I : Int) ≤ 255; omega⟩, ?_, hls, ?_⟩
 ·show TB.leafE l (rdK l x) (rdO x) (rdU l x) (rdR l x) (rdX l x) (rdS l x) (rdA l x) = true
  unfold TB.leafE
  rw [Bool.and_eq_true]
  refine ⟨?_, hr⟩
  rcases hkk with h | h <;> rw [h] <;> rfl
 ·show TB.mB ((lfR (0, l, x)).en I va) (I : Int) (qbn va l) = true
  unfold TB.mB lowB TB.qdd
  rw [Bool.and_eq_true, Bool.and_eq_true, Bool.and_eq_true, decide_eq_true_eq, decide_eq_true_eq, decide_eq_true_eq]
  exact ⟨rfl, baseV_lt _ _, hl, base_idem va hl⟩
theorem rfill_E (l : List TB.En) (most : Int) (e : TB.En) (h : TB.qbe e = true) : TB.qcv l most e = TB.qbt l most e := by
 unfold TB.qcv TB.qbt
 rw [if_pos h]
theorem ybest_c (h : YOk w B m s d) (hw : Wf most s) (I va : Nat) (hva : va < 18446744073709551616) :
  Calls Tryz.prog 91 #[.slice d.aK s.K.length d.cK, .int .i64 I, .int .u64 va] w fun r w' => r = .returned (bst s I va).v ∧ Below w.heap.size w w' :=
 TR.rbest_c s.K d.aK d.cK h.rk.rd (fun e he => TR.qej (hw.kr e he).2) (by have := hw.kl; have := hw.m64; omega) (I : Int) va hva
theorem ywalked_c (h : YOk w B m s d) (hf : Fm S s.f) (hw : Wf most s) (I va : Nat) (hva : va < 18446744073709551616) (lv : Int) (tb : Nat) (p : Option Addr) (cap : Nat) (hp : Psl w B' (.slice p (wk0 S s.f lv tb va).1.length cap) (wk0 S s.f lv tb va).1) :
  Calls Tryz.prog 92 #[.slice d.aK s.K.length d.cK, .int .i64 most, .int .i64 I, .int .u64 va, .int .i64 lv, .slice p (wk0 S s.f lv tb va).1.length cap] w fun r w' => ∃ (k : Int) (a' : Option Addr) (c' : Nat), r = .returned (.tuple #[.slice a' (TR.wdL most (I : Int) va lv (fun j => (wk0 S s.f lv tb va).1[j]!.2) s.K (tkn lv (wk0 S s.f lv tb va).1)).length c', .int .i64 k]) ∧
   YOk w' (fun g => B g ∨ w.heap.size ≤ g) m { s with K := TR.wdL most (I : Int) va lv (fun j => (wk0 S s.f lv tb va).1[j]!.2) s.K (tkn lv (wk0 S s.f lv tb va).1) } { d with aK := a', cK := c' } ∧ Below w.heap.size w w' := by
 have hlen := wk0_len S s.f lv tb va
 have hlt := TR.wk0_lt (S := S) (f := s.f) (va := va) (tb := tb) (l := lv) hf.fl hf.hS
 generalize (wk0 S s.f lv tb va).1 = L at *
 have hst : StepsAt w p L.length (fun j => L[j]!.1) (fun j => L[j]!.2) := by
  refine ⟨fun i hi => ?_, fun i => (hlt i).1, fun i => (hlt i).2⟩
  obtain ⟨p', cap', e, hc⟩ := hp.form
  cases e
  obtain ⟨g, rfl, hg, q1, q2⟩ := hc i hi
  exact ⟨g, 0, rfl, hg, by rw [Nat.zero_add]; exact q1, by rw [Nat.zero_add]; exact q2⟩
 have hk9 := hw.kl
 have hm9 := hw.m64
 refine (TR.rwalked_c s.K d.aK d.cK h.rk (by omega) most hw.m1 (I : Int) va hva lv p L.length cap _ _ (by omega) hst).mono ?_
 rintro r w1 ⟨k, a', c', hk, q1, q2, rfl, hr, hfs, hb⟩
 have e := tkn_uniq hk q1 q2
 subst e
 exact ⟨_, a', c', rfl, h.setK hr hb hfs, hb⟩
theorem yfill_c (h : YOk w B m s d) (h1 : 1 ≤ most) (hl : s.E.length ≤ 900) (e : TB.En) (he : TB.qbe e = true) :
  Calls Tryz.prog 93 #[.slice d.aE s.E.length d.cE, .int .i64 most, e.v] w fun r w' => ∃ a' c', r = .returned (.slice a' (TB.qbt s.E most e).length c') ∧ YOk w' (fun g => B g ∨ w.heap.size ≤ g) m { s with E := TB.qbt s.E most e } { d with aE := a', cE := c' } ∧ Below w.heap.size w w' := by
 refine (TB.rfill_c s.E e d.aE d.cE most w h1 hl h.re).mono ?_
 rintro r w1 ⟨a', c', rfl, hr, hfs, hb⟩
 rw [rfill_E _ _ _ he] at hr ⊢
 exact ⟨a', c', rfl, h.setE hr hb hfs, hb⟩
theorem qen (h : YOk w B m s d) (hw : Wf most s) (I va : Nat) (hva : va < 18446744073709551616) :
  Calls Tryz.prog 55 #[.slice d.aE s.E.length d.cE, .int .i64 I, .int .u64 va] w fun r w' => r = .returned (.tuple #[(fdE s I va).v, .int .i64 ((fdN s I va : Nat) : Int)]) ∧ Below w.heap.size w w' := by
 have hk9 := hw.el
 have hm9 := hw.m64
 exact TB.rfind_c s.E d.aE d.cE h.re.rd (fun e he => (rentry (hw.er e he)).2.2.1) (by omega) (I : Int) va hva
end
end Go.Proofs.YtfdbdeckohaneaaGreatDoor.MM
