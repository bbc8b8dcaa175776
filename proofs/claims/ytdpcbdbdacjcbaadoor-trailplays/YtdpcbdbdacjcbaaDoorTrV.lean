/- The document's lists of entries: the walk of portreeveref08's Fill. -/
import Derived.Test.YtdpcbdbdacjcbaaDoorTrI
import Derived.Test.YtdpcbdbdacjcbaaDoorTrR
namespace Go.Proofs.YtdpcbdbdacjcbaaDoor.TR
open Go.RowKit

theorem etyR : ETy 28 39 := ⟨Tryd.underlying28, by kernel_rfl⟩
/-- A list that lies in memory. -/
structure RLst (w : World) (ad : Option Addr) (cap : Nat) (l : List En) : Prop where
  rd : RdA w ad l
  cp : l.length ≤ cap
  cm : cap ≤ maxLen
  fm : ad = none ∨ ∃ g o, ad = some ⟨g, o, none⟩
  lt : ∀ a, ad = some a → a.block < w.heap.size
theorem RLst.later {w w' : World} {ad : Option Addr} {cap : Nat} {l : List En} (h : RLst w ad cap l) (hb : Below w.heap.size w w') : RLst w' ad cap l := ⟨h.rd.later hb, h.cp, h.cm, h.fm, fun a ha => Nat.lt_of_lt_of_le (h.lt a ha) hb.size⟩
theorem RLst.turn {w w' : World} {X : Nat → Prop} {ad : Option Addr} {cap : Nat} {l : List En} (h : RLst w ad cap l) (ht : Turn X w w') (hn : notIn X ad) : RLst w' ad cap l := ⟨h.rd.turn ht hn, h.cp, h.cm, h.fm, fun a ha => Nat.lt_of_lt_of_le (h.lt a ha) ht.size⟩
theorem own_rl {w : World} {base : Nat} {T : TypeId} {v : Value} {l : List En} (h : w.ownsRow base T 4 v l.length (ecs l)) : ∃ ad cap, v = .slice ad l.length cap ∧ RLst w ad cap l ∧ (∀ a, ad = some a → base ≤ a.block ∧ a.block < w.heap.size) := by
  obtain ⟨ad, cap, hv, hr, hb⟩ := own_rd h
  refine ⟨ad, cap, hv, ?_, hb⟩
  rcases h.2 with ⟨rfl, h0⟩ | ⟨g, c, cur, rfl, h1, hg, h2, h3, -⟩
  · simp only [Value.slice.injEq] at hv
    exact ⟨hr, by omega, by rw [← hv.2.2]; exact Nat.zero_le _, Or.inl hv.1.symm, fun a ha => (hb a ha).2⟩
  · simp only [Value.slice.injEq] at hv
    exact ⟨hr, by omega, by omega, Or.inr ⟨g, 0, hv.1.symm⟩, fun a ha => (hb a ha).2⟩
theorem own_cap {w : World} {base g n cap : Nat} {T : TypeId} {k : Nat} {xs : List Value} (h : w.ownsRow base T 4 (.slice (some ⟨g, 0, none⟩) k cap) n xs) : n ≤ cap := by
  rcases h.2 with ⟨e, -⟩ | ⟨g', c, cur, e, h1, hg, h2, -⟩
  · cases e
  · cases e; exact h2
/-- It is as it was, or new. -/
def Fs (w : World) (ad ad' : Option Addr) : Prop := ad' = ad ∨ ∀ b, ad' = some b → w.heap.size ≤ b.block
theorem Fs.not {w w' : World} {X : Nat → Prop} {ad ad' : Option Addr} (h : Fs w ad ad') (hn : notIn X ad) (hX : ∀ i, X i → i < w.heap.size) (_ : w.heap.size ≤ w'.heap.size) : notIn X ad' := by
  rcases h with rfl | h
  · exact hn
  · intro a ha hx
    have := h a ha
    have := hX _ hx
    omega

/-- A row of the call's own, behind an append: all else is as it was. -/
theorem below_app {w wr w1 w4 : World} {v : Value} {b : Nat} {T : TypeId} {n : Nat} {xs : List Value} (hB : Below w.heap.size w wr) (h1 : Below wr.heap.size wr w1) (ho : wr.ownsRow b T 4 v n xs) (hb : w.heap.size ≤ b) (hg : w1.grownBy w4 v.ownBlock) : Below w.heap.size w w4 :=
  (below_tr hB h1).grown hg (Nat.le_trans hB.size h1.size) (fun q hq => Nat.le_trans hb (ho.lt q hq).1)
theorem block_app {w w4 : World} {v : Value} {b g : Nat} {o : Obj} (hg : w.grownBy w4 v.ownBlock) (h : w.heap[g]? = some o) (hv : ∀ q, v.ownBlock = some q → b ≤ q) (hlt : g < b) : w4.heap[g]? = some o :=
  (hg.block g (block_lt h) (fun c => by have := hv g c.symm; omega)).trans h
theorem own_later {w w' : World} {b : Nat} {T : TypeId} {v : Value} {n : Nat} {xs : List Value} (h : w.ownsRow b T 4 v n xs) (hb : Below w.heap.size w w') : w'.ownsRow b T 4 v n xs :=
  own_keep h (fun g hg => hb.block g (h.lt g hg).2)

def rfillL (l : List En) (most : Int) (e : En) : List En := if memB e l = true then l else if most < (l.length : Int) + 1 then (l ++ [e]).eraseIdx 0 else l ++ [e]

set_option maxHeartbeats 16000000 in
set_option maxRecDepth 100000 in
theorem rfill_c (l : List En) (e : En) (he : e.ok) (hrt : rightE e = true) (ad : Option Addr) (cap : Nat) (most : Int) (w : World) (hm : 1 ≤ most) (hn : l.length ≤ 900) (hr : RLst w ad cap l) :
    Calls Tryd.prog 19 #[.slice ad l.length cap, .int .i64 most, e.v] w fun r w' => ∃ ad' cap', r = .returned (.slice ad' (rfillL l most e).length cap') ∧ RLst w' ad' cap' (rfillL l most e) ∧ Fs w ad ad' ∧ Below w.heap.size w w' := by
  have HR := Hid.mk hr
  have hRt := fun W => rright_any e he W
  rw [hrt] at hRt
  have HRT := Hid.mk hRt
  clear hRt hrt he
  have HME : Hid (∀ i, i < l.length → (gE l i) = e → rfillL l most e = l) := fun i hi h => by
    unfold rfillL
    rw [if_pos (memB_true (by rw [← h, gE_pos l i hi]; exact List.getElem_mem hi))]
  have HMN : Hid ((∀ j, j < l.length → (gE l j) ≠ e) → rfillL l most e = if most < (l.length : Int) + 1 then (l ++ [e]).eraseIdx 0 else l ++ [e]) := fun h => by
    unfold rfillL
    rw [if_neg fun hm => by
      obtain ⟨j, hj, rfl⟩ := List.getElem_of_mem (memB_iff.1 hm)
      exact h j hj (gE_pos l j hj)]
  have HTK : Hid (∀ i, i < l.length → l.take (i + 1) = l.take i ++ [(gE l i)]) := fun i hi => take_succ_g l i hi
  have HTL : Hid (∀ i, i ≤ l.length → (l.take i).length = i) := fun i hi => by rw [List.length_take]; omega
  have heq := fun y w1 => eqR y e w1
  have HEQ := Hid.mk heq
  have HN := Hid.mk hn
  have hnI : (l.length : Int) ≤ 900 := by omega
  obtain ⟨f, hf⟩ : ∃ f : En, f = e := ⟨_, rfl⟩
  have HEF := Hid.mk hf
  generalize hRf : rfillL l most e = RF at *
  clear hRf
  rw [← hf] at HRT ⊢
  clear hf heq hn hr
  obtain ⟨a0, a1, a2, a3⟩ := f
  simp only [En.v] at *
  go_enter Tryd.func19, Tryd.ntmps19
  go_wp2_with fail
  refine (HRT.out _).mono ?_
  rintro e' w1 ⟨rfl, hb1⟩
  have HB1 := Hid.mk (below_tr (below_new w (.cells #[.int .i64 a0, .int .u64 a1, .int .i64 a2, .int .u64 a3] 39)) hb1)
  have HK1 := Hid.mk (block_later hb1 (heap_alloc_new w (.cells #[.int .i64 a0, .int .u64 a1, .int .i64 a2, .int .u64 a3] 39)))
  clear hb1 HRT
  go_wp2
  go_loopw [7, 8] (fun s7 s8 wr => ∃ (i : Nat) (v : Value), i ≤ l.length ∧ s8 = .int .i64 (i : Nat) ∧ v = s7 ∧ Below w.heap.size w wr ∧ wr.heap[w.heap.size]? = some (.cells #[.int .i64 a0, .int .u64 a1, .int .i64 a2, .int .u64 a3] 39 (0, 0)) ∧ wr.ownsRow (w.heap.size + 1) 39 4 v (l.take i).length (ecs (l.take i)) ∧ ∀ j, j < i → (gE l j) ≠ e) (fun _ s8 _ => l.length - (RowKit.intOf s8).toNat)
  case atStart => exact ⟨0, _, by omega, rfl, rfl, HB1.out, HK1.out, World.ownsRow_nil _ _ _ _, fun j hj => absurd hj (Nat.not_lt_zero _)⟩
  case round =>
    obtain ⟨i, v, hi, rfl, rfl, hb, hK, hown, hno⟩ := hrel
    have HB := Hid.mk hb
    have HK := Hid.mk hK
    have HO := Hid.mk hown
    have HNO := Hid.mk hno
    clear hno hown
    by_cases hlt : i < l.length
    · have hlt2 : (i : Int) < l.length := by omega
      have HLT := Hid.mk hlt
      have hib : (i : Int) < 1000 := by omega
      obtain ⟨g, o, rfl, hg, hc⟩ := HR.out.rd i hlt
      have HC := Hid.mk hc
      have d0 := cell_later hb (hc 0 _ rfl)
      have d1 := cell_later hb (hc 1 _ rfl)
      have d2 := cell_later hb (hc 2 _ rfl)
      have d3 := cell_later hb (hc 3 _ rfl)
      rw [Nat.add_zero] at d0
      have hq := HEQ.out (gE l i)
      have HF2 : Hid ((gE l i) = e → RF = l) := fun h => HME.out i hlt h
      clear hc hb hi hg
      obtain ⟨q0, q1, q2, q3⟩ := cells4 hK
      clear hK
      by_cases hey : (gE l i) = e
      · rw [eqB_true hey] at hq
        have HRL := Hid.mk (HF2.out hey)
        rw [← HEF.out] at hq
        clear hey HF2 hlt
        generalize (gE l i) = y at *
        obtain ⟨b0, b1, b2, b3⟩ := y
        simp only at *
        go_wp2
        go_quiet (fail)
        go_wp2
        go_ret
        rw [HRL.out]
        exact ⟨_, _, rfl, HR.out.later (below_dN HB.out _), Or.inl rfl, below_dN HB.out _⟩
      · rw [eqB_false hey] at hq
        have HX : Hid (∀ j, j < i + 1 → (gE l j) ≠ e) := fun j hj => by
          by_cases h : j = i
          · subst h; exact hey
          · exact HNO.out j (by omega)
        have HTi := Hid.mk (HTK.out i hlt)
        have hTL := HTL.out i (by omega)
        have HTL1 := Hid.mk hTL
        rw [← HEF.out] at hq
        clear hey HF2 hlt hTL
        generalize (gE l i) = y at *
        obtain ⟨b0, b1, b2, b3⟩ := y
        simp only at *
        go_wp2
        go_quiet (fail)
        have HBq := Hid.mk (below_dN (Below.refl _ wr) nq)
        clear d0 d1 d2 d3 q0 q1 q2 q3 hq
        generalize wr.drewN nq = wq at *
        have hb := below_tr HB.out HBq.out
        have hc := HC.out
        have d0 := cell_later hb (hc 0 _ rfl)
        have d1 := cell_later hb (hc 1 _ rfl)
        have d2 := cell_later hb (hc 2 _ rfl)
        have d3 := cell_later hb (hc 3 _ rfl)
        rw [Nat.add_zero] at d0
        have HOq := Hid.mk (own_later HO.out HBq.out)
        have HKq := Hid.mk (block_later HBq.out HK.out)
        have HBB := Hid.mk hb
        clear hb hc
        go_wp2_with (first
          | (at_builtin
             refine wpList_appE etyR _ rfl _ _ rfl (w.heap.size + 1) v (l.take i) rfl ((World.ownsRow.alloc HOq.out _)) [⟨b0, b1, b2, b3⟩] ⟨wq.heap.size, 0, none⟩ 1 rfl (fun j u hu => World.news_of_block (cs := #[.int .i64 b0, .int .u64 b1, .int .i64 b2, .int .u64 b3]) (t := 39) (fr := (0, 0)) (heap_alloc_new wq _) j u hu) Nat.zero_lt_one (by have := HN.out; have := HTL1.out; have := HLT.out; show (l.take i).length + 1 ≤ 100000; omega) (by have := block_lt HKq.out; simp; omega) _ rfl ?_
             intro g2 cap2 w4 hown4 hgrow hat hlt4
             have HO4 := Hid.mk hown4
             have HG4 := Hid.mk hgrow
             clear hown4 hgrow hat hlt4)
          | fail)
        go_roundw
        case rel =>
          refine ⟨i + 1, _, by have := HLT.out; omega, by go_num, rfl, below_app HBB.out (below_new wq _) HOq.out (Nat.le_succ _) HG4.out, block_app (b := w.heap.size + 1) HG4.out (block_later (below_new wq _) HKq.out) (fun q hq => (HOq.out.lt q hq).1) (Nat.lt_succ_self _), ?_, HX.out⟩
          have e1 : min i l.length + 1 = (l.take i).length + 1 := by rw [List.length_take]
          rw [HTi.out, e1]
          exact HO4.out
        case measure => have := HLT.out; simp [RowKit.intOf]; omega
    · have hlt2 : ¬ (i : Int) < l.length := by omega
      obtain rfl : i = l.length := by omega
      have hR2 := HMN.out HNO.out
      have HRF := Hid.mk hR2
      have hTl : l.take l.length = l := List.take_length
      have HO2 := HO.out
      rw [hTl] at HO2
      have HOq := Hid.mk HO2
      obtain ⟨q0, q1, q2, q3⟩ := cells4 hK
      clear hR2 hlt hi hTl HO2 HO HNO HME HMN HTK HTL hK hb
      by_cases hmo : most < (l.length : Int) + 1
      · rw [if_pos hmo] at HRF
        have hl1 : 1 ≤ l.length := by omega
        go_wp2_with (first
          | (at_builtin
             refine wpList_appE etyR _ rfl _ _ rfl (w.heap.size + 1) v l rfl ((World.ownsRow.alloc HOq.out _)) [⟨a0, a1, a2, a3⟩] ⟨wr.heap.size, 0, none⟩ 1 rfl (fun j u hu => World.news_of_block (cs := #[.int .i64 a0, .int .u64 a1, .int .i64 a2, .int .u64 a3]) (t := 39) (fr := (0, 0)) (heap_alloc_new wr _) j u hu) Nat.zero_lt_one (by have := HN.out; show l.length + 1 ≤ 100000; omega) (by have := block_lt HK.out; simp; omega) _ rfl ?_
             intro g2 cap2 w4 hown4 hgrow hat hlt4
             have HO4 := Hid.mk hown4
             have HG4 := Hid.mk hgrow
             have hcp := own_cap hown4
             have hc1 : ¬ cap2 = 1 := by simp at hcp; omega
             have nc1 : 1 ≤ cap2 := by simp at hcp; omega
             have nl1 : 1 ≤ l.length + 1 := by omega
             clear hown4 hgrow hat hlt4 hcp)
          | fail)
        go_ret
        obtain ⟨ad', cap', hv, hrl, hfr⟩ := own_rl HO4.out
        simp only [Value.slice.injEq] at hv
        obtain ⟨hv1, -, hv3⟩ := hv
        rw [HRF.out]
        have e1 : ∀ y : En, (l ++ [y]).eraseIdx 0 = (l ++ [y]).drop 1 := fun y => by cases l <;> rfl
        have e2 : ∀ y : En, ((l ++ [y]).drop 1).length = l.length := fun y => by simp
        rw [← hv1] at hrl hfr
        rw [← hv3] at hrl
        have h1 := hrl.rd.drop 1
        rw [e1]
        refine ⟨some ⟨g2, 4, none⟩, cap2 - 1, by rw [← HEF.out, e2]; rfl, ⟨by rw [← HEF.out]; exact h1, by rw [e2]; have := hrl.cp; simp at this; omega, by have := hrl.cm; omega, Or.inr ⟨_, _, rfl⟩, fun a ha => by cases ha; exact hrl.lt ⟨g2, 0, none⟩ rfl⟩, Or.inr (fun b hb => ?_), below_app HB.out (below_new wr _) HOq.out (Nat.le_succ _) HG4.out⟩
        cases hb
        have := (hfr _ rfl).1
        show w.heap.size ≤ g2
        exact Nat.le_trans (Nat.le_succ _) this
      · rw [if_neg hmo] at HRF
        go_wp2_with (first
          | (at_builtin
             refine wpList_appE etyR _ rfl _ _ rfl (w.heap.size + 1) v l rfl ((World.ownsRow.alloc HOq.out _)) [⟨a0, a1, a2, a3⟩] ⟨wr.heap.size, 0, none⟩ 1 rfl (fun j u hu => World.news_of_block (cs := #[.int .i64 a0, .int .u64 a1, .int .i64 a2, .int .u64 a3]) (t := 39) (fr := (0, 0)) (heap_alloc_new wr _) j u hu) Nat.zero_lt_one (by have := HN.out; show l.length + 1 ≤ 100000; omega) (by have := block_lt HK.out; simp; omega) _ rfl ?_
             intro g2 cap2 w4 hown4 hgrow hat hlt4
             have HO4 := Hid.mk hown4
             have HG4 := Hid.mk hgrow
             clear hown4 hgrow hat hlt4)
          | fail)
        go_ret
        obtain ⟨ad', cap', hv, hrl, hfr⟩ := own_rl HO4.out
        simp only [Value.slice.injEq] at hv
        obtain ⟨hv1, -, hv3⟩ := hv
        rw [HRF.out]
        rw [← hv1] at hrl hfr
        rw [← hv3] at hrl
        have e2 : ∀ y : En, (l ++ [y]).length = l.length + 1 := fun y => by simp
        refine ⟨some ⟨g2, 0, none⟩, cap2, by rw [e2]; rfl, by rw [← HEF.out]; exact hrl, Or.inr (fun b hb => ?_), below_app HB.out (below_new wr _) HOq.out (Nat.le_succ _) HG4.out⟩
        cases hb
        have := (hfr _ rfl).1
        show w.heap.size ≤ g2
        exact Nat.le_trans (Nat.le_succ _) this

set_option maxHeartbeats 1000000 in
set_option maxRecDepth 100000 in
theorem radd_c (l : List En) (e : En) (he : e.ok) (ad : Option Addr) (cap : Nat) (most : Int) (w : World) (hm : 1 ≤ most) (hn : l.length ≤ 900) (hr : RLst w ad cap l) :
    Calls Tryd.prog 19 #[.slice ad l.length cap, .int .i64 most, e.v] w fun r w' => ∃ ad' cap', r = .returned (.slice ad' (fillL l most e).length cap') ∧ RLst w' ad' cap' (fillL l most e) ∧ Fs w ad ad' ∧ Below w.heap.size w w' := by
  cases hrt : rightE e
  · have hL : fillL l most e = l := by unfold fillL; rw [hrt]; rfl
    rw [hL]
    have hRt := fun W => rright_any e he W
    rw [hrt] at hRt
    have HR := Hid.mk hr
    clear hr hL hrt he hn
    obtain ⟨a0, a1, a2, a3⟩ := e
    simp only [En.v] at *
    go_enter Tryd.func19, Tryd.ntmps19
    go_wp2_with fail
    refine (hRt _).mono ?_
    rintro e' w1 ⟨rfl, hb1⟩
    go_wp2
    go_ret
    exact ⟨_, _, rfl, HR.out.later (below_tr (below_new _ _) hb1), Or.inl rfl, below_tr (below_new _ _) hb1⟩
  · have hL : fillL l most e = rfillL l most e := by unfold fillL rfillL; rw [hrt]; rfl
    rw [hL]
    exact rfill_c l e he hrt ad cap most w hm hn hr

end Go.Proofs.YtdpcbdbdacjcbaaDoor.TR
