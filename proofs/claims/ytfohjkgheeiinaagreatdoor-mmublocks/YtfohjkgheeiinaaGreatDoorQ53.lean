/- MmuBlocks (P9.5): for all words, every address, list of words, number and hint the law returns true: a store of many words and a load of many words tell the same as the document's machine, word by word, and leave the same memory. -/
import Derived.Test.YtfohjkgheeiinaaGreatDoorQ51
import Derived.Test.YtfohjkgheeiinaaGreatDoorQ52
set_option maxHeartbeats 16000000
set_option maxRecDepth 100000
namespace Go.Proofs.YtfohjkgheeiinaaGreatDoor.MM
open Go.ChangeShapes Go.WideShapes Go.ChangeAt Go.RowKit Go.Lib Go.Maps
theorem set3b (s : St) : setRg s 844424930136064 = { s with rg := some (4096, 3) } := by
 unfold setRg
 rw [if_pos (by decide +kernel)]
theorem info_u64z : (Tryz.prog.info? 26).map (·.size) = some 1 := by kernel_rfl
theorem info_intz : (Tryz.prog.info? 3).map (·.size) = some 1 := by kernel_rfl
theorem info_F : (Tryz.prog.info? 53).map (·.size) = some 2 := by kernel_rfl
theorem own_words {w : World} {base n : Nat} {v : Value} {f : Nat → Nat} (h : w.ownsRow base 26 1 v n ((List.range n).map (fun j => .int .u64 (f j : Nat)))) : ∃ ad cap, v = .slice ad n cap ∧ ∀ j, j < n → ∃ g, ad = some ⟨g, 0, none⟩ ∧ base ≤ g ∧ g < w.heap.size ∧ w.cell? ⟨g, j, none⟩ = some (.int .u64 (f j : Nat)) := by
 have hl := h.lt
 rcases h.2 with ⟨rfl, h0⟩ | ⟨g, cap, cur, rfl, hb, hg, hr⟩
 ·have hn : n = 0 := by simpa using h0
  subst hn
  exact ⟨none, 0, rfl, fun j hj => absurd hj (Nat.not_lt_zero _)⟩
 ·refine ⟨some ⟨g, 0, none⟩, cap, rfl, fun j hj => ⟨g, rfl, (hl g rfl).1, (hl g rfl).2, ?_⟩⟩
  have := h.cells rfl j (.int .u64 (f j : Nat)) (by rw [List.getElem?_map, List.getElem?_range hj]; rfl)
  rw [Addr.add_lit, Nat.zero_add] at this
  exact this
theorem wrap_va2 (va z : Nat) : IntKind.u64.wrap ((va : Int) + (z : Int) * 8) = ((vaN va z : Nat) : Int) := by
 unfold vaN
 rw [IntKind.wrap_u64]
 omega
theorem info_V : (Tryz.prog.info? 50).map (·.size) = some 2 := by kernel_rfl
theorem neqF2 (a b : Int) (w : World) : (binOp .neq 53 (.agg #[.int .i64 a, .int .i64 b]) (.agg #[.int .i64 a, .int .i64 b])).run Tryz.prog w = .ok (.bool false) w := by
 go_simp
def WordsAt (w : World) (ad : Option Addr) (n : Nat) (U : Nat → Nat) : Prop :=
 ∀ i, i < n → U i < 18446744073709551616 ∧ ∃ g o, ad = some ⟨g, o, none⟩ ∧ g < w.heap.size ∧ w.cell? ⟨g, o + i, none⟩ = some (.int .u64 (U i : Nat))
theorem blocks_main (n cap : Nat) (ad : Option Addr) (V V' : Nat → Nat) (va : Nat) (hva : va < 18446744073709551616) (ad2 : Option Addr) (N cap2 : Nat) (U : Nat → Nat) (nn : Int) (hn : Hn) (hN : n ≤ 60) (hN2 : N ≤ 40) (hnn : nn ≤ 60) (w : World) (hst : StepsAt w ad n V V') (hwd : WordsAt w ad2 N U) (hF : FA w) :
  Calls Tryz.prog 4 #[.slice ad n cap, .int .u64 va, .slice ad2 N cap2, .int .i64 nn, hn.v] w fun r w' => r = .returned (.bool true) ∧ Below w.heap.size w w' := by
 have hC := fun W (hb : Below w.heap.size w W) => anchor_any W (hF.later hb)
 have HF := Hid.mk hF
 have HST := Hid.mk hst
 have HWD := Hid.mk hwd
 have hO := fun W (h : StepsAt W ad n V V') hf => opened_ok n cap ad V V' 8 hN (by decide) (by decide) W h hf
 have HNN := Hid.mk (And.intro hN (And.intro hN2 (And.intro hnn hva)))
 have h40 : ¬ (40 : Int) < (N : Int) := by omega
 have h60 : ¬ (60 : Int) < nn := by omega
 have gB := heap_alloc_new w (.cells #[.bool hn.fill, .bool hn.led, .bool hn.keep] 38)
 have hB := below_new w (.cells #[.bool hn.fill, .bool hn.led, .bool hn.keep] 38)
 clear hF hst hwd hN hN2 hnn hva
 simp only [Hn.v]
 go_enter Tryz.func4, Tryz.ntmps4
 go_upto_region 1 with fail
 generalize w.alloc (.cells #[.bool hn.fill, .bool hn.led, .bool hn.keep] 38) = wa at *
 have hlw : w.heap.size < wa.heap.size := block_lt gB
 go_wp2_with fail
 refine (hC wa hB).mono ?_
 rintro e w1 ⟨rfl, hb1⟩
 clear hC
 replace gB := block_later hb1 gB
 replace hB := below_tr hB hb1
 have hKB := block_lt gB
 have HGB1 := Hid.mk gB
 clear hb1
 go_wp2_with fail
 refine (hO w1 (HST.out.later hB) (HF.out.later hB)).mono ?_
 rintro e w2 ⟨x, a, v, rfl, hK⟩
 replace gB := block_later hK.bel gB
 have HBW := Hid.mk hB
 obtain ⟨l, L, p, c, rfl, hD⟩ := hK.duo
 replace hD := hD.old ((if 0 < N then (ad2.map (·.block)).toList else []) ++ [w.heap.size]) (fun g hg => by
  rcases List.mem_append.1 hg with hg | hg
  ·by_cases h0 : 0 < N
   ·rw [if_pos h0] at hg
    obtain ⟨-, g', o, e, hlt, -⟩ := HWD.out 0 h0
    rw [e] at hg
    simp at hg
    subst hg
    omega
   ·rw [if_neg h0] at hg; cases hg
  ·rw [List.mem_singleton.1 hg]; exact hKB)
 have HD := Hid.mk (hD.own (.cells #[.int .u64 1048576, .slice p L.length c, .int .i64 8, .slice none 0 0, .slice none 0 0, .bool false, .int .u64 0, .int .i64 0, .slice none 0 0] 34))
 have gY := heap_alloc_new w2 (.cells #[.int .u64 1048576, .slice p L.length c, .int .i64 8, .slice none 0 0, .slice none 0 0, .bool false, .int .u64 0, .int .i64 0, .slice none 0 0] 34)
 have hbY := below_new w2 (.cells #[.int .u64 1048576, .slice p L.length c, .int .i64 8, .slice none 0 0, .slice none 0 0, .bool false, .int .u64 0, .int .i64 0, .slice none 0 0] 34)
 have hK2 := Hid.mk hK.bel.size
 clear hD hO hK
 go_upto_region 4 with fail
 generalize w2.alloc (.cells #[.int .u64 1048576, .slice p L.length c, .int .i64 8, .slice none 0 0, .slice none 0 0, .bool false, .int .u64 0, .int .i64 0, .slice none 0 0] 34) = w3 at *
 replace gB := block_later hbY gB
 clear hbY
 have hKY : w.heap.size < w2.heap.size := by have := hK2.out; omega
 have hKYlo : w1.heap.size ≤ w2.heap.size := hK2.out
 generalize w2.heap.size = KY at *
 generalize hMM : (if 0 < N then (ad2.map (·.block)).toList else []) ++ [w.heap.size] = M at *
 have hBM : w.heap.size ∈ M := by rw [← hMM]; simp
 have HMM : Hid (0 < N → ∀ g o, ad2 = some ⟨g, o, none⟩ → g ∈ M) := Hid.mk (fun h0 g o e => by rw [← hMM, if_pos h0, e]; simp)
 clear hMM
 go_wp2_with fail
 refine (HD.out.one.does (fun X h => set_c h 844424930136064 (by decide))).mono ?_
 rintro e w4 ⟨rfl, h4, hk4⟩
 replace gB := hk4.row (by simp [hBM]) gB
 replace gY := hk4.row (by simp) gY
 replace HD := Hid.mk (HD.out.acts h4 hk4)
 clear h4 hk4
 rw [set3b] at HD
 obtain ⟨c0, c1, c2, c3, c4, c5, c6, c7, c8⟩ := cells9 gY
 go_upto_region 8 with
  first
  | (refine wpList_store_segTo rfl 4 _ _ rfl rfl KY 5 _ #[.bool true] rfl rfl rfl 34 _ gY (show 5 + 1 ≤ 9 by decide) info_bool (by simp [Value.oneCell']) #[.int .u64 1048576, .slice p L.length c, .int .i64 8, .slice none 0 0, .slice none 0 0, .bool true, .int .u64 0, .int .i64 0, .slice none 0 0] rfl ?_
     intro wy1 hry1 hty1)
  | (refine wpList_store_segTo rfl 26 _ _ rfl rfl KY 6 _ #[.int .u64 4096] rfl rfl rfl 34 _ hry1 (show 6 + 1 ≤ 9 by decide) info_u64z (by simp [Value.oneCell']) #[.int .u64 1048576, .slice p L.length c, .int .i64 8, .slice none 0 0, .slice none 0 0, .bool true, .int .u64 4096, .int .i64 0, .slice none 0 0] rfl ?_
     intro wy2 hry2 hty2)
  | (refine wpList_store_segTo rfl 3 _ _ rfl rfl KY 7 _ #[.int .i64 3] rfl rfl rfl 34 _ hry2 (show 7 + 1 ≤ 9 by decide) info_intz (by simp [Value.oneCell']) #[.int .u64 1048576, .slice p L.length c, .int .i64 8, .slice none 0 0, .slice none 0 0, .bool true, .int .u64 4096, .int .i64 3, .slice none 0 0] rfl ?_
     intro wy3 hry3 hty3)
  | fail
 replace gB := block_turn hty3 (block_turn hty2 (block_turn hty1 gB (by omega)) (by omega)) (by omega)
 replace HD := Hid.mk ((((HD.out.put hty1 (by simp)).put hty2 (by simp)).put hty3 (by simp)).setY 4096 3)
 have gY := hry3
 clear hry1 hry2 hry3 hty1 hty2 hty3 c0 c1 c2 c3 c4 c5 c6 c7 c8
 obtain ⟨t0, t1, t2⟩ := cells3 gB
 have hbH := below_new wy3 (.cells #[.bool hn.fill, .bool hn.led, .bool hn.keep] 48)
 have gH := heap_alloc_new wy3 (.cells #[.bool hn.fill, .bool hn.led, .bool hn.keep] 48)
 replace HD := Hid.mk (HD.out.own (.cells #[.bool hn.fill, .bool hn.led, .bool hn.keep] 48))
 have hYH := block_lt gY
 go_upto_region 9 with fail
 generalize wy3.alloc (.cells #[.bool hn.fill, .bool hn.led, .bool hn.keep] 48) = w5 at *
 obtain ⟨gB, gY⟩ := bl2 hbH gB gY
 generalize wy3.heap.size = KH at *
 clear hbH t0 t1 t2
 obtain ⟨t0, t1, t2⟩ := cells3 gB
 have hcl : ∀ i, i < N → ∃ g o, ad2 = some ⟨g, o, none⟩ ∧ g ∈ KH :: KY :: (M ++ l) ∧ w5.cell? ⟨g, o + i, none⟩ = some (.int .u64 (U i : Nat)) := fun i hi => by
  obtain ⟨-, g, o, e, hg, hc⟩ := HWD.out i hi
  exact ⟨g, o, e, by simp [HMM.out (by omega) _ _ e], cell_later (below_tr HBW.out HD.out.one.bl) hc⟩
 have HWC := Hid.mk hcl
 have HSt := Hid.mk (store_u HD.out.one N (by have := HNN.out; omega) (by decide) va HNN.out.2.2.2 ad2 cap2 (fun i => if i < N then U i else 0) (fun i => by
  split
  ·rename_i hi; exact (HWD.out i hi).1
  ·decide) (fun i hi => by
  obtain ⟨g, o, e, hg, hc⟩ := HWC.out i hi
  exact ⟨g, o, e, hg, by rw [if_pos hi]; exact hc⟩) hn)
 clear hcl
 go_wp2_with fail
 refine HSt.out.mono ?_
 rintro e w6 ⟨k, f1, f2, kk, rfl, hp, hwf, hcs, h6, hk6⟩
 replace gB := hk6.row (by simp [hBM]) gB
 replace gY := hk6.row (by simp) gY
 replace gH := hk6.row (by simp) gH
 replace HD := Hid.mk (HD.out.acts h6 hk6)
 clear h6 hk6 HSt HWC
 have hFl := block_lt gH
 have gF := heap_alloc_new w6 (.cells #[.int .i64 f1, .int .i64 f2] 50)
 have hbF := below_new w6 (.cells #[.int .i64 f1, .int .i64 f2] 50)
 replace HD := Hid.mk (HD.out.own (.cells #[.int .i64 f1, .int .i64 f2] 50))
 clear t0 t1 t2
 go_upto_region 10 with fail
 generalize w6.alloc (.cells #[.int .i64 f1, .int .i64 f2] 50) = w7 at *
 obtain ⟨gB, gY, gH⟩ := bl3 hbF gB gY gH
 generalize w6.heap.size = KF at *
 clear hbF
 have hGl := block_lt gF
 have gG := heap_alloc_new w7 (.cells #[.int .i64 0, .int .i64 0] 53)
 have hbG := below_new w7 (.cells #[.int .i64 0, .int .i64 0] 53)
 replace HD := Hid.mk (HD.out.own (.cells #[.int .i64 0, .int .i64 0] 53))
 go_upto_region 11 with fail
 generalize w7.alloc (.cells #[.int .i64 0, .int .i64 0] 53) = w8 at *
 obtain ⟨gB, gY, gH, gF⟩ := bl4 hbG gB gY gH gF
 generalize w7.heap.size = KG at *
 clear hbG
 have HP := Hid.mk hp
 have HStp := Hid.mk hcs
 have HWF := Hid.mk hwf
 have HBM := Hid.mk hBM
 have HGY := Hid.mk gY
 have HGG := Hid.mk gG
 have HGB := Hid.mk gB
 have HGH := Hid.mk gH
 have HGF := Hid.mk gF
 clear hp hcs hwf hBM gY gG gB gH gF
 generalize hUU : (fun i => if i < N then U i else 0) = UU at *
 have HUU := Hid.mk hUU
 clear hUU
 go_wp2
 go_loopw [18, 19] (fun s18 s19 wr => ∃ (i ii dn : Nat) (g1 g2 : Int) (d : Yd) (l' : List Nat), i ≤ N ∧ s19 = .int .i64 i ∧ s18 = .int .i64 dn ∧ i = ii ∧ ((g1 = 0 ∧ g2 = 0 ∧ dn = i) ∨ (g1 ≠ 0 ∧ i = dn + 1 ∧ sqF 1048576 8 2 va UU hn (⟨fW 1048576 V V' n, [], [], some (4096, 3), []⟩ : St) dn = (g1, g2))) ∧ (∀ j, j < dn → (sqF 1048576 8 2 va UU hn (⟨fW 1048576 V V' n, [], [], some (4096, 3), []⟩ : St) j).1 = 0) ∧ Duo w1 wr l' [KG, KF, KH, KY] x a (61 + N) 1048576 8 (sqS 1048576 8 2 va UU hn (⟨fW 1048576 V V' n, [], [], some (4096, 3), []⟩ : St) kk) (60 + ii) (sqS 1048576 8 2 va UU hn (⟨fW 1048576 V V' n, [], [], some (4096, 3), []⟩ : St) ii) d ∧ (∀ g ∈ KG :: KF :: KH :: KY :: (M ++ l), g ∈ l') ∧ wr.heap[KY]? = some (.cells (d.cs 1048576 8 (sqS 1048576 8 2 va UU hn (⟨fW 1048576 V V' n, [], [], some (4096, 3), []⟩ : St) ii)) 34) ∧ wr.heap[KG]? = some (.cells #[.int .i64 g1, .int .i64 g2] 53) ∧ wr.heap[KH]? = some (.cells #[.bool hn.fill, .bool hn.led, .bool hn.keep] 48) ∧ wr.heap[KF]? = some (.cells #[.int .i64 f1, .int .i64 f2] 50)) (fun _ s19 _ => N - (RowKit.intOf s19).toNat)
 case atStart => exact ⟨0, 0, 0, 0, 0, _, _, Nat.zero_le _, rfl, rfl, rfl, Or.inl ⟨rfl, rfl, rfl⟩, fun j hj => absurd hj (Nat.not_lt_zero _), HD.out, fun g hg => hg, HGY.out, HGG.out, HGH.out, HGF.out⟩
 case round => as_aux_lemma =>
  obtain ⟨i, ii, dn, g1, g2, d, l', hi, rfl, rfl, rfl, hg, hpd, hD, hL, hY, hG, gH, gF⟩ := hrel
  by_cases hrun : i < N ∧ g1 = 0
  ·as_aux_lemma =>
   obtain ⟨hlt, hg0⟩ := hrun
   have hlt2 : (i : Int) < N := by omega
   have hib : (i : Int) < 1000 := by have := HNN.out; omega
   have hgg : g2 = 0 ∧ i = dn := by
    rcases hg with ⟨-, q⟩ | ⟨q, -⟩
    ·exact ⟨q.1, q.2.symm⟩
    ·exact absurd hg0 q
   obtain ⟨rfl, rfl⟩ := hgg
   subst hg0
   have HOLT := Hid.mk hlt
   ·skip
    obtain ⟨q1, q2⟩ := TR.row2c hG
    have HHG := Hid.mk hG
    have HHD := Hid.mk hD
    have HHL := Hid.mk hL
    have HHP := Hid.mk hpd
    obtain ⟨hul, gw, ow, rfl, hgw, hcw⟩ := HWD.out i hlt
    have k3 := cell_later (below_tr HBW.out hD.one.bl) hcw
    obtain ⟨k0, k1, k2⟩ := cells3 gH
    have hvm : d.vm.oneCell' = true := by
     obtain ⟨-, -, q, h2, -⟩ := hD
     exact h2.vm1
    clear hD hL hpd hg hcw
    go_upto_region 15 with fail
    have hB : Below w1.heap.size w1 wr := HHD.out.one.bl
    have hik : i ≤ k := by
     rcases HStp.out with ⟨h1, h2, -⟩ | ⟨h1, h2, h3, h4⟩
     ·omega
     ·apply Classical.byContradiction
      intro c
      have := HHP.out k (by omega)
      rw [h3] at this
      exact h4 this
    have HWT := Hid.mk (HWF.out i hik)
    clear hik
    generalize hTT : sqS 1048576 8 2 va UU hn (⟨fW 1048576 V V' n, [], [], some (4096, 3), []⟩ : St) i = T at *
    obtain ⟨k0, k1, k2, k3⟩ := cl4 (Below.refl _ wr).drew k0 k1 k2 k3
    refine wp_region_noPanic ?_
    refine wp_region_held_drew (S := (fun w' => w'.cell? ⟨KH, 0, none⟩ = some (.bool hn.fill) ∧ w'.cell? ⟨KH, 1, none⟩ = some (.bool hn.led) ∧ w'.cell? ⟨KH, 2, none⟩ = some (.bool hn.keep) ∧ w'.cell? ⟨gw, ow + i, none⟩ = some (.int .u64 (U i : Nat)))) (by kernel_rfl) ?_ (fun hHeld => ?_)
    ·exact ⟨k0, k1, k2, k3⟩
    obtain ⟨hY, hG, gH, gF⟩ := bl4 (Below.refl _ wr).drew hY hG gH gF
    replace HHD := Hid.mk (HHD.out.later (Below.refl _ wr).drew)
    replace hB := below_tr hB (Below.refl _ wr).drew
    generalize wr.drew = Wd at *
    refine tk 1 73 (h := ?_)
    refine tk 2 74 (h := ?_)
    refine tk 3 75 (h := ?_)
    refine tk 4 76 (h := ?_)
    refine tk 5 77 (h := ?_)
    refine tk 6 78 (h := ?_)
    refine tk 7 79 (h := ?_)
    refine tk 8 80 (h := ?_)
    refine tk 9 81 (h := ?_)
    refine tk 10 82 (h := ?_)
    obtain ⟨c0, c1, c2, c3, c4, c5, c6, c7, c8⟩ := cells9 hY
    refine rd1 0 (h := fun K hK => ?_)
    go_simp
    refine hK.out _ _ ⟨k0, k1, k2, k3⟩ (fun hHeld0 => ?_)
    clear hK
    try simp only [Act.put, sq]
    clear c0 c1 c2 c3 c4 c5 c6 c7 c8
    refine rd1 11 (h := fun K hK => ?_)
    go_simp
    rw [wrap_va]
    refine (HHD.out.yaccess HWT.out.2 HWT.out.1 (by have := HNN.out; omega) 2 (vaN va i) (U i) (vaN_lt va i) hn).mono ?_
    rintro e wc ⟨d', l2, rfl, hD2, hone, hb2⟩
    go_wp2_with fail
    obtain ⟨k0, k1, k2, k3⟩ := cl4 hb2 k0 k1 k2 k3
    obtain ⟨hY, hG, gH, gF⟩ := bl4 hb2 hY hG gH gF
    replace hB := below_tr hB hb2
    have HD2 := Hid.mk hD2
    clear hD2
    refine hK.out _ _ ⟨k0, k1, k2, k3⟩ (fun hHeld1 => ?_)
    clear hK
    try simp only [Act.put, sq]
    refine tk 12 71 (h := ?_)
    refine tk 13 84 (h := ?_)
    refine tk 14 85 (h := ?_)
    refine tk 15 86 (h := ?_)
    refine rd1 16 (h := fun K hK => ?_)
    refine step_store_seg rfl rfl 34 _ _ rfl (KY) 0 _ (d'.cs 1048576 8 (accS 1048576 8 T 2 (vaN va i) (U i) hn)) rfl rfl rfl 34 _ hY (show 0 + 9 ≤ 9 by decide) info_X hone (d'.cs 1048576 8 (accS 1048576 8 T 2 (vaN va i) (U i) hn)) rfl ?_
    intro wsa hrq htq
    obtain ⟨k0, k1, k2, k3⟩ := tc4 htq k0 k1 k2 k3
    obtain ⟨hG, gH, gF⟩ := bt3 htq hG gH gF
    replace hY := hrq
    replace hB := below_turn hB htq (by omega)
    refine hK.out _ _ ⟨k0, k1, k2, k3⟩ (fun hHeldsa => ?_)
    replace HD2 := Hid.mk (HD2.out.put htq (by simp))
    clear hK hrq htq
    try simp only [Act.put, sq]
    refine rd1 17 (h := fun K hK => ?_)
    refine step_store_seg rfl rfl 53 _ _ rfl (KG) 0 _ #[.int .i64 (accF (leafO 1048576 T (vaN va i) hn) 2).1, .int .i64 (accF (leafO 1048576 T (vaN va i) hn) 2).2] rfl rfl rfl 53 _ hG (show 0 + 2 ≤ 2 by decide) info_F (by simp [Value.oneCell']) #[.int .i64 (accF (leafO 1048576 T (vaN va i) hn) 2).1, .int .i64 (accF (leafO 1048576 T (vaN va i) hn) 2).2] rfl ?_
    intro wsb hrq htq
    obtain ⟨k0, k1, k2, k3⟩ := tc4 htq k0 k1 k2 k3
    obtain ⟨hY, gH, gF⟩ := bt3 htq hY gH gF
    replace hG := hrq
    replace hB := below_turn hB htq (by omega)
    refine hK.out _ _ ⟨k0, k1, k2, k3⟩ (fun hHeldsb => ?_)
    replace HD2 := Hid.mk (HD2.out.put htq (by simp))
    clear hK hrq htq
    try simp only [Act.put, sq]
    refine wpAnyH_done (by kernel_rfl) ?_ _
    refine NoPanic.normal ?_
    have hUi : UU i = U i := by rw [← HUU.out]; exact if_pos hlt
    have e1 : sqS 1048576 8 2 va UU hn (⟨fW 1048576 V V' n, [], [], some (4096, 3), []⟩ : St) (i + 1) = accS 1048576 8 T 2 (vaN va i) (U i) hn := by
     show accS _ _ (sqS 1048576 8 2 va UU hn (⟨fW 1048576 V V' n, [], [], some (4096, 3), []⟩ : St) i) 2 (vaN va i) (UU i) hn = _
     rw [hTT, hUi]
    have e2 : sqF 1048576 8 2 va UU hn (⟨fW 1048576 V V' n, [], [], some (4096, 3), []⟩ : St) i = accF (leafO 1048576 T (vaN va i) hn) 2 := by unfold sqF; rw [hTT]
    have HE1 := Hid.mk e1
    have HE2 := Hid.mk e2
    clear e1 e2 hUi q1 q2 k0 k1 k2 k3
    generalize accF (leafO 1048576 T (vaN va i) hn) 2 = AF at *
    obtain ⟨F1, F2⟩ := AF
    obtain ⟨q1, q2⟩ := TR.row2c hG
    by_cases hz : F1 = 0
    ·have hz2 : F2 = 0 := by
      have := sqF_zero (show (sqF 1048576 8 2 va UU hn (⟨fW 1048576 V V' n, [], [], some (4096, 3), []⟩ : St) i).1 = 0 by rw [HE2.out]; exact hz)
      rw [HE2.out] at this
      exact (Prod.mk.inj this).2
     subst hz hz2
     go_wp2
     exact ⟨⟨i + 1, i + 1, i + 1, 0, 0, d', l2 ++ l', by omega, by go_num, by go_num, rfl, Or.inl ⟨rfl, rfl, rfl⟩, fun j hj => by
      by_cases hq : j = i
      ·subst hq; rw [HE2.out]
      ·exact HHP.out j (by omega), by rw [HE1.out]; exact HD2.out, fun g hg => List.mem_append_right _ (HHL.out g hg), by rw [HE1.out]; exact hY, hG, gH, gF⟩, by simp [RowKit.intOf]; omega⟩
    ·have dz : (F1 == 0) = false := by rw [beq_eq_false_iff_ne]; exact hz
     have HNZ := Hid.mk hz
     clear hz
     go_wp2
     exact ⟨⟨i + 1, i + 1, i, F1, F2, d', l2 ++ l', by omega, by go_num, rfl, rfl, Or.inr ⟨HNZ.out, rfl, HE2.out⟩, HHP.out, by rw [HE1.out]; exact HD2.out, fun g hg => List.mem_append_right _ (HHL.out g hg), by rw [HE1.out]; exact hY, hG, gH, gF⟩, by simp [RowKit.intOf]; omega⟩
  ·have hex : dn = k ∧ i = kk ∧ g1 = f1 ∧ g2 = f2 := by
    rcases HStp.out with ⟨h1, h2, h3, h4⟩ | ⟨h1, h2, h3, h4⟩
    ·rcases hg with ⟨p1, p2, p3⟩ | ⟨p1, p2, p3⟩
     ·have : ¬ i < N := fun q => hrun ⟨q, p1⟩
      omega
     ·have := HP.out dn (by omega)
      rw [p3] at this
      exact absurd this p1
    ·rcases hg with ⟨p1, p2, p3⟩ | ⟨p1, p2, p3⟩
     ·have hn' : ¬ i < N := fun q => hrun ⟨q, p1⟩
      have := hpd k (by omega)
      rw [h3] at this
      exact absurd this h4
     ·rcases Nat.lt_trichotomy dn k with hl | hl | hl
      ·have := HP.out dn hl
       rw [p3] at this
       exact absurd this p1
      ·subst hl
       have e := p3.symm.trans h3
       exact ⟨rfl, by omega, (Prod.mk.inj e).1, (Prod.mk.inj e).2⟩
      ·have := hpd k hl
       rw [h3] at this
       exact absurd this h4
   have hrn : i < N → ¬ g1 = 0 := fun h1 h2 => hrun ⟨h1, h2⟩
   obtain ⟨rfl, rfl, rfl, rfl⟩ := hex
   obtain ⟨q1, q2⟩ := TR.row2c hG
   obtain ⟨u1, u2⟩ := TR.row2c gF
   have HHD := Hid.mk hD
   have HHL := Hid.mk hL
   have HHG := Hid.mk hg
   have HRN := Hid.mk hrn
   have hib : (i : Int) ≤ N := by omega
   clear hD hL hg hpd hrun hrn
   go_upto_region 13 with fail
   go_cut [68] (fun t wc => t = .bool false ∧ wc = wr)
   case first => as_aux_lemma =>
    by_cases hlt : i < N
    ·have hlt2 : (i : Int) < N := by omega
     have hz := HRN.out hlt
     have dz : (g1 == 0) = false := by rw [beq_eq_false_iff_ne]; exact hz
     clear hz
     go_wp2
     go_meet
     exact ⟨rfl, rfl⟩
    ·have hlt2 : ¬ (i : Int) < N := by omega
     go_wp2
     go_meet
     exact ⟨rfl, rfl⟩
   case rest => as_aux_lemma =>
    obtain ⟨rfl, rfl⟩ := hcut
    have hvm : d.vm.oneCell' = true := by
     obtain ⟨-, -, q, h2, -⟩ := HHD.out
     exact h2.vm1
    obtain ⟨c0, c1, c2, c3, c4, c5, c6, c7, c8⟩ := cells9 hY
    have HNQ := fun w => neqF2 g1 g2 w
    go_wp2_with fail
    refine (HHD.out.same (by have := HNN.out; omega)).mono ?_
    rintro e wd ⟨rfl, hbd⟩
    have HD3 := Hid.mk (HHD.out.later hbd)
    obtain ⟨hY, hG, gH, gF⟩ := bl4 hbd hY hG gH gF
    have gB := block_later HD3.out.one.bl HGB1.out
    have hly := block_lt hY
    have hlg := block_lt hG
    have hlf := block_lt gF
    have hlb := block_lt gB
    have hlh := block_lt gH
    clear hbd q1 q2 u1 u2 c0 c1 c2 c3 c4 c5 c6 c7 c8 HHD
    obtain ⟨t0, t1, t2⟩ := cells3 gB
    generalize hS1 : sqS 1048576 8 2 va UU hn (⟨fW 1048576 V V' n, [], [], some (4096, 3), []⟩ : St) i = S1 at *
    have HLD := Hid.mk (load_u HD3.out.one nn HNN.out.2.2.1 (by have := HNN.out; omega) va HNN.out.2.2.2 hn)
    go_wp2_with fail
    refine HLD.out.mono ?_
    rintro e we ⟨k2, v2, L2, p1, p2, kk2, rfl, hp2, hwf2, hown, hLs, hvL, hcs2, h6, hkp⟩
    replace hY := hkp.row (HHL.out _ (by simp)) hY
    replace hG := hkp.row (HHL.out _ (by simp)) hG
    replace gH := hkp.row (HHL.out _ (by simp)) gH
    replace gF := hkp.row (HHL.out _ (by simp)) gF
    replace gB := hkp.row (HHL.out _ (by simp [HBM.out])) gB
    replace HD3 := Hid.mk (HD3.out.wide h6 hkp hLs)
    have HL2 := Hid.mk hLs
    have HP2 := Hid.mk hp2
    have HWF2 := Hid.mk hwf2
    have HST2 := Hid.mk hcs2
    have HOW := Hid.mk (And.intro hown hvL)
    have hkp9 := hkp.1
    clear t0 t1 t2 HLD h6 hkp hLs hp2 hwf2 hcs2 hown hvL
    have hwe : wd.heap.size ≤ we.heap.size := hkp9
    generalize wd.heap.size = LB at *
    go_upto_region 22 with
     first
     | (refine wpList_store_segTo rfl 50 _ _ rfl rfl KF 0 _ #[.int .i64 p1, .int .i64 p2] rfl rfl rfl 50 _ gF (show 0 + 2 ≤ 2 by decide) info_V (by simp [Value.oneCell']) #[.int .i64 p1, .int .i64 p2] rfl ?_
        intro ws1 hr1 ht1)
     | (refine wpList_store_segTo rfl 53 _ _ rfl rfl KG 0 _ #[.int .i64 0, .int .i64 0] rfl rfl rfl 53 _ (block_turn ht1 hG (by omega)) (show 0 + 2 ≤ 2 by decide) info_F (by simp [Value.oneCell']) #[.int .i64 0, .int .i64 0] rfl ?_
        intro ws2 hr2 ht2)
     | fail
    replace hY := block_turn ht2 (block_turn ht1 hY (by omega)) (by omega)
    replace gH := block_turn ht2 (block_turn ht1 gH (by omega)) (by omega)
    replace gB := block_turn ht2 (block_turn ht1 gB (by omega)) (by omega)
    replace gF := block_turn ht2 hr1 (by omega)
    replace HD3 := Hid.mk ((HD3.out.put ht1 (by simp)).put ht2 (by simp))
    obtain ⟨adg, capg, rfl, hgot⟩ := own_words HOW.out.1
    have hgot2 : ∀ j, j < k2 → ∃ g, adg = some ⟨g, 0, none⟩ ∧ LB ≤ g ∧ g < ws2.heap.size ∧ ws2.cell? ⟨g, j, none⟩ = some (.int .u64 (sqW 1048576 8 1 va (fun _ => 0) hn S1 j : Nat)) := fun j hj => by
     obtain ⟨g, e, h1, h2, h3⟩ := hgot j hj
     exact ⟨g, e, h1, Nat.lt_of_lt_of_le h2 (Nat.le_trans ht1.size ht2.size), TR.turn_cell ht2 (by omega) (TR.turn_cell ht1 (by omega) h3)⟩
    have HGOT := Hid.mk hgot2
    have HGY := Hid.mk hY
    have HGG := Hid.mk hr2
    have HGH := Hid.mk gH
    have HGF := Hid.mk gF
    have hLBS : LB ≤ ws2.heap.size := Nat.le_trans hwe (Nat.le_trans ht1.size ht2.size)
    clear hgot hgot2 hY hr1 hr2 gH gF gB ht1 ht2 hG
    generalize hBS : ws2.heap.size = BS at *
    have HBS := Hid.mk (Nat.le_of_eq hBS.symm)
    clear hBS
    go_wp2
    go_loopw [21, 22] (fun s21 s22 wr => ∃ (z zz dn : Nat) (g1 g2 : Int) (d : Yd) (l' F' : List Nat) (v3 : Value), z ≤ nn.toNat ∧ s22 = .int .i64 z ∧ v3 = s21 ∧ z = zz ∧ ((g1 = 0 ∧ g2 = 0 ∧ dn = z) ∨ (g1 ≠ 0 ∧ z = dn + 1 ∧ sqF 1048576 8 1 va (fun _ => 0) hn S1 dn = (g1, g2))) ∧ (∀ j, j < dn → (sqF 1048576 8 1 va (fun _ => 0) hn S1 j).1 = 0) ∧ Duo w1 wr l' F' x a (61 + N + nn.toNat) 1048576 8 (sqS 1048576 8 1 va (fun _ => 0) hn S1 kk2) (60 + i + zz) (sqS 1048576 8 1 va (fun _ => 0) hn S1 zz) d ∧ (∀ g ∈ L2, g ∈ l') ∧ (∀ g ∈ [KG, KF, KH, KY], g ∈ F') ∧ (∀ g, v3.ownBlock = some g → g ∈ F') ∧ wr.ownsRow BS 26 1 v3 dn (wsV 1048576 8 va hn S1 dn) ∧ BS ≤ wr.heap.size ∧ wr.heap[KY]? = some (.cells (d.cs 1048576 8 (sqS 1048576 8 1 va (fun _ => 0) hn S1 zz)) 34 (0, 0)) ∧ wr.heap[KG]? = some (.cells #[.int .i64 g1, .int .i64 g2] 53 (0, 0)) ∧ wr.heap[KH]? = some (.cells #[.bool hn.fill, .bool hn.led, .bool hn.keep] 48 (0, 0)) ∧ wr.heap[KF]? = some (.cells #[.int .i64 p1, .int .i64 p2] 50 (0, 0)) ∧ (∀ j, j < k2 → ∃ g, adg = some ⟨g, 0, none⟩ ∧ LB ≤ g ∧ g < BS ∧ wr.cell? ⟨g, j, none⟩ = some (.int .u64 (sqW 1048576 8 1 va (fun _ => 0) hn S1 j : Nat)))) (fun _ s22 _ => nn.toNat - (RowKit.intOf s22).toNat)
    case atStart => exact ⟨0, 0, 0, 0, 0, _, _, _, _, Nat.zero_le _, rfl, rfl, rfl, Or.inl ⟨rfl, rfl, rfl⟩, fun j hj => absurd hj (Nat.not_lt_zero _), HD3.out, fun g hg => hg, fun g hg => hg, fun g hg => by simp [Value.ownBlock] at hg, ⟨rfl, Or.inl ⟨rfl, rfl⟩⟩, HBS.out, HGY.out, HGG.out, HGH.out, HGF.out, HGOT.out⟩
    case round => as_aux_lemma =>
     obtain ⟨z, zz, dn, g1', g2', d2, l3, F3, v3, hz, rfl, rfl, rfl, hg, hpd, hD, hL, hF3, hv3, hown, hbs, hY, hG, gH, gF, hgot⟩ := hrel
     by_cases hrun : (z : Int) < nn ∧ g1' = 0
     ·as_aux_lemma =>
      obtain ⟨hlt2, hg0⟩ := hrun
      have hib : (z : Int) < 1000 := by have := HNN.out; omega
      have hgg : g2' = 0 ∧ z = dn := by
       rcases hg with ⟨-, q⟩ | ⟨q, -⟩
       ·exact ⟨q.1, q.2.symm⟩
       ·exact absurd hg0 q
      obtain ⟨rfl, rfl⟩ := hgg
      subst hg0
      have hik : z ≤ k2 := by
       rcases HST2.out with ⟨h1, h2, -⟩ | ⟨h1, h2, h3, h4⟩
       ·omega
       ·apply Classical.byContradiction
        intro q
        have := hpd k2 (by omega)
        rw [h3] at this
        exact h4 this
      have HWT := Hid.mk (HWF2.out z hik)
      have HIK := Hid.mk hik
      clear hik
      have HE1 : Hid (sqS 1048576 8 1 va (fun _ => 0) hn S1 (z + 1) = accS 1048576 8 (sqS 1048576 8 1 va (fun _ => 0) hn S1 z) 1 (vaN va z) 0 hn) := Hid.mk rfl
      have HE2 : Hid (sqF 1048576 8 1 va (fun _ => 0) hn S1 z = accF (leafO 1048576 (sqS 1048576 8 1 va (fun _ => 0) hn S1 z) (vaN va z) hn) 1) := Hid.mk rfl
      have HE3 : Hid (sqW 1048576 8 1 va (fun _ => 0) hn S1 z = accW (sqS 1048576 8 1 va (fun _ => 0) hn S1 z).f (leafO 1048576 (sqS 1048576 8 1 va (fun _ => 0) hn S1 z) (vaN va z) hn) 1 (vaN va z)) := Hid.mk rfl
      have HWS := Hid.mk (wsV_succ 1048576 8 va hn S1 z)
      have HZF := Hid.mk (fun h => sqF_zero (S := 1048576) (most := 8) (kind := 1) (va := va) (V := fun _ => 0) (hn := hn) (s := S1) (i := z) h)
      generalize hTT : sqS 1048576 8 1 va (fun _ => 0) hn S1 z = T at *
      obtain ⟨q1, q2⟩ := TR.row2c hG
      obtain ⟨t0, t1, t2⟩ := cells3 gH
      obtain ⟨c0, c1, c2, c3, c4, c5, c6, c7, c8⟩ := cells9 hY
      have hvm : d2.vm.oneCell' = true := by
       obtain ⟨-, -, q, h2, -⟩ := hD
       exact h2.vm1
      have HDD := Hid.mk hD
      have HPD := Hid.mk hpd
      have HL3 := Hid.mk hL
      have HF3 := Hid.mk hF3
      have HV3 := Hid.mk hv3
      have HOWN := Hid.mk hown
      have HGT := Hid.mk hgot
      clear hD hpd hL hF3 hv3 hown hgot hg hTT
      go_wp2_with fail
      rw [wrap_va2]
      refine (HDD.out.yaccess HWT.out.2 HWT.out.1 (by have := HNN.out; omega) 1 (vaN va z) 0 (vaN_lt va z) hn).mono ?_
      rintro e wc ⟨d', l4, rfl, hD2, hone, hb2⟩
      obtain ⟨hY, hG, gH, gF⟩ := bl4 hb2 hY hG gH gF
      have HOWN2 := Hid.mk (own_block HOWN.out (fun g hg => hb2.block g (HOWN.out.lt g hg).2))
      have hbs2 : BS ≤ wc.heap.size := Nat.le_trans hbs hb2.size
      have HGT2 : Hid (∀ j, j < k2 → ∃ g, adg = some ⟨g, 0, none⟩ ∧ LB ≤ g ∧ g < BS ∧ wc.cell? ⟨g, j, none⟩ = some (.int .u64 (sqW 1048576 8 1 va (fun _ => 0) hn S1 j : Nat))) := Hid.mk (fun j hj => by
       obtain ⟨g, e1, h1, h2, h3⟩ := HGT.out j hj
       exact ⟨g, e1, h1, h2, cell_later hb2 h3⟩)
      have HD2 := Hid.mk hD2
      have HBE := Hid.mk hbs2
      clear hb2 hbs hD2 HOWN HGT HDD q1 q2 t0 t1 t2 c0 c1 c2 c3 c4 c5 c6 c7 c8 hvm hbs2
      go_upto_region 28 with
       first
       | (refine wpList_store_segTo rfl 34 _ _ rfl rfl KY 0 _ (d'.cs 1048576 8 (accS 1048576 8 T 1 (vaN va z) 0 hn)) rfl rfl rfl 34 _ hY (show 0 + 9 ≤ 9 by decide) info_X hone (d'.cs 1048576 8 (accS 1048576 8 T 1 (vaN va z) 0 hn)) rfl ?_
          intro wy1 hry1 hty1)
       | (refine wpList_store_segTo rfl 53 _ _ rfl rfl KG 0 _ #[.int .i64 (accF (leafO 1048576 T (vaN va z) hn) 1).1, .int .i64 (accF (leafO 1048576 T (vaN va z) hn) 1).2] rfl rfl rfl 53 _ (block_turn hty1 hG (by omega)) (show 0 + 2 ≤ 2 by decide) info_F (by simp [Value.oneCell']) #[.int .i64 (accF (leafO 1048576 T (vaN va z) hn) 1).1, .int .i64 (accF (leafO 1048576 T (vaN va z) hn) 1).2] rfl ?_
          intro wy2 hry2 hty2)
       | fail
      replace hY := block_turn hty2 hry1 (by omega)
      replace gH := block_turn hty2 (block_turn hty1 gH (by omega)) (by omega)
      replace gF := block_turn hty2 (block_turn hty1 gF (by omega)) (by omega)
      have HD4 := Hid.mk ((HD2.out.put hty1 (HF3.out KY (by simp))).put hty2 (HF3.out KG (by simp)))
      have hvlt := HOWN2.out.lt
      have hown4 := own_block (w' := wy1) HOWN2.out (fun g hg => hty1.block g (hvlt g hg).2 (by have := (hvlt g hg).1; omega))
      have hown5 := own_block (w' := wy2) hown4 (fun g hg => hty2.block g (hown4.lt g hg).2 (by have := (hvlt g hg).1; omega))
      have HBE2 := Hid.mk (Nat.le_trans HBE.out (Nat.le_trans hty1.size hty2.size))
      have HGT3 : Hid (∀ j, j < k2 → ∃ g, adg = some ⟨g, 0, none⟩ ∧ LB ≤ g ∧ g < BS ∧ wy2.cell? ⟨g, j, none⟩ = some (.int .u64 (sqW 1048576 8 1 va (fun _ => 0) hn S1 j : Nat))) := Hid.mk (fun j hj => by
       obtain ⟨g, e1, h1, h2, h3⟩ := HGT2.out j hj
       exact ⟨g, e1, h1, h2, TR.turn_cell hty2 (by omega) (TR.turn_cell hty1 (by omega) h3)⟩)
      have HOW5 := Hid.mk hown5
      clear hty1 hty2 hG hry1 hown4 hown5 hvlt HOWN2 HGT2 HD2 HBE
      generalize accF (leafO 1048576 T (vaN va z) hn) 1 = AF at *
      generalize accW T.f (leafO 1048576 T (vaN va z) hn) 1 (vaN va z) = vw at *
      obtain ⟨F1, F2⟩ := AF
      obtain ⟨q1, q2⟩ := TR.row2c hry2
      by_cases hz1 : F1 = 0
      ·have hz2 : F2 = 0 := by
        have := HZF.out (by rw [HE2.out]; exact hz1)
        rw [HE2.out] at this
        exact (Prod.mk.inj this).2
       subst hz1 hz2
       have hwl : z < 100000 := by omega
       have hbe := HBE2.out
       go_wp2_with
        first
        | (at_builtin; refine wpList_appV _ rfl _ _ rfl BS _ z _ rfl (HOW5.out.alloc _) vw wy2.heap.size rfl (by simp) hwl (by simp; omega) ?_; intro g3 cap3 w7 hown7 hgr7 hat7 hlt7)
        | go_in
       have hvlt := HOW5.out.lt
       have HOB := Hid.mk (below_new wy2 (.cells #[.int .u64 vw] 26))
       have hD7 := (HD4.out.later HOB.out).grow hgr7 HV3.out hat7 hlt7
       have ht7 : Turn (fun i => v3.ownBlock = some i) (wy2.alloc (.cells #[.int .u64 vw] 26)) w7 := ⟨hgr7.os, hgr7.tape, hgr7.output, hgr7.size, fun i hi hne => hgr7.block i hi (fun e => hne e.symm)⟩
       have hrow : ∀ i o, i < BS → wy2.heap[i]? = some o → w7.heap[i]? = some o := fun i o hi h => (ht7.block i (block_lt (block_later HOB.out h)) (fun e => by have := (hvlt i e).1; omega)).trans (block_later HOB.out h)
       exact ⟨⟨z + 1, z + 1, z + 1, 0, 0, d', g3 :: (l4 ++ l3), g3 :: F3, _, by omega, by go_num, rfl, rfl, Or.inl ⟨rfl, rfl, rfl⟩, fun j hj => by
        by_cases hq : j = z
        ·subst hq; rw [HE2.out]
        ·exact HPD.out j (by omega), by rw [HE1.out]; exact hD7, fun g hg => List.mem_cons_of_mem _ (List.mem_append_right _ (HL3.out g hg)), fun g hg => List.mem_cons_of_mem _ (HF3.out g hg), fun g hg => by simp [Value.ownBlock] at hg; simp [hg], by rw [HWS.out, HE3.out]; exact hown7, Nat.le_trans (Nat.le_trans hbe HOB.out.size) ht7.size, by rw [HE1.out]; exact hrow _ _ (by omega) hY, hrow _ _ (by omega) hry2, hrow _ _ (by omega) gH, hrow _ _ (by omega) gF, fun j hj => by
        obtain ⟨g, e1, h1, h2, h3⟩ := HGT3.out j hj
        exact ⟨g, e1, h1, h2, TR.turn_cell ht7 (fun e => by have := (hvlt g e).1; omega) (cell_later HOB.out h3)⟩⟩, by simp [RowKit.intOf]; omega⟩
      ·have dz : (F1 == 0) = false := by rw [beq_eq_false_iff_ne]; exact hz1
       have HNZ := Hid.mk hz1
       clear hz1
       go_wp2
       exact ⟨⟨z + 1, z + 1, z, F1, F2, d', l4 ++ l3, F3, v3, by omega, by go_num, rfl, rfl, Or.inr ⟨HNZ.out, rfl, HE2.out⟩, HPD.out, by rw [HE1.out]; exact HD4.out, fun g hg => List.mem_append_right _ (HL3.out g hg), HF3.out, HV3.out, HOW5.out, HBE2.out, by rw [HE1.out]; exact hY, hry2, gH, gF, HGT3.out⟩, by simp [RowKit.intOf]; omega⟩
     ·have hex : dn = k2 ∧ z = kk2 ∧ g1' = p1 ∧ g2' = p2 := by
       rcases HST2.out with ⟨h1, h2, h3, h4⟩ | ⟨h1, h2, h3, h4⟩
       ·rcases hg with ⟨p1', p2', p3'⟩ | ⟨p1', p2', p3'⟩
        ·have : ¬ (z : Int) < nn := fun q => hrun ⟨q, p1'⟩
         omega
        ·have := HP2.out dn (by omega)
         rw [p3'] at this
         exact absurd this p1'
       ·rcases hg with ⟨p1', p2', p3'⟩ | ⟨p1', p2', p3'⟩
        ·have hn' : ¬ (z : Int) < nn := fun q => hrun ⟨q, p1'⟩
         have := hpd k2 (by omega)
         rw [h3] at this
         exact absurd this h4
        ·rcases Nat.lt_trichotomy dn k2 with hl | hl | hl
         ·have := HP2.out dn hl
          rw [p3'] at this
          exact absurd this p1'
         ·subst hl
          have e := p3'.symm.trans h3
          exact ⟨rfl, by omega, (Prod.mk.inj e).1, (Prod.mk.inj e).2⟩
         ·have := hpd k2 hl
          rw [h3] at this
          exact absurd this h4
      have HDZ : Hid (dn ≤ nn.toNat) := Hid.mk (by rcases hg with ⟨-, -, p⟩ | ⟨-, p, -⟩ <;> omega)
      have hrn : (z : Int) < nn → ¬ g1' = 0 := fun h1 h2 => hrun ⟨h1, h2⟩
      obtain ⟨rfl, rfl, rfl, rfl⟩ := hex
      obtain ⟨q1, q2⟩ := TR.row2c hG
      obtain ⟨u1, u2⟩ := TR.row2c gF
      obtain ⟨ad3, cap3, rfl, hwant⟩ := own_words (f := fun j => sqW 1048576 8 1 va (fun _ => 0) hn S1 j) hown
      have HDD := Hid.mk hD
      have HRN := Hid.mk hrn
      have HWANT := Hid.mk hwant
      have HGT := Hid.mk hgot
      clear hD hL hg hpd hrun hrn hown hwant hgot hF3 hv3 hbs
      go_upto_region 24 with fail
      go_cut [122] (fun t wc => t = .bool false ∧ wc = wr)
      case first => as_aux_lemma =>
       by_cases hlt2 : (z : Int) < nn
       ·have hz2 := HRN.out hlt2
        have dz : (g1' == 0) = false := by rw [beq_eq_false_iff_ne]; exact hz2
        clear hz2
        go_wp2
        go_meet
        exact ⟨rfl, rfl⟩
       ·go_wp2
        go_meet
        exact ⟨rfl, rfl⟩
      case rest => as_aux_lemma =>
       obtain ⟨rfl, rfl⟩ := hcut
       have hvm : d2.vm.oneCell' = true := by
        obtain ⟨-, -, q, h2, -⟩ := HDD.out
        exact h2.vm1
       obtain ⟨c0, c1, c2, c3, c4, c5, c6, c7, c8⟩ := cells9 hY
       have HNQ2 := fun w => neqF2 g1' g2' w
       go_wp2_with fail
       refine (HDD.out.same (by have := HNN.out; omega)).mono ?_
       rintro e wf ⟨rfl, hbf⟩
       have HBF := Hid.mk (below_tr HBW.out (below_tr HDD.out.one.bl hbf))
       have HG2 := Hid.mk (fun j (hj : j < dn) => by
        obtain ⟨g, e1, -, -, h3⟩ := HGT.out j hj
        exact (⟨g, e1, cell_later hbf h3⟩ : ∃ g, adg = some ⟨g, 0, none⟩ ∧ wf.cell? ⟨g, j, none⟩ = some (.int .u64 (sqW 1048576 8 1 va (fun _ => 0) hn S1 j : Nat))))
       have HW2 := Hid.mk (fun j (hj : j < dn) => by
        obtain ⟨g, e1, -, -, h3⟩ := HWANT.out j hj
        exact (⟨g, e1, cell_later hbf h3⟩ : ∃ g, ad3 = some ⟨g, 0, none⟩ ∧ wf.cell? ⟨g, j, none⟩ = some (.int .u64 (sqW 1048576 8 1 va (fun _ => 0) hn S1 j : Nat))))
       clear hbf c0 c1 c2 c3 c4 c5 c6 c7 c8 q1 q2 u1 u2 hY hG gH gF HGT HWANT
       go_wp2
       go_loopw [162] (fun s162 wz => ∃ j : Nat, j ≤ dn ∧ s162 = .int .i64 j ∧ Hid (wz = wf)) (fun s162 _ => dn - (RowKit.intOf s162).toNat)
       case atStart => exact ⟨0, Nat.zero_le _, rfl, Hid.mk rfl⟩
       case round => as_aux_lemma =>
        obtain ⟨j, hj, rfl, hwz⟩ := hrel
        have hwz2 := hwz.out
        subst hwz2
        clear hwz
        by_cases hlt : j < dn
        ·have hlt2 : (j : Int) < dn := by omega
         obtain ⟨g, rfl, h3⟩ := HG2.out j hlt
         obtain ⟨g', rfl, h4⟩ := HW2.out j hlt
         generalize sqW 1048576 8 1 va (fun _ => 0) hn S1 j = wj at *
         have hjb : (j : Int) < 1000 := by have := HNN.out; have := HDZ.out; omega
         go_wp2
         exact ⟨⟨j + 1, by omega, by go_num, Hid.mk trivial⟩, by simp [RowKit.intOf]; omega⟩
        ·have hlt2 : ¬ (j : Int) < dn := by omega
         go_wp2
         go_ret
         exact ⟨rfl, HBF.out⟩
end Go.Proofs.YtfohjkgheeiinaaGreatDoor.MM
namespace Go.Proofs.YtfohjkgheeiinaaGreatDoor.MM.mmuBlocks
open Go.ChangeShapes Go.WideShapes Go.ChangeAt Go.RowKit Go.Lib Go.Maps
theorem open_words {H : Type} {enc : TypeId × Value → H} {W : World} {base : Nat} {v : Value} {d : DataW H} {p : List MemPlace} (hok : Value.okWide Tryz.prog W .any base 45 v)
  (h : DataW.Trod enc Tryz.prog W 0 (fun _ => true) true 45 v d p) : ∃ ad n cap U, v = .slice ad n cap ∧ n ≤ maxLen ∧ WordsAt W ad n U := by
 obtain ⟨ad, n, cap, rfl, hn, hel⟩ := TR.open_elems (c := 1) Tryz.underlying45 (by kernel_rfl) (by decide) hok h
 have each : ∀ i, ∃ u : Nat, i < n → u < 18446744073709551616 ∧ ∃ g o, ad = some ⟨g, o, none⟩ ∧ g < W.heap.size ∧ W.cell? ⟨g, o + i, none⟩ = some (.int .u64 u) := fun i => by
  by_cases hi : i < n
  ·obtain ⟨g, o, cs, fuel, x, e1, hg, hc, ht⟩ := hel i hi
   obtain ⟨z, e2, _, wz⟩ := DataW.trod_int Tryz.underlying26 ht
   subst e2
   obtain ⟨z, rfl⟩ := Int.eq_ofNat_of_zero_le (bounds_u64 wz).1
   have := hc 0 _ rfl
   rw [Nat.mul_one, Nat.add_zero] at this
   exact ⟨z, fun _ => ⟨by have := (bounds_u64 wz).2; omega, g, o, e1, hg, this⟩⟩
  ·exact ⟨0, fun h => absurd h hi⟩
 exact ⟨ad, n, cap, fun i => (each i).choose, rfl, hn, fun i hi => (each i).choose_spec hi⟩
theorem blocks_many (n cap : Nat) (ad : Option Addr) (va : Nat) (ad2 : Option Addr) (N cap2 : Nat) (nn : Int) (hn : Hn) (hN : 60 < n) (w : World) (hF : FA w) :
  Calls Tryz.prog 4 #[.slice ad n cap, .int .u64 va, .slice ad2 N cap2, .int .i64 nn, hn.v] w fun r w' => r = .returned (.bool true) ∧ Below w.heap.size w w' := by
 have hC := fun W (hb : Below w.heap.size w W) => anchor_any W (hF.later hb)
 have hO := fun W => opened_many n cap ad 8 hN W
 have gB := heap_alloc_new w (.cells #[.bool hn.fill, .bool hn.led, .bool hn.keep] 38)
 have hB := below_new w (.cells #[.bool hn.fill, .bool hn.led, .bool hn.keep] 38)
 simp only [Hn.v]
 clear hF hN
 go_enter Tryz.func4, Tryz.ntmps4
 go_upto_region 1 with fail
 generalize w.alloc (.cells #[.bool hn.fill, .bool hn.led, .bool hn.keep] 38) = wa at *
 go_wp2_with fail
 refine (hC wa hB).mono ?_
 rintro e w1 ⟨rfl, hb1⟩
 replace hB := below_tr hB hb1
 clear hC hb1 gB
 go_wp2_with fail
 refine (hO w1).mono ?_
 rintro e w2 ⟨rfl, hb2⟩
 have HB := Hid.mk (below_tr hB hb2)
 clear hB hb2 hO
 go_wp2
 go_ret
 exact ⟨rfl, below_tr HB.out (below_new _ _)⟩
theorem blocks_long (n cap : Nat) (ad : Option Addr) (V V' : Nat → Nat) (va : Nat) (ad2 : Option Addr) (N cap2 : Nat) (nn : Int) (hn : Hn) (hN : n ≤ 60) (hbad : 40 < N ∨ 60 < nn) (w : World) (hst : StepsAt w ad n V V') (hF : FA w) :
  Calls Tryz.prog 4 #[.slice ad n cap, .int .u64 va, .slice ad2 N cap2, .int .i64 nn, hn.v] w fun r w' => r = .returned (.bool true) ∧ Below w.heap.size w w' := by
 have hC := fun W (hb : Below w.heap.size w W) => anchor_any W (hF.later hb)
 have HF := Hid.mk hF
 have HST := Hid.mk hst
 have hO := fun W (h : StepsAt W ad n V V') hf => opened_ok n cap ad V V' 8 hN (by decide) (by decide) W h hf
 have gB := heap_alloc_new w (.cells #[.bool hn.fill, .bool hn.led, .bool hn.keep] 38)
 have hB := below_new w (.cells #[.bool hn.fill, .bool hn.led, .bool hn.keep] 38)
 simp only [Hn.v]
 clear hF hst hN
 go_enter Tryz.func4, Tryz.ntmps4
 go_upto_region 1 with fail
 generalize w.alloc (.cells #[.bool hn.fill, .bool hn.led, .bool hn.keep] 38) = wa at *
 go_wp2_with fail
 refine (hC wa hB).mono ?_
 rintro e w1 ⟨rfl, hb1⟩
 replace hB := below_tr hB hb1
 clear hC hb1 gB
 go_wp2_with fail
 refine (hO w1 (HST.out.later hB) (HF.out.later hB)).mono ?_
 rintro e w2 ⟨x, a, v, rfl, hK⟩
 have HB := Hid.mk (below_tr hB hK.bel)
 obtain ⟨X, -, L, hp, -⟩ := hK.mch
 obtain ⟨p, c, rfl, -⟩ := hp.form
 generalize L.length = NL at *
 clear hB hO hK hp
 by_cases h1 : 40 < N
 ·have h2 : (40 : Int) < (N : Int) := by omega
  clear hbad h1
  go_wp2
  go_ret
  exact ⟨rfl, below_tr HB.out (below_new _ _)⟩
 ·have h2 : ¬ (40 : Int) < (N : Int) := by omega
  have h3 : (60 : Int) < nn := by omega
  clear hbad h1
  go_wp2
  go_ret
  exact ⟨rfl, below_tr HB.out (below_new _ _)⟩
theorem walk (ad : Option Addr) (n cap : Nat) (V V' : Nat → Nat) (va : Nat) (ad2 : Option Addr) (N cap2 : Nat) (U : Nat → Nat) (nn : Int) (hn : Hn) (w : World) (_ : n ≤ maxLen) (hst : StepsAt w ad n V V') (hva : va < 18446744073709551616) (_ : N ≤ maxLen) (hwd : WordsAt w ad2 N U) (hF : FA w) :
  Calls Tryz.prog 4 #[.slice ad n cap, .int .u64 va, .slice ad2 N cap2, .int .i64 nn, hn.v] w fun r w' => r = .returned (.bool true) ∧ Below w.heap.size w w' := by
 by_cases h : n ≤ 60
 ·by_cases h1 : 40 < N ∨ 60 < nn
  ·exact blocks_long n cap ad V V' va ad2 N cap2 nn hn h h1 w hst hF
  ·exact blocks_main n cap ad V V' va hva ad2 N cap2 U nn hn h (by omega) (by omega) w hst hwd hF
 ·exact blocks_many n cap ad va ad2 N cap2 nn hn (by omega) w hF
theorem met {W : World} (h : laidMet Tryz.prog Rows.mmuBlocksRow.laid W) : FA W := by
 have h1 := TR.pair_of_reads (g := 0) (by kernel_rfl) (by kernel_rfl) (Lib.laidMet.reads h (n := "portreeve/desc.outField") (d := Rows.laid_portreeve_desc_outField) (by simp [Rows.mmuBlocksRow]))
 have h2 := TR.pair_of_reads (g := 2) (by kernel_rfl) (by kernel_rfl) (Lib.laidMet.reads h (n := "portreeve/desc.attrField") (d := Rows.laid_portreeve_desc_attrField) (by simp [Rows.mmuBlocksRow]))
 have h3 := TR.pair_of_reads (g := 3) (by kernel_rfl) (by kernel_rfl) (Lib.laidMet.reads h (n := "portreeve/trail.tableField") (d := Rows.laid_portreeve_trail_tableField) (by simp [Rows.mmuBlocksRow]))
 have h4 := TR.pair_of_reads (g := 1) (by kernel_rfl) (by kernel_rfl) (Lib.laidMet.reads h (n := "portreeve/desc.asidField") (d := Rows.laid_portreeve_desc_asidField) (by simp [Rows.mmuBlocksRow]))
 exact ⟨⟨⟨h1.1, h1.2, h2.1, h2.2⟩, h3.1, h3.2⟩, h4.1, h4.2⟩
theorem own : ownKnob Tryz.prog.godebug = none := by kernel_rfl
theorem laidOut : laidOutB Tryz.prog = true := by kernel_rfl
set_option linter.unusedVariables false in
theorem contract (H : Type) (enc : TypeId × Value → H) (W : World) (base : Nat) (args : Array Value) (ds gs : List (DataW H)) (before : List MemPlace)
  (hval0 : ∀ (j : Nat) t v, Tryz.f4.params[j]? = some t → args[j]? = some v → Value.okWide Tryz.prog W .any base t v)
  (hW : DataW.Whole enc Tryz.prog Tryz.f4.params.toList Rows.mmuBlocksSpec.vars false W args.toList ds gs before) (hL0 : laidMetH Tryz.prog Rows.mmuBlocksRow.laid W) :
  Calls Tryz.prog 4 args W fun e W' => ∃ v, e = .returned v ∧ Rows.mmuBlocksSpec.post enc Tryz.prog Tryz.f4 false true false false W args v W' := by
 have hL := hL0
 rw [MakeChecks.laidMetH_plain _ _ _ (by kernel_rfl)] at hL
 have hval := hval0
 have hW' := hW
 obtain ⟨p, q, hA0, hV, rfl, hfz, hnd⟩ := hW
 have hA : DataW.TrodAll enc Tryz.prog W 0 (fun _ => true) true Tryz.f4.params.toList args.toList ds p := hA0
 rw [Tryz.params4] at hA hval
 obtain ⟨v0, vs0, d0, ds0, p0, q0, hargs, rfl, rfl, h0, r0⟩ := trodAll_cons hA
 obtain ⟨v1, vs1, d1, ds1, p1, q1, rfl, rfl, rfl, h1, r1⟩ := trodAll_cons r0
 obtain ⟨v2, vs2, d2, ds2, p2, q2, rfl, rfl, rfl, h2, r2⟩ := trodAll_cons r1
 obtain ⟨v3, vs3, d3, ds3, p3, q3, rfl, rfl, rfl, h3, r3⟩ := trodAll_cons r2
 obtain ⟨v4, vs4, d4, ds4, p4, q4, rfl, rfl, rfl, h4, r4⟩ := trodAll_cons r3
 obtain ⟨rfl, rfl, rfl⟩ := trodAll_nil r4
 obtain rfl : args = #[v0, v1, v2, v3, v4] := by cases args; simp_all
 obtain ⟨rfl, rfl⟩ := trodVars_none hV
 have k0 := h0
 have lt0 : ∀ x ∈ p0, x.block < W.heap.size := by obtain ⟨m, hm⟩ := k0; exact DataW.trod_lt m _ _ _ hm
 have k1 := h1
 have lt1 : ∀ x ∈ p1, x.block < W.heap.size := by obtain ⟨m, hm⟩ := k1; exact DataW.trod_lt m _ _ _ hm
 have k2 := h2
 have lt2 : ∀ x ∈ p2, x.block < W.heap.size := by obtain ⟨m, hm⟩ := k2; exact DataW.trod_lt m _ _ _ hm
 have k3 := h3
 have lt3 : ∀ x ∈ p3, x.block < W.heap.size := by obtain ⟨m, hm⟩ := k3; exact DataW.trod_lt m _ _ _ hm
 have k4 := h4
 have lt4 : ∀ x ∈ p4, x.block < W.heap.size := by obtain ⟨m, hm⟩ := k4; exact DataW.trod_lt m _ _ _ hm
 obtain ⟨ad0, n0, cap0, A0, V0, rfl, mx0, ho0⟩ := open_steps (hval 0 22 v0 rfl rfl) h0
 obtain ⟨a1, rfl, _, _, w1⟩ := open_int Tryz.underlying26 (hval 1 26 v1 rfl rfl) h1
 obtain ⟨x1, rfl⟩ := Int.eq_ofNat_of_zero_le (bounds_u64 w1).1
 have b1 : x1 < 18446744073709551616 := by have := (bounds_u64 w1).2; omega
 obtain ⟨ad2, n2, cap2, U2, rfl, mx2, ho2⟩ := open_words (hval 2 45 v2 rfl rfl) h2
 obtain ⟨a3, rfl, _, _, w3⟩ := open_int Tryz.underlying3 (hval 3 3 v3 rfl rfl) h3
 obtain ⟨hn4, rfl⟩ := open_hint (hval 4 38 v4 rfl rfl) h4
 clear hA0 hval0
 refine (walk ad0 n0 cap0 A0 V0 x1 ad2 n2 cap2 U2 a3 hn4 W mx0 ho0 b1 mx2 ho2 (met hL)).mono fun e W' ⟨he, bel⟩ => ?_
 subst he
 exact ⟨_, rfl, _, _, _, [], _, [], hW', trodAll_mk1 (shut_bool Tryz.underlying4 _), (trodAll_cons_mk (Below.trod laidOut (by kernel_rfl) (of_decide_eq_true (by kernel_rfl)) k0 bel lt0) (trodAll_cons_mk (Below.trod laidOut (by kernel_rfl) (of_decide_eq_true (by kernel_rfl)) k1 bel lt1) (trodAll_cons_mk (Below.trod laidOut (by kernel_rfl) (of_decide_eq_true (by kernel_rfl)) k2 bel lt2) (trodAll_cons_mk (Below.trod laidOut (by kernel_rfl) (of_decide_eq_true (by kernel_rfl)) k3 bel lt3) (trodAll_cons_mk (Below.trod laidOut (by kernel_rfl) (of_decide_eq_true (by kernel_rfl)) k4 bel lt4) trodAll_mk0))))), rfl, bel.frame _, fun h => by cases h⟩
theorem laid_met (os : Os) : laidMet Tryz.prog Rows.mmuBlocksRow.laid ((World.laidAll Tryz.prog os Rows.mmuBlocksRow.laid).forCall (fun _ _ => 0) ⟨#[], #[.slice none 0 0, .int .u64 0, .slice none 0 0, .int .i64 0, .agg #[.bool false, .bool false, .bool false]], []⟩).memory :=
 laidMet_laidAll _ (by kernel_rfl) (by kernel_rfl)
theorem reads (os : Os) {H : Type} (enc : TypeId × Value → H) : ∃ places, DataW.whole enc Tryz.prog ((World.laidAll Tryz.prog os Rows.mmuBlocksRow.laid).forCall (fun _ _ => 0) ⟨#[], #[.slice none 0 0, .int .u64 0, .slice none 0 0, .int .i64 0, .agg #[.bool false, .bool false, .bool false]], []⟩).memory Tryz.f4.params.toList Rows.mmuBlocksSpec.vars false (#[.slice none 0 0, .int .u64 0, .slice none 0 0, .int .i64 0, .agg #[.bool false, .bool false, .bool false]] : Array Value).toList 8 = some ([.nil, .lit (.int .u64 0), .nil, .lit (.int .i64 0), .agg [.lit (.bool false), .lit (.bool false), .lit (.bool false)]], [], places) :=
 ⟨[], by kernel_rfl⟩
theorem lifted (os : Os) (started : os.Started) (H : Type) (enc : TypeId × Value → H) (F : Stop.Interp) :
  ReturnsInHanded {} Tryz.checked os 4 .any ((OpenSpec.ofChange Rows.mmuBlocksSpec).preRow enc Tryz.prog Tryz.f4 Rows.mmuBlocksRow.domain false Rows.mmuBlocksRow.laid) (((OpenSpec.ofChange Rows.mmuBlocksSpec).at F).post enc Tryz.prog Tryz.f4 false true false false) := by
 obtain ⟨places, hx⟩ := reads os enc
 refine returnsInHanded_of_row (C := Tryz.checked) (s := (OpenSpec.ofChange Rows.mmuBlocksSpec)) own started (by kernel_rfl) Tryz.func4
  (witness_row_at (enc := enc) (C := Tryz.checked) false (World.laidAll Tryz.prog os Rows.mmuBlocksRow.laid) #[.slice none 0 0, .int .u64 0, .slice none 0 0, .int .i64 0, .agg #[.bool false, .bool false, .bool false]] (World.laidAll_os _ _ _) (by kernel_rfl) (by kernel_rfl) (by kernel_rfl)
   (OpenSpec.preRow_of_cond 8 hx (by kernel_rfl) (fun k hk => by cases hk) (by kernel_rfl) (laid_met os))) ?_
 intro W base args ds gs before hval hW _ _ _ hL _ _
 exact contract H enc W base args ds gs before hval hW hL
theorem said : Rows.MmuBlocksSaid :=
 OpenClaim.holds_of_cond 4 Tryz.f4 rfl rfl rfl rfl rfl rfl rfl ⟨rfl, rfl, rfl, rfl, rfl⟩ rfl rfl rfl rfl rfl (by kernel_rfl) Tryz.func4 (by kernel_rfl)
  (of_decide_eq_true (by kernel_rfl)) (by unfold Func.isWrapper; first | (rw [if_pos (by decide +kernel)]; kernel_rfl) | (rw [if_neg (by decide +kernel)]; exact ⟨rfl, rfl⟩))
  (fun os started H enc _ F => by rw [OpenClaim.pre_eq_preRow]; exact lifted os started H enc F)
theorem plain (f : FuncId) (fn : Func) (hf : Tryz.pinned.checked.prog.funcNamed "portreeve/portreevelaw09.MmuBlocks" = some f) (hfn : Tryz.pinned.checked.prog.funcs[f]? = some fn) :
  true = Tryz.pinned.checked.prog.looks [] ∧ ∀ (j : Nat) t, fn.params[j]? = some t → Tryz.pinned.checked.prog.wantsStandIn t = false := by
 obtain rfl : f = 4 := Option.some.inj ((show Tryz.prog.funcNamed "portreeve/portreevelaw09.MmuBlocks" = some 4 by kernel_rfl).symm.trans hf) |>.symm
 obtain rfl : fn = Tryz.f4 := (Option.some.inj (Tryz.func4.symm.trans hfn)).symm
 refine ⟨by kernel_rfl, fun j t ht => ?_⟩
 rw [Tryz.params4] at ht
 have hm : t ∈ [22, 26, 45, 3, 38] := by simpa using Array.mem_of_getElem? ht
 have hall : ([22, 26, 45, 3, 38].all fun u => !Tryz.prog.wantsStandIn u) = true := by kernel_rfl
 exact (show Tryz.prog.wantsStandIn t = false by simpa using List.all_eq_true.1 hall t hm)
theorem card : Rows.MmuBlocksCardSaid :=
 Claim7.holds_tied_plain_at .later [] _ _ _ _ said (fun _ h => by cases h) (by kernel_rfl) (fun _ h => by cases h) mmuBlocks_row_tie rfl ⟨rfl, rfl⟩ (by kernel_rfl) rfl plain (by kernel_rfl)
end Go.Proofs.YtfohjkgheeiinaaGreatDoor.MM.mmuBlocks
