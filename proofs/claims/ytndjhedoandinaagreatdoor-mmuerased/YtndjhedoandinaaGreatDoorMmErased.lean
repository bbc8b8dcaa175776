/- MmuErased (P9.4): for all words, every bound and every list of steps the law returns true: as long as what the first machine remembers is sound, accesses of both tell the same and leave the same memory, whatever hints, guesses and evictions are. No condition beyond the row's own. -/
import Derived.Test.YtndjhedoandinaaGreatDoorMmErasedA
namespace Go.Proofs.YtndjhedoandinaaGreatDoor.MM.mmuErased
open Go.ChangeShapes Go.WideShapes Go.ChangeAt Go.RowKit Go.Lib Go.Maps

set_option maxHeartbeats 16000000 in
set_option maxRecDepth 1000000 in
theorem walk_main (n cap : Nat) (ad : Option Addr) (V V' : Nat → Nat) (most : Int) (ado : Option Addr) (capo : Nat) (ops : List Mo) (hn : n ≤ 60) (m1 : 1 ≤ most) (m64 : most ≤ 64) (hno : ops.length ≤ 60) (w : World) (hst : StepsAt w ad n V V') (hrd : MoRd w ado ops) (hok : ∀ q ∈ ops, q.ok) (hF : FA w) :
    Calls Tryz.prog 4 #[.slice ad n cap, .int .i64 most, .slice ado ops.length capo] w fun r w' => r = .returned (.bool true) ∧ Below w.heap.size w w' := by
  have hC := anchor_any w hF
  have HF := Hid.mk hF
  have HST := Hid.mk hst
  have HRD := Hid.mk hrd
  have HOK : Hid (∀ i, i < ops.length → (gM ops i).ok) := fun i hi => hok _ (by rw [gM_pos ops i hi]; exact List.getElem_mem hi)
  have hO := fun W (h : StepsAt W ad n V V') hf => opened_ok n cap ad V V' most hn m1 m64 W h hf
  have hP := fun W (h : StepsAt W ad n V V') hf => opened_ok n cap ad V V' 1 hn (by decide) (by decide) W h hf
  have hn2 : ¬ (60 : Int) < (n : Int) := by omega
  have hno2 : ¬ (60 : Int) < (ops.length : Int) := by omega
  have HNO := Hid.mk hno
  clear hF hn hst hno m1 m64 hrd hok
  go_enter Tryz.func4, Tryz.ntmps4
  go_wp2_with fail
  refine hC.mono ?_
  rintro e w1 ⟨rfl, hb1⟩
  clear hC
  go_wp2_with fail
  refine (hO w1 (HST.out.later hb1) (HF.out.later hb1)).mono ?_
  rintro e w2 ⟨x, a, v, rfl, hK⟩
  have hb2 := hK.bel
  obtain ⟨X, hM, L, hp, -⟩ := hK.mch
  obtain ⟨p, c, rfl, -⟩ := hp.form
  generalize L.length = N at *
  have HM := Hid.mk (hM.base hb1 HF.out)
  replace hb1 := below_tr hb1 hb2
  clear hb2 hO hK hp hM
  have hba := below_new w2 (.cells #[.int .u64 1048576, .slice p N c, .int .i64 most, .slice none 0 0, .slice none 0 0, .bool false, .int .u64 0, .int .i64 0, .slice none 0 0] 34)
  have hb3 := below_tr hb1 hba
  have hlt2 : ∀ i, X i → i < w2.heap.size := HM.out.ltX
  replace HM := Hid.mk (HM.out.later hba)
  have hsz : w2.heap.size ≤ (w2.alloc (.cells #[.int .u64 1048576, .slice p N c, .int .i64 most, .slice none 0 0, .slice none 0 0, .bool false, .int .u64 0, .int .i64 0, .slice none 0 0] 34)).heap.size := hba.size
  clear hba
  go_upto_region 4 with fail
  generalize w2.alloc (.cells #[.int .u64 1048576, .slice p N c, .int .i64 most, .slice none 0 0, .slice none 0 0, .bool false, .int .u64 0, .int .i64 0, .slice none 0 0] 34) = w3 at *
  go_wp2_with fail
  refine (hP _ (HST.out.later hb3) (HF.out.later hb3)).mono ?_
  rintro e w4 ⟨z, b, v2, rfl, hK⟩
  obtain ⟨X2, hM2, L2, hp, -⟩ := hK.mch
  obtain ⟨p2, c2, rfl, -⟩ := hp.form
  generalize L2.length = N2 at *
  have hT : Two w w4 [] 1048576 x a 61 most ⟨fW 1048576 V V' n, [], [], none, []⟩ z b 61 ⟨fW 1048576 V V' n, [], [], none, []⟩ :=
    ⟨X, X2, HM.out.later hK.bel, hM2.base hb3 HF.out, fun i hi hj => by have := hlt2 i hi; have := hM2.loX i hj; omega, fun g hg => absurd hg List.not_mem_nil⟩
  have HT := Hid.mk (hT.later (below_new w4 (.cells #[.int .u64 1048576, .slice p2 N2 c2, .int .i64 1, .slice none 0 0, .slice none 0 0, .bool false, .int .u64 0, .int .i64 0, .slice none 0 0] 34)))
  clear hb1 hb3 hP hK hp hM2 hT HM hlt2 hsz
  go_upto_region 5 with fail
  generalize w4.alloc (.cells #[.int .u64 1048576, .slice p2 N2 c2, .int .i64 1, .slice none 0 0, .slice none 0 0, .bool false, .int .u64 0, .int .i64 0, .slice none 0 0] 34) = w5 at *
  go_wp2_with fail
  refine (HT.out.left (fun X h => set_c h 844424930136064 (by decide))).mono ?_
  rintro e w6 ⟨rfl, hT, -⟩
  rw [set3] at hT
  replace HT := Hid.mk hT
  clear hT
  go_wp2_with fail
  refine (HT.out.right (fun X h => set_c h 844424930136064 (by decide))).mono ?_
  rintro e w7 ⟨rfl, hT, -⟩
  rw [set3] at hT
  replace HT := Hid.mk hT
  clear hT
  go_wp2
  go_loopw [14, 65] (fun _ s65 wr => ∃ (i : Nat) (s1 s2 : St) (n1 n2 : Nat), i ≤ ops.length ∧ s65 = .int .i64 (i : Nat) ∧ n1 ≤ 61 + i ∧ n2 ≤ 61 + i ∧ Two w wr [] 1048576 x a n1 most s1 z b n2 s2 ∧ EInv 1048576 s1 s2) (fun _ s65 _ => ops.length - (RowKit.intOf s65).toNat)
  case atStart => exact ⟨0, _, _, 61, 61, by omega, rfl, by omega, by omega, HT.out, EInv.start (s := ⟨fW 1048576 V V' n, [], [], none, []⟩) rfl rfl rfl⟩
  case round =>
    clear HT
    obtain ⟨i, s1, s2, n1, n2, hi, rfl, hn1, hn3, hT, hE⟩ := hrel
    have H := Hid.mk hT
    have HE := Hid.mk hE
    by_cases hlt : i < ops.length
    · have hlt2 : (i : Int) < ops.length := by omega
      have HLT := Hid.mk hlt
      have hib : (i : Int) < 60 := by have := HNO.out; omega
      have hic : n1 < 100000000 ∧ n2 < 100000000 := by have := HNO.out; omega
      obtain ⟨g, oo, rfl, hg, hc⟩ := HRD.out i hlt
      have d0 := cell_later hT.bl (hc 0 _ rfl)
      have d1 := cell_later hT.bl (hc 1 _ rfl)
      have d2 := cell_later hT.bl (hc 2 _ rfl)
      have d3 := cell_later hT.bl (hc 3 _ rfl)
      have d4 := cell_later hT.bl (hc 4 _ rfl)
      have d5 := cell_later hT.bl (hc 5 _ rfl)
      have d6 := cell_later hT.bl (hc 6 _ rfl)
      have d7 := cell_later hT.bl (hc 7 _ rfl)
      rw [Nat.add_zero] at d0
      have hq := HOK.out i hlt
      clear hc hi hlt hg hT hE
      generalize gM ops i = q at *
      obtain ⟨kd, so, nn, va, wd, ⟨hf, hl, hk⟩⟩ := q
      obtain ⟨hva, hwd⟩ := hq
      simp only at *
      have hrB := heap_alloc_new wr (.cells #[.int .i64 kd, .int .i64 so, .int .i64 nn, .int .u64 (va : Nat), .int .u64 (wd : Nat), .bool hf, .bool hl, .bool hk] 40)
      have hbB := below_new wr (.cells #[.int .i64 kd, .int .i64 so, .int .i64 nn, .int .u64 (va : Nat), .int .u64 (wd : Nat), .bool hf, .bool hl, .bool hk] 40)
      have HX := Hid.mk (H.out.own (.cells #[.int .i64 kd, .int .i64 so, .int .i64 nn, .int .u64 (va : Nat), .int .u64 (wd : Nat), .bool hf, .bool hl, .bool hk] 40))
      replace H := Hid.mk (H.out.later hbB)
      go_upto_region 12 with fail
      generalize wr.alloc (.cells #[.int .i64 kd, .int .i64 so, .int .i64 nn, .int .u64 (va : Nat), .int .u64 (wd : Nat), .bool hf, .bool hl, .bool hk] 40) = w8 at *
      generalize wr.heap.size = B at *
      clear d0 d1 d2 d3 d4 d5 d6 d7 hbB
      have hc8 := cells8o hrB
      obtain ⟨x0, x1, x2, x3, x4, x5, x6, x7⟩ := hc8
      by_cases h1 : kd = 1
      · subst h1
        have hlf := HE.out.leaf H.out.wfm H.out.wfm2 va ⟨hf, hl, hk⟩
        have HEA := Hid.mk (HE.out.acc H.out.wfm H.out.wfm2 so va wd ⟨hf, hl, hk⟩)
        have HEL := Hid.mk (fun h => HE.out.load H.out.wfm so h va wd ⟨hf, hl, hk⟩)
        have hef := HE.out.f
        have HA : Hid (∀ W l t m, Two w W l 1048576 x a n1 most s1 z b m t → Calls Tryz.prog 12 #[.pointer (some ⟨x, 0, none⟩), .int .i64 so, .int .u64 (va : Nat), .int .u64 (wd : Nat), .agg #[.bool hf, .bool hl, .bool hk]] W fun r w' => r = .returned (resV (accF (leafO 1048576 s1 va ⟨hf, hl, hk⟩) so) (accW s1.f (leafO 1048576 s1 va ⟨hf, hl, hk⟩) so va)) ∧ Two w w' l 1048576 x a (n1 + 1) most (accS 1048576 most s1 so va wd ⟨hf, hl, hk⟩) z b m t ∧ Kp l W w') :=
          fun W l t m h => h.left (fun X hM => access_c hM hic.1 so va wd hva hwd ⟨hf, hl, hk⟩)
        have HB : Hid (∀ W l t m, Two w W l 1048576 x a m most t z b n2 s2 → Calls Tryz.prog 12 #[.pointer (some ⟨z, 0, none⟩), .int .i64 so, .int .u64 (va : Nat), .int .u64 (wd : Nat), .agg #[.bool false, .bool false, .bool false]] W fun r w' => r = .returned (resV (accF (leafO 1048576 s2 va aN) so) (accW s2.f (leafO 1048576 s2 va aN) so va)) ∧ Two w w' l 1048576 x a m most t z b (n2 + 1) (accS 1048576 1 s2 so va wd aN) ∧ Kp l W w') :=
          fun W l t m h => h.right (fun X hM => access_c hM hic.2 so va wd hva hwd aN)
        rw [hlf, hef] at HA
        clear hlf hef HE H
        generalize accS 1048576 most s1 so va wd ⟨hf, hl, hk⟩ = t1 at *
        generalize accS 1048576 1 s2 so va wd aN = t2 at *
        generalize accF (leafO 1048576 s2 va aN) so = F at *
        generalize accW s2.f (leafO 1048576 s2 va aN) so va = vw at *
        obtain ⟨f1, f2⟩ := F
        simp only [resV] at HA HB
        have HT := HX
        clear HX
        go_upto_region 14 with fail
        have k0 := x1
        have k1 := x3
        have k2 := x4
        have k3 := x5
        have k4 := x6
        have k5 := x7
        clear x0 x1 x2 x3 x4 x5 x6 x7
        go_cut [15, 16] (fun s15 s16 wc => ∃ KA0 KA1, s15 = .pointer (some ⟨KA0, 0, none⟩) ∧ s16 = .pointer (some ⟨KA1, 0, none⟩) ∧ Two w wc [KA0, KA1, B] 1048576 x a (n1 + 1) most t1 z b (n2 + 1) t2 ∧ wc.heap[KA0]? = some (.cells #[.int .i64 f1, .int .i64 f2, .int .u64 (vw : Nat)] 50 (0, 0)) ∧ wc.heap[KA1]? = some (.cells #[.int .i64 f1, .int .i64 f2, .int .u64 (vw : Nat)] 50 (0, 0)) ∧ wc.heap[B]? = some (.cells #[.int .i64 1, .int .i64 so, .int .i64 nn, .int .u64 (va : Nat), .int .u64 (wd : Nat), .bool hf, .bool hl, .bool hk] 40 (0, 0)))
        case first =>
          refine wp_region_noPanic ?_
          refine wp_region_held_drew (S := (fun w' => w'.cell? ⟨B, 1, none⟩ = some (.int .i64 so) ∧ w'.cell? ⟨B, 3, none⟩ = some (.int .u64 (va : Nat)) ∧ w'.cell? ⟨B, 4, none⟩ = some (.int .u64 (wd : Nat)) ∧ w'.cell? ⟨B, 5, none⟩ = some (.bool hf) ∧ w'.cell? ⟨B, 6, none⟩ = some (.bool hl) ∧ w'.cell? ⟨B, 7, none⟩ = some (.bool hk))) (by kernel_rfl) ?_ (fun hHeld => ?_)
          · exact ⟨cell_later (Below.refl _ _).drew k0, cell_later (Below.refl _ _).drew k1, cell_later (Below.refl _ _).drew k2, cell_later (Below.refl _ _).drew k3, cell_later (Below.refl _ _).drew k4, cell_later (Below.refl _ _).drew k5⟩
          replace k0 := cell_later (Below.refl _ w8).drew k0
          replace k1 := cell_later (Below.refl _ w8).drew k1
          replace k2 := cell_later (Below.refl _ w8).drew k2
          replace k3 := cell_later (Below.refl _ w8).drew k3
          replace k4 := cell_later (Below.refl _ w8).drew k4
          replace k5 := cell_later (Below.refl _ w8).drew k5
          refine TR.take_at (i := 0) (v := ?_) 73 rfl rfl (by kernel_rfl) (by kernel_rfl) (by kernel_rfl) (fun _ _ _ h => h) (Or.inl ⟨by rfl, ?_⟩) (by assumption) ?_
          rotate_left
          · (intro w' hSw; (try dsimp only at hSw); go_simp; all_goals with_reducible rfl)
          try simp only [Act.put, List.setIfInBounds_toArray, List.set_cons_zero, List.set_cons_succ]
          refine TR.take_at (i := 1) (v := ?_) 74 rfl rfl (by kernel_rfl) (by kernel_rfl) (by kernel_rfl) (fun _ _ _ h => h) (Or.inl ⟨by rfl, ?_⟩) (by assumption) ?_
          rotate_left
          · (intro w' hSw; (try dsimp only at hSw); go_simp; all_goals with_reducible rfl)
          try simp only [Act.put, List.setIfInBounds_toArray, List.set_cons_zero, List.set_cons_succ]
          refine TR.take_at (i := 2) (v := ?_) 75 rfl rfl (by kernel_rfl) (by kernel_rfl) (by kernel_rfl) (fun _ _ _ h => h) (Or.inl ⟨by rfl, ?_⟩) (by assumption) ?_
          rotate_left
          · (intro w' hSw; (try dsimp only at hSw); go_simp; all_goals with_reducible rfl)
          try simp only [Act.put, List.setIfInBounds_toArray, List.set_cons_zero, List.set_cons_succ]
          refine TR.take_at (i := 3) (v := ?_) 76 rfl rfl (by kernel_rfl) (by kernel_rfl) (by kernel_rfl) (fun _ _ _ h => h) (Or.inl ⟨by rfl, ?_⟩) (by assumption) ?_
          rotate_left
          · (intro w' hSw; (try dsimp only at hSw); go_simp; all_goals with_reducible rfl)
          try simp only [Act.put, List.setIfInBounds_toArray, List.set_cons_zero, List.set_cons_succ]
          refine TR.take_at (i := 4) (v := ?_) 77 rfl rfl (by kernel_rfl) (by kernel_rfl) (by kernel_rfl) (fun _ _ _ h => h) (Or.inl ⟨by rfl, ?_⟩) (by assumption) ?_
          rotate_left
          · (intro w' hSw; (try dsimp only at hSw); go_simp; all_goals with_reducible rfl)
          try simp only [Act.put, List.setIfInBounds_toArray, List.set_cons_zero, List.set_cons_succ]
          refine TR.take_at (i := 5) (v := ?_) 78 rfl rfl (by kernel_rfl) (by kernel_rfl) (by kernel_rfl) (fun _ _ _ h => h) (Or.inl ⟨by rfl, ?_⟩) (by assumption) ?_
          rotate_left
          · (intro w' hSw; (try dsimp only at hSw); go_simp; all_goals with_reducible rfl)
          try simp only [Act.put, List.setIfInBounds_toArray, List.set_cons_zero, List.set_cons_succ]
          refine TR.take_at (i := 6) (v := ?_) 79 rfl rfl (by kernel_rfl) (by kernel_rfl) (by kernel_rfl) (fun _ _ _ h => h) (Or.inl ⟨by rfl, ?_⟩) (by assumption) ?_
          rotate_left
          · (intro w' hSw; (try dsimp only at hSw); go_simp; all_goals with_reducible rfl)
          try simp only [Act.put, List.setIfInBounds_toArray, List.set_cons_zero, List.set_cons_succ]
          refine TR.take_at (i := 7) (v := ?_) 80 rfl rfl (by kernel_rfl) (by kernel_rfl) (by kernel_rfl) (fun _ _ _ h => h) (Or.inl ⟨by rfl, ?_⟩) (by assumption) ?_
          rotate_left
          · (intro w' hSw; (try dsimp only at hSw); go_simp; all_goals with_reducible rfl)
          try simp only [Act.put, List.setIfInBounds_toArray, List.set_cons_zero, List.set_cons_succ]
          refine TR.take_at (i := 8) (v := ?_) 81 rfl rfl (by kernel_rfl) (by kernel_rfl) (by kernel_rfl) (fun _ _ _ h => h) (Or.inl ⟨by rfl, ?_⟩) (by assumption) ?_
          rotate_left
          · (intro w' hSw; (try dsimp only at hSw); go_simp; all_goals with_reducible rfl)
          try simp only [Act.put, List.setIfInBounds_toArray, List.set_cons_zero, List.set_cons_succ]
          refine TR.take_at (i := 10) (v := ?_) 83 rfl rfl (by kernel_rfl) (by kernel_rfl) (by kernel_rfl) (fun _ _ _ h => h) (Or.inl ⟨by rfl, ?_⟩) (by assumption) ?_
          rotate_left
          · (intro w' hSw; (try dsimp only at hSw); go_simp; all_goals with_reducible rfl)
          try simp only [Act.put, List.setIfInBounds_toArray, List.set_cons_zero, List.set_cons_succ]
          refine TR.take_at (i := 11) (v := ?_) 84 rfl rfl (by kernel_rfl) (by kernel_rfl) (by kernel_rfl) (fun _ _ _ h => h) (Or.inl ⟨by rfl, ?_⟩) (by assumption) ?_
          rotate_left
          · (intro w' hSw; (try dsimp only at hSw); go_simp; all_goals with_reducible rfl)
          try simp only [Act.put, List.setIfInBounds_toArray, List.set_cons_zero, List.set_cons_succ]
          refine TR.take_at (i := 12) (v := ?_) 85 rfl rfl (by kernel_rfl) (by kernel_rfl) (by kernel_rfl) (fun _ _ _ h => h) (Or.inl ⟨by rfl, ?_⟩) (by assumption) ?_
          rotate_left
          · (intro w' hSw; (try dsimp only at hSw); go_simp; all_goals with_reducible rfl)
          try simp only [Act.put, List.setIfInBounds_toArray, List.set_cons_zero, List.set_cons_succ]
          refine TR.take_at (i := 13) (v := ?_) 86 rfl rfl (by kernel_rfl) (by kernel_rfl) (by kernel_rfl) (fun _ _ _ h => h) (Or.inl ⟨by rfl, ?_⟩) (by assumption) ?_
          rotate_left
          · (intro w' hSw; (try dsimp only at hSw); go_simp; all_goals with_reducible rfl)
          try simp only [Act.put, List.setIfInBounds_toArray, List.set_cons_zero, List.set_cons_succ]
          refine TR.take_at (i := 14) (v := ?_) 87 rfl rfl (by kernel_rfl) (by kernel_rfl) (by kernel_rfl) (fun _ _ _ h => h) (Or.inl ⟨by rfl, ?_⟩) (by assumption) ?_
          rotate_left
          · (intro w' hSw; (try dsimp only at hSw); go_simp; all_goals with_reducible rfl)
          try simp only [Act.put, List.setIfInBounds_toArray, List.set_cons_zero, List.set_cons_succ]
          refine TR.take_at (i := 15) (v := ?_) 88 rfl rfl (by kernel_rfl) (by kernel_rfl) (by kernel_rfl) (fun _ _ _ h => h) (Or.inl ⟨by rfl, ?_⟩) (by assumption) ?_
          rotate_left
          · (intro w' hSw; (try dsimp only at hSw); go_simp; all_goals with_reducible rfl)
          try simp only [Act.put, List.setIfInBounds_toArray, List.set_cons_zero, List.set_cons_succ]
          refine TR.take_at (i := 16) (v := ?_) 89 rfl rfl (by kernel_rfl) (by kernel_rfl) (by kernel_rfl) (fun _ _ _ h => h) (Or.inl ⟨by rfl, ?_⟩) (by assumption) ?_
          rotate_left
          · (intro w' hSw; (try dsimp only at hSw); go_simp; all_goals with_reducible rfl)
          try simp only [Act.put, List.setIfInBounds_toArray, List.set_cons_zero, List.set_cons_succ]
          refine TR.take_at (i := 17) (v := ?_) 90 rfl rfl (by kernel_rfl) (by kernel_rfl) (by kernel_rfl) (fun _ _ _ h => h) (Or.inl ⟨by rfl, ?_⟩) (by assumption) ?_
          rotate_left
          · (intro w' hSw; (try dsimp only at hSw); go_simp; all_goals with_reducible rfl)
          try simp only [Act.put, List.setIfInBounds_toArray, List.set_cons_zero, List.set_cons_succ]
          replace HT := Hid.mk (HT.out.later (Below.refl _ w8).drew)
          replace hrB := block_later (Below.refl _ w8).drew hrB
          generalize w8.drew = wd8 at *
          refine wpAnyH_ready (rs := [9, 19, 20]) (by kernel_rfl) (by simp) ?_
          refine AllReadyH.cons rfl (fun K hK => ?_) (AllReadyH.cons rfl (fun K hK => ?_) (AllReadyH.cons rfl (fun K hK => ?_) AllReadyH.nil))
          · go_simp
            refine (HA.out _ _ _ _ HT.out).mono ?_
            rintro e v0 ⟨rfl, hT2, hkp⟩
            go_wp2_with fail
            replace k0 := hkp.cell (by simp) k0
            replace k1 := hkp.cell (by simp) k1
            replace k2 := hkp.cell (by simp) k2
            replace k3 := hkp.cell (by simp) k3
            replace k4 := hkp.cell (by simp) k4
            replace k5 := hkp.cell (by simp) k5
            replace hrB := hkp.row (by simp) hrB
            replace HT := Hid.mk hT2
            clear hT2 hkp
            refine hK.out _ _ ⟨k0, k1, k2, k3, k4, k5⟩ (fun hHeldc0 => ?_)
            clear hK
            try simp only [Act.put, List.setIfInBounds_toArray, List.set_cons_zero, List.set_cons_succ]
            refine wpAnyH_ready (rs := [18, 19, 20]) (by kernel_rfl) (by simp) ?_
            refine AllReadyH.cons rfl (fun K hK => ?_) (AllReadyH.cons rfl (fun K hK => ?_) (AllReadyH.cons rfl (fun K hK => ?_) AllReadyH.nil))
            · go_simp
              refine (HB.out _ _ _ _ HT.out).mono ?_
              rintro e v1 ⟨rfl, hT2, hkp⟩
              go_wp2_with fail
              replace k0 := hkp.cell (by simp) k0
              replace k1 := hkp.cell (by simp) k1
              replace k2 := hkp.cell (by simp) k2
              replace k3 := hkp.cell (by simp) k3
              replace k4 := hkp.cell (by simp) k4
              replace k5 := hkp.cell (by simp) k5
              replace hrB := hkp.row (by simp) hrB
              replace HT := Hid.mk hT2
              clear hT2 hkp
              refine hK.out _ _ ⟨k0, k1, k2, k3, k4, k5⟩ (fun hHeldc1 => ?_)
              clear hK
              try simp only [Act.put, List.setIfInBounds_toArray, List.set_cons_zero, List.set_cons_succ]
              refine wpAnyH_ready (rs := [19, 20]) (by kernel_rfl) (by simp) ?_
              refine AllReadyH.cons rfl (fun K hK => ?_) (AllReadyH.cons rfl (fun K hK => ?_) AllReadyH.nil)
              · go_simp
                have hbm := below_new (v1) (.cells #[.int .i64 0, .int .i64 0, .int .u64 0] 50)
                have hr0 := heap_alloc_new (v1) (.cells #[.int .i64 0, .int .i64 0, .int .u64 0] 50)
                have hn0 : (v1).heap.size ≠ B := by have := block_lt hrB; omega
                have hlo0 : w.heap.size ≤ (v1).heap.size := HT.out.bl.size
                replace HT := Hid.mk (HT.out.own (.cells #[.int .i64 0, .int .i64 0, .int .u64 0] 50))
                replace k0 := cell_later hbm k0
                replace k1 := cell_later hbm k1
                replace k2 := cell_later hbm k2
                replace k3 := cell_later hbm k3
                replace k4 := cell_later hbm k4
                replace k5 := cell_later hbm k5
                replace hrB := block_later hbm hrB
                clear hbm
                refine hK.out _ _ ⟨k0, k1, k2, k3, k4, k5⟩ (fun hHelda2 => ?_)
                clear hK
                try simp only [Act.put, List.setIfInBounds_toArray, List.set_cons_zero, List.set_cons_succ]
                generalize hva2 : (v1).alloc (.cells #[.int .i64 0, .int .i64 0, .int .u64 0] 50) = va2 at *
                generalize hka2 : (v1).heap.size = KA0 at *
                clear hva2 hka2
                refine wpAnyH_ready (rs := [20]) (by kernel_rfl) (by simp) ?_
                refine AllReadyH.cons rfl (fun K hK => ?_) AllReadyH.nil
                · go_simp
                  have hbm := below_new (va2) (.cells #[.int .i64 0, .int .i64 0, .int .u64 0] 50)
                  have hr1 := heap_alloc_new (va2) (.cells #[.int .i64 0, .int .i64 0, .int .u64 0] 50)
                  have hn1 : (va2).heap.size ≠ B := by have := block_lt hrB; omega
                  have hlo1 : w.heap.size ≤ (va2).heap.size := HT.out.bl.size
                  have hne01 : KA0 < (va2).heap.size := block_lt hr0
                  replace HT := Hid.mk (HT.out.own (.cells #[.int .i64 0, .int .i64 0, .int .u64 0] 50))
                  replace k0 := cell_later hbm k0
                  replace k1 := cell_later hbm k1
                  replace k2 := cell_later hbm k2
                  replace k3 := cell_later hbm k3
                  replace k4 := cell_later hbm k4
                  replace k5 := cell_later hbm k5
                  replace hrB := block_later hbm hrB
                  replace hr0 := block_later hbm hr0
                  clear hbm
                  refine hK.out _ _ ⟨k0, k1, k2, k3, k4, k5⟩ (fun hHelda3 => ?_)
                  clear hK
                  try simp only [Act.put, List.setIfInBounds_toArray, List.set_cons_zero, List.set_cons_succ]
                  generalize hva3 : (va2).alloc (.cells #[.int .i64 0, .int .i64 0, .int .u64 0] 50) = va3 at *
                  generalize hka3 : (va2).heap.size = KA1 at *
                  clear hva3 hka3
                  refine wpAnyH_ready (rs := [21]) (by kernel_rfl) (by simp) ?_
                  refine AllReadyH.cons rfl (fun K hK => ?_) AllReadyH.nil
                  refine step_store_seg rfl rfl 50 _ _ rfl KA0 0 _ #[.int .i64 f1, .int .i64 f2, .int .u64 (vw : Nat)] rfl rfl rfl 50 _ hr0 (show 0 + 3 ≤ 3 by decide) info_res (by simp [Value.oneCell']) #[.int .i64 f1, .int .i64 f2, .int .u64 (vw : Nat)] rfl ?_
                  intro ws0 hrq htq
                  replace k0 := TR.turn_cell htq (fun c => hn0 c.symm) k0
                  replace k1 := TR.turn_cell htq (fun c => hn0 c.symm) k1
                  replace k2 := TR.turn_cell htq (fun c => hn0 c.symm) k2
                  replace k3 := TR.turn_cell htq (fun c => hn0 c.symm) k3
                  replace k4 := TR.turn_cell htq (fun c => hn0 c.symm) k4
                  replace k5 := TR.turn_cell htq (fun c => hn0 c.symm) k5
                  replace hrB := block_turn htq hrB (fun c => hn0 c.symm)
                  replace hr1 := block_turn htq hr1 (by omega)
                  replace hr0 := hrq
                  replace HT := Hid.mk (HT.out.put htq (fun i hi => ⟨by rw [hi]; simp, by rw [hi]; exact hlo0⟩))
                  clear hrq htq
                  refine hK.out _ _ ⟨k0, k1, k2, k3, k4, k5⟩ (fun hHelds0 => ?_)
                  clear hK
                  try simp only [Act.put, List.setIfInBounds_toArray, List.set_cons_zero, List.set_cons_succ]
                  refine wpAnyH_ready (rs := [22]) (by kernel_rfl) (by simp) ?_
                  refine AllReadyH.cons rfl (fun K hK => ?_) AllReadyH.nil
                  refine step_store_seg rfl rfl 50 _ _ rfl KA1 0 _ #[.int .i64 f1, .int .i64 f2, .int .u64 (vw : Nat)] rfl rfl rfl 50 _ hr1 (show 0 + 3 ≤ 3 by decide) info_res (by simp [Value.oneCell']) #[.int .i64 f1, .int .i64 f2, .int .u64 (vw : Nat)] rfl ?_
                  intro ws1 hrq htq
                  replace k0 := TR.turn_cell htq (fun c => hn1 c.symm) k0
                  replace k1 := TR.turn_cell htq (fun c => hn1 c.symm) k1
                  replace k2 := TR.turn_cell htq (fun c => hn1 c.symm) k2
                  replace k3 := TR.turn_cell htq (fun c => hn1 c.symm) k3
                  replace k4 := TR.turn_cell htq (fun c => hn1 c.symm) k4
                  replace k5 := TR.turn_cell htq (fun c => hn1 c.symm) k5
                  replace hrB := block_turn htq hrB (fun c => hn1 c.symm)
                  replace hr0 := block_turn htq hr0 (by omega)
                  replace hr1 := hrq
                  replace HT := Hid.mk (HT.out.put htq (fun i hi => ⟨by rw [hi]; simp, by rw [hi]; exact hlo1⟩))
                  clear hrq htq
                  refine hK.out _ _ ⟨k0, k1, k2, k3, k4, k5⟩ (fun hHelds1 => ?_)
                  clear hK
                  try simp only [Act.put, List.setIfInBounds_toArray, List.set_cons_zero, List.set_cons_succ]
                  refine wpAnyH_done (by kernel_rfl) ?_ _
                  refine NoPanic.normal ?_
                  go_wp2_with fail
                  go_meet
                  exact ⟨KA0, KA1, rfl, rfl, HT.out.less (fun g hg => by simp only [List.mem_cons, List.not_mem_nil, or_false] at hg ⊢; rcases hg with h | h | h <;> simp [h]), hr0, hr1, hrB⟩
              · go_simp
                have hbm := below_new (v1) (.cells #[.int .i64 0, .int .i64 0, .int .u64 0] 50)
                have hr1 := heap_alloc_new (v1) (.cells #[.int .i64 0, .int .i64 0, .int .u64 0] 50)
                have hn1 : (v1).heap.size ≠ B := by have := block_lt hrB; omega
                have hlo1 : w.heap.size ≤ (v1).heap.size := HT.out.bl.size
                replace HT := Hid.mk (HT.out.own (.cells #[.int .i64 0, .int .i64 0, .int .u64 0] 50))
                replace k0 := cell_later hbm k0
                replace k1 := cell_later hbm k1
                replace k2 := cell_later hbm k2
                replace k3 := cell_later hbm k3
                replace k4 := cell_later hbm k4
                replace k5 := cell_later hbm k5
                replace hrB := block_later hbm hrB
                clear hbm
                refine hK.out _ _ ⟨k0, k1, k2, k3, k4, k5⟩ (fun hHelda2 => ?_)
                clear hK
                try simp only [Act.put, List.setIfInBounds_toArray, List.set_cons_zero, List.set_cons_succ]
                generalize hva2 : (v1).alloc (.cells #[.int .i64 0, .int .i64 0, .int .u64 0] 50) = va2 at *
                generalize hka2 : (v1).heap.size = KA1 at *
                clear hva2 hka2
                refine wpAnyH_ready (rs := [19]) (by kernel_rfl) (by simp) ?_
                refine AllReadyH.cons rfl (fun K hK => ?_) AllReadyH.nil
                · go_simp
                  have hbm := below_new (va2) (.cells #[.int .i64 0, .int .i64 0, .int .u64 0] 50)
                  have hr0 := heap_alloc_new (va2) (.cells #[.int .i64 0, .int .i64 0, .int .u64 0] 50)
                  have hn0 : (va2).heap.size ≠ B := by have := block_lt hrB; omega
                  have hlo0 : w.heap.size ≤ (va2).heap.size := HT.out.bl.size
                  have hne10 : KA1 < (va2).heap.size := block_lt hr1
                  replace HT := Hid.mk (HT.out.own (.cells #[.int .i64 0, .int .i64 0, .int .u64 0] 50))
                  replace k0 := cell_later hbm k0
                  replace k1 := cell_later hbm k1
                  replace k2 := cell_later hbm k2
                  replace k3 := cell_later hbm k3
                  replace k4 := cell_later hbm k4
                  replace k5 := cell_later hbm k5
                  replace hrB := block_later hbm hrB
                  replace hr1 := block_later hbm hr1
                  clear hbm
                  refine hK.out _ _ ⟨k0, k1, k2, k3, k4, k5⟩ (fun hHelda3 => ?_)
                  clear hK
                  try simp only [Act.put, List.setIfInBounds_toArray, List.set_cons_zero, List.set_cons_succ]
                  generalize hva3 : (va2).alloc (.cells #[.int .i64 0, .int .i64 0, .int .u64 0] 50) = va3 at *
                  generalize hka3 : (va2).heap.size = KA0 at *
                  clear hva3 hka3
                  refine wpAnyH_ready (rs := [21]) (by kernel_rfl) (by simp) ?_
                  refine AllReadyH.cons rfl (fun K hK => ?_) AllReadyH.nil
                  refine step_store_seg rfl rfl 50 _ _ rfl KA0 0 _ #[.int .i64 f1, .int .i64 f2, .int .u64 (vw : Nat)] rfl rfl rfl 50 _ hr0 (show 0 + 3 ≤ 3 by decide) info_res (by simp [Value.oneCell']) #[.int .i64 f1, .int .i64 f2, .int .u64 (vw : Nat)] rfl ?_
                  intro ws0 hrq htq
                  replace k0 := TR.turn_cell htq (fun c => hn0 c.symm) k0
                  replace k1 := TR.turn_cell htq (fun c => hn0 c.symm) k1
                  replace k2 := TR.turn_cell htq (fun c => hn0 c.symm) k2
                  replace k3 := TR.turn_cell htq (fun c => hn0 c.symm) k3
                  replace k4 := TR.turn_cell htq (fun c => hn0 c.symm) k4
                  replace k5 := TR.turn_cell htq (fun c => hn0 c.symm) k5
                  replace hrB := block_turn htq hrB (fun c => hn0 c.symm)
                  replace hr1 := block_turn htq hr1 (by omega)
                  replace hr0 := hrq
                  replace HT := Hid.mk (HT.out.put htq (fun i hi => ⟨by rw [hi]; simp, by rw [hi]; exact hlo0⟩))
                  clear hrq htq
                  refine hK.out _ _ ⟨k0, k1, k2, k3, k4, k5⟩ (fun hHelds0 => ?_)
                  clear hK
                  try simp only [Act.put, List.setIfInBounds_toArray, List.set_cons_zero, List.set_cons_succ]
                  refine wpAnyH_ready (rs := [22]) (by kernel_rfl) (by simp) ?_
                  refine AllReadyH.cons rfl (fun K hK => ?_) AllReadyH.nil
                  refine step_store_seg rfl rfl 50 _ _ rfl KA1 0 _ #[.int .i64 f1, .int .i64 f2, .int .u64 (vw : Nat)] rfl rfl rfl 50 _ hr1 (show 0 + 3 ≤ 3 by decide) info_res (by simp [Value.oneCell']) #[.int .i64 f1, .int .i64 f2, .int .u64 (vw : Nat)] rfl ?_
                  intro ws1 hrq htq
                  replace k0 := TR.turn_cell htq (fun c => hn1 c.symm) k0
                  replace k1 := TR.turn_cell htq (fun c => hn1 c.symm) k1
                  replace k2 := TR.turn_cell htq (fun c => hn1 c.symm) k2
                  replace k3 := TR.turn_cell htq (fun c => hn1 c.symm) k3
                  replace k4 := TR.turn_cell htq (fun c => hn1 c.symm) k4
                  replace k5 := TR.turn_cell htq (fun c => hn1 c.symm) k5
                  replace hrB := block_turn htq hrB (fun c => hn1 c.symm)
                  replace hr0 := block_turn htq hr0 (by omega)
                  replace hr1 := hrq
                  replace HT := Hid.mk (HT.out.put htq (fun i hi => ⟨by rw [hi]; simp, by rw [hi]; exact hlo1⟩))
                  clear hrq htq
                  refine hK.out _ _ ⟨k0, k1, k2, k3, k4, k5⟩ (fun hHelds1 => ?_)
                  clear hK
                  try simp only [Act.put, List.setIfInBounds_toArray, List.set_cons_zero, List.set_cons_succ]
                  refine wpAnyH_done (by kernel_rfl) ?_ _
                  refine NoPanic.normal ?_
                  go_wp2_with fail
                  go_meet
                  exact ⟨KA0, KA1, rfl, rfl, HT.out.less (fun g hg => by simp only [List.mem_cons, List.not_mem_nil, or_false] at hg ⊢; rcases hg with h | h | h <;> simp [h]), hr0, hr1, hrB⟩
            · go_simp
              have hbm := below_new (v0) (.cells #[.int .i64 0, .int .i64 0, .int .u64 0] 50)
              have hr0 := heap_alloc_new (v0) (.cells #[.int .i64 0, .int .i64 0, .int .u64 0] 50)
              have hn0 : (v0).heap.size ≠ B := by have := block_lt hrB; omega
              have hlo0 : w.heap.size ≤ (v0).heap.size := HT.out.bl.size
              replace HT := Hid.mk (HT.out.own (.cells #[.int .i64 0, .int .i64 0, .int .u64 0] 50))
              replace k0 := cell_later hbm k0
              replace k1 := cell_later hbm k1
              replace k2 := cell_later hbm k2
              replace k3 := cell_later hbm k3
              replace k4 := cell_later hbm k4
              replace k5 := cell_later hbm k5
              replace hrB := block_later hbm hrB
              clear hbm
              refine hK.out _ _ ⟨k0, k1, k2, k3, k4, k5⟩ (fun hHelda1 => ?_)
              clear hK
              try simp only [Act.put, List.setIfInBounds_toArray, List.set_cons_zero, List.set_cons_succ]
              generalize hva1 : (v0).alloc (.cells #[.int .i64 0, .int .i64 0, .int .u64 0] 50) = va1 at *
              generalize hka1 : (v0).heap.size = KA0 at *
              clear hva1 hka1
              refine wpAnyH_ready (rs := [18, 20]) (by kernel_rfl) (by simp) ?_
              refine AllReadyH.cons rfl (fun K hK => ?_) (AllReadyH.cons rfl (fun K hK => ?_) AllReadyH.nil)
              · go_simp
                refine (HB.out _ _ _ _ HT.out).mono ?_
                rintro e v2 ⟨rfl, hT2, hkp⟩
                go_wp2_with fail
                replace k0 := hkp.cell (by simp) k0
                replace k1 := hkp.cell (by simp) k1
                replace k2 := hkp.cell (by simp) k2
                replace k3 := hkp.cell (by simp) k3
                replace k4 := hkp.cell (by simp) k4
                replace k5 := hkp.cell (by simp) k5
                replace hrB := hkp.row (by simp) hrB
                replace hr0 := hkp.row (by simp) hr0
                replace HT := Hid.mk hT2
                clear hT2 hkp
                refine hK.out _ _ ⟨k0, k1, k2, k3, k4, k5⟩ (fun hHeldc2 => ?_)
                clear hK
                try simp only [Act.put, List.setIfInBounds_toArray, List.set_cons_zero, List.set_cons_succ]
                refine wpAnyH_ready (rs := [20]) (by kernel_rfl) (by simp) ?_
                refine AllReadyH.cons rfl (fun K hK => ?_) AllReadyH.nil
                · go_simp
                  have hbm := below_new (v2) (.cells #[.int .i64 0, .int .i64 0, .int .u64 0] 50)
                  have hr1 := heap_alloc_new (v2) (.cells #[.int .i64 0, .int .i64 0, .int .u64 0] 50)
                  have hn1 : (v2).heap.size ≠ B := by have := block_lt hrB; omega
                  have hlo1 : w.heap.size ≤ (v2).heap.size := HT.out.bl.size
                  have hne01 : KA0 < (v2).heap.size := block_lt hr0
                  replace HT := Hid.mk (HT.out.own (.cells #[.int .i64 0, .int .i64 0, .int .u64 0] 50))
                  replace k0 := cell_later hbm k0
                  replace k1 := cell_later hbm k1
                  replace k2 := cell_later hbm k2
                  replace k3 := cell_later hbm k3
                  replace k4 := cell_later hbm k4
                  replace k5 := cell_later hbm k5
                  replace hrB := block_later hbm hrB
                  replace hr0 := block_later hbm hr0
                  clear hbm
                  refine hK.out _ _ ⟨k0, k1, k2, k3, k4, k5⟩ (fun hHelda3 => ?_)
                  clear hK
                  try simp only [Act.put, List.setIfInBounds_toArray, List.set_cons_zero, List.set_cons_succ]
                  generalize hva3 : (v2).alloc (.cells #[.int .i64 0, .int .i64 0, .int .u64 0] 50) = va3 at *
                  generalize hka3 : (v2).heap.size = KA1 at *
                  clear hva3 hka3
                  refine wpAnyH_ready (rs := [21]) (by kernel_rfl) (by simp) ?_
                  refine AllReadyH.cons rfl (fun K hK => ?_) AllReadyH.nil
                  refine step_store_seg rfl rfl 50 _ _ rfl KA0 0 _ #[.int .i64 f1, .int .i64 f2, .int .u64 (vw : Nat)] rfl rfl rfl 50 _ hr0 (show 0 + 3 ≤ 3 by decide) info_res (by simp [Value.oneCell']) #[.int .i64 f1, .int .i64 f2, .int .u64 (vw : Nat)] rfl ?_
                  intro ws0 hrq htq
                  replace k0 := TR.turn_cell htq (fun c => hn0 c.symm) k0
                  replace k1 := TR.turn_cell htq (fun c => hn0 c.symm) k1
                  replace k2 := TR.turn_cell htq (fun c => hn0 c.symm) k2
                  replace k3 := TR.turn_cell htq (fun c => hn0 c.symm) k3
                  replace k4 := TR.turn_cell htq (fun c => hn0 c.symm) k4
                  replace k5 := TR.turn_cell htq (fun c => hn0 c.symm) k5
                  replace hrB := block_turn htq hrB (fun c => hn0 c.symm)
                  replace hr1 := block_turn htq hr1 (by omega)
                  replace hr0 := hrq
                  replace HT := Hid.mk (HT.out.put htq (fun i hi => ⟨by rw [hi]; simp, by rw [hi]; exact hlo0⟩))
                  clear hrq htq
                  refine hK.out _ _ ⟨k0, k1, k2, k3, k4, k5⟩ (fun hHelds0 => ?_)
                  clear hK
                  try simp only [Act.put, List.setIfInBounds_toArray, List.set_cons_zero, List.set_cons_succ]
                  refine wpAnyH_ready (rs := [22]) (by kernel_rfl) (by simp) ?_
                  refine AllReadyH.cons rfl (fun K hK => ?_) AllReadyH.nil
                  refine step_store_seg rfl rfl 50 _ _ rfl KA1 0 _ #[.int .i64 f1, .int .i64 f2, .int .u64 (vw : Nat)] rfl rfl rfl 50 _ hr1 (show 0 + 3 ≤ 3 by decide) info_res (by simp [Value.oneCell']) #[.int .i64 f1, .int .i64 f2, .int .u64 (vw : Nat)] rfl ?_
                  intro ws1 hrq htq
                  replace k0 := TR.turn_cell htq (fun c => hn1 c.symm) k0
                  replace k1 := TR.turn_cell htq (fun c => hn1 c.symm) k1
                  replace k2 := TR.turn_cell htq (fun c => hn1 c.symm) k2
                  replace k3 := TR.turn_cell htq (fun c => hn1 c.symm) k3
                  replace k4 := TR.turn_cell htq (fun c => hn1 c.symm) k4
                  replace k5 := TR.turn_cell htq (fun c => hn1 c.symm) k5
                  replace hrB := block_turn htq hrB (fun c => hn1 c.symm)
                  replace hr0 := block_turn htq hr0 (by omega)
                  replace hr1 := hrq
                  replace HT := Hid.mk (HT.out.put htq (fun i hi => ⟨by rw [hi]; simp, by rw [hi]; exact hlo1⟩))
                  clear hrq htq
                  refine hK.out _ _ ⟨k0, k1, k2, k3, k4, k5⟩ (fun hHelds1 => ?_)
                  clear hK
                  try simp only [Act.put, List.setIfInBounds_toArray, List.set_cons_zero, List.set_cons_succ]
                  refine wpAnyH_done (by kernel_rfl) ?_ _
                  refine NoPanic.normal ?_
                  go_wp2_with fail
                  go_meet
                  exact ⟨KA0, KA1, rfl, rfl, HT.out.less (fun g hg => by simp only [List.mem_cons, List.not_mem_nil, or_false] at hg ⊢; rcases hg with h | h | h <;> simp [h]), hr0, hr1, hrB⟩
              · go_simp
                have hbm := below_new (va1) (.cells #[.int .i64 0, .int .i64 0, .int .u64 0] 50)
                have hr1 := heap_alloc_new (va1) (.cells #[.int .i64 0, .int .i64 0, .int .u64 0] 50)
                have hn1 : (va1).heap.size ≠ B := by have := block_lt hrB; omega
                have hlo1 : w.heap.size ≤ (va1).heap.size := HT.out.bl.size
                have hne01 : KA0 < (va1).heap.size := block_lt hr0
                replace HT := Hid.mk (HT.out.own (.cells #[.int .i64 0, .int .i64 0, .int .u64 0] 50))
                replace k0 := cell_later hbm k0
                replace k1 := cell_later hbm k1
                replace k2 := cell_later hbm k2
                replace k3 := cell_later hbm k3
                replace k4 := cell_later hbm k4
                replace k5 := cell_later hbm k5
                replace hrB := block_later hbm hrB
                replace hr0 := block_later hbm hr0
                clear hbm
                refine hK.out _ _ ⟨k0, k1, k2, k3, k4, k5⟩ (fun hHelda2 => ?_)
                clear hK
                try simp only [Act.put, List.setIfInBounds_toArray, List.set_cons_zero, List.set_cons_succ]
                generalize hva2 : (va1).alloc (.cells #[.int .i64 0, .int .i64 0, .int .u64 0] 50) = va2 at *
                generalize hka2 : (va1).heap.size = KA1 at *
                clear hva2 hka2
                refine wpAnyH_ready (rs := [18]) (by kernel_rfl) (by simp) ?_
                refine AllReadyH.cons rfl (fun K hK => ?_) AllReadyH.nil
                · go_simp
                  refine (HB.out _ _ _ _ HT.out).mono ?_
                  rintro e v3 ⟨rfl, hT2, hkp⟩
                  go_wp2_with fail
                  replace k0 := hkp.cell (by simp) k0
                  replace k1 := hkp.cell (by simp) k1
                  replace k2 := hkp.cell (by simp) k2
                  replace k3 := hkp.cell (by simp) k3
                  replace k4 := hkp.cell (by simp) k4
                  replace k5 := hkp.cell (by simp) k5
                  replace hrB := hkp.row (by simp) hrB
                  replace hr0 := hkp.row (by simp) hr0
                  replace hr1 := hkp.row (by simp) hr1
                  replace HT := Hid.mk hT2
                  clear hT2 hkp
                  refine hK.out _ _ ⟨k0, k1, k2, k3, k4, k5⟩ (fun hHeldc3 => ?_)
                  clear hK
                  try simp only [Act.put, List.setIfInBounds_toArray, List.set_cons_zero, List.set_cons_succ]
                  refine wpAnyH_ready (rs := [21]) (by kernel_rfl) (by simp) ?_
                  refine AllReadyH.cons rfl (fun K hK => ?_) AllReadyH.nil
                  refine step_store_seg rfl rfl 50 _ _ rfl KA0 0 _ #[.int .i64 f1, .int .i64 f2, .int .u64 (vw : Nat)] rfl rfl rfl 50 _ hr0 (show 0 + 3 ≤ 3 by decide) info_res (by simp [Value.oneCell']) #[.int .i64 f1, .int .i64 f2, .int .u64 (vw : Nat)] rfl ?_
                  intro ws0 hrq htq
                  replace k0 := TR.turn_cell htq (fun c => hn0 c.symm) k0
                  replace k1 := TR.turn_cell htq (fun c => hn0 c.symm) k1
                  replace k2 := TR.turn_cell htq (fun c => hn0 c.symm) k2
                  replace k3 := TR.turn_cell htq (fun c => hn0 c.symm) k3
                  replace k4 := TR.turn_cell htq (fun c => hn0 c.symm) k4
                  replace k5 := TR.turn_cell htq (fun c => hn0 c.symm) k5
                  replace hrB := block_turn htq hrB (fun c => hn0 c.symm)
                  replace hr1 := block_turn htq hr1 (by omega)
                  replace hr0 := hrq
                  replace HT := Hid.mk (HT.out.put htq (fun i hi => ⟨by rw [hi]; simp, by rw [hi]; exact hlo0⟩))
                  clear hrq htq
                  refine hK.out _ _ ⟨k0, k1, k2, k3, k4, k5⟩ (fun hHelds0 => ?_)
                  clear hK
                  try simp only [Act.put, List.setIfInBounds_toArray, List.set_cons_zero, List.set_cons_succ]
                  refine wpAnyH_ready (rs := [22]) (by kernel_rfl) (by simp) ?_
                  refine AllReadyH.cons rfl (fun K hK => ?_) AllReadyH.nil
                  refine step_store_seg rfl rfl 50 _ _ rfl KA1 0 _ #[.int .i64 f1, .int .i64 f2, .int .u64 (vw : Nat)] rfl rfl rfl 50 _ hr1 (show 0 + 3 ≤ 3 by decide) info_res (by simp [Value.oneCell']) #[.int .i64 f1, .int .i64 f2, .int .u64 (vw : Nat)] rfl ?_
                  intro ws1 hrq htq
                  replace k0 := TR.turn_cell htq (fun c => hn1 c.symm) k0
                  replace k1 := TR.turn_cell htq (fun c => hn1 c.symm) k1
                  replace k2 := TR.turn_cell htq (fun c => hn1 c.symm) k2
                  replace k3 := TR.turn_cell htq (fun c => hn1 c.symm) k3
                  replace k4 := TR.turn_cell htq (fun c => hn1 c.symm) k4
                  replace k5 := TR.turn_cell htq (fun c => hn1 c.symm) k5
                  replace hrB := block_turn htq hrB (fun c => hn1 c.symm)
                  replace hr0 := block_turn htq hr0 (by omega)
                  replace hr1 := hrq
                  replace HT := Hid.mk (HT.out.put htq (fun i hi => ⟨by rw [hi]; simp, by rw [hi]; exact hlo1⟩))
                  clear hrq htq
                  refine hK.out _ _ ⟨k0, k1, k2, k3, k4, k5⟩ (fun hHelds1 => ?_)
                  clear hK
                  try simp only [Act.put, List.setIfInBounds_toArray, List.set_cons_zero, List.set_cons_succ]
                  refine wpAnyH_done (by kernel_rfl) ?_ _
                  refine NoPanic.normal ?_
                  go_wp2_with fail
                  go_meet
                  exact ⟨KA0, KA1, rfl, rfl, HT.out.less (fun g hg => by simp only [List.mem_cons, List.not_mem_nil, or_false] at hg ⊢; rcases hg with h | h | h <;> simp [h]), hr0, hr1, hrB⟩
            · go_simp
              have hbm := below_new (v0) (.cells #[.int .i64 0, .int .i64 0, .int .u64 0] 50)
              have hr1 := heap_alloc_new (v0) (.cells #[.int .i64 0, .int .i64 0, .int .u64 0] 50)
              have hn1 : (v0).heap.size ≠ B := by have := block_lt hrB; omega
              have hlo1 : w.heap.size ≤ (v0).heap.size := HT.out.bl.size
              replace HT := Hid.mk (HT.out.own (.cells #[.int .i64 0, .int .i64 0, .int .u64 0] 50))
              replace k0 := cell_later hbm k0
              replace k1 := cell_later hbm k1
              replace k2 := cell_later hbm k2
              replace k3 := cell_later hbm k3
              replace k4 := cell_later hbm k4
              replace k5 := cell_later hbm k5
              replace hrB := block_later hbm hrB
              clear hbm
              refine hK.out _ _ ⟨k0, k1, k2, k3, k4, k5⟩ (fun hHelda1 => ?_)
              clear hK
              try simp only [Act.put, List.setIfInBounds_toArray, List.set_cons_zero, List.set_cons_succ]
              generalize hva1 : (v0).alloc (.cells #[.int .i64 0, .int .i64 0, .int .u64 0] 50) = va1 at *
              generalize hka1 : (v0).heap.size = KA1 at *
              clear hva1 hka1
              refine wpAnyH_ready (rs := [18, 19]) (by kernel_rfl) (by simp) ?_
              refine AllReadyH.cons rfl (fun K hK => ?_) (AllReadyH.cons rfl (fun K hK => ?_) AllReadyH.nil)
              · go_simp
                refine (HB.out _ _ _ _ HT.out).mono ?_
                rintro e v2 ⟨rfl, hT2, hkp⟩
                go_wp2_with fail
                replace k0 := hkp.cell (by simp) k0
                replace k1 := hkp.cell (by simp) k1
                replace k2 := hkp.cell (by simp) k2
                replace k3 := hkp.cell (by simp) k3
                replace k4 := hkp.cell (by simp) k4
                replace k5 := hkp.cell (by simp) k5
                replace hrB := hkp.row (by simp) hrB
                replace hr1 := hkp.row (by simp) hr1
                replace HT := Hid.mk hT2
                clear hT2 hkp
                refine hK.out _ _ ⟨k0, k1, k2, k3, k4, k5⟩ (fun hHeldc2 => ?_)
                clear hK
                try simp only [Act.put, List.setIfInBounds_toArray, List.set_cons_zero, List.set_cons_succ]
                refine wpAnyH_ready (rs := [19]) (by kernel_rfl) (by simp) ?_
                refine AllReadyH.cons rfl (fun K hK => ?_) AllReadyH.nil
                · go_simp
                  have hbm := below_new (v2) (.cells #[.int .i64 0, .int .i64 0, .int .u64 0] 50)
                  have hr0 := heap_alloc_new (v2) (.cells #[.int .i64 0, .int .i64 0, .int .u64 0] 50)
                  have hn0 : (v2).heap.size ≠ B := by have := block_lt hrB; omega
                  have hlo0 : w.heap.size ≤ (v2).heap.size := HT.out.bl.size
                  have hne10 : KA1 < (v2).heap.size := block_lt hr1
                  replace HT := Hid.mk (HT.out.own (.cells #[.int .i64 0, .int .i64 0, .int .u64 0] 50))
                  replace k0 := cell_later hbm k0
                  replace k1 := cell_later hbm k1
                  replace k2 := cell_later hbm k2
                  replace k3 := cell_later hbm k3
                  replace k4 := cell_later hbm k4
                  replace k5 := cell_later hbm k5
                  replace hrB := block_later hbm hrB
                  replace hr1 := block_later hbm hr1
                  clear hbm
                  refine hK.out _ _ ⟨k0, k1, k2, k3, k4, k5⟩ (fun hHelda3 => ?_)
                  clear hK
                  try simp only [Act.put, List.setIfInBounds_toArray, List.set_cons_zero, List.set_cons_succ]
                  generalize hva3 : (v2).alloc (.cells #[.int .i64 0, .int .i64 0, .int .u64 0] 50) = va3 at *
                  generalize hka3 : (v2).heap.size = KA0 at *
                  clear hva3 hka3
                  refine wpAnyH_ready (rs := [21]) (by kernel_rfl) (by simp) ?_
                  refine AllReadyH.cons rfl (fun K hK => ?_) AllReadyH.nil
                  refine step_store_seg rfl rfl 50 _ _ rfl KA0 0 _ #[.int .i64 f1, .int .i64 f2, .int .u64 (vw : Nat)] rfl rfl rfl 50 _ hr0 (show 0 + 3 ≤ 3 by decide) info_res (by simp [Value.oneCell']) #[.int .i64 f1, .int .i64 f2, .int .u64 (vw : Nat)] rfl ?_
                  intro ws0 hrq htq
                  replace k0 := TR.turn_cell htq (fun c => hn0 c.symm) k0
                  replace k1 := TR.turn_cell htq (fun c => hn0 c.symm) k1
                  replace k2 := TR.turn_cell htq (fun c => hn0 c.symm) k2
                  replace k3 := TR.turn_cell htq (fun c => hn0 c.symm) k3
                  replace k4 := TR.turn_cell htq (fun c => hn0 c.symm) k4
                  replace k5 := TR.turn_cell htq (fun c => hn0 c.symm) k5
                  replace hrB := block_turn htq hrB (fun c => hn0 c.symm)
                  replace hr1 := block_turn htq hr1 (by omega)
                  replace hr0 := hrq
                  replace HT := Hid.mk (HT.out.put htq (fun i hi => ⟨by rw [hi]; simp, by rw [hi]; exact hlo0⟩))
                  clear hrq htq
                  refine hK.out _ _ ⟨k0, k1, k2, k3, k4, k5⟩ (fun hHelds0 => ?_)
                  clear hK
                  try simp only [Act.put, List.setIfInBounds_toArray, List.set_cons_zero, List.set_cons_succ]
                  refine wpAnyH_ready (rs := [22]) (by kernel_rfl) (by simp) ?_
                  refine AllReadyH.cons rfl (fun K hK => ?_) AllReadyH.nil
                  refine step_store_seg rfl rfl 50 _ _ rfl KA1 0 _ #[.int .i64 f1, .int .i64 f2, .int .u64 (vw : Nat)] rfl rfl rfl 50 _ hr1 (show 0 + 3 ≤ 3 by decide) info_res (by simp [Value.oneCell']) #[.int .i64 f1, .int .i64 f2, .int .u64 (vw : Nat)] rfl ?_
                  intro ws1 hrq htq
                  replace k0 := TR.turn_cell htq (fun c => hn1 c.symm) k0
                  replace k1 := TR.turn_cell htq (fun c => hn1 c.symm) k1
                  replace k2 := TR.turn_cell htq (fun c => hn1 c.symm) k2
                  replace k3 := TR.turn_cell htq (fun c => hn1 c.symm) k3
                  replace k4 := TR.turn_cell htq (fun c => hn1 c.symm) k4
                  replace k5 := TR.turn_cell htq (fun c => hn1 c.symm) k5
                  replace hrB := block_turn htq hrB (fun c => hn1 c.symm)
                  replace hr0 := block_turn htq hr0 (by omega)
                  replace hr1 := hrq
                  replace HT := Hid.mk (HT.out.put htq (fun i hi => ⟨by rw [hi]; simp, by rw [hi]; exact hlo1⟩))
                  clear hrq htq
                  refine hK.out _ _ ⟨k0, k1, k2, k3, k4, k5⟩ (fun hHelds1 => ?_)
                  clear hK
                  try simp only [Act.put, List.setIfInBounds_toArray, List.set_cons_zero, List.set_cons_succ]
                  refine wpAnyH_done (by kernel_rfl) ?_ _
                  refine NoPanic.normal ?_
                  go_wp2_with fail
                  go_meet
                  exact ⟨KA0, KA1, rfl, rfl, HT.out.less (fun g hg => by simp only [List.mem_cons, List.not_mem_nil, or_false] at hg ⊢; rcases hg with h | h | h <;> simp [h]), hr0, hr1, hrB⟩
              · go_simp
                have hbm := below_new (va1) (.cells #[.int .i64 0, .int .i64 0, .int .u64 0] 50)
                have hr0 := heap_alloc_new (va1) (.cells #[.int .i64 0, .int .i64 0, .int .u64 0] 50)
                have hn0 : (va1).heap.size ≠ B := by have := block_lt hrB; omega
                have hlo0 : w.heap.size ≤ (va1).heap.size := HT.out.bl.size
                have hne10 : KA1 < (va1).heap.size := block_lt hr1
                replace HT := Hid.mk (HT.out.own (.cells #[.int .i64 0, .int .i64 0, .int .u64 0] 50))
                replace k0 := cell_later hbm k0
                replace k1 := cell_later hbm k1
                replace k2 := cell_later hbm k2
                replace k3 := cell_later hbm k3
                replace k4 := cell_later hbm k4
                replace k5 := cell_later hbm k5
                replace hrB := block_later hbm hrB
                replace hr1 := block_later hbm hr1
                clear hbm
                refine hK.out _ _ ⟨k0, k1, k2, k3, k4, k5⟩ (fun hHelda2 => ?_)
                clear hK
                try simp only [Act.put, List.setIfInBounds_toArray, List.set_cons_zero, List.set_cons_succ]
                generalize hva2 : (va1).alloc (.cells #[.int .i64 0, .int .i64 0, .int .u64 0] 50) = va2 at *
                generalize hka2 : (va1).heap.size = KA0 at *
                clear hva2 hka2
                refine wpAnyH_ready (rs := [18]) (by kernel_rfl) (by simp) ?_
                refine AllReadyH.cons rfl (fun K hK => ?_) AllReadyH.nil
                · go_simp
                  refine (HB.out _ _ _ _ HT.out).mono ?_
                  rintro e v3 ⟨rfl, hT2, hkp⟩
                  go_wp2_with fail
                  replace k0 := hkp.cell (by simp) k0
                  replace k1 := hkp.cell (by simp) k1
                  replace k2 := hkp.cell (by simp) k2
                  replace k3 := hkp.cell (by simp) k3
                  replace k4 := hkp.cell (by simp) k4
                  replace k5 := hkp.cell (by simp) k5
                  replace hrB := hkp.row (by simp) hrB
                  replace hr1 := hkp.row (by simp) hr1
                  replace hr0 := hkp.row (by simp) hr0
                  replace HT := Hid.mk hT2
                  clear hT2 hkp
                  refine hK.out _ _ ⟨k0, k1, k2, k3, k4, k5⟩ (fun hHeldc3 => ?_)
                  clear hK
                  try simp only [Act.put, List.setIfInBounds_toArray, List.set_cons_zero, List.set_cons_succ]
                  refine wpAnyH_ready (rs := [21]) (by kernel_rfl) (by simp) ?_
                  refine AllReadyH.cons rfl (fun K hK => ?_) AllReadyH.nil
                  refine step_store_seg rfl rfl 50 _ _ rfl KA0 0 _ #[.int .i64 f1, .int .i64 f2, .int .u64 (vw : Nat)] rfl rfl rfl 50 _ hr0 (show 0 + 3 ≤ 3 by decide) info_res (by simp [Value.oneCell']) #[.int .i64 f1, .int .i64 f2, .int .u64 (vw : Nat)] rfl ?_
                  intro ws0 hrq htq
                  replace k0 := TR.turn_cell htq (fun c => hn0 c.symm) k0
                  replace k1 := TR.turn_cell htq (fun c => hn0 c.symm) k1
                  replace k2 := TR.turn_cell htq (fun c => hn0 c.symm) k2
                  replace k3 := TR.turn_cell htq (fun c => hn0 c.symm) k3
                  replace k4 := TR.turn_cell htq (fun c => hn0 c.symm) k4
                  replace k5 := TR.turn_cell htq (fun c => hn0 c.symm) k5
                  replace hrB := block_turn htq hrB (fun c => hn0 c.symm)
                  replace hr1 := block_turn htq hr1 (by omega)
                  replace hr0 := hrq
                  replace HT := Hid.mk (HT.out.put htq (fun i hi => ⟨by rw [hi]; simp, by rw [hi]; exact hlo0⟩))
                  clear hrq htq
                  refine hK.out _ _ ⟨k0, k1, k2, k3, k4, k5⟩ (fun hHelds0 => ?_)
                  clear hK
                  try simp only [Act.put, List.setIfInBounds_toArray, List.set_cons_zero, List.set_cons_succ]
                  refine wpAnyH_ready (rs := [22]) (by kernel_rfl) (by simp) ?_
                  refine AllReadyH.cons rfl (fun K hK => ?_) AllReadyH.nil
                  refine step_store_seg rfl rfl 50 _ _ rfl KA1 0 _ #[.int .i64 f1, .int .i64 f2, .int .u64 (vw : Nat)] rfl rfl rfl 50 _ hr1 (show 0 + 3 ≤ 3 by decide) info_res (by simp [Value.oneCell']) #[.int .i64 f1, .int .i64 f2, .int .u64 (vw : Nat)] rfl ?_
                  intro ws1 hrq htq
                  replace k0 := TR.turn_cell htq (fun c => hn1 c.symm) k0
                  replace k1 := TR.turn_cell htq (fun c => hn1 c.symm) k1
                  replace k2 := TR.turn_cell htq (fun c => hn1 c.symm) k2
                  replace k3 := TR.turn_cell htq (fun c => hn1 c.symm) k3
                  replace k4 := TR.turn_cell htq (fun c => hn1 c.symm) k4
                  replace k5 := TR.turn_cell htq (fun c => hn1 c.symm) k5
                  replace hrB := block_turn htq hrB (fun c => hn1 c.symm)
                  replace hr0 := block_turn htq hr0 (by omega)
                  replace hr1 := hrq
                  replace HT := Hid.mk (HT.out.put htq (fun i hi => ⟨by rw [hi]; simp, by rw [hi]; exact hlo1⟩))
                  clear hrq htq
                  refine hK.out _ _ ⟨k0, k1, k2, k3, k4, k5⟩ (fun hHelds1 => ?_)
                  clear hK
                  try simp only [Act.put, List.setIfInBounds_toArray, List.set_cons_zero, List.set_cons_succ]
                  refine wpAnyH_done (by kernel_rfl) ?_ _
                  refine NoPanic.normal ?_
                  go_wp2_with fail
                  go_meet
                  exact ⟨KA0, KA1, rfl, rfl, HT.out.less (fun g hg => by simp only [List.mem_cons, List.not_mem_nil, or_false] at hg ⊢; rcases hg with h | h | h <;> simp [h]), hr0, hr1, hrB⟩
          · go_simp
            have hbm := below_new (wd8) (.cells #[.int .i64 0, .int .i64 0, .int .u64 0] 50)
            have hr0 := heap_alloc_new (wd8) (.cells #[.int .i64 0, .int .i64 0, .int .u64 0] 50)
            have hn0 : (wd8).heap.size ≠ B := by have := block_lt hrB; omega
            have hlo0 : w.heap.size ≤ (wd8).heap.size := HT.out.bl.size
            replace HT := Hid.mk (HT.out.own (.cells #[.int .i64 0, .int .i64 0, .int .u64 0] 50))
            replace k0 := cell_later hbm k0
            replace k1 := cell_later hbm k1
            replace k2 := cell_later hbm k2
            replace k3 := cell_later hbm k3
            replace k4 := cell_later hbm k4
            replace k5 := cell_later hbm k5
            replace hrB := block_later hbm hrB
            clear hbm
            refine hK.out _ _ ⟨k0, k1, k2, k3, k4, k5⟩ (fun hHelda0 => ?_)
            clear hK
            try simp only [Act.put, List.setIfInBounds_toArray, List.set_cons_zero, List.set_cons_succ]
            generalize hva0 : (wd8).alloc (.cells #[.int .i64 0, .int .i64 0, .int .u64 0] 50) = va0 at *
            generalize hka0 : (wd8).heap.size = KA0 at *
            clear hva0 hka0
            refine wpAnyH_ready (rs := [9, 20]) (by kernel_rfl) (by simp) ?_
            refine AllReadyH.cons rfl (fun K hK => ?_) (AllReadyH.cons rfl (fun K hK => ?_) AllReadyH.nil)
            · go_simp
              refine (HA.out _ _ _ _ HT.out).mono ?_
              rintro e v1 ⟨rfl, hT2, hkp⟩
              go_wp2_with fail
              replace k0 := hkp.cell (by simp) k0
              replace k1 := hkp.cell (by simp) k1
              replace k2 := hkp.cell (by simp) k2
              replace k3 := hkp.cell (by simp) k3
              replace k4 := hkp.cell (by simp) k4
              replace k5 := hkp.cell (by simp) k5
              replace hrB := hkp.row (by simp) hrB
              replace hr0 := hkp.row (by simp) hr0
              replace HT := Hid.mk hT2
              clear hT2 hkp
              refine hK.out _ _ ⟨k0, k1, k2, k3, k4, k5⟩ (fun hHeldc1 => ?_)
              clear hK
              try simp only [Act.put, List.setIfInBounds_toArray, List.set_cons_zero, List.set_cons_succ]
              refine wpAnyH_ready (rs := [18, 20]) (by kernel_rfl) (by simp) ?_
              refine AllReadyH.cons rfl (fun K hK => ?_) (AllReadyH.cons rfl (fun K hK => ?_) AllReadyH.nil)
              · go_simp
                refine (HB.out _ _ _ _ HT.out).mono ?_
                rintro e v2 ⟨rfl, hT2, hkp⟩
                go_wp2_with fail
                replace k0 := hkp.cell (by simp) k0
                replace k1 := hkp.cell (by simp) k1
                replace k2 := hkp.cell (by simp) k2
                replace k3 := hkp.cell (by simp) k3
                replace k4 := hkp.cell (by simp) k4
                replace k5 := hkp.cell (by simp) k5
                replace hrB := hkp.row (by simp) hrB
                replace hr0 := hkp.row (by simp) hr0
                replace HT := Hid.mk hT2
                clear hT2 hkp
                refine hK.out _ _ ⟨k0, k1, k2, k3, k4, k5⟩ (fun hHeldc2 => ?_)
                clear hK
                try simp only [Act.put, List.setIfInBounds_toArray, List.set_cons_zero, List.set_cons_succ]
                refine wpAnyH_ready (rs := [20]) (by kernel_rfl) (by simp) ?_
                refine AllReadyH.cons rfl (fun K hK => ?_) AllReadyH.nil
                · go_simp
                  have hbm := below_new (v2) (.cells #[.int .i64 0, .int .i64 0, .int .u64 0] 50)
                  have hr1 := heap_alloc_new (v2) (.cells #[.int .i64 0, .int .i64 0, .int .u64 0] 50)
                  have hn1 : (v2).heap.size ≠ B := by have := block_lt hrB; omega
                  have hlo1 : w.heap.size ≤ (v2).heap.size := HT.out.bl.size
                  have hne01 : KA0 < (v2).heap.size := block_lt hr0
                  replace HT := Hid.mk (HT.out.own (.cells #[.int .i64 0, .int .i64 0, .int .u64 0] 50))
                  replace k0 := cell_later hbm k0
                  replace k1 := cell_later hbm k1
                  replace k2 := cell_later hbm k2
                  replace k3 := cell_later hbm k3
                  replace k4 := cell_later hbm k4
                  replace k5 := cell_later hbm k5
                  replace hrB := block_later hbm hrB
                  replace hr0 := block_later hbm hr0
                  clear hbm
                  refine hK.out _ _ ⟨k0, k1, k2, k3, k4, k5⟩ (fun hHelda3 => ?_)
                  clear hK
                  try simp only [Act.put, List.setIfInBounds_toArray, List.set_cons_zero, List.set_cons_succ]
                  generalize hva3 : (v2).alloc (.cells #[.int .i64 0, .int .i64 0, .int .u64 0] 50) = va3 at *
                  generalize hka3 : (v2).heap.size = KA1 at *
                  clear hva3 hka3
                  refine wpAnyH_ready (rs := [21]) (by kernel_rfl) (by simp) ?_
                  refine AllReadyH.cons rfl (fun K hK => ?_) AllReadyH.nil
                  refine step_store_seg rfl rfl 50 _ _ rfl KA0 0 _ #[.int .i64 f1, .int .i64 f2, .int .u64 (vw : Nat)] rfl rfl rfl 50 _ hr0 (show 0 + 3 ≤ 3 by decide) info_res (by simp [Value.oneCell']) #[.int .i64 f1, .int .i64 f2, .int .u64 (vw : Nat)] rfl ?_
                  intro ws0 hrq htq
                  replace k0 := TR.turn_cell htq (fun c => hn0 c.symm) k0
                  replace k1 := TR.turn_cell htq (fun c => hn0 c.symm) k1
                  replace k2 := TR.turn_cell htq (fun c => hn0 c.symm) k2
                  replace k3 := TR.turn_cell htq (fun c => hn0 c.symm) k3
                  replace k4 := TR.turn_cell htq (fun c => hn0 c.symm) k4
                  replace k5 := TR.turn_cell htq (fun c => hn0 c.symm) k5
                  replace hrB := block_turn htq hrB (fun c => hn0 c.symm)
                  replace hr1 := block_turn htq hr1 (by omega)
                  replace hr0 := hrq
                  replace HT := Hid.mk (HT.out.put htq (fun i hi => ⟨by rw [hi]; simp, by rw [hi]; exact hlo0⟩))
                  clear hrq htq
                  refine hK.out _ _ ⟨k0, k1, k2, k3, k4, k5⟩ (fun hHelds0 => ?_)
                  clear hK
                  try simp only [Act.put, List.setIfInBounds_toArray, List.set_cons_zero, List.set_cons_succ]
                  refine wpAnyH_ready (rs := [22]) (by kernel_rfl) (by simp) ?_
                  refine AllReadyH.cons rfl (fun K hK => ?_) AllReadyH.nil
                  refine step_store_seg rfl rfl 50 _ _ rfl KA1 0 _ #[.int .i64 f1, .int .i64 f2, .int .u64 (vw : Nat)] rfl rfl rfl 50 _ hr1 (show 0 + 3 ≤ 3 by decide) info_res (by simp [Value.oneCell']) #[.int .i64 f1, .int .i64 f2, .int .u64 (vw : Nat)] rfl ?_
                  intro ws1 hrq htq
                  replace k0 := TR.turn_cell htq (fun c => hn1 c.symm) k0
                  replace k1 := TR.turn_cell htq (fun c => hn1 c.symm) k1
                  replace k2 := TR.turn_cell htq (fun c => hn1 c.symm) k2
                  replace k3 := TR.turn_cell htq (fun c => hn1 c.symm) k3
                  replace k4 := TR.turn_cell htq (fun c => hn1 c.symm) k4
                  replace k5 := TR.turn_cell htq (fun c => hn1 c.symm) k5
                  replace hrB := block_turn htq hrB (fun c => hn1 c.symm)
                  replace hr0 := block_turn htq hr0 (by omega)
                  replace hr1 := hrq
                  replace HT := Hid.mk (HT.out.put htq (fun i hi => ⟨by rw [hi]; simp, by rw [hi]; exact hlo1⟩))
                  clear hrq htq
                  refine hK.out _ _ ⟨k0, k1, k2, k3, k4, k5⟩ (fun hHelds1 => ?_)
                  clear hK
                  try simp only [Act.put, List.setIfInBounds_toArray, List.set_cons_zero, List.set_cons_succ]
                  refine wpAnyH_done (by kernel_rfl) ?_ _
                  refine NoPanic.normal ?_
                  go_wp2_with fail
                  go_meet
                  exact ⟨KA0, KA1, rfl, rfl, HT.out.less (fun g hg => by simp only [List.mem_cons, List.not_mem_nil, or_false] at hg ⊢; rcases hg with h | h | h <;> simp [h]), hr0, hr1, hrB⟩
              · go_simp
                have hbm := below_new (v1) (.cells #[.int .i64 0, .int .i64 0, .int .u64 0] 50)
                have hr1 := heap_alloc_new (v1) (.cells #[.int .i64 0, .int .i64 0, .int .u64 0] 50)
                have hn1 : (v1).heap.size ≠ B := by have := block_lt hrB; omega
                have hlo1 : w.heap.size ≤ (v1).heap.size := HT.out.bl.size
                have hne01 : KA0 < (v1).heap.size := block_lt hr0
                replace HT := Hid.mk (HT.out.own (.cells #[.int .i64 0, .int .i64 0, .int .u64 0] 50))
                replace k0 := cell_later hbm k0
                replace k1 := cell_later hbm k1
                replace k2 := cell_later hbm k2
                replace k3 := cell_later hbm k3
                replace k4 := cell_later hbm k4
                replace k5 := cell_later hbm k5
                replace hrB := block_later hbm hrB
                replace hr0 := block_later hbm hr0
                clear hbm
                refine hK.out _ _ ⟨k0, k1, k2, k3, k4, k5⟩ (fun hHelda2 => ?_)
                clear hK
                try simp only [Act.put, List.setIfInBounds_toArray, List.set_cons_zero, List.set_cons_succ]
                generalize hva2 : (v1).alloc (.cells #[.int .i64 0, .int .i64 0, .int .u64 0] 50) = va2 at *
                generalize hka2 : (v1).heap.size = KA1 at *
                clear hva2 hka2
                refine wpAnyH_ready (rs := [18]) (by kernel_rfl) (by simp) ?_
                refine AllReadyH.cons rfl (fun K hK => ?_) AllReadyH.nil
                · go_simp
                  refine (HB.out _ _ _ _ HT.out).mono ?_
                  rintro e v3 ⟨rfl, hT2, hkp⟩
                  go_wp2_with fail
                  replace k0 := hkp.cell (by simp) k0
                  replace k1 := hkp.cell (by simp) k1
                  replace k2 := hkp.cell (by simp) k2
                  replace k3 := hkp.cell (by simp) k3
                  replace k4 := hkp.cell (by simp) k4
                  replace k5 := hkp.cell (by simp) k5
                  replace hrB := hkp.row (by simp) hrB
                  replace hr0 := hkp.row (by simp) hr0
                  replace hr1 := hkp.row (by simp) hr1
                  replace HT := Hid.mk hT2
                  clear hT2 hkp
                  refine hK.out _ _ ⟨k0, k1, k2, k3, k4, k5⟩ (fun hHeldc3 => ?_)
                  clear hK
                  try simp only [Act.put, List.setIfInBounds_toArray, List.set_cons_zero, List.set_cons_succ]
                  refine wpAnyH_ready (rs := [21]) (by kernel_rfl) (by simp) ?_
                  refine AllReadyH.cons rfl (fun K hK => ?_) AllReadyH.nil
                  refine step_store_seg rfl rfl 50 _ _ rfl KA0 0 _ #[.int .i64 f1, .int .i64 f2, .int .u64 (vw : Nat)] rfl rfl rfl 50 _ hr0 (show 0 + 3 ≤ 3 by decide) info_res (by simp [Value.oneCell']) #[.int .i64 f1, .int .i64 f2, .int .u64 (vw : Nat)] rfl ?_
                  intro ws0 hrq htq
                  replace k0 := TR.turn_cell htq (fun c => hn0 c.symm) k0
                  replace k1 := TR.turn_cell htq (fun c => hn0 c.symm) k1
                  replace k2 := TR.turn_cell htq (fun c => hn0 c.symm) k2
                  replace k3 := TR.turn_cell htq (fun c => hn0 c.symm) k3
                  replace k4 := TR.turn_cell htq (fun c => hn0 c.symm) k4
                  replace k5 := TR.turn_cell htq (fun c => hn0 c.symm) k5
                  replace hrB := block_turn htq hrB (fun c => hn0 c.symm)
                  replace hr1 := block_turn htq hr1 (by omega)
                  replace hr0 := hrq
                  replace HT := Hid.mk (HT.out.put htq (fun i hi => ⟨by rw [hi]; simp, by rw [hi]; exact hlo0⟩))
                  clear hrq htq
                  refine hK.out _ _ ⟨k0, k1, k2, k3, k4, k5⟩ (fun hHelds0 => ?_)
                  clear hK
                  try simp only [Act.put, List.setIfInBounds_toArray, List.set_cons_zero, List.set_cons_succ]
                  refine wpAnyH_ready (rs := [22]) (by kernel_rfl) (by simp) ?_
                  refine AllReadyH.cons rfl (fun K hK => ?_) AllReadyH.nil
                  refine step_store_seg rfl rfl 50 _ _ rfl KA1 0 _ #[.int .i64 f1, .int .i64 f2, .int .u64 (vw : Nat)] rfl rfl rfl 50 _ hr1 (show 0 + 3 ≤ 3 by decide) info_res (by simp [Value.oneCell']) #[.int .i64 f1, .int .i64 f2, .int .u64 (vw : Nat)] rfl ?_
                  intro ws1 hrq htq
                  replace k0 := TR.turn_cell htq (fun c => hn1 c.symm) k0
                  replace k1 := TR.turn_cell htq (fun c => hn1 c.symm) k1
                  replace k2 := TR.turn_cell htq (fun c => hn1 c.symm) k2
                  replace k3 := TR.turn_cell htq (fun c => hn1 c.symm) k3
                  replace k4 := TR.turn_cell htq (fun c => hn1 c.symm) k4
                  replace k5 := TR.turn_cell htq (fun c => hn1 c.symm) k5
                  replace hrB := block_turn htq hrB (fun c => hn1 c.symm)
                  replace hr0 := block_turn htq hr0 (by omega)
                  replace hr1 := hrq
                  replace HT := Hid.mk (HT.out.put htq (fun i hi => ⟨by rw [hi]; simp, by rw [hi]; exact hlo1⟩))
                  clear hrq htq
                  refine hK.out _ _ ⟨k0, k1, k2, k3, k4, k5⟩ (fun hHelds1 => ?_)
                  clear hK
                  try simp only [Act.put, List.setIfInBounds_toArray, List.set_cons_zero, List.set_cons_succ]
                  refine wpAnyH_done (by kernel_rfl) ?_ _
                  refine NoPanic.normal ?_
                  go_wp2_with fail
                  go_meet
                  exact ⟨KA0, KA1, rfl, rfl, HT.out.less (fun g hg => by simp only [List.mem_cons, List.not_mem_nil, or_false] at hg ⊢; rcases hg with h | h | h <;> simp [h]), hr0, hr1, hrB⟩
            · go_simp
              have hbm := below_new (va0) (.cells #[.int .i64 0, .int .i64 0, .int .u64 0] 50)
              have hr1 := heap_alloc_new (va0) (.cells #[.int .i64 0, .int .i64 0, .int .u64 0] 50)
              have hn1 : (va0).heap.size ≠ B := by have := block_lt hrB; omega
              have hlo1 : w.heap.size ≤ (va0).heap.size := HT.out.bl.size
              have hne01 : KA0 < (va0).heap.size := block_lt hr0
              replace HT := Hid.mk (HT.out.own (.cells #[.int .i64 0, .int .i64 0, .int .u64 0] 50))
              replace k0 := cell_later hbm k0
              replace k1 := cell_later hbm k1
              replace k2 := cell_later hbm k2
              replace k3 := cell_later hbm k3
              replace k4 := cell_later hbm k4
              replace k5 := cell_later hbm k5
              replace hrB := block_later hbm hrB
              replace hr0 := block_later hbm hr0
              clear hbm
              refine hK.out _ _ ⟨k0, k1, k2, k3, k4, k5⟩ (fun hHelda1 => ?_)
              clear hK
              try simp only [Act.put, List.setIfInBounds_toArray, List.set_cons_zero, List.set_cons_succ]
              generalize hva1 : (va0).alloc (.cells #[.int .i64 0, .int .i64 0, .int .u64 0] 50) = va1 at *
              generalize hka1 : (va0).heap.size = KA1 at *
              clear hva1 hka1
              refine wpAnyH_ready (rs := [9]) (by kernel_rfl) (by simp) ?_
              refine AllReadyH.cons rfl (fun K hK => ?_) AllReadyH.nil
              · go_simp
                refine (HA.out _ _ _ _ HT.out).mono ?_
                rintro e v2 ⟨rfl, hT2, hkp⟩
                go_wp2_with fail
                replace k0 := hkp.cell (by simp) k0
                replace k1 := hkp.cell (by simp) k1
                replace k2 := hkp.cell (by simp) k2
                replace k3 := hkp.cell (by simp) k3
                replace k4 := hkp.cell (by simp) k4
                replace k5 := hkp.cell (by simp) k5
                replace hrB := hkp.row (by simp) hrB
                replace hr0 := hkp.row (by simp) hr0
                replace hr1 := hkp.row (by simp) hr1
                replace HT := Hid.mk hT2
                clear hT2 hkp
                refine hK.out _ _ ⟨k0, k1, k2, k3, k4, k5⟩ (fun hHeldc2 => ?_)
                clear hK
                try simp only [Act.put, List.setIfInBounds_toArray, List.set_cons_zero, List.set_cons_succ]
                refine wpAnyH_ready (rs := [18]) (by kernel_rfl) (by simp) ?_
                refine AllReadyH.cons rfl (fun K hK => ?_) AllReadyH.nil
                · go_simp
                  refine (HB.out _ _ _ _ HT.out).mono ?_
                  rintro e v3 ⟨rfl, hT2, hkp⟩
                  go_wp2_with fail
                  replace k0 := hkp.cell (by simp) k0
                  replace k1 := hkp.cell (by simp) k1
                  replace k2 := hkp.cell (by simp) k2
                  replace k3 := hkp.cell (by simp) k3
                  replace k4 := hkp.cell (by simp) k4
                  replace k5 := hkp.cell (by simp) k5
                  replace hrB := hkp.row (by simp) hrB
                  replace hr0 := hkp.row (by simp) hr0
                  replace hr1 := hkp.row (by simp) hr1
                  replace HT := Hid.mk hT2
                  clear hT2 hkp
                  refine hK.out _ _ ⟨k0, k1, k2, k3, k4, k5⟩ (fun hHeldc3 => ?_)
                  clear hK
                  try simp only [Act.put, List.setIfInBounds_toArray, List.set_cons_zero, List.set_cons_succ]
                  refine wpAnyH_ready (rs := [21]) (by kernel_rfl) (by simp) ?_
                  refine AllReadyH.cons rfl (fun K hK => ?_) AllReadyH.nil
                  refine step_store_seg rfl rfl 50 _ _ rfl KA0 0 _ #[.int .i64 f1, .int .i64 f2, .int .u64 (vw : Nat)] rfl rfl rfl 50 _ hr0 (show 0 + 3 ≤ 3 by decide) info_res (by simp [Value.oneCell']) #[.int .i64 f1, .int .i64 f2, .int .u64 (vw : Nat)] rfl ?_
                  intro ws0 hrq htq
                  replace k0 := TR.turn_cell htq (fun c => hn0 c.symm) k0
                  replace k1 := TR.turn_cell htq (fun c => hn0 c.symm) k1
                  replace k2 := TR.turn_cell htq (fun c => hn0 c.symm) k2
                  replace k3 := TR.turn_cell htq (fun c => hn0 c.symm) k3
                  replace k4 := TR.turn_cell htq (fun c => hn0 c.symm) k4
                  replace k5 := TR.turn_cell htq (fun c => hn0 c.symm) k5
                  replace hrB := block_turn htq hrB (fun c => hn0 c.symm)
                  replace hr1 := block_turn htq hr1 (by omega)
                  replace hr0 := hrq
                  replace HT := Hid.mk (HT.out.put htq (fun i hi => ⟨by rw [hi]; simp, by rw [hi]; exact hlo0⟩))
                  clear hrq htq
                  refine hK.out _ _ ⟨k0, k1, k2, k3, k4, k5⟩ (fun hHelds0 => ?_)
                  clear hK
                  try simp only [Act.put, List.setIfInBounds_toArray, List.set_cons_zero, List.set_cons_succ]
                  refine wpAnyH_ready (rs := [22]) (by kernel_rfl) (by simp) ?_
                  refine AllReadyH.cons rfl (fun K hK => ?_) AllReadyH.nil
                  refine step_store_seg rfl rfl 50 _ _ rfl KA1 0 _ #[.int .i64 f1, .int .i64 f2, .int .u64 (vw : Nat)] rfl rfl rfl 50 _ hr1 (show 0 + 3 ≤ 3 by decide) info_res (by simp [Value.oneCell']) #[.int .i64 f1, .int .i64 f2, .int .u64 (vw : Nat)] rfl ?_
                  intro ws1 hrq htq
                  replace k0 := TR.turn_cell htq (fun c => hn1 c.symm) k0
                  replace k1 := TR.turn_cell htq (fun c => hn1 c.symm) k1
                  replace k2 := TR.turn_cell htq (fun c => hn1 c.symm) k2
                  replace k3 := TR.turn_cell htq (fun c => hn1 c.symm) k3
                  replace k4 := TR.turn_cell htq (fun c => hn1 c.symm) k4
                  replace k5 := TR.turn_cell htq (fun c => hn1 c.symm) k5
                  replace hrB := block_turn htq hrB (fun c => hn1 c.symm)
                  replace hr0 := block_turn htq hr0 (by omega)
                  replace hr1 := hrq
                  replace HT := Hid.mk (HT.out.put htq (fun i hi => ⟨by rw [hi]; simp, by rw [hi]; exact hlo1⟩))
                  clear hrq htq
                  refine hK.out _ _ ⟨k0, k1, k2, k3, k4, k5⟩ (fun hHelds1 => ?_)
                  clear hK
                  try simp only [Act.put, List.setIfInBounds_toArray, List.set_cons_zero, List.set_cons_succ]
                  refine wpAnyH_done (by kernel_rfl) ?_ _
                  refine NoPanic.normal ?_
                  go_wp2_with fail
                  go_meet
                  exact ⟨KA0, KA1, rfl, rfl, HT.out.less (fun g hg => by simp only [List.mem_cons, List.not_mem_nil, or_false] at hg ⊢; rcases hg with h | h | h <;> simp [h]), hr0, hr1, hrB⟩
          · go_simp
            have hbm := below_new (wd8) (.cells #[.int .i64 0, .int .i64 0, .int .u64 0] 50)
            have hr1 := heap_alloc_new (wd8) (.cells #[.int .i64 0, .int .i64 0, .int .u64 0] 50)
            have hn1 : (wd8).heap.size ≠ B := by have := block_lt hrB; omega
            have hlo1 : w.heap.size ≤ (wd8).heap.size := HT.out.bl.size
            replace HT := Hid.mk (HT.out.own (.cells #[.int .i64 0, .int .i64 0, .int .u64 0] 50))
            replace k0 := cell_later hbm k0
            replace k1 := cell_later hbm k1
            replace k2 := cell_later hbm k2
            replace k3 := cell_later hbm k3
            replace k4 := cell_later hbm k4
            replace k5 := cell_later hbm k5
            replace hrB := block_later hbm hrB
            clear hbm
            refine hK.out _ _ ⟨k0, k1, k2, k3, k4, k5⟩ (fun hHelda0 => ?_)
            clear hK
            try simp only [Act.put, List.setIfInBounds_toArray, List.set_cons_zero, List.set_cons_succ]
            generalize hva0 : (wd8).alloc (.cells #[.int .i64 0, .int .i64 0, .int .u64 0] 50) = va0 at *
            generalize hka0 : (wd8).heap.size = KA1 at *
            clear hva0 hka0
            refine wpAnyH_ready (rs := [9, 19]) (by kernel_rfl) (by simp) ?_
            refine AllReadyH.cons rfl (fun K hK => ?_) (AllReadyH.cons rfl (fun K hK => ?_) AllReadyH.nil)
            · go_simp
              refine (HA.out _ _ _ _ HT.out).mono ?_
              rintro e v1 ⟨rfl, hT2, hkp⟩
              go_wp2_with fail
              replace k0 := hkp.cell (by simp) k0
              replace k1 := hkp.cell (by simp) k1
              replace k2 := hkp.cell (by simp) k2
              replace k3 := hkp.cell (by simp) k3
              replace k4 := hkp.cell (by simp) k4
              replace k5 := hkp.cell (by simp) k5
              replace hrB := hkp.row (by simp) hrB
              replace hr1 := hkp.row (by simp) hr1
              replace HT := Hid.mk hT2
              clear hT2 hkp
              refine hK.out _ _ ⟨k0, k1, k2, k3, k4, k5⟩ (fun hHeldc1 => ?_)
              clear hK
              try simp only [Act.put, List.setIfInBounds_toArray, List.set_cons_zero, List.set_cons_succ]
              refine wpAnyH_ready (rs := [18, 19]) (by kernel_rfl) (by simp) ?_
              refine AllReadyH.cons rfl (fun K hK => ?_) (AllReadyH.cons rfl (fun K hK => ?_) AllReadyH.nil)
              · go_simp
                refine (HB.out _ _ _ _ HT.out).mono ?_
                rintro e v2 ⟨rfl, hT2, hkp⟩
                go_wp2_with fail
                replace k0 := hkp.cell (by simp) k0
                replace k1 := hkp.cell (by simp) k1
                replace k2 := hkp.cell (by simp) k2
                replace k3 := hkp.cell (by simp) k3
                replace k4 := hkp.cell (by simp) k4
                replace k5 := hkp.cell (by simp) k5
                replace hrB := hkp.row (by simp) hrB
                replace hr1 := hkp.row (by simp) hr1
                replace HT := Hid.mk hT2
                clear hT2 hkp
                refine hK.out _ _ ⟨k0, k1, k2, k3, k4, k5⟩ (fun hHeldc2 => ?_)
                clear hK
                try simp only [Act.put, List.setIfInBounds_toArray, List.set_cons_zero, List.set_cons_succ]
                refine wpAnyH_ready (rs := [19]) (by kernel_rfl) (by simp) ?_
                refine AllReadyH.cons rfl (fun K hK => ?_) AllReadyH.nil
                · go_simp
                  have hbm := below_new (v2) (.cells #[.int .i64 0, .int .i64 0, .int .u64 0] 50)
                  have hr0 := heap_alloc_new (v2) (.cells #[.int .i64 0, .int .i64 0, .int .u64 0] 50)
                  have hn0 : (v2).heap.size ≠ B := by have := block_lt hrB; omega
                  have hlo0 : w.heap.size ≤ (v2).heap.size := HT.out.bl.size
                  have hne10 : KA1 < (v2).heap.size := block_lt hr1
                  replace HT := Hid.mk (HT.out.own (.cells #[.int .i64 0, .int .i64 0, .int .u64 0] 50))
                  replace k0 := cell_later hbm k0
                  replace k1 := cell_later hbm k1
                  replace k2 := cell_later hbm k2
                  replace k3 := cell_later hbm k3
                  replace k4 := cell_later hbm k4
                  replace k5 := cell_later hbm k5
                  replace hrB := block_later hbm hrB
                  replace hr1 := block_later hbm hr1
                  clear hbm
                  refine hK.out _ _ ⟨k0, k1, k2, k3, k4, k5⟩ (fun hHelda3 => ?_)
                  clear hK
                  try simp only [Act.put, List.setIfInBounds_toArray, List.set_cons_zero, List.set_cons_succ]
                  generalize hva3 : (v2).alloc (.cells #[.int .i64 0, .int .i64 0, .int .u64 0] 50) = va3 at *
                  generalize hka3 : (v2).heap.size = KA0 at *
                  clear hva3 hka3
                  refine wpAnyH_ready (rs := [21]) (by kernel_rfl) (by simp) ?_
                  refine AllReadyH.cons rfl (fun K hK => ?_) AllReadyH.nil
                  refine step_store_seg rfl rfl 50 _ _ rfl KA0 0 _ #[.int .i64 f1, .int .i64 f2, .int .u64 (vw : Nat)] rfl rfl rfl 50 _ hr0 (show 0 + 3 ≤ 3 by decide) info_res (by simp [Value.oneCell']) #[.int .i64 f1, .int .i64 f2, .int .u64 (vw : Nat)] rfl ?_
                  intro ws0 hrq htq
                  replace k0 := TR.turn_cell htq (fun c => hn0 c.symm) k0
                  replace k1 := TR.turn_cell htq (fun c => hn0 c.symm) k1
                  replace k2 := TR.turn_cell htq (fun c => hn0 c.symm) k2
                  replace k3 := TR.turn_cell htq (fun c => hn0 c.symm) k3
                  replace k4 := TR.turn_cell htq (fun c => hn0 c.symm) k4
                  replace k5 := TR.turn_cell htq (fun c => hn0 c.symm) k5
                  replace hrB := block_turn htq hrB (fun c => hn0 c.symm)
                  replace hr1 := block_turn htq hr1 (by omega)
                  replace hr0 := hrq
                  replace HT := Hid.mk (HT.out.put htq (fun i hi => ⟨by rw [hi]; simp, by rw [hi]; exact hlo0⟩))
                  clear hrq htq
                  refine hK.out _ _ ⟨k0, k1, k2, k3, k4, k5⟩ (fun hHelds0 => ?_)
                  clear hK
                  try simp only [Act.put, List.setIfInBounds_toArray, List.set_cons_zero, List.set_cons_succ]
                  refine wpAnyH_ready (rs := [22]) (by kernel_rfl) (by simp) ?_
                  refine AllReadyH.cons rfl (fun K hK => ?_) AllReadyH.nil
                  refine step_store_seg rfl rfl 50 _ _ rfl KA1 0 _ #[.int .i64 f1, .int .i64 f2, .int .u64 (vw : Nat)] rfl rfl rfl 50 _ hr1 (show 0 + 3 ≤ 3 by decide) info_res (by simp [Value.oneCell']) #[.int .i64 f1, .int .i64 f2, .int .u64 (vw : Nat)] rfl ?_
                  intro ws1 hrq htq
                  replace k0 := TR.turn_cell htq (fun c => hn1 c.symm) k0
                  replace k1 := TR.turn_cell htq (fun c => hn1 c.symm) k1
                  replace k2 := TR.turn_cell htq (fun c => hn1 c.symm) k2
                  replace k3 := TR.turn_cell htq (fun c => hn1 c.symm) k3
                  replace k4 := TR.turn_cell htq (fun c => hn1 c.symm) k4
                  replace k5 := TR.turn_cell htq (fun c => hn1 c.symm) k5
                  replace hrB := block_turn htq hrB (fun c => hn1 c.symm)
                  replace hr0 := block_turn htq hr0 (by omega)
                  replace hr1 := hrq
                  replace HT := Hid.mk (HT.out.put htq (fun i hi => ⟨by rw [hi]; simp, by rw [hi]; exact hlo1⟩))
                  clear hrq htq
                  refine hK.out _ _ ⟨k0, k1, k2, k3, k4, k5⟩ (fun hHelds1 => ?_)
                  clear hK
                  try simp only [Act.put, List.setIfInBounds_toArray, List.set_cons_zero, List.set_cons_succ]
                  refine wpAnyH_done (by kernel_rfl) ?_ _
                  refine NoPanic.normal ?_
                  go_wp2_with fail
                  go_meet
                  exact ⟨KA0, KA1, rfl, rfl, HT.out.less (fun g hg => by simp only [List.mem_cons, List.not_mem_nil, or_false] at hg ⊢; rcases hg with h | h | h <;> simp [h]), hr0, hr1, hrB⟩
              · go_simp
                have hbm := below_new (v1) (.cells #[.int .i64 0, .int .i64 0, .int .u64 0] 50)
                have hr0 := heap_alloc_new (v1) (.cells #[.int .i64 0, .int .i64 0, .int .u64 0] 50)
                have hn0 : (v1).heap.size ≠ B := by have := block_lt hrB; omega
                have hlo0 : w.heap.size ≤ (v1).heap.size := HT.out.bl.size
                have hne10 : KA1 < (v1).heap.size := block_lt hr1
                replace HT := Hid.mk (HT.out.own (.cells #[.int .i64 0, .int .i64 0, .int .u64 0] 50))
                replace k0 := cell_later hbm k0
                replace k1 := cell_later hbm k1
                replace k2 := cell_later hbm k2
                replace k3 := cell_later hbm k3
                replace k4 := cell_later hbm k4
                replace k5 := cell_later hbm k5
                replace hrB := block_later hbm hrB
                replace hr1 := block_later hbm hr1
                clear hbm
                refine hK.out _ _ ⟨k0, k1, k2, k3, k4, k5⟩ (fun hHelda2 => ?_)
                clear hK
                try simp only [Act.put, List.setIfInBounds_toArray, List.set_cons_zero, List.set_cons_succ]
                generalize hva2 : (v1).alloc (.cells #[.int .i64 0, .int .i64 0, .int .u64 0] 50) = va2 at *
                generalize hka2 : (v1).heap.size = KA0 at *
                clear hva2 hka2
                refine wpAnyH_ready (rs := [18]) (by kernel_rfl) (by simp) ?_
                refine AllReadyH.cons rfl (fun K hK => ?_) AllReadyH.nil
                · go_simp
                  refine (HB.out _ _ _ _ HT.out).mono ?_
                  rintro e v3 ⟨rfl, hT2, hkp⟩
                  go_wp2_with fail
                  replace k0 := hkp.cell (by simp) k0
                  replace k1 := hkp.cell (by simp) k1
                  replace k2 := hkp.cell (by simp) k2
                  replace k3 := hkp.cell (by simp) k3
                  replace k4 := hkp.cell (by simp) k4
                  replace k5 := hkp.cell (by simp) k5
                  replace hrB := hkp.row (by simp) hrB
                  replace hr1 := hkp.row (by simp) hr1
                  replace hr0 := hkp.row (by simp) hr0
                  replace HT := Hid.mk hT2
                  clear hT2 hkp
                  refine hK.out _ _ ⟨k0, k1, k2, k3, k4, k5⟩ (fun hHeldc3 => ?_)
                  clear hK
                  try simp only [Act.put, List.setIfInBounds_toArray, List.set_cons_zero, List.set_cons_succ]
                  refine wpAnyH_ready (rs := [21]) (by kernel_rfl) (by simp) ?_
                  refine AllReadyH.cons rfl (fun K hK => ?_) AllReadyH.nil
                  refine step_store_seg rfl rfl 50 _ _ rfl KA0 0 _ #[.int .i64 f1, .int .i64 f2, .int .u64 (vw : Nat)] rfl rfl rfl 50 _ hr0 (show 0 + 3 ≤ 3 by decide) info_res (by simp [Value.oneCell']) #[.int .i64 f1, .int .i64 f2, .int .u64 (vw : Nat)] rfl ?_
                  intro ws0 hrq htq
                  replace k0 := TR.turn_cell htq (fun c => hn0 c.symm) k0
                  replace k1 := TR.turn_cell htq (fun c => hn0 c.symm) k1
                  replace k2 := TR.turn_cell htq (fun c => hn0 c.symm) k2
                  replace k3 := TR.turn_cell htq (fun c => hn0 c.symm) k3
                  replace k4 := TR.turn_cell htq (fun c => hn0 c.symm) k4
                  replace k5 := TR.turn_cell htq (fun c => hn0 c.symm) k5
                  replace hrB := block_turn htq hrB (fun c => hn0 c.symm)
                  replace hr1 := block_turn htq hr1 (by omega)
                  replace hr0 := hrq
                  replace HT := Hid.mk (HT.out.put htq (fun i hi => ⟨by rw [hi]; simp, by rw [hi]; exact hlo0⟩))
                  clear hrq htq
                  refine hK.out _ _ ⟨k0, k1, k2, k3, k4, k5⟩ (fun hHelds0 => ?_)
                  clear hK
                  try simp only [Act.put, List.setIfInBounds_toArray, List.set_cons_zero, List.set_cons_succ]
                  refine wpAnyH_ready (rs := [22]) (by kernel_rfl) (by simp) ?_
                  refine AllReadyH.cons rfl (fun K hK => ?_) AllReadyH.nil
                  refine step_store_seg rfl rfl 50 _ _ rfl KA1 0 _ #[.int .i64 f1, .int .i64 f2, .int .u64 (vw : Nat)] rfl rfl rfl 50 _ hr1 (show 0 + 3 ≤ 3 by decide) info_res (by simp [Value.oneCell']) #[.int .i64 f1, .int .i64 f2, .int .u64 (vw : Nat)] rfl ?_
                  intro ws1 hrq htq
                  replace k0 := TR.turn_cell htq (fun c => hn1 c.symm) k0
                  replace k1 := TR.turn_cell htq (fun c => hn1 c.symm) k1
                  replace k2 := TR.turn_cell htq (fun c => hn1 c.symm) k2
                  replace k3 := TR.turn_cell htq (fun c => hn1 c.symm) k3
                  replace k4 := TR.turn_cell htq (fun c => hn1 c.symm) k4
                  replace k5 := TR.turn_cell htq (fun c => hn1 c.symm) k5
                  replace hrB := block_turn htq hrB (fun c => hn1 c.symm)
                  replace hr0 := block_turn htq hr0 (by omega)
                  replace hr1 := hrq
                  replace HT := Hid.mk (HT.out.put htq (fun i hi => ⟨by rw [hi]; simp, by rw [hi]; exact hlo1⟩))
                  clear hrq htq
                  refine hK.out _ _ ⟨k0, k1, k2, k3, k4, k5⟩ (fun hHelds1 => ?_)
                  clear hK
                  try simp only [Act.put, List.setIfInBounds_toArray, List.set_cons_zero, List.set_cons_succ]
                  refine wpAnyH_done (by kernel_rfl) ?_ _
                  refine NoPanic.normal ?_
                  go_wp2_with fail
                  go_meet
                  exact ⟨KA0, KA1, rfl, rfl, HT.out.less (fun g hg => by simp only [List.mem_cons, List.not_mem_nil, or_false] at hg ⊢; rcases hg with h | h | h <;> simp [h]), hr0, hr1, hrB⟩
            · go_simp
              have hbm := below_new (va0) (.cells #[.int .i64 0, .int .i64 0, .int .u64 0] 50)
              have hr0 := heap_alloc_new (va0) (.cells #[.int .i64 0, .int .i64 0, .int .u64 0] 50)
              have hn0 : (va0).heap.size ≠ B := by have := block_lt hrB; omega
              have hlo0 : w.heap.size ≤ (va0).heap.size := HT.out.bl.size
              have hne10 : KA1 < (va0).heap.size := block_lt hr1
              replace HT := Hid.mk (HT.out.own (.cells #[.int .i64 0, .int .i64 0, .int .u64 0] 50))
              replace k0 := cell_later hbm k0
              replace k1 := cell_later hbm k1
              replace k2 := cell_later hbm k2
              replace k3 := cell_later hbm k3
              replace k4 := cell_later hbm k4
              replace k5 := cell_later hbm k5
              replace hrB := block_later hbm hrB
              replace hr1 := block_later hbm hr1
              clear hbm
              refine hK.out _ _ ⟨k0, k1, k2, k3, k4, k5⟩ (fun hHelda1 => ?_)
              clear hK
              try simp only [Act.put, List.setIfInBounds_toArray, List.set_cons_zero, List.set_cons_succ]
              generalize hva1 : (va0).alloc (.cells #[.int .i64 0, .int .i64 0, .int .u64 0] 50) = va1 at *
              generalize hka1 : (va0).heap.size = KA0 at *
              clear hva1 hka1
              refine wpAnyH_ready (rs := [9]) (by kernel_rfl) (by simp) ?_
              refine AllReadyH.cons rfl (fun K hK => ?_) AllReadyH.nil
              · go_simp
                refine (HA.out _ _ _ _ HT.out).mono ?_
                rintro e v2 ⟨rfl, hT2, hkp⟩
                go_wp2_with fail
                replace k0 := hkp.cell (by simp) k0
                replace k1 := hkp.cell (by simp) k1
                replace k2 := hkp.cell (by simp) k2
                replace k3 := hkp.cell (by simp) k3
                replace k4 := hkp.cell (by simp) k4
                replace k5 := hkp.cell (by simp) k5
                replace hrB := hkp.row (by simp) hrB
                replace hr1 := hkp.row (by simp) hr1
                replace hr0 := hkp.row (by simp) hr0
                replace HT := Hid.mk hT2
                clear hT2 hkp
                refine hK.out _ _ ⟨k0, k1, k2, k3, k4, k5⟩ (fun hHeldc2 => ?_)
                clear hK
                try simp only [Act.put, List.setIfInBounds_toArray, List.set_cons_zero, List.set_cons_succ]
                refine wpAnyH_ready (rs := [18]) (by kernel_rfl) (by simp) ?_
                refine AllReadyH.cons rfl (fun K hK => ?_) AllReadyH.nil
                · go_simp
                  refine (HB.out _ _ _ _ HT.out).mono ?_
                  rintro e v3 ⟨rfl, hT2, hkp⟩
                  go_wp2_with fail
                  replace k0 := hkp.cell (by simp) k0
                  replace k1 := hkp.cell (by simp) k1
                  replace k2 := hkp.cell (by simp) k2
                  replace k3 := hkp.cell (by simp) k3
                  replace k4 := hkp.cell (by simp) k4
                  replace k5 := hkp.cell (by simp) k5
                  replace hrB := hkp.row (by simp) hrB
                  replace hr1 := hkp.row (by simp) hr1
                  replace hr0 := hkp.row (by simp) hr0
                  replace HT := Hid.mk hT2
                  clear hT2 hkp
                  refine hK.out _ _ ⟨k0, k1, k2, k3, k4, k5⟩ (fun hHeldc3 => ?_)
                  clear hK
                  try simp only [Act.put, List.setIfInBounds_toArray, List.set_cons_zero, List.set_cons_succ]
                  refine wpAnyH_ready (rs := [21]) (by kernel_rfl) (by simp) ?_
                  refine AllReadyH.cons rfl (fun K hK => ?_) AllReadyH.nil
                  refine step_store_seg rfl rfl 50 _ _ rfl KA0 0 _ #[.int .i64 f1, .int .i64 f2, .int .u64 (vw : Nat)] rfl rfl rfl 50 _ hr0 (show 0 + 3 ≤ 3 by decide) info_res (by simp [Value.oneCell']) #[.int .i64 f1, .int .i64 f2, .int .u64 (vw : Nat)] rfl ?_
                  intro ws0 hrq htq
                  replace k0 := TR.turn_cell htq (fun c => hn0 c.symm) k0
                  replace k1 := TR.turn_cell htq (fun c => hn0 c.symm) k1
                  replace k2 := TR.turn_cell htq (fun c => hn0 c.symm) k2
                  replace k3 := TR.turn_cell htq (fun c => hn0 c.symm) k3
                  replace k4 := TR.turn_cell htq (fun c => hn0 c.symm) k4
                  replace k5 := TR.turn_cell htq (fun c => hn0 c.symm) k5
                  replace hrB := block_turn htq hrB (fun c => hn0 c.symm)
                  replace hr1 := block_turn htq hr1 (by omega)
                  replace hr0 := hrq
                  replace HT := Hid.mk (HT.out.put htq (fun i hi => ⟨by rw [hi]; simp, by rw [hi]; exact hlo0⟩))
                  clear hrq htq
                  refine hK.out _ _ ⟨k0, k1, k2, k3, k4, k5⟩ (fun hHelds0 => ?_)
                  clear hK
                  try simp only [Act.put, List.setIfInBounds_toArray, List.set_cons_zero, List.set_cons_succ]
                  refine wpAnyH_ready (rs := [22]) (by kernel_rfl) (by simp) ?_
                  refine AllReadyH.cons rfl (fun K hK => ?_) AllReadyH.nil
                  refine step_store_seg rfl rfl 50 _ _ rfl KA1 0 _ #[.int .i64 f1, .int .i64 f2, .int .u64 (vw : Nat)] rfl rfl rfl 50 _ hr1 (show 0 + 3 ≤ 3 by decide) info_res (by simp [Value.oneCell']) #[.int .i64 f1, .int .i64 f2, .int .u64 (vw : Nat)] rfl ?_
                  intro ws1 hrq htq
                  replace k0 := TR.turn_cell htq (fun c => hn1 c.symm) k0
                  replace k1 := TR.turn_cell htq (fun c => hn1 c.symm) k1
                  replace k2 := TR.turn_cell htq (fun c => hn1 c.symm) k2
                  replace k3 := TR.turn_cell htq (fun c => hn1 c.symm) k3
                  replace k4 := TR.turn_cell htq (fun c => hn1 c.symm) k4
                  replace k5 := TR.turn_cell htq (fun c => hn1 c.symm) k5
                  replace hrB := block_turn htq hrB (fun c => hn1 c.symm)
                  replace hr0 := block_turn htq hr0 (by omega)
                  replace hr1 := hrq
                  replace HT := Hid.mk (HT.out.put htq (fun i hi => ⟨by rw [hi]; simp, by rw [hi]; exact hlo1⟩))
                  clear hrq htq
                  refine hK.out _ _ ⟨k0, k1, k2, k3, k4, k5⟩ (fun hHelds1 => ?_)
                  clear hK
                  try simp only [Act.put, List.setIfInBounds_toArray, List.set_cons_zero, List.set_cons_succ]
                  refine wpAnyH_done (by kernel_rfl) ?_ _
                  refine NoPanic.normal ?_
                  go_wp2_with fail
                  go_meet
                  exact ⟨KA0, KA1, rfl, rfl, HT.out.less (fun g hg => by simp only [List.mem_cons, List.not_mem_nil, or_false] at hg ⊢; rcases hg with h | h | h <;> simp [h]), hr0, hr1, hrB⟩
        case rest =>
          obtain ⟨KA0, KA1, rfl, rfl, hT2, hr0, hr1, hrB2⟩ := hcut
          clear k0 k1 k2 k3 k4 k5 HA HB hrB HT
          have H := Hid.mk (hT2.less (l' := []) (fun g hg => absurd hg List.not_mem_nil))
          obtain ⟨y0, y1, y2⟩ := cells3 hr0
          obtain ⟨z0, z1, z2⟩ := cells3 hr1
          obtain ⟨x0, x1, x2, x3, x4, x5, x6, x7⟩ := cells8o hrB2
          clear hT2 hr0 hr1 hrB2
          by_cases hso : so = 2
          · subst hso
            cases hsd : sndB 1048576 t1
            · go_wp2_with fail
              refine H.out.sound.mono ?_
              rintro e wt1 ⟨rfl, hbt⟩
              rw [hsd]
              have HBB := Hid.mk (below_tr H.out.bl hbt)
              clear hbt hsd y0 y1 y2 z0 z1 z2 x0 x1 x2 x3 x4 x5 x6 x7
              go_wp2
              go_ret
              exact ⟨rfl, HBB.out⟩
            · have HE := Hid.mk (HEA.out hsd)
              go_wp2_with fail
              refine H.out.sound.mono ?_
              rintro e wt1 ⟨rfl, hbt⟩
              rw [hsd]
              replace H := Hid.mk (H.out.later hbt)
              clear hbt hsd y0 y1 y2 z0 z1 z2 x0 x1 x2 x3 x4 x5 x6 x7
              go_wp2_with fail
              refine H.out.sound.mono ?_
              rintro e wt1 ⟨rfl, hbt⟩
              rw [HE.out.snd]
              replace H := Hid.mk (H.out.later hbt)
              clear hbt
              go_wp2_with fail
              refine H.out.memL.mono ?_
              rintro e wt2 ⟨rfl, et⟩
              obtain rfl : wt1 = wt2 := et
              go_wp2_with fail
              refine H.out.memR.mono ?_
              rintro e wt2 ⟨rfl, et⟩
              obtain rfl : wt1 = wt2 := et
              go_wp2_with fail
              refine (H.out.same HE.out.f).mono ?_
              rintro e wt2 ⟨rfl, hbt⟩
              replace H := Hid.mk (H.out.later hbt)
              clear hbt
              go_wp2
              exact ⟨⟨i + 1, _, _, _, _, by have := HLT.out; omega, by go_num, by omega, by omega, H.out, HE.out⟩, by have := HLT.out; simp [RowKit.intOf]; omega⟩
          · have HE := Hid.mk (HEA.out (HEL.out hso))
            go_wp2_with fail
            refine H.out.sound.mono ?_
            rintro e wt1 ⟨rfl, hbt⟩
            rw [HE.out.snd]
            replace H := Hid.mk (H.out.later hbt)
            clear hbt y0 y1 y2 z0 z1 z2 x0 x1 x2 x3 x4 x5 x6 x7
            go_wp2_with fail
            refine H.out.memL.mono ?_
            rintro e wt2 ⟨rfl, et⟩
            obtain rfl : wt1 = wt2 := et
            go_wp2_with fail
            refine H.out.memR.mono ?_
            rintro e wt2 ⟨rfl, et⟩
            obtain rfl : wt1 = wt2 := et
            go_wp2_with fail
            refine (H.out.same HE.out.f).mono ?_
            rintro e wt2 ⟨rfl, hbt⟩
            replace H := Hid.mk (H.out.later hbt)
            clear hbt
            go_wp2
            exact ⟨⟨i + 1, _, _, _, _, by have := HLT.out; omega, by go_num, by omega, by omega, H.out, HE.out⟩, by have := HLT.out; simp [RowKit.intOf]; omega⟩
      by_cases h2 : kd = 2
      · subst h2
        go_wp2_with fail
        refine (H.out.left (fun X h => guess_c h va hva ⟨hf, hl, hk⟩)).mono ?_
        rintro e w9 ⟨rfl, hT, -⟩
        have H9 := Hid.mk hT
        replace HE := Hid.mk (HE.out.guess H.out.wfm va ⟨hf, hl, hk⟩)
        replace H := H9
        clear hT H9 x0 x1 x2 x3 x4 x5 x6 x7 hrB HX
        go_wp2_with fail
        refine H.out.sound.mono ?_
        rintro e wt1 ⟨rfl, hbt⟩
        rw [HE.out.snd]
        replace H := Hid.mk (H.out.later hbt)
        clear hbt
        go_wp2_with fail
        refine H.out.memL.mono ?_
        rintro e wt2 ⟨rfl, et⟩
        obtain rfl : wt1 = wt2 := et
        go_wp2_with fail
        refine H.out.memR.mono ?_
        rintro e wt2 ⟨rfl, et⟩
        obtain rfl : wt1 = wt2 := et
        go_wp2_with fail
        refine (H.out.same HE.out.f).mono ?_
        rintro e wt2 ⟨rfl, hbt⟩
        replace H := Hid.mk (H.out.later hbt)
        clear hbt
        go_wp2
        exact ⟨⟨i + 1, _, _, _, _, by have := HLT.out; omega, by go_num, by omega, by omega, H.out, HE.out⟩, by have := HLT.out; simp [RowKit.intOf]; omega⟩
      by_cases h4 : kd = 4
      · subst h4
        go_wp2_with fail
        refine (H.out.left (fun X h => evict_c h nn)).mono ?_
        rintro e w9 ⟨rfl, hT, -⟩
        have H9 := Hid.mk hT
        replace HE := Hid.mk (HE.out.evict nn)
        replace H := H9
        clear hT H9 x0 x1 x2 x3 x4 x5 x6 x7 hrB HX
        go_wp2_with fail
        refine H.out.sound.mono ?_
        rintro e wt1 ⟨rfl, hbt⟩
        rw [HE.out.snd]
        replace H := Hid.mk (H.out.later hbt)
        clear hbt
        go_wp2_with fail
        refine H.out.memL.mono ?_
        rintro e wt2 ⟨rfl, et⟩
        obtain rfl : wt1 = wt2 := et
        go_wp2_with fail
        refine H.out.memR.mono ?_
        rintro e wt2 ⟨rfl, et⟩
        obtain rfl : wt1 = wt2 := et
        go_wp2_with fail
        refine (H.out.same HE.out.f).mono ?_
        rintro e wt2 ⟨rfl, hbt⟩
        replace H := Hid.mk (H.out.later hbt)
        clear hbt
        go_wp2
        exact ⟨⟨i + 1, _, _, _, _, by have := HLT.out; omega, by go_num, by omega, by omega, H.out, HE.out⟩, by have := HLT.out; simp [RowKit.intOf]; omega⟩
      by_cases h5 : kd = 5
      · subst h5
        go_wp2_with fail
        refine (H.out.left (fun X h => lose_c h nn)).mono ?_
        rintro e w9 ⟨rfl, hT, -⟩
        have H9 := Hid.mk hT
        replace HE := Hid.mk (HE.out.lose nn)
        replace H := H9
        clear hT H9 x0 x1 x2 x3 x4 x5 x6 x7 hrB HX
        go_wp2_with fail
        refine H.out.sound.mono ?_
        rintro e wt1 ⟨rfl, hbt⟩
        rw [HE.out.snd]
        replace H := Hid.mk (H.out.later hbt)
        clear hbt
        go_wp2_with fail
        refine H.out.memL.mono ?_
        rintro e wt2 ⟨rfl, et⟩
        obtain rfl : wt1 = wt2 := et
        go_wp2_with fail
        refine H.out.memR.mono ?_
        rintro e wt2 ⟨rfl, et⟩
        obtain rfl : wt1 = wt2 := et
        go_wp2_with fail
        refine (H.out.same HE.out.f).mono ?_
        rintro e wt2 ⟨rfl, hbt⟩
        replace H := Hid.mk (H.out.later hbt)
        clear hbt
        go_wp2
        exact ⟨⟨i + 1, _, _, _, _, by have := HLT.out; omega, by go_num, by omega, by omega, H.out, HE.out⟩, by have := HLT.out; simp [RowKit.intOf]; omega⟩
      by_cases h6 : kd = 6
      · subst h6
        go_wp2_with fail
        refine (H.out.left (fun X h => flushVa_c h nn va hva)).mono ?_
        rintro e w9 ⟨rfl, hT, -⟩
        have H9 := Hid.mk hT
        replace HE := Hid.mk (HE.out.flush nn va)
        replace H := H9
        clear hT H9 x0 x1 x2 x3 x4 x5 x6 x7 hrB HX
        go_wp2_with fail
        refine H.out.sound.mono ?_
        rintro e wt1 ⟨rfl, hbt⟩
        rw [HE.out.snd]
        replace H := Hid.mk (H.out.later hbt)
        clear hbt
        go_wp2_with fail
        refine H.out.memL.mono ?_
        rintro e wt2 ⟨rfl, et⟩
        obtain rfl : wt1 = wt2 := et
        go_wp2_with fail
        refine H.out.memR.mono ?_
        rintro e wt2 ⟨rfl, et⟩
        obtain rfl : wt1 = wt2 := et
        go_wp2_with fail
        refine (H.out.same HE.out.f).mono ?_
        rintro e wt2 ⟨rfl, hbt⟩
        replace H := Hid.mk (H.out.later hbt)
        clear hbt
        go_wp2
        exact ⟨⟨i + 1, _, _, _, _, by have := HLT.out; omega, by go_num, by omega, by omega, H.out, HE.out⟩, by have := HLT.out; simp [RowKit.intOf]; omega⟩
      clear x1 x2 x3 x4 x5 x6 x7 hrB HX
      go_wp2_with fail
      refine H.out.sound.mono ?_
      rintro e wt1 ⟨rfl, hbt⟩
      rw [HE.out.snd]
      replace H := Hid.mk (H.out.later hbt)
      clear hbt
      go_wp2_with fail
      refine H.out.memL.mono ?_
      rintro e wt2 ⟨rfl, et⟩
      obtain rfl : wt1 = wt2 := et
      go_wp2_with fail
      refine H.out.memR.mono ?_
      rintro e wt2 ⟨rfl, et⟩
      obtain rfl : wt1 = wt2 := et
      go_wp2_with fail
      refine (H.out.same HE.out.f).mono ?_
      rintro e wt2 ⟨rfl, hbt⟩
      replace H := Hid.mk (H.out.later hbt)
      clear hbt
      go_wp2
      exact ⟨⟨i + 1, _, _, _, _, by have := HLT.out; omega, by go_num, by omega, by omega, H.out, HE.out⟩, by have := HLT.out; simp [RowKit.intOf]; omega⟩
    · have hlt2 : ¬ (i : Int) < ops.length := by omega
      obtain rfl : i = ops.length := by omega
      have HB := Hid.mk hT.bl
      clear hlt hi hT hE H
      go_wp2
      go_ret
      exact ⟨rfl, HB.out⟩

theorem walk (ad : Option Addr) (n cap : Nat) (V V' : Nat → Nat) (most : Int) (ado : Option Addr) (capo : Nat) (ops : List Mo) (w : World) (_ : n ≤ maxLen) (hst : StepsAt w ad n V V') (_ : ops.length ≤ maxLen) (hrd : MoRd w ado ops) (hok : ∀ q ∈ ops, q.ok) (hF : FA w) :
    Calls Tryz.prog 4 #[.slice ad n cap, .int .i64 most, .slice ado ops.length capo] w fun r w' => r = .returned (.bool true) ∧ Below w.heap.size w w' := by
  by_cases h : n ≤ 60
  · by_cases h1 : most < 1 ∨ 64 < most
    · exact erased_bad n cap ad V V' most ado ops.length capo h h1 w hst hF
    · by_cases h2 : ops.length ≤ 60
      · exact walk_main n cap ad V V' most ado capo ops h (by omega) (by omega) h2 w hst hrd hok hF
      · exact erased_long n cap ad V V' most ado ops.length capo h (by omega) (by omega) (by omega) w hst hF
  · exact erased_many n cap ad most ado ops.length capo (by omega) w hF

theorem met {W : World} (h : laidMet Tryz.prog Rows.mmuErasedRow.laid W) : FA W := by
  have h1 := TR.pair_of_reads (g := 0) (by kernel_rfl) (by kernel_rfl) (Lib.laidMet.reads h (n := "portreeve/desc.outField") (d := Rows.laid_portreeve_desc_outField) (by simp [Rows.mmuErasedRow]))
  have h2 := TR.pair_of_reads (g := 2) (by kernel_rfl) (by kernel_rfl) (Lib.laidMet.reads h (n := "portreeve/desc.attrField") (d := Rows.laid_portreeve_desc_attrField) (by simp [Rows.mmuErasedRow]))
  have h3 := TR.pair_of_reads (g := 3) (by kernel_rfl) (by kernel_rfl) (Lib.laidMet.reads h (n := "portreeve/trail.tableField") (d := Rows.laid_portreeve_trail_tableField) (by simp [Rows.mmuErasedRow]))
  have h4 := TR.pair_of_reads (g := 1) (by kernel_rfl) (by kernel_rfl) (Lib.laidMet.reads h (n := "portreeve/desc.asidField") (d := Rows.laid_portreeve_desc_asidField) (by simp [Rows.mmuErasedRow]))
  exact ⟨⟨⟨h1.1, h1.2, h2.1, h2.2⟩, h3.1, h3.2⟩, h4.1, h4.2⟩

theorem own : ownKnob Tryz.prog.godebug = none := by kernel_rfl
theorem laidOut : laidOutB Tryz.prog = true := by kernel_rfl

set_option linter.unusedVariables false in
set_option maxRecDepth 100000 in
theorem contract (H : Type) (enc : TypeId × Value → H) (W : World) (base : Nat) (args : Array Value) (ds gs : List (DataW H)) (before : List MemPlace)
    (hval0 : ∀ (j : Nat) t v, Tryz.f4.params[j]? = some t → args[j]? = some v → Value.okWide Tryz.prog W .any base t v)
    (hW : DataW.Whole enc Tryz.prog Tryz.f4.params.toList Rows.mmuErasedSpec.vars false W args.toList ds gs before) (hL0 : laidMetH Tryz.prog Rows.mmuErasedRow.laid W) :
    Calls Tryz.prog 4 args W fun e W' => ∃ v, e = .returned v ∧ Rows.mmuErasedSpec.post enc Tryz.prog Tryz.f4 false true false false W args v W' := by
  have hL := hL0
  rw [MakeChecks.laidMetH_plain _ _ _ (by kernel_rfl)] at hL
  have hval := hval0
  have hW' := hW
  obtain ⟨p, q, hA0, hV, rfl, hfz, hnd⟩ := hW
  have hA : DataW.TrodAll enc Tryz.prog W 0 (fun _ => true) true Tryz.f4.params.toList args.toList ds p := hA0
  rw [Tryz.params4] at hA hval
  obtain ⟨v0, vs0, d0, ds0, p0, q0, hargs, rfl, rfl, h0, r0⟩ := trodAll_cons hA
  obtain ⟨v1, vs1, d1, ds1, p1, q1, rfl, rfl, rfl, h1, r1⟩ := trodAll_cons r0
  obtain ⟨v2, vs2, d2, ds2, p2, q2, rfl, rfl, rfl, h2, r2⟩ := trodAll_cons r1
  obtain ⟨rfl, rfl, rfl⟩ := trodAll_nil r2
  obtain rfl : args = #[v0, v1, v2] := by cases args; simp_all
  obtain ⟨rfl, rfl⟩ := trodVars_none hV
  have k0 := h0
  have lt0 : ∀ x ∈ p0, x.block < W.heap.size := by obtain ⟨m, hm⟩ := k0; exact DataW.trod_lt m _ _ _ hm
  have k1 := h1
  have lt1 : ∀ x ∈ p1, x.block < W.heap.size := by obtain ⟨m, hm⟩ := k1; exact DataW.trod_lt m _ _ _ hm
  have k2 := h2
  have lt2 : ∀ x ∈ p2, x.block < W.heap.size := by obtain ⟨m, hm⟩ := k2; exact DataW.trod_lt m _ _ _ hm
  obtain ⟨ad0, n0, cap0, A0, V0, rfl, mx0, ho0⟩ := open_steps (hval 0 22 v0 rfl rfl) h0
  obtain ⟨a1, rfl, _, _, w1⟩ := open_int Tryz.underlying3 (hval 1 3 v1 rfl rfl) h1
  obtain ⟨ad2, cap2, l2, rfl, mx2, rd2, ok2⟩ := open_mops (hval 2 23 v2 rfl rfl) h2
  clear hA0 hval0
  refine (walk ad0 n0 cap0 A0 V0 a1 ad2 cap2 l2 W mx0 ho0 mx2 rd2 ok2 (met hL)).mono fun e W' ⟨he, bel⟩ => ?_
  subst he
  exact ⟨_, rfl, _, _, _, [], _, [], hW', trodAll_mk1 (shut_bool Tryz.underlying4 _), (trodAll_cons_mk (Below.trod laidOut (by kernel_rfl) (of_decide_eq_true (by kernel_rfl)) k0 bel lt0) (trodAll_cons_mk (Below.trod laidOut (by kernel_rfl) (of_decide_eq_true (by kernel_rfl)) k1 bel lt1) (trodAll_cons_mk (Below.trod laidOut (by kernel_rfl) (of_decide_eq_true (by kernel_rfl)) k2 bel lt2) trodAll_mk0))), rfl, bel.frame _, fun h => by cases h⟩

theorem laid_met (os : Os) : laidMet Tryz.prog Rows.mmuErasedRow.laid ((World.laidAll Tryz.prog os Rows.mmuErasedRow.laid).forCall (fun _ _ => 0) ⟨#[], #[.slice none 0 0, .int .i64 0, .slice none 0 0], []⟩).memory :=
  laidMet_laidAll _ (by kernel_rfl) (by kernel_rfl)
theorem reads (os : Os) {H : Type} (enc : TypeId × Value → H) : ∃ places, DataW.whole enc Tryz.prog ((World.laidAll Tryz.prog os Rows.mmuErasedRow.laid).forCall (fun _ _ => 0) ⟨#[], #[.slice none 0 0, .int .i64 0, .slice none 0 0], []⟩).memory Tryz.f4.params.toList Rows.mmuErasedSpec.vars false (#[.slice none 0 0, .int .i64 0, .slice none 0 0] : Array Value).toList 8 = some ([.nil, .lit (.int .i64 0), .nil], [], places) :=
  ⟨[], by kernel_rfl⟩

set_option maxRecDepth 100000 in
theorem lifted (os : Os) (started : os.Started) (H : Type) (enc : TypeId × Value → H) (F : Stop.Interp) :
    ReturnsInHanded {} Tryz.checked os 4 .any ((OpenSpec.ofChange Rows.mmuErasedSpec).preRow enc Tryz.prog Tryz.f4 Rows.mmuErasedRow.domain false Rows.mmuErasedRow.laid) (((OpenSpec.ofChange Rows.mmuErasedSpec).at F).post enc Tryz.prog Tryz.f4 false true false false) := by
  obtain ⟨places, hx⟩ := reads os enc
  refine returnsInHanded_of_row (C := Tryz.checked) (s := (OpenSpec.ofChange Rows.mmuErasedSpec)) own started (by kernel_rfl) Tryz.func4
    (witness_row_at (enc := enc) (C := Tryz.checked) false (World.laidAll Tryz.prog os Rows.mmuErasedRow.laid) #[.slice none 0 0, .int .i64 0, .slice none 0 0] (World.laidAll_os _ _ _) (by kernel_rfl) (by kernel_rfl) (by kernel_rfl)
      (OpenSpec.preRow_of_cond 8 hx (by kernel_rfl) (fun k hk => by cases hk) (by kernel_rfl) (laid_met os))) ?_
  intro W base args ds gs before hval hW _ _ _ hL _ _
  exact contract H enc W base args ds gs before hval hW hL

theorem said : Rows.MmuErasedSaid :=
  OpenClaim.holds_of_cond 4 Tryz.f4 rfl rfl rfl rfl rfl rfl rfl ⟨rfl, rfl, rfl, rfl, rfl⟩ rfl rfl rfl rfl rfl (by kernel_rfl) Tryz.func4 (by kernel_rfl)
    (of_decide_eq_true (by kernel_rfl)) (by unfold Func.isWrapper; first | (rw [if_pos (by decide +kernel)]; kernel_rfl) | (rw [if_neg (by decide +kernel)]; exact ⟨rfl, rfl⟩))
    (fun os started H enc _ F => by rw [OpenClaim.pre_eq_preRow]; exact lifted os started H enc F)

theorem plain (f : FuncId) (fn : Func) (hf : Tryz.pinned.checked.prog.funcNamed "portreeve/portreevelaw09.MmuErased" = some f) (hfn : Tryz.pinned.checked.prog.funcs[f]? = some fn) :
    true = Tryz.pinned.checked.prog.looks [] ∧ ∀ (j : Nat) t, fn.params[j]? = some t → Tryz.pinned.checked.prog.wantsStandIn t = false := by
  obtain rfl : f = 4 := Option.some.inj ((show Tryz.prog.funcNamed "portreeve/portreevelaw09.MmuErased" = some 4 by kernel_rfl).symm.trans hf) |>.symm
  obtain rfl : fn = Tryz.f4 := (Option.some.inj (Tryz.func4.symm.trans hfn)).symm
  refine ⟨by kernel_rfl, fun j t ht => ?_⟩
  rw [Tryz.params4] at ht
  have hm : t ∈ [22, 3, 23] := by simpa using Array.mem_of_getElem? ht
  have hall : ([22, 3, 23].all fun u => !Tryz.prog.wantsStandIn u) = true := by kernel_rfl
  exact (show Tryz.prog.wantsStandIn t = false by simpa using List.all_eq_true.1 hall t hm)

theorem card : Rows.MmuErasedCardSaid :=
  Claim7.holds_tied_plain_at .later [] _ _ _ _ said (fun _ h => by cases h) (by kernel_rfl) (fun _ h => by cases h) mmuErased_row_tie rfl ⟨rfl, rfl⟩ (by kernel_rfl) rfl plain (by kernel_rfl)

end Go.Proofs.YtndjhedoandinaaGreatDoor.MM.mmuErased
