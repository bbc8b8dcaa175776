/- MmuErased, first part: what holds along a play; the plays that are not played. -/
import Derived.Test.YtndjhedoandinaaGreatDoorMmP3
import Derived.Test.YtndjhedoandinaaGreatDoorPhysSame0
namespace Go.Proofs.YtndjhedoandinaaGreatDoor.MM
open Go.RowKit Go.Maps

theorem cells8o {w : World} {g t : Nat} {c0 c1 c2 c3 c4 c5 c6 c7 : Value} (hh : w.heap[g]? = some (.cells #[c0, c1, c2, c3, c4, c5, c6, c7] t (0, 0))) : w.cell? ⟨g, 0, none⟩ = some c0 ∧ w.cell? ⟨g, 1, none⟩ = some c1 ∧ w.cell? ⟨g, 2, none⟩ = some c2 ∧ w.cell? ⟨g, 3, none⟩ = some c3 ∧ w.cell? ⟨g, 4, none⟩ = some c4 ∧ w.cell? ⟨g, 5, none⟩ = some c5 ∧ w.cell? ⟨g, 6, none⟩ = some c6 ∧ w.cell? ⟨g, 7, none⟩ = some c7 := by
  refine ⟨?_, ?_, ?_, ?_, ?_, ?_, ?_, ?_⟩
  all_goals (rw [cell_of_row _ _ _ _ _ _ hh]; rfl)
/-- Two machines tell the same: one with hints, whatever it remembers is sound, one that remembers nothing. -/
structure EInv (S : Nat) (s1 s2 : St) : Prop where
  f : s1.f = s2.f
  r1 : s1.rg = some (4096, 3)
  r2 : s2.rg = some (4096, 3)
  e2 : s2.E = []
  k2 : s2.K = []
  snd : sndB S s1 = true
theorem set3 (s : St) : setRg s 844424930136064 = { s with rg := some (4096, 3) } := by
  unfold setRg
  rw [if_pos (by decide +kernel)]
section
variable {S : Nat} {most : Int} {s1 s2 : St}
theorem EInv.snd2 (h : EInv S s1 s2) : sndB S s2 = true := snd_nil h.r2 h.e2 h.k2
theorem EInv.start {s : St} (hE : s.E = []) (hK : s.K = []) {t : St} (ht : t = s) : EInv S { s with rg := some (4096, 3) } { t with rg := some (4096, 3) } := by
  subst ht
  exact ⟨rfl, rfl, rfl, hE, hK, snd_nil (R := 4096) (I := 3) rfl hE hK⟩
/-- An access of both tells the same. -/
theorem EInv.leaf (h : EInv S s1 s2) (w1 : Wf most s1) (w2 : Wf 1 s2) (va : Nat) (hn : Hn) : leafO S s1 va hn = leafO S s2 va aN := by
  rw [leaf_root w1 h.r1 h.snd va hn, leaf_root w2 h.r2 h.snd2 va aN, h.f]
theorem leafS_nil (s : St) (h1 : s.E = []) (h2 : s.K = []) (va : Nat) : (leafS S 1 s va aN).E = [] ∧ (leafS S 1 s va aN).K = [] := by
  unfold leafS
  split
  · exact ⟨h1, h2⟩
  · split
    · exact ⟨h1, h2⟩
    · unfold lfS
      split
      · exact ⟨h1, h2⟩
      · exact ⟨h1, h2⟩
/-- What both leave, if what the first remembers is sound still. -/
theorem EInv.acc (h : EInv S s1 s2) (w1 : Wf most s1) (w2 : Wf 1 s2) (so : Int) (va wd : Nat) (hn : Hn) (hs : sndB S (accS S most s1 so va wd hn) = true) : EInv S (accS S most s1 so va wd hn) (accS S 1 s2 so va wd aN) := by
  have hl := h.leaf w1 w2 va hn
  refine ⟨?_, (leafS_rg va hn).trans h.r1, (leafS_rg va aN).trans h.r2, (leafS_nil s2 h.e2 h.k2 va).1, (leafS_nil s2 h.e2 h.k2 va).2, hs⟩
  show accM S s1.f (leafO S s1 va hn) so va wd = accM S s2.f (leafO S s2 va aN) so va wd
  rw [hl, h.f]
theorem EInv.load (h : EInv S s1 s2) (w1 : Wf most s1) (so : Int) (hso : so ≠ 2) (va wd : Nat) (hn : Hn) : sndB S (accS S most s1 so va wd hn) = true := by
  have e : accS S most s1 so va wd hn = leafS S most s1 va hn := by
    unfold accS accM
    rw [if_neg (fun c => hso c.2), ← leafS_f (S := S) (most := most) (s := s1) va hn]
  rw [e]
  exact snd_leafS w1 h.r1 h.snd va hn
theorem EInv.guess (h : EInv S s1 s2) (w1 : Wf most s1) (va : Nat) (hn : Hn) : EInv S (guS S most s1 va hn) s2 := by
  obtain ⟨h1, h2, h3⟩ := snd_guS w1 h.r1 h.snd va hn
  exact ⟨h2.trans h.f, h3.trans h.r1, h.r2, h.e2, h.k2, h1⟩
theorem EInv.evict (h : EInv S s1 s2) (n : Int) : EInv S { s1 with E := dropI s1.E n } s2 := ⟨h.f, h.r1, h.r2, h.e2, h.k2, snd_sub h.r1 h.snd (drop_sub _ _) (List.Sublist.refl _)⟩
theorem EInv.lose (h : EInv S s1 s2) (n : Int) : EInv S { s1 with K := dropI s1.K n } s2 := ⟨h.f, h.r1, h.r2, h.e2, h.k2, snd_sub h.r1 h.snd (List.Sublist.refl _) (drop_sub _ _)⟩
theorem EInv.flush (h : EInv S s1 s2) (n : Int) (va : Nat) : EInv S (flVa s1 n va) s2 := ⟨h.f, h.r1, h.r2, h.e2, h.k2, snd_sub h.r1 h.snd (keepB_sub _ _) (keepR_sub _ _)⟩
end

section
variable {w0 w : World} {l : List Nat} {S x a n z b m : Nat} {most : Int} {s s2 : St}
theorem Two.memL (h : Two w0 w l S x a n most s z b m s2) : Calls Tryz.prog 18 #[.pointer (some ⟨x, 0, none⟩)] w fun r w' => r = .returned (.pointer (some ⟨a, 0, none⟩)) ∧ w = w' := by
  obtain ⟨X, Y, h, -⟩ := h
  exact memory_c h
theorem Two.memR (h : Two w0 w l S x a n most s z b m s2) : Calls Tryz.prog 18 #[.pointer (some ⟨z, 0, none⟩)] w fun r w' => r = .returned (.pointer (some ⟨b, 0, none⟩)) ∧ w = w' := by
  obtain ⟨X, Y, -, h, -⟩ := h
  exact memory_c h
theorem Two.sound (h : Two w0 w l S x a n most s z b m s2) : Calls Tryz.prog 13 #[.pointer (some ⟨x, 0, none⟩)] w fun r w' => r = .returned (.bool (sndB S s)) ∧ Below w.heap.size w w' := by
  obtain ⟨X, Y, h, -⟩ := h
  exact sound_c h
theorem Two.same (h : Two w0 w l S x a n most s z b m s2) (hf : s.f = s2.f) : Calls Tryz.prog 19 #[.pointer (some ⟨a, 0, none⟩), .pointer (some ⟨b, 0, none⟩)] w fun r w' => r = .returned (.bool true) ∧ Below w.heap.size w w' := by
  obtain ⟨X, Y, ⟨XM, XB, XT, tb, tr, pv, h⟩, ⟨YM, YB, YT, tb2, tr2, pv2, k⟩, -⟩ := h
  refine (same_c h.mem k.mem).mono ?_
  rintro r w' ⟨⟨q, rfl, hq⟩, hb⟩
  rw [hq.2 ⟨rfl, hf⟩]
  exact ⟨rfl, hb⟩
end

set_option maxHeartbeats 2000000 in
set_option maxRecDepth 100000 in
theorem erased_many (n cap : Nat) (ad : Option Addr) (most : Int) (ado : Option Addr) (no capo : Nat) (hn : 60 < n) (w : World) (hF : FA w) :
    Calls Tryz.prog 4 #[.slice ad n cap, .int .i64 most, .slice ado no capo] w fun r w' => r = .returned (.bool true) ∧ Below w.heap.size w w' := by
  have hC := anchor_any w hF
  have hO := fun m W => opened_many n cap ad m hn W
  have hn2 : (60 : Int) < (n : Int) := by omega
  clear hF hn
  go_enter Tryz.func4, Tryz.ntmps4
  go_wp2_with fail
  refine hC.mono ?_
  rintro e w1 ⟨rfl, hb1⟩
  clear hC
  go_wp2_with fail
  refine (hO most w1).mono ?_
  rintro e w2 ⟨rfl, hb2⟩
  replace hb1 := below_tr hb1 hb2
  clear hb2
  go_wp2_with fail
  refine (hO 1 _).mono ?_
  rintro e w3 ⟨rfl, hb3⟩
  have HB := Hid.mk (below_tr (below_tr hb1 (below_new w2 (.cells #[.int .u64 1048576, .slice none 0 0, .int .i64 most, .slice none 0 0, .slice none 0 0, .bool false, .int .u64 0, .int .i64 0, .slice none 0 0] 34))) hb3)
  clear hb1 hb3 hO
  go_wp2
  go_ret
  exact ⟨rfl, below_tr HB.out (below_new _ _)⟩
set_option maxHeartbeats 2000000 in
set_option maxRecDepth 100000 in
theorem erased_bad (n cap : Nat) (ad : Option Addr) (V V' : Nat → Nat) (most : Int) (ado : Option Addr) (no capo : Nat) (hn : n ≤ 60) (hbad : most < 1 ∨ 64 < most) (w : World) (hst : StepsAt w ad n V V') (hF : FA w) :
    Calls Tryz.prog 4 #[.slice ad n cap, .int .i64 most, .slice ado no capo] w fun r w' => r = .returned (.bool true) ∧ Below w.heap.size w w' := by
  have hC := anchor_any w hF
  have HF := Hid.mk hF
  have HST := Hid.mk hst
  have hO := fun W (h : StepsAt W ad n V V') => opened_bad n cap ad V V' most hn hbad W h
  have hP := fun W (h : StepsAt W ad n V V') hf => opened_ok n cap ad V V' 1 hn (by decide) (by decide) W h hf
  have hn2 : ¬ (60 : Int) < (n : Int) := by omega
  clear hF hn hst
  go_enter Tryz.func4, Tryz.ntmps4
  go_wp2_with fail
  refine hC.mono ?_
  rintro e w1 ⟨rfl, hb1⟩
  clear hC
  go_wp2_with fail
  refine (hO w1 (HST.out.later hb1)).mono ?_
  rintro e w2 ⟨p, N, c, rfl, hb2⟩
  replace hb1 := below_tr hb1 hb2
  clear hb2 hO
  have hb3 := below_tr hb1 (below_new w2 (.cells #[.int .u64 1048576, .slice p N c, .int .i64 most, .slice none 0 0, .slice none 0 0, .bool false, .int .u64 0, .int .i64 0, .slice none 0 0] 34))
  go_wp2_with fail
  refine (hP _ (HST.out.later hb3) (HF.out.later hb3)).mono ?_
  rintro e w3 ⟨x, a, v, rfl, hK⟩
  have HB := Hid.mk (below_tr hb3 hK.bel)
  obtain ⟨X, -, L, hp, -⟩ := hK.mch
  obtain ⟨p2, c2, rfl, -⟩ := hp.form
  generalize L.length = N2 at *
  clear hb1 hb3 hP hK hp
  rcases hbad with h1 | h1
  · go_wp2
    go_ret
    exact ⟨rfl, below_tr HB.out (below_new _ _)⟩
  · have h2 : ¬ most < 1 := by omega
    go_wp2
    go_ret
    exact ⟨rfl, below_tr HB.out (below_new _ _)⟩

set_option maxHeartbeats 2000000 in
set_option maxRecDepth 100000 in
theorem erased_long (n cap : Nat) (ad : Option Addr) (V V' : Nat → Nat) (most : Int) (ado : Option Addr) (no capo : Nat) (hn : n ≤ 60) (m1 : 1 ≤ most) (m64 : most ≤ 64) (hno : 60 < no) (w : World) (hst : StepsAt w ad n V V') (hF : FA w) :
    Calls Tryz.prog 4 #[.slice ad n cap, .int .i64 most, .slice ado no capo] w fun r w' => r = .returned (.bool true) ∧ Below w.heap.size w w' := by
  have hC := anchor_any w hF
  have HF := Hid.mk hF
  have HST := Hid.mk hst
  have hO := fun W (h : StepsAt W ad n V V') hf => opened_ok n cap ad V V' most hn m1 m64 W h hf
  have hP := fun W (h : StepsAt W ad n V V') hf => opened_ok n cap ad V V' 1 hn (by decide) (by decide) W h hf
  have hn2 : ¬ (60 : Int) < (n : Int) := by omega
  have hno2 : (60 : Int) < (no : Int) := by omega
  have hm1 : ¬ most < 1 := by omega
  have hm64 : ¬ (64 : Int) < most := by omega
  clear hF hn hst hno m1 m64
  go_enter Tryz.func4, Tryz.ntmps4
  go_wp2_with fail
  refine hC.mono ?_
  rintro e w1 ⟨rfl, hb1⟩
  clear hC
  go_wp2_with fail
  refine (hO w1 (HST.out.later hb1) (HF.out.later hb1)).mono ?_
  rintro e w2 ⟨x, a, v, rfl, hK⟩
  have hb2 := hK.bel
  obtain ⟨X, -, L, hp, -⟩ := hK.mch
  obtain ⟨p, c, rfl, -⟩ := hp.form
  generalize L.length = N at *
  replace hb1 := below_tr hb1 hb2
  clear hb2 hO hK hp
  have hb3 := below_tr hb1 (below_new w2 (.cells #[.int .u64 1048576, .slice p N c, .int .i64 most, .slice none 0 0, .slice none 0 0, .bool false, .int .u64 0, .int .i64 0, .slice none 0 0] 34))
  go_wp2_with fail
  refine (hP _ (HST.out.later hb3) (HF.out.later hb3)).mono ?_
  rintro e w3 ⟨x2, a2, v2, rfl, hK⟩
  have HB := Hid.mk (below_tr hb3 hK.bel)
  obtain ⟨X2, -, L2, hp, -⟩ := hK.mch
  obtain ⟨p2, c2, rfl, -⟩ := hp.form
  generalize L2.length = N2 at *
  clear hb1 hb3 hP hK hp
  go_wp2
  go_ret
  exact ⟨rfl, below_tr HB.out (below_new _ _)⟩
end Go.Proofs.YtndjhedoandinaaGreatDoor.MM
