/- MmuFlushed (P9.3, P9.4): for all words, all lists of steps, every address, and whichever flush, the law returns true: behind a flush of all, and behind one of its ASID, a machine is sound, and an access tells what a walk of the tables as they are now tells. No condition beyond the row's own. -/
import Derived.Test.YtndjhedoandinaaGreatDoorMmUa
import Derived.Test.YtndjhedoandinaaGreatDoorMmUb
import Derived.Test.YtndjhedoandinaaGreatDoorMmUc
import Derived.Test.YtndjhedoandinaaGreatDoorMmU6
import Derived.Test.YtndjhedoandinaaGreatDoorMmP4

/- Machines: the law's step, with the document's machine of noughts, of whatever kind. -/
namespace Go.Proofs.YtndjhedoandinaaGreatDoor.MM
open Go.RowKit Go.Maps
theorem step_any {w0 w : World} {l : List Nat} {x a n S : Nat} {most : Int} {s : St} (h : One w0 w l x a n S most s) (hn : n < 100000000) (kd so nn : Int) (va wd : Nat) (hf hl hk : Bool) (hva : va < 18446744073709551616) (hwd : wd < 18446744073709551616) :
    Calls Tryz.prog 9 #[.pointer (some ⟨x, 0, none⟩), .agg yZ, .agg #[.int .i64 kd, .int .i64 so, .int .i64 nn, .int .u64 (va : Nat), .int .u64 (wd : Nat), .bool hf, .bool hl, .bool hk]] w fun r w' => (∃ c b, r = .returned (.tuple #[.agg c, .bool b])) ∧ StO w0 w l x a (n + 1) S most w' := by
  by_cases h1 : kd = 1
  · subst h1
    by_cases h8 : (va : Int) % 8 = 0
    · cases hq : (decide ((accF (leafO S s va ⟨hf, hl, hk⟩) so).1 = 1) && decide ((accF (leafO S s va ⟨hf, hl, hk⟩) so).2 = 0))
      · exact step_1n h so nn va wd hf hl hk hva hwd hn 1 (Hid.mk (fun W => zacc_off so va wd hf hl hk h8 W)) hq
      · exact step_1e h so nn va wd hf hl hk hva hwd hn 1 (Hid.mk (fun W => zacc_off so va wd hf hl hk h8 W)) hq
    · cases hq : (decide ((accF (leafO S s va ⟨hf, hl, hk⟩) so).1 = 5) && decide ((accF (leafO S s va ⟨hf, hl, hk⟩) so).2 = 0))
      · exact step_1n h so nn va wd hf hl hk hva hwd hn 5 (Hid.mk (fun W => zacc_un so va wd hf hl hk h8 W)) hq
      · exact step_1e h so nn va wd hf hl hk hva hwd hn 5 (Hid.mk (fun W => zacc_un so va wd hf hl hk h8 W)) hq
  by_cases h2 : kd = 2
  · subst h2; exact step_2 h so nn va wd hf hl hk hva
  by_cases h3 : kd = 3
  · subst h3; exact step_3 h so nn va wd hf hl hk hva hwd hn
  by_cases h4 : kd = 4
  · subst h4
    by_cases hN : 0 ≤ nn
    · exact step_4y h so nn va wd hf hl hk hN
    · exact step_4n h so nn va wd hf hl hk hN
  by_cases h5 : kd = 5
  · subst h5
    by_cases hN : 0 ≤ nn
    · exact step_5y h so nn va wd hf hl hk hN
    · exact step_5n h so nn va wd hf hl hk hN
  by_cases h6 : kd = 6
  · subst h6; exact step_6 h so nn va wd hf hl hk hva
  by_cases h7 : kd = 7
  · subst h7
    by_cases hN : nn < 0
    · exact step_7a h so nn va wd hf hl hk hN
    · exact step_7b h so nn va wd hf hl hk hN
  by_cases h8 : kd = 8
  · subst h8; exact step_8 h so nn va wd hf hl hk
  by_cases h9 : kd = 9
  · subst h9
    cases hb : rgB wd
    · by_cases hz : ((wd : Nat) : Int) % 4096 = 0
      · exact step_9b h so nn va wd hf hl hk hwd hb hz
      · exact step_9a h so nn va wd hf hl hk hwd hb hz
    · refine step_9c h so nn va wd hf hl hk hwd hb ?_
      unfold rgB at hb
      rw [decide_eq_true_eq] at hb
      omega
  by_cases h10 : kd = 10
  · subst h10; exact step_10 h so nn va wd hf hl hk
  by_cases h11 : kd = 11
  · subst h11
    by_cases hN : nn < 0
    · exact step_11n h so nn va wd hf hl hk _ rfl hN
    · exact step_11y h so nn va wd hf hl hk hva _ rfl hN
  by_cases h12 : kd = 12
  · subst h12; exact step_12 h so nn va wd hf hl hk hva hwd hn
  exact step_x h h1 h2 h3 h4 h5 h6 h7 h8 h9 h10 h11 h12 so nn va wd hf hl hk
end Go.Proofs.YtndjhedoandinaaGreatDoor.MM

namespace Go.Proofs.YtndjhedoandinaaGreatDoor.MM.mmuFlushed
open Go.ChangeShapes Go.WideShapes Go.ChangeAt Go.RowKit Go.Lib Go.Maps

theorem set5 (s : St) : setRg s 1407374883557376 = { s with rg := some (4096, 5) } := by
  unfold setRg
  rw [if_pos (by decide +kernel)]
theorem snd_all (S : Nat) (s : St) : sndB S (flAll { s with rg := some (4096, 5) }) = true := snd_nil (R := 4096) (I := 5) rfl rfl rfl
theorem snd_as (S : Nat) (s : St) : sndB S (flAs { s with rg := some (4096, 5) } 5) = true := by
  refine (snd_iff (R := 4096) (I := 5) rfl).2 ⟨fun e he ha => ?_, fun e he ha => ?_⟩
  · have h := (List.mem_filter.1 he).2
    have ha' : e.aid = 5 := ha
    have h2 : (!decide (e.aid = 5)) = true := h
    rw [decide_eq_true ha'] at h2
    cases h2
  · have h := (List.mem_filter.1 he).2
    have ha' : e.aid = 5 := ha
    have h2 : (!decide (e.aid = 5)) = true := h
    rw [decide_eq_true ha'] at h2
    cases h2
theorem al8 {va : Nat} : alignedB va 3 = decide (va % 8 = 0) := aligned_mod va (k := 3) (by decide) (by decide)
/-- A leaf's words lie in memory. -/
theorem read_ok {S : Nat} {f : Nat → Nat} {R va : Nat} (hS : S % 8 = 0) (h8 : va % 8 = 0) (h : (ftR (wk0 S f 0 R va).2).1 = 0) : errA S (accT (lfR (wk0 S f 0 R va).2) va) = 0 := by
  have h0 : (wk0 S f 0 R va).2.1 = 0 := by
    unfold ftR at h
    split at h
    · rename_i hz; exact hz
    · rename_i hz; exact absurd h hz
  have hw : (wk0 S f 0 R va).2 = (0, (wk0 S f 0 R va).2.2.1, (wk0 S f 0 R va).2.2.2) := Prod.ext h0 rfl
  obtain ⟨-, -, -, -, hl, hm, hkk⟩ := wk0_leaf hw
  have hh := mf_holds hm hkk
  generalize (wk0 S f 0 R va).2.2.1 = l at *
  generalize (wk0 S f 0 R va).2.2.2 = x at *
  have e : lfR (wk0 S f 0 R va).2 = ⟨l, rdK l x, rdO x, rdU l x, rdR l x, rdX l x, rdS l x, rdA l x⟩ := by rw [hw]; rfl
  rw [e]
  show errA S (rdO x + offV va l) = 0
  have hb := lowK_eq hl
  have h1 : offV va l = va % 2 ^ lowK l := if_pos hl
  have h2 : va % 2 ^ lowK l < 2 ^ lowK l := Nat.mod_lt _ (Nat.two_pow_pos _)
  have h3 := rdO_mod' x
  have h4 : va % 2 ^ lowK l % 8 = 0 := by
    rw [show (8 : Nat) = 2 ^ 3 by decide, Nat.mod_mod_of_dvd _ (Nat.pow_dvd_pow 2 (by omega))]
    exact h8
  unfold errA
  rw [h1, if_neg (by omega), if_neg (by omega)]

section
variable {w0 w : World} {l : List Nat} {x a n S : Nat} {most : Int} {s : St}
theorem one_walk (h : One w0 w l x a n S most s) (va : Nat) : Calls Tryz.prog 22 #[.pointer (some ⟨a, 0, none⟩), .int .u64 4096, .int .u64 va] w fun r w' => r = .returned (.tuple #[.agg (lfR (wk0 S s.f 0 4096 va).2).cs.toArray, .agg #[.int .i64 (ftR (wk0 S s.f 0 4096 va).2).1, .int .i64 (ftR (wk0 S s.f 0 4096 va).2).2]]) ∧ Below w.heap.size w w' := by
  obtain ⟨X, ⟨XM, XB, XT, tb, tr, pv, h⟩, -⟩ := h
  have := walk_any 4096 va (by decide) h.mem h.fld.t.d
  rw [leafL_cs, faultL_cs] at this
  exact this
theorem one_read (h : One w0 w l x a n S most s) (y : Nat) (hy : y < 18446744073709551616) : Calls Tryz.prog 24 #[.pointer (some ⟨a, 0, none⟩), .int .u64 y] w fun e w' => e = .returned (.tuple #[.int .u64 (s.f y : Nat), .int .i64 (errA S y)]) ∧ Below w.heap.size w w' := by
  obtain ⟨X, ⟨XM, XB, XT, tb, tr, pv, h⟩, -⟩ := h
  exact read_c h.mem y hy
end

set_option maxHeartbeats 2000000 in
set_option maxRecDepth 100000 in
theorem flushed_many (n cap : Nat) (ad : Option Addr) (ado : Option Addr) (no capo : Nat) (va : Nat) (all : Bool) (hn : 60 < n) (w : World) (hF : FA w) :
    Calls Tryz.prog 5 #[.slice ad n cap, .slice ado no capo, .int .u64 va, .bool all] w fun r w' => r = .returned (.bool true) ∧ Below w.heap.size w w' := by
  have hC := anchor_any w hF
  have hO := fun W => opened_many n cap ad 16 hn W
  clear hF hn
  go_enter Tryz.func5, Tryz.ntmps5
  go_wp2_with fail
  refine hC.mono ?_
  rintro e w1 ⟨rfl, hb1⟩
  clear hC
  go_wp2_with fail
  refine (hO w1).mono ?_
  rintro e w2 ⟨rfl, hb2⟩
  have HB := Hid.mk (below_tr hb1 hb2)
  clear hb1 hb2 hO
  go_wp2
  go_ret
  exact ⟨rfl, below_tr HB.out (below_new _ _)⟩
set_option maxHeartbeats 2000000 in
set_option maxRecDepth 100000 in
theorem flushed_long (n cap : Nat) (ad : Option Addr) (V V' : Nat → Nat) (ado : Option Addr) (no capo : Nat) (va : Nat) (all : Bool) (hn : n ≤ 60) (hno : 40 < no) (w : World) (hst : StepsAt w ad n V V') (hF : FA w) :
    Calls Tryz.prog 5 #[.slice ad n cap, .slice ado no capo, .int .u64 va, .bool all] w fun r w' => r = .returned (.bool true) ∧ Below w.heap.size w w' := by
  have hC := anchor_any w hF
  have HF := Hid.mk hF
  have HST := Hid.mk hst
  have hO := fun W (h : StepsAt W ad n V V') hf => opened_ok n cap ad V V' 16 hn (by decide) (by decide) W h hf
  have hno2 : (40 : Int) < (no : Int) := by omega
  clear hF hn hst hno
  go_enter Tryz.func5, Tryz.ntmps5
  go_wp2_with fail
  refine hC.mono ?_
  rintro e w1 ⟨rfl, hb1⟩
  clear hC
  go_wp2_with fail
  refine (hO w1 (HST.out.later hb1) (HF.out.later hb1)).mono ?_
  rintro e w2 ⟨x, a, v, rfl, hK⟩
  have HB := Hid.mk (below_tr hb1 hK.bel)
  obtain ⟨X, -, L, hp, -⟩ := hK.mch
  obtain ⟨p, c, rfl, -⟩ := hp.form
  generalize L.length = N at *
  clear hb1 hO hK hp
  go_wp2
  go_ret
  exact ⟨rfl, below_tr HB.out (below_new _ _)⟩

set_option maxHeartbeats 16000000 in
set_option maxRecDepth 1000000 in
theorem walk_main (n cap : Nat) (ad : Option Addr) (V V' : Nat → Nat) (ado : Option Addr) (capo : Nat) (ops : List Mo) (va : Nat) (all : Bool) (hva : va < 18446744073709551616) (hn : n ≤ 60) (hno : ops.length ≤ 40) (w : World) (hst : StepsAt w ad n V V') (hrd : MoRd w ado ops) (hok : ∀ q ∈ ops, q.ok) (hF : FA w) :
    Calls Tryz.prog 5 #[.slice ad n cap, .slice ado ops.length capo, .int .u64 va, .bool all] w fun r w' => r = .returned (.bool true) ∧ Below w.heap.size w w' := by
  have hC := anchor_any w hF
  have HF := Hid.mk hF
  have HST := Hid.mk hst
  have HRD := Hid.mk hrd
  have HVA := Hid.mk hva
  have HOK : Hid (∀ i, i < ops.length → (gM ops i).ok) := fun i hi => hok _ (by rw [gM_pos ops i hi]; exact List.getElem_mem hi)
  have hO := fun W (h : StepsAt W ad n V V') hf => opened_ok n cap ad V V' 16 hn (by decide) (by decide) W h hf
  have hno2 : ¬ (40 : Int) < (ops.length : Int) := by omega
  have HNO := Hid.mk hno
  clear hF hn hst hno hrd hok hva
  go_enter Tryz.func5, Tryz.ntmps5
  go_wp2_with fail
  refine hC.mono ?_
  rintro e w1 ⟨rfl, hb1⟩
  clear hC
  go_wp2_with fail
  refine (hO w1 (HST.out.later hb1) (HF.out.later hb1)).mono ?_
  rintro e w2 ⟨x, a, v, rfl, hK⟩
  obtain ⟨X, hM, L, hp, -⟩ := hK.mch
  obtain ⟨p, c, rfl, -⟩ := hp.form
  generalize L.length = N at *
  have hone : One w w2 [] x a 61 1048576 16 ⟨fW 1048576 V V' n, [], [], none, []⟩ := ⟨X, hM.base hb1 HF.out, fun g hg => absurd hg List.not_mem_nil⟩
  have H1 := Hid.mk (hone.later (below_new w2 (.cells #[.int .u64 1048576, .slice p N c, .int .i64 16, .slice none 0 0, .slice none 0 0, .bool false, .int .u64 0, .int .i64 0, .slice none 0 0] 34)))
  clear hb1 hO hK hp hM hone
  go_upto_region 4 with fail
  generalize w2.alloc (.cells #[.int .u64 1048576, .slice p N c, .int .i64 16, .slice none 0 0, .slice none 0 0, .bool false, .int .u64 0, .int .i64 0, .slice none 0 0] 34) = w3 at *
  go_wp2
  go_loopw [13, 36] (fun _ s36 wr => ∃ (i m : Nat) (s : St), i ≤ ops.length ∧ s36 = .int .i64 (i : Nat) ∧ m ≤ 61 + i ∧ One w wr [] x a m 1048576 16 s) (fun _ s36 _ => ops.length - (RowKit.intOf s36).toNat)
  case atStart => exact ⟨0, 61, _, by omega, rfl, by omega, H1.out⟩
  case round =>
    clear H1
    obtain ⟨i, m, s, hi, rfl, hm, hT⟩ := hrel
    have H := Hid.mk hT
    by_cases hlt : i < ops.length
    · have hlt2 : (i : Int) < ops.length := by omega
      have HLT := Hid.mk hlt
      have hib : (i : Int) < 40 := by have := HNO.out; omega
      have hic : m < 100000000 := by have := HNO.out; omega
      obtain ⟨g, oo, rfl, hg, hc⟩ := HRD.out i hlt
      have d0 := cell_later hT.bl (hc 0 _ rfl)
      have d1 := cell_later hT.bl (hc 1 _ rfl)
      have d2 := cell_later hT.bl (hc 2 _ rfl)
      have d3 := cell_later hT.bl (hc 3 _ rfl)
      have d4 := cell_later hT.bl (hc 4 _ rfl)
      have d5 := cell_later hT.bl (hc 5 _ rfl)
      have d6 := cell_later hT.bl (hc 6 _ rfl)
      have d7 := cell_later hT.bl (hc 7 _ rfl)
      rw [Nat.add_zero] at d0
      have hq := HOK.out i hlt
      clear hc hi hlt hg hT
      generalize gM ops i = q at *
      obtain ⟨kd, so, nn, vb, wd, ⟨hf, hl, hk⟩⟩ := q
      obtain ⟨hvb, hwd⟩ := hq
      simp only at *
      have hrB := heap_alloc_new wr (.cells #[.int .i64 kd, .int .i64 so, .int .i64 nn, .int .u64 (vb : Nat), .int .u64 (wd : Nat), .bool hf, .bool hl, .bool hk] 40)
      have HX := Hid.mk (H.out.later (below_new wr (.cells #[.int .i64 kd, .int .i64 so, .int .i64 nn, .int .u64 (vb : Nat), .int .u64 (wd : Nat), .bool hf, .bool hl, .bool hk] 40)))
      go_upto_region 9 with fail
      generalize wr.alloc (.cells #[.int .i64 kd, .int .i64 so, .int .i64 nn, .int .u64 (vb : Nat), .int .u64 (wd : Nat), .bool hf, .bool hl, .bool hk] 40) = w8 at *
      generalize wr.heap.size = B at *
      obtain ⟨x0, x1, x2, x3, x4, x5, x6, x7⟩ := cells8p hrB
      clear d0 d1 d2 d3 d4 d5 d6 d7 hrB
      have hS := Hid.mk (step_any HX.out hic kd so nn vb wd hf hl hk hvb hwd)
      go_wp2_with fail
      refine hS.out.mono ?_
      rintro e w9 ⟨⟨c', b', rfl⟩, ⟨s', h9⟩, -⟩
      have H9 := Hid.mk h9
      clear hS x0 x1 x2 x3 x4 x5 x6 x7 h9
      go_wp2
      exact ⟨⟨i + 1, m + 1, s', by have := HLT.out; omega, by go_num, by omega, H9.out⟩, by have := HLT.out; simp [RowKit.intOf]; omega⟩
    · have hlt2 : ¬ (i : Int) < ops.length := by omega
      have hic : m < 100000000 := by have := HNO.out; omega
      clear hlt hi hT hm
      go_wp2_with fail
      refine (H.out.does (fun X h => set_c h 1407374883557376 (by decide))).mono ?_
      rintro e w9 ⟨rfl, h9, -⟩
      rw [set5] at h9
      have H9 := Hid.mk h9
      clear h9 H
      have key : ∀ (t : St) (wq : World), One w wq [] x a m 1048576 16 t → t.rg = some (4096, 5) → sndB 1048576 t = true → Hid (One w wq [] x a m 1048576 16 t ∧ t.rg = some (4096, 5) ∧ sndB 1048576 t = true) := fun t wq h1 h2 h3 => ⟨h1, h2, h3⟩
      have hgo : ∃ KK : Nat, KK = 0 := ⟨0, rfl⟩
      clear hgo
      cases all
      · skip
        go_wp2_with fail
        refine (H9.out.does (fun X h => flushAsid_c h 5)).mono ?_
        rintro e w10 ⟨rfl, h10, -⟩
        have HQ := key _ w10 h10 rfl (snd_as _ _)
        clear h10 H9 key
        generalize hsE : flAs { s with rg := some (4096, 5) } 5 = t at *
        clear hsE
        go_wp2_with fail
        refine (one_sound HQ.out.1).mono ?_
        rintro e w11 ⟨rfl, hb11⟩
        rw [HQ.out.2.2]
        have H11 := Hid.mk (HQ.out.1.later hb11)
        clear hb11
        go_wp2_with fail
        refine (one_mem H11.out).mono ?_
        rintro e w12 ⟨rfl, e12⟩
        obtain rfl : w11 = w12 := e12
        have hLR := Hid.mk (leaf_root (S := 1048576) H11.out.wfm HQ.out.2.1 HQ.out.2.2 va ⟨false, true, false⟩)
        have hAC := Hid.mk (fun W l' m' (h : One w W l' x a m' 1048576 16 t) (hm' : m' < 100000000) => h.does (fun X hM => access_c hM hm' 1 va 0 HVA.out (by decide) ⟨false, true, false⟩))
        rw [hLR.out] at hAC
        have hWK := Hid.mk (fun W (h : One w W [] x a m 1048576 16 t) => one_walk h va)
        have hAT := Hid.mk (accT_lt (S := 1048576) H11.out.wfm va ⟨false, true, false⟩)
        rw [hLR.out] at hAT
        have hRO : rootO 1048576 t.f 4096 va = if alignedB va 3 = false then (lf0, 5, 0) else (lfR (wk0 1048576 t.f 0 4096 va).2, ftR (wk0 1048576 t.f 0 4096 va).2) := rfl
        have hOK := Hid.mk (fun h8 => read_ok (S := 1048576) (f := t.f) (R := 4096) (va := va) (by decide) h8)
        have hFT : (ftR (wk0 1048576 t.f 0 4096 va).2).1 = 0 → (ftR (wk0 1048576 t.f 0 4096 va).2).2 = 0 := fun h => by
          unfold ftR at h ⊢
          split
          · rfl
          · rename_i hz; rw [if_neg hz] at h; exact absurd h hz
        clear hLR
        generalize rootO 1048576 t.f 4096 va = Q at *
        generalize lfR (wk0 1048576 t.f 0 4096 va).2 = lf at *
        generalize ftR (wk0 1048576 t.f 0 4096 va).2 = ft at *
        obtain ⟨l, k, o, u, r, y, q, tt⟩ := lf
        obtain ⟨f1, f2⟩ := ft
        simp only [Lf.cs] at *
        go_wp2_with fail
        refine (hWK.out _ H11.out).mono ?_
        rintro e w13 ⟨rfl, hb13⟩
        have H13 := Hid.mk (((H11.out.later hb13).own (.cells #[.int .i64 l, .int .i64 k, .int .u64 (o : Nat), .bool u, .bool r, .bool y, .bool q, .int .i64 tt] 62)).own (.cells #[.int .i64 f1, .int .i64 f2] 48))
        have gL := heap2_0 w13 (.cells #[.int .i64 l, .int .i64 k, .int .u64 (o : Nat), .bool u, .bool r, .bool y, .bool q, .int .i64 tt] 62) (.cells #[.int .i64 f1, .int .i64 f2] 48)
        have gF := heap_alloc2_new w13 (.cells #[.int .i64 l, .int .i64 k, .int .u64 (o : Nat), .bool u, .bool r, .bool y, .bool q, .int .i64 tt] 62) (.cells #[.int .i64 f1, .int .i64 f2] 48)
        have hlo := (H11.out.later hb13).bl.size
        have hsz1 : (w13.alloc (.cells #[.int .i64 l, .int .i64 k, .int .u64 (o : Nat), .bool u, .bool r, .bool y, .bool q, .int .i64 tt] 62)).heap.size = w13.heap.size + 1 := by simp
        rw [hsz1] at H13
        clear hb13 hWK hsz1
        go_upto_region 18 with fail
        generalize (w13.alloc (.cells #[.int .i64 l, .int .i64 k, .int .u64 (o : Nat), .bool u, .bool r, .bool y, .bool q, .int .i64 tt] 62)).alloc (.cells #[.int .i64 f1, .int .i64 f2] 48) = w14 at *
        generalize w13.heap.size = KL at *
        obtain ⟨k8, k9⟩ := TR.row2c gF
        by_cases hf1 : f1 = 0
        · have hf2 : f2 = 0 := hFT hf1
          subst hf1 hf2
          obtain ⟨⟨m0, m1, m2, m3, m4, m5, m6, m7⟩, -⟩ := cells8 gL
          have hLE := Hid.mk (fun W => let_any k o u r y q tt l 1 W)
          have hLZ : letK u r y q 1 = 0 → letL u r y q l 1 = 0 := letL_zero
          have hRK := Hid.mk (fun h8 => hOK.out h8 rfl)
          have hE1 : alignedB va 3 = true → accF Q 1 = (letK u r y q 1, letL u r y q l 1) := fun h => by
            rw [hRO, if_neg (by rw [h]; decide)]; exact if_pos rfl
          have hE2 : alignedB va 3 = true → accT Q.1 va = o + offV va l := fun h => by
            rw [hRO, if_neg (by rw [h]; decide)]; rfl
          clear hOK hFT
          generalize letK u r y q 1 = lk at *
          generalize letL u r y q l 1 = ll at *
          go_wp2_with fail
          refine (hLE.out _).mono ?_
          rintro e w15 ⟨rfl, hb15⟩
          replace gL := block_later hb15 gL
          replace gF := block_later hb15 gF
          replace H13 := Hid.mk (H13.out.later hb15)
          clear hb15 hLE k8 k9 m0 m1 m2 m3 m4 m5 m6 m7
          go_upto_region 20 with
            first
            | (refine wpList_store_segTo rfl 48 _ _ rfl rfl (KL + 1) 0 _ #[.int .i64 lk, .int .i64 ll] rfl rfl rfl 48 _ gF (show 0 + 2 ≤ 2 by decide) info_fault (by simp [Value.oneCell']) #[.int .i64 lk, .int .i64 ll] rfl ?_
               intro wv hrv htv)
            | fail
          replace H13 := Hid.mk (H13.out.put htv (fun i hi => ⟨by rw [hi]; simp, by rw [hi]; omega⟩))
          replace gL := block_turn htv gL (by omega)
          replace gF := hrv
          clear hrv htv
          by_cases h8 : va % 8 = 0
          · have hAL : alignedB va 3 = true := by rw [al8]; exact decide_eq_true h8
            have h8i : (va : Int) % 8 = 0 := by omega
            have e1 := hE1 hAL
            have e3 := hE2 hAL
            have HA := H13
            by_cases hlk : lk = 0
            · have hll := hLZ hlk
              subst hlk hll
              have e2 : accW t.f Q 1 va = t.f (o + offV va l) := by rw [← e3]; exact if_pos ⟨by rw [e1], by decide⟩
              have hER := hRK.out h8
              have hER2 : errA 1048576 (o + offV va l) = 0 := hER
              have hATT := hAT.out
              rw [e3] at hATT
              have HOU := Hid.mk (fun W => out_any l k o u r y q tt va HVA.out hATT W)
              clear hRO hE1 hE2 hLZ hRK hER hAT e3
              generalize hVV : t.f (o + offV va l) = VV at *
              have HOB := Hid.mk hATT
              have HAS : Hid ((accS 1048576 16 t 1 va 0 ⟨false, true, false⟩).f = t.f) := if_neg (fun c => absurd c.2 (by decide))
              have HVR := Hid.mk hVV
              have HER := Hid.mk hER2
              clear hATT hVV hER2
              generalize o + offV va l = AT at *
              go_wp2_with fail
              refine (hAC.out _ _ _ HA.out hic).mono ?_
              rintro e w17 ⟨he, h17, hk17⟩
              obtain rfl : e = .returned (.agg #[.int .i64 0, .int .i64 0, .int .u64 (VV : Nat)]) := he.trans (by rw [e1, e2] <;> rfl)
              replace gL := hk17.row (by simp) gL
              replace gF := hk17.row (by simp) gF
              have gR := heap_alloc_new w17 (.cells #[.int .i64 0, .int .i64 0, .int .u64 (VV : Nat)] 50)
              have hbR := below_new w17 (.cells #[.int .i64 0, .int .i64 0, .int .u64 (VV : Nat)] 50)
              have HF17 := Hid.mk (h17.later hbR)
              clear he h17 hk17 hAC
              go_upto_region 23 with fail
              generalize w17.alloc (.cells #[.int .i64 0, .int .i64 0, .int .u64 (VV : Nat)] 50) = w18 at *
              replace gL := block_later hbR gL
              replace gF := block_later hbR gF
              clear hbR
              generalize w17.heap.size = KR at *
              obtain ⟨k8, k9⟩ := TR.row2c gF
              obtain ⟨j0, j1, j2⟩ := cells3 gR
              obtain ⟨⟨k0, k1, k2, k3, k4, k5, k6, k7⟩, -⟩ := cells8 gL
              go_upto_region 25 with fail
              clear k8 k9 j0 j1 j2
              refine wp_region_noPanic ?_
              refine wp_region_held_drew (S := (fun w' => w'.cell? ⟨KL, 0, none⟩ = some (.int .i64 l) ∧ w'.cell? ⟨KL, 1, none⟩ = some (.int .i64 k) ∧ w'.cell? ⟨KL, 2, none⟩ = some (.int .u64 (o : Nat)) ∧ w'.cell? ⟨KL, 3, none⟩ = some (.bool u) ∧ w'.cell? ⟨KL, 4, none⟩ = some (.bool r) ∧ w'.cell? ⟨KL, 5, none⟩ = some (.bool y) ∧ w'.cell? ⟨KL, 6, none⟩ = some (.bool q) ∧ w'.cell? ⟨KL, 7, none⟩ = some (.int .i64 tt))) (by kernel_rfl) ?_ (fun hHeld => ?_)
              · exact ⟨cell_later (Below.refl _ _).drew k0, cell_later (Below.refl _ _).drew k1, cell_later (Below.refl _ _).drew k2, cell_later (Below.refl _ _).drew k3, cell_later (Below.refl _ _).drew k4, cell_later (Below.refl _ _).drew k5, cell_later (Below.refl _ _).drew k6, cell_later (Below.refl _ _).drew k7⟩
              replace k0 := cell_later (Below.refl _ w18).drew k0
              replace k1 := cell_later (Below.refl _ w18).drew k1
              replace k2 := cell_later (Below.refl _ w18).drew k2
              replace k3 := cell_later (Below.refl _ w18).drew k3
              replace k4 := cell_later (Below.refl _ w18).drew k4
              replace k5 := cell_later (Below.refl _ w18).drew k5
              replace k6 := cell_later (Below.refl _ w18).drew k6
              replace k7 := cell_later (Below.refl _ w18).drew k7
              refine TR.take_at (i := 0) (v := ?_) 86 rfl rfl (by kernel_rfl) (by kernel_rfl) (by kernel_rfl) (fun _ _ _ h => h) (Or.inl ⟨by rfl, ?_⟩) (by assumption) ?_
              rotate_left
              · (intro w' hSw; (try dsimp only at hSw); go_simp; all_goals with_reducible rfl)
              try simp only [Act.put, List.setIfInBounds_toArray, List.set_cons_zero, List.set_cons_succ]
              refine TR.take_at (i := 2) (v := ?_) 88 rfl rfl (by kernel_rfl) (by kernel_rfl) (by kernel_rfl) (fun _ _ _ h => h) (Or.inl ⟨by rfl, ?_⟩) (by assumption) ?_
              rotate_left
              · (intro w' hSw; (try dsimp only at hSw); go_simp; all_goals with_reducible rfl)
              try simp only [Act.put, List.setIfInBounds_toArray, List.set_cons_zero, List.set_cons_succ]
              refine TR.take_at (i := 3) (v := ?_) 89 rfl rfl (by kernel_rfl) (by kernel_rfl) (by kernel_rfl) (fun _ _ _ h => h) (Or.inl ⟨by rfl, ?_⟩) (by assumption) ?_
              rotate_left
              · (intro w' hSw; (try dsimp only at hSw); go_simp; all_goals with_reducible rfl)
              try simp only [Act.put, List.setIfInBounds_toArray, List.set_cons_zero, List.set_cons_succ]
              have HF18 := Hid.mk (HF17.out.later (Below.refl _ w18).drew)
              replace gR := block_later (Below.refl _ w18).drew gR
              generalize w18.drew = wd at *
              refine wpAnyH_ready (rs := [1]) (by kernel_rfl) (by simp) ?_
              refine AllReadyH.cons rfl (fun K hK => ?_) AllReadyH.nil
              go_simp
              refine (one_mem HF18.out).mono ?_
              rintro e v0 ⟨rfl, e0⟩
              obtain rfl : wd = v0 := e0
              go_wp2_with fail
              refine hK.out _ _ ⟨k0, k1, k2, k3, k4, k5, k6, k7⟩ (fun hHeldc0 => ?_)
              clear hK
              try simp only [Act.put, List.setIfInBounds_toArray, List.set_cons_zero, List.set_cons_succ]
              refine wpAnyH_ready (rs := [4]) (by kernel_rfl) (by simp) ?_
              refine AllReadyH.cons rfl (fun K hK => ?_) AllReadyH.nil
              go_simp
              refine (HOU.out _).mono ?_
              rintro e v1 ⟨rfl, hbm⟩
              go_wp2_with fail
              replace k0 := cell_later hbm k0
              replace k1 := cell_later hbm k1
              replace k2 := cell_later hbm k2
              replace k3 := cell_later hbm k3
              replace k4 := cell_later hbm k4
              replace k5 := cell_later hbm k5
              replace k6 := cell_later hbm k6
              replace k7 := cell_later hbm k7
              replace HF18 := Hid.mk (HF18.out.later hbm)
              replace gR := block_later hbm gR
              clear hbm
              refine hK.out _ _ ⟨k0, k1, k2, k3, k4, k5, k6, k7⟩ (fun hHeldc1 => ?_)
              clear hK
              try simp only [Act.put, List.setIfInBounds_toArray, List.set_cons_zero, List.set_cons_succ]
              refine wpAnyH_ready (rs := [5]) (by kernel_rfl) (by simp) ?_
              refine AllReadyH.cons rfl (fun K hK => ?_) AllReadyH.nil
              go_simp
              refine ((one_read HF18.out AT HOB.out).mono (fun e w' hh => show e = .returned (.tuple #[.int .u64 (VV : Nat), .int .i64 0]) ∧ Below _ _ w' from by rw [HAS.out, HVR.out, HER.out] at hh; exact hh)).mono ?_
              rintro e v2 ⟨rfl, hbm⟩
              go_wp2_with fail
              replace k0 := cell_later hbm k0
              replace k1 := cell_later hbm k1
              replace k2 := cell_later hbm k2
              replace k3 := cell_later hbm k3
              replace k4 := cell_later hbm k4
              replace k5 := cell_later hbm k5
              replace k6 := cell_later hbm k6
              replace k7 := cell_later hbm k7
              replace HF18 := Hid.mk (HF18.out.later hbm)
              replace gR := block_later hbm gR
              clear hbm
              refine hK.out _ _ ⟨k0, k1, k2, k3, k4, k5, k6, k7⟩ (fun hHeldc2 => ?_)
              clear hK
              try simp only [Act.put, List.setIfInBounds_toArray, List.set_cons_zero, List.set_cons_succ]
              refine TR.take_at (i := 6) (v := ?_) 85 rfl rfl (by kernel_rfl) (by kernel_rfl) (by kernel_rfl) (fun _ _ _ h => h) (Or.inl ⟨by rfl, ?_⟩) (by assumption) ?_
              rotate_left
              · (intro w' hSw; (try dsimp only at hSw); go_simp; all_goals with_reducible rfl)
              try simp only [Act.put, List.setIfInBounds_toArray, List.set_cons_zero, List.set_cons_succ]
              refine TR.take_at (i := 7) (v := ?_) 92 rfl rfl (by kernel_rfl) (by kernel_rfl) (by kernel_rfl) (fun _ _ _ h => h) (Or.inl ⟨by rfl, ?_⟩) (by assumption) ?_
              rotate_left
              · (intro w' hSw; (try dsimp only at hSw); go_simp; all_goals with_reducible rfl)
              try simp only [Act.put, List.setIfInBounds_toArray, List.set_cons_zero, List.set_cons_succ]
              refine TR.take_at (i := 8) (v := ?_) 93 rfl rfl (by kernel_rfl) (by kernel_rfl) (by kernel_rfl) (fun _ _ _ h => h) (Or.inl ⟨by rfl, ?_⟩) (by assumption) ?_
              rotate_left
              · (intro w' hSw; (try dsimp only at hSw); go_simp; all_goals with_reducible rfl)
              try simp only [Act.put, List.setIfInBounds_toArray, List.set_cons_zero, List.set_cons_succ]
              refine TR.take_at (i := 9) (v := ?_) 17 rfl rfl (by kernel_rfl) (by kernel_rfl) (by kernel_rfl) (fun _ _ _ h => h) (Or.inl ⟨by rfl, ?_⟩) (by assumption) ?_
              rotate_left
              · (intro w' hSw; (try dsimp only at hSw); go_simp; all_goals with_reducible rfl)
              try simp only [Act.put, List.setIfInBounds_toArray, List.set_cons_zero, List.set_cons_succ]
              refine TR.take_at (i := 10) (v := ?_) 18 rfl rfl (by kernel_rfl) (by kernel_rfl) (by kernel_rfl) (fun _ _ _ h => h) (Or.inl ⟨by rfl, ?_⟩) (by assumption) ?_
              rotate_left
              · (intro w' hSw; (try dsimp only at hSw); go_simp; all_goals with_reducible rfl)
              try simp only [Act.put, List.setIfInBounds_toArray, List.set_cons_zero, List.set_cons_succ]
              refine wpAnyH_done (by kernel_rfl) ?_ _
              refine NoPanic.normal ?_
              clear k0 k1 k2 k3 k4 k5 k6 k7
              obtain ⟨j0, j1, j2⟩ := cells3 gR
              go_wp2
              go_ret
              exact ⟨rfl, HF18.out.bl⟩
            · have e2 : accW t.f Q 1 va = 0 := if_neg (fun c => hlk (by have := c.1; rw [e1] at this; exact this))
              clear hRO hE1 hE2 hLZ hRK hAT e3
              go_wp2_with fail
              refine (hAC.out _ _ _ HA.out hic).mono ?_
              rintro e w17 ⟨he, h17, hk17⟩
              obtain rfl : e = .returned (.agg #[.int .i64 lk, .int .i64 ll, .int .u64 0]) := he.trans (by rw [e1, e2] <;> rfl)
              replace gL := hk17.row (by simp) gL
              replace gF := hk17.row (by simp) gF
              have gR := heap_alloc_new w17 (.cells #[.int .i64 lk, .int .i64 ll, .int .u64 0] 50)
              have hbR := below_new w17 (.cells #[.int .i64 lk, .int .i64 ll, .int .u64 0] 50)
              have HF17 := Hid.mk (h17.later hbR)
              clear he h17 hk17 hAC
              go_upto_region 23 with fail
              generalize w17.alloc (.cells #[.int .i64 lk, .int .i64 ll, .int .u64 0] 50) = w18 at *
              replace gL := block_later hbR gL
              replace gF := block_later hbR gF
              clear hbR
              generalize w17.heap.size = KR at *
              obtain ⟨k8, k9⟩ := TR.row2c gF
              obtain ⟨j0, j1, j2⟩ := cells3 gR
              go_wp2
              go_ret
              exact ⟨rfl, HF17.out.bl⟩
          · clear hE1 hE2 hLZ hRK hAT
            have hAL : alignedB va 3 = false := by rw [al8]; exact decide_eq_false h8
            have hQ : Q = (lf0, 5, 0) := by rw [hRO, if_pos hAL]
            have e1 : accF Q 1 = (5, 0) := by rw [hQ]; exact if_neg (by decide)
            have e2 : accW t.f Q 1 va = 0 := if_neg (fun c => absurd c.1 (by rw [e1]; decide))
            have h8i : ¬ (va : Int) % 8 = 0 := by omega
            clear hRO hQ hAL
            go_upto_region 22 with
              first
              | (refine wpList_store_segTo rfl 48 _ _ rfl rfl (KL + 1) 0 _ #[.int .i64 5, .int .i64 0] rfl rfl rfl 48 _ gF (show 0 + 2 ≤ 2 by decide) info_fault (by simp [Value.oneCell']) #[.int .i64 5, .int .i64 0] rfl ?_
                 intro wu hru htu)
              | fail
            have HA := Hid.mk (H13.out.put htu (fun i hi => ⟨by rw [hi]; simp, by rw [hi]; omega⟩))
            replace gL := block_turn htu gL (by omega)
            have gF := hru
            clear h8i
            go_wp2_with fail
            refine (hAC.out _ _ _ HA.out hic).mono ?_
            rintro e w17 ⟨he, h17, hk17⟩
            obtain rfl : e = .returned (.agg #[.int .i64 5, .int .i64 0, .int .u64 0]) := he.trans (by rw [e1, e2] <;> rfl)
            replace gL := hk17.row (by simp) gL
            replace gF := hk17.row (by simp) gF
            have gR := heap_alloc_new w17 (.cells #[.int .i64 5, .int .i64 0, .int .u64 0] 50)
            have hbR := below_new w17 (.cells #[.int .i64 5, .int .i64 0, .int .u64 0] 50)
            have HF17 := Hid.mk (h17.later hbR)
            clear he h17 hk17 hAC
            go_upto_region 23 with fail
            generalize w17.alloc (.cells #[.int .i64 5, .int .i64 0, .int .u64 0] 50) = w18 at *
            replace gL := block_later hbR gL
            replace gF := block_later hbR gF
            clear hbR
            generalize w17.heap.size = KR at *
            obtain ⟨k8, k9⟩ := TR.row2c gF
            obtain ⟨j0, j1, j2⟩ := cells3 gR
            go_wp2
            go_ret
            exact ⟨rfl, HF17.out.bl⟩
        · clear hOK hAT hFT
          by_cases h8 : va % 8 = 0
          · have hAL : alignedB va 3 = true := by rw [al8]; exact decide_eq_true h8
            have h8i : (va : Int) % 8 = 0 := by omega
            have HA := H13
            have e1 : accF Q 1 = (f1, f2) := by rw [hRO, if_neg (by rw [hAL]; decide)]; exact if_neg hf1
            have e2 : accW t.f Q 1 va = 0 := if_neg (fun c => hf1 (by have := c.1; rw [e1] at this; exact this))
            clear hRO
            go_wp2_with fail
            refine (hAC.out _ _ _ HA.out hic).mono ?_
            rintro e w17 ⟨he, h17, hk17⟩
            obtain rfl : e = .returned (.agg #[.int .i64 f1, .int .i64 f2, .int .u64 0]) := he.trans (by rw [e1, e2] <;> rfl)
            replace gL := hk17.row (by simp) gL
            replace gF := hk17.row (by simp) gF
            have gR := heap_alloc_new w17 (.cells #[.int .i64 f1, .int .i64 f2, .int .u64 0] 50)
            have hbR := below_new w17 (.cells #[.int .i64 f1, .int .i64 f2, .int .u64 0] 50)
            have HF17 := Hid.mk (h17.later hbR)
            clear he h17 hk17 hAC
            go_upto_region 23 with fail
            generalize w17.alloc (.cells #[.int .i64 f1, .int .i64 f2, .int .u64 0] 50) = w18 at *
            replace gL := block_later hbR gL
            replace gF := block_later hbR gF
            clear hbR
            generalize w17.heap.size = KR at *
            obtain ⟨k8, k9⟩ := TR.row2c gF
            obtain ⟨j0, j1, j2⟩ := cells3 gR
            go_wp2
            go_ret
            exact ⟨rfl, HF17.out.bl⟩
          · skip
            have hAL : alignedB va 3 = false := by rw [al8]; exact decide_eq_false h8
            have hQ : Q = (lf0, 5, 0) := by rw [hRO, if_pos hAL]
            have e1 : accF Q 1 = (5, 0) := by rw [hQ]; exact if_neg (by decide)
            have e2 : accW t.f Q 1 va = 0 := if_neg (fun c => absurd c.1 (by rw [e1]; decide))
            have h8i : ¬ (va : Int) % 8 = 0 := by omega
            clear hRO hQ hAL
            go_upto_region 22 with
              first
              | (refine wpList_store_segTo rfl 48 _ _ rfl rfl (KL + 1) 0 _ #[.int .i64 5, .int .i64 0] rfl rfl rfl 48 _ gF (show 0 + 2 ≤ 2 by decide) info_fault (by simp [Value.oneCell']) #[.int .i64 5, .int .i64 0] rfl ?_
                 intro wu hru htu)
              | fail
            have HA := Hid.mk (H13.out.put htu (fun i hi => ⟨by rw [hi]; simp, by rw [hi]; omega⟩))
            replace gL := block_turn htu gL (by omega)
            have gF := hru
            clear h8i
            go_wp2_with fail
            refine (hAC.out _ _ _ HA.out hic).mono ?_
            rintro e w17 ⟨he, h17, hk17⟩
            obtain rfl : e = .returned (.agg #[.int .i64 5, .int .i64 0, .int .u64 0]) := he.trans (by rw [e1, e2] <;> rfl)
            replace gL := hk17.row (by simp) gL
            replace gF := hk17.row (by simp) gF
            have gR := heap_alloc_new w17 (.cells #[.int .i64 5, .int .i64 0, .int .u64 0] 50)
            have hbR := below_new w17 (.cells #[.int .i64 5, .int .i64 0, .int .u64 0] 50)
            have HF17 := Hid.mk (h17.later hbR)
            clear he h17 hk17 hAC
            go_upto_region 23 with fail
            generalize w17.alloc (.cells #[.int .i64 5, .int .i64 0, .int .u64 0] 50) = w18 at *
            replace gL := block_later hbR gL
            replace gF := block_later hbR gF
            clear hbR
            generalize w17.heap.size = KR at *
            obtain ⟨k8, k9⟩ := TR.row2c gF
            obtain ⟨j0, j1, j2⟩ := cells3 gR
            go_wp2
            go_ret
            exact ⟨rfl, HF17.out.bl⟩
      · skip
        go_wp2_with fail
        refine (H9.out.does (fun X h => flushAll_c h)).mono ?_
        rintro e w10 ⟨rfl, h10, -⟩
        have HQ := key _ w10 h10 rfl (snd_all _ _)
        clear h10 H9 key
        generalize hsE : flAll { s with rg := some (4096, 5) } = t at *
        clear hsE
        go_wp2_with fail
        refine (one_sound HQ.out.1).mono ?_
        rintro e w11 ⟨rfl, hb11⟩
        rw [HQ.out.2.2]
        have H11 := Hid.mk (HQ.out.1.later hb11)
        clear hb11
        go_wp2_with fail
        refine (one_mem H11.out).mono ?_
        rintro e w12 ⟨rfl, e12⟩
        obtain rfl : w11 = w12 := e12
        have hLR := Hid.mk (leaf_root (S := 1048576) H11.out.wfm HQ.out.2.1 HQ.out.2.2 va ⟨false, true, false⟩)
        have hAC := Hid.mk (fun W l' m' (h : One w W l' x a m' 1048576 16 t) (hm' : m' < 100000000) => h.does (fun X hM => access_c hM hm' 1 va 0 HVA.out (by decide) ⟨false, true, false⟩))
        rw [hLR.out] at hAC
        have hWK := Hid.mk (fun W (h : One w W [] x a m 1048576 16 t) => one_walk h va)
        have hAT := Hid.mk (accT_lt (S := 1048576) H11.out.wfm va ⟨false, true, false⟩)
        rw [hLR.out] at hAT
        have hRO : rootO 1048576 t.f 4096 va = if alignedB va 3 = false then (lf0, 5, 0) else (lfR (wk0 1048576 t.f 0 4096 va).2, ftR (wk0 1048576 t.f 0 4096 va).2) := rfl
        have hOK := Hid.mk (fun h8 => read_ok (S := 1048576) (f := t.f) (R := 4096) (va := va) (by decide) h8)
        have hFT : (ftR (wk0 1048576 t.f 0 4096 va).2).1 = 0 → (ftR (wk0 1048576 t.f 0 4096 va).2).2 = 0 := fun h => by
          unfold ftR at h ⊢
          split
          · rfl
          · rename_i hz; rw [if_neg hz] at h; exact absurd h hz
        clear hLR
        generalize rootO 1048576 t.f 4096 va = Q at *
        generalize lfR (wk0 1048576 t.f 0 4096 va).2 = lf at *
        generalize ftR (wk0 1048576 t.f 0 4096 va).2 = ft at *
        obtain ⟨l, k, o, u, r, y, q, tt⟩ := lf
        obtain ⟨f1, f2⟩ := ft
        simp only [Lf.cs] at *
        go_wp2_with fail
        refine (hWK.out _ H11.out).mono ?_
        rintro e w13 ⟨rfl, hb13⟩
        have H13 := Hid.mk (((H11.out.later hb13).own (.cells #[.int .i64 l, .int .i64 k, .int .u64 (o : Nat), .bool u, .bool r, .bool y, .bool q, .int .i64 tt] 62)).own (.cells #[.int .i64 f1, .int .i64 f2] 48))
        have gL := heap2_0 w13 (.cells #[.int .i64 l, .int .i64 k, .int .u64 (o : Nat), .bool u, .bool r, .bool y, .bool q, .int .i64 tt] 62) (.cells #[.int .i64 f1, .int .i64 f2] 48)
        have gF := heap_alloc2_new w13 (.cells #[.int .i64 l, .int .i64 k, .int .u64 (o : Nat), .bool u, .bool r, .bool y, .bool q, .int .i64 tt] 62) (.cells #[.int .i64 f1, .int .i64 f2] 48)
        have hlo := (H11.out.later hb13).bl.size
        have hsz1 : (w13.alloc (.cells #[.int .i64 l, .int .i64 k, .int .u64 (o : Nat), .bool u, .bool r, .bool y, .bool q, .int .i64 tt] 62)).heap.size = w13.heap.size + 1 := by simp
        rw [hsz1] at H13
        clear hb13 hWK hsz1
        go_upto_region 18 with fail
        generalize (w13.alloc (.cells #[.int .i64 l, .int .i64 k, .int .u64 (o : Nat), .bool u, .bool r, .bool y, .bool q, .int .i64 tt] 62)).alloc (.cells #[.int .i64 f1, .int .i64 f2] 48) = w14 at *
        generalize w13.heap.size = KL at *
        obtain ⟨k8, k9⟩ := TR.row2c gF
        by_cases hf1 : f1 = 0
        · have hf2 : f2 = 0 := hFT hf1
          subst hf1 hf2
          obtain ⟨⟨m0, m1, m2, m3, m4, m5, m6, m7⟩, -⟩ := cells8 gL
          have hLE := Hid.mk (fun W => let_any k o u r y q tt l 1 W)
          have hLZ : letK u r y q 1 = 0 → letL u r y q l 1 = 0 := letL_zero
          have hRK := Hid.mk (fun h8 => hOK.out h8 rfl)
          have hE1 : alignedB va 3 = true → accF Q 1 = (letK u r y q 1, letL u r y q l 1) := fun h => by
            rw [hRO, if_neg (by rw [h]; decide)]; exact if_pos rfl
          have hE2 : alignedB va 3 = true → accT Q.1 va = o + offV va l := fun h => by
            rw [hRO, if_neg (by rw [h]; decide)]; rfl
          clear hOK hFT
          generalize letK u r y q 1 = lk at *
          generalize letL u r y q l 1 = ll at *
          go_wp2_with fail
          refine (hLE.out _).mono ?_
          rintro e w15 ⟨rfl, hb15⟩
          replace gL := block_later hb15 gL
          replace gF := block_later hb15 gF
          replace H13 := Hid.mk (H13.out.later hb15)
          clear hb15 hLE k8 k9 m0 m1 m2 m3 m4 m5 m6 m7
          go_upto_region 20 with
            first
            | (refine wpList_store_segTo rfl 48 _ _ rfl rfl (KL + 1) 0 _ #[.int .i64 lk, .int .i64 ll] rfl rfl rfl 48 _ gF (show 0 + 2 ≤ 2 by decide) info_fault (by simp [Value.oneCell']) #[.int .i64 lk, .int .i64 ll] rfl ?_
               intro wv hrv htv)
            | fail
          replace H13 := Hid.mk (H13.out.put htv (fun i hi => ⟨by rw [hi]; simp, by rw [hi]; omega⟩))
          replace gL := block_turn htv gL (by omega)
          replace gF := hrv
          clear hrv htv
          by_cases h8 : va % 8 = 0
          · have hAL : alignedB va 3 = true := by rw [al8]; exact decide_eq_true h8
            have h8i : (va : Int) % 8 = 0 := by omega
            have e1 := hE1 hAL
            have e3 := hE2 hAL
            have HA := H13
            by_cases hlk : lk = 0
            · have hll := hLZ hlk
              subst hlk hll
              have e2 : accW t.f Q 1 va = t.f (o + offV va l) := by rw [← e3]; exact if_pos ⟨by rw [e1], by decide⟩
              have hER := hRK.out h8
              have hER2 : errA 1048576 (o + offV va l) = 0 := hER
              have hATT := hAT.out
              rw [e3] at hATT
              have HOU := Hid.mk (fun W => out_any l k o u r y q tt va HVA.out hATT W)
              clear hRO hE1 hE2 hLZ hRK hER hAT e3
              generalize hVV : t.f (o + offV va l) = VV at *
              have HOB := Hid.mk hATT
              have HAS : Hid ((accS 1048576 16 t 1 va 0 ⟨false, true, false⟩).f = t.f) := if_neg (fun c => absurd c.2 (by decide))
              have HVR := Hid.mk hVV
              have HER := Hid.mk hER2
              clear hATT hVV hER2
              generalize o + offV va l = AT at *
              go_wp2_with fail
              refine (hAC.out _ _ _ HA.out hic).mono ?_
              rintro e w17 ⟨he, h17, hk17⟩
              obtain rfl : e = .returned (.agg #[.int .i64 0, .int .i64 0, .int .u64 (VV : Nat)]) := he.trans (by rw [e1, e2] <;> rfl)
              replace gL := hk17.row (by simp) gL
              replace gF := hk17.row (by simp) gF
              have gR := heap_alloc_new w17 (.cells #[.int .i64 0, .int .i64 0, .int .u64 (VV : Nat)] 50)
              have hbR := below_new w17 (.cells #[.int .i64 0, .int .i64 0, .int .u64 (VV : Nat)] 50)
              have HF17 := Hid.mk (h17.later hbR)
              clear he h17 hk17 hAC
              go_upto_region 23 with fail
              generalize w17.alloc (.cells #[.int .i64 0, .int .i64 0, .int .u64 (VV : Nat)] 50) = w18 at *
              replace gL := block_later hbR gL
              replace gF := block_later hbR gF
              clear hbR
              generalize w17.heap.size = KR at *
              obtain ⟨k8, k9⟩ := TR.row2c gF
              obtain ⟨j0, j1, j2⟩ := cells3 gR
              obtain ⟨⟨k0, k1, k2, k3, k4, k5, k6, k7⟩, -⟩ := cells8 gL
              go_upto_region 25 with fail
              clear k8 k9 j0 j1 j2
              refine wp_region_noPanic ?_
              refine wp_region_held_drew (S := (fun w' => w'.cell? ⟨KL, 0, none⟩ = some (.int .i64 l) ∧ w'.cell? ⟨KL, 1, none⟩ = some (.int .i64 k) ∧ w'.cell? ⟨KL, 2, none⟩ = some (.int .u64 (o : Nat)) ∧ w'.cell? ⟨KL, 3, none⟩ = some (.bool u) ∧ w'.cell? ⟨KL, 4, none⟩ = some (.bool r) ∧ w'.cell? ⟨KL, 5, none⟩ = some (.bool y) ∧ w'.cell? ⟨KL, 6, none⟩ = some (.bool q) ∧ w'.cell? ⟨KL, 7, none⟩ = some (.int .i64 tt))) (by kernel_rfl) ?_ (fun hHeld => ?_)
              · exact ⟨cell_later (Below.refl _ _).drew k0, cell_later (Below.refl _ _).drew k1, cell_later (Below.refl _ _).drew k2, cell_later (Below.refl _ _).drew k3, cell_later (Below.refl _ _).drew k4, cell_later (Below.refl _ _).drew k5, cell_later (Below.refl _ _).drew k6, cell_later (Below.refl _ _).drew k7⟩
              replace k0 := cell_later (Below.refl _ w18).drew k0
              replace k1 := cell_later (Below.refl _ w18).drew k1
              replace k2 := cell_later (Below.refl _ w18).drew k2
              replace k3 := cell_later (Below.refl _ w18).drew k3
              replace k4 := cell_later (Below.refl _ w18).drew k4
              replace k5 := cell_later (Below.refl _ w18).drew k5
              replace k6 := cell_later (Below.refl _ w18).drew k6
              replace k7 := cell_later (Below.refl _ w18).drew k7
              refine TR.take_at (i := 0) (v := ?_) 86 rfl rfl (by kernel_rfl) (by kernel_rfl) (by kernel_rfl) (fun _ _ _ h => h) (Or.inl ⟨by rfl, ?_⟩) (by assumption) ?_
              rotate_left
              · (intro w' hSw; (try dsimp only at hSw); go_simp; all_goals with_reducible rfl)
              try simp only [Act.put, List.setIfInBounds_toArray, List.set_cons_zero, List.set_cons_succ]
              refine TR.take_at (i := 2) (v := ?_) 88 rfl rfl (by kernel_rfl) (by kernel_rfl) (by kernel_rfl) (fun _ _ _ h => h) (Or.inl ⟨by rfl, ?_⟩) (by assumption) ?_
              rotate_left
              · (intro w' hSw; (try dsimp only at hSw); go_simp; all_goals with_reducible rfl)
              try simp only [Act.put, List.setIfInBounds_toArray, List.set_cons_zero, List.set_cons_succ]
              refine TR.take_at (i := 3) (v := ?_) 89 rfl rfl (by kernel_rfl) (by kernel_rfl) (by kernel_rfl) (fun _ _ _ h => h) (Or.inl ⟨by rfl, ?_⟩) (by assumption) ?_
              rotate_left
              · (intro w' hSw; (try dsimp only at hSw); go_simp; all_goals with_reducible rfl)
              try simp only [Act.put, List.setIfInBounds_toArray, List.set_cons_zero, List.set_cons_succ]
              have HF18 := Hid.mk (HF17.out.later (Below.refl _ w18).drew)
              replace gR := block_later (Below.refl _ w18).drew gR
              generalize w18.drew = wd at *
              refine wpAnyH_ready (rs := [1]) (by kernel_rfl) (by simp) ?_
              refine AllReadyH.cons rfl (fun K hK => ?_) AllReadyH.nil
              go_simp
              refine (one_mem HF18.out).mono ?_
              rintro e v0 ⟨rfl, e0⟩
              obtain rfl : wd = v0 := e0
              go_wp2_with fail
              refine hK.out _ _ ⟨k0, k1, k2, k3, k4, k5, k6, k7⟩ (fun hHeldc0 => ?_)
              clear hK
              try simp only [Act.put, List.setIfInBounds_toArray, List.set_cons_zero, List.set_cons_succ]
              refine wpAnyH_ready (rs := [4]) (by kernel_rfl) (by simp) ?_
              refine AllReadyH.cons rfl (fun K hK => ?_) AllReadyH.nil
              go_simp
              refine (HOU.out _).mono ?_
              rintro e v1 ⟨rfl, hbm⟩
              go_wp2_with fail
              replace k0 := cell_later hbm k0
              replace k1 := cell_later hbm k1
              replace k2 := cell_later hbm k2
              replace k3 := cell_later hbm k3
              replace k4 := cell_later hbm k4
              replace k5 := cell_later hbm k5
              replace k6 := cell_later hbm k6
              replace k7 := cell_later hbm k7
              replace HF18 := Hid.mk (HF18.out.later hbm)
              replace gR := block_later hbm gR
              clear hbm
              refine hK.out _ _ ⟨k0, k1, k2, k3, k4, k5, k6, k7⟩ (fun hHeldc1 => ?_)
              clear hK
              try simp only [Act.put, List.setIfInBounds_toArray, List.set_cons_zero, List.set_cons_succ]
              refine wpAnyH_ready (rs := [5]) (by kernel_rfl) (by simp) ?_
              refine AllReadyH.cons rfl (fun K hK => ?_) AllReadyH.nil
              go_simp
              refine ((one_read HF18.out AT HOB.out).mono (fun e w' hh => show e = .returned (.tuple #[.int .u64 (VV : Nat), .int .i64 0]) ∧ Below _ _ w' from by rw [HAS.out, HVR.out, HER.out] at hh; exact hh)).mono ?_
              rintro e v2 ⟨rfl, hbm⟩
              go_wp2_with fail
              replace k0 := cell_later hbm k0
              replace k1 := cell_later hbm k1
              replace k2 := cell_later hbm k2
              replace k3 := cell_later hbm k3
              replace k4 := cell_later hbm k4
              replace k5 := cell_later hbm k5
              replace k6 := cell_later hbm k6
              replace k7 := cell_later hbm k7
              replace HF18 := Hid.mk (HF18.out.later hbm)
              replace gR := block_later hbm gR
              clear hbm
              refine hK.out _ _ ⟨k0, k1, k2, k3, k4, k5, k6, k7⟩ (fun hHeldc2 => ?_)
              clear hK
              try simp only [Act.put, List.setIfInBounds_toArray, List.set_cons_zero, List.set_cons_succ]
              refine TR.take_at (i := 6) (v := ?_) 85 rfl rfl (by kernel_rfl) (by kernel_rfl) (by kernel_rfl) (fun _ _ _ h => h) (Or.inl ⟨by rfl, ?_⟩) (by assumption) ?_
              rotate_left
              · (intro w' hSw; (try dsimp only at hSw); go_simp; all_goals with_reducible rfl)
              try simp only [Act.put, List.setIfInBounds_toArray, List.set_cons_zero, List.set_cons_succ]
              refine TR.take_at (i := 7) (v := ?_) 92 rfl rfl (by kernel_rfl) (by kernel_rfl) (by kernel_rfl) (fun _ _ _ h => h) (Or.inl ⟨by rfl, ?_⟩) (by assumption) ?_
              rotate_left
              · (intro w' hSw; (try dsimp only at hSw); go_simp; all_goals with_reducible rfl)
              try simp only [Act.put, List.setIfInBounds_toArray, List.set_cons_zero, List.set_cons_succ]
              refine TR.take_at (i := 8) (v := ?_) 93 rfl rfl (by kernel_rfl) (by kernel_rfl) (by kernel_rfl) (fun _ _ _ h => h) (Or.inl ⟨by rfl, ?_⟩) (by assumption) ?_
              rotate_left
              · (intro w' hSw; (try dsimp only at hSw); go_simp; all_goals with_reducible rfl)
              try simp only [Act.put, List.setIfInBounds_toArray, List.set_cons_zero, List.set_cons_succ]
              refine TR.take_at (i := 9) (v := ?_) 17 rfl rfl (by kernel_rfl) (by kernel_rfl) (by kernel_rfl) (fun _ _ _ h => h) (Or.inl ⟨by rfl, ?_⟩) (by assumption) ?_
              rotate_left
              · (intro w' hSw; (try dsimp only at hSw); go_simp; all_goals with_reducible rfl)
              try simp only [Act.put, List.setIfInBounds_toArray, List.set_cons_zero, List.set_cons_succ]
              refine TR.take_at (i := 10) (v := ?_) 18 rfl rfl (by kernel_rfl) (by kernel_rfl) (by kernel_rfl) (fun _ _ _ h => h) (Or.inl ⟨by rfl, ?_⟩) (by assumption) ?_
              rotate_left
              · (intro w' hSw; (try dsimp only at hSw); go_simp; all_goals with_reducible rfl)
              try simp only [Act.put, List.setIfInBounds_toArray, List.set_cons_zero, List.set_cons_succ]
              refine wpAnyH_done (by kernel_rfl) ?_ _
              refine NoPanic.normal ?_
              clear k0 k1 k2 k3 k4 k5 k6 k7
              obtain ⟨j0, j1, j2⟩ := cells3 gR
              go_wp2
              go_ret
              exact ⟨rfl, HF18.out.bl⟩
            · have e2 : accW t.f Q 1 va = 0 := if_neg (fun c => hlk (by have := c.1; rw [e1] at this; exact this))
              clear hRO hE1 hE2 hLZ hRK hAT e3
              go_wp2_with fail
              refine (hAC.out _ _ _ HA.out hic).mono ?_
              rintro e w17 ⟨he, h17, hk17⟩
              obtain rfl : e = .returned (.agg #[.int .i64 lk, .int .i64 ll, .int .u64 0]) := he.trans (by rw [e1, e2] <;> rfl)
              replace gL := hk17.row (by simp) gL
              replace gF := hk17.row (by simp) gF
              have gR := heap_alloc_new w17 (.cells #[.int .i64 lk, .int .i64 ll, .int .u64 0] 50)
              have hbR := below_new w17 (.cells #[.int .i64 lk, .int .i64 ll, .int .u64 0] 50)
              have HF17 := Hid.mk (h17.later hbR)
              clear he h17 hk17 hAC
              go_upto_region 23 with fail
              generalize w17.alloc (.cells #[.int .i64 lk, .int .i64 ll, .int .u64 0] 50) = w18 at *
              replace gL := block_later hbR gL
              replace gF := block_later hbR gF
              clear hbR
              generalize w17.heap.size = KR at *
              obtain ⟨k8, k9⟩ := TR.row2c gF
              obtain ⟨j0, j1, j2⟩ := cells3 gR
              go_wp2
              go_ret
              exact ⟨rfl, HF17.out.bl⟩
          · clear hE1 hE2 hLZ hRK hAT
            have hAL : alignedB va 3 = false := by rw [al8]; exact decide_eq_false h8
            have hQ : Q = (lf0, 5, 0) := by rw [hRO, if_pos hAL]
            have e1 : accF Q 1 = (5, 0) := by rw [hQ]; exact if_neg (by decide)
            have e2 : accW t.f Q 1 va = 0 := if_neg (fun c => absurd c.1 (by rw [e1]; decide))
            have h8i : ¬ (va : Int) % 8 = 0 := by omega
            clear hRO hQ hAL
            go_upto_region 22 with
              first
              | (refine wpList_store_segTo rfl 48 _ _ rfl rfl (KL + 1) 0 _ #[.int .i64 5, .int .i64 0] rfl rfl rfl 48 _ gF (show 0 + 2 ≤ 2 by decide) info_fault (by simp [Value.oneCell']) #[.int .i64 5, .int .i64 0] rfl ?_
                 intro wu hru htu)
              | fail
            have HA := Hid.mk (H13.out.put htu (fun i hi => ⟨by rw [hi]; simp, by rw [hi]; omega⟩))
            replace gL := block_turn htu gL (by omega)
            have gF := hru
            clear h8i
            go_wp2_with fail
            refine (hAC.out _ _ _ HA.out hic).mono ?_
            rintro e w17 ⟨he, h17, hk17⟩
            obtain rfl : e = .returned (.agg #[.int .i64 5, .int .i64 0, .int .u64 0]) := he.trans (by rw [e1, e2] <;> rfl)
            replace gL := hk17.row (by simp) gL
            replace gF := hk17.row (by simp) gF
            have gR := heap_alloc_new w17 (.cells #[.int .i64 5, .int .i64 0, .int .u64 0] 50)
            have hbR := below_new w17 (.cells #[.int .i64 5, .int .i64 0, .int .u64 0] 50)
            have HF17 := Hid.mk (h17.later hbR)
            clear he h17 hk17 hAC
            go_upto_region 23 with fail
            generalize w17.alloc (.cells #[.int .i64 5, .int .i64 0, .int .u64 0] 50) = w18 at *
            replace gL := block_later hbR gL
            replace gF := block_later hbR gF
            clear hbR
            generalize w17.heap.size = KR at *
            obtain ⟨k8, k9⟩ := TR.row2c gF
            obtain ⟨j0, j1, j2⟩ := cells3 gR
            go_wp2
            go_ret
            exact ⟨rfl, HF17.out.bl⟩
        · clear hOK hAT hFT
          by_cases h8 : va % 8 = 0
          · have hAL : alignedB va 3 = true := by rw [al8]; exact decide_eq_true h8
            have h8i : (va : Int) % 8 = 0 := by omega
            have HA := H13
            have e1 : accF Q 1 = (f1, f2) := by rw [hRO, if_neg (by rw [hAL]; decide)]; exact if_neg hf1
            have e2 : accW t.f Q 1 va = 0 := if_neg (fun c => hf1 (by have := c.1; rw [e1] at this; exact this))
            clear hRO
            go_wp2_with fail
            refine (hAC.out _ _ _ HA.out hic).mono ?_
            rintro e w17 ⟨he, h17, hk17⟩
            obtain rfl : e = .returned (.agg #[.int .i64 f1, .int .i64 f2, .int .u64 0]) := he.trans (by rw [e1, e2] <;> rfl)
            replace gL := hk17.row (by simp) gL
            replace gF := hk17.row (by simp) gF
            have gR := heap_alloc_new w17 (.cells #[.int .i64 f1, .int .i64 f2, .int .u64 0] 50)
            have hbR := below_new w17 (.cells #[.int .i64 f1, .int .i64 f2, .int .u64 0] 50)
            have HF17 := Hid.mk (h17.later hbR)
            clear he h17 hk17 hAC
            go_upto_region 23 with fail
            generalize w17.alloc (.cells #[.int .i64 f1, .int .i64 f2, .int .u64 0] 50) = w18 at *
            replace gL := block_later hbR gL
            replace gF := block_later hbR gF
            clear hbR
            generalize w17.heap.size = KR at *
            obtain ⟨k8, k9⟩ := TR.row2c gF
            obtain ⟨j0, j1, j2⟩ := cells3 gR
            go_wp2
            go_ret
            exact ⟨rfl, HF17.out.bl⟩
          · skip
            have hAL : alignedB va 3 = false := by rw [al8]; exact decide_eq_false h8
            have hQ : Q = (lf0, 5, 0) := by rw [hRO, if_pos hAL]
            have e1 : accF Q 1 = (5, 0) := by rw [hQ]; exact if_neg (by decide)
            have e2 : accW t.f Q 1 va = 0 := if_neg (fun c => absurd c.1 (by rw [e1]; decide))
            have h8i : ¬ (va : Int) % 8 = 0 := by omega
            clear hRO hQ hAL
            go_upto_region 22 with
              first
              | (refine wpList_store_segTo rfl 48 _ _ rfl rfl (KL + 1) 0 _ #[.int .i64 5, .int .i64 0] rfl rfl rfl 48 _ gF (show 0 + 2 ≤ 2 by decide) info_fault (by simp [Value.oneCell']) #[.int .i64 5, .int .i64 0] rfl ?_
                 intro wu hru htu)
              | fail
            have HA := Hid.mk (H13.out.put htu (fun i hi => ⟨by rw [hi]; simp, by rw [hi]; omega⟩))
            replace gL := block_turn htu gL (by omega)
            have gF := hru
            clear h8i
            go_wp2_with fail
            refine (hAC.out _ _ _ HA.out hic).mono ?_
            rintro e w17 ⟨he, h17, hk17⟩
            obtain rfl : e = .returned (.agg #[.int .i64 5, .int .i64 0, .int .u64 0]) := he.trans (by rw [e1, e2] <;> rfl)
            replace gL := hk17.row (by simp) gL
            replace gF := hk17.row (by simp) gF
            have gR := heap_alloc_new w17 (.cells #[.int .i64 5, .int .i64 0, .int .u64 0] 50)
            have hbR := below_new w17 (.cells #[.int .i64 5, .int .i64 0, .int .u64 0] 50)
            have HF17 := Hid.mk (h17.later hbR)
            clear he h17 hk17 hAC
            go_upto_region 23 with fail
            generalize w17.alloc (.cells #[.int .i64 5, .int .i64 0, .int .u64 0] 50) = w18 at *
            replace gL := block_later hbR gL
            replace gF := block_later hbR gF
            clear hbR
            generalize w17.heap.size = KR at *
            obtain ⟨k8, k9⟩ := TR.row2c gF
            obtain ⟨j0, j1, j2⟩ := cells3 gR
            go_wp2
            go_ret
            exact ⟨rfl, HF17.out.bl⟩

theorem walk (ad : Option Addr) (n cap : Nat) (V V' : Nat → Nat) (ado : Option Addr) (capo : Nat) (ops : List Mo) (va : Nat) (all : Bool) (w : World) (_ : n ≤ maxLen) (hst : StepsAt w ad n V V') (_ : ops.length ≤ maxLen) (hrd : MoRd w ado ops) (hok : ∀ q ∈ ops, q.ok) (hva : va < 18446744073709551616) (hF : FA w) :
    Calls Tryz.prog 5 #[.slice ad n cap, .slice ado ops.length capo, .int .u64 va, .bool all] w fun r w' => r = .returned (.bool true) ∧ Below w.heap.size w w' := by
  by_cases h : n ≤ 60
  · by_cases h2 : ops.length ≤ 40
    · exact walk_main n cap ad V V' ado capo ops va all hva h h2 w hst hrd hok hF
    · exact flushed_long n cap ad V V' ado ops.length capo va all h (by omega) w hst hF
  · exact flushed_many n cap ad ado ops.length capo va all (by omega) w hF

theorem met {W : World} (h : laidMet Tryz.prog Rows.mmuFlushedRow.laid W) : FA W := by
  have h1 := TR.pair_of_reads (g := 0) (by kernel_rfl) (by kernel_rfl) (Lib.laidMet.reads h (n := "portreeve/desc.outField") (d := Rows.laid_portreeve_desc_outField) (by simp [Rows.mmuFlushedRow]))
  have h2 := TR.pair_of_reads (g := 2) (by kernel_rfl) (by kernel_rfl) (Lib.laidMet.reads h (n := "portreeve/desc.attrField") (d := Rows.laid_portreeve_desc_attrField) (by simp [Rows.mmuFlushedRow]))
  have h3 := TR.pair_of_reads (g := 3) (by kernel_rfl) (by kernel_rfl) (Lib.laidMet.reads h (n := "portreeve/trail.tableField") (d := Rows.laid_portreeve_trail_tableField) (by simp [Rows.mmuFlushedRow]))
  have h4 := TR.pair_of_reads (g := 1) (by kernel_rfl) (by kernel_rfl) (Lib.laidMet.reads h (n := "portreeve/desc.asidField") (d := Rows.laid_portreeve_desc_asidField) (by simp [Rows.mmuFlushedRow]))
  exact ⟨⟨⟨h1.1, h1.2, h2.1, h2.2⟩, h3.1, h3.2⟩, h4.1, h4.2⟩

theorem own : ownKnob Tryz.prog.godebug = none := by kernel_rfl
theorem laidOut : laidOutB Tryz.prog = true := by kernel_rfl

set_option linter.unusedVariables false in
set_option maxRecDepth 100000 in
theorem contract (H : Type) (enc : TypeId × Value → H) (W : World) (base : Nat) (args : Array Value) (ds gs : List (DataW H)) (before : List MemPlace)
    (hval0 : ∀ (j : Nat) t v, Tryz.f5.params[j]? = some t → args[j]? = some v → Value.okWide Tryz.prog W .any base t v)
    (hW : DataW.Whole enc Tryz.prog Tryz.f5.params.toList Rows.mmuFlushedSpec.vars false W args.toList ds gs before) (hL0 : laidMetH Tryz.prog Rows.mmuFlushedRow.laid W) :
    Calls Tryz.prog 5 args W fun e W' => ∃ v, e = .returned v ∧ Rows.mmuFlushedSpec.post enc Tryz.prog Tryz.f5 false true false false W args v W' := by
  have hL := hL0
  rw [MakeChecks.laidMetH_plain _ _ _ (by kernel_rfl)] at hL
  have hval := hval0
  have hW' := hW
  obtain ⟨p, q, hA0, hV, rfl, hfz, hnd⟩ := hW
  have hA : DataW.TrodAll enc Tryz.prog W 0 (fun _ => true) true Tryz.f5.params.toList args.toList ds p := hA0
  rw [Tryz.params5] at hA hval
  obtain ⟨v0, vs0, d0, ds0, p0, q0, hargs, rfl, rfl, h0, r0⟩ := trodAll_cons hA
  obtain ⟨v1, vs1, d1, ds1, p1, q1, rfl, rfl, rfl, h1, r1⟩ := trodAll_cons r0
  obtain ⟨v2, vs2, d2, ds2, p2, q2, rfl, rfl, rfl, h2, r2⟩ := trodAll_cons r1
  obtain ⟨v3, vs3, d3, ds3, p3, q3, rfl, rfl, rfl, h3, r3⟩ := trodAll_cons r2
  obtain ⟨rfl, rfl, rfl⟩ := trodAll_nil r3
  obtain rfl : args = #[v0, v1, v2, v3] := by cases args; simp_all
  obtain ⟨rfl, rfl⟩ := trodVars_none hV
  have k0 := h0
  have lt0 : ∀ x ∈ p0, x.block < W.heap.size := by obtain ⟨m, hm⟩ := k0; exact DataW.trod_lt m _ _ _ hm
  have k1 := h1
  have lt1 : ∀ x ∈ p1, x.block < W.heap.size := by obtain ⟨m, hm⟩ := k1; exact DataW.trod_lt m _ _ _ hm
  have k2 := h2
  have lt2 : ∀ x ∈ p2, x.block < W.heap.size := by obtain ⟨m, hm⟩ := k2; exact DataW.trod_lt m _ _ _ hm
  have k3 := h3
  have lt3 : ∀ x ∈ p3, x.block < W.heap.size := by obtain ⟨m, hm⟩ := k3; exact DataW.trod_lt m _ _ _ hm
  obtain ⟨ad0, n0, cap0, A0, V0, rfl, mx0, ho0⟩ := open_steps (hval 0 22 v0 rfl rfl) h0
  obtain ⟨ad1, cap1, l1, rfl, mx1, rd1, ok1⟩ := open_mops (hval 1 23 v1 rfl rfl) h1
  obtain ⟨a2, rfl, _, _, w2⟩ := open_int Tryz.underlying26 (hval 2 26 v2 rfl rfl) h2
  obtain ⟨x2, rfl⟩ := Int.eq_ofNat_of_zero_le (bounds_u64 w2).1
  have b2 : x2 < 18446744073709551616 := by have := (bounds_u64 w2).2; omega
  obtain ⟨a3, rfl, _, _⟩ := open_bool Tryz.underlying4 (hval 3 4 v3 rfl rfl) h3
  clear hA0 hval0
  refine (walk ad0 n0 cap0 A0 V0 ad1 cap1 l1 x2 a3 W mx0 ho0 mx1 rd1 ok1 b2 (met hL)).mono fun e W' ⟨he, bel⟩ => ?_
  subst he
  exact ⟨_, rfl, _, _, _, [], _, [], hW', trodAll_mk1 (shut_bool Tryz.underlying4 _), (trodAll_cons_mk (Below.trod laidOut (by kernel_rfl) (of_decide_eq_true (by kernel_rfl)) k0 bel lt0) (trodAll_cons_mk (Below.trod laidOut (by kernel_rfl) (of_decide_eq_true (by kernel_rfl)) k1 bel lt1) (trodAll_cons_mk (Below.trod laidOut (by kernel_rfl) (of_decide_eq_true (by kernel_rfl)) k2 bel lt2) (trodAll_cons_mk (Below.trod laidOut (by kernel_rfl) (of_decide_eq_true (by kernel_rfl)) k3 bel lt3) trodAll_mk0)))), rfl, bel.frame _, fun h => by cases h⟩

theorem laid_met (os : Os) : laidMet Tryz.prog Rows.mmuFlushedRow.laid ((World.laidAll Tryz.prog os Rows.mmuFlushedRow.laid).forCall (fun _ _ => 0) ⟨#[], #[.slice none 0 0, .slice none 0 0, .int .u64 0, .bool false], []⟩).memory :=
  laidMet_laidAll _ (by kernel_rfl) (by kernel_rfl)
theorem reads (os : Os) {H : Type} (enc : TypeId × Value → H) : ∃ places, DataW.whole enc Tryz.prog ((World.laidAll Tryz.prog os Rows.mmuFlushedRow.laid).forCall (fun _ _ => 0) ⟨#[], #[.slice none 0 0, .slice none 0 0, .int .u64 0, .bool false], []⟩).memory Tryz.f5.params.toList Rows.mmuFlushedSpec.vars false (#[.slice none 0 0, .slice none 0 0, .int .u64 0, .bool false] : Array Value).toList 8 = some ([.nil, .nil, .lit (.int .u64 0), .lit (.bool false)], [], places) :=
  ⟨[], by kernel_rfl⟩

set_option maxRecDepth 100000 in
theorem lifted (os : Os) (started : os.Started) (H : Type) (enc : TypeId × Value → H) (F : Stop.Interp) :
    ReturnsInHanded {} Tryz.checked os 5 .any ((OpenSpec.ofChange Rows.mmuFlushedSpec).preRow enc Tryz.prog Tryz.f5 Rows.mmuFlushedRow.domain false Rows.mmuFlushedRow.laid) (((OpenSpec.ofChange Rows.mmuFlushedSpec).at F).post enc Tryz.prog Tryz.f5 false true false false) := by
  obtain ⟨places, hx⟩ := reads os enc
  refine returnsInHanded_of_row (C := Tryz.checked) (s := (OpenSpec.ofChange Rows.mmuFlushedSpec)) own started (by kernel_rfl) Tryz.func5
    (witness_row_at (enc := enc) (C := Tryz.checked) false (World.laidAll Tryz.prog os Rows.mmuFlushedRow.laid) #[.slice none 0 0, .slice none 0 0, .int .u64 0, .bool false] (World.laidAll_os _ _ _) (by kernel_rfl) (by kernel_rfl) (by kernel_rfl)
      (OpenSpec.preRow_of_cond 8 hx (by kernel_rfl) (fun k hk => by cases hk) (by kernel_rfl) (laid_met os))) ?_
  intro W base args ds gs before hval hW _ _ _ hL _ _
  exact contract H enc W base args ds gs before hval hW hL

theorem said : Rows.MmuFlushedSaid :=
  OpenClaim.holds_of_cond 5 Tryz.f5 rfl rfl rfl rfl rfl rfl rfl ⟨rfl, rfl, rfl, rfl, rfl⟩ rfl rfl rfl rfl rfl (by kernel_rfl) Tryz.func5 (by kernel_rfl)
    (of_decide_eq_true (by kernel_rfl)) (by unfold Func.isWrapper; first | (rw [if_pos (by decide +kernel)]; kernel_rfl) | (rw [if_neg (by decide +kernel)]; exact ⟨rfl, rfl⟩))
    (fun os started H enc _ F => by rw [OpenClaim.pre_eq_preRow]; exact lifted os started H enc F)

theorem plain (f : FuncId) (fn : Func) (hf : Tryz.pinned.checked.prog.funcNamed "portreeve/portreevelaw09.MmuFlushed" = some f) (hfn : Tryz.pinned.checked.prog.funcs[f]? = some fn) :
    true = Tryz.pinned.checked.prog.looks [] ∧ ∀ (j : Nat) t, fn.params[j]? = some t → Tryz.pinned.checked.prog.wantsStandIn t = false := by
  obtain rfl : f = 5 := Option.some.inj ((show Tryz.prog.funcNamed "portreeve/portreevelaw09.MmuFlushed" = some 5 by kernel_rfl).symm.trans hf) |>.symm
  obtain rfl : fn = Tryz.f5 := (Option.some.inj (Tryz.func5.symm.trans hfn)).symm
  refine ⟨by kernel_rfl, fun j t ht => ?_⟩
  rw [Tryz.params5] at ht
  have hm : t ∈ [22, 23, 26, 4] := by simpa using Array.mem_of_getElem? ht
  have hall : ([22, 23, 26, 4].all fun u => !Tryz.prog.wantsStandIn u) = true := by kernel_rfl
  exact (show Tryz.prog.wantsStandIn t = false by simpa using List.all_eq_true.1 hall t hm)

theorem card : Rows.MmuFlushedCardSaid :=
  Claim7.holds_tied_plain_at .later [] _ _ _ _ said (fun _ h => by cases h) (by kernel_rfl) (fun _ h => by cases h) mmuFlushed_row_tie rfl ⟨rfl, rfl⟩ (by kernel_rfl) rfl plain (by kernel_rfl)

end Go.Proofs.YtndjhedoandinaaGreatDoor.MM.mmuFlushed
