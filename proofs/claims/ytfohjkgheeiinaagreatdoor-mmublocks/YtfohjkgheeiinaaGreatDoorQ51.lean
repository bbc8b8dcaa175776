/- Texts: MmST MmLD MmDU MmDV -/
import Derived.Test.YtfohjkgheeiinaaGreatDoorQ50
import Derived.Test.YtfohjkgheeiinaaGreatDoorQ47
import Derived.Test.YtfohjkgheeiinaaGreatDoorQ48
set_option maxHeartbeats 16000000
set_option maxRecDepth 100000
namespace Go.Proofs.YtfohjkgheeiinaaGreatDoor.MM
open Go.RowKit Go.Maps
def vaN (va i : Nat) : Nat := (va + 8 * i) % 18446744073709551616
theorem vaN_lt (va i : Nat) : vaN va i < 18446744073709551616 := Nat.mod_lt _ (by decide)
theorem vaN_zero {va : Nat} (h : va < 18446744073709551616) : vaN va 0 = va := Nat.mod_eq_of_lt h
theorem vaN_succ (va i : Nat) : vaN va (i + 1) = (vaN va i + 8) % 18446744073709551616 := by unfold vaN; omega
def sqS (S : Nat) (most : Int) (kind : Int) (va : Nat) (V : Nat → Nat) (hn : Hn) (s : St) : Nat → St
 | 0 => s
 | i + 1 => accS S most (sqS S most kind va V hn s i) kind (vaN va i) (V i) hn
def sqF (S : Nat) (most : Int) (kind : Int) (va : Nat) (V : Nat → Nat) (hn : Hn) (s : St) (i : Nat) : Int × Int := accF (leafO S (sqS S most kind va V hn s i) (vaN va i) hn) kind
def sqW (S : Nat) (most : Int) (kind : Int) (va : Nat) (V : Nat → Nat) (hn : Hn) (s : St) (i : Nat) : Nat := accW (sqS S most kind va V hn s i).f (leafO S (sqS S most kind va V hn s i) (vaN va i) hn) kind (vaN va i)
theorem accF_zero {Q : Lf × Int × Int} {kind : Int} (h : (accF Q kind).1 = 0) : accF Q kind = (0, 0) := by
 unfold accF at h ⊢
 by_cases h1 : Q.2.1 = 0
 ·rw [if_pos h1] at h ⊢
  have h3 : letK Q.1.u Q.1.r Q.1.x Q.1.s kind = 0 := h
  unfold letF
  rw [h3, letL_zero h3]
 ·rw [if_neg h1] at h
  exact absurd h h1
theorem sqF_zero {S : Nat} {most kind : Int} {va : Nat} {V : Nat → Nat} {hn : Hn} {s : St} {i : Nat} (h : (sqF S most kind va V hn s i).1 = 0) : sqF S most kind va V hn s i = (0, 0) :=
 accF_zero h
theorem results_tmp_row {P : Program} {fn : Func} {p u : Tmp} {ty : TypeId} (h : fn.results = #[.tmp u, .cell p ty]) (tmps : Array Value) (w : World) (g : Nat) (t : TypeId) (cs : Array Value) (fr : Nat × Nat) (d : TypeDesc)
  (hp : tmps.getD p undef = .pointer (some ⟨g, 0, none⟩)) (hg : w.heap[g]? = some (.cells cs t fr))
  (hu : P.underlying ty = some d) (hd : (match d with | .struct _ | .array _ _ => true | _ => false) = true) (hi : (P.info? ty).map (·.size) = some cs.size) :
  (results fn tmps).run P w = .ok (.tuple #[tmps.getD u undef, .agg cs]) w := by
 have he : (results fn tmps).run P w =
   ((asAddr (tmps.getD p undef)).run P w).andThen fun a w₁ => ((loadVar ty a).run P w₁).andThen fun v w₂ => .ok (.tuple #[tmps.getD u undef, v]) w₂ := by
  simp only [results, h]
  simp [Sem.run_bind, Result.andThen]
 rw [he, hp]
 simp [asAddr, run_loadVar_row w g t ty cs fr d hg hu hd hi, Result.andThen]
section
variable {w0 w w' : World} {l : List Nat} {x a n S : Nat} {most : Int} {s : St}
theorem One.fm (h : One w0 w l x a n S most s) : Fm S s.f := by
 obtain ⟨X, h, -⟩ := h
 obtain ⟨XM, XB, XT, tb, tr, pv, h⟩ := h
 obtain ⟨mb, pg, hm⟩ := h.mem
 refine ⟨fun y hy => hm.out y ?_, hm.fl, hm.s0.2.1⟩
 apply Classical.byContradiction
 intro c
 apply hy
 unfold errA
 rw [if_neg (by omega), if_neg (by omega)]
end
theorem Kp.putT {l L : List Nat} {R : Nat} {w1 w2 w3 : World} (hk : Kp L w1 w2) (ht : Turn (fun i => i = R) w2 w3) (hl : ∀ g ∈ l, g ∈ L ∧ g ≠ R ∧ g < w2.heap.size) : Kp l w1 w3 :=
 ⟨Nat.le_trans hk.1 ht.size, fun g hg => (ht.block g (hl g hg).2.2 (hl g hg).2.1).trans (hk.2 g (hl g hg).1)⟩
theorem One.ltg {w0 w : World} {l : List Nat} {x a n S : Nat} {most : Int} {s : St} (h : One w0 w l x a n S most s) {g : Nat} (hg : g ∈ l) : g < w.heap.size := by
 obtain ⟨X, -, hX⟩ := h
 exact (hX g hg).1
section
variable {w0 w : World} {l : List Nat} {x a n S : Nat} {most : Int} {s : St}
theorem store_c (h : One w0 w l x a n S most s) (N : Nat) (hN : N ≤ 1000) (hn0 : n < 1000000) (va : Nat) (hva : va < 18446744073709551616) (ad : Option Addr) (cap : Nat) (V : Nat → Nat) (hV : ∀ i, V i < 18446744073709551616)
  (hw : ∀ i, i < N → ∃ g o, ad = some ⟨g, o, none⟩ ∧ g ∈ l ∧ w.cell? ⟨g, o + i, none⟩ = some (.int .u64 (V i : Nat))) (hn : Hn) :
  Calls Tryz.prog 10 #[.pointer (some ⟨x, 0, none⟩), .int .u64 va, .slice ad N cap, hn.v] w fun r w' =>
   (∃ k, k ≤ N ∧ (∀ j, j < k → (sqF S most 2 va V hn s j).1 = 0) ∧ (∀ j, j ≤ k → Wf most (sqS S most 2 va V hn s j) ∧ Fm S (sqS S most 2 va V hn s j).f) ∧
    ((k = N ∧ r = .returned (.tuple #[.int .i64 N, .agg #[.int .i64 0, .int .i64 0]]) ∧ One w0 w' l x a (n + N) S most (sqS S most 2 va V hn s N)) ∨
     (k < N ∧ (sqF S most 2 va V hn s k).1 ≠ 0 ∧ r = .returned (.tuple #[.int .i64 k, .agg #[.int .i64 (sqF S most 2 va V hn s k).1, .int .i64 (sqF S most 2 va V hn s k).2]]) ∧ One w0 w' l x a (n + N) S most (sqS S most 2 va V hn s (k + 1))))) ∧ Kp l w w' := by
 have H0 := Hid.mk h
 have HVV := Hid.mk hV
 have HNN := Hid.mk (And.intro hN hn0)
 have HAC : Hid (∀ (i : Nat) (W : World) (L : List Nat) (m : Nat), One w0 W L x a m S most (sqS S most 2 va V hn s i) → m < 100000000 → Calls Tryz.prog 13 #[.pointer (some ⟨x, 0, none⟩), .int .i64 2, .int .u64 (vaN va i), .int .u64 (V i), .agg #[.bool hn.fill, .bool hn.led, .bool hn.keep]] W fun r w' => r = .returned (.agg #[.int .i64 (sqF S most 2 va V hn s i).1, .int .i64 (sqF S most 2 va V hn s i).2, .int .u64 (sqW S most 2 va V hn s i : Nat)]) ∧ One w0 w' L x a (m + 1) S most (sqS S most 2 va V hn s (i + 1)) ∧ Kp L W w') :=
  Hid.mk (fun i W L m H hm => H.does (fun X hM => access_c hM hm 2 (vaN va i) (V i) (vaN_lt va i) (hV i) hn))
 have HV0 := Hid.mk (vaN_zero hva)
 have gH := heap2_0 w (.cells #[.bool hn.fill, .bool hn.led, .bool hn.keep] 38) (.cells #[.int .i64 0, .int .i64 0] 50)
 have gF := heap_alloc2_new w (.cells #[.bool hn.fill, .bool hn.led, .bool hn.keep] 38) (.cells #[.int .i64 0, .int .i64 0] 50)
 have hB := below2 w (.cells #[.bool hn.fill, .bool hn.led, .bool hn.keep] 38) (.cells #[.int .i64 0, .int .i64 0] 50)
 have HW := (h.own (.cells #[.bool hn.fill, .bool hn.led, .bool hn.keep] 38)).own (.cells #[.int .i64 0, .int .i64 0] 50)
 have hsz : (w.alloc (.cells #[.bool hn.fill, .bool hn.led, .bool hn.keep] 38)).heap.size = w.heap.size + 1 := by simp
 rw [hsz] at HW
 have hlo := h.bl.size
 have hlt : ∀ g ∈ l, g < w.heap.size := by
  obtain ⟨X, -, hX⟩ := h
  exact fun g hg => (hX g hg).1
 have HCL : Hid (∀ W', Below w.heap.size w W' → ∀ i, i < N → ∃ g o, ad = some ⟨g, o, none⟩ ∧ g ∈ l ∧ W'.cell? ⟨g, o + i, none⟩ = some (.int .u64 (V i : Nat))) := Hid.mk (fun W' hb i hi => by
  obtain ⟨g, o, e, hg, hc⟩ := hw i hi
  exact ⟨g, o, e, hg, cell_later hb hc⟩)
 have HK0 : Hid (∀ W', Below w.heap.size w W' → Kp l w W') := Hid.mk (fun W' hb => h.keeps hb)
 have HLT := Hid.mk hlt
 clear h hw hV hN hn0 hva hlt hsz
 simp only [Hn.v]
 go_enter Tryz.func10, Tryz.ntmps10
 go_upto_region 1 with fail
 generalize (w.alloc (.cells #[.bool hn.fill, .bool hn.led, .bool hn.keep] 38)).alloc (.cells #[.int .i64 0, .int .i64 0] 50) = W at *
 have HCW := Hid.mk (HCL.out W hB)
 have HKW := Hid.mk (HK0.out W hB)
 have HBW := Hid.mk hB
 have HS := Hid.mk HW
 generalize hKH : w.heap.size = KH at *
 have HGH := Hid.mk gH
 have HGF := Hid.mk gF
 clear hB HCL HK0 HW gH gF
 go_wp2
 go_loopw [1, 10, 11, 12, 15] (fun s1 _ _ _ s15 wr => ∃ i : Nat, i ≤ N ∧ s15 = .int .i64 i ∧ s1 = .int .u64 (vaN va i : Nat) ∧ (∀ j, j < i → (sqF S most 2 va V hn s j).1 = 0) ∧ (∀ j, j ≤ i → Wf most (sqS S most 2 va V hn s j) ∧ Fm S (sqS S most 2 va V hn s j).f) ∧ One w0 wr ((KH + 1) :: KH :: l) x a (n + i) S most (sqS S most 2 va V hn s i) ∧ Kp ((KH + 1) :: KH :: l) W wr) (fun _ _ _ _ s15 _ => N - (RowKit.intOf s15).toNat)
 case atStart => exact ⟨0, by omega, rfl, by rw [HV0.out], fun j hj => absurd hj (Nat.not_lt_zero _), fun j hj => by
  obtain rfl : j = 0 := by omega
  exact ⟨HS.out.wfm, HS.out.fm⟩, HS.out, Kp.refl _ _⟩
 case round =>
  obtain ⟨i, hi, rfl, rfl, hp, hwf, hO, hk⟩ := hrel
  have HWF := Hid.mk hwf
  clear hwf
  have HO := Hid.mk hO
  have HP := Hid.mk hp
  have HK := Hid.mk hk
  clear hp hO
  by_cases hlt : i < N
  ·have hlt2 : (i : Int) < N := by omega
   have hib : (i : Int) < 1000 := by have := HNN.out; omega
   obtain ⟨g, o, rfl, hg, hc⟩ := HCW.out i hlt
   have c0 := hk.cell (List.mem_cons_of_mem _ (List.mem_cons_of_mem _ hg)) hc
   have gH := hk.row (by simp) HGH.out
   have gF := hk.row (by simp) HGF.out
   obtain ⟨t0, t1, t2⟩ := cells3 gH
   have HA := Hid.mk (HAC.out i wr _ _ HO.out (by have := HNN.out; omega))
   have HZ := Hid.mk (sqF_zero (S := S) (most := most) (kind := 2) (va := va) (V := V) (hn := hn) (s := s) (i := i))
   have HVS := Hid.mk (vaN_succ va i)
   clear hc hg hk hi
   generalize hF : sqF S most 2 va V hn s i = F at *
   generalize sqW S most 2 va V hn s i = vw at *
   generalize hT : sqS S most 2 va V hn s (i + 1) = T at *
   have HT := Hid.mk hT
   have HF := Hid.mk hF
   clear hT hF
   obtain ⟨f1, f2⟩ := F
   go_wp2_with fail
   refine HA.out.mono ?_
   rintro e w5 ⟨rfl, h5, hk5⟩
   replace gH := hk5.row (by simp) gH
   replace gF := hk5.row (by simp) gF
   have H5 := Hid.mk (h5.own (.cells #[.int .i64 f1, .int .i64 f2, .int .u64 vw] 62))
   have HK5 := Hid.mk ((HK.out.trans hk5).trans (h5.keeps (below_new w5 (.cells #[.int .i64 f1, .int .i64 f2, .int .u64 vw] 62))))
   have gR := heap_alloc_new w5 (.cells #[.int .i64 f1, .int .i64 f2, .int .u64 vw] 62)
   have hbR := below_new w5 (.cells #[.int .i64 f1, .int .i64 f2, .int .u64 vw] 62)
   have hfr : KH + 1 < w5.heap.size := block_lt gF
   clear h5 hk5 t0 t1 t2 c0 HA
   go_upto_region 5 with fail
   generalize w5.alloc (.cells #[.int .i64 f1, .int .i64 f2, .int .u64 vw] 62) = w6 at *
   replace gF := block_later hbR gF
   generalize w5.heap.size = KR at *
   clear hbR gH
   obtain ⟨k0, k1, k2⟩ := cells3 gR
   by_cases hf : f1 = 0
   ·have h00 := HZ.out hf
    have e2 : f2 = 0 := congrArg Prod.snd h00
    subst hf e2
    clear h00
    go_wp2
    exact ⟨⟨i + 1, by omega, by go_num, by rw [HVS.out]; go_num, fun j hj => by
     rcases Nat.lt_succ_iff_lt_or_eq.1 hj with hj | rfl
     ·exact HP.out j hj
     ·rw [HF.out], fun j hj => by
     rcases Nat.le_succ_iff.1 hj with hj | rfl
     ·exact HWF.out j hj
     ·rw [HT.out]; exact ⟨H5.out.wfm, H5.out.fm⟩, by rw [HT.out]; exact H5.out.less (fun g hg => List.mem_cons_of_mem _ hg), HK5.out⟩, by simp [RowKit.intOf]; omega⟩
   ·clear k2
    go_upto_region 6 with fail
    have hB : Below w0.heap.size w0 w6 := H5.out.bl
    replace HK5 := Hid.mk (HK5.out.trans ((H5.out.less (fun g hg => List.mem_cons_of_mem _ hg)).keeps (Below.refl _ w6).drew))
    obtain ⟨k0, k1⟩ := cl2 (Below.refl _ w6).drew k0 k1
    refine wp_region_noPanic ?_
    refine wp_region_held_drew (S := (fun w' => w'.cell? ⟨KR, 0, none⟩ = some (.int .i64 f1) ∧ w'.cell? ⟨KR, 1, none⟩ = some (.int .i64 f2))) (by kernel_rfl) ?_ (fun hHeld => ?_)
    ·exact ⟨k0, k1⟩
    replace gF := block_later (Below.refl _ w6).drew gF
    replace H5 := Hid.mk (H5.out.later (Below.refl _ w6).drew)
    replace hB := below_tr hB (Below.refl _ w6).drew
    generalize w6.drew = Wd at *
    refine tk 0 29 (h := ?_)
    refine tk 1 30 (h := ?_)
    refine tk 2 31 (h := ?_)
    refine tk 3 8 (h := ?_)
    refine rd1 4 (h := fun K hK => ?_)
    refine step_store_seg rfl rfl 50 _ _ rfl (KH + 1) 0 _ #[.int .i64 f1, .int .i64 f2] rfl rfl rfl 50 _ gF (show 0 + 2 ≤ 2 by decide) info_fault (by simp [Value.oneCell']) #[.int .i64 f1, .int .i64 f2] rfl ?_
    intro ws0 hrq htq
    obtain ⟨k0, k1⟩ := tc2 htq k0 k1
    replace gF := hrq
    replace hB := below_turn hB htq (by omega)
    refine hK.out _ _ ⟨k0, k1⟩ (fun hHelds0 => ?_)
    clear hK hrq
    try simp only [Act.put, sq]
    refine wpAnyH_done (by kernel_rfl) ?_ _
    refine NoPanic.normal ?_
    go_wp2_with fail
    refine bodyPost_ret (v := .tuple #[.int .i64 i, .agg #[.int .i64 f1, .int .i64 f2]]) ?_ rfl ?_
    ·exact results_tmp_row (p := 9) (u := 8) rfl _ _ (KH + 1) 50 _ (0, 0) _ rfl gF Tryz.underlying50 rfl info_fault
    ·have hO := H5.out.put htq (fun j hj => ⟨by rw [hj]; simp, by rw [hj]; omega⟩)
     refine ⟨⟨i, by omega, HP.out, HWF.out, Or.inr ⟨hlt, by rw [HF.out]; exact hf, by rw [HF.out], by rw [HT.out]; exact (hO.less (fun g hg => by simp [hg])).mono (by omega)⟩⟩, ?_⟩
     exact HKW.out.trans (HK5.out.putT htq (fun g hg => ⟨by simp [hg], by have := HLT.out g hg; omega, H5.out.ltg (by simp [hg])⟩))
  ·have e : i = N := by omega
   subst e
   have gF := hk.row (by simp) HGF.out
   clear hk
   go_wp2_with
    first
    | (refine wpList_store_segTo rfl 50 _ _ rfl rfl (KH + 1) 0 _ #[.int .i64 0, .int .i64 0] rfl rfl rfl 50 _ gF (show 0 + 2 ≤ 2 by decide) info_fault (by simp [Value.oneCell']) #[.int .i64 0, .int .i64 0] rfl ?_
       intro wv hrv htv)
    | fail
   refine bodyPost_ret (v := .tuple #[.int .i64 i, .agg #[.int .i64 0, .int .i64 0]]) ?_ rfl ?_
   ·exact results_tmp_row (p := 9) (u := 8) rfl _ _ (KH + 1) 50 _ (0, 0) _ rfl hrv Tryz.underlying50 rfl info_fault
   ·have hO := HO.out.put htv (fun i hi => ⟨by rw [hi]; simp, by rw [hi]; omega⟩)
    refine ⟨⟨i, Nat.le_refl _, HP.out, HWF.out, Or.inl ⟨rfl, rfl, hO.less (fun g hg => by simp [hg])⟩⟩, ?_⟩
    exact HKW.out.trans (HK.out.putT htv (fun g hg => ⟨by simp [hg], by have := HLT.out g hg; omega, HO.out.ltg (by simp [hg])⟩))
theorem store_u (h : One w0 w l x a n S most s) (N : Nat) (hN : N ≤ 1000) (hn0 : n < 1000000) (va : Nat) (hva : va < 18446744073709551616) (ad : Option Addr) (cap : Nat) (V : Nat → Nat) (hV : ∀ i, V i < 18446744073709551616)
  (hw : ∀ i, i < N → ∃ g o, ad = some ⟨g, o, none⟩ ∧ g ∈ l ∧ w.cell? ⟨g, o + i, none⟩ = some (.int .u64 (V i : Nat))) (hn : Hn) :
  Calls Tryz.prog 10 #[.pointer (some ⟨x, 0, none⟩), .int .u64 va, .slice ad N cap, hn.v] w fun r w' =>
   ∃ k f1 f2 kk, r = .returned (.tuple #[.int .i64 (k : Nat), .agg #[.int .i64 f1, .int .i64 f2]]) ∧ (∀ j, j < k → (sqF S most 2 va V hn s j).1 = 0) ∧ (∀ j, j ≤ k → Wf most (sqS S most 2 va V hn s j) ∧ Fm S (sqS S most 2 va V hn s j).f) ∧
    ((k = N ∧ kk = N ∧ f1 = 0 ∧ f2 = 0) ∨ (k < N ∧ kk = k + 1 ∧ sqF S most 2 va V hn s k = (f1, f2) ∧ f1 ≠ 0)) ∧ One w0 w' l x a (n + N) S most (sqS S most 2 va V hn s kk) ∧ Kp l w w' := by
 refine (store_c h N hN hn0 va hva ad cap V hV hw hn).mono ?_
 rintro r w' ⟨⟨k, hk, hp, hwf, hc⟩, hkp⟩
 rcases hc with ⟨rfl, rfl, ho⟩ | ⟨hlt, hne, rfl, ho⟩
 ·exact ⟨k, 0, 0, k, rfl, hp, hwf, Or.inl ⟨rfl, rfl, rfl, rfl⟩, ho, hkp⟩
 ·exact ⟨k, _, _, k + 1, rfl, hp, hwf, Or.inr ⟨hlt, rfl, rfl, hne⟩, ho, hkp⟩
end
end Go.Proofs.YtfohjkgheeiinaaGreatDoor.MM
namespace Go.Proofs.YtfohjkgheeiinaaGreatDoor.MM
open Go.RowKit Go.Maps
theorem info_w8 : (Tryz.prog.info? 26).map (fun i => (i.zero, i.size, i.bytes)) = some (some (.int .u64 0), 1, 8) := by kernel_rfl
theorem wpList_appV (w : World) {ops : Array Oper} {rest : List Oper} {o : Oper} {a : Act} {Q : Exit → Act → World → Prop} (hg : o.guard = none) (s x : Operand) (hop : o.op = .call { callee := .builtin .append, args := #[s, x], argTypes := #[45, 45] })
  (base : Nat) (v : Value) (N : Nat) (xs : List Value) (hs : a.eval s = v) (hown : w.ownsRow base 26 1 v N xs) (y bb : Nat) (hx : a.eval x = .slice (some ⟨bb, 0, none⟩) 1 1) (hc : w.cell? ⟨bb, 0, none⟩ = some (.int .u64 y)) (hlen : N < 100000) (hbase : base ≤ w.heap.size)
  (h : ∀ g cap w', w'.ownsRow base 26 1 (.slice (some ⟨g, 0, none⟩) (N + 1) cap) (N + 1) (xs ++ [.int .u64 y]) → w.grownBy w' v.ownBlock → (v.ownBlock = some g ∨ g = w.heap.size) → g < w'.heap.size → wpList Tryz.prog ops Q rest (a.put o.dst (.slice (some ⟨g, 0, none⟩) (N + 1) cap)) w') :
  wpList Tryz.prog ops Q (o :: rest) a w := by
 obtain ⟨i0, hi, hz0, hz1, hz2⟩ := info_parts info_w8
 refine wpList_append_lies w hg s x 45 hop base 26 i0 _ 1 8 Tryz.underlying45 hi hz0 hz1 hz2 rfl (by decide) v N xs hs hown ⟨bb, 0, none⟩ 1 1 [.int .u64 y] hx rfl (fun j u hj => ?_) (by simp [Value.oneCell']) (by omega) (by unfold maxLen; omega) (by omega) hbase _ rfl ?_
 ·match j, hj with
  | 0, hj => cases hj; exact hc
 ·intro g cap w' hown' hgrow hat hlt
  exact h g cap w' hown' hgrow hat hlt
section
variable {w0 w w' : World} {l : List Nat} {x a n S : Nat} {most : Int} {s : St}
theorem One.grow {v : Value} {g : Nat} (h : One w0 w l x a n S most s) (hg : w.grownBy w' v.ownBlock) (hv : ∀ q, v.ownBlock = some q → q ∈ l ∧ w0.heap.size ≤ q) (hat : v.ownBlock = some g ∨ g = w.heap.size) (hlt : g < w'.heap.size) : One w0 w' (g :: l) x a n S most s := by
 obtain ⟨X, h, hX⟩ := h
 have ht : Turn (fun i => v.ownBlock = some i) w w' := ⟨hg.os, hg.tape, hg.output, hg.size, fun i hi hne => hg.block i hi (fun e => hne e.symm)⟩
 refine ⟨X, h.turn ht (fun i hi hy => (hX i (hv i hy).1).2 hi) (fun i hy => (hv i hy).2), fun q hq => ?_⟩
 rcases List.mem_cons.1 hq with rfl | hq
 ·rcases hat with e | e
  ·exact ⟨hlt, (hX q (hv q e).1).2⟩
  ·exact ⟨hlt, h.nX (by omega)⟩
 ·exact ⟨Nat.lt_of_lt_of_le (hX q hq).1 hg.size, (hX q hq).2⟩
theorem Kp.grow {v : Value} {b : Nat} {w1 : World} (h : Kp l w w1) (hg : w1.grownBy w' v.ownBlock) (hv : ∀ q, v.ownBlock = some q → b ≤ q) (hl : ∀ g ∈ l, g < b ∧ g < w1.heap.size) : Kp l w w' :=
 ⟨Nat.le_trans h.1 hg.size, fun g hg' => (hg.block g (hl g hg').2 (fun e => by have := hv g e.symm; have := (hl g hg').1; omega)).trans (h.2 g hg')⟩
def wsV (S : Nat) (most : Int) (va : Nat) (hn : Hn) (s : St) (k : Nat) : List Value := (List.range k).map (fun j => .int .u64 (sqW S most 1 va (fun _ => 0) hn s j : Nat))
theorem wsV_succ (S : Nat) (most : Int) (va : Nat) (hn : Hn) (s : St) (k : Nat) : wsV S most va hn s (k + 1) = wsV S most va hn s k ++ [.int .u64 (sqW S most 1 va (fun _ => 0) hn s k : Nat)] := by
 unfold wsV
 rw [List.range_succ, List.map_append]
 rfl
theorem own_block {base E sz N : Nat} {v : Value} {xs : List Value} (h : w.ownsRow base E sz v N xs) (hb : ∀ g, v.ownBlock = some g → w'.heap[g]? = w.heap[g]?) : w'.ownsRow base E sz v N xs := by
 refine ⟨h.1, ?_⟩
 rcases h.2 with hn | ⟨g, cap, cur, rfl, h1, h2, h3⟩
 ·exact Or.inl hn
 ·exact Or.inr ⟨g, cap, cur, rfl, h1, (hb g rfl).trans h2, h3⟩
def LdP (w0 w : World) (l : List Nat) (x a n S : Nat) (most : Int) (s : St) (nn : Int) (va : Nat) (hn : Hn) (r : Ending) (w' : World) : Prop :=
 (∃ k v L, k ≤ nn.toNat ∧ (∀ j, j < k → (sqF S most 1 va (fun _ => 0) hn s j).1 = 0) ∧ (∀ j, j ≤ k → Wf most (sqS S most 1 va (fun _ => 0) hn s j) ∧ Fm S (sqS S most 1 va (fun _ => 0) hn s j).f) ∧ w'.ownsRow w.heap.size 26 1 v k (wsV S most va hn s k) ∧ (∀ g ∈ l, g ∈ L) ∧ (∀ g, v.ownBlock = some g → g ∈ L) ∧
    ((k = nn.toNat ∧ r = .returned (.tuple #[v, .agg #[.int .i64 0, .int .i64 0]]) ∧ One w0 w' L x a (n + nn.toNat) S most (sqS S most 1 va (fun _ => 0) hn s k)) ∨
     (k < nn.toNat ∧ (sqF S most 1 va (fun _ => 0) hn s k).1 ≠ 0 ∧ r = .returned (.tuple #[v, .agg #[.int .i64 (sqF S most 1 va (fun _ => 0) hn s k).1, .int .i64 (sqF S most 1 va (fun _ => 0) hn s k).2]]) ∧ One w0 w' L x a (n + nn.toNat) S most (sqS S most 1 va (fun _ => 0) hn s (k + 1))))) ∧ Kp l w w'
theorem own_low {b base E sz N : Nat} {v : Value} {xs : List Value} (h : w.ownsRow base E sz v N xs) (hb : b ≤ base) : w.ownsRow b E sz v N xs := by
 refine ⟨h.1, ?_⟩
 rcases h.2 with hn | ⟨g, cap, cur, rfl, h1, h2⟩
 ·exact Or.inl hn
 ·exact Or.inr ⟨g, cap, cur, rfl, Nat.le_trans hb h1, h2⟩
theorem load_c (h : One w0 w l x a n S most s) (nn : Int) (hN : nn ≤ 60) (hn0 : n < 1000000) (va : Nat) (hva : va < 18446744073709551616) (hn : Hn) :
  Calls Tryz.prog 12 #[.pointer (some ⟨x, 0, none⟩), .int .u64 va, .int .i64 nn, hn.v] w fun r w' =>
   LdP w0 w l x a n S most s nn va hn r w' := by
 have HNN := Hid.mk (And.intro hN hn0)
 have HAC : Hid (∀ (i : Nat) (W : World) (L : List Nat) (m : Nat), One w0 W L x a m S most (sqS S most 1 va (fun _ => 0) hn s i) → m < 100000000 → Calls Tryz.prog 13 #[.pointer (some ⟨x, 0, none⟩), .int .i64 1, .int .u64 (vaN va i), .int .u64 0, .agg #[.bool hn.fill, .bool hn.led, .bool hn.keep]] W fun r w' => r = .returned (.agg #[.int .i64 (sqF S most 1 va (fun _ => 0) hn s i).1, .int .i64 (sqF S most 1 va (fun _ => 0) hn s i).2, .int .u64 (sqW S most 1 va (fun _ => 0) hn s i : Nat)]) ∧ One w0 w' L x a (m + 1) S most (sqS S most 1 va (fun _ => 0) hn s (i + 1)) ∧ Kp L W w') :=
  Hid.mk (fun i W L m H hm => H.does (fun X hM => access_c hM hm 1 (vaN va i) 0 (vaN_lt va i) (by decide) hn))
 have HV0 := Hid.mk (vaN_zero hva)
 have gH := heap2_0 w (.cells #[.bool hn.fill, .bool hn.led, .bool hn.keep] 38) (.cells #[.int .i64 0, .int .i64 0] 50)
 have gF := heap_alloc2_new w (.cells #[.bool hn.fill, .bool hn.led, .bool hn.keep] 38) (.cells #[.int .i64 0, .int .i64 0] 50)
 have hB := below2 w (.cells #[.bool hn.fill, .bool hn.led, .bool hn.keep] 38) (.cells #[.int .i64 0, .int .i64 0] 50)
 have HW := (h.own (.cells #[.bool hn.fill, .bool hn.led, .bool hn.keep] 38)).own (.cells #[.int .i64 0, .int .i64 0] 50)
 have hsz : (w.alloc (.cells #[.bool hn.fill, .bool hn.led, .bool hn.keep] 38)).heap.size = w.heap.size + 1 := by simp
 rw [hsz] at HW
 have hlo := h.bl.size
 have hlt : ∀ g ∈ l, g < w.heap.size := fun g hg => h.ltg hg
 have HLT := Hid.mk hlt
 have HKW := Hid.mk (h.keeps hB)
 clear h hN hn0 hva hlt hsz
 simp only [Hn.v]
 go_enter Tryz.func12, Tryz.ntmps12
 go_upto_region 1 with fail
 generalize (w.alloc (.cells #[.bool hn.fill, .bool hn.led, .bool hn.keep] 38)).alloc (.cells #[.int .i64 0, .int .i64 0] 50) = W at *
 have HBW := Hid.mk hB
 have HS := Hid.mk HW
 generalize hKH : w.heap.size = KH at *
 have HGH := Hid.mk gH
 have HGF := Hid.mk gF
 have hlw : KH + 1 < W.heap.size := block_lt gF
 clear hB HW gH gF
 have hmin : min nn 512 = nn := by have := HNN.out; omega
 have hmin2 : nn < 512 := by have := HNN.out; omega
 have hmin3 : ¬ 512 < nn := by omega
 go_wp2
 go_loopw [1, 10, 11, 14] (fun s1 s10 _ s14 wr => ∃ (i : Nat) (v : Value) (L : List Nat), i ≤ nn.toNat ∧ s14 = .int .i64 i ∧ s1 = .int .u64 (vaN va i : Nat) ∧ v = s10 ∧ (∀ j, j < i → (sqF S most 1 va (fun _ => 0) hn s j).1 = 0) ∧ (∀ j, j ≤ i → Wf most (sqS S most 1 va (fun _ => 0) hn s j) ∧ Fm S (sqS S most 1 va (fun _ => 0) hn s j).f) ∧ One w0 wr L x a (n + i) S most (sqS S most 1 va (fun _ => 0) hn s i) ∧ (∀ g ∈ (KH + 1) :: KH :: l, g ∈ L) ∧ (∀ g, v.ownBlock = some g → g ∈ L) ∧ wr.ownsRow W.heap.size 26 1 v i (wsV S most va hn s i) ∧ Kp ((KH + 1) :: KH :: l) W wr) (fun _ _ _ s14 _ => nn.toNat - (RowKit.intOf s14).toNat)
 case atStart => exact ⟨0, _, _, by omega, rfl, by rw [HV0.out], rfl, fun j hj => absurd hj (Nat.not_lt_zero _), fun j hj => by
  obtain rfl : j = 0 := by omega
  exact ⟨HS.out.wfm, HS.out.fm⟩, HS.out, fun g hg => hg, fun g hg => by simp [Value.ownBlock] at hg, World.ownsRow_nil _ _ _ _, Kp.refl _ _⟩
 case round =>
  obtain ⟨i, v, L, hi, rfl, rfl, rfl, hp, hwf, hO, hL, hv, how, hk⟩ := hrel
  have HWF := Hid.mk hwf
  clear hwf
  have HO := Hid.mk hO
  have HP := Hid.mk hp
  have HK := Hid.mk hk
  have HL := Hid.mk hL
  have HV := Hid.mk hv
  have HOW := Hid.mk how
  clear hp hO hL hv how
  by_cases hlt : i < nn.toNat
  ·have hlt2 : (i : Int) < nn := by omega
   have hib : (i : Int) < 1000 := by have := HNN.out; omega
   have gH := hk.row (by simp) HGH.out
   have gF := hk.row (by simp) HGF.out
   obtain ⟨t0, t1, t2⟩ := cells3 gH
   have HA := Hid.mk (HAC.out i wr _ _ HO.out (by have := HNN.out; omega))
   have HZ := Hid.mk (sqF_zero (S := S) (most := most) (kind := 1) (va := va) (V := fun _ => 0) (hn := hn) (s := s) (i := i))
   have HVS := Hid.mk (vaN_succ va i)
   have HWS := Hid.mk (wsV_succ S most va hn s i)
   have HWL := Hid.mk (show i < 100000 by omega)
   clear hk hi
   generalize hF : sqF S most 1 va (fun _ => 0) hn s i = F at *
   generalize sqW S most 1 va (fun _ => 0) hn s i = vw at *
   generalize hT : sqS S most 1 va (fun _ => 0) hn s (i + 1) = T at *
   have HT := Hid.mk hT
   have HF := Hid.mk hF
   clear hT hF
   obtain ⟨f1, f2⟩ := F
   go_wp2_with fail
   refine HA.out.mono ?_
   rintro e w5 ⟨rfl, h5, hk5⟩
   replace gH := hk5.row (HL.out _ (by simp)) gH
   replace gF := hk5.row (HL.out _ (by simp)) gF
   have H5 := Hid.mk (h5.own (.cells #[.int .i64 f1, .int .i64 f2, .int .u64 vw] 62))
   have HK5 := Hid.mk ((HK.out.trans ⟨hk5.1, fun g hg => hk5.2 g (HL.out g hg)⟩).trans ((h5.less HL.out).keeps (below_new w5 (.cells #[.int .i64 f1, .int .i64 f2, .int .u64 vw] 62))))
   have HO5 := Hid.mk ((own_block HOW.out (fun g hg => hk5.2 g (HV.out g hg))).alloc (.cells #[.int .i64 f1, .int .i64 f2, .int .u64 vw] 62))
   have gR := heap_alloc_new w5 (.cells #[.int .i64 f1, .int .i64 f2, .int .u64 vw] 62)
   have hbR := below_new w5 (.cells #[.int .i64 f1, .int .i64 f2, .int .u64 vw] 62)
   have hfr : KH + 1 < w5.heap.size := block_lt gF
   clear h5 hk5 t0 t1 t2 HA
   go_upto_region 5 with fail
   generalize w5.alloc (.cells #[.int .i64 f1, .int .i64 f2, .int .u64 vw] 62) = w6 at *
   replace gF := block_later hbR gF
   generalize w5.heap.size = KR at *
   clear hbR gH
   obtain ⟨k0, k1, k2⟩ := cells3 gR
   by_cases hf : f1 = 0
   ·have h00 := HZ.out hf
    have e2 : f2 = 0 := congrArg Prod.snd h00
    subst hf e2
    clear h00
    have hbw : W.heap.size ≤ w6.heap.size := HK5.out.1
    have hwl := HWL.out
    go_wp2_with
     first
     | (at_builtin; refine wpList_appV _ rfl _ _ rfl W.heap.size _ i _ rfl (HO5.out.alloc _) vw w6.heap.size rfl (by simp) hwl (by simp; omega) ?_; intro g3 cap3 w7 hown7 hgr7 hat7 hlt7)
     | go_in
    have hvlt := HO5.out.lt
    have hO7 := (H5.out.later (below_new w6 (.cells #[.int .u64 vw] 26))).grow hgr7 (fun q hq => ⟨List.mem_cons_of_mem _ (HV.out q hq), by have := (hvlt q hq).1; omega⟩) hat7 hlt7
    have hK7 := (HK5.out.trans ((H5.out.less (fun g hg => List.mem_cons_of_mem _ (HL.out g hg))).keeps (below_new w6 (.cells #[.int .u64 vw] 26)))).grow (b := W.heap.size) hgr7 (fun q hq => (hvlt q hq).1) (fun g hg => ⟨HS.out.ltg hg, by have := HS.out.ltg hg; simp; omega⟩)
    exact ⟨⟨i + 1, _, _, by omega, by go_num, by rw [HVS.out]; go_num, rfl, fun j hj => by
     rcases Nat.lt_succ_iff_lt_or_eq.1 hj with hj | rfl
     ·exact HP.out j hj
     ·rw [HF.out], fun j hj => by
     rcases Nat.le_succ_iff.1 hj with hj | rfl
     ·exact HWF.out j hj
     ·rw [HT.out]; exact ⟨hO7.wfm, hO7.fm⟩, by rw [HT.out]; exact hO7, fun g hg => by simp [HL.out g hg], fun g hg => by simp [Value.ownBlock] at hg; simp [hg], by rw [HWS.out]; exact hown7, hK7⟩, by simp [RowKit.intOf]; omega⟩
   ·clear k2
    go_upto_region 6 with fail
    have hB : Below w0.heap.size w0 w6 := H5.out.bl
    have HO6 := Hid.mk (own_block HO5.out (fun g hg => (Below.refl _ w6).drew.block g (HO5.out.lt g hg).2))
    replace HK5 := Hid.mk (HK5.out.trans ((H5.out.less (fun g hg => List.mem_cons_of_mem _ (HL.out g hg))).keeps (Below.refl _ w6).drew))
    obtain ⟨k0, k1⟩ := cl2 (Below.refl _ w6).drew k0 k1
    refine wp_region_noPanic ?_
    refine wp_region_held_drew (S := (fun w' => w'.cell? ⟨KR, 0, none⟩ = some (.int .i64 f1) ∧ w'.cell? ⟨KR, 1, none⟩ = some (.int .i64 f2))) (by kernel_rfl) ?_ (fun hHeld => ?_)
    ·exact ⟨k0, k1⟩
    replace gF := block_later (Below.refl _ w6).drew gF
    replace H5 := Hid.mk (H5.out.later (Below.refl _ w6).drew)
    replace hB := below_tr hB (Below.refl _ w6).drew
    generalize w6.drew = Wd at *
    refine tk 0 24 (h := ?_)
    refine tk 1 25 (h := ?_)
    refine tk 2 26 (h := ?_)
    refine tk 3 8 (h := ?_)
    refine rd1 4 (h := fun K hK => ?_)
    refine step_store_seg rfl rfl 50 _ _ rfl (KH + 1) 0 _ #[.int .i64 f1, .int .i64 f2] rfl rfl rfl 50 _ gF (show 0 + 2 ≤ 2 by decide) info_fault (by simp [Value.oneCell']) #[.int .i64 f1, .int .i64 f2] rfl ?_
    intro ws0 hrq htq
    obtain ⟨k0, k1⟩ := tc2 htq k0 k1
    replace gF := hrq
    replace hB := below_turn hB htq (by omega)
    refine hK.out _ _ ⟨k0, k1⟩ (fun hHelds0 => ?_)
    clear hK hrq
    try simp only [Act.put, sq]
    refine wpAnyH_done (by kernel_rfl) ?_ _
    refine NoPanic.normal ?_
    go_wp2_with fail
    refine bodyPost_ret (v := .tuple #[v, .agg #[.int .i64 f1, .int .i64 f2]]) ?_ rfl ?_
    ·exact results_tmp_row (p := 9) (u := 8) rfl _ _ (KH + 1) 50 _ (0, 0) _ rfl gF Tryz.underlying50 rfl info_fault
    ·have hO := H5.out.put htq (fun j hj => ⟨by rw [hj]; exact List.mem_cons_of_mem _ (HL.out _ (by simp)), by rw [hj]; omega⟩)
     have ho6 := own_block HO6.out (w' := ws0) (fun g hg => htq.block g (HO6.out.lt g hg).2 (by have := (HO6.out.lt g hg).1; omega))
     unfold LdP
     refine ⟨⟨i, v, _, by omega, HP.out, HWF.out, own_low ho6 (by omega), fun g hg => List.mem_cons_of_mem _ (HL.out g (by simp [hg])), fun g hg => List.mem_cons_of_mem _ (HV.out g hg), Or.inr ⟨hlt, by rw [HF.out]; exact hf, by rw [HF.out], by rw [HT.out]; exact hO.mono (by omega)⟩⟩, ?_⟩
     exact HKW.out.trans (HK5.out.putT htq (fun g hg => ⟨by simp [hg], by have := HLT.out g hg; omega, H5.out.ltg (List.mem_cons_of_mem _ (HL.out g (by simp [hg])))⟩))
  ·have e : i = nn.toNat := by omega
   have hlt2 : ¬ (i : Int) < nn := by omega
   have gF := hk.row (by simp) HGF.out
   clear hk
   go_wp2_with
    first
    | (refine wpList_store_segTo rfl 50 _ _ rfl rfl (KH + 1) 0 _ #[.int .i64 0, .int .i64 0] rfl rfl rfl 50 _ gF (show 0 + 2 ≤ 2 by decide) info_fault (by simp [Value.oneCell']) #[.int .i64 0, .int .i64 0] rfl ?_
       intro wv hrv htv)
    | fail
   refine bodyPost_ret (v := .tuple #[v, .agg #[.int .i64 0, .int .i64 0]]) ?_ rfl ?_
   ·exact results_tmp_row (p := 9) (u := 8) rfl _ _ (KH + 1) 50 _ (0, 0) _ rfl hrv Tryz.underlying50 rfl info_fault
   ·have hO := HO.out.put htv (fun i hi => ⟨by rw [hi]; exact HL.out _ (by simp), by rw [hi]; omega⟩)
    have ho6 := own_block HOW.out (w' := wv) (fun g hg => htv.block g (HOW.out.lt g hg).2 (by have := (HOW.out.lt g hg).1; omega))
    unfold LdP
    refine ⟨⟨i, v, _, by omega, HP.out, HWF.out, own_low ho6 (by omega), fun g hg => HL.out g (by simp [hg]), HV.out, Or.inl ⟨e, rfl, by rw [← e]; exact hO⟩⟩, ?_⟩
    exact HKW.out.trans (HK.out.putT htv (fun g hg => ⟨by simp [hg], by have := HLT.out g hg; omega, HO.out.ltg (HL.out g (by simp [hg]))⟩))
end
end Go.Proofs.YtfohjkgheeiinaaGreatDoor.MM
namespace Go.Proofs.YtfohjkgheeiinaaGreatDoor.MM
open Go.RowKit Go.Maps
section
variable {w0 w w' : World} {l : List Nat} {x a n m S : Nat} {most : Int} {s : St} {B : Nat → Prop} {d : Yd}
theorem One.more {l' : List Nat} (h : One w0 w l x a n S most s) (hb : Below w.heap.size w w') (hl : ∀ g ∈ l', (g ∈ l ∨ w.heap.size ≤ g) ∧ g < w'.heap.size) : One w0 w' (l' ++ l) x a n S most s := by
 obtain ⟨X, h, hX⟩ := h
 refine ⟨X, h.later hb, fun g hg => ?_⟩
 rcases List.mem_append.1 hg with hg | hg
 ·refine ⟨(hl g hg).2, ?_⟩
  rcases (hl g hg).1 with hi | hi
  ·exact (hX g hi).2
  ·exact h.nX hi
 ·exact ⟨Nat.lt_of_lt_of_le (hX g hg).1 hb.size, (hX g hg).2⟩
theorem Mch.one {X : Nat → Prop} (h : Mch w0 w X x a n S most s) (l : List Nat) (hl : ∀ g ∈ l, g < w.heap.size ∧ ¬ X g) : One w0 w l x a n S most s := ⟨X, h, hl⟩
theorem YOk.inl (h : YOk w B m s d) : ∃ q : List Nat, YOk w (fun g => g ∈ q) m s d ∧ ∀ g ∈ q, B g ∧ g < w.heap.size := by
 have hT := h.tight
 refine ⟨(d.vm.ownBlock.toList ++ (d.aE.map (·.block)).toList) ++ ((d.aK.map (·.block)).toList ++ (d.aP.map (·.block)).toList), ⟨hT.ref, hT.len, ?_, hT.re, hT.rk, hT.rp, ?_, ?_, ?_, hT.on, hT.rg⟩, ?_⟩
 ·rcases hT.psl with q | ⟨g, cap, q1, q2, q3, q4⟩
  ·exact Or.inl q
  ·exact Or.inr ⟨g, cap, q1, by rw [q1]; simp [Value.ownBlock], q3, q4⟩
 ·intro a ha; rw [ha]; simp
 ·intro a ha; rw [ha]; simp
 ·intro a ha; refine ⟨?_, (hT.bp a ha).2⟩; rw [ha]; simp
 ·intro g hg
  rcases List.mem_append.1 hg with hg | hg
  ·rcases List.mem_append.1 hg with hg | hg
   ·rcases hT.psl with ⟨q, -⟩ | ⟨g', cap, q1, q2, q3, q4⟩
    ·rw [q] at hg; simp [Value.ownBlock] at hg
    ·rw [q1] at hg; simp [Value.ownBlock] at hg; subst hg; exact q2
   ·simp only [Option.mem_toList, Option.map_eq_some_iff] at hg
    obtain ⟨b, hb, rfl⟩ := hg
    exact hT.be b hb
  ·rcases List.mem_append.1 hg with hg | hg
   ·simp only [Option.mem_toList, Option.map_eq_some_iff] at hg
    obtain ⟨b, hb, rfl⟩ := hg
    exact hT.bk b hb
   ·simp only [Option.mem_toList, Option.map_eq_some_iff] at hg
    obtain ⟨b, hb, rfl⟩ := hg
    exact (hT.bp b hb).1
theorem YOk.kp {q : List Nat} (h : YOk w (fun g => g ∈ q) m s d) (hk : Kp l w w') (hq : ∀ g ∈ q, g ∈ l) (b1 : Below w0.heap.size w0 w) (b2 : Below w0.heap.size w0 w') : YOk w' (fun g => g ∈ q) m s d :=
 h.turn (X := fun i => i ∉ l) ⟨b2.os.trans b1.os.symm, b2.tape.trans b1.tape.symm, b2.output.trans b1.output.symm, hk.1, fun i _ hne => hk.2 i (Classical.byContradiction hne)⟩ (fun i hi c => c (hq i hi))
def Duo (w0 w : World) (l F : List Nat) (x a n S : Nat) (most : Int) (s : St) (m : Nat) (t : St) (d : Yd) : Prop :=
 One w0 w l x a n S most s ∧ (∀ g ∈ F, g ∈ l ∧ w0.heap.size ≤ g) ∧ ∃ q : List Nat, YOk w (fun g => g ∈ q) m t d ∧ ∀ g ∈ q, g ∈ l ∧ g ∉ F
variable {F : List Nat} {t t' : St} {d' : Yd} {n' m' : Nat} {s' : St}
theorem Duo.one (h : Duo w0 w l F x a n S most s m t d) : One w0 w l x a n S most s := h.1
theorem Duo.later (h : Duo w0 w l F x a n S most s m t d) (hb : Below w.heap.size w w') : Duo w0 w' l F x a n S most s m t d := by
 obtain ⟨h1, hF, q, h2, h3⟩ := h
 exact ⟨h1.later hb, hF, q, h2.later hb, h3⟩
theorem Duo.own (h : Duo w0 w l F x a n S most s m t d) (o : Obj) : Duo w0 (w.alloc o) (w.heap.size :: l) (w.heap.size :: F) x a n S most s m t d := by
 obtain ⟨h1, hF, q, h2, h3⟩ := h
 refine ⟨h1.own o, fun g hg => ?_, q, h2.later (below_new _ _), fun g hg => ⟨List.mem_cons_of_mem _ (h3 g hg).1, fun c => ?_⟩⟩
 ·rcases List.mem_cons.1 hg with rfl | hg
  ·exact ⟨by simp, h1.bl.size⟩
  ·exact ⟨List.mem_cons_of_mem _ (hF g hg).1, (hF g hg).2⟩
 ·rcases List.mem_cons.1 c with rfl | c
  ·have := h1.ltg (h3 _ hg).1; omega
  ·exact (h3 g hg).2 c
theorem Duo.acts (h : Duo w0 w l F x a n S most s m t d) (h1 : One w0 w' l x a n' S most s') (hk : Kp l w w') : Duo w0 w' l F x a n' S most s' m t d := by
 obtain ⟨h0, hF, q, h2, h3⟩ := h
 exact ⟨h1, hF, q, h2.kp hk (fun g hg => (h3 g hg).1) h0.bl h1.bl, h3⟩
theorem Duo.wide (h : Duo w0 w l F x a n S most s m t d) {L : List Nat} (h1 : One w0 w' L x a n' S most s') (hk : Kp l w w') (hL : ∀ g ∈ l, g ∈ L) : Duo w0 w' L F x a n' S most s' m t d := by
 obtain ⟨h0, hF, q, h2, h3⟩ := h
 exact ⟨h1, fun g hg => ⟨hL g (hF g hg).1, (hF g hg).2⟩, q, h2.kp hk (fun g hg => (h3 g hg).1) h0.bl h1.bl, fun g hg => ⟨hL g (h3 g hg).1, (h3 g hg).2⟩⟩
theorem Duo.put {R : Nat} (h : Duo w0 w l F x a n S most s m t d) (ht : Turn (fun i => i = R) w w') (hR : R ∈ F) : Duo w0 w' l F x a n S most s m t d := by
 obtain ⟨h0, hF, q, h2, h3⟩ := h
 exact ⟨h0.put ht (fun i hi => by rw [hi]; exact hF R hR), hF, q, h2.turn ht (fun i hi c => (h3 i hi).2 (by rw [c]; exact hR)), h3⟩
theorem Duo.same (h : Duo w0 w l F x a n S most s m s d) (hm : m < 1000000) :
  Calls Tryz.prog 8 #[.pointer (some ⟨x, 0, none⟩), .agg (d.cs S most s)] w fun r w' => r = .returned (.bool true) ∧ Below w.heap.size w w' := by
 obtain ⟨h0, -, q, h2, -⟩ := h
 have hf := h0.fm
 obtain ⟨X, h0, -⟩ := h0
 exact same_c h0 h2 hf hm
theorem Duo.yaccess (h : Duo w0 w l F x a n S most s m t d) (hf : Fm S t.f) (hw : Wf most t) (hm : m < 1000000) (kind : Int) (va v : Nat) (hva : va < 18446744073709551616) (hn : Hn) :
  Calls Tryz.prog 11 #[.agg (d.cs S most t), .int .i64 kind, .int .u64 va, .int .u64 v, hn.v] w fun r w' => ∃ d' l', r = .returned (.tuple #[.agg (d'.cs S most (accS S most t kind va v hn)), .agg #[.int .i64 (accF (leafO S t va hn) kind).1, .int .i64 (accF (leafO S t va hn) kind).2], .int .u64 (accW t.f (leafO S t va hn) kind va : Nat)]) ∧ Duo w0 w' (l' ++ l) F x a n S most s (m + 1) (accS S most t kind va v hn) d' ∧ (d'.cs S most (accS S most t kind va v hn)).all (·.oneCell') = true ∧ Below w.heap.size w w' := by
 obtain ⟨h0, hF, q, h2, h3⟩ := h
 refine (yaccess_c h2 hf hw hm kind va v hva hn).mono ?_
 rintro r w' ⟨d', rfl, h4, hb⟩
 obtain ⟨q', h5, h6⟩ := h4.inl
 refine ⟨d', q', rfl, ⟨h0.more hb (fun g hg => ⟨?_, (h6 g hg).2⟩), fun g hg => ⟨List.mem_append_right _ (hF g hg).1, (hF g hg).2⟩, q', h5, fun g hg => ⟨List.mem_append_left _ hg, fun c => ?_⟩⟩, h4.cs1, hb⟩
 ·rcases (h6 g hg).1 with c | c
  ·exact Or.inl (h3 g c).1
  ·exact Or.inr c
 ·rcases (h6 g hg).1 with k | k
  ·exact (h3 g k).2 c
  ·have := h0.ltg (hF g c).1; omega
theorem Duo.old (h : Duo w0 w l F x a n S most s m t d) (l' : List Nat) (hl : ∀ g ∈ l', g < w0.heap.size) : Duo w0 w (l' ++ l) F x a n S most s m t d := by
 obtain ⟨⟨X, h, hX⟩, hF, q, h2, h3⟩ := h
 refine ⟨⟨X, h, fun g hg => ?_⟩, fun g hg => ⟨List.mem_append_right _ (hF g hg).1, (hF g hg).2⟩, q, h2, fun g hg => ⟨List.mem_append_right _ (h3 g hg).1, (h3 g hg).2⟩⟩
 rcases List.mem_append.1 hg with hg | hg
 ·exact ⟨Nat.lt_of_lt_of_le (hl g hg) h.bl.size, fun c => by have := h.loX g c; have := hl g hg; omega⟩
 ·exact hX g hg
def dOp (v : Value) (L : WL) : Yd := { vm := v, L := L, aE := none, cE := 0, aK := none, cK := 0, on := false, R := 0, I := 0, aP := none, cP := 0 }
theorem OpenOK.duo {f : Nat → Nat} {v : Value} (h : OpenOK w w' x a most f v) : ∃ (l : List Nat) (L : WL) (p : Option Addr) (c : Nat), v = .slice p L.length c ∧ Duo w w' l [] x a 61 1048576 most ⟨f, [], [], none, []⟩ 60 ⟨f, [], [], none, []⟩ (dOp v L) := by
 obtain ⟨X, hM, L, hp, hr, hl⟩ := h.mch
 have hy : YOk w' (fun g => w.heap.size ≤ g ∧ ¬ X g) 60 ⟨f, [], [], none, []⟩ (dOp v L) :=
  ⟨hr, hl, hp, ⟨TB.RdA.nil _ _, Nat.le_refl _, Nat.zero_le _, Or.inl rfl, fun a ha => (by cases ha)⟩, ⟨TR.RdA.nil _ _, Nat.le_refl _, Nat.zero_le _, Or.inl rfl, fun a ha => (by cases ha)⟩, PL.RdA.nil _ _, fun a ha => (by cases ha), fun a ha => (by cases ha), fun a ha => (by cases ha), rfl, fun R I e => (by cases e)⟩
 obtain ⟨q, h4, h5⟩ := hy.inl
 obtain ⟨p, c, e, -⟩ := hp.form
 exact ⟨q, L, p, c, e, hM.one q (fun g hg => ⟨(h5 g hg).2, (h5 g hg).1.2⟩), fun g hg => absurd hg List.not_mem_nil, q, h4, fun g hg => ⟨hg, List.not_mem_nil⟩⟩
theorem YOk.set (h : YOk w B m s d) (R I : Nat) : YOk w B m { s with rg := some (R, I) } { d with on := true, R := R, I := I } :=
 ⟨h.ref, h.len, h.psl, h.re, h.rk, h.rp, h.be, h.bk, h.bp, rfl, fun R' I' e => by cases e; exact ⟨rfl, rfl⟩⟩
theorem wrap_va (va i : Nat) : IntKind.u64.wrap ((va : Int) + IntKind.u64.wrap (IntKind.u64.wrap (i : Int) * 8)) = ((vaN va i : Nat) : Int) := by
 unfold vaN
 first
 | (go_num; done)
 | (simp [IntKind.wrap, IntKind.signed, IntKind.bits]; omega)
 | (have h : ∀ z : Int, IntKind.u64.wrap z = z % 18446744073709551616 := fun z => by rfl
    rw [h, h, h]; omega)
theorem Duo.setY (h : Duo w0 w l F x a n S most s m t d) (R I : Nat) : Duo w0 w l F x a n S most s m { t with rg := some (R, I) } { d with on := true, R := R, I := I } := by
 obtain ⟨h0, hF, q, h2, h3⟩ := h
 exact ⟨h0, hF, q, h2.set R I, h3⟩
end
end Go.Proofs.YtfohjkgheeiinaaGreatDoor.MM
namespace Go.Proofs.YtfohjkgheeiinaaGreatDoor.MM
open Go.RowKit Go.Maps
section
variable {w0 w w' : World} {l F : List Nat} {x a n m S : Nat} {most : Int} {s t : St} {d : Yd}
theorem Duo.grow {v : Value} {g : Nat} (h : Duo w0 w l F x a n S most s m t d) (hg : w.grownBy w' v.ownBlock) (hv : ∀ q, v.ownBlock = some q → q ∈ F) (hat : v.ownBlock = some g ∨ g = w.heap.size) (hlt : g < w'.heap.size) : Duo w0 w' (g :: l) (g :: F) x a n S most s m t d := by
 obtain ⟨h1, hF, q, h2, h3⟩ := h
 have hlo : w0.heap.size ≤ g := by
  rcases hat with e | e
  ·exact (hF g (hv g e)).2
  ·rw [e]; exact h1.bl.size
 have ht : Turn (fun i => v.ownBlock = some i) w w' := ⟨hg.os, hg.tape, hg.output, hg.size, fun i hi hne => hg.block i hi (fun e => hne e.symm)⟩
 refine ⟨h1.grow hg (fun i hi => hF i (hv i hi)) hat hlt, fun i hi => ?_, q, h2.turn ht (fun i hi c => (h3 i hi).2 (hv i c)), fun i hi => ⟨List.mem_cons_of_mem _ (h3 i hi).1, fun c => ?_⟩⟩
 ·rcases List.mem_cons.1 hi with rfl | hi
  ·exact ⟨List.mem_cons_self .., hlo⟩
  ·exact ⟨List.mem_cons_of_mem _ (hF i hi).1, (hF i hi).2⟩
 ·rcases List.mem_cons.1 c with rfl | c
  ·rcases hat with e | e
   ·exact (h3 i hi).2 (hv i e)
   ·have := h1.ltg (h3 i hi).1
    omega
  ·exact (h3 i hi).2 c
theorem load_u (h : One w0 w l x a n S most s) (nn : Int) (hN : nn ≤ 60) (hn0 : n < 1000000) (va : Nat) (hva : va < 18446744073709551616) (hn : Hn) :
  Calls Tryz.prog 12 #[.pointer (some ⟨x, 0, none⟩), .int .u64 va, .int .i64 nn, hn.v] w fun r w' =>
   ∃ k v L f1 f2 kk, r = .returned (.tuple #[v, .agg #[.int .i64 f1, .int .i64 f2]]) ∧ (∀ j, j < k → (sqF S most 1 va (fun _ => 0) hn s j).1 = 0) ∧ (∀ j, j ≤ k → Wf most (sqS S most 1 va (fun _ => 0) hn s j) ∧ Fm S (sqS S most 1 va (fun _ => 0) hn s j).f) ∧ w'.ownsRow w.heap.size 26 1 v k (wsV S most va hn s k) ∧ (∀ g ∈ l, g ∈ L) ∧ (∀ g, v.ownBlock = some g → g ∈ L) ∧
    ((k = nn.toNat ∧ kk = nn.toNat ∧ f1 = 0 ∧ f2 = 0) ∨ (k < nn.toNat ∧ kk = k + 1 ∧ sqF S most 1 va (fun _ => 0) hn s k = (f1, f2) ∧ f1 ≠ 0)) ∧ One w0 w' L x a (n + nn.toNat) S most (sqS S most 1 va (fun _ => 0) hn s kk) ∧ Kp l w w' := by
 refine (load_c h nn hN hn0 va hva hn).mono ?_
 rintro r w' ⟨⟨k, v, L, hk, hp, hwf, ho, hL, hv, hc⟩, hkp⟩
 rcases hc with ⟨rfl, rfl, h1⟩ | ⟨hlt, hne, rfl, h1⟩
 ·exact ⟨_, v, L, 0, 0, _, rfl, hp, hwf, ho, hL, hv, Or.inl ⟨rfl, rfl, rfl, rfl⟩, h1, hkp⟩
 ·exact ⟨k, v, L, _, _, k + 1, rfl, hp, hwf, ho, hL, hv, Or.inr ⟨hlt, rfl, rfl, hne⟩, h1, hkp⟩
end
end Go.Proofs.YtfohjkgheeiinaaGreatDoor.MM
