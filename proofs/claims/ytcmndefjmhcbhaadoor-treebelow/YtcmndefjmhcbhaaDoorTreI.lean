/- Move. -/
import Derived.Test.YtcmndefjmhcbhaaDoorTreH
set_option linter.unusedVariables false
namespace Go.Proofs.YtcmndefjmhcbhaaDoor
open Go.RowKit
namespace TE

theorem wipe_c {w0 W : World} {O : Nat → Prop} {x ad S n : Nat} {g : Nat → Nat} {σ : Nat → Option Sl} {fs ct : Nat} (h : TrS w0 W O x ad S n g σ fs ct) (hn : n + 4 < 100000000) {p : Nat} (hp : sE S p = 0) (hz : Zr g p) :
    Calls Tryd.prog 33 #[.pointer (some ⟨ad, 0, none⟩), .int .u64 (p : Nat)] W fun e w' => e = .returned (.int .i64 0) ∧ NxS w0 W O x ad S (n + 4) g (up σ p none) fs ct w' := by
  obtain ⟨f, h1, h2⟩ := h.mem
  have hlt : p < 18446744073709551616 := by have := (sE_ok hp).2; have := h.sm; omega
  refine (wipe_ok h1 hn p hlt hp h.prts).mono fun e w' hh => ⟨hh.1, h.wrote hh.2 (h2.wipe h.sm.2.2 hp hz) ?_⟩
  rw [up_z]
  by_cases c : 0 = p
  · rw [if_pos c]
  · rw [if_neg c]; exact h.z0
set_option maxRecDepth 100000 in
set_option maxHeartbeats 2000000 in
theorem move_no1 {w0 W : World} {O : Nat → Prop} {x ad S n : Nat} {g : Nat → Nat} {σ : Nat → Option Sl} {fs ct : Nat} (h : TrS w0 W O x ad S n g σ fs ct) {p y : Nat} (hlt : p < 18446744073709551616) (hz : Zr g p) (hp : σ p = none) :
    Calls Tryd.prog 14 #[.pointer (some ⟨x, 0, none⟩), .int .u64 (p : Nat), .int .u64 (y : Nat)] W fun e w' => e = .returned (.int .i64 (heE S p)) ∧ Below W.heap.size W w' := by
  have cH := fun (w1 : World) (hb : Below W.heap.size W w1) => held_no (h.below hb) hlt hp hz
  have hE : ¬ heE S p = 0 := he_ne
  have hB := Below.refl W.heap.size W
  generalize heE S p = E at *
  have dE : ((E : Int) != 0) = true := by rw [bne_iff_ne]; exact hE
  clear h hz hlt hE hp
  go_enter Tryd.func14, Tryd.ntmps14
  go_wp2_with fail
  refine (cH _ hB).mono ?_
  rintro e w1 ⟨rfl, hb⟩
  replace hB := below_tr hB hb
  have hRT := hB.size
  have gT := Hid.mk (heap_alloc_new w1 (.cells #[.int .i64 0, .int .u64 0, .int .i64 0, .int .i64 0, .int .i64 0, .int .i64 0, .int .u64 0, .int .u64 0, .int .u64 0, .int .i64 0] 61))
  replace hB := below_tr hB (below_new w1 (.cells #[.int .i64 0, .int .u64 0, .int .i64 0, .int .i64 0, .int .i64 0, .int .i64 0, .int .u64 0, .int .u64 0, .int .u64 0, .int .i64 0] 61))
  go_upto_region 2 with (first
    | (refine wpList_store_segTo rfl 61 _ _ rfl rfl (w1.heap.size) 0 _ Z10 rfl rfl rfl 61 _ (gT.out) (by rw [z10]; exact Nat.le_refl 10) (info10.trans (congrArg some z10.symm)) z1 Z10 (segA_all _ _ (by rw [z10]; rfl)) ?_; intro wq hrq htq)
    | fail)
  replace gT := hrq
  replace hB := below_turn hB htq hRT
  clear hrq htq hb
  go_wp2
  go_ret
  exact ⟨rfl, hB⟩
set_option maxRecDepth 100000 in
set_option maxHeartbeats 2000000 in
theorem move_no2 {w0 W : World} {O : Nat → Prop} {x ad S n : Nat} {g : Nat → Nat} {σ : Nat → Option Sl} {fs ct : Nat} (h : TrS w0 W O x ad S n g σ fs ct) {p y : Nat} {t : Sl} (hlt : y < 18446744073709551616) (hz : Zr g y) (hp : σ p = some t) (hE : ¬ frE S σ y = 0) :
    Calls Tryd.prog 14 #[.pointer (some ⟨x, 0, none⟩), .int .u64 (p : Nat), .int .u64 (y : Nat)] W fun e w' => e = .returned (.int .i64 (frE S σ y)) ∧ Below W.heap.size W w' := by
  have cH := fun (w1 : World) (hb : Below W.heap.size W w1) => held_ok (h.below hb) hp
  have cF := fun (w1 : World) (hb : Below W.heap.size W w1) => free_c (h.below hb) hlt hz
  have hB := Below.refl W.heap.size W
  generalize frE S σ y = E at *
  have dE : ((E : Int) != 0) = true := by rw [bne_iff_ne]; exact hE
  clear h hz hlt hE hp
  go_enter Tryd.func14, Tryd.ntmps14
  go_wp2_with fail
  refine (cH _ hB).mono ?_
  rintro e w1 ⟨rfl, hb⟩
  replace hB := below_tr hB hb
  have hRT := hB.size
  have gT := Hid.mk (heap_alloc_new w1 (.cells #[.int .i64 0, .int .u64 0, .int .i64 0, .int .i64 0, .int .i64 0, .int .i64 0, .int .u64 0, .int .u64 0, .int .u64 0, .int .i64 0] 61))
  replace hB := below_tr hB (below_new w1 (.cells #[.int .i64 0, .int .u64 0, .int .i64 0, .int .i64 0, .int .i64 0, .int .i64 0, .int .u64 0, .int .u64 0, .int .u64 0, .int .i64 0] 61))
  go_upto_region 2 with (first
    | (refine wpList_store_segTo rfl 61 _ _ rfl rfl (w1.heap.size) 0 _ t.row rfl rfl rfl 61 _ (gT.out) (by rw [(row10 t)]; exact Nat.le_refl 10) (info10.trans (congrArg some (row10 t).symm)) (row1 t) t.row (segA_all _ _ (by rw [(row10 t)]; rfl)) ?_; intro wq hrq htq)
    | fail)
  replace gT := hrq
  replace hB := below_turn hB htq hRT
  clear hrq htq hb
  go_wp2_with fail
  refine (cF _ hB).mono ?_
  rintro e w2 ⟨rfl, hb⟩
  replace hB := below_tr hB hb
  go_wp2
  go_ret
  exact ⟨rfl, hB⟩
set_option maxRecDepth 100000 in
set_option maxHeartbeats 2000000 in
theorem move_mk {w0 W : World} {O : Nat → Prop} {x ad S n : Nat} {g : Nat → Nat} {σ : Nat → Option Sl} {fs ct : Nat} (h : TrS w0 W O x ad S n g σ fs ct) (hn : n + 24 < 100000000) {p y : Nat} {t : Sl} (hlt : y < 18446744073709551616) (hz : Zr g y) (hzp : Zr g p) (hp : σ p = some t) (hE : frE S σ y = 0) (hy : sE S y = 0) (y0 : y ≠ 0)
    (hpv : t.pv = 0 ∨ ∃ s, up σ y (some t) t.pv = some s) (hnx : t.nx = 0 ∨ ∃ s, up σ y (some t) t.nx = some s) :
    Calls Tryd.prog 14 #[.pointer (some ⟨x, 0, none⟩), .int .u64 (p : Nat), .int .u64 (y : Nat)] W fun e w' => e = .returned (.int .i64 0) ∧ NxS w0 W O x ad S (n + 24) g (up (lyS y t σ) p none) (lyF y t fs) ct w' := by
  have H0 := Hid.mk h
  have cH := fun (w1 : World) (hb : Below W.heap.size W w1) => held_ok (h.below hb) hp
  have cF := fun (w1 : World) (hb : Below W.heap.size W w1) => free_c (h.below hb) hlt hz
  rw [hE] at cF
  have cL := fun (w1 : World) (hb : Below W.heap.size W w1) => lay_c (h.below hb) (show n + 20 < 100000000 by omega) hy y0 (h.good hp).1 hpv hnx
  have hpe : sE S p = 0 := by obtain ⟨f, h1, h2⟩ := h.mem; exact (h2.ok p t hp).1
  have cW := fun (w1 : World) (O1 : Nat → Prop) (h1 : TrS w0 w1 O1 x ad S (n + 20) g (lyS y t σ) (lyF y t fs) ct) => wipe_c h1 (by omega) hpe hzp
  have hB := Below.refl W.heap.size W
  clear h hz hlt hE hp hzp hpe hy y0 hn hpv hnx
  go_enter Tryd.func14, Tryd.ntmps14
  go_wp2_with fail
  refine (cH _ hB).mono ?_
  rintro e w1 ⟨rfl, hb⟩
  replace hB := below_tr hB hb
  have hRT := hB.size
  have gT := Hid.mk (heap_alloc_new w1 (.cells #[.int .i64 0, .int .u64 0, .int .i64 0, .int .i64 0, .int .i64 0, .int .i64 0, .int .u64 0, .int .u64 0, .int .u64 0, .int .i64 0] 61))
  replace hB := below_tr hB (below_new w1 (.cells #[.int .i64 0, .int .u64 0, .int .i64 0, .int .i64 0, .int .i64 0, .int .i64 0, .int .u64 0, .int .u64 0, .int .u64 0, .int .i64 0] 61))
  go_upto_region 2 with (first
    | (refine wpList_store_segTo rfl 61 _ _ rfl rfl (w1.heap.size) 0 _ t.row rfl rfl rfl 61 _ (gT.out) (by rw [(row10 t)]; exact Nat.le_refl 10) (info10.trans (congrArg some (row10 t).symm)) (row1 t) t.row (segA_all _ _ (by rw [(row10 t)]; rfl)) ?_; intro wq hrq htq)
    | fail)
  replace gT := hrq
  replace hB := below_turn hB htq hRT
  clear hrq htq hb
  go_wp2_with fail
  refine (cF _ hB).mono ?_
  rintro e w2 ⟨rfl, hb⟩
  replace hB := below_tr hB hb
  replace gT := block_later hb gT
  obtain ⟨p0, p1, p2, p3, p4, p5, p6, p7, p8, p9⟩ := cells10 gT
  go_wp2_with fail
  refine (cL _ hB).mono ?_
  clear p0 p1 p2 p3 p4 p5 p6 p7 p8 p9
  rintro e w3 ⟨rfl, O1, h1, t1, o1⟩
  have k0 := h1.c0
  have cW2 := cW w3 O1 h1
  have HT := Hid.mk (And.intro t1 o1)
  clear h1 t1 o1 cW
  go_wp2_with fail
  refine cW2.mono ?_
  rintro e w4 ⟨rfl, hN⟩
  have HN := Hid.mk (NxS.base hB (NxS.trans HT.out.1 HT.out.2 hN))
  clear hN
  go_wp2
  go_ret
  exact ⟨rfl, HN.out⟩
end TE
end Go.Proofs.YtcmndefjmhcbhaaDoor
