/- Swap. -/
import Derived.Test.YtcmndefjmhcbhaaDoorTreJ
set_option linter.unusedVariables false
namespace Go.Proofs.YtcmndefjmhcbhaaDoor
open Go.RowKit
namespace TE

set_option maxRecDepth 100000 in
set_option maxHeartbeats 2000000 in
theorem swap_no1 {w0 W : World} {O : Nat → Prop} {x ad S n : Nat} {g : Nat → Nat} {σ : Nat → Option Sl} {fs ct : Nat} (h : TrS w0 W O x ad S n g σ fs ct) {p y : Nat} (hlt : p < 18446744073709551616) (hz : Zr g p) (hp : σ p = none) :
    Calls Tryd.prog 25 #[.pointer (some ⟨x, 0, none⟩), .int .u64 (p : Nat), .int .u64 (y : Nat)] W fun e w' => e = .returned (.int .i64 (heE S p)) ∧ Below W.heap.size W w' := by
  have cH := fun (w1 : World) (hb : Below W.heap.size W w1) => held_no (h.below hb) hlt hp hz
  have hE : ¬ heE S p = 0 := he_ne
  have hB := Below.refl W.heap.size W
  generalize heE S p = E at *
  have dE : ((E : Int) != 0) = true := by rw [bne_iff_ne]; exact hE
  clear h hz hlt hE hp
  go_enter Tryd.func25, Tryd.ntmps25
  go_wp2_with fail
  refine (cH _ hB).mono ?_
  rintro e w1 ⟨rfl, hb⟩
  replace hB := below_tr hB hb
  have hRT := hB.size
  have gT := Hid.mk (heap_alloc_new w1 (.cells #[.int .i64 0, .int .u64 0, .int .i64 0, .int .i64 0, .int .i64 0, .int .i64 0, .int .u64 0, .int .u64 0, .int .u64 0, .int .i64 0] 61))
  replace hB := below_tr hB (below_new w1 (.cells #[.int .i64 0, .int .u64 0, .int .i64 0, .int .i64 0, .int .i64 0, .int .i64 0, .int .u64 0, .int .u64 0, .int .u64 0, .int .i64 0] 61))
  go_upto_region 2 with (first
    | (refine wpList_store_segTo rfl 61 _ _ rfl rfl (w1.heap.size) 0 _ Z10 rfl rfl rfl 61 _ (gT.out) (by rw [z10]; exact Nat.le_refl 10) (info10.trans (congrArg some z10.symm)) z1 Z10 (segA_all _ _ (by rw [z10]; rfl)) ?_; intro wq hrq htq)
    | fail)
  replace gT := hrq
  replace hB := below_turn hB htq hRT
  clear hrq htq hb
  go_wp2
  go_ret
  exact ⟨rfl, hB⟩
set_option maxRecDepth 100000 in
set_option maxHeartbeats 2000000 in
theorem swap_no2 {w0 W : World} {O : Nat → Prop} {x ad S n : Nat} {g : Nat → Nat} {σ : Nat → Option Sl} {fs ct : Nat} (h : TrS w0 W O x ad S n g σ fs ct) {p y : Nat} {t : Sl} (hlt : y < 18446744073709551616) (hz : Zr g y) (hp : σ p = some t) (hy : σ y = none) :
    Calls Tryd.prog 25 #[.pointer (some ⟨x, 0, none⟩), .int .u64 (p : Nat), .int .u64 (y : Nat)] W fun e w' => e = .returned (.int .i64 (heE S y)) ∧ Below W.heap.size W w' := by
  have cH := fun (w1 : World) (hb : Below W.heap.size W w1) => held_ok (h.below hb) hp
  have cH2 := fun (w1 : World) (hb : Below W.heap.size W w1) => held_no (h.below hb) hlt hy hz
  have hE : ¬ heE S y = 0 := he_ne
  have hB := Below.refl W.heap.size W
  generalize heE S y = E at *
  have dE : ((E : Int) != 0) = true := by rw [bne_iff_ne]; exact hE
  clear h hz hlt hE hp hy
  go_enter Tryd.func25, Tryd.ntmps25
  go_wp2_with fail
  refine (cH _ hB).mono ?_
  rintro e w1 ⟨rfl, hb⟩
  replace hB := below_tr hB hb
  have hRT := hB.size
  have gT := Hid.mk (heap_alloc_new w1 (.cells #[.int .i64 0, .int .u64 0, .int .i64 0, .int .i64 0, .int .i64 0, .int .i64 0, .int .u64 0, .int .u64 0, .int .u64 0, .int .i64 0] 61))
  replace hB := below_tr hB (below_new w1 (.cells #[.int .i64 0, .int .u64 0, .int .i64 0, .int .i64 0, .int .i64 0, .int .i64 0, .int .u64 0, .int .u64 0, .int .u64 0, .int .i64 0] 61))
  go_upto_region 2 with (first
    | (refine wpList_store_segTo rfl 61 _ _ rfl rfl (w1.heap.size) 0 _ t.row rfl rfl rfl 61 _ (gT.out) (by rw [(row10 t)]; exact Nat.le_refl 10) (info10.trans (congrArg some (row10 t).symm)) (row1 t) t.row (segA_all _ _ (by rw [(row10 t)]; rfl)) ?_; intro wq hrq htq)
    | fail)
  replace gT := hrq
  replace hB := below_turn hB htq hRT
  clear hrq htq hb
  go_wp2_with fail
  refine (cH2 _ hB).mono ?_
  rintro e w2 ⟨rfl, hb⟩
  replace hB := below_tr hB hb
  replace gT := block_later hb gT
  have hRT2 := hB.size
  have hlt2 := block_lt gT
  have gU := Hid.mk (heap_alloc_new w2 (.cells #[.int .i64 0, .int .u64 0, .int .i64 0, .int .i64 0, .int .i64 0, .int .i64 0, .int .u64 0, .int .u64 0, .int .u64 0, .int .i64 0] 61))
  replace gT := Hid.mk (block_later (below_new w2 (.cells #[.int .i64 0, .int .u64 0, .int .i64 0, .int .i64 0, .int .i64 0, .int .i64 0, .int .u64 0, .int .u64 0, .int .u64 0, .int .i64 0] 61)) gT)
  replace hB := below_tr hB (below_new w2 (.cells #[.int .i64 0, .int .u64 0, .int .i64 0, .int .i64 0, .int .i64 0, .int .i64 0, .int .u64 0, .int .u64 0, .int .u64 0, .int .i64 0] 61))
  go_upto_region 5 with (first
    | (refine wpList_store_segTo rfl 61 _ _ rfl rfl (w2.heap.size) 0 _ Z10 rfl rfl rfl 61 _ (gU.out) (by rw [z10]; exact Nat.le_refl 10) (info10.trans (congrArg some z10.symm)) z1 Z10 (segA_all _ _ (by rw [z10]; rfl)) ?_; intro wz hrq htq)
    | fail)
  replace gT := block_turn htq gT.out (Nat.ne_of_lt hlt2)
  replace gU := hrq
  replace hB := below_turn hB htq hRT2
  clear hrq htq hb
  go_wp2
  go_ret
  exact ⟨rfl, hB⟩
set_option maxRecDepth 100000 in
set_option maxHeartbeats 2000000 in
theorem swap_mk {σ1 σ2 : Nat → Option Sl} {fs1 fs2 : Nat} {w0 W : World} {O : Nat → Prop} {x ad S n : Nat} {g : Nat → Nat} {σ : Nat → Option Sl} {fs ct : Nat} (h : TrS w0 W O x ad S n g σ fs ct) {p y : Nat} {t u : Sl} (hp : σ p = some t) (hy : σ y = some u)
    (cL1 : ∀ w1, Below W.heap.size W w1 → Calls Tryd.prog 32 #[.pointer (some ⟨x, 0, none⟩), .int .u64 (p : Nat), .agg (tnS p y u).row] w1 fun e w' => e = .returned (.tuple #[]) ∧ NxS w0 w1 O x ad S (n + 20) g σ1 fs1 ct w')
    (cL2 : ∀ w1 O1, TrS w0 w1 O1 x ad S (n + 20) g σ1 fs1 ct → Calls Tryd.prog 32 #[.pointer (some ⟨x, 0, none⟩), .int .u64 (y : Nat), .agg (tnS p y t).row] w1 fun e w' => e = .returned (.tuple #[]) ∧ NxS w0 w1 O1 x ad S (n + 40) g σ2 fs2 ct w') :
    Calls Tryd.prog 25 #[.pointer (some ⟨x, 0, none⟩), .int .u64 (p : Nat), .int .u64 (y : Nat)] W fun e w' => e = .returned (.int .i64 0) ∧ NxS w0 W O x ad S (n + 40) g σ2 fs2 ct w' := by
  have hlo := h.olt
  have cH := fun (w1 : World) (hb : Below W.heap.size W w1) => held_ok (h.below hb) hp
  have cH2 := fun (w1 : World) (hb : Below W.heap.size W w1) => held_ok (h.below hb) hy
  have cT := fun (w1 : World) => turned_c u p y w1
  have cT2 := fun (w1 : World) => turned_c t p y w1
  have hB := Below.refl W.heap.size W
  clear h hp hy
  go_enter Tryd.func25, Tryd.ntmps25
  go_wp2_with fail
  refine (cH _ hB).mono ?_
  rintro e w1 ⟨rfl, hb⟩
  replace hB := below_tr hB hb
  have hRT := hB.size
  have gT := Hid.mk (heap_alloc_new w1 (.cells #[.int .i64 0, .int .u64 0, .int .i64 0, .int .i64 0, .int .i64 0, .int .i64 0, .int .u64 0, .int .u64 0, .int .u64 0, .int .i64 0] 61))
  replace hB := below_tr hB (below_new w1 (.cells #[.int .i64 0, .int .u64 0, .int .i64 0, .int .i64 0, .int .i64 0, .int .i64 0, .int .u64 0, .int .u64 0, .int .u64 0, .int .i64 0] 61))
  go_upto_region 2 with (first
    | (refine wpList_store_segTo rfl 61 _ _ rfl rfl (w1.heap.size) 0 _ t.row rfl rfl rfl 61 _ (gT.out) (by rw [(row10 t)]; exact Nat.le_refl 10) (info10.trans (congrArg some (row10 t).symm)) (row1 t) t.row (segA_all _ _ (by rw [(row10 t)]; rfl)) ?_; intro wq hrq htq)
    | fail)
  replace gT := hrq
  replace hB := below_turn hB htq hRT
  clear hrq htq hb
  go_wp2_with fail
  refine (cH2 _ hB).mono ?_
  rintro e w2 ⟨rfl, hb⟩
  replace hB := below_tr hB hb
  replace gT := block_later hb gT
  have hRT2 := hB.size
  have hlt2 := block_lt gT
  have gU := Hid.mk (heap_alloc_new w2 (.cells #[.int .i64 0, .int .u64 0, .int .i64 0, .int .i64 0, .int .i64 0, .int .i64 0, .int .u64 0, .int .u64 0, .int .u64 0, .int .i64 0] 61))
  replace gT := Hid.mk (block_later (below_new w2 (.cells #[.int .i64 0, .int .u64 0, .int .i64 0, .int .i64 0, .int .i64 0, .int .i64 0, .int .u64 0, .int .u64 0, .int .u64 0, .int .i64 0] 61)) gT)
  replace hB := below_tr hB (below_new w2 (.cells #[.int .i64 0, .int .u64 0, .int .i64 0, .int .i64 0, .int .i64 0, .int .i64 0, .int .u64 0, .int .u64 0, .int .u64 0, .int .i64 0] 61))
  go_upto_region 5 with (first
    | (refine wpList_store_segTo rfl 61 _ _ rfl rfl (w2.heap.size) 0 _ u.row rfl rfl rfl 61 _ (gU.out) (by rw [(row10 u)]; exact Nat.le_refl 10) (info10.trans (congrArg some (row10 u).symm)) (row1 u) u.row (segA_all _ _ (by rw [(row10 u)]; rfl)) ?_; intro wz hrq htq)
    | fail)
  replace gT := block_turn htq gT.out (Nat.ne_of_lt hlt2)
  replace gU := hrq
  replace hB := below_turn hB htq hRT2
  clear hrq htq hb
  obtain ⟨p0, p1, p2, p3, p4, p5, p6, p7, p8, p9⟩ := cells10 gU
  go_wp2_with fail
  refine (cT _).mono ?_
  clear p0 p1 p2 p3 p4 p5 p6 p7 p8 p9
  rintro e w3 ⟨rfl, hb⟩
  replace hB := below_tr hB hb
  replace gT := block_later hb gT
  clear hb
  go_wp2_with fail
  refine (cL1 _ hB).mono ?_
  rintro e w4 ⟨rfl, O1, h1, t1, o1⟩
  replace gT := turn_row t1 gT (fun c => Nat.not_lt_of_le hRT (hlo _ c))
  have HT := Hid.mk (And.intro t1 o1)
  obtain ⟨p0, p1, p2, p3, p4, p5, p6, p7, p8, p9⟩ := cells10 gT
  go_wp2_with fail
  refine (cT2 _).mono ?_
  clear p0 p1 p2 p3 p4 p5 p6 p7 p8 p9
  rintro e w5 ⟨rfl, hb⟩
  have cL3 := cL2 _ _ (h1.below hb)
  have HB5 := Hid.mk hb
  clear hb h1 t1 o1 cL2
  go_wp2_with fail
  refine cL3.mono ?_
  rintro e w6 ⟨rfl, hN⟩
  have HN := Hid.mk (NxS.base hB (NxS.trans HT.out.1 HT.out.2 (NxS.base HB5.out hN)))
  clear hN
  go_wp2
  go_ret
  exact ⟨rfl, HN.out⟩
end TE
end Go.Proofs.YtcmndefjmhcbhaaDoor
