/- SlotWipes (P12.1): for any address, any four words there, and any word beside, the law returns true: a slot that is wiped is loaded as an empty one, and the word beside is as it was; an address that is refused changes nothing. No condition beyond the row's own. -/
import Derived.Test.YtieldgocgjoojaaDoorSlotF
import Derived.Test.YtieldgocgjoojaaDoorSlotFrame
set_option linter.unusedVariables false
namespace Go.Proofs.YtieldgocgjoojaaDoor.slotWipes
open Go.ChangeShapes Go.WideShapes Go.ChangeAt Go.RowKit Go.Lib

theorem gr_above {Y : Nat → Prop} {w W : World} {n : Nat} (h : ∀ i, Y i → n < i) (hn : n < w.heap.size) : ∀ i, Gr Y w W i → n < i := fun i q => by
  rcases q with q | q
  · exact h i q
  · omega

set_option maxRecDepth 100000 in
set_option maxHeartbeats 4000000 in
theorem walk_no (x A B C D y v : Nat) (w : World) (hx : x < 18446744073709551616) (hA : A < 18446744073709551616) (hB0 : B < 18446744073709551616) (hC : C < 18446744073709551616) (hD : D < 18446744073709551616) (hy : y < 18446744073709551616) (hv : v < 18446744073709551616) (hP : SPrts w) {E : Int} (hE : sE 65536 x = E) (hE0 : ¬ E = 0) : Calls Tryd.prog 5 #[.int .u64 (x : Nat), .agg #[.int .u64 (A : Nat), .int .u64 (B : Nat), .int .u64 (C : Nat), .int .u64 (D : Nat)], .int .u64 (y : Nat), .int .u64 (v : Nat)] w fun e w' => e = .returned (.bool true) ∧ Below w.heap.size w w' := by
  have cO := fun W => opened_c x A B C D hx hA hB0 hC hD W
  have cA := fun W hW => anchorS_any W hW
  have cM := fun W => may_any x hx W
  have cW : ∀ (W : World) (Y : Nat → Prop) ad, MemAt W Y ad 65536 4 (opF x ((x + 8) % 18446744073709551616) ((x + 16) % 18446744073709551616) ((x + 24) % 18446744073709551616) A B C D) → Calls Tryd.prog 20 #[.pointer (some ⟨ad, 0, none⟩), .int .u64 y, .int .u64 v] W fun e w' => e = .returned (.int .i64 (errA 65536 y)) ∧ MemAt w' (Gr Y W w') ad 65536 5 (wrF (opF x ((x + 8) % 18446744073709551616) ((x + 16) % 18446744073709551616) ((x + 24) % 18446744073709551616) A B C D) 65536 y v) ∧ Turn Y W w' := fun W Y ad h => write_c h (by decide) y v hy hv
  have cR : ∀ (W : World) (Y : Nat → Prop) ad, MemAt W Y ad 65536 5 (wrF (opF x ((x + 8) % 18446744073709551616) ((x + 16) % 18446744073709551616) ((x + 24) % 18446744073709551616) A B C D) 65536 y v) → Calls Tryd.prog 16 #[.pointer (some ⟨ad, 0, none⟩), .int .u64 y] W fun e w' => e = .returned (.tuple #[.int .u64 ((wrF (opF x ((x + 8) % 18446744073709551616) ((x + 16) % 18446744073709551616) ((x + 24) % 18446744073709551616) A B C D) 65536 y v) y : Nat), .int .i64 (errA 65536 y)]) ∧ Below W.heap.size W w' := fun W Y ad h => read_c h y hy
  have cI : ∀ (W : World) (Y : Nat → Prop) ad, MemAt W Y ad 65536 5 (wrF (opF x ((x + 8) % 18446744073709551616) ((x + 16) % 18446744073709551616) ((x + 24) % 18446744073709551616) A B C D) 65536 y v) → Calls Tryd.prog 21 #[.pointer (some ⟨ad, 0, none⟩), .int .u64 x] W fun e w' => e = .returned (.int .i64 E) ∧ Below W.heap.size W w' := fun W Y ad h => wipe_no h x hx hE hE0
  rw [hE] at cM
  have dE : ((E : Int) != 0) = true := by rw [bne_iff_ne]; exact hE0
  generalize (wrF (opF x ((x + 8) % 18446744073709551616) ((x + 16) % 18446744073709551616) ((x + 24) % 18446744073709551616) A B C D) 65536 y v) = G at *
  generalize (opF x ((x + 8) % 18446744073709551616) ((x + 16) % 18446744073709551616) ((x + 24) % 18446744073709551616) A B C D) = F at *
  generalize errA 65536 y = E1 at *
  clear hx hA hB0 hC hD hE hE0 hy hv
  go_enter Tryd.func5, Tryd.ntmps5
  go_wp2_with fail
  have gC := heap_alloc_new w (.cells #[.int .u64 (A : Nat), .int .u64 (B : Nat), .int .u64 (C : Nat), .int .u64 (D : Nat)] 27)
  have hB := below_new w (.cells #[.int .u64 (A : Nat), .int .u64 (B : Nat), .int .u64 (C : Nat), .int .u64 (D : Nat)] 27)
  generalize w.alloc (.cells #[.int .u64 (A : Nat), .int .u64 (B : Nat), .int .u64 (C : Nat), .int .u64 (D : Nat)] 27) = W0 at *
  obtain ⟨c0, c1, c2, c3⟩ := cells4 gC
  have cp0 := fun o => cell_alloc (o := o) c0
  have cp1 := fun o => cell_alloc (o := o) c1
  have cp2 := fun o => cell_alloc (o := o) c2
  have cp3 := fun o => cell_alloc (o := o) c3
  refine (cA _ (hP.later hB)).mono ?_
  clear c0 cp0 c1 cp1 c2 cp2 c3 cp3
  rintro e w1 ⟨rfl, hb⟩
  replace gC := block_later hb gC
  replace hB := below_tr hB hb
  clear hb
  obtain ⟨c0, c1, c2, c3⟩ := cells4 gC
  have cp0 := fun o => cell_alloc (o := o) c0
  have cp1 := fun o => cell_alloc (o := o) c1
  have cp2 := fun o => cell_alloc (o := o) c2
  have cp3 := fun o => cell_alloc (o := o) c3
  go_wp2_with fail
  refine (cO _).mono ?_
  clear c0 cp0 c1 cp1 c2 cp2 c3 cp3
  rintro e w2 ⟨ad, rfl, hM0⟩
  obtain ⟨Y, hM, hY⟩ := Wn.mem hM0
  have hb := Wn.bel hM0
  have HM := Hid.mk hM
  have hY0 : ∀ i, Y i → w.heap.size < i := fun i q => Nat.lt_of_lt_of_le (block_lt gC) (hY i q).1
  replace gC := block_later hb gC
  replace hB := below_tr hB hb
  clear hb hM hM0
  obtain ⟨c0, c1, c2, c3⟩ := cells4 gC
  have cp0 := fun o => cell_alloc (o := o) c0
  have cp1 := fun o => cell_alloc (o := o) c1
  have cp2 := fun o => cell_alloc (o := o) c2
  have cp3 := fun o => cell_alloc (o := o) c3
  have hb0 := block_lt gC
  go_wp2_with fail
  refine (cW _ _ _ HM.out).mono ?_
  clear c0 cp0 c1 cp1 c2 cp2 c3 cp3
  rintro e w3 ⟨rfl, hM2, hT⟩
  
  replace gC := turn_row hT gC (fun c => Nat.lt_irrefl _ (hY0 _ c))
  have hlt := Nat.lt_of_lt_of_le (block_lt gC) (Nat.le_refl _)
  replace hB := hB.trans (hT.below (fun i q => Nat.le_of_lt (hY0 i q)) hB.size)
  clear HM
  have HM := Hid.mk hM2
  replace hY0 := gr_above hY0 (Nat.lt_of_lt_of_le hb0 (Nat.le_refl _)) (W := w3)
  clear hM2 hT hlt hb0
  obtain ⟨c0, c1, c2, c3⟩ := cells4 gC
  have cp0 := fun o => cell_alloc (o := o) c0
  have cp1 := fun o => cell_alloc (o := o) c1
  have cp2 := fun o => cell_alloc (o := o) c2
  have cp3 := fun o => cell_alloc (o := o) c3
  go_wp2_with fail
  refine (cR _ _ _ HM.out).mono ?_
  clear c0 cp0 c1 cp1 c2 cp2 c3 cp3
  rintro e w4 ⟨rfl, hb⟩
  replace gC := block_later hb gC
  replace hB := below_tr hB hb
  replace HM := Hid.mk (HM.out.below hb)
  clear hb
  obtain ⟨c0, c1, c2, c3⟩ := cells4 gC
  have cp0 := fun o => cell_alloc (o := o) c0
  have cp1 := fun o => cell_alloc (o := o) c1
  have cp2 := fun o => cell_alloc (o := o) c2
  have cp3 := fun o => cell_alloc (o := o) c3
  go_wp2_with fail
  refine (copy_c HM.out (by decide)).mono ?_
  clear c0 cp0 c1 cp1 c2 cp2 c3 cp3
  rintro e w5 ⟨cc, rfl, hK, hb⟩
  have HK := Hid.mk hK
  clear hK
  replace gC := block_later hb gC
  replace hB := below_tr hB hb
  replace HM := Hid.mk (HM.out.below hb)
  clear hb
  obtain ⟨c0, c1, c2, c3⟩ := cells4 gC
  have cp0 := fun o => cell_alloc (o := o) c0
  have cp1 := fun o => cell_alloc (o := o) c1
  have cp2 := fun o => cell_alloc (o := o) c2
  have cp3 := fun o => cell_alloc (o := o) c3
  go_wp2_with fail
  refine (cI _ _ _ HM.out).mono ?_
  clear c0 cp0 c1 cp1 c2 cp2 c3 cp3
  rintro e w6 ⟨rfl, hb⟩
  replace gC := block_later hb gC
  replace hB := below_tr hB hb
  replace HM := Hid.mk (HM.out.below hb)
  replace HK := Hid.mk (HK.out.below hb)
  clear hb
  obtain ⟨c0, c1, c2, c3⟩ := cells4 gC
  have cp0 := fun o => cell_alloc (o := o) c0
  have cp1 := fun o => cell_alloc (o := o) c1
  have cp2 := fun o => cell_alloc (o := o) c2
  have cp3 := fun o => cell_alloc (o := o) c3
  go_wp2_with fail
  refine (cM _).mono ?_
  rintro e w7 ⟨rfl, rfl⟩
  go_wp2_with fail
  refine (same_c HM.out HK.out).mono ?_
  clear c0 cp0 c1 cp1 c2 cp2 c3 cp3
  rintro e w8 ⟨⟨q, rfl, hq⟩, hb⟩
  obtain rfl : q = true := hq.2 ⟨rfl, rfl⟩
  replace gC := block_later hb gC
  replace hB := below_tr hB hb
  clear hb hq
  obtain ⟨c0, c1, c2, c3⟩ := cells4 gC
  have cp0 := fun o => cell_alloc (o := o) c0
  have cp1 := fun o => cell_alloc (o := o) c1
  have cp2 := fun o => cell_alloc (o := o) c2
  have cp3 := fun o => cell_alloc (o := o) c3
  go_wp2
  go_ret
  first
    | exact ⟨rfl, hB⟩
    | exact ⟨rfl, hB.alloc hB.size _⟩

set_option maxRecDepth 100000 in
set_option maxHeartbeats 4000000 in
theorem walk_eq (x A B C D y v p q : Nat) (w : World) (hx : x < 18446744073709551616) (hA : A < 18446744073709551616) (hB0 : B < 18446744073709551616) (hC : C < 18446744073709551616) (hD : D < 18446744073709551616) (hy : y < 18446744073709551616) (hv : v < 18446744073709551616) (hP : SPrts w) (hE : sE 65536 x = 0) (hq : (wrF (opF x ((x + 8) % 18446744073709551616) ((x + 16) % 18446744073709551616) ((x + 24) % 18446744073709551616) A B C D) 65536 y v) y = q) (hp : stF (wrF (opF x ((x + 8) % 18446744073709551616) ((x + 16) % 18446744073709551616) ((x + 24) % 18446744073709551616) A B C D) 65536 y v) 65536 x 0 0 0 0 y = p) (hpq : p = q) : Calls Tryd.prog 5 #[.int .u64 (x : Nat), .agg #[.int .u64 (A : Nat), .int .u64 (B : Nat), .int .u64 (C : Nat), .int .u64 (D : Nat)], .int .u64 (y : Nat), .int .u64 (v : Nat)] w fun e w' => e = .returned (.bool true) ∧ Below w.heap.size w w' := by
  have cO := fun W => opened_c x A B C D hx hA hB0 hC hD W
  have cA := fun W hW => anchorS_any W hW
  have cM := fun W => may_any x hx W
  have cW : ∀ (W : World) (Y : Nat → Prop) ad, MemAt W Y ad 65536 4 (opF x ((x + 8) % 18446744073709551616) ((x + 16) % 18446744073709551616) ((x + 24) % 18446744073709551616) A B C D) → Calls Tryd.prog 20 #[.pointer (some ⟨ad, 0, none⟩), .int .u64 y, .int .u64 v] W fun e w' => e = .returned (.int .i64 (errA 65536 y)) ∧ MemAt w' (Gr Y W w') ad 65536 5 (wrF (opF x ((x + 8) % 18446744073709551616) ((x + 16) % 18446744073709551616) ((x + 24) % 18446744073709551616) A B C D) 65536 y v) ∧ Turn Y W w' := fun W Y ad h => write_c h (by decide) y v hy hv
  have cR : ∀ (W : World) (Y : Nat → Prop) ad, MemAt W Y ad 65536 5 (wrF (opF x ((x + 8) % 18446744073709551616) ((x + 16) % 18446744073709551616) ((x + 24) % 18446744073709551616) A B C D) 65536 y v) → Calls Tryd.prog 16 #[.pointer (some ⟨ad, 0, none⟩), .int .u64 y] W fun e w' => e = .returned (.tuple #[.int .u64 (q : Nat), .int .i64 (errA 65536 y)]) ∧ Below W.heap.size W w' := fun W Y ad h => by
    have := read_c h y hy
    rw [hq] at this
    exact this
  have hZ := four hE (by decide) (wrF (opF x ((x + 8) % 18446744073709551616) ((x + 16) % 18446744073709551616) ((x + 24) % 18446744073709551616) A B C D) 65536 y v) 0 0 0 0
  have cI : ∀ (W : World) (Y : Nat → Prop) ad, MemAt W Y ad 65536 5 (wrF (opF x ((x + 8) % 18446744073709551616) ((x + 16) % 18446744073709551616) ((x + 24) % 18446744073709551616) A B C D) 65536 y v) → SPrts W → Calls Tryd.prog 21 #[.pointer (some ⟨ad, 0, none⟩), .int .u64 x] W fun e w' => e = .returned (.int .i64 0) ∧ Wst W Y ad 65536 9 (stF (wrF (opF x ((x + 8) % 18446744073709551616) ((x + 16) % 18446744073709551616) ((x + 24) % 18446744073709551616) A B C D) 65536 y v) 65536 x 0 0 0 0) w' := fun W Y ad h h2 => wipe_ok h (by decide) x hx hE h2
  generalize (wrF (opF x ((x + 8) % 18446744073709551616) ((x + 16) % 18446744073709551616) ((x + 24) % 18446744073709551616) A B C D) 65536 y v) = G at *
  generalize stF G 65536 x 0 0 0 0 = G2 at *
  have cR2 : ∀ (W : World) (Y : Nat → Prop) ad, MemAt W Y ad 65536 9 G2 → Calls Tryd.prog 16 #[.pointer (some ⟨ad, 0, none⟩), .int .u64 y] W fun e w' => e = .returned (.tuple #[.int .u64 (p : Nat), .int .i64 (errA 65536 y)]) ∧ Below W.heap.size W w' := fun W Y ad h => by
    have := read_c h y hy
    rw [hp] at this
    exact this
  have cL : ∀ (W : World) (Y : Nat → Prop) ad, MemAt W Y ad 65536 9 G2 → SPrts W → Calls Tryd.prog 17 #[.pointer (some ⟨ad, 0, none⟩), .int .u64 x] W fun e w' => e = .returned (.tuple #[.agg #[.int .i64 0, .int .u64 0, .int .i64 0, .int .i64 0, .int .i64 0, .int .i64 0, .int .u64 0, .int .u64 0, .int .u64 0, .int .i64 0], .int .i64 0]) ∧ Below W.heap.size W w' := fun W Y ad h1 h2 => by
    have := load_c h1 x hx h2
    have hz := ld_zero hE hZ.1 hZ.2.1 hZ.2.2.1 hZ.2.2.2.1
    rw [hz.1, hz.2] at this
    exact this
  have cE0 : ∀ W, Calls Tryd.prog 18 #[.agg #[.int .i64 0, .int .u64 0, .int .i64 0, .int .i64 0, .int .i64 0, .int .i64 0, .int .u64 0, .int .u64 0, .int .u64 0, .int .i64 0]] W fun e w' => e = .returned (.bool true) ∧ Below W.heap.size W w' := fun W => empty_any 0 0 0 0 0 0 0 0 0 0 W
  rw [hE] at cM
  subst hpq
  generalize (opF x ((x + 8) % 18446744073709551616) ((x + 16) % 18446744073709551616) ((x + 24) % 18446744073709551616) A B C D) = F at *
  generalize errA 65536 y = E1 at *
  clear hx hA hB0 hC hD hE hy hv hp hq hZ
  go_enter Tryd.func5, Tryd.ntmps5
  go_wp2_with fail
  have gC := heap_alloc_new w (.cells #[.int .u64 (A : Nat), .int .u64 (B : Nat), .int .u64 (C : Nat), .int .u64 (D : Nat)] 27)
  have hB := below_new w (.cells #[.int .u64 (A : Nat), .int .u64 (B : Nat), .int .u64 (C : Nat), .int .u64 (D : Nat)] 27)
  generalize w.alloc (.cells #[.int .u64 (A : Nat), .int .u64 (B : Nat), .int .u64 (C : Nat), .int .u64 (D : Nat)] 27) = W0 at *
  obtain ⟨c0, c1, c2, c3⟩ := cells4 gC
  have cp0 := fun o => cell_alloc (o := o) c0
  have cp1 := fun o => cell_alloc (o := o) c1
  have cp2 := fun o => cell_alloc (o := o) c2
  have cp3 := fun o => cell_alloc (o := o) c3
  refine (cA _ (hP.later hB)).mono ?_
  clear c0 cp0 c1 cp1 c2 cp2 c3 cp3
  rintro e w1 ⟨rfl, hb⟩
  replace gC := block_later hb gC
  replace hB := below_tr hB hb
  clear hb
  obtain ⟨c0, c1, c2, c3⟩ := cells4 gC
  have cp0 := fun o => cell_alloc (o := o) c0
  have cp1 := fun o => cell_alloc (o := o) c1
  have cp2 := fun o => cell_alloc (o := o) c2
  have cp3 := fun o => cell_alloc (o := o) c3
  go_wp2_with fail
  refine (cO _).mono ?_
  clear c0 cp0 c1 cp1 c2 cp2 c3 cp3
  rintro e w2 ⟨ad, rfl, hM0⟩
  obtain ⟨Y, hM, hY⟩ := Wn.mem hM0
  have hb := Wn.bel hM0
  have HM := Hid.mk hM
  have hY0 : ∀ i, Y i → w.heap.size < i := fun i q => Nat.lt_of_lt_of_le (block_lt gC) (hY i q).1
  replace gC := block_later hb gC
  replace hB := below_tr hB hb
  clear hb hM hM0
  obtain ⟨c0, c1, c2, c3⟩ := cells4 gC
  have cp0 := fun o => cell_alloc (o := o) c0
  have cp1 := fun o => cell_alloc (o := o) c1
  have cp2 := fun o => cell_alloc (o := o) c2
  have cp3 := fun o => cell_alloc (o := o) c3
  have hb0 := block_lt gC
  go_wp2_with fail
  refine (cW _ _ _ HM.out).mono ?_
  clear c0 cp0 c1 cp1 c2 cp2 c3 cp3
  rintro e w3 ⟨rfl, hM2, hT⟩
  
  replace gC := turn_row hT gC (fun c => Nat.lt_irrefl _ (hY0 _ c))
  have hlt := Nat.lt_of_lt_of_le (block_lt gC) (Nat.le_refl _)
  replace hB := hB.trans (hT.below (fun i q => Nat.le_of_lt (hY0 i q)) hB.size)
  clear HM
  have HM := Hid.mk hM2
  replace hY0 := gr_above hY0 (Nat.lt_of_lt_of_le hb0 (Nat.le_refl _)) (W := w3)
  clear hM2 hT hlt hb0
  obtain ⟨c0, c1, c2, c3⟩ := cells4 gC
  have cp0 := fun o => cell_alloc (o := o) c0
  have cp1 := fun o => cell_alloc (o := o) c1
  have cp2 := fun o => cell_alloc (o := o) c2
  have cp3 := fun o => cell_alloc (o := o) c3
  go_wp2_with fail
  refine (cR _ _ _ HM.out).mono ?_
  clear c0 cp0 c1 cp1 c2 cp2 c3 cp3
  rintro e w4 ⟨rfl, hb⟩
  replace gC := block_later hb gC
  replace hB := below_tr hB hb
  replace HM := Hid.mk (HM.out.below hb)
  clear hb
  obtain ⟨c0, c1, c2, c3⟩ := cells4 gC
  have cp0 := fun o => cell_alloc (o := o) c0
  have cp1 := fun o => cell_alloc (o := o) c1
  have cp2 := fun o => cell_alloc (o := o) c2
  have cp3 := fun o => cell_alloc (o := o) c3
  go_wp2_with fail
  refine (copy_c HM.out (by decide)).mono ?_
  clear c0 cp0 c1 cp1 c2 cp2 c3 cp3
  rintro e w5 ⟨cc, rfl, hK, hb⟩
  have HK := Hid.mk hK
  clear hK
  replace gC := block_later hb gC
  replace hB := below_tr hB hb
  replace HM := Hid.mk (HM.out.below hb)
  clear hb
  obtain ⟨c0, c1, c2, c3⟩ := cells4 gC
  have cp0 := fun o => cell_alloc (o := o) c0
  have cp1 := fun o => cell_alloc (o := o) c1
  have cp2 := fun o => cell_alloc (o := o) c2
  have cp3 := fun o => cell_alloc (o := o) c3
  clear HK
  have hb0 := block_lt gC
  go_wp2_with fail
  refine (cI _ _ _ HM.out (hP.later hB)).mono ?_
  clear c0 cp0 c1 cp1 c2 cp2 c3 cp3
  rintro e w6 ⟨rfl, hW⟩
  obtain ⟨hM2, hT⟩ := Wst.mem hW HM.out.lt
  clear hW
  replace gC := turn_row hT gC (fun c => Nat.lt_irrefl _ (hY0 _ c))
  have hlt := Nat.lt_of_lt_of_le (block_lt gC) (Nat.le_refl _)
  replace hB := hB.trans (hT.below (fun i q => Nat.le_of_lt (hY0 i q)) hB.size)
  clear HM
  have HM := Hid.mk hM2
  replace hY0 := gr_above hY0 (Nat.lt_of_lt_of_le hb0 (Nat.le_refl _)) (W := w6)
  clear hM2 hT hlt hb0
  obtain ⟨c0, c1, c2, c3⟩ := cells4 gC
  have cp0 := fun o => cell_alloc (o := o) c0
  have cp1 := fun o => cell_alloc (o := o) c1
  have cp2 := fun o => cell_alloc (o := o) c2
  have cp3 := fun o => cell_alloc (o := o) c3
  go_wp2_with fail
  refine (cM _).mono ?_
  rintro e w7 ⟨rfl, rfl⟩
  go_wp2_with fail
  refine (cL _ _ _ HM.out (hP.later hB)).mono ?_
  clear c0 cp0 c1 cp1 c2 cp2 c3 cp3
  rintro e w8 ⟨rfl, hb⟩
  replace gC := block_later hb gC
  replace hB := below_tr hB hb
  replace HM := Hid.mk (HM.out.below hb)
  clear hb
  obtain ⟨c0, c1, c2, c3⟩ := cells4 gC
  have cp0 := fun o => cell_alloc (o := o) c0
  have cp1 := fun o => cell_alloc (o := o) c1
  have cp2 := fun o => cell_alloc (o := o) c2
  have cp3 := fun o => cell_alloc (o := o) c3
  go_upto_region 14 with fail
  clear c0 cp0 c1 cp1 c2 cp2 c3 cp3
  have gX := heap_alloc_new w8 (.cells #[.int .i64 0, .int .u64 0, .int .i64 0, .int .i64 0, .int .i64 0, .int .i64 0, .int .u64 0, .int .u64 0, .int .u64 0, .int .i64 0] 26)
  replace gC := block_later (below_new _ (.cells #[.int .i64 0, .int .u64 0, .int .i64 0, .int .i64 0, .int .i64 0, .int .i64 0, .int .u64 0, .int .u64 0, .int .u64 0, .int .i64 0] 26)) gC
  replace hB := below_tr hB (below_new _ (.cells #[.int .i64 0, .int .u64 0, .int .i64 0, .int .i64 0, .int .i64 0, .int .i64 0, .int .u64 0, .int .u64 0, .int .u64 0, .int .i64 0] 26))
  replace HM := Hid.mk (HM.out.below (below_new _ (.cells #[.int .i64 0, .int .u64 0, .int .i64 0, .int .i64 0, .int .i64 0, .int .i64 0, .int .u64 0, .int .u64 0, .int .u64 0, .int .i64 0] 26)))
  generalize w8.heap.size = X at *
  generalize w8.alloc (.cells #[.int .i64 0, .int .u64 0, .int .i64 0, .int .i64 0, .int .i64 0, .int .i64 0, .int .u64 0, .int .u64 0, .int .u64 0, .int .i64 0] 26) = w8a at *
  obtain ⟨c0, c1, c2, c3⟩ := cells4 gC
  have cp0 := fun o => cell_alloc (o := o) c0
  have cp1 := fun o => cell_alloc (o := o) c1
  have cp2 := fun o => cell_alloc (o := o) c2
  have cp3 := fun o => cell_alloc (o := o) c3
  obtain ⟨x0, x1, x2, x3, x4, x5, x6, x7, x8, x9⟩ := cells10 gX
  have xp0 := fun o => cell_alloc (o := o) x0
  have xp1 := fun o => cell_alloc (o := o) x1
  have xp2 := fun o => cell_alloc (o := o) x2
  have xp3 := fun o => cell_alloc (o := o) x3
  have xp4 := fun o => cell_alloc (o := o) x4
  have xp5 := fun o => cell_alloc (o := o) x5
  have xp6 := fun o => cell_alloc (o := o) x6
  have xp7 := fun o => cell_alloc (o := o) x7
  have xp8 := fun o => cell_alloc (o := o) x8
  have xp9 := fun o => cell_alloc (o := o) x9
  go_wp2_with fail
  refine (cR2 _ _ _ HM.out).mono ?_
  clear c0 cp0 c1 cp1 c2 cp2 c3 cp3 x0 xp0 x1 xp1 x2 xp2 x3 xp3 x4 xp4 x5 xp5 x6 xp6 x7 xp7 x8 xp8 x9 xp9
  rintro e w9 ⟨rfl, hb⟩
  replace gC := block_later hb gC
  replace gX := block_later hb gX
  replace hB := below_tr hB hb
  replace HM := Hid.mk (HM.out.below hb)
  clear hb
  obtain ⟨c0, c1, c2, c3⟩ := cells4 gC
  have cp0 := fun o => cell_alloc (o := o) c0
  have cp1 := fun o => cell_alloc (o := o) c1
  have cp2 := fun o => cell_alloc (o := o) c2
  have cp3 := fun o => cell_alloc (o := o) c3
  obtain ⟨x0, x1, x2, x3, x4, x5, x6, x7, x8, x9⟩ := cells10 gX
  have xp0 := fun o => cell_alloc (o := o) x0
  have xp1 := fun o => cell_alloc (o := o) x1
  have xp2 := fun o => cell_alloc (o := o) x2
  have xp3 := fun o => cell_alloc (o := o) x3
  have xp4 := fun o => cell_alloc (o := o) x4
  have xp5 := fun o => cell_alloc (o := o) x5
  have xp6 := fun o => cell_alloc (o := o) x6
  have xp7 := fun o => cell_alloc (o := o) x7
  have xp8 := fun o => cell_alloc (o := o) x8
  have xp9 := fun o => cell_alloc (o := o) x9
  go_wp2_with fail
  refine (cE0 _).mono ?_
  clear c0 cp0 c1 cp1 c2 cp2 c3 cp3 x0 xp0 x1 xp1 x2 xp2 x3 xp3 x4 xp4 x5 xp5 x6 xp6 x7 xp7 x8 xp8 x9 xp9
  rintro e w10 ⟨rfl, hb⟩
  replace gC := block_later hb gC
  replace gX := block_later hb gX
  replace hB := below_tr hB hb
  replace HM := Hid.mk (HM.out.below hb)
  clear hb
  obtain ⟨c0, c1, c2, c3⟩ := cells4 gC
  have cp0 := fun o => cell_alloc (o := o) c0
  have cp1 := fun o => cell_alloc (o := o) c1
  have cp2 := fun o => cell_alloc (o := o) c2
  have cp3 := fun o => cell_alloc (o := o) c3
  obtain ⟨x0, x1, x2, x3, x4, x5, x6, x7, x8, x9⟩ := cells10 gX
  have xp0 := fun o => cell_alloc (o := o) x0
  have xp1 := fun o => cell_alloc (o := o) x1
  have xp2 := fun o => cell_alloc (o := o) x2
  have xp3 := fun o => cell_alloc (o := o) x3
  have xp4 := fun o => cell_alloc (o := o) x4
  have xp5 := fun o => cell_alloc (o := o) x5
  have xp6 := fun o => cell_alloc (o := o) x6
  have xp7 := fun o => cell_alloc (o := o) x7
  have xp8 := fun o => cell_alloc (o := o) x8
  have xp9 := fun o => cell_alloc (o := o) x9
  go_wp2
  go_ret
  first
    | exact ⟨rfl, hB⟩
    | exact ⟨rfl, hB.alloc hB.size _⟩

set_option maxRecDepth 100000 in
set_option maxHeartbeats 4000000 in
theorem walk_ne (x A B C D y v p q : Nat) (w : World) (hx : x < 18446744073709551616) (hA : A < 18446744073709551616) (hB0 : B < 18446744073709551616) (hC : C < 18446744073709551616) (hD : D < 18446744073709551616) (hy : y < 18446744073709551616) (hv : v < 18446744073709551616) (hP : SPrts w) (hE : sE 65536 x = 0) (hq : (wrF (opF x ((x + 8) % 18446744073709551616) ((x + 16) % 18446744073709551616) ((x + 24) % 18446744073709551616) A B C D) 65536 y v) y = q) (hp : stF (wrF (opF x ((x + 8) % 18446744073709551616) ((x + 16) % 18446744073709551616) ((x + 24) % 18446744073709551616) A B C D) 65536 y v) 65536 x 0 0 0 0 y = p) (z : Nat) (hz : z = y - x) (hxy : x ≤ y) (hz2 : z < 32) (hpq : ¬ p = q) : Calls Tryd.prog 5 #[.int .u64 (x : Nat), .agg #[.int .u64 (A : Nat), .int .u64 (B : Nat), .int .u64 (C : Nat), .int .u64 (D : Nat)], .int .u64 (y : Nat), .int .u64 (v : Nat)] w fun e w' => e = .returned (.bool true) ∧ Below w.heap.size w w' := by
  have cO := fun W => opened_c x A B C D hx hA hB0 hC hD W
  have cA := fun W hW => anchorS_any W hW
  have cM := fun W => may_any x hx W
  have cW : ∀ (W : World) (Y : Nat → Prop) ad, MemAt W Y ad 65536 4 (opF x ((x + 8) % 18446744073709551616) ((x + 16) % 18446744073709551616) ((x + 24) % 18446744073709551616) A B C D) → Calls Tryd.prog 20 #[.pointer (some ⟨ad, 0, none⟩), .int .u64 y, .int .u64 v] W fun e w' => e = .returned (.int .i64 (errA 65536 y)) ∧ MemAt w' (Gr Y W w') ad 65536 5 (wrF (opF x ((x + 8) % 18446744073709551616) ((x + 16) % 18446744073709551616) ((x + 24) % 18446744073709551616) A B C D) 65536 y v) ∧ Turn Y W w' := fun W Y ad h => write_c h (by decide) y v hy hv
  have cR : ∀ (W : World) (Y : Nat → Prop) ad, MemAt W Y ad 65536 5 (wrF (opF x ((x + 8) % 18446744073709551616) ((x + 16) % 18446744073709551616) ((x + 24) % 18446744073709551616) A B C D) 65536 y v) → Calls Tryd.prog 16 #[.pointer (some ⟨ad, 0, none⟩), .int .u64 y] W fun e w' => e = .returned (.tuple #[.int .u64 (q : Nat), .int .i64 (errA 65536 y)]) ∧ Below W.heap.size W w' := fun W Y ad h => by
    have := read_c h y hy
    rw [hq] at this
    exact this
  have hZ := four hE (by decide) (wrF (opF x ((x + 8) % 18446744073709551616) ((x + 16) % 18446744073709551616) ((x + 24) % 18446744073709551616) A B C D) 65536 y v) 0 0 0 0
  have cI : ∀ (W : World) (Y : Nat → Prop) ad, MemAt W Y ad 65536 5 (wrF (opF x ((x + 8) % 18446744073709551616) ((x + 16) % 18446744073709551616) ((x + 24) % 18446744073709551616) A B C D) 65536 y v) → SPrts W → Calls Tryd.prog 21 #[.pointer (some ⟨ad, 0, none⟩), .int .u64 x] W fun e w' => e = .returned (.int .i64 0) ∧ Wst W Y ad 65536 9 (stF (wrF (opF x ((x + 8) % 18446744073709551616) ((x + 16) % 18446744073709551616) ((x + 24) % 18446744073709551616) A B C D) 65536 y v) 65536 x 0 0 0 0) w' := fun W Y ad h h2 => wipe_ok h (by decide) x hx hE h2
  generalize (wrF (opF x ((x + 8) % 18446744073709551616) ((x + 16) % 18446744073709551616) ((x + 24) % 18446744073709551616) A B C D) 65536 y v) = G at *
  generalize stF G 65536 x 0 0 0 0 = G2 at *
  have cR2 : ∀ (W : World) (Y : Nat → Prop) ad, MemAt W Y ad 65536 9 G2 → Calls Tryd.prog 16 #[.pointer (some ⟨ad, 0, none⟩), .int .u64 y] W fun e w' => e = .returned (.tuple #[.int .u64 (p : Nat), .int .i64 (errA 65536 y)]) ∧ Below W.heap.size W w' := fun W Y ad h => by
    have := read_c h y hy
    rw [hp] at this
    exact this
  have cL : ∀ (W : World) (Y : Nat → Prop) ad, MemAt W Y ad 65536 9 G2 → SPrts W → Calls Tryd.prog 17 #[.pointer (some ⟨ad, 0, none⟩), .int .u64 x] W fun e w' => e = .returned (.tuple #[.agg #[.int .i64 0, .int .u64 0, .int .i64 0, .int .i64 0, .int .i64 0, .int .i64 0, .int .u64 0, .int .u64 0, .int .u64 0, .int .i64 0], .int .i64 0]) ∧ Below W.heap.size W w' := fun W Y ad h1 h2 => by
    have := load_c h1 x hx h2
    have hz := ld_zero hE hZ.1 hZ.2.1 hZ.2.2.1 hZ.2.2.2.1
    rw [hz.1, hz.2] at this
    exact this
  have cE0 : ∀ W, Calls Tryd.prog 18 #[.agg #[.int .i64 0, .int .u64 0, .int .i64 0, .int .i64 0, .int .i64 0, .int .i64 0, .int .u64 0, .int .u64 0, .int .u64 0, .int .i64 0]] W fun e w' => e = .returned (.bool true) ∧ Below W.heap.size W w' := fun W => empty_any 0 0 0 0 0 0 0 0 0 0 W
  rw [hE] at cM
  have d1 : ((p : Int) == (q : Int)) = false := by rw [beq_eq_false_iff_ne]; omega
  have d11 : (p == q) = false := by rw [beq_eq_false_iff_ne]; omega
  have d2 : decide ((x : Int) ≤ (y : Int)) = true := decide_eq_true (by omega)
  have d22 : decide (x ≤ y) = true := decide_eq_true hxy
  have d3 : IntKind.u64.wrap ((y : Int) - (x : Int)) = (z : Int) := by rw [IntKind.wrap_u64]; omega
  have d4 : decide ((z : Int) < 32) = true := decide_eq_true (by omega)
  clear hpq hz hxy hz2
  generalize (opF x ((x + 8) % 18446744073709551616) ((x + 16) % 18446744073709551616) ((x + 24) % 18446744073709551616) A B C D) = F at *
  generalize errA 65536 y = E1 at *
  clear hx hA hB0 hC hD hE hy hv hp hq hZ
  go_enter Tryd.func5, Tryd.ntmps5
  go_wp2_with fail
  have gC := heap_alloc_new w (.cells #[.int .u64 (A : Nat), .int .u64 (B : Nat), .int .u64 (C : Nat), .int .u64 (D : Nat)] 27)
  have hB := below_new w (.cells #[.int .u64 (A : Nat), .int .u64 (B : Nat), .int .u64 (C : Nat), .int .u64 (D : Nat)] 27)
  generalize w.alloc (.cells #[.int .u64 (A : Nat), .int .u64 (B : Nat), .int .u64 (C : Nat), .int .u64 (D : Nat)] 27) = W0 at *
  obtain ⟨c0, c1, c2, c3⟩ := cells4 gC
  have cp0 := fun o => cell_alloc (o := o) c0
  have cp1 := fun o => cell_alloc (o := o) c1
  have cp2 := fun o => cell_alloc (o := o) c2
  have cp3 := fun o => cell_alloc (o := o) c3
  refine (cA _ (hP.later hB)).mono ?_
  clear c0 cp0 c1 cp1 c2 cp2 c3 cp3
  rintro e w1 ⟨rfl, hb⟩
  replace gC := block_later hb gC
  replace hB := below_tr hB hb
  clear hb
  obtain ⟨c0, c1, c2, c3⟩ := cells4 gC
  have cp0 := fun o => cell_alloc (o := o) c0
  have cp1 := fun o => cell_alloc (o := o) c1
  have cp2 := fun o => cell_alloc (o := o) c2
  have cp3 := fun o => cell_alloc (o := o) c3
  go_wp2_with fail
  refine (cO _).mono ?_
  clear c0 cp0 c1 cp1 c2 cp2 c3 cp3
  rintro e w2 ⟨ad, rfl, hM0⟩
  obtain ⟨Y, hM, hY⟩ := Wn.mem hM0
  have hb := Wn.bel hM0
  have HM := Hid.mk hM
  have hY0 : ∀ i, Y i → w.heap.size < i := fun i q => Nat.lt_of_lt_of_le (block_lt gC) (hY i q).1
  replace gC := block_later hb gC
  replace hB := below_tr hB hb
  clear hb hM hM0
  obtain ⟨c0, c1, c2, c3⟩ := cells4 gC
  have cp0 := fun o => cell_alloc (o := o) c0
  have cp1 := fun o => cell_alloc (o := o) c1
  have cp2 := fun o => cell_alloc (o := o) c2
  have cp3 := fun o => cell_alloc (o := o) c3
  have hb0 := block_lt gC
  go_wp2_with fail
  refine (cW _ _ _ HM.out).mono ?_
  clear c0 cp0 c1 cp1 c2 cp2 c3 cp3
  rintro e w3 ⟨rfl, hM2, hT⟩
  
  replace gC := turn_row hT gC (fun c => Nat.lt_irrefl _ (hY0 _ c))
  have hlt := Nat.lt_of_lt_of_le (block_lt gC) (Nat.le_refl _)
  replace hB := hB.trans (hT.below (fun i q => Nat.le_of_lt (hY0 i q)) hB.size)
  clear HM
  have HM := Hid.mk hM2
  replace hY0 := gr_above hY0 (Nat.lt_of_lt_of_le hb0 (Nat.le_refl _)) (W := w3)
  clear hM2 hT hlt hb0
  obtain ⟨c0, c1, c2, c3⟩ := cells4 gC
  have cp0 := fun o => cell_alloc (o := o) c0
  have cp1 := fun o => cell_alloc (o := o) c1
  have cp2 := fun o => cell_alloc (o := o) c2
  have cp3 := fun o => cell_alloc (o := o) c3
  go_wp2_with fail
  refine (cR _ _ _ HM.out).mono ?_
  clear c0 cp0 c1 cp1 c2 cp2 c3 cp3
  rintro e w4 ⟨rfl, hb⟩
  replace gC := block_later hb gC
  replace hB := below_tr hB hb
  replace HM := Hid.mk (HM.out.below hb)
  clear hb
  obtain ⟨c0, c1, c2, c3⟩ := cells4 gC
  have cp0 := fun o => cell_alloc (o := o) c0
  have cp1 := fun o => cell_alloc (o := o) c1
  have cp2 := fun o => cell_alloc (o := o) c2
  have cp3 := fun o => cell_alloc (o := o) c3
  go_wp2_with fail
  refine (copy_c HM.out (by decide)).mono ?_
  clear c0 cp0 c1 cp1 c2 cp2 c3 cp3
  rintro e w5 ⟨cc, rfl, hK, hb⟩
  have HK := Hid.mk hK
  clear hK
  replace gC := block_later hb gC
  replace hB := below_tr hB hb
  replace HM := Hid.mk (HM.out.below hb)
  clear hb
  obtain ⟨c0, c1, c2, c3⟩ := cells4 gC
  have cp0 := fun o => cell_alloc (o := o) c0
  have cp1 := fun o => cell_alloc (o := o) c1
  have cp2 := fun o => cell_alloc (o := o) c2
  have cp3 := fun o => cell_alloc (o := o) c3
  clear HK
  have hb0 := block_lt gC
  go_wp2_with fail
  refine (cI _ _ _ HM.out (hP.later hB)).mono ?_
  clear c0 cp0 c1 cp1 c2 cp2 c3 cp3
  rintro e w6 ⟨rfl, hW⟩
  obtain ⟨hM2, hT⟩ := Wst.mem hW HM.out.lt
  clear hW
  replace gC := turn_row hT gC (fun c => Nat.lt_irrefl _ (hY0 _ c))
  have hlt := Nat.lt_of_lt_of_le (block_lt gC) (Nat.le_refl _)
  replace hB := hB.trans (hT.below (fun i q => Nat.le_of_lt (hY0 i q)) hB.size)
  clear HM
  have HM := Hid.mk hM2
  replace hY0 := gr_above hY0 (Nat.lt_of_lt_of_le hb0 (Nat.le_refl _)) (W := w6)
  clear hM2 hT hlt hb0
  obtain ⟨c0, c1, c2, c3⟩ := cells4 gC
  have cp0 := fun o => cell_alloc (o := o) c0
  have cp1 := fun o => cell_alloc (o := o) c1
  have cp2 := fun o => cell_alloc (o := o) c2
  have cp3 := fun o => cell_alloc (o := o) c3
  go_wp2_with fail
  refine (cM _).mono ?_
  rintro e w7 ⟨rfl, rfl⟩
  go_wp2_with fail
  refine (cL _ _ _ HM.out (hP.later hB)).mono ?_
  clear c0 cp0 c1 cp1 c2 cp2 c3 cp3
  rintro e w8 ⟨rfl, hb⟩
  replace gC := block_later hb gC
  replace hB := below_tr hB hb
  replace HM := Hid.mk (HM.out.below hb)
  clear hb
  obtain ⟨c0, c1, c2, c3⟩ := cells4 gC
  have cp0 := fun o => cell_alloc (o := o) c0
  have cp1 := fun o => cell_alloc (o := o) c1
  have cp2 := fun o => cell_alloc (o := o) c2
  have cp3 := fun o => cell_alloc (o := o) c3
  go_upto_region 14 with fail
  clear c0 cp0 c1 cp1 c2 cp2 c3 cp3
  have gX := heap_alloc_new w8 (.cells #[.int .i64 0, .int .u64 0, .int .i64 0, .int .i64 0, .int .i64 0, .int .i64 0, .int .u64 0, .int .u64 0, .int .u64 0, .int .i64 0] 26)
  replace gC := block_later (below_new _ (.cells #[.int .i64 0, .int .u64 0, .int .i64 0, .int .i64 0, .int .i64 0, .int .i64 0, .int .u64 0, .int .u64 0, .int .u64 0, .int .i64 0] 26)) gC
  replace hB := below_tr hB (below_new _ (.cells #[.int .i64 0, .int .u64 0, .int .i64 0, .int .i64 0, .int .i64 0, .int .i64 0, .int .u64 0, .int .u64 0, .int .u64 0, .int .i64 0] 26))
  replace HM := Hid.mk (HM.out.below (below_new _ (.cells #[.int .i64 0, .int .u64 0, .int .i64 0, .int .i64 0, .int .i64 0, .int .i64 0, .int .u64 0, .int .u64 0, .int .u64 0, .int .i64 0] 26)))
  generalize w8.heap.size = X at *
  generalize w8.alloc (.cells #[.int .i64 0, .int .u64 0, .int .i64 0, .int .i64 0, .int .i64 0, .int .i64 0, .int .u64 0, .int .u64 0, .int .u64 0, .int .i64 0] 26) = w8a at *
  obtain ⟨c0, c1, c2, c3⟩ := cells4 gC
  have cp0 := fun o => cell_alloc (o := o) c0
  have cp1 := fun o => cell_alloc (o := o) c1
  have cp2 := fun o => cell_alloc (o := o) c2
  have cp3 := fun o => cell_alloc (o := o) c3
  obtain ⟨x0, x1, x2, x3, x4, x5, x6, x7, x8, x9⟩ := cells10 gX
  have xp0 := fun o => cell_alloc (o := o) x0
  have xp1 := fun o => cell_alloc (o := o) x1
  have xp2 := fun o => cell_alloc (o := o) x2
  have xp3 := fun o => cell_alloc (o := o) x3
  have xp4 := fun o => cell_alloc (o := o) x4
  have xp5 := fun o => cell_alloc (o := o) x5
  have xp6 := fun o => cell_alloc (o := o) x6
  have xp7 := fun o => cell_alloc (o := o) x7
  have xp8 := fun o => cell_alloc (o := o) x8
  have xp9 := fun o => cell_alloc (o := o) x9
  go_wp2_with fail
  refine (cR2 _ _ _ HM.out).mono ?_
  clear c0 cp0 c1 cp1 c2 cp2 c3 cp3 x0 xp0 x1 xp1 x2 xp2 x3 xp3 x4 xp4 x5 xp5 x6 xp6 x7 xp7 x8 xp8 x9 xp9
  rintro e w9 ⟨rfl, hb⟩
  replace gC := block_later hb gC
  replace gX := block_later hb gX
  replace hB := below_tr hB hb
  replace HM := Hid.mk (HM.out.below hb)
  clear hb
  obtain ⟨c0, c1, c2, c3⟩ := cells4 gC
  have cp0 := fun o => cell_alloc (o := o) c0
  have cp1 := fun o => cell_alloc (o := o) c1
  have cp2 := fun o => cell_alloc (o := o) c2
  have cp3 := fun o => cell_alloc (o := o) c3
  obtain ⟨x0, x1, x2, x3, x4, x5, x6, x7, x8, x9⟩ := cells10 gX
  have xp0 := fun o => cell_alloc (o := o) x0
  have xp1 := fun o => cell_alloc (o := o) x1
  have xp2 := fun o => cell_alloc (o := o) x2
  have xp3 := fun o => cell_alloc (o := o) x3
  have xp4 := fun o => cell_alloc (o := o) x4
  have xp5 := fun o => cell_alloc (o := o) x5
  have xp6 := fun o => cell_alloc (o := o) x6
  have xp7 := fun o => cell_alloc (o := o) x7
  have xp8 := fun o => cell_alloc (o := o) x8
  have xp9 := fun o => cell_alloc (o := o) x9
  go_wp2_with fail
  refine (cE0 _).mono ?_
  clear c0 cp0 c1 cp1 c2 cp2 c3 cp3 x0 xp0 x1 xp1 x2 xp2 x3 xp3 x4 xp4 x5 xp5 x6 xp6 x7 xp7 x8 xp8 x9 xp9
  rintro e w10 ⟨rfl, hb⟩
  replace gC := block_later hb gC
  replace gX := block_later hb gX
  replace hB := below_tr hB hb
  replace HM := Hid.mk (HM.out.below hb)
  clear hb
  obtain ⟨c0, c1, c2, c3⟩ := cells4 gC
  have cp0 := fun o => cell_alloc (o := o) c0
  have cp1 := fun o => cell_alloc (o := o) c1
  have cp2 := fun o => cell_alloc (o := o) c2
  have cp3 := fun o => cell_alloc (o := o) c3
  obtain ⟨x0, x1, x2, x3, x4, x5, x6, x7, x8, x9⟩ := cells10 gX
  have xp0 := fun o => cell_alloc (o := o) x0
  have xp1 := fun o => cell_alloc (o := o) x1
  have xp2 := fun o => cell_alloc (o := o) x2
  have xp3 := fun o => cell_alloc (o := o) x3
  have xp4 := fun o => cell_alloc (o := o) x4
  have xp5 := fun o => cell_alloc (o := o) x5
  have xp6 := fun o => cell_alloc (o := o) x6
  have xp7 := fun o => cell_alloc (o := o) x7
  have xp8 := fun o => cell_alloc (o := o) x8
  have xp9 := fun o => cell_alloc (o := o) x9
  go_wp2
  go_ret
  first
    | exact ⟨rfl, hB⟩
    | exact ⟨rfl, hB.alloc hB.size _⟩

theorem walk (x A B C D y v : Nat) (w : World) (hx : x < 18446744073709551616) (hA : A < 18446744073709551616) (hB0 : B < 18446744073709551616) (hC : C < 18446744073709551616) (hD : D < 18446744073709551616) (hy : y < 18446744073709551616) (hv : v < 18446744073709551616) (hP : SPrts w) : Calls Tryd.prog 5 #[.int .u64 (x : Nat), .agg #[.int .u64 (A : Nat), .int .u64 (B : Nat), .int .u64 (C : Nat), .int .u64 (D : Nat)], .int .u64 (y : Nat), .int .u64 (v : Nat)] w fun e w' => e = .returned (.bool true) ∧ Below w.heap.size w w' := by
  by_cases hE : sE 65536 x = 0
  · obtain ⟨-, -, -, -, h4⟩ := four hE (by decide) (wrF (opF x ((x + 8) % 18446744073709551616) ((x + 16) % 18446744073709551616) ((x + 24) % 18446744073709551616) A B C D) 65536 y v) 0 0 0 0
    by_cases hpq : stF (wrF (opF x ((x + 8) % 18446744073709551616) ((x + 16) % 18446744073709551616) ((x + 24) % 18446744073709551616) A B C D) 65536 y v) 65536 x 0 0 0 0 y = (wrF (opF x ((x + 8) % 18446744073709551616) ((x + 16) % 18446744073709551616) ((x + 24) % 18446744073709551616) A B C D) 65536 y v) y
    · exact walk_eq x A B C D y v _ _ w hx hA hB0 hC hD hy hv hP hE rfl rfl hpq
    · have hn : x ≤ y ∧ y - x < 32 := by
        by_cases n1 : y = x
        · omega
        by_cases n2 : y = x + 8
        · omega
        by_cases n3 : y = x + 16
        · omega
        by_cases n4 : y = x + 24
        · omega
        exact absurd (h4 y n1 n2 n3 n4) hpq
      exact walk_ne x A B C D y v _ _ w hx hA hB0 hC hD hy hv hP hE rfl rfl _ rfl hn.1 hn.2 hpq
  · exact walk_no x A B C D y v w hx hA hB0 hC hD hy hv hP rfl hE

theorem met {W : World} (h : laidMet Tryd.prog Rows.slotWipesRow.laid W) : SPrts W := by
  have h0 := part_of_reads (g := 2) (by kernel_rfl) (by kernel_rfl) (Lib.laidMet.reads h (n := "portreeve/cap.kindPart") (d := Rows.laid_portreeve_cap_kindPart) (by simp [Rows.slotWipesRow]))
  have h1 := part_of_reads (g := 3) (by kernel_rfl) (by kernel_rfl) (Lib.laidMet.reads h (n := "portreeve/cap.bitsPart") (d := Rows.laid_portreeve_cap_bitsPart) (by simp [Rows.slotWipesRow]))
  have h2 := part_of_reads (g := 4) (by kernel_rfl) (by kernel_rfl) (Lib.laidMet.reads h (n := "portreeve/cap.rightsPart") (d := Rows.laid_portreeve_cap_rightsPart) (by simp [Rows.slotWipesRow]))
  have h3 := part_of_reads (g := 5) (by kernel_rfl) (by kernel_rfl) (Lib.laidMet.reads h (n := "portreeve/cap.guardPart") (d := Rows.laid_portreeve_cap_guardPart) (by simp [Rows.slotWipesRow]))
  have h4 := part_of_reads (g := 6) (by kernel_rfl) (by kernel_rfl) (Lib.laidMet.reads h (n := "portreeve/cap.asidPart") (d := Rows.laid_portreeve_cap_asidPart) (by simp [Rows.slotWipesRow]))
  have h5 := part_of_reads (g := 7) (by kernel_rfl) (by kernel_rfl) (Lib.laidMet.reads h (n := "portreeve/cap.atPart") (d := Rows.laid_portreeve_cap_atPart) (by simp [Rows.slotWipesRow]))
  have g0 := two_of_reads (g := 0) (by kernel_rfl) (by kernel_rfl) (Lib.laidMet.reads h (n := "portreeve/slot.nextPart") (d := Rows.laid_portreeve_slot_nextPart) (by simp [Rows.slotWipesRow]))
  have g1 := two_of_reads (g := 1) (by kernel_rfl) (by kernel_rfl) (Lib.laidMet.reads h (n := "portreeve/slot.prevPart") (d := Rows.laid_portreeve_slot_prevPart) (by simp [Rows.slotWipesRow]))
  exact ⟨⟨h0.1, h0.2.1, h0.2.2, h1.1, h1.2.1, h1.2.2, h2.1, h2.2.1, h2.2.2, h3.1, h3.2.1, h3.2.2, h4.1, h4.2.1, h4.2.2, h5.1, h5.2.1, h5.2.2⟩, g0.1, g0.2, g1.1, g1.2⟩

theorem own : ownKnob Tryd.prog.godebug = none := by kernel_rfl
theorem laidOut : laidOutB Tryd.prog = true := by kernel_rfl

set_option linter.unusedVariables false in
set_option maxRecDepth 100000 in
set_option maxHeartbeats 4000000 in
theorem contract (H : Type) (enc : TypeId × Value → H) (W : World) (base : Nat) (args : Array Value) (ds gs : List (DataW H)) (before : List MemPlace)
    (hval0 : ∀ (j : Nat) t v, Tryd.f5.params[j]? = some t → args[j]? = some v → Value.okWide Tryd.prog W .any base t v)
    (hW : DataW.Whole enc Tryd.prog Tryd.f5.params.toList Rows.slotWipesSpec.vars false W args.toList ds gs before) (hL0 : laidMetH Tryd.prog Rows.slotWipesRow.laid W) :
    Calls Tryd.prog 5 args W fun e W' => ∃ v, e = .returned v ∧ Rows.slotWipesSpec.post enc Tryd.prog Tryd.f5 false true false false W args v W' := by
  have hL := hL0
  rw [MakeChecks.laidMetH_plain _ _ _ (by kernel_rfl)] at hL
  have hval := hval0
  have hW' := hW
  obtain ⟨p, q, hA0, hV, rfl, hfz, hnd⟩ := hW
  have hA : DataW.TrodAll enc Tryd.prog W 0 (fun _ => true) true Tryd.f5.params.toList args.toList ds p := hA0
  rw [Tryd.params5] at hA hval
  obtain ⟨v0, vs0, d0, ds0, p0, q0, hargs, rfl, rfl, h0, r0⟩ := trodAll_cons hA
  obtain ⟨v1, vs1, d1, ds1, p1, q1, rfl, rfl, rfl, h1, r1⟩ := trodAll_cons r0
  obtain ⟨v2, vs2, d2, ds2, p2, q2, rfl, rfl, rfl, h2, r2⟩ := trodAll_cons r1
  obtain ⟨v3, vs3, d3, ds3, p3, q3, rfl, rfl, rfl, h3, r3⟩ := trodAll_cons r2
  obtain ⟨rfl, rfl, rfl⟩ := trodAll_nil r3
  obtain rfl : args = #[v0, v1, v2, v3] := by cases args; simp_all
  obtain ⟨rfl, rfl⟩ := trodVars_none hV
  have k0 := h0
  have lt0 : ∀ x ∈ p0, x.block < W.heap.size := by obtain ⟨m, hm⟩ := k0; exact DataW.trod_lt m _ _ _ hm
  have k1 := h1
  have lt1 : ∀ x ∈ p1, x.block < W.heap.size := by obtain ⟨m, hm⟩ := k1; exact DataW.trod_lt m _ _ _ hm
  have k2 := h2
  have lt2 : ∀ x ∈ p2, x.block < W.heap.size := by obtain ⟨m, hm⟩ := k2; exact DataW.trod_lt m _ _ _ hm
  have k3 := h3
  have lt3 : ∀ x ∈ p3, x.block < W.heap.size := by obtain ⟨m, hm⟩ := k3; exact DataW.trod_lt m _ _ _ hm
  obtain ⟨a0, rfl, _, _, w0⟩ := open_int Tryd.underlying22 (hval 0 22 v0 rfl rfl) h0
  obtain ⟨x0, rfl⟩ := Int.eq_ofNat_of_zero_le (bounds_u64 w0).1
  have b0 : x0 < 18446744073709551616 := by have := (bounds_u64 w0).2; omega
  obtain ⟨xa1, xb1, xc1, xd1, rfl, ba1, bb1, bc1, bd1⟩ := open_arr4 (hval 1 27 v1 rfl rfl) h1
  obtain ⟨a2, rfl, _, _, w2⟩ := open_int Tryd.underlying22 (hval 2 22 v2 rfl rfl) h2
  obtain ⟨x2, rfl⟩ := Int.eq_ofNat_of_zero_le (bounds_u64 w2).1
  have b2 : x2 < 18446744073709551616 := by have := (bounds_u64 w2).2; omega
  obtain ⟨a3, rfl, _, _, w3⟩ := open_int Tryd.underlying22 (hval 3 22 v3 rfl rfl) h3
  obtain ⟨x3, rfl⟩ := Int.eq_ofNat_of_zero_le (bounds_u64 w3).1
  have b3 : x3 < 18446744073709551616 := by have := (bounds_u64 w3).2; omega
  clear hA0 hval0
  refine (walk x0 xa1 xb1 xc1 xd1 x2 x3 W b0 ba1 bb1 bc1 bd1 b2 b3 (met hL)).mono fun e W' ⟨he, bel⟩ => ?_
  subst he
  exact ⟨_, rfl, _, _, _, [], _, [], hW', trodAll_mk1 (shut_bool Tryd.underlying4 _), (trodAll_cons_mk (Below.trod laidOut (by kernel_rfl) (of_decide_eq_true (by kernel_rfl)) k0 bel lt0) (trodAll_cons_mk (Below.trod laidOut (by kernel_rfl) (of_decide_eq_true (by kernel_rfl)) k1 bel lt1) (trodAll_cons_mk (Below.trod laidOut (by kernel_rfl) (of_decide_eq_true (by kernel_rfl)) k2 bel lt2) (trodAll_cons_mk (Below.trod laidOut (by kernel_rfl) (of_decide_eq_true (by kernel_rfl)) k3 bel lt3) trodAll_mk0)))), rfl, bel.frame _, fun h => by cases h⟩

theorem laid_met (os : Os) : laidMet Tryd.prog Rows.slotWipesRow.laid ((World.laidAll Tryd.prog os Rows.slotWipesRow.laid).forCall (fun _ _ => 0) ⟨#[], #[.int .u64 0, .agg #[.int .u64 0, .int .u64 0, .int .u64 0, .int .u64 0], .int .u64 0, .int .u64 0], []⟩).memory :=
  laidMet_laidAll _ (by kernel_rfl) (by kernel_rfl)
theorem reads (os : Os) {H : Type} (enc : TypeId × Value → H) : ∃ places, DataW.whole enc Tryd.prog ((World.laidAll Tryd.prog os Rows.slotWipesRow.laid).forCall (fun _ _ => 0) ⟨#[], #[.int .u64 0, .agg #[.int .u64 0, .int .u64 0, .int .u64 0, .int .u64 0], .int .u64 0, .int .u64 0], []⟩).memory Tryd.f5.params.toList Rows.slotWipesSpec.vars false (#[.int .u64 0, .agg #[.int .u64 0, .int .u64 0, .int .u64 0, .int .u64 0], .int .u64 0, .int .u64 0] : Array Value).toList 8 = some ([.lit (.int .u64 0), .agg [.lit (.int .u64 0), .lit (.int .u64 0), .lit (.int .u64 0), .lit (.int .u64 0)], .lit (.int .u64 0), .lit (.int .u64 0)], [], places) :=
  ⟨[], by kernel_rfl⟩

set_option maxRecDepth 100000 in
theorem lifted (os : Os) (started : os.Started) (H : Type) (enc : TypeId × Value → H) (F : Stop.Interp) :
    ReturnsInHanded {} Tryd.checked os 5 .any ((OpenSpec.ofChange Rows.slotWipesSpec).preRow enc Tryd.prog Tryd.f5 Rows.slotWipesRow.domain false Rows.slotWipesRow.laid) (((OpenSpec.ofChange Rows.slotWipesSpec).at F).post enc Tryd.prog Tryd.f5 false true false false) := by
  obtain ⟨places, hx⟩ := reads os enc
  refine returnsInHanded_of_row (C := Tryd.checked) (s := (OpenSpec.ofChange Rows.slotWipesSpec)) own started (by kernel_rfl) Tryd.func5
    (witness_row_at (enc := enc) (C := Tryd.checked) false (World.laidAll Tryd.prog os Rows.slotWipesRow.laid) #[.int .u64 0, .agg #[.int .u64 0, .int .u64 0, .int .u64 0, .int .u64 0], .int .u64 0, .int .u64 0] (World.laidAll_os _ _ _) (by kernel_rfl) (by kernel_rfl) (by kernel_rfl)
      (OpenSpec.preRow_of_cond 8 hx (by kernel_rfl) (fun k hk => by cases hk) (by kernel_rfl) (laid_met os))) ?_
  intro W base args ds gs before hval hW _ _ _ hL _ _
  exact contract H enc W base args ds gs before hval hW hL

theorem said : Rows.SlotWipesSaid :=
  OpenClaim.holds_of_cond 5 Tryd.f5 rfl rfl rfl rfl rfl rfl rfl ⟨rfl, rfl, rfl, rfl, rfl⟩ rfl rfl rfl rfl rfl (by kernel_rfl) Tryd.func5 (by kernel_rfl)
    (of_decide_eq_true (by kernel_rfl)) (by unfold Func.isWrapper; first | (rw [if_pos (by decide +kernel)]; kernel_rfl) | (rw [if_neg (by decide +kernel)]; exact ⟨rfl, rfl⟩))
    (fun os started H enc _ F => by rw [OpenClaim.pre_eq_preRow]; exact lifted os started H enc F)

theorem plain (f : FuncId) (fn : Func) (hf : Tryd.pinned.checked.prog.funcNamed "portreeve/portreevelaw12.SlotWipes" = some f) (hfn : Tryd.pinned.checked.prog.funcs[f]? = some fn) :
    false = Tryd.pinned.checked.prog.looks [] ∧ ∀ (j : Nat) t, fn.params[j]? = some t → Tryd.pinned.checked.prog.wantsStandIn t = false := by
  obtain rfl : f = 5 := Option.some.inj ((show Tryd.prog.funcNamed "portreeve/portreevelaw12.SlotWipes" = some 5 by kernel_rfl).symm.trans hf) |>.symm
  obtain rfl : fn = Tryd.f5 := (Option.some.inj (Tryd.func5.symm.trans hfn)).symm
  refine ⟨by kernel_rfl, fun j t ht => ?_⟩
  rw [Tryd.params5] at ht
  have hm : t ∈ [22, 27, 22, 22] := by simpa using Array.mem_of_getElem? ht
  have hall : ([22, 27, 22, 22].all fun u => !Tryd.prog.wantsStandIn u) = true := by kernel_rfl
  exact (show Tryd.prog.wantsStandIn t = false by simpa using List.all_eq_true.1 hall t hm)

theorem card : Rows.SlotWipesCardSaid :=
  Claim7.holds_tied_plain_at .later [] _ _ _ _ said (fun _ h => by cases h) (by kernel_rfl) (fun _ h => by cases h) slotWipes_row_tie rfl ⟨rfl, rfl⟩ (by kernel_rfl) rfl plain (by kernel_rfl)

end Go.Proofs.YtieldgocgjoojaaDoor.slotWipes
