/- SlotLoads (P12.1): for any address and any four words the law returns true: what lies there is loaded as a slot just if the document says that it is one, and is that; an address is refused as it says. No condition beyond the row's own. -/
import Derived.Test.YtieldgocgjoojaaDoorSlotF
import Derived.Test.YtieldgocgjoojaaDoorSlotFrame
set_option linter.unusedVariables false
namespace Go.Proofs.YtieldgocgjoojaaDoor.slotLoads
open Go.ChangeShapes Go.WideShapes Go.ChangeAt Go.RowKit Go.Lib

set_option maxRecDepth 100000 in
set_option maxHeartbeats 4000000 in
theorem walk_no (x A B C D : Nat) (w : World) (hx : x < 18446744073709551616) (hA : A < 18446744073709551616) (hB0 : B < 18446744073709551616) (hC : C < 18446744073709551616) (hD : D < 18446744073709551616) (hP : SPrts w) {E : Int} (hE : sE 65536 x = E) (hE0 : ¬ E = 0) : Calls Tryd.prog 4 #[.int .u64 (x : Nat), .agg #[.int .u64 (A : Nat), .int .u64 (B : Nat), .int .u64 (C : Nat), .int .u64 (D : Nat)]] w fun e w' => e = .returned (.bool true) ∧ Below w.heap.size w w' := by
  have cO := fun W => opened_c x A B C D hx hA hB0 hC hD W
  have cA := fun W hW => anchorS_any W hW
  have cM := fun W => may_any x hx W
  have cL : ∀ (W : World) (Y : Nat → Prop) ad, MemAt W Y ad 65536 4 (opF x ((x + 8) % 18446744073709551616) ((x + 16) % 18446744073709551616) ((x + 24) % 18446744073709551616) A B C D) → SPrts W → Calls Tryd.prog 17 #[.pointer (some ⟨ad, 0, none⟩), .int .u64 x] W fun e w' => e = .returned (.tuple #[.agg #[.int .i64 0, .int .u64 0, .int .i64 0, .int .i64 0, .int .i64 0, .int .i64 0, .int .u64 0, .int .u64 0, .int .u64 0, .int .i64 0], .int .i64 E]) ∧ Below W.heap.size W w' := fun W Y ad h1 h2 => load_no h1 x hx hE hE0
  rw [hE] at cM
  have cE0 : ∀ W, Calls Tryd.prog 18 #[.agg #[.int .i64 0, .int .u64 0, .int .i64 0, .int .i64 0, .int .i64 0, .int .i64 0, .int .u64 0, .int .u64 0, .int .u64 0, .int .i64 0]] W fun e w' => e = .returned (.bool true) ∧ Below W.heap.size W w' := fun W => empty_any 0 0 0 0 0 0 0 0 0 0 W
  have dE : ((E : Int) != 0) = true := by rw [bne_iff_ne]; exact hE0
  generalize (opF x ((x + 8) % 18446744073709551616) ((x + 16) % 18446744073709551616) ((x + 24) % 18446744073709551616) A B C D) = F at *
  clear hx hA hB0 hC hD hE hE0
  go_enter Tryd.func4, Tryd.ntmps4
  go_wp2_with fail
  have gC := heap_alloc_new w (.cells #[.int .u64 (A : Nat), .int .u64 (B : Nat), .int .u64 (C : Nat), .int .u64 (D : Nat)] 27)
  have hB := below_new w (.cells #[.int .u64 (A : Nat), .int .u64 (B : Nat), .int .u64 (C : Nat), .int .u64 (D : Nat)] 27)
  generalize w.alloc (.cells #[.int .u64 (A : Nat), .int .u64 (B : Nat), .int .u64 (C : Nat), .int .u64 (D : Nat)] 27) = W0 at *
  obtain ⟨c0, c1, c2, c3⟩ := cells4 gC
  have cp0 := fun o => cell_alloc (o := o) c0
  have cp1 := fun o => cell_alloc (o := o) c1
  have cp2 := fun o => cell_alloc (o := o) c2
  have cp3 := fun o => cell_alloc (o := o) c3
  refine (cA _ (hP.later hB)).mono ?_
  clear c0 cp0 c1 cp1 c2 cp2 c3 cp3
  rintro e w1 ⟨rfl, hb⟩
  replace gC := block_later hb gC
  replace hB := below_tr hB hb
  clear hb
  obtain ⟨c0, c1, c2, c3⟩ := cells4 gC
  have cp0 := fun o => cell_alloc (o := o) c0
  have cp1 := fun o => cell_alloc (o := o) c1
  have cp2 := fun o => cell_alloc (o := o) c2
  have cp3 := fun o => cell_alloc (o := o) c3
  go_wp2_with fail
  refine (cO _).mono ?_
  clear c0 cp0 c1 cp1 c2 cp2 c3 cp3
  rintro e w2 ⟨ad, rfl, hM0⟩
  obtain ⟨Y, hM, hY⟩ := Wn.mem hM0
  have hb := Wn.bel hM0
  have HM := Hid.mk hM
  have hY0 : ∀ i, Y i → w.heap.size < i := fun i q => Nat.lt_of_lt_of_le (block_lt gC) (hY i q).1
  replace gC := block_later hb gC
  replace hB := below_tr hB hb
  clear hb hM hM0
  obtain ⟨c0, c1, c2, c3⟩ := cells4 gC
  have cp0 := fun o => cell_alloc (o := o) c0
  have cp1 := fun o => cell_alloc (o := o) c1
  have cp2 := fun o => cell_alloc (o := o) c2
  have cp3 := fun o => cell_alloc (o := o) c3
  go_wp2_with fail
  refine (cL _ _ _ HM.out (hP.later hB)).mono ?_
  clear c0 cp0 c1 cp1 c2 cp2 c3 cp3
  rintro e w3 ⟨rfl, hb⟩
  replace gC := block_later hb gC
  replace hB := below_tr hB hb
  replace HM := Hid.mk (HM.out.below hb)
  clear hb
  obtain ⟨c0, c1, c2, c3⟩ := cells4 gC
  have cp0 := fun o => cell_alloc (o := o) c0
  have cp1 := fun o => cell_alloc (o := o) c1
  have cp2 := fun o => cell_alloc (o := o) c2
  have cp3 := fun o => cell_alloc (o := o) c3
  clear HM
  go_upto_region 7 with fail
  clear c0 cp0 c1 cp1 c2 cp2 c3 cp3
  have gX := heap_alloc_new w3 (.cells #[.int .i64 0, .int .u64 0, .int .i64 0, .int .i64 0, .int .i64 0, .int .i64 0, .int .u64 0, .int .u64 0, .int .u64 0, .int .i64 0] 26)
  replace gC := block_later (below_new _ (.cells #[.int .i64 0, .int .u64 0, .int .i64 0, .int .i64 0, .int .i64 0, .int .i64 0, .int .u64 0, .int .u64 0, .int .u64 0, .int .i64 0] 26)) gC
  replace hB := below_tr hB (below_new _ (.cells #[.int .i64 0, .int .u64 0, .int .i64 0, .int .i64 0, .int .i64 0, .int .i64 0, .int .u64 0, .int .u64 0, .int .u64 0, .int .i64 0] 26))
  generalize w3.heap.size = X at *
  generalize w3.alloc (.cells #[.int .i64 0, .int .u64 0, .int .i64 0, .int .i64 0, .int .i64 0, .int .i64 0, .int .u64 0, .int .u64 0, .int .u64 0, .int .i64 0] 26) = w3a at *
  obtain ⟨c0, c1, c2, c3⟩ := cells4 gC
  have cp0 := fun o => cell_alloc (o := o) c0
  have cp1 := fun o => cell_alloc (o := o) c1
  have cp2 := fun o => cell_alloc (o := o) c2
  have cp3 := fun o => cell_alloc (o := o) c3
  obtain ⟨x0, x1, x2, x3, x4, x5, x6, x7, x8, x9⟩ := cells10 gX
  have xp0 := fun o => cell_alloc (o := o) x0
  have xp1 := fun o => cell_alloc (o := o) x1
  have xp2 := fun o => cell_alloc (o := o) x2
  have xp3 := fun o => cell_alloc (o := o) x3
  have xp4 := fun o => cell_alloc (o := o) x4
  have xp5 := fun o => cell_alloc (o := o) x5
  have xp6 := fun o => cell_alloc (o := o) x6
  have xp7 := fun o => cell_alloc (o := o) x7
  have xp8 := fun o => cell_alloc (o := o) x8
  have xp9 := fun o => cell_alloc (o := o) x9
  go_wp2_with fail
  refine (cM _).mono ?_
  rintro e w4 ⟨rfl, rfl⟩
  go_wp2_with fail
  refine (cE0 _).mono ?_
  clear c0 cp0 c1 cp1 c2 cp2 c3 cp3 x0 xp0 x1 xp1 x2 xp2 x3 xp3 x4 xp4 x5 xp5 x6 xp6 x7 xp7 x8 xp8 x9 xp9
  rintro e w5 ⟨rfl, hb⟩
  replace gC := block_later hb gC
  replace gX := block_later hb gX
  replace hB := below_tr hB hb
  clear hb
  obtain ⟨c0, c1, c2, c3⟩ := cells4 gC
  have cp0 := fun o => cell_alloc (o := o) c0
  have cp1 := fun o => cell_alloc (o := o) c1
  have cp2 := fun o => cell_alloc (o := o) c2
  have cp3 := fun o => cell_alloc (o := o) c3
  obtain ⟨x0, x1, x2, x3, x4, x5, x6, x7, x8, x9⟩ := cells10 gX
  have xp0 := fun o => cell_alloc (o := o) x0
  have xp1 := fun o => cell_alloc (o := o) x1
  have xp2 := fun o => cell_alloc (o := o) x2
  have xp3 := fun o => cell_alloc (o := o) x3
  have xp4 := fun o => cell_alloc (o := o) x4
  have xp5 := fun o => cell_alloc (o := o) x5
  have xp6 := fun o => cell_alloc (o := o) x6
  have xp7 := fun o => cell_alloc (o := o) x7
  have xp8 := fun o => cell_alloc (o := o) x8
  have xp9 := fun o => cell_alloc (o := o) x9
  go_wp2
  go_ret
  first
    | exact ⟨rfl, hB⟩
    | exact ⟨rfl, hB.alloc hB.size _⟩

set_option maxRecDepth 100000 in
set_option maxHeartbeats 4000000 in
theorem walk_bad (x A B C D : Nat) (w : World) (hx : x < 18446744073709551616) (hA : A < 18446744073709551616) (hB0 : B < 18446744073709551616) (hC : C < 18446744073709551616) (hD : D < 18446744073709551616) (hP : SPrts w) (hE : sE 65536 x = 0) (hk : okS A B C D = false) : Calls Tryd.prog 4 #[.int .u64 (x : Nat), .agg #[.int .u64 (A : Nat), .int .u64 (B : Nat), .int .u64 (C : Nat), .int .u64 (D : Nat)]] w fun e w' => e = .returned (.bool true) ∧ Below w.heap.size w w' := by
  have cO := fun W => opened_c x A B C D hx hA hB0 hC hD W
  have cA := fun W hW => anchorS_any W hW
  have cM := fun W => may_any x hx W
  rw [hE] at cM
  have hF := four hE (by decide) (fun _ => 0) A B C D
  rw [← op_st hE] at hF
  have hV : ldV 65536 (opF x ((x + 8) % 18446744073709551616) ((x + 16) % 18446744073709551616) ((x + 24) % 18446744073709551616) A B C D) x = slV A B C D ∧ ldE 65536 (opF x ((x + 8) % 18446744073709551616) ((x + 16) % 18446744073709551616) ((x + 24) % 18446744073709551616) A B C D) x = slE A B C D := by
    unfold ldV ldE
    rw [if_pos hE, if_pos hE, hF.1, hF.2.1, hF.2.2.1, hF.2.2.2.1]
    exact ⟨rfl, rfl⟩
  have cD := fun W => dread_any A B C D hA hB0 hC hD W
  unfold slV slE at hV
  unfold slV at cD
  rw [hk, if_neg (by decide), if_neg (by decide)] at hV
  rw [hk, if_neg (by decide)] at cD
  have cL : ∀ (W : World) (Y : Nat → Prop) ad, MemAt W Y ad 65536 4 (opF x ((x + 8) % 18446744073709551616) ((x + 16) % 18446744073709551616) ((x + 24) % 18446744073709551616) A B C D) → SPrts W → Calls Tryd.prog 17 #[.pointer (some ⟨ad, 0, none⟩), .int .u64 x] W fun e w' => e = .returned (.tuple #[.agg #[.int .i64 0, .int .u64 0, .int .i64 0, .int .i64 0, .int .i64 0, .int .i64 0, .int .u64 0, .int .u64 0, .int .u64 0, .int .i64 0], .int .i64 10]) ∧ Below W.heap.size W w' := fun W Y ad h1 h2 => by
    have := load_c h1 x hx h2
    rw [hV.1, hV.2] at this
    exact this
  have cE0 : ∀ W, Calls Tryd.prog 18 #[.agg #[.int .i64 0, .int .u64 0, .int .i64 0, .int .i64 0, .int .i64 0, .int .i64 0, .int .u64 0, .int .u64 0, .int .u64 0, .int .i64 0]] W fun e w' => e = .returned (.bool true) ∧ Below W.heap.size W w' := fun W => empty_any 0 0 0 0 0 0 0 0 0 0 W
  clear hV hF
  generalize (opF x ((x + 8) % 18446744073709551616) ((x + 16) % 18446744073709551616) ((x + 24) % 18446744073709551616) A B C D) = F at *
  clear hx hA hB0 hC hD hE hk
  go_enter Tryd.func4, Tryd.ntmps4
  go_wp2_with fail
  have gC := heap_alloc_new w (.cells #[.int .u64 (A : Nat), .int .u64 (B : Nat), .int .u64 (C : Nat), .int .u64 (D : Nat)] 27)
  have hB := below_new w (.cells #[.int .u64 (A : Nat), .int .u64 (B : Nat), .int .u64 (C : Nat), .int .u64 (D : Nat)] 27)
  generalize w.alloc (.cells #[.int .u64 (A : Nat), .int .u64 (B : Nat), .int .u64 (C : Nat), .int .u64 (D : Nat)] 27) = W0 at *
  obtain ⟨c0, c1, c2, c3⟩ := cells4 gC
  have cp0 := fun o => cell_alloc (o := o) c0
  have cp1 := fun o => cell_alloc (o := o) c1
  have cp2 := fun o => cell_alloc (o := o) c2
  have cp3 := fun o => cell_alloc (o := o) c3
  refine (cA _ (hP.later hB)).mono ?_
  clear c0 cp0 c1 cp1 c2 cp2 c3 cp3
  rintro e w1 ⟨rfl, hb⟩
  replace gC := block_later hb gC
  replace hB := below_tr hB hb
  clear hb
  obtain ⟨c0, c1, c2, c3⟩ := cells4 gC
  have cp0 := fun o => cell_alloc (o := o) c0
  have cp1 := fun o => cell_alloc (o := o) c1
  have cp2 := fun o => cell_alloc (o := o) c2
  have cp3 := fun o => cell_alloc (o := o) c3
  go_wp2_with fail
  refine (cO _).mono ?_
  clear c0 cp0 c1 cp1 c2 cp2 c3 cp3
  rintro e w2 ⟨ad, rfl, hM0⟩
  obtain ⟨Y, hM, hY⟩ := Wn.mem hM0
  have hb := Wn.bel hM0
  have HM := Hid.mk hM
  have hY0 : ∀ i, Y i → w.heap.size < i := fun i q => Nat.lt_of_lt_of_le (block_lt gC) (hY i q).1
  replace gC := block_later hb gC
  replace hB := below_tr hB hb
  clear hb hM hM0
  obtain ⟨c0, c1, c2, c3⟩ := cells4 gC
  have cp0 := fun o => cell_alloc (o := o) c0
  have cp1 := fun o => cell_alloc (o := o) c1
  have cp2 := fun o => cell_alloc (o := o) c2
  have cp3 := fun o => cell_alloc (o := o) c3
  go_wp2_with fail
  refine (cL _ _ _ HM.out (hP.later hB)).mono ?_
  clear c0 cp0 c1 cp1 c2 cp2 c3 cp3
  rintro e w3 ⟨rfl, hb⟩
  replace gC := block_later hb gC
  replace hB := below_tr hB hb
  replace HM := Hid.mk (HM.out.below hb)
  clear hb
  obtain ⟨c0, c1, c2, c3⟩ := cells4 gC
  have cp0 := fun o => cell_alloc (o := o) c0
  have cp1 := fun o => cell_alloc (o := o) c1
  have cp2 := fun o => cell_alloc (o := o) c2
  have cp3 := fun o => cell_alloc (o := o) c3
  clear HM
  go_upto_region 7 with fail
  clear c0 cp0 c1 cp1 c2 cp2 c3 cp3
  have gX := heap_alloc_new w3 (.cells #[.int .i64 0, .int .u64 0, .int .i64 0, .int .i64 0, .int .i64 0, .int .i64 0, .int .u64 0, .int .u64 0, .int .u64 0, .int .i64 0] 26)
  replace gC := block_later (below_new _ (.cells #[.int .i64 0, .int .u64 0, .int .i64 0, .int .i64 0, .int .i64 0, .int .i64 0, .int .u64 0, .int .u64 0, .int .u64 0, .int .i64 0] 26)) gC
  replace hB := below_tr hB (below_new _ (.cells #[.int .i64 0, .int .u64 0, .int .i64 0, .int .i64 0, .int .i64 0, .int .i64 0, .int .u64 0, .int .u64 0, .int .u64 0, .int .i64 0] 26))
  generalize w3.heap.size = X at *
  generalize w3.alloc (.cells #[.int .i64 0, .int .u64 0, .int .i64 0, .int .i64 0, .int .i64 0, .int .i64 0, .int .u64 0, .int .u64 0, .int .u64 0, .int .i64 0] 26) = w3a at *
  obtain ⟨c0, c1, c2, c3⟩ := cells4 gC
  have cp0 := fun o => cell_alloc (o := o) c0
  have cp1 := fun o => cell_alloc (o := o) c1
  have cp2 := fun o => cell_alloc (o := o) c2
  have cp3 := fun o => cell_alloc (o := o) c3
  obtain ⟨x0, x1, x2, x3, x4, x5, x6, x7, x8, x9⟩ := cells10 gX
  have xp0 := fun o => cell_alloc (o := o) x0
  have xp1 := fun o => cell_alloc (o := o) x1
  have xp2 := fun o => cell_alloc (o := o) x2
  have xp3 := fun o => cell_alloc (o := o) x3
  have xp4 := fun o => cell_alloc (o := o) x4
  have xp5 := fun o => cell_alloc (o := o) x5
  have xp6 := fun o => cell_alloc (o := o) x6
  have xp7 := fun o => cell_alloc (o := o) x7
  have xp8 := fun o => cell_alloc (o := o) x8
  have xp9 := fun o => cell_alloc (o := o) x9
  go_wp2_with fail
  refine (cM _).mono ?_
  rintro e w4 ⟨rfl, rfl⟩
  go_wp2_with fail
  refine (cD _).mono ?_
  clear c0 cp0 c1 cp1 c2 cp2 c3 cp3 x0 xp0 x1 xp1 x2 xp2 x3 xp3 x4 xp4 x5 xp5 x6 xp6 x7 xp7 x8 xp8 x9 xp9
  rintro e w5 ⟨rfl, hb⟩
  replace gC := block_later hb gC
  replace gX := block_later hb gX
  replace hB := below_tr hB hb
  clear hb
  obtain ⟨c0, c1, c2, c3⟩ := cells4 gC
  have cp0 := fun o => cell_alloc (o := o) c0
  have cp1 := fun o => cell_alloc (o := o) c1
  have cp2 := fun o => cell_alloc (o := o) c2
  have cp3 := fun o => cell_alloc (o := o) c3
  obtain ⟨x0, x1, x2, x3, x4, x5, x6, x7, x8, x9⟩ := cells10 gX
  have xp0 := fun o => cell_alloc (o := o) x0
  have xp1 := fun o => cell_alloc (o := o) x1
  have xp2 := fun o => cell_alloc (o := o) x2
  have xp3 := fun o => cell_alloc (o := o) x3
  have xp4 := fun o => cell_alloc (o := o) x4
  have xp5 := fun o => cell_alloc (o := o) x5
  have xp6 := fun o => cell_alloc (o := o) x6
  have xp7 := fun o => cell_alloc (o := o) x7
  have xp8 := fun o => cell_alloc (o := o) x8
  have xp9 := fun o => cell_alloc (o := o) x9
  go_upto_region 11 with fail
  clear c0 cp0 c1 cp1 c2 cp2 c3 cp3 x0 xp0 x1 xp1 x2 xp2 x3 xp3 x4 xp4 x5 xp5 x6 xp6 x7 xp7 x8 xp8 x9 xp9
  have gY := heap_alloc_new w5 (.cells #[.int .i64 0, .int .u64 0, .int .i64 0, .int .i64 0, .int .i64 0, .int .i64 0, .int .u64 0, .int .u64 0, .int .u64 0, .int .i64 0] 38)
  replace gC := block_later (below_new _ (.cells #[.int .i64 0, .int .u64 0, .int .i64 0, .int .i64 0, .int .i64 0, .int .i64 0, .int .u64 0, .int .u64 0, .int .u64 0, .int .i64 0] 38)) gC
  replace gX := block_later (below_new _ (.cells #[.int .i64 0, .int .u64 0, .int .i64 0, .int .i64 0, .int .i64 0, .int .i64 0, .int .u64 0, .int .u64 0, .int .u64 0, .int .i64 0] 38)) gX
  replace hB := below_tr hB (below_new _ (.cells #[.int .i64 0, .int .u64 0, .int .i64 0, .int .i64 0, .int .i64 0, .int .i64 0, .int .u64 0, .int .u64 0, .int .u64 0, .int .i64 0] 38))
  generalize w5.heap.size = Yb at *
  generalize w5.alloc (.cells #[.int .i64 0, .int .u64 0, .int .i64 0, .int .i64 0, .int .i64 0, .int .i64 0, .int .u64 0, .int .u64 0, .int .u64 0, .int .i64 0] 38) = w5a at *
  obtain ⟨c0, c1, c2, c3⟩ := cells4 gC
  have cp0 := fun o => cell_alloc (o := o) c0
  have cp1 := fun o => cell_alloc (o := o) c1
  have cp2 := fun o => cell_alloc (o := o) c2
  have cp3 := fun o => cell_alloc (o := o) c3
  obtain ⟨x0, x1, x2, x3, x4, x5, x6, x7, x8, x9⟩ := cells10 gX
  have xp0 := fun o => cell_alloc (o := o) x0
  have xp1 := fun o => cell_alloc (o := o) x1
  have xp2 := fun o => cell_alloc (o := o) x2
  have xp3 := fun o => cell_alloc (o := o) x3
  have xp4 := fun o => cell_alloc (o := o) x4
  have xp5 := fun o => cell_alloc (o := o) x5
  have xp6 := fun o => cell_alloc (o := o) x6
  have xp7 := fun o => cell_alloc (o := o) x7
  have xp8 := fun o => cell_alloc (o := o) x8
  have xp9 := fun o => cell_alloc (o := o) x9
  obtain ⟨y0, y1, y2, y3, y4, y5, y6, y7, y8, y9⟩ := cells10 gY
  have yp0 := fun o => cell_alloc (o := o) y0
  have yp1 := fun o => cell_alloc (o := o) y1
  have yp2 := fun o => cell_alloc (o := o) y2
  have yp3 := fun o => cell_alloc (o := o) y3
  have yp4 := fun o => cell_alloc (o := o) y4
  have yp5 := fun o => cell_alloc (o := o) y5
  have yp6 := fun o => cell_alloc (o := o) y6
  have yp7 := fun o => cell_alloc (o := o) y7
  have yp8 := fun o => cell_alloc (o := o) y8
  have yp9 := fun o => cell_alloc (o := o) y9
  go_wp2_with fail
  refine (cE0 _).mono ?_
  clear c0 cp0 c1 cp1 c2 cp2 c3 cp3 x0 xp0 x1 xp1 x2 xp2 x3 xp3 x4 xp4 x5 xp5 x6 xp6 x7 xp7 x8 xp8 x9 xp9 y0 yp0 y1 yp1 y2 yp2 y3 yp3 y4 yp4 y5 yp5 y6 yp6 y7 yp7 y8 yp8 y9 yp9
  rintro e w6 ⟨rfl, hb⟩
  replace gC := block_later hb gC
  replace gX := block_later hb gX
  replace gY := block_later hb gY
  replace hB := below_tr hB hb
  clear hb
  obtain ⟨c0, c1, c2, c3⟩ := cells4 gC
  have cp0 := fun o => cell_alloc (o := o) c0
  have cp1 := fun o => cell_alloc (o := o) c1
  have cp2 := fun o => cell_alloc (o := o) c2
  have cp3 := fun o => cell_alloc (o := o) c3
  obtain ⟨x0, x1, x2, x3, x4, x5, x6, x7, x8, x9⟩ := cells10 gX
  have xp0 := fun o => cell_alloc (o := o) x0
  have xp1 := fun o => cell_alloc (o := o) x1
  have xp2 := fun o => cell_alloc (o := o) x2
  have xp3 := fun o => cell_alloc (o := o) x3
  have xp4 := fun o => cell_alloc (o := o) x4
  have xp5 := fun o => cell_alloc (o := o) x5
  have xp6 := fun o => cell_alloc (o := o) x6
  have xp7 := fun o => cell_alloc (o := o) x7
  have xp8 := fun o => cell_alloc (o := o) x8
  have xp9 := fun o => cell_alloc (o := o) x9
  obtain ⟨y0, y1, y2, y3, y4, y5, y6, y7, y8, y9⟩ := cells10 gY
  have yp0 := fun o => cell_alloc (o := o) y0
  have yp1 := fun o => cell_alloc (o := o) y1
  have yp2 := fun o => cell_alloc (o := o) y2
  have yp3 := fun o => cell_alloc (o := o) y3
  have yp4 := fun o => cell_alloc (o := o) y4
  have yp5 := fun o => cell_alloc (o := o) y5
  have yp6 := fun o => cell_alloc (o := o) y6
  have yp7 := fun o => cell_alloc (o := o) y7
  have yp8 := fun o => cell_alloc (o := o) y8
  have yp9 := fun o => cell_alloc (o := o) y9
  go_wp2
  go_ret
  first
    | exact ⟨rfl, hB⟩
    | exact ⟨rfl, hB.alloc hB.size _⟩

set_option maxHeartbeats 4000000 in
theorem eqD (k : Int) (a : Nat) (b : Int) (r : Int) (g : Int) (s : Int) (m : Nat) (nx : Nat) (pv : Nat) (d : Int) (k2 : Int) (a2 : Nat) (b2 : Int) (r2 : Int) (g2 : Int) (s2 : Int) (m2 : Nat) (nx2 : Nat) (pv2 : Nat) (d2 : Int) (w : World) : (binOp .eql 38 (.agg #[.int .i64 k, .int .u64 (a : Nat), .int .i64 b, .int .i64 r, .int .i64 g, .int .i64 s, .int .u64 (m : Nat), .int .u64 (nx : Nat), .int .u64 (pv : Nat), .int .i64 d]) (.agg #[.int .i64 k2, .int .u64 (a2 : Nat), .int .i64 b2, .int .i64 r2, .int .i64 g2, .int .i64 s2, .int .u64 (m2 : Nat), .int .u64 (nx2 : Nat), .int .u64 (pv2 : Nat), .int .i64 d2])).run Tryd.prog w = .ok (.bool (eqSB k a b r g s m nx pv d k2 a2 b2 r2 g2 s2 m2 nx2 pv2 d2)) w := by
  unfold eqSB
  by_cases hk : k = k2
  · subst hk
    by_cases ha : a = a2
    · subst ha
      by_cases hb : b = b2
      · subst hb
        by_cases hr : r = r2
        · subst hr
          by_cases hg : g = g2
          · subst hg
            by_cases hs : s = s2
            · subst hs
              by_cases hm : m = m2
              · subst hm
                by_cases hnx : nx = nx2
                · subst hnx
                  by_cases hpv : pv = pv2
                  · subst hpv
                    by_cases hd : d = d2
                    · subst hd
                      first | (go_simp; done) | (go_simp <;> simp_all)
                    · go_simp <;> (first | (simp_all; done) | (rw [if_neg (by omega), beq_eq_false_iff_ne.2 (by assumption)]; done) | (rw [if_neg (by omega), beq_eq_false_iff_ne.2 (by assumption)]; rfl))
                  · go_simp <;> (first | (simp_all; done) | (rw [if_neg (by omega), beq_eq_false_iff_ne.2 (by assumption)]; done) | (rw [if_neg (by omega), beq_eq_false_iff_ne.2 (by assumption)]; rfl))
                · go_simp <;> (first | (simp_all; done) | (rw [if_neg (by omega), beq_eq_false_iff_ne.2 (by assumption)]; done) | (rw [if_neg (by omega), beq_eq_false_iff_ne.2 (by assumption)]; rfl))
              · go_simp <;> (first | (simp_all; done) | (rw [if_neg (by omega), beq_eq_false_iff_ne.2 (by assumption)]; done) | (rw [if_neg (by omega), beq_eq_false_iff_ne.2 (by assumption)]; rfl))
            · go_simp <;> (first | (simp_all; done) | (rw [if_neg (by omega), beq_eq_false_iff_ne.2 (by assumption)]; done) | (rw [if_neg (by omega), beq_eq_false_iff_ne.2 (by assumption)]; rfl))
          · go_simp <;> (first | (simp_all; done) | (rw [if_neg (by omega), beq_eq_false_iff_ne.2 (by assumption)]; done) | (rw [if_neg (by omega), beq_eq_false_iff_ne.2 (by assumption)]; rfl))
        · go_simp <;> (first | (simp_all; done) | (rw [if_neg (by omega), beq_eq_false_iff_ne.2 (by assumption)]; done) | (rw [if_neg (by omega), beq_eq_false_iff_ne.2 (by assumption)]; rfl))
      · go_simp <;> (first | (simp_all; done) | (rw [if_neg (by omega), beq_eq_false_iff_ne.2 (by assumption)]; done) | (rw [if_neg (by omega), beq_eq_false_iff_ne.2 (by assumption)]; rfl))
    · go_simp <;> (first | (simp_all; done) | (rw [if_neg (by omega), beq_eq_false_iff_ne.2 (by assumption)]; done) | (rw [if_neg (by omega), beq_eq_false_iff_ne.2 (by assumption)]; rfl))
  · go_simp <;> (first | (simp_all; done) | (rw [if_neg (by omega), beq_eq_false_iff_ne.2 (by assumption)]; done) | (rw [if_neg (by omega), beq_eq_false_iff_ne.2 (by assumption)]; rfl))

set_option maxRecDepth 100000 in
set_option maxHeartbeats 1500000 in
theorem walk_ok (x A B C D : Nat) (w : World) (hx : x < 18446744073709551616) (hA : A < 18446744073709551616) (hB0 : B < 18446744073709551616) (hC : C < 18446744073709551616) (hD : D < 18446744073709551616) (hP : SPrts w) (hE : sE 65536 x = 0) (hk : okS A B C D = true) (k a b r g s nx pv : Nat) (hk0 : k = rdK A) (ha0 : a = rdA A) (hb0 : b = rdB A) (hr0 : r = rdR A) (hg0 : g = rdG A) (hs0 : s = rdS A) (hn0 : nx = slN C) (hp0 : pv = slP C) : Calls Tryd.prog 4 #[.int .u64 (x : Nat), .agg #[.int .u64 (A : Nat), .int .u64 (B : Nat), .int .u64 (C : Nat), .int .u64 (D : Nat)]] w fun e w' => e = .returned (.bool true) ∧ Below w.heap.size w w' := by
  have cO := fun W => opened_c x A B C D hx hA hB0 hC hD W
  have cA := fun W hW => anchorS_any W hW
  have cM := fun W => may_any x hx W
  rw [hE] at cM
  have hF := four hE (by decide) (fun _ => 0) A B C D
  rw [← op_st hE] at hF
  have hV : ldV 65536 (opF x ((x + 8) % 18446744073709551616) ((x + 16) % 18446744073709551616) ((x + 24) % 18446744073709551616) A B C D) x = slV A B C D ∧ ldE 65536 (opF x ((x + 8) % 18446744073709551616) ((x + 16) % 18446744073709551616) ((x + 24) % 18446744073709551616) A B C D) x = slE A B C D := by
    unfold ldV ldE
    rw [if_pos hE, if_pos hE, hF.1, hF.2.1, hF.2.2.1, hF.2.2.2.1]
    exact ⟨rfl, rfl⟩
  have cD := fun W => dread_any A B C D hA hB0 hC hD W
  unfold slV slE at hV
  unfold slV at cD
  rw [hk, if_pos rfl, if_pos rfl, ← hk0, ← ha0, ← hb0, ← hr0, ← hg0, ← hs0, ← hn0, ← hp0] at hV
  rw [hk, if_pos rfl, ← hk0, ← ha0, ← hb0, ← hr0, ← hg0, ← hs0, ← hn0, ← hp0] at cD
  have cL : ∀ (W : World) (Y : Nat → Prop) ad, MemAt W Y ad 65536 4 (opF x ((x + 8) % 18446744073709551616) ((x + 16) % 18446744073709551616) ((x + 24) % 18446744073709551616) A B C D) → SPrts W → Calls Tryd.prog 17 #[.pointer (some ⟨ad, 0, none⟩), .int .u64 x] W fun e w' => e = .returned (.tuple #[.agg #[.int .i64 (k : Nat), .int .u64 (a : Nat), .int .i64 (b : Nat), .int .i64 (r : Nat), .int .i64 (g : Nat), .int .i64 (s : Nat), .int .u64 (B : Nat), .int .u64 (nx : Nat), .int .u64 (pv : Nat), .int .i64 (D : Nat)], .int .i64 0]) ∧ Below W.heap.size W w' := fun W Y ad h1 h2 => by
    have := load_c h1 x hx h2
    rw [hV.1, hV.2] at this
    exact this
  have cI : ∀ W, Calls Tryd.prog 12 #[.agg #[.int .i64 (k : Nat), .int .u64 (a : Nat), .int .i64 (b : Nat), .int .i64 (r : Nat), .int .i64 (g : Nat), .int .i64 (s : Nat), .int .u64 (B : Nat), .int .u64 (nx : Nat), .int .u64 (pv : Nat), .int .i64 (D : Nat)]] W fun e w' => e = .returned (.agg #[.int .i64 (k : Nat), .int .u64 (a : Nat), .int .i64 (b : Nat), .int .i64 (r : Nat), .int .i64 (g : Nat), .int .i64 (s : Nat), .int .u64 (B : Nat), .int .u64 (nx : Nat), .int .u64 (pv : Nat), .int .i64 (D : Nat)]) ∧ Below W.heap.size W w' := fun W => listed_any _ _ _ _ _ _ _ _ _ _ W
  have cR : ∀ W, Calls Tryd.prog 14 #[.agg #[.int .i64 (k : Nat), .int .u64 (a : Nat), .int .i64 (b : Nat), .int .i64 (r : Nat), .int .i64 (g : Nat), .int .i64 (s : Nat), .int .u64 (B : Nat), .int .u64 (nx : Nat), .int .u64 (pv : Nat), .int .i64 (D : Nat)]] W fun e w' => e = .returned (.bool true) ∧ Below W.heap.size W w' := fun W => by
    have hc : sB k a b r g s B nx pv D = true := by
      unfold okS rdOK at hk
      simp only [Bool.and_eq_true, decide_eq_true_eq] at hk
      rw [s_iff, hk0, ha0, hb0, hr0, hg0, hs0, hn0, hp0]
      exact ⟨hk.1.1, slN_lk C, slP_lk C, by omega, by omega⟩
    have := sright_any k a b r g s B nx pv D (by have := (rd_bounds A B hB0).qa; omega) hB0 (by have := (slN_lk C).1; omega) (by have := (slP_lk C).1; omega) W
    rw [hc] at this
    exact this
  have HQ : ∀ W, (binOp .eql 38 (.agg #[.int .i64 (k : Nat), .int .u64 (a : Nat), .int .i64 (b : Nat), .int .i64 (r : Nat), .int .i64 (g : Nat), .int .i64 (s : Nat), .int .u64 (B : Nat), .int .u64 (nx : Nat), .int .u64 (pv : Nat), .int .i64 (D : Nat)]) (.agg #[.int .i64 (k : Nat), .int .u64 (a : Nat), .int .i64 (b : Nat), .int .i64 (r : Nat), .int .i64 (g : Nat), .int .i64 (s : Nat), .int .u64 (B : Nat), .int .u64 (nx : Nat), .int .u64 (pv : Nat), .int .i64 (D : Nat)])).run Tryd.prog W = .ok (.bool true) W := fun W => by
    rw [eqD]; unfold eqSB; simp
  clear hV hF
  generalize (opF x ((x + 8) % 18446744073709551616) ((x + 16) % 18446744073709551616) ((x + 24) % 18446744073709551616) A B C D) = F at *
  clear hx hA hB0 hC hD hE hk hk0 ha0 hb0 hr0 hg0 hs0 hn0 hp0
  go_enter Tryd.func4, Tryd.ntmps4
  go_wp2_with fail
  have gC := heap_alloc_new w (.cells #[.int .u64 (A : Nat), .int .u64 (B : Nat), .int .u64 (C : Nat), .int .u64 (D : Nat)] 27)
  have hB := below_new w (.cells #[.int .u64 (A : Nat), .int .u64 (B : Nat), .int .u64 (C : Nat), .int .u64 (D : Nat)] 27)
  generalize w.alloc (.cells #[.int .u64 (A : Nat), .int .u64 (B : Nat), .int .u64 (C : Nat), .int .u64 (D : Nat)] 27) = W0 at *
  obtain ⟨c0, c1, c2, c3⟩ := cells4 gC
  have cp0 := fun o => cell_alloc (o := o) c0
  have cp1 := fun o => cell_alloc (o := o) c1
  have cp2 := fun o => cell_alloc (o := o) c2
  have cp3 := fun o => cell_alloc (o := o) c3
  refine (cA _ (hP.later hB)).mono ?_
  clear c0 cp0 c1 cp1 c2 cp2 c3 cp3
  rintro e w1 ⟨rfl, hb⟩
  replace gC := block_later hb gC
  replace hB := below_tr hB hb
  clear hb
  obtain ⟨c0, c1, c2, c3⟩ := cells4 gC
  have cp0 := fun o => cell_alloc (o := o) c0
  have cp1 := fun o => cell_alloc (o := o) c1
  have cp2 := fun o => cell_alloc (o := o) c2
  have cp3 := fun o => cell_alloc (o := o) c3
  go_wp2_with fail
  refine (cO _).mono ?_
  clear c0 cp0 c1 cp1 c2 cp2 c3 cp3
  rintro e w2 ⟨ad, rfl, hM0⟩
  obtain ⟨Y, hM, hY⟩ := Wn.mem hM0
  have hb := Wn.bel hM0
  have HM := Hid.mk hM
  have hY0 : ∀ i, Y i → w.heap.size < i := fun i q => Nat.lt_of_lt_of_le (block_lt gC) (hY i q).1
  replace gC := block_later hb gC
  replace hB := below_tr hB hb
  clear hb hM hM0
  obtain ⟨c0, c1, c2, c3⟩ := cells4 gC
  have cp0 := fun o => cell_alloc (o := o) c0
  have cp1 := fun o => cell_alloc (o := o) c1
  have cp2 := fun o => cell_alloc (o := o) c2
  have cp3 := fun o => cell_alloc (o := o) c3
  go_wp2_with fail
  refine (cL _ _ _ HM.out (hP.later hB)).mono ?_
  clear c0 cp0 c1 cp1 c2 cp2 c3 cp3
  rintro e w3 ⟨rfl, hb⟩
  replace gC := block_later hb gC
  replace hB := below_tr hB hb
  replace HM := Hid.mk (HM.out.below hb)
  clear hb
  obtain ⟨c0, c1, c2, c3⟩ := cells4 gC
  have cp0 := fun o => cell_alloc (o := o) c0
  have cp1 := fun o => cell_alloc (o := o) c1
  have cp2 := fun o => cell_alloc (o := o) c2
  have cp3 := fun o => cell_alloc (o := o) c3
  clear HM
  go_upto_region 7 with fail
  clear c0 cp0 c1 cp1 c2 cp2 c3 cp3
  have gX := heap_alloc_new w3 (.cells #[.int .i64 (k : Nat), .int .u64 (a : Nat), .int .i64 (b : Nat), .int .i64 (r : Nat), .int .i64 (g : Nat), .int .i64 (s : Nat), .int .u64 (B : Nat), .int .u64 (nx : Nat), .int .u64 (pv : Nat), .int .i64 (D : Nat)] 26)
  replace gC := block_later (below_new _ (.cells #[.int .i64 (k : Nat), .int .u64 (a : Nat), .int .i64 (b : Nat), .int .i64 (r : Nat), .int .i64 (g : Nat), .int .i64 (s : Nat), .int .u64 (B : Nat), .int .u64 (nx : Nat), .int .u64 (pv : Nat), .int .i64 (D : Nat)] 26)) gC
  replace hB := below_tr hB (below_new _ (.cells #[.int .i64 (k : Nat), .int .u64 (a : Nat), .int .i64 (b : Nat), .int .i64 (r : Nat), .int .i64 (g : Nat), .int .i64 (s : Nat), .int .u64 (B : Nat), .int .u64 (nx : Nat), .int .u64 (pv : Nat), .int .i64 (D : Nat)] 26))
  generalize w3.heap.size = X at *
  generalize w3.alloc (.cells #[.int .i64 (k : Nat), .int .u64 (a : Nat), .int .i64 (b : Nat), .int .i64 (r : Nat), .int .i64 (g : Nat), .int .i64 (s : Nat), .int .u64 (B : Nat), .int .u64 (nx : Nat), .int .u64 (pv : Nat), .int .i64 (D : Nat)] 26) = w3a at *
  obtain ⟨c0, c1, c2, c3⟩ := cells4 gC
  have cp0 := fun o => cell_alloc (o := o) c0
  have cp1 := fun o => cell_alloc (o := o) c1
  have cp2 := fun o => cell_alloc (o := o) c2
  have cp3 := fun o => cell_alloc (o := o) c3
  obtain ⟨x0, x1, x2, x3, x4, x5, x6, x7, x8, x9⟩ := cells10 gX
  have xp0 := fun o => cell_alloc (o := o) x0
  have xp1 := fun o => cell_alloc (o := o) x1
  have xp2 := fun o => cell_alloc (o := o) x2
  have xp3 := fun o => cell_alloc (o := o) x3
  have xp4 := fun o => cell_alloc (o := o) x4
  have xp5 := fun o => cell_alloc (o := o) x5
  have xp6 := fun o => cell_alloc (o := o) x6
  have xp7 := fun o => cell_alloc (o := o) x7
  have xp8 := fun o => cell_alloc (o := o) x8
  have xp9 := fun o => cell_alloc (o := o) x9
  go_wp2_with fail
  refine (cM _).mono ?_
  rintro e w4 ⟨rfl, rfl⟩
  go_wp2_with fail
  refine (cD _).mono ?_
  clear c0 cp0 c1 cp1 c2 cp2 c3 cp3 x0 xp0 x1 xp1 x2 xp2 x3 xp3 x4 xp4 x5 xp5 x6 xp6 x7 xp7 x8 xp8 x9 xp9
  rintro e w5 ⟨rfl, hb⟩
  replace gC := block_later hb gC
  replace gX := block_later hb gX
  replace hB := below_tr hB hb
  clear hb
  obtain ⟨c0, c1, c2, c3⟩ := cells4 gC
  have cp0 := fun o => cell_alloc (o := o) c0
  have cp1 := fun o => cell_alloc (o := o) c1
  have cp2 := fun o => cell_alloc (o := o) c2
  have cp3 := fun o => cell_alloc (o := o) c3
  obtain ⟨x0, x1, x2, x3, x4, x5, x6, x7, x8, x9⟩ := cells10 gX
  have xp0 := fun o => cell_alloc (o := o) x0
  have xp1 := fun o => cell_alloc (o := o) x1
  have xp2 := fun o => cell_alloc (o := o) x2
  have xp3 := fun o => cell_alloc (o := o) x3
  have xp4 := fun o => cell_alloc (o := o) x4
  have xp5 := fun o => cell_alloc (o := o) x5
  have xp6 := fun o => cell_alloc (o := o) x6
  have xp7 := fun o => cell_alloc (o := o) x7
  have xp8 := fun o => cell_alloc (o := o) x8
  have xp9 := fun o => cell_alloc (o := o) x9
  go_upto_region 13 with fail
  clear c0 cp0 c1 cp1 c2 cp2 c3 cp3 x0 xp0 x1 xp1 x2 xp2 x3 xp3 x4 xp4 x5 xp5 x6 xp6 x7 xp7 x8 xp8 x9 xp9
  have gY := heap_alloc_new w5 (.cells #[.int .i64 (k : Nat), .int .u64 (a : Nat), .int .i64 (b : Nat), .int .i64 (r : Nat), .int .i64 (g : Nat), .int .i64 (s : Nat), .int .u64 (B : Nat), .int .u64 (nx : Nat), .int .u64 (pv : Nat), .int .i64 (D : Nat)] 38)
  replace gC := block_later (below_new _ (.cells #[.int .i64 (k : Nat), .int .u64 (a : Nat), .int .i64 (b : Nat), .int .i64 (r : Nat), .int .i64 (g : Nat), .int .i64 (s : Nat), .int .u64 (B : Nat), .int .u64 (nx : Nat), .int .u64 (pv : Nat), .int .i64 (D : Nat)] 38)) gC
  replace gX := block_later (below_new _ (.cells #[.int .i64 (k : Nat), .int .u64 (a : Nat), .int .i64 (b : Nat), .int .i64 (r : Nat), .int .i64 (g : Nat), .int .i64 (s : Nat), .int .u64 (B : Nat), .int .u64 (nx : Nat), .int .u64 (pv : Nat), .int .i64 (D : Nat)] 38)) gX
  replace hB := below_tr hB (below_new _ (.cells #[.int .i64 (k : Nat), .int .u64 (a : Nat), .int .i64 (b : Nat), .int .i64 (r : Nat), .int .i64 (g : Nat), .int .i64 (s : Nat), .int .u64 (B : Nat), .int .u64 (nx : Nat), .int .u64 (pv : Nat), .int .i64 (D : Nat)] 38))
  generalize w5.heap.size = Yb at *
  generalize w5.alloc (.cells #[.int .i64 (k : Nat), .int .u64 (a : Nat), .int .i64 (b : Nat), .int .i64 (r : Nat), .int .i64 (g : Nat), .int .i64 (s : Nat), .int .u64 (B : Nat), .int .u64 (nx : Nat), .int .u64 (pv : Nat), .int .i64 (D : Nat)] 38) = w5a at *
  obtain ⟨c0, c1, c2, c3⟩ := cells4 gC
  have cp0 := fun o => cell_alloc (o := o) c0
  have cp1 := fun o => cell_alloc (o := o) c1
  have cp2 := fun o => cell_alloc (o := o) c2
  have cp3 := fun o => cell_alloc (o := o) c3
  obtain ⟨x0, x1, x2, x3, x4, x5, x6, x7, x8, x9⟩ := cells10 gX
  have xp0 := fun o => cell_alloc (o := o) x0
  have xp1 := fun o => cell_alloc (o := o) x1
  have xp2 := fun o => cell_alloc (o := o) x2
  have xp3 := fun o => cell_alloc (o := o) x3
  have xp4 := fun o => cell_alloc (o := o) x4
  have xp5 := fun o => cell_alloc (o := o) x5
  have xp6 := fun o => cell_alloc (o := o) x6
  have xp7 := fun o => cell_alloc (o := o) x7
  have xp8 := fun o => cell_alloc (o := o) x8
  have xp9 := fun o => cell_alloc (o := o) x9
  obtain ⟨y0, y1, y2, y3, y4, y5, y6, y7, y8, y9⟩ := cells10 gY
  have yp0 := fun o => cell_alloc (o := o) y0
  have yp1 := fun o => cell_alloc (o := o) y1
  have yp2 := fun o => cell_alloc (o := o) y2
  have yp3 := fun o => cell_alloc (o := o) y3
  have yp4 := fun o => cell_alloc (o := o) y4
  have yp5 := fun o => cell_alloc (o := o) y5
  have yp6 := fun o => cell_alloc (o := o) y6
  have yp7 := fun o => cell_alloc (o := o) y7
  have yp8 := fun o => cell_alloc (o := o) y8
  have yp9 := fun o => cell_alloc (o := o) y9
  clear c0 cp0 c1 cp1 c2 cp2 c3 cp3 x0 xp0 x1 xp1 x2 xp2 x3 xp3 x4 xp4 x5 xp5 x6 xp6 x7 xp7 x8 xp8 x9 xp9 y0 yp0 y1 yp1 y2 yp2 y3 yp3 y4 yp4 y5 yp5 y6 yp6 y7 yp7 y8 yp8 y9 yp9
  generalize w5a = WD at *
  obtain ⟨k0, k1, k2, k3, k4, k5, k6, k7, k8, k9⟩ := cells10 gX
  obtain ⟨k10, k11, k12, k13, k14, k15, k16, k17, k18, k19⟩ := cells10 gY
  refine wp_region_noPanic ?_
  refine wp_region_held_drew (S := (fun w' => w'.cell? ⟨X, 0, none⟩ = some (.int .i64 (k : Nat)) ∧ w'.cell? ⟨X, 1, none⟩ = some (.int .u64 (a : Nat)) ∧ w'.cell? ⟨X, 2, none⟩ = some (.int .i64 (b : Nat)) ∧ w'.cell? ⟨X, 3, none⟩ = some (.int .i64 (r : Nat)) ∧ w'.cell? ⟨X, 4, none⟩ = some (.int .i64 (g : Nat)) ∧ w'.cell? ⟨X, 5, none⟩ = some (.int .i64 (s : Nat)) ∧ w'.cell? ⟨X, 6, none⟩ = some (.int .u64 (B : Nat)) ∧ w'.cell? ⟨X, 7, none⟩ = some (.int .u64 (nx : Nat)) ∧ w'.cell? ⟨X, 8, none⟩ = some (.int .u64 (pv : Nat)) ∧ w'.cell? ⟨X, 9, none⟩ = some (.int .i64 (D : Nat)) ∧ w'.cell? ⟨Yb, 0, none⟩ = some (.int .i64 (k : Nat)) ∧ w'.cell? ⟨Yb, 1, none⟩ = some (.int .u64 (a : Nat)) ∧ w'.cell? ⟨Yb, 2, none⟩ = some (.int .i64 (b : Nat)) ∧ w'.cell? ⟨Yb, 3, none⟩ = some (.int .i64 (r : Nat)) ∧ w'.cell? ⟨Yb, 4, none⟩ = some (.int .i64 (g : Nat)) ∧ w'.cell? ⟨Yb, 5, none⟩ = some (.int .i64 (s : Nat)) ∧ w'.cell? ⟨Yb, 6, none⟩ = some (.int .u64 (B : Nat)) ∧ w'.cell? ⟨Yb, 7, none⟩ = some (.int .u64 (nx : Nat)) ∧ w'.cell? ⟨Yb, 8, none⟩ = some (.int .u64 (pv : Nat)) ∧ w'.cell? ⟨Yb, 9, none⟩ = some (.int .i64 (D : Nat)))) (by kernel_rfl) ?_ (fun hHeld => ?_)
  · exact ⟨cell_later (Below.refl _ _).drew k0, cell_later (Below.refl _ _).drew k1, cell_later (Below.refl _ _).drew k2, cell_later (Below.refl _ _).drew k3, cell_later (Below.refl _ _).drew k4, cell_later (Below.refl _ _).drew k5, cell_later (Below.refl _ _).drew k6, cell_later (Below.refl _ _).drew k7, cell_later (Below.refl _ _).drew k8, cell_later (Below.refl _ _).drew k9, cell_later (Below.refl _ _).drew k10, cell_later (Below.refl _ _).drew k11, cell_later (Below.refl _ _).drew k12, cell_later (Below.refl _ _).drew k13, cell_later (Below.refl _ _).drew k14, cell_later (Below.refl _ _).drew k15, cell_later (Below.refl _ _).drew k16, cell_later (Below.refl _ _).drew k17, cell_later (Below.refl _ _).drew k18, cell_later (Below.refl _ _).drew k19⟩
  replace k0 := cell_later (Below.refl _ WD).drew k0
  replace k1 := cell_later (Below.refl _ WD).drew k1
  replace k2 := cell_later (Below.refl _ WD).drew k2
  replace k3 := cell_later (Below.refl _ WD).drew k3
  replace k4 := cell_later (Below.refl _ WD).drew k4
  replace k5 := cell_later (Below.refl _ WD).drew k5
  replace k6 := cell_later (Below.refl _ WD).drew k6
  replace k7 := cell_later (Below.refl _ WD).drew k7
  replace k8 := cell_later (Below.refl _ WD).drew k8
  replace k9 := cell_later (Below.refl _ WD).drew k9
  replace k10 := cell_later (Below.refl _ WD).drew k10
  replace k11 := cell_later (Below.refl _ WD).drew k11
  replace k12 := cell_later (Below.refl _ WD).drew k12
  replace k13 := cell_later (Below.refl _ WD).drew k13
  replace k14 := cell_later (Below.refl _ WD).drew k14
  replace k15 := cell_later (Below.refl _ WD).drew k15
  replace k16 := cell_later (Below.refl _ WD).drew k16
  replace k17 := cell_later (Below.refl _ WD).drew k17
  replace k18 := cell_later (Below.refl _ WD).drew k18
  replace k19 := cell_later (Below.refl _ WD).drew k19
  replace gC := block_later (Below.refl _ WD).drew gC
  replace hB := below_tr hB (Below.refl _ WD).drew
  generalize WD.drew = Wd at *
  refine take_at (i := 0) (v := ?_) 48 rfl rfl (by kernel_rfl) (by kernel_rfl) (by kernel_rfl) (fun _ _ _ h => h) (Or.inl ⟨by rfl, ?_⟩) (by assumption) ?_
  rotate_left
  · (intro w' hSw; (try dsimp only at hSw); go_simp; all_goals with_reducible rfl)
  try simp only [Act.put, List.setIfInBounds_toArray, List.set_cons_zero, List.set_cons_succ]
  refine take_at (i := 1) (v := ?_) 49 rfl rfl (by kernel_rfl) (by kernel_rfl) (by kernel_rfl) (fun _ _ _ h => h) (Or.inl ⟨by rfl, ?_⟩) (by assumption) ?_
  rotate_left
  · (intro w' hSw; (try dsimp only at hSw); go_simp; all_goals with_reducible rfl)
  try simp only [Act.put, List.setIfInBounds_toArray, List.set_cons_zero, List.set_cons_succ]
  refine take_at (i := 2) (v := ?_) 50 rfl rfl (by kernel_rfl) (by kernel_rfl) (by kernel_rfl) (fun _ _ _ h => h) (Or.inl ⟨by rfl, ?_⟩) (by assumption) ?_
  rotate_left
  · (intro w' hSw; (try dsimp only at hSw); go_simp; all_goals with_reducible rfl)
  try simp only [Act.put, List.setIfInBounds_toArray, List.set_cons_zero, List.set_cons_succ]
  refine take_at (i := 3) (v := ?_) 51 rfl rfl (by kernel_rfl) (by kernel_rfl) (by kernel_rfl) (fun _ _ _ h => h) (Or.inl ⟨by rfl, ?_⟩) (by assumption) ?_
  rotate_left
  · (intro w' hSw; (try dsimp only at hSw); go_simp; all_goals with_reducible rfl)
  try simp only [Act.put, List.setIfInBounds_toArray, List.set_cons_zero, List.set_cons_succ]
  refine take_at (i := 5) (v := ?_) 53 rfl rfl (by kernel_rfl) (by kernel_rfl) (by kernel_rfl) (fun _ _ _ h => h) (Or.inl ⟨by rfl, ?_⟩) (by assumption) ?_
  rotate_left
  · (intro w' hSw; (try dsimp only at hSw); go_simp; all_goals with_reducible rfl)
  try simp only [Act.put, List.setIfInBounds_toArray, List.set_cons_zero, List.set_cons_succ]
  refine wpAnyH_ready (rs := [4]) (by kernel_rfl) (by simp) ?_
  refine AllReadyH.cons rfl (fun K hK => ?_) AllReadyH.nil
  go_simp
  refine (cI _).mono ?_
  rintro e wc1 ⟨rfl, hb⟩
  go_wp2_with fail
  replace k0 := cell_later hb k0
  replace k1 := cell_later hb k1
  replace k2 := cell_later hb k2
  replace k3 := cell_later hb k3
  replace k4 := cell_later hb k4
  replace k5 := cell_later hb k5
  replace k6 := cell_later hb k6
  replace k7 := cell_later hb k7
  replace k8 := cell_later hb k8
  replace k9 := cell_later hb k9
  replace k10 := cell_later hb k10
  replace k11 := cell_later hb k11
  replace k12 := cell_later hb k12
  replace k13 := cell_later hb k13
  replace k14 := cell_later hb k14
  replace k15 := cell_later hb k15
  replace k16 := cell_later hb k16
  replace k17 := cell_later hb k17
  replace k18 := cell_later hb k18
  replace k19 := cell_later hb k19
  replace gC := block_later hb gC
  replace hB := below_tr hB hb
  refine hK.out _ _ ⟨k0, k1, k2, k3, k4, k5, k6, k7, k8, k9, k10, k11, k12, k13, k14, k15, k16, k17, k18, k19⟩ (fun hHeld1 => ?_)
  clear hK
  try simp only [Act.put, List.setIfInBounds_toArray, List.set_cons_zero, List.set_cons_succ]
  refine take_at (i := 6) (v := ?_) 54 rfl rfl (by kernel_rfl) (by kernel_rfl) (by kernel_rfl) (fun _ _ _ h => h) (Or.inl ⟨by rfl, ?_⟩) (by assumption) ?_
  rotate_left
  · (intro w' hSw; (try dsimp only at hSw); go_simp; all_goals with_reducible rfl)
  try simp only [Act.put, List.setIfInBounds_toArray, List.set_cons_zero, List.set_cons_succ]
  refine take_at (i := 7) (v := ?_) 55 rfl rfl (by kernel_rfl) (by kernel_rfl) (by kernel_rfl) (fun _ _ _ h => h) (Or.inl ⟨by rfl, ?_⟩) (by assumption) ?_
  rotate_left
  · (intro w' hSw; (try dsimp only at hSw); go_simp; all_goals with_reducible rfl)
  try simp only [Act.put, List.setIfInBounds_toArray, List.set_cons_zero, List.set_cons_succ]
  refine take_at (i := 8) (v := ?_) 56 rfl rfl (by kernel_rfl) (by kernel_rfl) (by kernel_rfl) (fun _ _ _ h => h) (Or.inl ⟨by rfl, ?_⟩) (by assumption) ?_
  rotate_left
  · (intro w' hSw; (try dsimp only at hSw); go_simp; all_goals with_reducible rfl)
  try simp only [Act.put, List.setIfInBounds_toArray, List.set_cons_zero, List.set_cons_succ]
  refine take_at (i := 9) (v := ?_) 57 rfl rfl (by kernel_rfl) (by kernel_rfl) (by kernel_rfl) (fun _ _ _ h => h) (Or.inl ⟨by rfl, ?_⟩) (by assumption) ?_
  rotate_left
  · (intro w' hSw; (try dsimp only at hSw); go_simp; all_goals with_reducible rfl)
  try simp only [Act.put, List.setIfInBounds_toArray, List.set_cons_zero, List.set_cons_succ]
  refine wpAnyH_ready (rs := [10]) (by kernel_rfl) (by simp) ?_
  refine AllReadyH.cons rfl (fun K hK => ?_) AllReadyH.nil
  go_simp
  refine (cR _).mono ?_
  rintro e wc2 ⟨rfl, hb⟩
  go_wp2_with fail
  replace k0 := cell_later hb k0
  replace k1 := cell_later hb k1
  replace k2 := cell_later hb k2
  replace k3 := cell_later hb k3
  replace k4 := cell_later hb k4
  replace k5 := cell_later hb k5
  replace k6 := cell_later hb k6
  replace k7 := cell_later hb k7
  replace k8 := cell_later hb k8
  replace k9 := cell_later hb k9
  replace k10 := cell_later hb k10
  replace k11 := cell_later hb k11
  replace k12 := cell_later hb k12
  replace k13 := cell_later hb k13
  replace k14 := cell_later hb k14
  replace k15 := cell_later hb k15
  replace k16 := cell_later hb k16
  replace k17 := cell_later hb k17
  replace k18 := cell_later hb k18
  replace k19 := cell_later hb k19
  replace gC := block_later hb gC
  replace hB := below_tr hB hb
  refine hK.out _ _ ⟨k0, k1, k2, k3, k4, k5, k6, k7, k8, k9, k10, k11, k12, k13, k14, k15, k16, k17, k18, k19⟩ (fun hHeld2 => ?_)
  clear hK
  try simp only [Act.put, List.setIfInBounds_toArray, List.set_cons_zero, List.set_cons_succ]
  refine take_at (i := 11) (v := ?_) 59 rfl rfl (by kernel_rfl) (by kernel_rfl) (by kernel_rfl) (fun _ _ _ h => h) (Or.inl ⟨by rfl, ?_⟩) (by assumption) ?_
  rotate_left
  · (intro w' hSw; (try dsimp only at hSw); go_simp; all_goals with_reducible rfl)
  try simp only [Act.put, List.setIfInBounds_toArray, List.set_cons_zero, List.set_cons_succ]
  refine take_at (i := 12) (v := ?_) 4 rfl rfl (by kernel_rfl) (by kernel_rfl) (by kernel_rfl) (fun _ _ _ h => h) (Or.inl ⟨by rfl, ?_⟩) (by assumption) ?_
  rotate_left
  · (intro w' hSw; (try dsimp only at hSw); go_simp; all_goals with_reducible rfl)
  try simp only [Act.put, List.setIfInBounds_toArray, List.set_cons_zero, List.set_cons_succ]
  refine wpAnyH_done (by kernel_rfl) ?_ _
  refine NoPanic.normal ?_
  go_wp2
  go_ret
  exact ⟨rfl, hB⟩

theorem walk (x A B C D : Nat) (w : World) (hx : x < 18446744073709551616) (hA : A < 18446744073709551616) (hB0 : B < 18446744073709551616) (hC : C < 18446744073709551616) (hD : D < 18446744073709551616) (hP : SPrts w) : Calls Tryd.prog 4 #[.int .u64 (x : Nat), .agg #[.int .u64 (A : Nat), .int .u64 (B : Nat), .int .u64 (C : Nat), .int .u64 (D : Nat)]] w fun e w' => e = .returned (.bool true) ∧ Below w.heap.size w w' := by
  by_cases hE : sE 65536 x = 0
  · cases hk : okS A B C D
    · exact walk_bad x A B C D w hx hA hB0 hC hD hP hE hk
    · exact walk_ok x A B C D w hx hA hB0 hC hD hP hE hk _ _ _ _ _ _ _ _ rfl rfl rfl rfl rfl rfl rfl rfl
  · exact walk_no x A B C D w hx hA hB0 hC hD hP rfl hE

theorem met {W : World} (h : laidMet Tryd.prog Rows.slotLoadsRow.laid W) : SPrts W := by
  have h0 := part_of_reads (g := 2) (by kernel_rfl) (by kernel_rfl) (Lib.laidMet.reads h (n := "portreeve/cap.kindPart") (d := Rows.laid_portreeve_cap_kindPart) (by simp [Rows.slotLoadsRow]))
  have h1 := part_of_reads (g := 3) (by kernel_rfl) (by kernel_rfl) (Lib.laidMet.reads h (n := "portreeve/cap.bitsPart") (d := Rows.laid_portreeve_cap_bitsPart) (by simp [Rows.slotLoadsRow]))
  have h2 := part_of_reads (g := 4) (by kernel_rfl) (by kernel_rfl) (Lib.laidMet.reads h (n := "portreeve/cap.rightsPart") (d := Rows.laid_portreeve_cap_rightsPart) (by simp [Rows.slotLoadsRow]))
  have h3 := part_of_reads (g := 5) (by kernel_rfl) (by kernel_rfl) (Lib.laidMet.reads h (n := "portreeve/cap.guardPart") (d := Rows.laid_portreeve_cap_guardPart) (by simp [Rows.slotLoadsRow]))
  have h4 := part_of_reads (g := 6) (by kernel_rfl) (by kernel_rfl) (Lib.laidMet.reads h (n := "portreeve/cap.asidPart") (d := Rows.laid_portreeve_cap_asidPart) (by simp [Rows.slotLoadsRow]))
  have h5 := part_of_reads (g := 7) (by kernel_rfl) (by kernel_rfl) (Lib.laidMet.reads h (n := "portreeve/cap.atPart") (d := Rows.laid_portreeve_cap_atPart) (by simp [Rows.slotLoadsRow]))
  have g0 := two_of_reads (g := 0) (by kernel_rfl) (by kernel_rfl) (Lib.laidMet.reads h (n := "portreeve/slot.nextPart") (d := Rows.laid_portreeve_slot_nextPart) (by simp [Rows.slotLoadsRow]))
  have g1 := two_of_reads (g := 1) (by kernel_rfl) (by kernel_rfl) (Lib.laidMet.reads h (n := "portreeve/slot.prevPart") (d := Rows.laid_portreeve_slot_prevPart) (by simp [Rows.slotLoadsRow]))
  exact ⟨⟨h0.1, h0.2.1, h0.2.2, h1.1, h1.2.1, h1.2.2, h2.1, h2.2.1, h2.2.2, h3.1, h3.2.1, h3.2.2, h4.1, h4.2.1, h4.2.2, h5.1, h5.2.1, h5.2.2⟩, g0.1, g0.2, g1.1, g1.2⟩

theorem own : ownKnob Tryd.prog.godebug = none := by kernel_rfl
theorem laidOut : laidOutB Tryd.prog = true := by kernel_rfl

set_option linter.unusedVariables false in
set_option maxRecDepth 100000 in
set_option maxHeartbeats 4000000 in
theorem contract (H : Type) (enc : TypeId × Value → H) (W : World) (base : Nat) (args : Array Value) (ds gs : List (DataW H)) (before : List MemPlace)
    (hval0 : ∀ (j : Nat) t v, Tryd.f4.params[j]? = some t → args[j]? = some v → Value.okWide Tryd.prog W .any base t v)
    (hW : DataW.Whole enc Tryd.prog Tryd.f4.params.toList Rows.slotLoadsSpec.vars false W args.toList ds gs before) (hL0 : laidMetH Tryd.prog Rows.slotLoadsRow.laid W) :
    Calls Tryd.prog 4 args W fun e W' => ∃ v, e = .returned v ∧ Rows.slotLoadsSpec.post enc Tryd.prog Tryd.f4 false true false false W args v W' := by
  have hL := hL0
  rw [MakeChecks.laidMetH_plain _ _ _ (by kernel_rfl)] at hL
  have hval := hval0
  have hW' := hW
  obtain ⟨p, q, hA0, hV, rfl, hfz, hnd⟩ := hW
  have hA : DataW.TrodAll enc Tryd.prog W 0 (fun _ => true) true Tryd.f4.params.toList args.toList ds p := hA0
  rw [Tryd.params4] at hA hval
  obtain ⟨v0, vs0, d0, ds0, p0, q0, hargs, rfl, rfl, h0, r0⟩ := trodAll_cons hA
  obtain ⟨v1, vs1, d1, ds1, p1, q1, rfl, rfl, rfl, h1, r1⟩ := trodAll_cons r0
  obtain ⟨rfl, rfl, rfl⟩ := trodAll_nil r1
  obtain rfl : args = #[v0, v1] := by cases args; simp_all
  obtain ⟨rfl, rfl⟩ := trodVars_none hV
  have k0 := h0
  have lt0 : ∀ x ∈ p0, x.block < W.heap.size := by obtain ⟨m, hm⟩ := k0; exact DataW.trod_lt m _ _ _ hm
  have k1 := h1
  have lt1 : ∀ x ∈ p1, x.block < W.heap.size := by obtain ⟨m, hm⟩ := k1; exact DataW.trod_lt m _ _ _ hm
  obtain ⟨a0, rfl, _, _, w0⟩ := open_int Tryd.underlying22 (hval 0 22 v0 rfl rfl) h0
  obtain ⟨x0, rfl⟩ := Int.eq_ofNat_of_zero_le (bounds_u64 w0).1
  have b0 : x0 < 18446744073709551616 := by have := (bounds_u64 w0).2; omega
  obtain ⟨xa1, xb1, xc1, xd1, rfl, ba1, bb1, bc1, bd1⟩ := open_arr4 (hval 1 27 v1 rfl rfl) h1
  clear hA0 hval0
  refine (walk x0 xa1 xb1 xc1 xd1 W b0 ba1 bb1 bc1 bd1 (met hL)).mono fun e W' ⟨he, bel⟩ => ?_
  subst he
  exact ⟨_, rfl, _, _, _, [], _, [], hW', trodAll_mk1 (shut_bool Tryd.underlying4 _), (trodAll_cons_mk (Below.trod laidOut (by kernel_rfl) (of_decide_eq_true (by kernel_rfl)) k0 bel lt0) (trodAll_cons_mk (Below.trod laidOut (by kernel_rfl) (of_decide_eq_true (by kernel_rfl)) k1 bel lt1) trodAll_mk0)), rfl, bel.frame _, fun h => by cases h⟩

theorem laid_met (os : Os) : laidMet Tryd.prog Rows.slotLoadsRow.laid ((World.laidAll Tryd.prog os Rows.slotLoadsRow.laid).forCall (fun _ _ => 0) ⟨#[], #[.int .u64 0, .agg #[.int .u64 0, .int .u64 0, .int .u64 0, .int .u64 0]], []⟩).memory :=
  laidMet_laidAll _ (by kernel_rfl) (by kernel_rfl)
theorem reads (os : Os) {H : Type} (enc : TypeId × Value → H) : ∃ places, DataW.whole enc Tryd.prog ((World.laidAll Tryd.prog os Rows.slotLoadsRow.laid).forCall (fun _ _ => 0) ⟨#[], #[.int .u64 0, .agg #[.int .u64 0, .int .u64 0, .int .u64 0, .int .u64 0]], []⟩).memory Tryd.f4.params.toList Rows.slotLoadsSpec.vars false (#[.int .u64 0, .agg #[.int .u64 0, .int .u64 0, .int .u64 0, .int .u64 0]] : Array Value).toList 8 = some ([.lit (.int .u64 0), .agg [.lit (.int .u64 0), .lit (.int .u64 0), .lit (.int .u64 0), .lit (.int .u64 0)]], [], places) :=
  ⟨[], by kernel_rfl⟩

set_option maxRecDepth 100000 in
theorem lifted (os : Os) (started : os.Started) (H : Type) (enc : TypeId × Value → H) (F : Stop.Interp) :
    ReturnsInHanded {} Tryd.checked os 4 .any ((OpenSpec.ofChange Rows.slotLoadsSpec).preRow enc Tryd.prog Tryd.f4 Rows.slotLoadsRow.domain false Rows.slotLoadsRow.laid) (((OpenSpec.ofChange Rows.slotLoadsSpec).at F).post enc Tryd.prog Tryd.f4 false true false false) := by
  obtain ⟨places, hx⟩ := reads os enc
  refine returnsInHanded_of_row (C := Tryd.checked) (s := (OpenSpec.ofChange Rows.slotLoadsSpec)) own started (by kernel_rfl) Tryd.func4
    (witness_row_at (enc := enc) (C := Tryd.checked) false (World.laidAll Tryd.prog os Rows.slotLoadsRow.laid) #[.int .u64 0, .agg #[.int .u64 0, .int .u64 0, .int .u64 0, .int .u64 0]] (World.laidAll_os _ _ _) (by kernel_rfl) (by kernel_rfl) (by kernel_rfl)
      (OpenSpec.preRow_of_cond 8 hx (by kernel_rfl) (fun k hk => by cases hk) (by kernel_rfl) (laid_met os))) ?_
  intro W base args ds gs before hval hW _ _ _ hL _ _
  exact contract H enc W base args ds gs before hval hW hL

theorem said : Rows.SlotLoadsSaid :=
  OpenClaim.holds_of_cond 4 Tryd.f4 rfl rfl rfl rfl rfl rfl rfl ⟨rfl, rfl, rfl, rfl, rfl⟩ rfl rfl rfl rfl rfl (by kernel_rfl) Tryd.func4 (by kernel_rfl)
    (of_decide_eq_true (by kernel_rfl)) (by unfold Func.isWrapper; first | (rw [if_pos (by decide +kernel)]; kernel_rfl) | (rw [if_neg (by decide +kernel)]; exact ⟨rfl, rfl⟩))
    (fun os started H enc _ F => by rw [OpenClaim.pre_eq_preRow]; exact lifted os started H enc F)

theorem plain (f : FuncId) (fn : Func) (hf : Tryd.pinned.checked.prog.funcNamed "portreeve/portreevelaw12.SlotLoads" = some f) (hfn : Tryd.pinned.checked.prog.funcs[f]? = some fn) :
    false = Tryd.pinned.checked.prog.looks [] ∧ ∀ (j : Nat) t, fn.params[j]? = some t → Tryd.pinned.checked.prog.wantsStandIn t = false := by
  obtain rfl : f = 4 := Option.some.inj ((show Tryd.prog.funcNamed "portreeve/portreevelaw12.SlotLoads" = some 4 by kernel_rfl).symm.trans hf) |>.symm
  obtain rfl : fn = Tryd.f4 := (Option.some.inj (Tryd.func4.symm.trans hfn)).symm
  refine ⟨by kernel_rfl, fun j t ht => ?_⟩
  rw [Tryd.params4] at ht
  have hm : t ∈ [22, 27] := by simpa using Array.mem_of_getElem? ht
  have hall : ([22, 27].all fun u => !Tryd.prog.wantsStandIn u) = true := by kernel_rfl
  exact (show Tryd.prog.wantsStandIn t = false by simpa using List.all_eq_true.1 hall t hm)

theorem card : Rows.SlotLoadsCardSaid :=
  Claim7.holds_tied_plain_at .later [] _ _ _ _ said (fun _ h => by cases h) (by kernel_rfl) (fun _ h => by cases h) slotLoads_row_tie rfl ⟨rfl, rfl⟩ (by kernel_rfl) rfl plain (by kernel_rfl)

end Go.Proofs.YtieldgocgjoojaaDoor.slotLoads
