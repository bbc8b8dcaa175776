/- SlotStores (P12.1): for any address, any slot and any four words there the law returns true: the slot is laid just if the document says that it may be; then its four words lie there, and it is loaded as it was; else nothing is changed. No condition beyond the row's own. -/
import Derived.Test.YtieldgocgjoojaaDoorSlotF
import Derived.Test.YtieldgocgjoojaaDoorSlotFrame
set_option linter.unusedVariables false
namespace Go.Proofs.YtieldgocgjoojaaDoor.slotStores
open Go.ChangeShapes Go.WideShapes Go.ChangeAt Go.RowKit Go.Lib

theorem gr_above {Y : Nat → Prop} {w W : World} {n : Nat} (h : ∀ i, Y i → n < i) (hn : n < w.heap.size) : ∀ i, Gr Y w W i → n < i := fun i q => by
  rcases q with q | q
  · exact h i q
  · omega

set_option maxRecDepth 100000 in
set_option maxHeartbeats 4000000 in
theorem walk_no (x : Nat) (k : Int) (a : Nat) (b r g s : Int) (m nx pv : Nat) (d : Int) (A B C D : Nat) (w : World) (hx : x < 18446744073709551616) (hA : A < 18446744073709551616) (hB0 : B < 18446744073709551616) (hC : C < 18446744073709551616) (hD : D < 18446744073709551616) (ha : a < 18446744073709551616) (hm : m < 18446744073709551616) (hnx : nx < 18446744073709551616) (hpv : pv < 18446744073709551616) (hP : SPrts w) {E : Int} (hE : sE 65536 x = E) (hE0 : ¬ E = 0) : Calls Tryd.prog 3 #[.int .u64 (x : Nat), .agg #[.int .i64 k, .int .u64 (a : Nat), .int .i64 b, .int .i64 r, .int .i64 g, .int .i64 s, .int .u64 (m : Nat), .int .u64 (nx : Nat), .int .u64 (pv : Nat), .int .i64 d], .agg #[.int .u64 (A : Nat), .int .u64 (B : Nat), .int .u64 (C : Nat), .int .u64 (D : Nat)]] w fun e w' => e = .returned (.bool true) ∧ Below w.heap.size w w' := by
  have cO := fun W => opened_c x A B C D hx hA hB0 hC hD W
  have cA := fun W hW => anchorS_any W hW
  have cM := fun W => may_any x hx W
  generalize (opF x ((x + 8) % 18446744073709551616) ((x + 16) % 18446744073709551616) ((x + 24) % 18446744073709551616) A B C D) = F at *
  have cI : ∀ (W : World) (Y : Nat → Prop) ad, MemAt W Y ad 65536 4 F → SPrts W → Calls Tryd.prog 9 #[.pointer (some ⟨ad, 0, none⟩), .int .u64 x, .agg #[.int .i64 k, .int .u64 (a : Nat), .int .i64 b, .int .i64 r, .int .i64 g, .int .i64 s, .int .u64 (m : Nat), .int .u64 (nx : Nat), .int .u64 (pv : Nat), .int .i64 d]] W fun e w' => e = .returned (.int .i64 E) ∧ Below W.heap.size W w' := fun W Y ad h _ => store_no h x k a b r g s m nx pv d hx hE hE0
  rw [hE] at cM
  have dE : ((E : Int) != 0) = true := by rw [bne_iff_ne]; exact hE0
  clear hx hA hB0 hC hD hE hE0 ha hm hnx hpv
  go_enter Tryd.func3, Tryd.ntmps3
  go_wp2_with fail
  have gC := heap2_0 w (.cells #[.int .i64 k, .int .u64 (a : Nat), .int .i64 b, .int .i64 r, .int .i64 g, .int .i64 s, .int .u64 (m : Nat), .int .u64 (nx : Nat), .int .u64 (pv : Nat), .int .i64 d] 26) (.cells #[.int .u64 (A : Nat), .int .u64 (B : Nat), .int .u64 (C : Nat), .int .u64 (D : Nat)] 27)
  have gR := heap_alloc_new (w.alloc (.cells #[.int .i64 k, .int .u64 (a : Nat), .int .i64 b, .int .i64 r, .int .i64 g, .int .i64 s, .int .u64 (m : Nat), .int .u64 (nx : Nat), .int .u64 (pv : Nat), .int .i64 d] 26)) (.cells #[.int .u64 (A : Nat), .int .u64 (B : Nat), .int .u64 (C : Nat), .int .u64 (D : Nat)] 27)
  have hB := below2 w (.cells #[.int .i64 k, .int .u64 (a : Nat), .int .i64 b, .int .i64 r, .int .i64 g, .int .i64 s, .int .u64 (m : Nat), .int .u64 (nx : Nat), .int .u64 (pv : Nat), .int .i64 d] 26) (.cells #[.int .u64 (A : Nat), .int .u64 (B : Nat), .int .u64 (C : Nat), .int .u64 (D : Nat)] 27)
  rw [World.size_alloc] at gR
  generalize (w.alloc (.cells #[.int .i64 k, .int .u64 (a : Nat), .int .i64 b, .int .i64 r, .int .i64 g, .int .i64 s, .int .u64 (m : Nat), .int .u64 (nx : Nat), .int .u64 (pv : Nat), .int .i64 d] 26)).alloc (.cells #[.int .u64 (A : Nat), .int .u64 (B : Nat), .int .u64 (C : Nat), .int .u64 (D : Nat)] 27) = W0 at *
  have hRB := Nat.le_succ w.heap.size
  obtain ⟨c0, c1, c2, c3, c4, c5, c6, c7, c8, c9⟩ := cells10 gC
  have cp0 := fun o => cell_alloc (o := o) c0
  have cp1 := fun o => cell_alloc (o := o) c1
  have cp2 := fun o => cell_alloc (o := o) c2
  have cp3 := fun o => cell_alloc (o := o) c3
  have cp4 := fun o => cell_alloc (o := o) c4
  have cp5 := fun o => cell_alloc (o := o) c5
  have cp6 := fun o => cell_alloc (o := o) c6
  have cp7 := fun o => cell_alloc (o := o) c7
  have cp8 := fun o => cell_alloc (o := o) c8
  have cp9 := fun o => cell_alloc (o := o) c9
  clear c0 cp0 c1 cp1 c2 cp2 c3 cp3 c4 cp4 c5 cp5 c6 cp6 c7 cp7 c8 cp8 c9 cp9
  obtain ⟨c0, c1, c2, c3, c4, c5, c6, c7, c8, c9⟩ := cells10 gC
  have cp0 := fun o => cell_alloc (o := o) c0
  have cp1 := fun o => cell_alloc (o := o) c1
  have cp2 := fun o => cell_alloc (o := o) c2
  have cp3 := fun o => cell_alloc (o := o) c3
  have cp4 := fun o => cell_alloc (o := o) c4
  have cp5 := fun o => cell_alloc (o := o) c5
  have cp6 := fun o => cell_alloc (o := o) c6
  have cp7 := fun o => cell_alloc (o := o) c7
  have cp8 := fun o => cell_alloc (o := o) c8
  have cp9 := fun o => cell_alloc (o := o) c9
  obtain ⟨r0, r1, r2, r3⟩ := cells4 gR
  have rp0 := fun o => cell_alloc (o := o) r0
  have rp1 := fun o => cell_alloc (o := o) r1
  have rp2 := fun o => cell_alloc (o := o) r2
  have rp3 := fun o => cell_alloc (o := o) r3
  refine (cA _ (hP.later hB)).mono ?_
  clear c0 cp0 c1 cp1 c2 cp2 c3 cp3 c4 cp4 c5 cp5 c6 cp6 c7 cp7 c8 cp8 c9 cp9 r0 rp0 r1 rp1 r2 rp2 r3 rp3
  rintro e w1 ⟨rfl, hb⟩
  replace gC := block_later hb gC
  replace gR := block_later hb gR
  replace hB := below_tr hB hb
  clear hb
  obtain ⟨c0, c1, c2, c3, c4, c5, c6, c7, c8, c9⟩ := cells10 gC
  have cp0 := fun o => cell_alloc (o := o) c0
  have cp1 := fun o => cell_alloc (o := o) c1
  have cp2 := fun o => cell_alloc (o := o) c2
  have cp3 := fun o => cell_alloc (o := o) c3
  have cp4 := fun o => cell_alloc (o := o) c4
  have cp5 := fun o => cell_alloc (o := o) c5
  have cp6 := fun o => cell_alloc (o := o) c6
  have cp7 := fun o => cell_alloc (o := o) c7
  have cp8 := fun o => cell_alloc (o := o) c8
  have cp9 := fun o => cell_alloc (o := o) c9
  obtain ⟨r0, r1, r2, r3⟩ := cells4 gR
  have rp0 := fun o => cell_alloc (o := o) r0
  have rp1 := fun o => cell_alloc (o := o) r1
  have rp2 := fun o => cell_alloc (o := o) r2
  have rp3 := fun o => cell_alloc (o := o) r3
  go_wp2_with fail
  refine (cO _).mono ?_
  clear c0 cp0 c1 cp1 c2 cp2 c3 cp3 c4 cp4 c5 cp5 c6 cp6 c7 cp7 c8 cp8 c9 cp9 r0 rp0 r1 rp1 r2 rp2 r3 rp3
  rintro e w2 ⟨ad, rfl, hM0⟩
  obtain ⟨Y, hM, hY⟩ := Wn.mem hM0
  have hb := Wn.bel hM0
  have HM := Hid.mk hM
  have hY0 : ∀ i, Y i → w.heap.size < i := fun i q => Nat.lt_of_lt_of_le (block_lt gC) (hY i q).1
  replace gC := block_later hb gC
  replace gR := block_later hb gR
  replace hB := below_tr hB hb
  clear hb hM hM0
  obtain ⟨c0, c1, c2, c3, c4, c5, c6, c7, c8, c9⟩ := cells10 gC
  have cp0 := fun o => cell_alloc (o := o) c0
  have cp1 := fun o => cell_alloc (o := o) c1
  have cp2 := fun o => cell_alloc (o := o) c2
  have cp3 := fun o => cell_alloc (o := o) c3
  have cp4 := fun o => cell_alloc (o := o) c4
  have cp5 := fun o => cell_alloc (o := o) c5
  have cp6 := fun o => cell_alloc (o := o) c6
  have cp7 := fun o => cell_alloc (o := o) c7
  have cp8 := fun o => cell_alloc (o := o) c8
  have cp9 := fun o => cell_alloc (o := o) c9
  obtain ⟨r0, r1, r2, r3⟩ := cells4 gR
  have rp0 := fun o => cell_alloc (o := o) r0
  have rp1 := fun o => cell_alloc (o := o) r1
  have rp2 := fun o => cell_alloc (o := o) r2
  have rp3 := fun o => cell_alloc (o := o) r3
  clear c0 cp0 c1 cp1 c2 cp2 c3 cp3 c4 cp4 c5 cp5 c6 cp6 c7 cp7 c8 cp8 c9 cp9 r0 rp0 r1 rp1 r2 rp2 r3 rp3
  clear gR
  obtain ⟨c0, c1, c2, c3, c4, c5, c6, c7, c8, c9⟩ := cells10 gC
  have cp0 := fun o => cell_alloc (o := o) c0
  have cp1 := fun o => cell_alloc (o := o) c1
  have cp2 := fun o => cell_alloc (o := o) c2
  have cp3 := fun o => cell_alloc (o := o) c3
  have cp4 := fun o => cell_alloc (o := o) c4
  have cp5 := fun o => cell_alloc (o := o) c5
  have cp6 := fun o => cell_alloc (o := o) c6
  have cp7 := fun o => cell_alloc (o := o) c7
  have cp8 := fun o => cell_alloc (o := o) c8
  have cp9 := fun o => cell_alloc (o := o) c9
  go_wp2_with fail
  refine (copy_c HM.out (by decide)).mono ?_
  clear c0 cp0 c1 cp1 c2 cp2 c3 cp3 c4 cp4 c5 cp5 c6 cp6 c7 cp7 c8 cp8 c9 cp9
  rintro e w3 ⟨cc, rfl, hK, hb⟩
  have HK := Hid.mk hK
  clear hK
  replace gC := block_later hb gC
  replace hB := below_tr hB hb
  replace HM := Hid.mk (HM.out.below hb)
  clear hb
  obtain ⟨c0, c1, c2, c3, c4, c5, c6, c7, c8, c9⟩ := cells10 gC
  have cp0 := fun o => cell_alloc (o := o) c0
  have cp1 := fun o => cell_alloc (o := o) c1
  have cp2 := fun o => cell_alloc (o := o) c2
  have cp3 := fun o => cell_alloc (o := o) c3
  have cp4 := fun o => cell_alloc (o := o) c4
  have cp5 := fun o => cell_alloc (o := o) c5
  have cp6 := fun o => cell_alloc (o := o) c6
  have cp7 := fun o => cell_alloc (o := o) c7
  have cp8 := fun o => cell_alloc (o := o) c8
  have cp9 := fun o => cell_alloc (o := o) c9
  go_wp2_with fail
  refine (cI _ _ _ HM.out (hP.later hB)).mono ?_
  clear c0 cp0 c1 cp1 c2 cp2 c3 cp3 c4 cp4 c5 cp5 c6 cp6 c7 cp7 c8 cp8 c9 cp9
  rintro e w4 ⟨rfl, hb⟩
  replace gC := block_later hb gC
  replace hB := below_tr hB hb
  replace HM := Hid.mk (HM.out.below hb)
  replace HK := Hid.mk (HK.out.below hb)
  clear hb
  obtain ⟨c0, c1, c2, c3, c4, c5, c6, c7, c8, c9⟩ := cells10 gC
  have cp0 := fun o => cell_alloc (o := o) c0
  have cp1 := fun o => cell_alloc (o := o) c1
  have cp2 := fun o => cell_alloc (o := o) c2
  have cp3 := fun o => cell_alloc (o := o) c3
  have cp4 := fun o => cell_alloc (o := o) c4
  have cp5 := fun o => cell_alloc (o := o) c5
  have cp6 := fun o => cell_alloc (o := o) c6
  have cp7 := fun o => cell_alloc (o := o) c7
  have cp8 := fun o => cell_alloc (o := o) c8
  have cp9 := fun o => cell_alloc (o := o) c9
  go_wp2_with fail
  refine (cM _).mono ?_
  rintro e w5 ⟨rfl, rfl⟩
  go_wp2_with fail
  refine (same_c HM.out HK.out).mono ?_
  clear c0 cp0 c1 cp1 c2 cp2 c3 cp3 c4 cp4 c5 cp5 c6 cp6 c7 cp7 c8 cp8 c9 cp9
  rintro e w6 ⟨⟨q, rfl, hq⟩, hb⟩
  obtain rfl : q = true := hq.2 ⟨rfl, rfl⟩
  replace gC := block_later hb gC
  replace hB := below_tr hB hb
  clear hb hq
  obtain ⟨c0, c1, c2, c3, c4, c5, c6, c7, c8, c9⟩ := cells10 gC
  have cp0 := fun o => cell_alloc (o := o) c0
  have cp1 := fun o => cell_alloc (o := o) c1
  have cp2 := fun o => cell_alloc (o := o) c2
  have cp3 := fun o => cell_alloc (o := o) c3
  have cp4 := fun o => cell_alloc (o := o) c4
  have cp5 := fun o => cell_alloc (o := o) c5
  have cp6 := fun o => cell_alloc (o := o) c6
  have cp7 := fun o => cell_alloc (o := o) c7
  have cp8 := fun o => cell_alloc (o := o) c8
  have cp9 := fun o => cell_alloc (o := o) c9
  go_wp2
  go_ret
  first
    | exact ⟨rfl, hB⟩
    | exact ⟨rfl, hB.alloc hB.size _⟩

set_option maxRecDepth 100000 in
set_option maxHeartbeats 4000000 in
theorem walk_bad (x : Nat) (k : Int) (a : Nat) (b r g s : Int) (m nx pv : Nat) (d : Int) (A B C D : Nat) (w : World) (hx : x < 18446744073709551616) (hA : A < 18446744073709551616) (hB0 : B < 18446744073709551616) (hC : C < 18446744073709551616) (hD : D < 18446744073709551616) (ha : a < 18446744073709551616) (hm : m < 18446744073709551616) (hnx : nx < 18446744073709551616) (hpv : pv < 18446744073709551616) (hP : SPrts w) (hE : sE 65536 x = 0) (hs : sB k a b r g s m nx pv d = false) : Calls Tryd.prog 3 #[.int .u64 (x : Nat), .agg #[.int .i64 k, .int .u64 (a : Nat), .int .i64 b, .int .i64 r, .int .i64 g, .int .i64 s, .int .u64 (m : Nat), .int .u64 (nx : Nat), .int .u64 (pv : Nat), .int .i64 d], .agg #[.int .u64 (A : Nat), .int .u64 (B : Nat), .int .u64 (C : Nat), .int .u64 (D : Nat)]] w fun e w' => e = .returned (.bool true) ∧ Below w.heap.size w w' := by
  have cO := fun W => opened_c x A B C D hx hA hB0 hC hD W
  have cA := fun W hW => anchorS_any W hW
  have cM := fun W => may_any x hx W
  generalize (opF x ((x + 8) % 18446744073709551616) ((x + 16) % 18446744073709551616) ((x + 24) % 18446744073709551616) A B C D) = F at *
  have cI : ∀ (W : World) (Y : Nat → Prop) ad, MemAt W Y ad 65536 4 F → SPrts W → Calls Tryd.prog 9 #[.pointer (some ⟨ad, 0, none⟩), .int .u64 x, .agg #[.int .i64 k, .int .u64 (a : Nat), .int .i64 b, .int .i64 r, .int .i64 g, .int .i64 s, .int .u64 (m : Nat), .int .u64 (nx : Nat), .int .u64 (pv : Nat), .int .i64 d]] W fun e w' => e = .returned (.int .i64 10) ∧ Below W.heap.size W w' := fun W Y ad h _ => store_bad h x k a b r g s m nx pv d hx ha hm hnx hpv hE hs
  have cV := fun W => listed_any k a b r g s m nx pv d W
  have cR := fun W => sright_any k a b r g s m nx pv d ha hm hnx hpv W
  have cD := fun W => dsright_any k a b r g s m nx pv d ha hm W
  rw [hE] at cM
  rw [hs] at cR cD
  clear hx hA hB0 hC hD hE hs ha hm hnx hpv
  go_enter Tryd.func3, Tryd.ntmps3
  go_wp2_with fail
  have gC := heap2_0 w (.cells #[.int .i64 k, .int .u64 (a : Nat), .int .i64 b, .int .i64 r, .int .i64 g, .int .i64 s, .int .u64 (m : Nat), .int .u64 (nx : Nat), .int .u64 (pv : Nat), .int .i64 d] 26) (.cells #[.int .u64 (A : Nat), .int .u64 (B : Nat), .int .u64 (C : Nat), .int .u64 (D : Nat)] 27)
  have gR := heap_alloc_new (w.alloc (.cells #[.int .i64 k, .int .u64 (a : Nat), .int .i64 b, .int .i64 r, .int .i64 g, .int .i64 s, .int .u64 (m : Nat), .int .u64 (nx : Nat), .int .u64 (pv : Nat), .int .i64 d] 26)) (.cells #[.int .u64 (A : Nat), .int .u64 (B : Nat), .int .u64 (C : Nat), .int .u64 (D : Nat)] 27)
  have hB := below2 w (.cells #[.int .i64 k, .int .u64 (a : Nat), .int .i64 b, .int .i64 r, .int .i64 g, .int .i64 s, .int .u64 (m : Nat), .int .u64 (nx : Nat), .int .u64 (pv : Nat), .int .i64 d] 26) (.cells #[.int .u64 (A : Nat), .int .u64 (B : Nat), .int .u64 (C : Nat), .int .u64 (D : Nat)] 27)
  rw [World.size_alloc] at gR
  generalize (w.alloc (.cells #[.int .i64 k, .int .u64 (a : Nat), .int .i64 b, .int .i64 r, .int .i64 g, .int .i64 s, .int .u64 (m : Nat), .int .u64 (nx : Nat), .int .u64 (pv : Nat), .int .i64 d] 26)).alloc (.cells #[.int .u64 (A : Nat), .int .u64 (B : Nat), .int .u64 (C : Nat), .int .u64 (D : Nat)] 27) = W0 at *
  have hRB := Nat.le_succ w.heap.size
  obtain ⟨c0, c1, c2, c3, c4, c5, c6, c7, c8, c9⟩ := cells10 gC
  have cp0 := fun o => cell_alloc (o := o) c0
  have cp1 := fun o => cell_alloc (o := o) c1
  have cp2 := fun o => cell_alloc (o := o) c2
  have cp3 := fun o => cell_alloc (o := o) c3
  have cp4 := fun o => cell_alloc (o := o) c4
  have cp5 := fun o => cell_alloc (o := o) c5
  have cp6 := fun o => cell_alloc (o := o) c6
  have cp7 := fun o => cell_alloc (o := o) c7
  have cp8 := fun o => cell_alloc (o := o) c8
  have cp9 := fun o => cell_alloc (o := o) c9
  clear c0 cp0 c1 cp1 c2 cp2 c3 cp3 c4 cp4 c5 cp5 c6 cp6 c7 cp7 c8 cp8 c9 cp9
  obtain ⟨c0, c1, c2, c3, c4, c5, c6, c7, c8, c9⟩ := cells10 gC
  have cp0 := fun o => cell_alloc (o := o) c0
  have cp1 := fun o => cell_alloc (o := o) c1
  have cp2 := fun o => cell_alloc (o := o) c2
  have cp3 := fun o => cell_alloc (o := o) c3
  have cp4 := fun o => cell_alloc (o := o) c4
  have cp5 := fun o => cell_alloc (o := o) c5
  have cp6 := fun o => cell_alloc (o := o) c6
  have cp7 := fun o => cell_alloc (o := o) c7
  have cp8 := fun o => cell_alloc (o := o) c8
  have cp9 := fun o => cell_alloc (o := o) c9
  obtain ⟨r0, r1, r2, r3⟩ := cells4 gR
  have rp0 := fun o => cell_alloc (o := o) r0
  have rp1 := fun o => cell_alloc (o := o) r1
  have rp2 := fun o => cell_alloc (o := o) r2
  have rp3 := fun o => cell_alloc (o := o) r3
  refine (cA _ (hP.later hB)).mono ?_
  clear c0 cp0 c1 cp1 c2 cp2 c3 cp3 c4 cp4 c5 cp5 c6 cp6 c7 cp7 c8 cp8 c9 cp9 r0 rp0 r1 rp1 r2 rp2 r3 rp3
  rintro e w1 ⟨rfl, hb⟩
  replace gC := block_later hb gC
  replace gR := block_later hb gR
  replace hB := below_tr hB hb
  clear hb
  obtain ⟨c0, c1, c2, c3, c4, c5, c6, c7, c8, c9⟩ := cells10 gC
  have cp0 := fun o => cell_alloc (o := o) c0
  have cp1 := fun o => cell_alloc (o := o) c1
  have cp2 := fun o => cell_alloc (o := o) c2
  have cp3 := fun o => cell_alloc (o := o) c3
  have cp4 := fun o => cell_alloc (o := o) c4
  have cp5 := fun o => cell_alloc (o := o) c5
  have cp6 := fun o => cell_alloc (o := o) c6
  have cp7 := fun o => cell_alloc (o := o) c7
  have cp8 := fun o => cell_alloc (o := o) c8
  have cp9 := fun o => cell_alloc (o := o) c9
  obtain ⟨r0, r1, r2, r3⟩ := cells4 gR
  have rp0 := fun o => cell_alloc (o := o) r0
  have rp1 := fun o => cell_alloc (o := o) r1
  have rp2 := fun o => cell_alloc (o := o) r2
  have rp3 := fun o => cell_alloc (o := o) r3
  go_wp2_with fail
  refine (cO _).mono ?_
  clear c0 cp0 c1 cp1 c2 cp2 c3 cp3 c4 cp4 c5 cp5 c6 cp6 c7 cp7 c8 cp8 c9 cp9 r0 rp0 r1 rp1 r2 rp2 r3 rp3
  rintro e w2 ⟨ad, rfl, hM0⟩
  obtain ⟨Y, hM, hY⟩ := Wn.mem hM0
  have hb := Wn.bel hM0
  have HM := Hid.mk hM
  have hY0 : ∀ i, Y i → w.heap.size < i := fun i q => Nat.lt_of_lt_of_le (block_lt gC) (hY i q).1
  replace gC := block_later hb gC
  replace gR := block_later hb gR
  replace hB := below_tr hB hb
  clear hb hM hM0
  obtain ⟨c0, c1, c2, c3, c4, c5, c6, c7, c8, c9⟩ := cells10 gC
  have cp0 := fun o => cell_alloc (o := o) c0
  have cp1 := fun o => cell_alloc (o := o) c1
  have cp2 := fun o => cell_alloc (o := o) c2
  have cp3 := fun o => cell_alloc (o := o) c3
  have cp4 := fun o => cell_alloc (o := o) c4
  have cp5 := fun o => cell_alloc (o := o) c5
  have cp6 := fun o => cell_alloc (o := o) c6
  have cp7 := fun o => cell_alloc (o := o) c7
  have cp8 := fun o => cell_alloc (o := o) c8
  have cp9 := fun o => cell_alloc (o := o) c9
  obtain ⟨r0, r1, r2, r3⟩ := cells4 gR
  have rp0 := fun o => cell_alloc (o := o) r0
  have rp1 := fun o => cell_alloc (o := o) r1
  have rp2 := fun o => cell_alloc (o := o) r2
  have rp3 := fun o => cell_alloc (o := o) r3
  clear c0 cp0 c1 cp1 c2 cp2 c3 cp3 c4 cp4 c5 cp5 c6 cp6 c7 cp7 c8 cp8 c9 cp9 r0 rp0 r1 rp1 r2 rp2 r3 rp3
  clear gR
  obtain ⟨c0, c1, c2, c3, c4, c5, c6, c7, c8, c9⟩ := cells10 gC
  have cp0 := fun o => cell_alloc (o := o) c0
  have cp1 := fun o => cell_alloc (o := o) c1
  have cp2 := fun o => cell_alloc (o := o) c2
  have cp3 := fun o => cell_alloc (o := o) c3
  have cp4 := fun o => cell_alloc (o := o) c4
  have cp5 := fun o => cell_alloc (o := o) c5
  have cp6 := fun o => cell_alloc (o := o) c6
  have cp7 := fun o => cell_alloc (o := o) c7
  have cp8 := fun o => cell_alloc (o := o) c8
  have cp9 := fun o => cell_alloc (o := o) c9
  go_wp2_with fail
  refine (copy_c HM.out (by decide)).mono ?_
  clear c0 cp0 c1 cp1 c2 cp2 c3 cp3 c4 cp4 c5 cp5 c6 cp6 c7 cp7 c8 cp8 c9 cp9
  rintro e w3 ⟨cc, rfl, hK, hb⟩
  have HK := Hid.mk hK
  clear hK
  replace gC := block_later hb gC
  replace hB := below_tr hB hb
  replace HM := Hid.mk (HM.out.below hb)
  clear hb
  obtain ⟨c0, c1, c2, c3, c4, c5, c6, c7, c8, c9⟩ := cells10 gC
  have cp0 := fun o => cell_alloc (o := o) c0
  have cp1 := fun o => cell_alloc (o := o) c1
  have cp2 := fun o => cell_alloc (o := o) c2
  have cp3 := fun o => cell_alloc (o := o) c3
  have cp4 := fun o => cell_alloc (o := o) c4
  have cp5 := fun o => cell_alloc (o := o) c5
  have cp6 := fun o => cell_alloc (o := o) c6
  have cp7 := fun o => cell_alloc (o := o) c7
  have cp8 := fun o => cell_alloc (o := o) c8
  have cp9 := fun o => cell_alloc (o := o) c9
  go_wp2_with fail
  refine (cI _ _ _ HM.out (hP.later hB)).mono ?_
  clear c0 cp0 c1 cp1 c2 cp2 c3 cp3 c4 cp4 c5 cp5 c6 cp6 c7 cp7 c8 cp8 c9 cp9
  rintro e w4 ⟨rfl, hb⟩
  replace gC := block_later hb gC
  replace hB := below_tr hB hb
  replace HM := Hid.mk (HM.out.below hb)
  replace HK := Hid.mk (HK.out.below hb)
  clear hb
  obtain ⟨c0, c1, c2, c3, c4, c5, c6, c7, c8, c9⟩ := cells10 gC
  have cp0 := fun o => cell_alloc (o := o) c0
  have cp1 := fun o => cell_alloc (o := o) c1
  have cp2 := fun o => cell_alloc (o := o) c2
  have cp3 := fun o => cell_alloc (o := o) c3
  have cp4 := fun o => cell_alloc (o := o) c4
  have cp5 := fun o => cell_alloc (o := o) c5
  have cp6 := fun o => cell_alloc (o := o) c6
  have cp7 := fun o => cell_alloc (o := o) c7
  have cp8 := fun o => cell_alloc (o := o) c8
  have cp9 := fun o => cell_alloc (o := o) c9
  go_wp2_with fail
  refine (cM _).mono ?_
  rintro e w5 ⟨rfl, rfl⟩
  go_wp2_with fail
  refine (cV _).mono ?_
  clear c0 cp0 c1 cp1 c2 cp2 c3 cp3 c4 cp4 c5 cp5 c6 cp6 c7 cp7 c8 cp8 c9 cp9
  rintro e w6 ⟨rfl, hb⟩
  replace gC := block_later hb gC
  replace hB := below_tr hB hb
  replace HM := Hid.mk (HM.out.below hb)
  replace HK := Hid.mk (HK.out.below hb)
  clear hb
  obtain ⟨c0, c1, c2, c3, c4, c5, c6, c7, c8, c9⟩ := cells10 gC
  have cp0 := fun o => cell_alloc (o := o) c0
  have cp1 := fun o => cell_alloc (o := o) c1
  have cp2 := fun o => cell_alloc (o := o) c2
  have cp3 := fun o => cell_alloc (o := o) c3
  have cp4 := fun o => cell_alloc (o := o) c4
  have cp5 := fun o => cell_alloc (o := o) c5
  have cp6 := fun o => cell_alloc (o := o) c6
  have cp7 := fun o => cell_alloc (o := o) c7
  have cp8 := fun o => cell_alloc (o := o) c8
  have cp9 := fun o => cell_alloc (o := o) c9
  go_upto_region 12 with fail
  clear c0 cp0 c1 cp1 c2 cp2 c3 cp3 c4 cp4 c5 cp5 c6 cp6 c7 cp7 c8 cp8 c9 cp9
  have gX := heap_alloc_new w6 (.cells #[.int .i64 k, .int .u64 (a : Nat), .int .i64 b, .int .i64 r, .int .i64 g, .int .i64 s, .int .u64 (m : Nat), .int .u64 (nx : Nat), .int .u64 (pv : Nat), .int .i64 d] 38)
  replace gC := block_later (below_new _ (.cells #[.int .i64 k, .int .u64 (a : Nat), .int .i64 b, .int .i64 r, .int .i64 g, .int .i64 s, .int .u64 (m : Nat), .int .u64 (nx : Nat), .int .u64 (pv : Nat), .int .i64 d] 38)) gC
  replace hB := below_tr hB (below_new _ (.cells #[.int .i64 k, .int .u64 (a : Nat), .int .i64 b, .int .i64 r, .int .i64 g, .int .i64 s, .int .u64 (m : Nat), .int .u64 (nx : Nat), .int .u64 (pv : Nat), .int .i64 d] 38))
  replace HM := Hid.mk (HM.out.below (below_new _ (.cells #[.int .i64 k, .int .u64 (a : Nat), .int .i64 b, .int .i64 r, .int .i64 g, .int .i64 s, .int .u64 (m : Nat), .int .u64 (nx : Nat), .int .u64 (pv : Nat), .int .i64 d] 38)))
  replace HK := Hid.mk (HK.out.below (below_new _ (.cells #[.int .i64 k, .int .u64 (a : Nat), .int .i64 b, .int .i64 r, .int .i64 g, .int .i64 s, .int .u64 (m : Nat), .int .u64 (nx : Nat), .int .u64 (pv : Nat), .int .i64 d] 38)))
  generalize w6.heap.size = X at *
  generalize w6.alloc (.cells #[.int .i64 k, .int .u64 (a : Nat), .int .i64 b, .int .i64 r, .int .i64 g, .int .i64 s, .int .u64 (m : Nat), .int .u64 (nx : Nat), .int .u64 (pv : Nat), .int .i64 d] 38) = w6a at *
  obtain ⟨c0, c1, c2, c3, c4, c5, c6, c7, c8, c9⟩ := cells10 gC
  have cp0 := fun o => cell_alloc (o := o) c0
  have cp1 := fun o => cell_alloc (o := o) c1
  have cp2 := fun o => cell_alloc (o := o) c2
  have cp3 := fun o => cell_alloc (o := o) c3
  have cp4 := fun o => cell_alloc (o := o) c4
  have cp5 := fun o => cell_alloc (o := o) c5
  have cp6 := fun o => cell_alloc (o := o) c6
  have cp7 := fun o => cell_alloc (o := o) c7
  have cp8 := fun o => cell_alloc (o := o) c8
  have cp9 := fun o => cell_alloc (o := o) c9
  obtain ⟨x0, x1, x2, x3, x4, x5, x6, x7, x8, x9⟩ := cells10 gX
  have xp0 := fun o => cell_alloc (o := o) x0
  have xp1 := fun o => cell_alloc (o := o) x1
  have xp2 := fun o => cell_alloc (o := o) x2
  have xp3 := fun o => cell_alloc (o := o) x3
  have xp4 := fun o => cell_alloc (o := o) x4
  have xp5 := fun o => cell_alloc (o := o) x5
  have xp6 := fun o => cell_alloc (o := o) x6
  have xp7 := fun o => cell_alloc (o := o) x7
  have xp8 := fun o => cell_alloc (o := o) x8
  have xp9 := fun o => cell_alloc (o := o) x9
  go_wp2_with fail
  refine (cD _).mono ?_
  clear c0 cp0 c1 cp1 c2 cp2 c3 cp3 c4 cp4 c5 cp5 c6 cp6 c7 cp7 c8 cp8 c9 cp9 x0 xp0 x1 xp1 x2 xp2 x3 xp3 x4 xp4 x5 xp5 x6 xp6 x7 xp7 x8 xp8 x9 xp9
  rintro e w7 ⟨rfl, hb⟩
  replace gC := block_later hb gC
  replace gX := block_later hb gX
  replace hB := below_tr hB hb
  replace HM := Hid.mk (HM.out.below hb)
  replace HK := Hid.mk (HK.out.below hb)
  clear hb
  obtain ⟨c0, c1, c2, c3, c4, c5, c6, c7, c8, c9⟩ := cells10 gC
  have cp0 := fun o => cell_alloc (o := o) c0
  have cp1 := fun o => cell_alloc (o := o) c1
  have cp2 := fun o => cell_alloc (o := o) c2
  have cp3 := fun o => cell_alloc (o := o) c3
  have cp4 := fun o => cell_alloc (o := o) c4
  have cp5 := fun o => cell_alloc (o := o) c5
  have cp6 := fun o => cell_alloc (o := o) c6
  have cp7 := fun o => cell_alloc (o := o) c7
  have cp8 := fun o => cell_alloc (o := o) c8
  have cp9 := fun o => cell_alloc (o := o) c9
  obtain ⟨x0, x1, x2, x3, x4, x5, x6, x7, x8, x9⟩ := cells10 gX
  have xp0 := fun o => cell_alloc (o := o) x0
  have xp1 := fun o => cell_alloc (o := o) x1
  have xp2 := fun o => cell_alloc (o := o) x2
  have xp3 := fun o => cell_alloc (o := o) x3
  have xp4 := fun o => cell_alloc (o := o) x4
  have xp5 := fun o => cell_alloc (o := o) x5
  have xp6 := fun o => cell_alloc (o := o) x6
  have xp7 := fun o => cell_alloc (o := o) x7
  have xp8 := fun o => cell_alloc (o := o) x8
  have xp9 := fun o => cell_alloc (o := o) x9
  go_wp2_with fail
  refine (same_c HM.out HK.out).mono ?_
  clear c0 cp0 c1 cp1 c2 cp2 c3 cp3 c4 cp4 c5 cp5 c6 cp6 c7 cp7 c8 cp8 c9 cp9 x0 xp0 x1 xp1 x2 xp2 x3 xp3 x4 xp4 x5 xp5 x6 xp6 x7 xp7 x8 xp8 x9 xp9
  rintro e w8 ⟨⟨q, rfl, hq⟩, hb⟩
  obtain rfl : q = true := hq.2 ⟨rfl, rfl⟩
  replace gC := block_later hb gC
  replace gX := block_later hb gX
  replace hB := below_tr hB hb
  clear hb hq
  obtain ⟨c0, c1, c2, c3, c4, c5, c6, c7, c8, c9⟩ := cells10 gC
  have cp0 := fun o => cell_alloc (o := o) c0
  have cp1 := fun o => cell_alloc (o := o) c1
  have cp2 := fun o => cell_alloc (o := o) c2
  have cp3 := fun o => cell_alloc (o := o) c3
  have cp4 := fun o => cell_alloc (o := o) c4
  have cp5 := fun o => cell_alloc (o := o) c5
  have cp6 := fun o => cell_alloc (o := o) c6
  have cp7 := fun o => cell_alloc (o := o) c7
  have cp8 := fun o => cell_alloc (o := o) c8
  have cp9 := fun o => cell_alloc (o := o) c9
  obtain ⟨x0, x1, x2, x3, x4, x5, x6, x7, x8, x9⟩ := cells10 gX
  have xp0 := fun o => cell_alloc (o := o) x0
  have xp1 := fun o => cell_alloc (o := o) x1
  have xp2 := fun o => cell_alloc (o := o) x2
  have xp3 := fun o => cell_alloc (o := o) x3
  have xp4 := fun o => cell_alloc (o := o) x4
  have xp5 := fun o => cell_alloc (o := o) x5
  have xp6 := fun o => cell_alloc (o := o) x6
  have xp7 := fun o => cell_alloc (o := o) x7
  have xp8 := fun o => cell_alloc (o := o) x8
  have xp9 := fun o => cell_alloc (o := o) x9
  go_wp2_with fail
  refine (cR _).mono ?_
  clear c0 cp0 c1 cp1 c2 cp2 c3 cp3 c4 cp4 c5 cp5 c6 cp6 c7 cp7 c8 cp8 c9 cp9 x0 xp0 x1 xp1 x2 xp2 x3 xp3 x4 xp4 x5 xp5 x6 xp6 x7 xp7 x8 xp8 x9 xp9
  rintro e w9 ⟨rfl, hb⟩
  replace gC := block_later hb gC
  replace gX := block_later hb gX
  replace hB := below_tr hB hb
  clear hb
  obtain ⟨c0, c1, c2, c3, c4, c5, c6, c7, c8, c9⟩ := cells10 gC
  have cp0 := fun o => cell_alloc (o := o) c0
  have cp1 := fun o => cell_alloc (o := o) c1
  have cp2 := fun o => cell_alloc (o := o) c2
  have cp3 := fun o => cell_alloc (o := o) c3
  have cp4 := fun o => cell_alloc (o := o) c4
  have cp5 := fun o => cell_alloc (o := o) c5
  have cp6 := fun o => cell_alloc (o := o) c6
  have cp7 := fun o => cell_alloc (o := o) c7
  have cp8 := fun o => cell_alloc (o := o) c8
  have cp9 := fun o => cell_alloc (o := o) c9
  obtain ⟨x0, x1, x2, x3, x4, x5, x6, x7, x8, x9⟩ := cells10 gX
  have xp0 := fun o => cell_alloc (o := o) x0
  have xp1 := fun o => cell_alloc (o := o) x1
  have xp2 := fun o => cell_alloc (o := o) x2
  have xp3 := fun o => cell_alloc (o := o) x3
  have xp4 := fun o => cell_alloc (o := o) x4
  have xp5 := fun o => cell_alloc (o := o) x5
  have xp6 := fun o => cell_alloc (o := o) x6
  have xp7 := fun o => cell_alloc (o := o) x7
  have xp8 := fun o => cell_alloc (o := o) x8
  have xp9 := fun o => cell_alloc (o := o) x9
  go_wp2
  go_ret
  first
    | exact ⟨rfl, hB⟩
    | exact ⟨rfl, hB.alloc hB.size _⟩

set_option maxHeartbeats 4000000 in
theorem eqD (k : Int) (a : Nat) (b : Int) (r : Int) (g : Int) (s : Int) (m : Nat) (nx : Nat) (pv : Nat) (d : Int) (k2 : Int) (a2 : Nat) (b2 : Int) (r2 : Int) (g2 : Int) (s2 : Int) (m2 : Nat) (nx2 : Nat) (pv2 : Nat) (d2 : Int) (w : World) : (binOp .eql 38 (.agg #[.int .i64 k, .int .u64 (a : Nat), .int .i64 b, .int .i64 r, .int .i64 g, .int .i64 s, .int .u64 (m : Nat), .int .u64 (nx : Nat), .int .u64 (pv : Nat), .int .i64 d]) (.agg #[.int .i64 k2, .int .u64 (a2 : Nat), .int .i64 b2, .int .i64 r2, .int .i64 g2, .int .i64 s2, .int .u64 (m2 : Nat), .int .u64 (nx2 : Nat), .int .u64 (pv2 : Nat), .int .i64 d2])).run Tryd.prog w = .ok (.bool (eqSB k a b r g s m nx pv d k2 a2 b2 r2 g2 s2 m2 nx2 pv2 d2)) w := by
  unfold eqSB
  by_cases hk : k = k2
  · subst hk
    by_cases ha : a = a2
    · subst ha
      by_cases hb : b = b2
      · subst hb
        by_cases hr : r = r2
        · subst hr
          by_cases hg : g = g2
          · subst hg
            by_cases hs : s = s2
            · subst hs
              by_cases hm : m = m2
              · subst hm
                by_cases hnx : nx = nx2
                · subst hnx
                  by_cases hpv : pv = pv2
                  · subst hpv
                    by_cases hd : d = d2
                    · subst hd
                      first | (go_simp; done) | (go_simp <;> simp_all)
                    · go_simp <;> (first | (simp_all; done) | (rw [if_neg (by omega), beq_eq_false_iff_ne.2 (by assumption)]; done) | (rw [if_neg (by omega), beq_eq_false_iff_ne.2 (by assumption)]; rfl))
                  · go_simp <;> (first | (simp_all; done) | (rw [if_neg (by omega), beq_eq_false_iff_ne.2 (by assumption)]; done) | (rw [if_neg (by omega), beq_eq_false_iff_ne.2 (by assumption)]; rfl))
                · go_simp <;> (first | (simp_all; done) | (rw [if_neg (by omega), beq_eq_false_iff_ne.2 (by assumption)]; done) | (rw [if_neg (by omega), beq_eq_false_iff_ne.2 (by assumption)]; rfl))
              · go_simp <;> (first | (simp_all; done) | (rw [if_neg (by omega), beq_eq_false_iff_ne.2 (by assumption)]; done) | (rw [if_neg (by omega), beq_eq_false_iff_ne.2 (by assumption)]; rfl))
            · go_simp <;> (first | (simp_all; done) | (rw [if_neg (by omega), beq_eq_false_iff_ne.2 (by assumption)]; done) | (rw [if_neg (by omega), beq_eq_false_iff_ne.2 (by assumption)]; rfl))
          · go_simp <;> (first | (simp_all; done) | (rw [if_neg (by omega), beq_eq_false_iff_ne.2 (by assumption)]; done) | (rw [if_neg (by omega), beq_eq_false_iff_ne.2 (by assumption)]; rfl))
        · go_simp <;> (first | (simp_all; done) | (rw [if_neg (by omega), beq_eq_false_iff_ne.2 (by assumption)]; done) | (rw [if_neg (by omega), beq_eq_false_iff_ne.2 (by assumption)]; rfl))
      · go_simp <;> (first | (simp_all; done) | (rw [if_neg (by omega), beq_eq_false_iff_ne.2 (by assumption)]; done) | (rw [if_neg (by omega), beq_eq_false_iff_ne.2 (by assumption)]; rfl))
    · go_simp <;> (first | (simp_all; done) | (rw [if_neg (by omega), beq_eq_false_iff_ne.2 (by assumption)]; done) | (rw [if_neg (by omega), beq_eq_false_iff_ne.2 (by assumption)]; rfl))
  · go_simp <;> (first | (simp_all; done) | (rw [if_neg (by omega), beq_eq_false_iff_ne.2 (by assumption)]; done) | (rw [if_neg (by omega), beq_eq_false_iff_ne.2 (by assumption)]; rfl))
theorem idx4a (v0 v1 v2 v3 : Nat) (w : World) : (Instr.index 27 (.agg #[.int .u64 (v0 : Nat), .int .u64 (v1 : Nat), .int .u64 (v2 : Nat), .int .u64 (v3 : Nat)]) (.int .i64 0)).run Tryd.prog w = .ok (.int .u64 (v0 : Nat)) w ∧
    (Instr.index 27 (.agg #[.int .u64 (v0 : Nat), .int .u64 (v1 : Nat), .int .u64 (v2 : Nat), .int .u64 (v3 : Nat)]) (.int .i64 1)).run Tryd.prog w = .ok (.int .u64 (v1 : Nat)) w ∧
    (Instr.index 27 (.agg #[.int .u64 (v0 : Nat), .int .u64 (v1 : Nat), .int .u64 (v2 : Nat), .int .u64 (v3 : Nat)]) (.int .i64 2)).run Tryd.prog w = .ok (.int .u64 (v2 : Nat)) w ∧
    (Instr.index 27 (.agg #[.int .u64 (v0 : Nat), .int .u64 (v1 : Nat), .int .u64 (v2 : Nat), .int .u64 (v3 : Nat)]) (.int .i64 3)).run Tryd.prog w = .ok (.int .u64 (v3 : Nat)) w := by
  refine ⟨?_, ?_, ?_, ?_⟩ <;> kernel_rfl

set_option maxRecDepth 100000 in
set_option maxHeartbeats 8000000 in
theorem walk_ok (x x1 x2 x3 : Nat) (e1 : x1 = x + 8) (e2 : x2 = x + 16) (e3 : x3 = x + 24) {k a b r g s m nx pv d : Nat} (A B C D : Nat) (w : World) (hx : x < 18446744073709551616) (hA : A < 18446744073709551616) (hB0 : B < 18446744073709551616) (hC : C < 18446744073709551616) (hD : D < 18446744073709551616) (hP : SPrts w) (hE : sE 65536 x = 0) (hR : Rt k a b r g s m) (hc : cB k a b r g s m = true) (h1 : nx < 4294967296 ∧ nx % 32 = 0) (h2 : pv < 4294967296 ∧ pv % 32 = 0) (hd : d ≤ 4096) (Q : Bool) (hQ0 : eqSB k a b r g s m nx pv d 0 0 0 0 0 0 0 0 0 0 = Q) : Calls Tryd.prog 3 #[.int .u64 (x : Nat), .agg #[.int .i64 (k : Nat), .int .u64 (a : Nat), .int .i64 (b : Nat), .int .i64 (r : Nat), .int .i64 (g : Nat), .int .i64 (s : Nat), .int .u64 (m : Nat), .int .u64 (nx : Nat), .int .u64 (pv : Nat), .int .i64 (d : Nat)], .agg #[.int .u64 (A : Nat), .int .u64 (B : Nat), .int .u64 (C : Nat), .int .u64 (D : Nat)]] w fun e w' => e = .returned (.bool true) ∧ Below w.heap.size w w' := by
  have cO := fun W => opened_c x A B C D hx hA hB0 hC hD W
  have cA := fun W hW => anchorS_any W hW
  have cM := fun W => may_any x hx W
  generalize (opF x ((x + 8) % 18446744073709551616) ((x + 16) % 18446744073709551616) ((x + 24) % 18446744073709551616) A B C D) = F at *
  have cI : ∀ (W : World) (Y : Nat → Prop) ad, MemAt W Y ad 65536 4 F → SPrts W → Calls Tryd.prog 9 #[.pointer (some ⟨ad, 0, none⟩), .int .u64 x, .agg #[.int .i64 (k : Nat), .int .u64 (a : Nat), .int .i64 (b : Nat), .int .i64 (r : Nat), .int .i64 (g : Nat), .int .i64 (s : Nat), .int .u64 (m : Nat), .int .u64 (nx : Nat), .int .u64 (pv : Nat), .int .i64 (d : Nat)]] W fun e w' => e = .returned (.int .i64 0) ∧ Wst W Y ad 65536 8 (stF F 65536 x (wordN k a b r g s) m (lnkN nx pv) d) w' := fun W Y ad h hp => store_ok h (by decide) x hx hE hp hR hc h1 h2 hd
  have cV : ∀ W, Calls Tryd.prog 12 #[.agg #[.int .i64 (k : Nat), .int .u64 (a : Nat), .int .i64 (b : Nat), .int .i64 (r : Nat), .int .i64 (g : Nat), .int .i64 (s : Nat), .int .u64 (m : Nat), .int .u64 (nx : Nat), .int .u64 (pv : Nat), .int .i64 (d : Nat)]] W fun e w' => e = .returned (.agg #[.int .i64 (k : Nat), .int .u64 (a : Nat), .int .i64 (b : Nat), .int .i64 (r : Nat), .int .i64 (g : Nat), .int .i64 (s : Nat), .int .u64 (m : Nat), .int .u64 (nx : Nat), .int .u64 (pv : Nat), .int .i64 (d : Nat)]) ∧ Below W.heap.size W w' := fun W => listed_any _ _ _ _ _ _ _ _ _ _ W
  have hs : sB k a b r g s m nx pv d = true := (s_iff _ _ _ _ _ _ _ _ _ _).2 ⟨hc, h1, h2, by omega, by omega⟩
  have cR : ∀ W, Calls Tryd.prog 14 #[.agg #[.int .i64 (k : Nat), .int .u64 (a : Nat), .int .i64 (b : Nat), .int .i64 (r : Nat), .int .i64 (g : Nat), .int .i64 (s : Nat), .int .u64 (m : Nat), .int .u64 (nx : Nat), .int .u64 (pv : Nat), .int .i64 (d : Nat)]] W fun e w' => e = .returned (.bool true) ∧ Below W.heap.size W w' := fun W => by
    have := sright_any k a b r g s m nx pv d (by have := hR.qa; omega) hR.qm (by omega) (by omega) W
    rw [hs] at this
    exact this
  have cD : ∀ W, Calls Tryd.prog 13 #[.agg #[.int .i64 (k : Nat), .int .u64 (a : Nat), .int .i64 (b : Nat), .int .i64 (r : Nat), .int .i64 (g : Nat), .int .i64 (s : Nat), .int .u64 (m : Nat), .int .u64 (nx : Nat), .int .u64 (pv : Nat), .int .i64 (d : Nat)]] W fun e w' => e = .returned (.bool true) ∧ Below W.heap.size W w' := fun W => by
    have := dsright_any k a b r g s m nx pv d (by have := hR.qa; omega) hR.qm W
    rw [hs] at this
    exact this
  have cE : ∀ W, Calls Tryd.prog 18 #[.agg #[.int .i64 (k : Nat), .int .u64 (a : Nat), .int .i64 (b : Nat), .int .i64 (r : Nat), .int .i64 (g : Nat), .int .i64 (s : Nat), .int .u64 (m : Nat), .int .u64 (nx : Nat), .int .u64 (pv : Nat), .int .i64 (d : Nat)]] W fun e w' => e = .returned (.bool Q) ∧ Below W.heap.size W w' := fun W => by
    have := empty_any k a b r g s m nx pv d W
    rw [hQ0] at this
    exact this
  have HQ : ∀ W, (binOp .eql 26 (.agg #[.int .i64 (k : Nat), .int .u64 (a : Nat), .int .i64 (b : Nat), .int .i64 (r : Nat), .int .i64 (g : Nat), .int .i64 (s : Nat), .int .u64 (m : Nat), .int .u64 (nx : Nat), .int .u64 (pv : Nat), .int .i64 (d : Nat)]) (.agg #[.int .i64 (k : Nat), .int .u64 (a : Nat), .int .i64 (b : Nat), .int .i64 (r : Nat), .int .i64 (g : Nat), .int .i64 (s : Nat), .int .u64 (m : Nat), .int .u64 (nx : Nat), .int .u64 (pv : Nat), .int .i64 (d : Nat)])).run Tryd.prog W = .ok (.bool true) W := fun W => by
    rw [eqS]; unfold eqSB; simp
  have HZ : ∀ W, (binOp .eql 38 (.agg #[.int .i64 (k : Nat), .int .u64 (a : Nat), .int .i64 (b : Nat), .int .i64 (r : Nat), .int .i64 (g : Nat), .int .i64 (s : Nat), .int .u64 (m : Nat), .int .u64 (nx : Nat), .int .u64 (pv : Nat), .int .i64 (d : Nat)]) (.agg #[.int .i64 0, .int .u64 0, .int .i64 0, .int .i64 0, .int .i64 0, .int .i64 0, .int .u64 0, .int .u64 0, .int .u64 0, .int .i64 0])).run Tryd.prog W = .ok (.bool Q) W := fun W => by
    have := eqD k a b r g s m nx pv d 0 0 0 0 0 0 0 0 0 0 W
    rw [hQ0] at this
    exact this
  have cW := fun W => dswords_any hR h1.1 h2.1 hd W
  obtain ⟨hx32, hxS⟩ := sE_ok hE
  have hE0 : errA 65536 x = 0 := by unfold errA; rw [if_neg (by omega), if_neg (by omega)]
  have hE1 : errA 65536 x1 = 0 := by unfold errA; rw [if_neg (by omega), if_neg (by omega)]
  have hE2 : errA 65536 x2 = 0 := by unfold errA; rw [if_neg (by omega), if_neg (by omega)]
  have hE3 : errA 65536 x3 = 0 := by unfold errA; rw [if_neg (by omega), if_neg (by omega)]
  obtain ⟨q0, q1, q2, q3, -⟩ := four hE (by decide) F (wordN k a b r g s) m (lnkN nx pv) d
  obtain ⟨l0, l1⟩ := ld_back hE (by decide) F hR hc h1 h2 hd
  rw [← e1] at q1
  rw [← e2] at q2
  rw [← e3] at q3
  generalize (stF F 65536 x (wordN k a b r g s) m (lnkN nx pv) d) = G at *
  have cL : ∀ (W : World) (Y : Nat → Prop) ad n, MemAt W Y ad 65536 n G → SPrts W → Calls Tryd.prog 17 #[.pointer (some ⟨ad, 0, none⟩), .int .u64 x] W fun e w' => e = .returned (.tuple #[.agg #[.int .i64 (k : Nat), .int .u64 (a : Nat), .int .i64 (b : Nat), .int .i64 (r : Nat), .int .i64 (g : Nat), .int .i64 (s : Nat), .int .u64 (m : Nat), .int .u64 (nx : Nat), .int .u64 (pv : Nat), .int .i64 (d : Nat)], .int .i64 0]) ∧ Below W.heap.size W w' := fun W Y ad n p1 p2 => by
    have := load_c p1 x hx p2
    rw [l0, l1] at this
    exact this
  have cQ0 : ∀ (W : World) (Y : Nat → Prop) ad n, MemAt W Y ad 65536 n G → Calls Tryd.prog 16 #[.pointer (some ⟨ad, 0, none⟩), .int .u64 x] W fun e w' => e = .returned (.tuple #[.int .u64 ((wordN k a b r g s : Nat) : Int), .int .i64 0]) ∧ Below W.heap.size W w' := fun W Y ad n p1 => by
    have := read_c p1 x (by omega)
    rw [q0, hE0] at this
    exact this
  have cQ1 : ∀ (W : World) (Y : Nat → Prop) ad n, MemAt W Y ad 65536 n G → Calls Tryd.prog 16 #[.pointer (some ⟨ad, 0, none⟩), .int .u64 x1] W fun e w' => e = .returned (.tuple #[.int .u64 ((m : Nat) : Int), .int .i64 0]) ∧ Below W.heap.size W w' := fun W Y ad n p1 => by
    have := read_c p1 x1 (by omega)
    rw [q1, hE1] at this
    exact this
  have cQ2 : ∀ (W : World) (Y : Nat → Prop) ad n, MemAt W Y ad 65536 n G → Calls Tryd.prog 16 #[.pointer (some ⟨ad, 0, none⟩), .int .u64 x2] W fun e w' => e = .returned (.tuple #[.int .u64 ((lnkN nx pv : Nat) : Int), .int .i64 0]) ∧ Below W.heap.size W w' := fun W Y ad n p1 => by
    have := read_c p1 x2 (by omega)
    rw [q2, hE2] at this
    exact this
  have cQ3 : ∀ (W : World) (Y : Nat → Prop) ad n, MemAt W Y ad 65536 n G → Calls Tryd.prog 16 #[.pointer (some ⟨ad, 0, none⟩), .int .u64 x3] W fun e w' => e = .returned (.tuple #[.int .u64 ((d : Nat) : Int), .int .i64 0]) ∧ Below W.heap.size W w' := fun W Y ad n p1 => by
    have := read_c p1 x3 (by omega)
    rw [q3, hE3] at this
    exact this
  have f0 : IntKind.u64.wrap (x : Int) = (x : Int) := by rw [IntKind.wrap_u64]; omega
  have f1 : IntKind.u64.wrap ((x : Int) + 8) = (x1 : Int) := by rw [IntKind.wrap_u64]; omega
  have f2 : IntKind.u64.wrap ((x : Int) + 16) = (x2 : Int) := by rw [IntKind.wrap_u64]; omega
  have f3 : IntKind.u64.wrap ((x : Int) + 24) = (x3 : Int) := by rw [IntKind.wrap_u64]; omega
  generalize wordN k a b r g s = N at *
  generalize lnkN nx pv = L at *
  have HX := fun W => idx4a N m L d W
  rw [hE] at cM
  clear hx hA hB0 hC hD hE hs hR hc h1 h2 hd hQ0 hx32 hxS hE0 hE1 hE2 hE3 q0 q1 q2 q3 l0 l1 e1 e2 e3
  go_enter Tryd.func3, Tryd.ntmps3
  go_wp2_with fail
  have gC := heap2_0 w (.cells #[.int .i64 (k : Nat), .int .u64 (a : Nat), .int .i64 (b : Nat), .int .i64 (r : Nat), .int .i64 (g : Nat), .int .i64 (s : Nat), .int .u64 (m : Nat), .int .u64 (nx : Nat), .int .u64 (pv : Nat), .int .i64 (d : Nat)] 26) (.cells #[.int .u64 (A : Nat), .int .u64 (B : Nat), .int .u64 (C : Nat), .int .u64 (D : Nat)] 27)
  have gR := heap_alloc_new (w.alloc (.cells #[.int .i64 (k : Nat), .int .u64 (a : Nat), .int .i64 (b : Nat), .int .i64 (r : Nat), .int .i64 (g : Nat), .int .i64 (s : Nat), .int .u64 (m : Nat), .int .u64 (nx : Nat), .int .u64 (pv : Nat), .int .i64 (d : Nat)] 26)) (.cells #[.int .u64 (A : Nat), .int .u64 (B : Nat), .int .u64 (C : Nat), .int .u64 (D : Nat)] 27)
  have hB := below2 w (.cells #[.int .i64 (k : Nat), .int .u64 (a : Nat), .int .i64 (b : Nat), .int .i64 (r : Nat), .int .i64 (g : Nat), .int .i64 (s : Nat), .int .u64 (m : Nat), .int .u64 (nx : Nat), .int .u64 (pv : Nat), .int .i64 (d : Nat)] 26) (.cells #[.int .u64 (A : Nat), .int .u64 (B : Nat), .int .u64 (C : Nat), .int .u64 (D : Nat)] 27)
  rw [World.size_alloc] at gR
  generalize (w.alloc (.cells #[.int .i64 (k : Nat), .int .u64 (a : Nat), .int .i64 (b : Nat), .int .i64 (r : Nat), .int .i64 (g : Nat), .int .i64 (s : Nat), .int .u64 (m : Nat), .int .u64 (nx : Nat), .int .u64 (pv : Nat), .int .i64 (d : Nat)] 26)).alloc (.cells #[.int .u64 (A : Nat), .int .u64 (B : Nat), .int .u64 (C : Nat), .int .u64 (D : Nat)] 27) = W0 at *
  have hRB := Nat.le_succ w.heap.size
  obtain ⟨c0, c1, c2, c3, c4, c5, c6, c7, c8, c9⟩ := cells10 gC
  have cp0 := fun o => cell_alloc (o := o) c0
  have cp1 := fun o => cell_alloc (o := o) c1
  have cp2 := fun o => cell_alloc (o := o) c2
  have cp3 := fun o => cell_alloc (o := o) c3
  have cp4 := fun o => cell_alloc (o := o) c4
  have cp5 := fun o => cell_alloc (o := o) c5
  have cp6 := fun o => cell_alloc (o := o) c6
  have cp7 := fun o => cell_alloc (o := o) c7
  have cp8 := fun o => cell_alloc (o := o) c8
  have cp9 := fun o => cell_alloc (o := o) c9
  clear c0 cp0 c1 cp1 c2 cp2 c3 cp3 c4 cp4 c5 cp5 c6 cp6 c7 cp7 c8 cp8 c9 cp9
  obtain ⟨c0, c1, c2, c3, c4, c5, c6, c7, c8, c9⟩ := cells10 gC
  have cp0 := fun o => cell_alloc (o := o) c0
  have cp1 := fun o => cell_alloc (o := o) c1
  have cp2 := fun o => cell_alloc (o := o) c2
  have cp3 := fun o => cell_alloc (o := o) c3
  have cp4 := fun o => cell_alloc (o := o) c4
  have cp5 := fun o => cell_alloc (o := o) c5
  have cp6 := fun o => cell_alloc (o := o) c6
  have cp7 := fun o => cell_alloc (o := o) c7
  have cp8 := fun o => cell_alloc (o := o) c8
  have cp9 := fun o => cell_alloc (o := o) c9
  obtain ⟨r0, r1, r2, r3⟩ := cells4 gR
  have rp0 := fun o => cell_alloc (o := o) r0
  have rp1 := fun o => cell_alloc (o := o) r1
  have rp2 := fun o => cell_alloc (o := o) r2
  have rp3 := fun o => cell_alloc (o := o) r3
  refine (cA _ (hP.later hB)).mono ?_
  clear c0 cp0 c1 cp1 c2 cp2 c3 cp3 c4 cp4 c5 cp5 c6 cp6 c7 cp7 c8 cp8 c9 cp9 r0 rp0 r1 rp1 r2 rp2 r3 rp3
  rintro e w1 ⟨rfl, hb⟩
  replace gC := block_later hb gC
  replace gR := block_later hb gR
  replace hB := below_tr hB hb
  clear hb
  obtain ⟨c0, c1, c2, c3, c4, c5, c6, c7, c8, c9⟩ := cells10 gC
  have cp0 := fun o => cell_alloc (o := o) c0
  have cp1 := fun o => cell_alloc (o := o) c1
  have cp2 := fun o => cell_alloc (o := o) c2
  have cp3 := fun o => cell_alloc (o := o) c3
  have cp4 := fun o => cell_alloc (o := o) c4
  have cp5 := fun o => cell_alloc (o := o) c5
  have cp6 := fun o => cell_alloc (o := o) c6
  have cp7 := fun o => cell_alloc (o := o) c7
  have cp8 := fun o => cell_alloc (o := o) c8
  have cp9 := fun o => cell_alloc (o := o) c9
  obtain ⟨r0, r1, r2, r3⟩ := cells4 gR
  have rp0 := fun o => cell_alloc (o := o) r0
  have rp1 := fun o => cell_alloc (o := o) r1
  have rp2 := fun o => cell_alloc (o := o) r2
  have rp3 := fun o => cell_alloc (o := o) r3
  go_wp2_with fail
  refine (cO _).mono ?_
  clear c0 cp0 c1 cp1 c2 cp2 c3 cp3 c4 cp4 c5 cp5 c6 cp6 c7 cp7 c8 cp8 c9 cp9 r0 rp0 r1 rp1 r2 rp2 r3 rp3
  rintro e w2 ⟨ad, rfl, hM0⟩
  obtain ⟨Y, hM, hY⟩ := Wn.mem hM0
  have hb := Wn.bel hM0
  have HM := Hid.mk hM
  have hY0 : ∀ i, Y i → w.heap.size < i := fun i q => Nat.lt_of_lt_of_le (block_lt gC) (hY i q).1
  replace gC := block_later hb gC
  replace gR := block_later hb gR
  replace hB := below_tr hB hb
  clear hb hM hM0
  obtain ⟨c0, c1, c2, c3, c4, c5, c6, c7, c8, c9⟩ := cells10 gC
  have cp0 := fun o => cell_alloc (o := o) c0
  have cp1 := fun o => cell_alloc (o := o) c1
  have cp2 := fun o => cell_alloc (o := o) c2
  have cp3 := fun o => cell_alloc (o := o) c3
  have cp4 := fun o => cell_alloc (o := o) c4
  have cp5 := fun o => cell_alloc (o := o) c5
  have cp6 := fun o => cell_alloc (o := o) c6
  have cp7 := fun o => cell_alloc (o := o) c7
  have cp8 := fun o => cell_alloc (o := o) c8
  have cp9 := fun o => cell_alloc (o := o) c9
  obtain ⟨r0, r1, r2, r3⟩ := cells4 gR
  have rp0 := fun o => cell_alloc (o := o) r0
  have rp1 := fun o => cell_alloc (o := o) r1
  have rp2 := fun o => cell_alloc (o := o) r2
  have rp3 := fun o => cell_alloc (o := o) r3
  clear c0 cp0 c1 cp1 c2 cp2 c3 cp3 c4 cp4 c5 cp5 c6 cp6 c7 cp7 c8 cp8 c9 cp9 r0 rp0 r1 rp1 r2 rp2 r3 rp3
  clear gR
  obtain ⟨c0, c1, c2, c3, c4, c5, c6, c7, c8, c9⟩ := cells10 gC
  have cp0 := fun o => cell_alloc (o := o) c0
  have cp1 := fun o => cell_alloc (o := o) c1
  have cp2 := fun o => cell_alloc (o := o) c2
  have cp3 := fun o => cell_alloc (o := o) c3
  have cp4 := fun o => cell_alloc (o := o) c4
  have cp5 := fun o => cell_alloc (o := o) c5
  have cp6 := fun o => cell_alloc (o := o) c6
  have cp7 := fun o => cell_alloc (o := o) c7
  have cp8 := fun o => cell_alloc (o := o) c8
  have cp9 := fun o => cell_alloc (o := o) c9
  go_wp2_with fail
  refine (copy_c HM.out (by decide)).mono ?_
  clear c0 cp0 c1 cp1 c2 cp2 c3 cp3 c4 cp4 c5 cp5 c6 cp6 c7 cp7 c8 cp8 c9 cp9
  rintro e w3 ⟨cc, rfl, hK, hb⟩
  have HK := Hid.mk hK
  clear hK
  replace gC := block_later hb gC
  replace hB := below_tr hB hb
  replace HM := Hid.mk (HM.out.below hb)
  clear hb
  obtain ⟨c0, c1, c2, c3, c4, c5, c6, c7, c8, c9⟩ := cells10 gC
  have cp0 := fun o => cell_alloc (o := o) c0
  have cp1 := fun o => cell_alloc (o := o) c1
  have cp2 := fun o => cell_alloc (o := o) c2
  have cp3 := fun o => cell_alloc (o := o) c3
  have cp4 := fun o => cell_alloc (o := o) c4
  have cp5 := fun o => cell_alloc (o := o) c5
  have cp6 := fun o => cell_alloc (o := o) c6
  have cp7 := fun o => cell_alloc (o := o) c7
  have cp8 := fun o => cell_alloc (o := o) c8
  have cp9 := fun o => cell_alloc (o := o) c9
  clear HK
  have hb0 := block_lt gC
  go_wp2_with fail
  refine (cI _ _ _ HM.out (hP.later hB)).mono ?_
  clear c0 cp0 c1 cp1 c2 cp2 c3 cp3 c4 cp4 c5 cp5 c6 cp6 c7 cp7 c8 cp8 c9 cp9
  rintro e w4 ⟨rfl, hW⟩
  obtain ⟨hM2, hT⟩ := Wst.mem hW HM.out.lt
  clear hW
  replace gC := turn_row hT gC (fun c => Nat.lt_irrefl _ (hY0 _ c))
  have hlt := Nat.lt_of_lt_of_le (block_lt gC) (Nat.le_refl _)
  replace hB := hB.trans (hT.below (fun i q => Nat.le_of_lt (hY0 i q)) hB.size)
  clear HM
  have HM := Hid.mk hM2
  replace hY0 := gr_above hY0 (Nat.lt_of_lt_of_le hb0 (Nat.le_refl _)) (W := w4)
  clear hM2 hT hlt hb0
  obtain ⟨c0, c1, c2, c3, c4, c5, c6, c7, c8, c9⟩ := cells10 gC
  have cp0 := fun o => cell_alloc (o := o) c0
  have cp1 := fun o => cell_alloc (o := o) c1
  have cp2 := fun o => cell_alloc (o := o) c2
  have cp3 := fun o => cell_alloc (o := o) c3
  have cp4 := fun o => cell_alloc (o := o) c4
  have cp5 := fun o => cell_alloc (o := o) c5
  have cp6 := fun o => cell_alloc (o := o) c6
  have cp7 := fun o => cell_alloc (o := o) c7
  have cp8 := fun o => cell_alloc (o := o) c8
  have cp9 := fun o => cell_alloc (o := o) c9
  go_wp2_with fail
  refine (cM _).mono ?_
  rintro e w5 ⟨rfl, rfl⟩
  go_wp2_with fail
  refine (cV _).mono ?_
  clear c0 cp0 c1 cp1 c2 cp2 c3 cp3 c4 cp4 c5 cp5 c6 cp6 c7 cp7 c8 cp8 c9 cp9
  rintro e w6 ⟨rfl, hb⟩
  replace gC := block_later hb gC
  replace hB := below_tr hB hb
  replace HM := Hid.mk (HM.out.below hb)
  clear hb
  obtain ⟨c0, c1, c2, c3, c4, c5, c6, c7, c8, c9⟩ := cells10 gC
  have cp0 := fun o => cell_alloc (o := o) c0
  have cp1 := fun o => cell_alloc (o := o) c1
  have cp2 := fun o => cell_alloc (o := o) c2
  have cp3 := fun o => cell_alloc (o := o) c3
  have cp4 := fun o => cell_alloc (o := o) c4
  have cp5 := fun o => cell_alloc (o := o) c5
  have cp6 := fun o => cell_alloc (o := o) c6
  have cp7 := fun o => cell_alloc (o := o) c7
  have cp8 := fun o => cell_alloc (o := o) c8
  have cp9 := fun o => cell_alloc (o := o) c9
  go_upto_region 12 with fail
  clear c0 cp0 c1 cp1 c2 cp2 c3 cp3 c4 cp4 c5 cp5 c6 cp6 c7 cp7 c8 cp8 c9 cp9
  have gX := heap_alloc_new w6 (.cells #[.int .i64 (k : Nat), .int .u64 (a : Nat), .int .i64 (b : Nat), .int .i64 (r : Nat), .int .i64 (g : Nat), .int .i64 (s : Nat), .int .u64 (m : Nat), .int .u64 (nx : Nat), .int .u64 (pv : Nat), .int .i64 (d : Nat)] 38)
  replace gC := block_later (below_new _ (.cells #[.int .i64 (k : Nat), .int .u64 (a : Nat), .int .i64 (b : Nat), .int .i64 (r : Nat), .int .i64 (g : Nat), .int .i64 (s : Nat), .int .u64 (m : Nat), .int .u64 (nx : Nat), .int .u64 (pv : Nat), .int .i64 (d : Nat)] 38)) gC
  replace hB := below_tr hB (below_new _ (.cells #[.int .i64 (k : Nat), .int .u64 (a : Nat), .int .i64 (b : Nat), .int .i64 (r : Nat), .int .i64 (g : Nat), .int .i64 (s : Nat), .int .u64 (m : Nat), .int .u64 (nx : Nat), .int .u64 (pv : Nat), .int .i64 (d : Nat)] 38))
  replace HM := Hid.mk (HM.out.below (below_new _ (.cells #[.int .i64 (k : Nat), .int .u64 (a : Nat), .int .i64 (b : Nat), .int .i64 (r : Nat), .int .i64 (g : Nat), .int .i64 (s : Nat), .int .u64 (m : Nat), .int .u64 (nx : Nat), .int .u64 (pv : Nat), .int .i64 (d : Nat)] 38)))
  generalize w6.heap.size = X at *
  generalize w6.alloc (.cells #[.int .i64 (k : Nat), .int .u64 (a : Nat), .int .i64 (b : Nat), .int .i64 (r : Nat), .int .i64 (g : Nat), .int .i64 (s : Nat), .int .u64 (m : Nat), .int .u64 (nx : Nat), .int .u64 (pv : Nat), .int .i64 (d : Nat)] 38) = w6a at *
  obtain ⟨c0, c1, c2, c3, c4, c5, c6, c7, c8, c9⟩ := cells10 gC
  have cp0 := fun o => cell_alloc (o := o) c0
  have cp1 := fun o => cell_alloc (o := o) c1
  have cp2 := fun o => cell_alloc (o := o) c2
  have cp3 := fun o => cell_alloc (o := o) c3
  have cp4 := fun o => cell_alloc (o := o) c4
  have cp5 := fun o => cell_alloc (o := o) c5
  have cp6 := fun o => cell_alloc (o := o) c6
  have cp7 := fun o => cell_alloc (o := o) c7
  have cp8 := fun o => cell_alloc (o := o) c8
  have cp9 := fun o => cell_alloc (o := o) c9
  obtain ⟨x0, x1, x2, x3, x4, x5, x6, x7, x8, x9⟩ := cells10 gX
  have xp0 := fun o => cell_alloc (o := o) x0
  have xp1 := fun o => cell_alloc (o := o) x1
  have xp2 := fun o => cell_alloc (o := o) x2
  have xp3 := fun o => cell_alloc (o := o) x3
  have xp4 := fun o => cell_alloc (o := o) x4
  have xp5 := fun o => cell_alloc (o := o) x5
  have xp6 := fun o => cell_alloc (o := o) x6
  have xp7 := fun o => cell_alloc (o := o) x7
  have xp8 := fun o => cell_alloc (o := o) x8
  have xp9 := fun o => cell_alloc (o := o) x9
  go_wp2_with fail
  refine (cD _).mono ?_
  clear c0 cp0 c1 cp1 c2 cp2 c3 cp3 c4 cp4 c5 cp5 c6 cp6 c7 cp7 c8 cp8 c9 cp9 x0 xp0 x1 xp1 x2 xp2 x3 xp3 x4 xp4 x5 xp5 x6 xp6 x7 xp7 x8 xp8 x9 xp9
  rintro e w7 ⟨rfl, hb⟩
  replace gC := block_later hb gC
  replace gX := block_later hb gX
  replace hB := below_tr hB hb
  replace HM := Hid.mk (HM.out.below hb)
  clear hb
  obtain ⟨c0, c1, c2, c3, c4, c5, c6, c7, c8, c9⟩ := cells10 gC
  have cp0 := fun o => cell_alloc (o := o) c0
  have cp1 := fun o => cell_alloc (o := o) c1
  have cp2 := fun o => cell_alloc (o := o) c2
  have cp3 := fun o => cell_alloc (o := o) c3
  have cp4 := fun o => cell_alloc (o := o) c4
  have cp5 := fun o => cell_alloc (o := o) c5
  have cp6 := fun o => cell_alloc (o := o) c6
  have cp7 := fun o => cell_alloc (o := o) c7
  have cp8 := fun o => cell_alloc (o := o) c8
  have cp9 := fun o => cell_alloc (o := o) c9
  obtain ⟨x0, x1, x2, x3, x4, x5, x6, x7, x8, x9⟩ := cells10 gX
  have xp0 := fun o => cell_alloc (o := o) x0
  have xp1 := fun o => cell_alloc (o := o) x1
  have xp2 := fun o => cell_alloc (o := o) x2
  have xp3 := fun o => cell_alloc (o := o) x3
  have xp4 := fun o => cell_alloc (o := o) x4
  have xp5 := fun o => cell_alloc (o := o) x5
  have xp6 := fun o => cell_alloc (o := o) x6
  have xp7 := fun o => cell_alloc (o := o) x7
  have xp8 := fun o => cell_alloc (o := o) x8
  have xp9 := fun o => cell_alloc (o := o) x9
  go_wp2_with fail
  refine (cW _).mono ?_
  clear c0 cp0 c1 cp1 c2 cp2 c3 cp3 c4 cp4 c5 cp5 c6 cp6 c7 cp7 c8 cp8 c9 cp9 x0 xp0 x1 xp1 x2 xp2 x3 xp3 x4 xp4 x5 xp5 x6 xp6 x7 xp7 x8 xp8 x9 xp9
  rintro e w8 ⟨rfl, hb⟩
  replace gC := block_later hb gC
  replace gX := block_later hb gX
  replace hB := below_tr hB hb
  replace HM := Hid.mk (HM.out.below hb)
  clear hb
  obtain ⟨c0, c1, c2, c3, c4, c5, c6, c7, c8, c9⟩ := cells10 gC
  have cp0 := fun o => cell_alloc (o := o) c0
  have cp1 := fun o => cell_alloc (o := o) c1
  have cp2 := fun o => cell_alloc (o := o) c2
  have cp3 := fun o => cell_alloc (o := o) c3
  have cp4 := fun o => cell_alloc (o := o) c4
  have cp5 := fun o => cell_alloc (o := o) c5
  have cp6 := fun o => cell_alloc (o := o) c6
  have cp7 := fun o => cell_alloc (o := o) c7
  have cp8 := fun o => cell_alloc (o := o) c8
  have cp9 := fun o => cell_alloc (o := o) c9
  obtain ⟨x0, x1, x2, x3, x4, x5, x6, x7, x8, x9⟩ := cells10 gX
  have xp0 := fun o => cell_alloc (o := o) x0
  have xp1 := fun o => cell_alloc (o := o) x1
  have xp2 := fun o => cell_alloc (o := o) x2
  have xp3 := fun o => cell_alloc (o := o) x3
  have xp4 := fun o => cell_alloc (o := o) x4
  have xp5 := fun o => cell_alloc (o := o) x5
  have xp6 := fun o => cell_alloc (o := o) x6
  have xp7 := fun o => cell_alloc (o := o) x7
  have xp8 := fun o => cell_alloc (o := o) x8
  have xp9 := fun o => cell_alloc (o := o) x9
  go_wp2_with fail
  refine wp_loop_rounds 5 ?_
  rw [rounds_succ]
  go_wp2_with (first
    | (refine wpList_index rfl 27 _ _ rfl _ (HX _).1 ?_)
    | fail)
  refine (cQ0 _ _ _ _ HM.out).mono ?_
  clear c0 cp0 c1 cp1 c2 cp2 c3 cp3 c4 cp4 c5 cp5 c6 cp6 c7 cp7 c8 cp8 c9 cp9 x0 xp0 x1 xp1 x2 xp2 x3 xp3 x4 xp4 x5 xp5 x6 xp6 x7 xp7 x8 xp8 x9 xp9
  rintro e w9 ⟨rfl, hb⟩
  replace gC := block_later hb gC
  replace gX := block_later hb gX
  replace hB := below_tr hB hb
  replace HM := Hid.mk (HM.out.below hb)
  clear hb
  obtain ⟨c0, c1, c2, c3, c4, c5, c6, c7, c8, c9⟩ := cells10 gC
  have cp0 := fun o => cell_alloc (o := o) c0
  have cp1 := fun o => cell_alloc (o := o) c1
  have cp2 := fun o => cell_alloc (o := o) c2
  have cp3 := fun o => cell_alloc (o := o) c3
  have cp4 := fun o => cell_alloc (o := o) c4
  have cp5 := fun o => cell_alloc (o := o) c5
  have cp6 := fun o => cell_alloc (o := o) c6
  have cp7 := fun o => cell_alloc (o := o) c7
  have cp8 := fun o => cell_alloc (o := o) c8
  have cp9 := fun o => cell_alloc (o := o) c9
  obtain ⟨x0, x1, x2, x3, x4, x5, x6, x7, x8, x9⟩ := cells10 gX
  have xp0 := fun o => cell_alloc (o := o) x0
  have xp1 := fun o => cell_alloc (o := o) x1
  have xp2 := fun o => cell_alloc (o := o) x2
  have xp3 := fun o => cell_alloc (o := o) x3
  have xp4 := fun o => cell_alloc (o := o) x4
  have xp5 := fun o => cell_alloc (o := o) x5
  have xp6 := fun o => cell_alloc (o := o) x6
  have xp7 := fun o => cell_alloc (o := o) x7
  have xp8 := fun o => cell_alloc (o := o) x8
  have xp9 := fun o => cell_alloc (o := o) x9
  go_wp2_with fail
  rw [rounds_succ]
  go_wp2_with (first
    | (refine wpList_index rfl 27 _ _ rfl _ (HX _).2.1 ?_)
    | fail)
  refine (cQ1 _ _ _ _ HM.out).mono ?_
  clear c0 cp0 c1 cp1 c2 cp2 c3 cp3 c4 cp4 c5 cp5 c6 cp6 c7 cp7 c8 cp8 c9 cp9 x0 xp0 x1 xp1 x2 xp2 x3 xp3 x4 xp4 x5 xp5 x6 xp6 x7 xp7 x8 xp8 x9 xp9
  rintro e w10 ⟨rfl, hb⟩
  replace gC := block_later hb gC
  replace gX := block_later hb gX
  replace hB := below_tr hB hb
  replace HM := Hid.mk (HM.out.below hb)
  clear hb
  obtain ⟨c0, c1, c2, c3, c4, c5, c6, c7, c8, c9⟩ := cells10 gC
  have cp0 := fun o => cell_alloc (o := o) c0
  have cp1 := fun o => cell_alloc (o := o) c1
  have cp2 := fun o => cell_alloc (o := o) c2
  have cp3 := fun o => cell_alloc (o := o) c3
  have cp4 := fun o => cell_alloc (o := o) c4
  have cp5 := fun o => cell_alloc (o := o) c5
  have cp6 := fun o => cell_alloc (o := o) c6
  have cp7 := fun o => cell_alloc (o := o) c7
  have cp8 := fun o => cell_alloc (o := o) c8
  have cp9 := fun o => cell_alloc (o := o) c9
  obtain ⟨x0, x1, x2, x3, x4, x5, x6, x7, x8, x9⟩ := cells10 gX
  have xp0 := fun o => cell_alloc (o := o) x0
  have xp1 := fun o => cell_alloc (o := o) x1
  have xp2 := fun o => cell_alloc (o := o) x2
  have xp3 := fun o => cell_alloc (o := o) x3
  have xp4 := fun o => cell_alloc (o := o) x4
  have xp5 := fun o => cell_alloc (o := o) x5
  have xp6 := fun o => cell_alloc (o := o) x6
  have xp7 := fun o => cell_alloc (o := o) x7
  have xp8 := fun o => cell_alloc (o := o) x8
  have xp9 := fun o => cell_alloc (o := o) x9
  go_wp2_with fail
  rw [rounds_succ]
  go_wp2_with (first
    | (refine wpList_index rfl 27 _ _ rfl _ (HX _).2.2.1 ?_)
    | fail)
  refine (cQ2 _ _ _ _ HM.out).mono ?_
  clear c0 cp0 c1 cp1 c2 cp2 c3 cp3 c4 cp4 c5 cp5 c6 cp6 c7 cp7 c8 cp8 c9 cp9 x0 xp0 x1 xp1 x2 xp2 x3 xp3 x4 xp4 x5 xp5 x6 xp6 x7 xp7 x8 xp8 x9 xp9
  rintro e w11 ⟨rfl, hb⟩
  replace gC := block_later hb gC
  replace gX := block_later hb gX
  replace hB := below_tr hB hb
  replace HM := Hid.mk (HM.out.below hb)
  clear hb
  obtain ⟨c0, c1, c2, c3, c4, c5, c6, c7, c8, c9⟩ := cells10 gC
  have cp0 := fun o => cell_alloc (o := o) c0
  have cp1 := fun o => cell_alloc (o := o) c1
  have cp2 := fun o => cell_alloc (o := o) c2
  have cp3 := fun o => cell_alloc (o := o) c3
  have cp4 := fun o => cell_alloc (o := o) c4
  have cp5 := fun o => cell_alloc (o := o) c5
  have cp6 := fun o => cell_alloc (o := o) c6
  have cp7 := fun o => cell_alloc (o := o) c7
  have cp8 := fun o => cell_alloc (o := o) c8
  have cp9 := fun o => cell_alloc (o := o) c9
  obtain ⟨x0, x1, x2, x3, x4, x5, x6, x7, x8, x9⟩ := cells10 gX
  have xp0 := fun o => cell_alloc (o := o) x0
  have xp1 := fun o => cell_alloc (o := o) x1
  have xp2 := fun o => cell_alloc (o := o) x2
  have xp3 := fun o => cell_alloc (o := o) x3
  have xp4 := fun o => cell_alloc (o := o) x4
  have xp5 := fun o => cell_alloc (o := o) x5
  have xp6 := fun o => cell_alloc (o := o) x6
  have xp7 := fun o => cell_alloc (o := o) x7
  have xp8 := fun o => cell_alloc (o := o) x8
  have xp9 := fun o => cell_alloc (o := o) x9
  go_wp2_with fail
  rw [rounds_succ]
  go_wp2_with (first
    | (refine wpList_index rfl 27 _ _ rfl _ (HX _).2.2.2 ?_)
    | fail)
  refine (cQ3 _ _ _ _ HM.out).mono ?_
  clear c0 cp0 c1 cp1 c2 cp2 c3 cp3 c4 cp4 c5 cp5 c6 cp6 c7 cp7 c8 cp8 c9 cp9 x0 xp0 x1 xp1 x2 xp2 x3 xp3 x4 xp4 x5 xp5 x6 xp6 x7 xp7 x8 xp8 x9 xp9
  rintro e w12 ⟨rfl, hb⟩
  replace gC := block_later hb gC
  replace gX := block_later hb gX
  replace hB := below_tr hB hb
  replace HM := Hid.mk (HM.out.below hb)
  clear hb
  obtain ⟨c0, c1, c2, c3, c4, c5, c6, c7, c8, c9⟩ := cells10 gC
  have cp0 := fun o => cell_alloc (o := o) c0
  have cp1 := fun o => cell_alloc (o := o) c1
  have cp2 := fun o => cell_alloc (o := o) c2
  have cp3 := fun o => cell_alloc (o := o) c3
  have cp4 := fun o => cell_alloc (o := o) c4
  have cp5 := fun o => cell_alloc (o := o) c5
  have cp6 := fun o => cell_alloc (o := o) c6
  have cp7 := fun o => cell_alloc (o := o) c7
  have cp8 := fun o => cell_alloc (o := o) c8
  have cp9 := fun o => cell_alloc (o := o) c9
  obtain ⟨x0, x1, x2, x3, x4, x5, x6, x7, x8, x9⟩ := cells10 gX
  have xp0 := fun o => cell_alloc (o := o) x0
  have xp1 := fun o => cell_alloc (o := o) x1
  have xp2 := fun o => cell_alloc (o := o) x2
  have xp3 := fun o => cell_alloc (o := o) x3
  have xp4 := fun o => cell_alloc (o := o) x4
  have xp5 := fun o => cell_alloc (o := o) x5
  have xp6 := fun o => cell_alloc (o := o) x6
  have xp7 := fun o => cell_alloc (o := o) x7
  have xp8 := fun o => cell_alloc (o := o) x8
  have xp9 := fun o => cell_alloc (o := o) x9
  go_wp2_with fail
  rw [rounds_succ]
  go_wp2_with fail
  refine (cL _ _ _ _ HM.out (hP.later hB)).mono ?_
  clear c0 cp0 c1 cp1 c2 cp2 c3 cp3 c4 cp4 c5 cp5 c6 cp6 c7 cp7 c8 cp8 c9 cp9 x0 xp0 x1 xp1 x2 xp2 x3 xp3 x4 xp4 x5 xp5 x6 xp6 x7 xp7 x8 xp8 x9 xp9
  rintro e w13 ⟨rfl, hb⟩
  replace gC := block_later hb gC
  replace gX := block_later hb gX
  replace hB := below_tr hB hb
  replace HM := Hid.mk (HM.out.below hb)
  clear hb
  obtain ⟨c0, c1, c2, c3, c4, c5, c6, c7, c8, c9⟩ := cells10 gC
  have cp0 := fun o => cell_alloc (o := o) c0
  have cp1 := fun o => cell_alloc (o := o) c1
  have cp2 := fun o => cell_alloc (o := o) c2
  have cp3 := fun o => cell_alloc (o := o) c3
  have cp4 := fun o => cell_alloc (o := o) c4
  have cp5 := fun o => cell_alloc (o := o) c5
  have cp6 := fun o => cell_alloc (o := o) c6
  have cp7 := fun o => cell_alloc (o := o) c7
  have cp8 := fun o => cell_alloc (o := o) c8
  have cp9 := fun o => cell_alloc (o := o) c9
  obtain ⟨x0, x1, x2, x3, x4, x5, x6, x7, x8, x9⟩ := cells10 gX
  have xp0 := fun o => cell_alloc (o := o) x0
  have xp1 := fun o => cell_alloc (o := o) x1
  have xp2 := fun o => cell_alloc (o := o) x2
  have xp3 := fun o => cell_alloc (o := o) x3
  have xp4 := fun o => cell_alloc (o := o) x4
  have xp5 := fun o => cell_alloc (o := o) x5
  have xp6 := fun o => cell_alloc (o := o) x6
  have xp7 := fun o => cell_alloc (o := o) x7
  have xp8 := fun o => cell_alloc (o := o) x8
  have xp9 := fun o => cell_alloc (o := o) x9
  go_upto_region 22 with fail
  clear c0 cp0 c1 cp1 c2 cp2 c3 cp3 c4 cp4 c5 cp5 c6 cp6 c7 cp7 c8 cp8 c9 cp9 x0 xp0 x1 xp1 x2 xp2 x3 xp3 x4 xp4 x5 xp5 x6 xp6 x7 xp7 x8 xp8 x9 xp9
  have gZ := heap_alloc_new w13 (.cells #[.int .i64 (k : Nat), .int .u64 (a : Nat), .int .i64 (b : Nat), .int .i64 (r : Nat), .int .i64 (g : Nat), .int .i64 (s : Nat), .int .u64 (m : Nat), .int .u64 (nx : Nat), .int .u64 (pv : Nat), .int .i64 (d : Nat)] 26)
  replace gC := block_later (below_new _ (.cells #[.int .i64 (k : Nat), .int .u64 (a : Nat), .int .i64 (b : Nat), .int .i64 (r : Nat), .int .i64 (g : Nat), .int .i64 (s : Nat), .int .u64 (m : Nat), .int .u64 (nx : Nat), .int .u64 (pv : Nat), .int .i64 (d : Nat)] 26)) gC
  replace gX := block_later (below_new _ (.cells #[.int .i64 (k : Nat), .int .u64 (a : Nat), .int .i64 (b : Nat), .int .i64 (r : Nat), .int .i64 (g : Nat), .int .i64 (s : Nat), .int .u64 (m : Nat), .int .u64 (nx : Nat), .int .u64 (pv : Nat), .int .i64 (d : Nat)] 26)) gX
  replace hB := below_tr hB (below_new _ (.cells #[.int .i64 (k : Nat), .int .u64 (a : Nat), .int .i64 (b : Nat), .int .i64 (r : Nat), .int .i64 (g : Nat), .int .i64 (s : Nat), .int .u64 (m : Nat), .int .u64 (nx : Nat), .int .u64 (pv : Nat), .int .i64 (d : Nat)] 26))
  replace HM := Hid.mk (HM.out.below (below_new _ (.cells #[.int .i64 (k : Nat), .int .u64 (a : Nat), .int .i64 (b : Nat), .int .i64 (r : Nat), .int .i64 (g : Nat), .int .i64 (s : Nat), .int .u64 (m : Nat), .int .u64 (nx : Nat), .int .u64 (pv : Nat), .int .i64 (d : Nat)] 26)))
  generalize w13.heap.size = Z at *
  generalize w13.alloc (.cells #[.int .i64 (k : Nat), .int .u64 (a : Nat), .int .i64 (b : Nat), .int .i64 (r : Nat), .int .i64 (g : Nat), .int .i64 (s : Nat), .int .u64 (m : Nat), .int .u64 (nx : Nat), .int .u64 (pv : Nat), .int .i64 (d : Nat)] 26) = w13a at *
  obtain ⟨c0, c1, c2, c3, c4, c5, c6, c7, c8, c9⟩ := cells10 gC
  have cp0 := fun o => cell_alloc (o := o) c0
  have cp1 := fun o => cell_alloc (o := o) c1
  have cp2 := fun o => cell_alloc (o := o) c2
  have cp3 := fun o => cell_alloc (o := o) c3
  have cp4 := fun o => cell_alloc (o := o) c4
  have cp5 := fun o => cell_alloc (o := o) c5
  have cp6 := fun o => cell_alloc (o := o) c6
  have cp7 := fun o => cell_alloc (o := o) c7
  have cp8 := fun o => cell_alloc (o := o) c8
  have cp9 := fun o => cell_alloc (o := o) c9
  obtain ⟨x0, x1, x2, x3, x4, x5, x6, x7, x8, x9⟩ := cells10 gX
  have xp0 := fun o => cell_alloc (o := o) x0
  have xp1 := fun o => cell_alloc (o := o) x1
  have xp2 := fun o => cell_alloc (o := o) x2
  have xp3 := fun o => cell_alloc (o := o) x3
  have xp4 := fun o => cell_alloc (o := o) x4
  have xp5 := fun o => cell_alloc (o := o) x5
  have xp6 := fun o => cell_alloc (o := o) x6
  have xp7 := fun o => cell_alloc (o := o) x7
  have xp8 := fun o => cell_alloc (o := o) x8
  have xp9 := fun o => cell_alloc (o := o) x9
  obtain ⟨z0, z1, z2, z3, z4, z5, z6, z7, z8, z9⟩ := cells10 gZ
  have zp0 := fun o => cell_alloc (o := o) z0
  have zp1 := fun o => cell_alloc (o := o) z1
  have zp2 := fun o => cell_alloc (o := o) z2
  have zp3 := fun o => cell_alloc (o := o) z3
  have zp4 := fun o => cell_alloc (o := o) z4
  have zp5 := fun o => cell_alloc (o := o) z5
  have zp6 := fun o => cell_alloc (o := o) z6
  have zp7 := fun o => cell_alloc (o := o) z7
  have zp8 := fun o => cell_alloc (o := o) z8
  have zp9 := fun o => cell_alloc (o := o) z9
  clear c0 cp0 c1 cp1 c2 cp2 c3 cp3 c4 cp4 c5 cp5 c6 cp6 c7 cp7 c8 cp8 c9 cp9 x0 xp0 x1 xp1 x2 xp2 x3 xp3 x4 xp4 x5 xp5 x6 xp6 x7 xp7 x8 xp8 x9 xp9 z0 zp0 z1 zp1 z2 zp2 z3 zp3 z4 zp4 z5 zp5 z6 zp6 z7 zp7 z8 zp8 z9 zp9
  clear HM HX cA cO cM cI cV cD cW cL cQ0 cQ1 cQ2 cQ3
  generalize w13a = WD at *
  obtain ⟨k0, k1, k2, k3, k4, k5, k6, k7, k8, k9⟩ := cells10 gC
  obtain ⟨k10, k11, k12, k13, k14, k15, k16, k17, k18, k19⟩ := cells10 gX
  obtain ⟨k20, k21, k22, k23, k24, k25, k26, k27, k28, k29⟩ := cells10 gZ
  refine wp_region_noPanic ?_
  refine wp_region_held_drew (S := (fun w' => w'.cell? ⟨w.heap.size, 0, none⟩ = some (.int .i64 (k : Nat)) ∧ w'.cell? ⟨w.heap.size, 1, none⟩ = some (.int .u64 (a : Nat)) ∧ w'.cell? ⟨w.heap.size, 2, none⟩ = some (.int .i64 (b : Nat)) ∧ w'.cell? ⟨w.heap.size, 3, none⟩ = some (.int .i64 (r : Nat)) ∧ w'.cell? ⟨w.heap.size, 4, none⟩ = some (.int .i64 (g : Nat)) ∧ w'.cell? ⟨w.heap.size, 5, none⟩ = some (.int .i64 (s : Nat)) ∧ w'.cell? ⟨w.heap.size, 6, none⟩ = some (.int .u64 (m : Nat)) ∧ w'.cell? ⟨w.heap.size, 7, none⟩ = some (.int .u64 (nx : Nat)) ∧ w'.cell? ⟨w.heap.size, 8, none⟩ = some (.int .u64 (pv : Nat)) ∧ w'.cell? ⟨w.heap.size, 9, none⟩ = some (.int .i64 (d : Nat)) ∧ w'.cell? ⟨X, 0, none⟩ = some (.int .i64 (k : Nat)) ∧ w'.cell? ⟨X, 1, none⟩ = some (.int .u64 (a : Nat)) ∧ w'.cell? ⟨X, 2, none⟩ = some (.int .i64 (b : Nat)) ∧ w'.cell? ⟨X, 3, none⟩ = some (.int .i64 (r : Nat)) ∧ w'.cell? ⟨X, 4, none⟩ = some (.int .i64 (g : Nat)) ∧ w'.cell? ⟨X, 5, none⟩ = some (.int .i64 (s : Nat)) ∧ w'.cell? ⟨X, 6, none⟩ = some (.int .u64 (m : Nat)) ∧ w'.cell? ⟨X, 7, none⟩ = some (.int .u64 (nx : Nat)) ∧ w'.cell? ⟨X, 8, none⟩ = some (.int .u64 (pv : Nat)) ∧ w'.cell? ⟨X, 9, none⟩ = some (.int .i64 (d : Nat)) ∧ w'.cell? ⟨Z, 0, none⟩ = some (.int .i64 (k : Nat)) ∧ w'.cell? ⟨Z, 1, none⟩ = some (.int .u64 (a : Nat)) ∧ w'.cell? ⟨Z, 2, none⟩ = some (.int .i64 (b : Nat)) ∧ w'.cell? ⟨Z, 3, none⟩ = some (.int .i64 (r : Nat)) ∧ w'.cell? ⟨Z, 4, none⟩ = some (.int .i64 (g : Nat)) ∧ w'.cell? ⟨Z, 5, none⟩ = some (.int .i64 (s : Nat)) ∧ w'.cell? ⟨Z, 6, none⟩ = some (.int .u64 (m : Nat)) ∧ w'.cell? ⟨Z, 7, none⟩ = some (.int .u64 (nx : Nat)) ∧ w'.cell? ⟨Z, 8, none⟩ = some (.int .u64 (pv : Nat)) ∧ w'.cell? ⟨Z, 9, none⟩ = some (.int .i64 (d : Nat)))) (by kernel_rfl) ?_ (fun hHeld => ?_)
  · exact ⟨cell_later (Below.refl _ _).drew k0, cell_later (Below.refl _ _).drew k1, cell_later (Below.refl _ _).drew k2, cell_later (Below.refl _ _).drew k3, cell_later (Below.refl _ _).drew k4, cell_later (Below.refl _ _).drew k5, cell_later (Below.refl _ _).drew k6, cell_later (Below.refl _ _).drew k7, cell_later (Below.refl _ _).drew k8, cell_later (Below.refl _ _).drew k9, cell_later (Below.refl _ _).drew k10, cell_later (Below.refl _ _).drew k11, cell_later (Below.refl _ _).drew k12, cell_later (Below.refl _ _).drew k13, cell_later (Below.refl _ _).drew k14, cell_later (Below.refl _ _).drew k15, cell_later (Below.refl _ _).drew k16, cell_later (Below.refl _ _).drew k17, cell_later (Below.refl _ _).drew k18, cell_later (Below.refl _ _).drew k19, cell_later (Below.refl _ _).drew k20, cell_later (Below.refl _ _).drew k21, cell_later (Below.refl _ _).drew k22, cell_later (Below.refl _ _).drew k23, cell_later (Below.refl _ _).drew k24, cell_later (Below.refl _ _).drew k25, cell_later (Below.refl _ _).drew k26, cell_later (Below.refl _ _).drew k27, cell_later (Below.refl _ _).drew k28, cell_later (Below.refl _ _).drew k29⟩
  replace k0 := cell_later (Below.refl _ WD).drew k0
  replace k1 := cell_later (Below.refl _ WD).drew k1
  replace k2 := cell_later (Below.refl _ WD).drew k2
  replace k3 := cell_later (Below.refl _ WD).drew k3
  replace k4 := cell_later (Below.refl _ WD).drew k4
  replace k5 := cell_later (Below.refl _ WD).drew k5
  replace k6 := cell_later (Below.refl _ WD).drew k6
  replace k7 := cell_later (Below.refl _ WD).drew k7
  replace k8 := cell_later (Below.refl _ WD).drew k8
  replace k9 := cell_later (Below.refl _ WD).drew k9
  replace k10 := cell_later (Below.refl _ WD).drew k10
  replace k11 := cell_later (Below.refl _ WD).drew k11
  replace k12 := cell_later (Below.refl _ WD).drew k12
  replace k13 := cell_later (Below.refl _ WD).drew k13
  replace k14 := cell_later (Below.refl _ WD).drew k14
  replace k15 := cell_later (Below.refl _ WD).drew k15
  replace k16 := cell_later (Below.refl _ WD).drew k16
  replace k17 := cell_later (Below.refl _ WD).drew k17
  replace k18 := cell_later (Below.refl _ WD).drew k18
  replace k19 := cell_later (Below.refl _ WD).drew k19
  replace k20 := cell_later (Below.refl _ WD).drew k20
  replace k21 := cell_later (Below.refl _ WD).drew k21
  replace k22 := cell_later (Below.refl _ WD).drew k22
  replace k23 := cell_later (Below.refl _ WD).drew k23
  replace k24 := cell_later (Below.refl _ WD).drew k24
  replace k25 := cell_later (Below.refl _ WD).drew k25
  replace k26 := cell_later (Below.refl _ WD).drew k26
  replace k27 := cell_later (Below.refl _ WD).drew k27
  replace k28 := cell_later (Below.refl _ WD).drew k28
  replace k29 := cell_later (Below.refl _ WD).drew k29
  replace hB := below_tr hB (Below.refl _ WD).drew
  generalize WD.drew = Wd at *
  refine take_at (i := 0) (v := ?_) 90 rfl rfl (by kernel_rfl) (by kernel_rfl) (by kernel_rfl) (fun _ _ _ h => h) (Or.inl ⟨by rfl, ?_⟩) (by assumption) ?_
  rotate_left
  · (intro w' hSw; (try dsimp only at hSw); go_simp; all_goals with_reducible rfl)
  try simp only [Act.put, List.setIfInBounds_toArray, List.set_cons_zero, List.set_cons_succ]
  refine take_at (i := 1) (v := ?_) 91 rfl rfl (by kernel_rfl) (by kernel_rfl) (by kernel_rfl) (fun _ _ _ h => h) (Or.inl ⟨by rfl, ?_⟩) (by assumption) ?_
  rotate_left
  · (intro w' hSw; (try dsimp only at hSw); go_simp; all_goals with_reducible rfl)
  try simp only [Act.put, List.setIfInBounds_toArray, List.set_cons_zero, List.set_cons_succ]
  refine take_at (i := 2) (v := ?_) 92 rfl rfl (by kernel_rfl) (by kernel_rfl) (by kernel_rfl) (fun _ _ _ h => h) (Or.inl ⟨by rfl, ?_⟩) (by assumption) ?_
  rotate_left
  · (intro w' hSw; (try dsimp only at hSw); go_simp; all_goals with_reducible rfl)
  try simp only [Act.put, List.setIfInBounds_toArray, List.set_cons_zero, List.set_cons_succ]
  refine take_at (i := 3) (v := ?_) 93 rfl rfl (by kernel_rfl) (by kernel_rfl) (by kernel_rfl) (fun _ _ _ h => h) (Or.inl ⟨by rfl, ?_⟩) (by assumption) ?_
  rotate_left
  · (intro w' hSw; (try dsimp only at hSw); go_simp; all_goals with_reducible rfl)
  try simp only [Act.put, List.setIfInBounds_toArray, List.set_cons_zero, List.set_cons_succ]
  refine wpAnyH_ready (rs := [4]) (by kernel_rfl) (by simp) ?_
  refine AllReadyH.cons rfl (fun K hK => ?_) AllReadyH.nil
  go_simp
  refine (cR _).mono ?_
  rintro e wc1 ⟨rfl, hb⟩
  go_wp2_with fail
  replace k0 := cell_later hb k0
  replace k1 := cell_later hb k1
  replace k2 := cell_later hb k2
  replace k3 := cell_later hb k3
  replace k4 := cell_later hb k4
  replace k5 := cell_later hb k5
  replace k6 := cell_later hb k6
  replace k7 := cell_later hb k7
  replace k8 := cell_later hb k8
  replace k9 := cell_later hb k9
  replace k10 := cell_later hb k10
  replace k11 := cell_later hb k11
  replace k12 := cell_later hb k12
  replace k13 := cell_later hb k13
  replace k14 := cell_later hb k14
  replace k15 := cell_later hb k15
  replace k16 := cell_later hb k16
  replace k17 := cell_later hb k17
  replace k18 := cell_later hb k18
  replace k19 := cell_later hb k19
  replace k20 := cell_later hb k20
  replace k21 := cell_later hb k21
  replace k22 := cell_later hb k22
  replace k23 := cell_later hb k23
  replace k24 := cell_later hb k24
  replace k25 := cell_later hb k25
  replace k26 := cell_later hb k26
  replace k27 := cell_later hb k27
  replace k28 := cell_later hb k28
  replace k29 := cell_later hb k29
  replace hB := below_tr hB hb
  refine hK.out _ _ ⟨k0, k1, k2, k3, k4, k5, k6, k7, k8, k9, k10, k11, k12, k13, k14, k15, k16, k17, k18, k19, k20, k21, k22, k23, k24, k25, k26, k27, k28, k29⟩ (fun hHeld1 => ?_)
  clear hK
  try simp only [Act.put, List.setIfInBounds_toArray, List.set_cons_zero, List.set_cons_succ]
  refine take_at (i := 5) (v := ?_) 95 rfl rfl (by kernel_rfl) (by kernel_rfl) (by kernel_rfl) (fun _ _ _ h => h) (Or.inl ⟨by rfl, ?_⟩) (by assumption) ?_
  rotate_left
  · (intro w' hSw; (try dsimp only at hSw); go_simp; all_goals with_reducible rfl)
  try simp only [Act.put, List.setIfInBounds_toArray, List.set_cons_zero, List.set_cons_succ]
  refine take_at (i := 6) (v := ?_) 96 rfl rfl (by kernel_rfl) (by kernel_rfl) (by kernel_rfl) (fun _ _ _ h => h) (Or.inl ⟨by rfl, ?_⟩) (by assumption) ?_
  rotate_left
  · (intro w' hSw; (try dsimp only at hSw); go_simp; all_goals with_reducible rfl)
  try simp only [Act.put, List.setIfInBounds_toArray, List.set_cons_zero, List.set_cons_succ]
  refine take_at (i := 7) (v := ?_) 97 rfl rfl (by kernel_rfl) (by kernel_rfl) (by kernel_rfl) (fun _ _ _ h => h) (Or.inl ⟨by rfl, ?_⟩) (by assumption) ?_
  rotate_left
  · (intro w' hSw; (try dsimp only at hSw); go_simp; all_goals with_reducible rfl)
  try simp only [Act.put, List.setIfInBounds_toArray, List.set_cons_zero, List.set_cons_succ]
  refine take_at (i := 8) (v := ?_) 98 rfl rfl (by kernel_rfl) (by kernel_rfl) (by kernel_rfl) (fun _ _ _ h => h) (Or.inl ⟨by rfl, ?_⟩) (by assumption) ?_
  rotate_left
  · (intro w' hSw; (try dsimp only at hSw); go_simp; all_goals with_reducible rfl)
  try simp only [Act.put, List.setIfInBounds_toArray, List.set_cons_zero, List.set_cons_succ]
  refine take_at (i := 9) (v := ?_) 99 rfl rfl (by kernel_rfl) (by kernel_rfl) (by kernel_rfl) (fun _ _ _ h => h) (Or.inl ⟨by rfl, ?_⟩) (by assumption) ?_
  rotate_left
  · (intro w' hSw; (try dsimp only at hSw); go_simp; all_goals with_reducible rfl)
  try simp only [Act.put, List.setIfInBounds_toArray, List.set_cons_zero, List.set_cons_succ]
  refine take_at (i := 10) (v := ?_) 100 rfl rfl (by kernel_rfl) (by kernel_rfl) (by kernel_rfl) (fun _ _ _ h => h) (Or.inl ⟨by rfl, ?_⟩) (by assumption) ?_
  rotate_left
  · (intro w' hSw; (try dsimp only at hSw); go_simp; all_goals with_reducible rfl)
  try simp only [Act.put, List.setIfInBounds_toArray, List.set_cons_zero, List.set_cons_succ]
  refine take_at (i := 11) (v := ?_) 101 rfl rfl (by kernel_rfl) (by kernel_rfl) (by kernel_rfl) (fun _ _ _ h => h) (Or.inl ⟨by rfl, ?_⟩) (by assumption) ?_
  rotate_left
  · (intro w' hSw; (try dsimp only at hSw); go_simp; all_goals with_reducible rfl)
  try simp only [Act.put, List.setIfInBounds_toArray, List.set_cons_zero, List.set_cons_succ]
  refine take_at (i := 12) (v := ?_) 102 rfl rfl (by kernel_rfl) (by kernel_rfl) (by kernel_rfl) (fun _ _ _ h => h) (Or.inl ⟨by rfl, ?_⟩) (by assumption) ?_
  rotate_left
  · (intro w' hSw; (try dsimp only at hSw); go_simp; all_goals with_reducible rfl)
  try simp only [Act.put, List.setIfInBounds_toArray, List.set_cons_zero, List.set_cons_succ]
  refine take_at (i := 13) (v := ?_) 103 rfl rfl (by kernel_rfl) (by kernel_rfl) (by kernel_rfl) (fun _ _ _ h => h) (Or.inl ⟨by rfl, ?_⟩) (by assumption) ?_
  rotate_left
  · (intro w' hSw; (try dsimp only at hSw); go_simp; all_goals with_reducible rfl)
  try simp only [Act.put, List.setIfInBounds_toArray, List.set_cons_zero, List.set_cons_succ]
  refine take_at (i := 14) (v := ?_) 104 rfl rfl (by kernel_rfl) (by kernel_rfl) (by kernel_rfl) (fun _ _ _ h => h) (Or.inl ⟨by rfl, ?_⟩) (by assumption) ?_
  rotate_left
  · (intro w' hSw; (try dsimp only at hSw); go_simp; all_goals with_reducible rfl)
  try simp only [Act.put, List.setIfInBounds_toArray, List.set_cons_zero, List.set_cons_succ]
  refine take_at (i := 15) (v := ?_) 105 rfl rfl (by kernel_rfl) (by kernel_rfl) (by kernel_rfl) (fun _ _ _ h => h) (Or.inl ⟨by rfl, ?_⟩) (by assumption) ?_
  rotate_left
  · (intro w' hSw; (try dsimp only at hSw); go_simp; all_goals with_reducible rfl)
  try simp only [Act.put, List.setIfInBounds_toArray, List.set_cons_zero, List.set_cons_succ]
  refine take_at (i := 16) (v := ?_) 106 rfl rfl (by kernel_rfl) (by kernel_rfl) (by kernel_rfl) (fun _ _ _ h => h) (Or.inl ⟨by rfl, ?_⟩) (by assumption) ?_
  rotate_left
  · (intro w' hSw; (try dsimp only at hSw); go_simp; all_goals with_reducible rfl)
  try simp only [Act.put, List.setIfInBounds_toArray, List.set_cons_zero, List.set_cons_succ]
  refine take_at (i := 18) (v := ?_) 108 rfl rfl (by kernel_rfl) (by kernel_rfl) (by kernel_rfl) (fun _ _ _ h => h) (Or.inl ⟨by rfl, ?_⟩) (by assumption) ?_
  rotate_left
  · (intro w' hSw; (try dsimp only at hSw); go_simp; all_goals with_reducible rfl)
  try simp only [Act.put, List.setIfInBounds_toArray, List.set_cons_zero, List.set_cons_succ]
  refine take_at (i := 19) (v := ?_) 109 rfl rfl (by kernel_rfl) (by kernel_rfl) (by kernel_rfl) (fun _ _ _ h => h) (Or.inl ⟨by rfl, ?_⟩) (by assumption) ?_
  rotate_left
  · (intro w' hSw; (try dsimp only at hSw); go_simp; all_goals with_reducible rfl)
  try simp only [Act.put, List.setIfInBounds_toArray, List.set_cons_zero, List.set_cons_succ]
  refine take_at (i := 20) (v := ?_) 110 rfl rfl (by kernel_rfl) (by kernel_rfl) (by kernel_rfl) (fun _ _ _ h => h) (Or.inl ⟨by rfl, ?_⟩) (by assumption) ?_
  rotate_left
  · (intro w' hSw; (try dsimp only at hSw); go_simp; all_goals with_reducible rfl)
  try simp only [Act.put, List.setIfInBounds_toArray, List.set_cons_zero, List.set_cons_succ]
  refine wpAnyH_ready (rs := [17]) (by kernel_rfl) (by simp) ?_
  refine AllReadyH.cons rfl (fun K hK => ?_) AllReadyH.nil
  go_simp
  refine (cE _).mono ?_
  rintro e wc2 ⟨rfl, hb⟩
  go_wp2_with fail
  replace k0 := cell_later hb k0
  replace k1 := cell_later hb k1
  replace k2 := cell_later hb k2
  replace k3 := cell_later hb k3
  replace k4 := cell_later hb k4
  replace k5 := cell_later hb k5
  replace k6 := cell_later hb k6
  replace k7 := cell_later hb k7
  replace k8 := cell_later hb k8
  replace k9 := cell_later hb k9
  replace k10 := cell_later hb k10
  replace k11 := cell_later hb k11
  replace k12 := cell_later hb k12
  replace k13 := cell_later hb k13
  replace k14 := cell_later hb k14
  replace k15 := cell_later hb k15
  replace k16 := cell_later hb k16
  replace k17 := cell_later hb k17
  replace k18 := cell_later hb k18
  replace k19 := cell_later hb k19
  replace k20 := cell_later hb k20
  replace k21 := cell_later hb k21
  replace k22 := cell_later hb k22
  replace k23 := cell_later hb k23
  replace k24 := cell_later hb k24
  replace k25 := cell_later hb k25
  replace k26 := cell_later hb k26
  replace k27 := cell_later hb k27
  replace k28 := cell_later hb k28
  replace k29 := cell_later hb k29
  replace hB := below_tr hB hb
  refine hK.out _ _ ⟨k0, k1, k2, k3, k4, k5, k6, k7, k8, k9, k10, k11, k12, k13, k14, k15, k16, k17, k18, k19, k20, k21, k22, k23, k24, k25, k26, k27, k28, k29⟩ (fun hHeld2 => ?_)
  clear hK
  try simp only [Act.put, List.setIfInBounds_toArray, List.set_cons_zero, List.set_cons_succ]
  refine take_at (i := 21) (v := ?_) 111 rfl rfl (by kernel_rfl) (by kernel_rfl) (by kernel_rfl) (fun _ _ _ h => h) (Or.inl ⟨by rfl, ?_⟩) (by assumption) ?_
  rotate_left
  · (intro w' hSw; (try dsimp only at hSw); go_simp; all_goals with_reducible rfl)
  try simp only [Act.put, List.setIfInBounds_toArray, List.set_cons_zero, List.set_cons_succ]
  refine take_at (i := 22) (v := ?_) 112 rfl rfl (by kernel_rfl) (by kernel_rfl) (by kernel_rfl) (fun _ _ _ h => h) (Or.inl ⟨by rfl, ?_⟩) (by assumption) ?_
  rotate_left
  · (intro w' hSw; (try dsimp only at hSw); go_simp; all_goals with_reducible rfl)
  try simp only [Act.put, List.setIfInBounds_toArray, List.set_cons_zero, List.set_cons_succ]
  refine take_at (i := 23) (v := ?_) 6 rfl rfl (by kernel_rfl) (by kernel_rfl) (by kernel_rfl) (fun _ _ _ h => h) (Or.inl ⟨by rfl, ?_⟩) (by assumption) ?_
  rotate_left
  · (intro w' hSw; (try dsimp only at hSw); go_simp; all_goals with_reducible rfl)
  try simp only [Act.put, List.setIfInBounds_toArray, List.set_cons_zero, List.set_cons_succ]
  refine wpAnyH_done (by kernel_rfl) ?_ _
  refine NoPanic.normal ?_
  go_wp2
  go_ret
  exact ⟨rfl, hB⟩

theorem walk (x : Nat) (k : Int) (a : Nat) (b r g s : Int) (m nx pv : Nat) (d : Int) (A B C D : Nat) (w : World) (hx : x < 18446744073709551616) (ha : a < 18446744073709551616) (hm : m < 18446744073709551616) (hnx : nx < 18446744073709551616) (hpv : pv < 18446744073709551616) (hA : A < 18446744073709551616) (hB0 : B < 18446744073709551616) (hC : C < 18446744073709551616) (hD : D < 18446744073709551616) (hP : SPrts w) : Calls Tryd.prog 3 #[.int .u64 (x : Nat), .agg #[.int .i64 k, .int .u64 (a : Nat), .int .i64 b, .int .i64 r, .int .i64 g, .int .i64 s, .int .u64 (m : Nat), .int .u64 (nx : Nat), .int .u64 (pv : Nat), .int .i64 d], .agg #[.int .u64 (A : Nat), .int .u64 (B : Nat), .int .u64 (C : Nat), .int .u64 (D : Nat)]] w fun e w' => e = .returned (.bool true) ∧ Below w.heap.size w w' := by
  by_cases hE : sE 65536 x = 0
  · cases hs : sB k a b r g s m nx pv d
    · exact walk_bad x k a b r g s m nx pv d A B C D w hx hA hB0 hC hD ha hm hnx hpv hP hE hs
    · obtain ⟨hc, h1, h2, h3, h4⟩ := (s_iff _ _ _ _ _ _ _ _ _ _).1 hs
      obtain ⟨K, B', R, G, S, rfl, rfl, rfl, rfl, rfl, hR⟩ := right_nats hm hc
      obtain ⟨d', rfl⟩ := Int.eq_ofNat_of_zero_le h3
      exact walk_ok x _ _ _ rfl rfl rfl A B C D w hx hA hB0 hC hD hP hE hR hc h1 h2 (by omega) _ rfl
  · exact walk_no x k a b r g s m nx pv d A B C D w hx hA hB0 hC hD ha hm hnx hpv hP rfl hE

theorem met {W : World} (h : laidMet Tryd.prog Rows.slotStoresRow.laid W) : SPrts W := by
  have h0 := part_of_reads (g := 2) (by kernel_rfl) (by kernel_rfl) (Lib.laidMet.reads h (n := "portreeve/cap.kindPart") (d := Rows.laid_portreeve_cap_kindPart) (by simp [Rows.slotStoresRow]))
  have h1 := part_of_reads (g := 3) (by kernel_rfl) (by kernel_rfl) (Lib.laidMet.reads h (n := "portreeve/cap.bitsPart") (d := Rows.laid_portreeve_cap_bitsPart) (by simp [Rows.slotStoresRow]))
  have h2 := part_of_reads (g := 4) (by kernel_rfl) (by kernel_rfl) (Lib.laidMet.reads h (n := "portreeve/cap.rightsPart") (d := Rows.laid_portreeve_cap_rightsPart) (by simp [Rows.slotStoresRow]))
  have h3 := part_of_reads (g := 5) (by kernel_rfl) (by kernel_rfl) (Lib.laidMet.reads h (n := "portreeve/cap.guardPart") (d := Rows.laid_portreeve_cap_guardPart) (by simp [Rows.slotStoresRow]))
  have h4 := part_of_reads (g := 6) (by kernel_rfl) (by kernel_rfl) (Lib.laidMet.reads h (n := "portreeve/cap.asidPart") (d := Rows.laid_portreeve_cap_asidPart) (by simp [Rows.slotStoresRow]))
  have h5 := part_of_reads (g := 7) (by kernel_rfl) (by kernel_rfl) (Lib.laidMet.reads h (n := "portreeve/cap.atPart") (d := Rows.laid_portreeve_cap_atPart) (by simp [Rows.slotStoresRow]))
  have g0 := two_of_reads (g := 0) (by kernel_rfl) (by kernel_rfl) (Lib.laidMet.reads h (n := "portreeve/slot.nextPart") (d := Rows.laid_portreeve_slot_nextPart) (by simp [Rows.slotStoresRow]))
  have g1 := two_of_reads (g := 1) (by kernel_rfl) (by kernel_rfl) (Lib.laidMet.reads h (n := "portreeve/slot.prevPart") (d := Rows.laid_portreeve_slot_prevPart) (by simp [Rows.slotStoresRow]))
  exact ⟨⟨h0.1, h0.2.1, h0.2.2, h1.1, h1.2.1, h1.2.2, h2.1, h2.2.1, h2.2.2, h3.1, h3.2.1, h3.2.2, h4.1, h4.2.1, h4.2.2, h5.1, h5.2.1, h5.2.2⟩, g0.1, g0.2, g1.1, g1.2⟩

theorem own : ownKnob Tryd.prog.godebug = none := by kernel_rfl
theorem laidOut : laidOutB Tryd.prog = true := by kernel_rfl

set_option linter.unusedVariables false in
set_option maxRecDepth 100000 in
set_option maxHeartbeats 4000000 in
theorem contract (H : Type) (enc : TypeId × Value → H) (W : World) (base : Nat) (args : Array Value) (ds gs : List (DataW H)) (before : List MemPlace)
    (hval0 : ∀ (j : Nat) t v, Tryd.f3.params[j]? = some t → args[j]? = some v → Value.okWide Tryd.prog W .any base t v)
    (hW : DataW.Whole enc Tryd.prog Tryd.f3.params.toList Rows.slotStoresSpec.vars false W args.toList ds gs before) (hL0 : laidMetH Tryd.prog Rows.slotStoresRow.laid W) :
    Calls Tryd.prog 3 args W fun e W' => ∃ v, e = .returned v ∧ Rows.slotStoresSpec.post enc Tryd.prog Tryd.f3 false true false false W args v W' := by
  have hL := hL0
  rw [MakeChecks.laidMetH_plain _ _ _ (by kernel_rfl)] at hL
  have hval := hval0
  have hW' := hW
  obtain ⟨p, q, hA0, hV, rfl, hfz, hnd⟩ := hW
  have hA : DataW.TrodAll enc Tryd.prog W 0 (fun _ => true) true Tryd.f3.params.toList args.toList ds p := hA0
  rw [Tryd.params3] at hA hval
  obtain ⟨v0, vs0, d0, ds0, p0, q0, hargs, rfl, rfl, h0, r0⟩ := trodAll_cons hA
  obtain ⟨v1, vs1, d1, ds1, p1, q1, rfl, rfl, rfl, h1, r1⟩ := trodAll_cons r0
  obtain ⟨v2, vs2, d2, ds2, p2, q2, rfl, rfl, rfl, h2, r2⟩ := trodAll_cons r1
  obtain ⟨rfl, rfl, rfl⟩ := trodAll_nil r2
  obtain rfl : args = #[v0, v1, v2] := by cases args; simp_all
  obtain ⟨rfl, rfl⟩ := trodVars_none hV
  have k0 := h0
  have lt0 : ∀ x ∈ p0, x.block < W.heap.size := by obtain ⟨m, hm⟩ := k0; exact DataW.trod_lt m _ _ _ hm
  have k1 := h1
  have lt1 : ∀ x ∈ p1, x.block < W.heap.size := by obtain ⟨m, hm⟩ := k1; exact DataW.trod_lt m _ _ _ hm
  have k2 := h2
  have lt2 : ∀ x ∈ p2, x.block < W.heap.size := by obtain ⟨m, hm⟩ := k2; exact DataW.trod_lt m _ _ _ hm
  obtain ⟨a0, rfl, _, _, w0⟩ := open_int Tryd.underlying22 (hval 0 22 v0 rfl rfl) h0
  obtain ⟨x0, rfl⟩ := Int.eq_ofNat_of_zero_le (bounds_u64 w0).1
  have b0 : x0 < 18446744073709551616 := by have := (bounds_u64 w0).2; omega
  obtain ⟨ck1, ca1, cb1, cr1, cg1, cs1', cm1, cn1, cp1, cd1, rfl, b1, bm1, bn1, bp1⟩ := open_slot (hval 1 26 v1 rfl rfl) h1
  obtain ⟨xa2, xb2, xc2, xd2, rfl, ba2, bb2, bc2, bd2⟩ := open_arr4 (hval 2 27 v2 rfl rfl) h2
  clear hA0 hval0
  refine (walk x0 ck1 ca1 cb1 cr1 cg1 cs1' cm1 cn1 cp1 cd1 xa2 xb2 xc2 xd2 W b0 b1 bm1 bn1 bp1 ba2 bb2 bc2 bd2 (met hL)).mono fun e W' ⟨he, bel⟩ => ?_
  subst he
  exact ⟨_, rfl, _, _, _, [], _, [], hW', trodAll_mk1 (shut_bool Tryd.underlying4 _), (trodAll_cons_mk (Below.trod laidOut (by kernel_rfl) (of_decide_eq_true (by kernel_rfl)) k0 bel lt0) (trodAll_cons_mk (Below.trod laidOut (by kernel_rfl) (of_decide_eq_true (by kernel_rfl)) k1 bel lt1) (trodAll_cons_mk (Below.trod laidOut (by kernel_rfl) (of_decide_eq_true (by kernel_rfl)) k2 bel lt2) trodAll_mk0))), rfl, bel.frame _, fun h => by cases h⟩

theorem laid_met (os : Os) : laidMet Tryd.prog Rows.slotStoresRow.laid ((World.laidAll Tryd.prog os Rows.slotStoresRow.laid).forCall (fun _ _ => 0) ⟨#[], #[.int .u64 0, .agg #[.int .i64 0, .int .u64 0, .int .i64 0, .int .i64 0, .int .i64 0, .int .i64 0, .int .u64 0, .int .u64 0, .int .u64 0, .int .i64 0], .agg #[.int .u64 0, .int .u64 0, .int .u64 0, .int .u64 0]], []⟩).memory :=
  laidMet_laidAll _ (by kernel_rfl) (by kernel_rfl)
theorem reads (os : Os) {H : Type} (enc : TypeId × Value → H) : ∃ places, DataW.whole enc Tryd.prog ((World.laidAll Tryd.prog os Rows.slotStoresRow.laid).forCall (fun _ _ => 0) ⟨#[], #[.int .u64 0, .agg #[.int .i64 0, .int .u64 0, .int .i64 0, .int .i64 0, .int .i64 0, .int .i64 0, .int .u64 0, .int .u64 0, .int .u64 0, .int .i64 0], .agg #[.int .u64 0, .int .u64 0, .int .u64 0, .int .u64 0]], []⟩).memory Tryd.f3.params.toList Rows.slotStoresSpec.vars false (#[.int .u64 0, .agg #[.int .i64 0, .int .u64 0, .int .i64 0, .int .i64 0, .int .i64 0, .int .i64 0, .int .u64 0, .int .u64 0, .int .u64 0, .int .i64 0], .agg #[.int .u64 0, .int .u64 0, .int .u64 0, .int .u64 0]] : Array Value).toList 8 = some ([.lit (.int .u64 0), .agg [.agg [.lit (.int .i64 0), .lit (.int .u64 0), .lit (.int .i64 0), .lit (.int .i64 0), .lit (.int .i64 0), .lit (.int .i64 0), .lit (.int .u64 0)], .lit (.int .u64 0), .lit (.int .u64 0), .lit (.int .i64 0)], .agg [.lit (.int .u64 0), .lit (.int .u64 0), .lit (.int .u64 0), .lit (.int .u64 0)]], [], places) :=
  ⟨[], by kernel_rfl⟩

set_option maxRecDepth 100000 in
theorem lifted (os : Os) (started : os.Started) (H : Type) (enc : TypeId × Value → H) (F : Stop.Interp) :
    ReturnsInHanded {} Tryd.checked os 3 .any ((OpenSpec.ofChange Rows.slotStoresSpec).preRow enc Tryd.prog Tryd.f3 Rows.slotStoresRow.domain false Rows.slotStoresRow.laid) (((OpenSpec.ofChange Rows.slotStoresSpec).at F).post enc Tryd.prog Tryd.f3 false true false false) := by
  obtain ⟨places, hx⟩ := reads os enc
  refine returnsInHanded_of_row (C := Tryd.checked) (s := (OpenSpec.ofChange Rows.slotStoresSpec)) own started (by kernel_rfl) Tryd.func3
    (witness_row_at (enc := enc) (C := Tryd.checked) false (World.laidAll Tryd.prog os Rows.slotStoresRow.laid) #[.int .u64 0, .agg #[.int .i64 0, .int .u64 0, .int .i64 0, .int .i64 0, .int .i64 0, .int .i64 0, .int .u64 0, .int .u64 0, .int .u64 0, .int .i64 0], .agg #[.int .u64 0, .int .u64 0, .int .u64 0, .int .u64 0]] (World.laidAll_os _ _ _) (by kernel_rfl) (by kernel_rfl) (by kernel_rfl)
      (OpenSpec.preRow_of_cond 8 hx (by kernel_rfl) (fun k hk => by cases hk) (by kernel_rfl) (laid_met os))) ?_
  intro W base args ds gs before hval hW _ _ _ hL _ _
  exact contract H enc W base args ds gs before hval hW hL

theorem said : Rows.SlotStoresSaid :=
  OpenClaim.holds_of_cond 3 Tryd.f3 rfl rfl rfl rfl rfl rfl rfl ⟨rfl, rfl, rfl, rfl, rfl⟩ rfl rfl rfl rfl rfl (by kernel_rfl) Tryd.func3 (by kernel_rfl)
    (of_decide_eq_true (by kernel_rfl)) (by unfold Func.isWrapper; first | (rw [if_pos (by decide +kernel)]; kernel_rfl) | (rw [if_neg (by decide +kernel)]; exact ⟨rfl, rfl⟩))
    (fun os started H enc _ F => by rw [OpenClaim.pre_eq_preRow]; exact lifted os started H enc F)

theorem plain (f : FuncId) (fn : Func) (hf : Tryd.pinned.checked.prog.funcNamed "portreeve/portreevelaw12.SlotStores" = some f) (hfn : Tryd.pinned.checked.prog.funcs[f]? = some fn) :
    false = Tryd.pinned.checked.prog.looks [] ∧ ∀ (j : Nat) t, fn.params[j]? = some t → Tryd.pinned.checked.prog.wantsStandIn t = false := by
  obtain rfl : f = 3 := Option.some.inj ((show Tryd.prog.funcNamed "portreeve/portreevelaw12.SlotStores" = some 3 by kernel_rfl).symm.trans hf) |>.symm
  obtain rfl : fn = Tryd.f3 := (Option.some.inj (Tryd.func3.symm.trans hfn)).symm
  refine ⟨by kernel_rfl, fun j t ht => ?_⟩
  rw [Tryd.params3] at ht
  have hm : t ∈ [22, 26, 27] := by simpa using Array.mem_of_getElem? ht
  have hall : ([22, 26, 27].all fun u => !Tryd.prog.wantsStandIn u) = true := by kernel_rfl
  exact (show Tryd.prog.wantsStandIn t = false by simpa using List.all_eq_true.1 hall t hm)

theorem card : Rows.SlotStoresCardSaid :=
  Claim7.holds_tied_plain_at .later [] _ _ _ _ said (fun _ h => by cases h) (by kernel_rfl) (fun _ h => by cases h) slotStores_row_tie rfl ⟨rfl, rfl⟩ (by kernel_rfl) rfl plain (by kernel_rfl)

end Go.Proofs.YtieldgocgjoojaaDoor.slotStores
