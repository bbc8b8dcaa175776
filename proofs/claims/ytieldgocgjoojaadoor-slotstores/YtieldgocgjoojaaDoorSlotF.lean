/- Slots: the law's helpers and its anchor. -/
import Derived.Test.YtieldgocgjoojaaDoorSlotE
import Derived.Test.YtieldgocgjoojaaDoorPhysSame0
set_option linter.unusedVariables false
namespace Go.Proofs.YtieldgocgjoojaaDoor
open Go.RowKit

set_option maxRecDepth 100000 in
set_option maxHeartbeats 4000000 in
theorem listed_any (k : Int) (a : Nat) (b r g s : Int) (m nx pv : Nat) (d : Int) (w : World) : Calls Tryd.prog 12 #[.agg #[.int .i64 k, .int .u64 (a : Nat), .int .i64 b, .int .i64 r, .int .i64 g, .int .i64 s, .int .u64 (m : Nat), .int .u64 (nx : Nat), .int .u64 (pv : Nat), .int .i64 d]] w fun e w' => e = .returned (.agg #[.int .i64 k, .int .u64 (a : Nat), .int .i64 b, .int .i64 r, .int .i64 g, .int .i64 s, .int .u64 (m : Nat), .int .u64 (nx : Nat), .int .u64 (pv : Nat), .int .i64 d]) ∧ Below w.heap.size w w' := by
  go_enter Tryd.func12, Tryd.ntmps12
  go_upto_region 1 with fail
  have gC := heap2_0 w (.cells #[.int .i64 k, .int .u64 (a : Nat), .int .i64 b, .int .i64 r, .int .i64 g, .int .i64 s, .int .u64 (m : Nat), .int .u64 (nx : Nat), .int .u64 (pv : Nat), .int .i64 d] 26) (.cells #[.int .i64 0, .int .u64 0, .int .i64 0, .int .i64 0, .int .i64 0, .int .i64 0, .int .u64 0, .int .u64 0, .int .u64 0, .int .i64 0] 38)
  have gR := heap_alloc_new (w.alloc (.cells #[.int .i64 k, .int .u64 (a : Nat), .int .i64 b, .int .i64 r, .int .i64 g, .int .i64 s, .int .u64 (m : Nat), .int .u64 (nx : Nat), .int .u64 (pv : Nat), .int .i64 d] 26)) (.cells #[.int .i64 0, .int .u64 0, .int .i64 0, .int .i64 0, .int .i64 0, .int .i64 0, .int .u64 0, .int .u64 0, .int .u64 0, .int .i64 0] 38)
  have hB := below2 w (.cells #[.int .i64 k, .int .u64 (a : Nat), .int .i64 b, .int .i64 r, .int .i64 g, .int .i64 s, .int .u64 (m : Nat), .int .u64 (nx : Nat), .int .u64 (pv : Nat), .int .i64 d] 26) (.cells #[.int .i64 0, .int .u64 0, .int .i64 0, .int .i64 0, .int .i64 0, .int .i64 0, .int .u64 0, .int .u64 0, .int .u64 0, .int .i64 0] 38)
  rw [World.size_alloc] at gR
  generalize (w.alloc (.cells #[.int .i64 k, .int .u64 (a : Nat), .int .i64 b, .int .i64 r, .int .i64 g, .int .i64 s, .int .u64 (m : Nat), .int .u64 (nx : Nat), .int .u64 (pv : Nat), .int .i64 d] 26)).alloc (.cells #[.int .i64 0, .int .u64 0, .int .i64 0, .int .i64 0, .int .i64 0, .int .i64 0, .int .u64 0, .int .u64 0, .int .u64 0, .int .i64 0] 38) = W0 at *
  have hRB := Nat.le_succ w.heap.size
  obtain ⟨c0, c1, c2, c3, c4, c5, c6, c7, c8, c9⟩ := cells10 gC
  have cp0 := fun o => cell_alloc (o := o) c0
  have cp1 := fun o => cell_alloc (o := o) c1
  have cp2 := fun o => cell_alloc (o := o) c2
  have cp3 := fun o => cell_alloc (o := o) c3
  have cp4 := fun o => cell_alloc (o := o) c4
  have cp5 := fun o => cell_alloc (o := o) c5
  have cp6 := fun o => cell_alloc (o := o) c6
  have cp7 := fun o => cell_alloc (o := o) c7
  have cp8 := fun o => cell_alloc (o := o) c8
  have cp9 := fun o => cell_alloc (o := o) c9
  go_wp2_with (first
    | (refine wpList_store_segTo rfl 38 _ _ rfl rfl (w.heap.size + 1) 0 _ #[.int .i64 k, .int .u64 (a : Nat), .int .i64 b, .int .i64 r, .int .i64 g, .int .i64 s, .int .u64 (m : Nat), .int .u64 (nx : Nat), .int .u64 (pv : Nat), .int .i64 d] rfl rfl rfl 38 _ gR (show 0 + 10 ≤ 10 by decide) info10d (by simp [Value.oneCell']) #[.int .i64 k, .int .u64 (a : Nat), .int .i64 b, .int .i64 r, .int .i64 g, .int .i64 s, .int .u64 (m : Nat), .int .u64 (nx : Nat), .int .u64 (pv : Nat), .int .i64 d] rfl ?_; intro wq hrq htq)
    | fail)
  refine bodyPost_ret (results_cell_row rfl _ wq (w.heap.size + 1) 38 #[.int .i64 k, .int .u64 (a : Nat), .int .i64 b, .int .i64 r, .int .i64 g, .int .i64 s, .int .u64 (m : Nat), .int .u64 (nx : Nat), .int .u64 (pv : Nat), .int .i64 d] (0, 0) _ rfl hrq Tryd.underlying38 rfl info10d) rfl ?_
  exact ⟨rfl, below_turn hB htq hRB⟩

set_option maxHeartbeats 2000000 in
theorem may_any (x : Nat) (hx : x < 18446744073709551616) (w : World) : Calls Tryd.prog 10 #[.int .u64 x] w fun e w' => e = .returned (.int .i64 (sE 65536 x)) ∧ w = w' := by
  obtain ⟨r1, r2, r3⟩ := rem32 x
  by_cases h : x % 32 = 0
  · rw [decide_eq_true h] at r1 r2 r3
    have b1 : ((x : Int).tmod 32 != 0) = false := by rw [bne, r1]; rfl
    have b2 : ((x : Int) % 32 != 0) = false := by rw [bne, r2]; rfl
    by_cases h2 : 65536 ≤ x
    · have HE : Hid (sE 65536 x = 12) := by show _ = _; unfold sE; rw [if_pos h, if_pos h2]
      have d1 : decide ((65536 : Int) ≤ x) = true := decide_eq_true (by omega)
      clear h h2 r1 r2 r3
      go_enter Tryd.func10, Tryd.ntmps10
      go_wp2
      go_ret
      exact ⟨by rw [HE.out]; rfl, rfl⟩
    · have HE : Hid (sE 65536 x = 0) := by show _ = _; unfold sE; rw [if_pos h, if_neg h2]
      have d1 : decide ((65536 : Int) ≤ x) = false := decide_eq_false (by omega)
      clear h h2 r1 r2 r3
      go_enter Tryd.func10, Tryd.ntmps10
      go_wp2
      go_ret
      exact ⟨by rw [HE.out]; rfl, rfl⟩
  · rw [decide_eq_false h] at r1 r2 r3
    have b1 : ((x : Int).tmod 32 != 0) = true := by rw [bne, r1]; rfl
    have b2 : ((x : Int) % 32 != 0) = true := by rw [bne, r2]; rfl
    have HE : Hid (sE 65536 x = 13) := by show _ = _; unfold sE; rw [if_neg h]
    clear h r1 r2 r3
    go_enter Tryd.func10, Tryd.ntmps10
    go_wp2
    go_ret
    exact ⟨by rw [HE.out]; rfl, rfl⟩

/-- A memory that is new since w. -/
def Wn (w : World) (a n : Nat) (f : Nat → Nat) (W : World) : Prop := Wst w (fun _ => False) a 65536 n f W
theorem Wn.bel {w W : World} {a n : Nat} {f : Nat → Nat} (h : Wn w a n f W) : Below w.heap.size w W := by
  obtain ⟨Y, -, h2, -⟩ := h
  exact h2.below (fun _ q => absurd q id) (Nat.le_refl _)
theorem Wn.base {w w0 W : World} {a n : Nat} {f : Nat → Nat} (hb : Below w.heap.size w w0) (h : Wn w0 a n f W) : Wn w a n f W := by
  obtain ⟨Y, h1, h2, h3⟩ := h
  exact ⟨Y, h1, (turn_of_below _ hb).trans h2 (fun _ _ q => q), fun i q hi => h3 i q (Nat.lt_of_lt_of_le hi hb.size)⟩
theorem Wn.mem {w W : World} {a n : Nat} {f : Nat → Nat} (h : Wn w a n f W) : ∃ Y, MemAt W Y a 65536 n f ∧ ∀ i, Y i → w.heap.size ≤ i ∧ i < W.heap.size := by
  obtain ⟨Y, h1, h2, h3⟩ := h
  exact ⟨Y, h1, fun i q => ⟨Nat.le_of_not_lt fun c => h3 i q c, h1.lt i q⟩⟩

/-- The words of a memory in which four were laid. -/
def opF (x x1 x2 x3 A B C D : Nat) : Nat → Nat := wrF (wrF (wrF (wrF (fun _ => 0) 65536 x A) 65536 x1 B) 65536 x2 C) 65536 x3 D
set_option maxRecDepth 100000 in
set_option maxHeartbeats 8000000 in
theorem opened_mk (x x1 x2 x3 A B C D : Nat) (hx : x < 18446744073709551616) (e1 : x1 = (x + 8) % 18446744073709551616) (e2 : x2 = (x + 16) % 18446744073709551616) (e3 : x3 = (x + 24) % 18446744073709551616) (hA : A < 18446744073709551616) (hB0 : B < 18446744073709551616) (hC : C < 18446744073709551616) (hD : D < 18446744073709551616) (w : World) :
    Calls Tryd.prog 7 #[.int .u64 x, .agg #[.int .u64 (A : Nat), .int .u64 (B : Nat), .int .u64 (C : Nat), .int .u64 (D : Nat)]] w fun e w' => ∃ a, e = .returned (.pointer (some ⟨a, 0, none⟩)) ∧ Wn w a 4 (opF x x1 x2 x3 A B C D) w' := by
  have cN := fun W => new_ok 65536 (by decide) W
  have f0 : IntKind.u64.wrap (x : Int) = (x : Int) := by rw [IntKind.wrap_u64]; omega
  have f1 : IntKind.u64.wrap ((x : Int) + 8) = (x1 : Int) := by rw [IntKind.wrap_u64]; omega
  have f2 : IntKind.u64.wrap ((x : Int) + 16) = (x2 : Int) := by rw [IntKind.wrap_u64]; omega
  have f3 : IntKind.u64.wrap ((x : Int) + 24) = (x3 : Int) := by rw [IntKind.wrap_u64]; omega
  have hx1 : x1 < 18446744073709551616 := by omega
  have hx2 : x2 < 18446744073709551616 := by omega
  have hx3 : x3 < 18446744073709551616 := by omega
  have cQ0 := fun a W W0 (hm : Wn W0 a 0 (fun _ => 0) W) => hm.write (by decide) x A hx hA
  have cQ1 := fun a W W0 (hm : Wn W0 a 1 (wrF (fun _ => 0) 65536 x A) W) => hm.write (by decide) x1 B hx1 hB0
  have cQ2 := fun a W W0 (hm : Wn W0 a 2 (wrF (wrF (fun _ => 0) 65536 x A) 65536 x1 B) W) => hm.write (by decide) x2 C hx2 hC
  have cQ3 := fun a W W0 (hm : Wn W0 a 3 (wrF (wrF (wrF (fun _ => 0) 65536 x A) 65536 x1 B) 65536 x2 C) W) => hm.write (by decide) x3 D hx3 hD
  clear hx e1 e2 e3 hA hB0 hC hD hx1 hx2 hx3
  go_enter Tryd.func7, Tryd.ntmps7
  go_wp2_with fail
  have gC := heap_alloc_new w (.cells #[.int .u64 (A : Nat), .int .u64 (B : Nat), .int .u64 (C : Nat), .int .u64 (D : Nat)] 27)
  have hB := below_new w (.cells #[.int .u64 (A : Nat), .int .u64 (B : Nat), .int .u64 (C : Nat), .int .u64 (D : Nat)] 27)
  generalize w.alloc (.cells #[.int .u64 (A : Nat), .int .u64 (B : Nat), .int .u64 (C : Nat), .int .u64 (D : Nat)] 27) = W0 at *
  refine (cN _).mono ?_
  rintro e w1 ⟨a, rfl, hM, hb⟩
  have HM : Hid (Wn W0 a 0 (fun _ => 0) w1) := ⟨_, hM, turn_of_below _ hb, fun i q hi => by have := q.1; omega⟩
  have g0 := block_later hb gC
  clear hM hb
  obtain ⟨c0, c1, c2, c3⟩ := cells4 g0
  go_wp2_with fail
  refine wp_loop_rounds 5 ?_
  rw [rounds_succ]
  go_wp2_with fail
  refine (cQ0 _ _ _ HM.out).mono ?_
  rintro e z0 ⟨rfl, hm⟩
  replace HM := Hid.mk hm
  clear c0 c1 c2 c3 g0
  have g0 := block_later (Wn.bel hm) gC
  clear hm
  obtain ⟨c0, c1, c2, c3⟩ := cells4 g0
  go_wp2_with fail
  rw [rounds_succ]
  go_wp2_with fail
  refine (cQ1 _ _ _ HM.out).mono ?_
  rintro e z1 ⟨rfl, hm⟩
  replace HM := Hid.mk hm
  clear c0 c1 c2 c3 g0
  have g0 := block_later (Wn.bel hm) gC
  clear hm
  obtain ⟨c0, c1, c2, c3⟩ := cells4 g0
  go_wp2_with fail
  rw [rounds_succ]
  go_wp2_with fail
  refine (cQ2 _ _ _ HM.out).mono ?_
  rintro e z2 ⟨rfl, hm⟩
  replace HM := Hid.mk hm
  clear c0 c1 c2 c3 g0
  have g0 := block_later (Wn.bel hm) gC
  clear hm
  obtain ⟨c0, c1, c2, c3⟩ := cells4 g0
  go_wp2_with fail
  rw [rounds_succ]
  go_wp2_with fail
  refine (cQ3 _ _ _ HM.out).mono ?_
  rintro e z3 ⟨rfl, hm⟩
  replace HM := Hid.mk hm
  clear c0 c1 c2 c3 g0
  have g0 := block_later (Wn.bel hm) gC
  clear hm
  obtain ⟨c0, c1, c2, c3⟩ := cells4 g0
  go_wp2_with fail
  rw [rounds_succ]
  go_wp2
  go_ret
  exact ⟨_, rfl, Wn.base hB HM.out⟩

theorem opened_c (x A B C D : Nat) (hx : x < 18446744073709551616) (hA : A < 18446744073709551616) (hB0 : B < 18446744073709551616) (hC : C < 18446744073709551616) (hD : D < 18446744073709551616) (w : World) :
    Calls Tryd.prog 7 #[.int .u64 x, .agg #[.int .u64 (A : Nat), .int .u64 (B : Nat), .int .u64 (C : Nat), .int .u64 (D : Nat)]] w fun e w' => ∃ a, e = .returned (.pointer (some ⟨a, 0, none⟩)) ∧ Wn w a 4 (opF x ((x + 8) % 18446744073709551616) ((x + 16) % 18446744073709551616) ((x + 24) % 18446744073709551616) A B C D) w' :=
  opened_mk x _ _ _ A B C D hx rfl rfl rfl hA hB0 hC hD w

/-- Four words that were laid are read. -/
theorem four {S x : Nat} (hE : sE S x = 0) (hS : S % 4096 = 0) (f : Nat → Nat) (a b c d : Nat) : stF f S x a b c d x = a ∧ stF f S x a b c d (x + 8) = b ∧ stF f S x a b c d (x + 16) = c ∧ stF f S x a b c d (x + 24) = d ∧ (∀ y, y ≠ x → y ≠ x + 8 → y ≠ x + 16 → y ≠ x + 24 → stF f S x a b c d y = f y) := by
  obtain ⟨h1, h2⟩ := sE_ok hE
  have q : ∀ y, y % 8 = 0 → y < S → errA S y = 0 := fun y p1 p2 => by unfold errA; rw [if_neg (fun c => c p1), if_neg (by omega)]
  unfold stF wrF
  rw [if_pos (q x (by omega) (by omega)), if_pos (q (x + 8) (by omega) (by omega)), if_pos (q (x + 16) (by omega) (by omega)), if_pos (q (x + 24) (by omega) (by omega))]
  unfold updF
  refine ⟨?_, ?_, ?_, ?_, fun y n1 n2 n3 n4 => ?_⟩
  · rw [if_neg (by omega), if_neg (by omega), if_neg (by omega), if_pos rfl]
  · rw [if_neg (by omega), if_neg (by omega), if_pos rfl]
  · rw [if_neg (by omega), if_pos rfl]
  · rw [if_pos rfl]
  · rw [if_neg n4, if_neg n3, if_neg n2, if_neg n1]
theorem op_st {x : Nat} (hE : sE 65536 x = 0) (A B C D : Nat) : opF x ((x + 8) % 18446744073709551616) ((x + 16) % 18446744073709551616) ((x + 24) % 18446744073709551616) A B C D = stF (fun _ => 0) 65536 x A B C D := by
  obtain ⟨h1, h2⟩ := sE_ok hE
  unfold opF stF
  rw [show (x + 8) % 18446744073709551616 = x + 8 by omega, show (x + 16) % 18446744073709551616 = x + 16 by omega, show (x + 24) % 18446744073709551616 = x + 24 by omega]

theorem lnk_back {nx pv : Nat} (h1 : nx < 4294967296 ∧ nx % 32 = 0) (h2 : pv < 4294967296 ∧ pv % 32 = 0) : slN (lnkN nx pv) = nx ∧ slP (lnkN nx pv) = pv := by
  unfold slN slP lnkN; omega
/-- A slot that was laid is loaded. -/
theorem ld_back {S x : Nat} (hE : sE S x = 0) (hS : S % 4096 = 0) (f : Nat → Nat) {k a b r g s m nx pv d : Nat} (hR : Rt k a b r g s m) (hc : cB k a b r g s m = true) (h1 : nx < 4294967296 ∧ nx % 32 = 0) (h2 : pv < 4294967296 ∧ pv % 32 = 0) (hd : d ≤ 4096) :
    ldV S (stF f S x (wordN k a b r g s) m (lnkN nx pv) d) x = #[.int .i64 (k : Nat), .int .u64 (a : Nat), .int .i64 (b : Nat), .int .i64 (r : Nat), .int .i64 (g : Nat), .int .i64 (s : Nat), .int .u64 (m : Nat), .int .u64 (nx : Nat), .int .u64 (pv : Nat), .int .i64 (d : Nat)] ∧ ldE S (stF f S x (wordN k a b r g s) m (lnkN nx pv) d) x = 0 := by
  obtain ⟨q0, q1, q2, q3, -⟩ := four hE hS f (wordN k a b r g s) m (lnkN nx pv) d
  obtain ⟨e1, e2, e3, e4, e5, e6⟩ := rd_word hR
  obtain ⟨l1, l2⟩ := lnk_back h1 h2
  unfold ldV ldE
  rw [if_pos hE, if_pos hE, q0, q1, q2, q3]
  have hk : okS (wordN k a b r g s) m (lnkN nx pv) d = true := by
    unfold okS rdOK
    rw [e1, e2, e3, e4, e5, e6, l1, l2, hc, decide_eq_true hd]; simp
  unfold slV slE
  rw [hk, if_pos rfl, if_pos rfl, e1, e2, e3, e4, e5, e6, l1, l2]
  exact ⟨rfl, rfl⟩
theorem sl_zero : slV 0 0 0 0 = #[.int .i64 0, .int .u64 0, .int .i64 0, .int .i64 0, .int .i64 0, .int .i64 0, .int .u64 0, .int .u64 0, .int .u64 0, .int .i64 0] ∧ slE 0 0 0 0 = 0 := by
  have h : okS 0 0 0 0 = true := by decide +kernel
  unfold slV slE
  rw [h, if_pos rfl, if_pos rfl]
  exact ⟨rfl, rfl⟩
theorem ld_zero {S x : Nat} (hE : sE S x = 0) {f : Nat → Nat} (h0 : f x = 0) (h1 : f (x + 8) = 0) (h2 : f (x + 16) = 0) (h3 : f (x + 24) = 0) : ldV S f x = #[.int .i64 0, .int .u64 0, .int .i64 0, .int .i64 0, .int .i64 0, .int .i64 0, .int .u64 0, .int .u64 0, .int .u64 0, .int .i64 0] ∧ ldE S f x = 0 := by
  unfold ldV ldE
  rw [if_pos hE, if_pos hE, h0, h1, h2, h3]
  exact sl_zero
theorem rt0 : Rt 0 0 0 0 0 0 0 := ⟨by decide, by decide, by decide, by decide, by decide, by decide, by decide, by decide⟩
theorem cB0 : cB 0 0 0 0 0 0 0 = true := by decide +kernel

set_option maxHeartbeats 2000000 in
theorem wipe_no {w : World} {X : Nat → Prop} {ad S n : Nat} {f : Nat → Nat} (h : MemAt w X ad S n f) (x : Nat) (hx : x < 18446744073709551616) {E : Int} (hE : sE S x = E) (hE0 : ¬ E = 0) :
    Calls Tryd.prog 21 #[.pointer (some ⟨ad, 0, none⟩), .int .u64 x] w fun e w' => e = .returned (.int .i64 E) ∧ Below w.heap.size w w' := by
  have c := store_no h x 0 0 0 0 0 0 0 0 0 0 hx hE hE0
  have c2 : Calls Tryd.prog 9 #[.pointer (some ⟨ad, 0, none⟩), .int .u64 x, .agg #[.int .i64 0, .int .u64 0, .int .i64 0, .int .i64 0, .int .i64 0, .int .i64 0, .int .u64 0, .int .u64 0, .int .u64 0, .int .i64 0]] w fun e w' => e = .returned (.int .i64 E) ∧ Below w.heap.size w w' := c
  clear c h hE hE0
  go_enter Tryd.func21, Tryd.ntmps21
  go_wp2_with fail
  refine c2.mono ?_
  rintro e w1 ⟨rfl, hb⟩
  go_wp2
  go_ret
  exact ⟨rfl, hb⟩
set_option maxHeartbeats 2000000 in
theorem wipe_ok {w : World} {X : Nat → Prop} {ad S n : Nat} {f : Nat → Nat} (h : MemAt w X ad S n f) (hn : n + 4 < 100000000) (x : Nat) (hx : x < 18446744073709551616) (hE : sE S x = 0) (hP : SPrts w) :
    Calls Tryd.prog 21 #[.pointer (some ⟨ad, 0, none⟩), .int .u64 x] w fun e w' => e = .returned (.int .i64 0) ∧ Wst w X ad S (n + 4) (stF f S x 0 0 0 0) w' := by
  have c := store_ok h hn x hx hE hP (nx := 0) (pv := 0) (d := 0) rt0 cB0 (by decide) (by decide) (by decide)
  have c2 : Calls Tryd.prog 9 #[.pointer (some ⟨ad, 0, none⟩), .int .u64 x, .agg #[.int .i64 0, .int .u64 0, .int .i64 0, .int .i64 0, .int .i64 0, .int .i64 0, .int .u64 0, .int .u64 0, .int .u64 0, .int .i64 0]] w fun e w' => e = .returned (.int .i64 0) ∧ Wst w X ad S (n + 4) (stF f S x 0 0 0 0) w' := c
  have HW := Hid.mk h
  clear c h hE hP
  go_enter Tryd.func21, Tryd.ntmps21
  go_wp2_with fail
  refine c2.mono ?_
  rintro e w1 ⟨rfl, hb⟩
  have HH := Hid.mk hb
  clear hb
  go_wp2
  go_ret
  exact ⟨rfl, HH.out⟩

/-- What every word of a new memory is. -/
theorem op_zero : opF 0 ((0 + 8) % 18446744073709551616) ((0 + 16) % 18446744073709551616) ((0 + 24) % 18446744073709551616) 0 0 0 0 = fun _ => 0 := by
  rw [op_st (by decide)]
  funext y
  obtain ⟨q0, q1, q2, q3, q4⟩ := four (S := 65536) (x := 0) (by decide) (by decide) (fun _ => 0) 0 0 0 0
  by_cases h0 : y = 0
  · rw [h0]; exact q0
  by_cases h1 : y = 0 + 8
  · rw [h1]; exact q1
  by_cases h2 : y = 0 + 16
  · rw [h2]; exact q2
  by_cases h3 : y = 0 + 24
  · rw [h3]; exact q3
  exact q4 y h0 h1 h2 h3
/-- A block of ours through another memory's doings. -/
theorem turn_row {w W : World} {Y : Nat → Prop} {g : Nat} {o : Obj} (ht : Turn Y w W) (h : w.heap[g]? = some o) (hn : ¬ Y g) : W.heap[g]? = some o := (ht.block _ (block_lt h) hn).trans h

set_option maxRecDepth 100000 in
set_option maxHeartbeats 8000000 in
theorem anchorS_any (w : World) (hP : SPrts w) :
    Calls Tryd.prog 6 #[] w fun e w' => e = .returned (.bool true) ∧ Below w.heap.size w w' := by
  have hR : Rt 8 4096 7 0 0 0 0 := ⟨by decide, by decide, by decide, by decide, by decide, by decide, by decide, by decide⟩
  have hc : cB 8 4096 7 0 0 0 0 = true := by decide +kernel
  have cO : ∀ W, Calls Tryd.prog 7 #[.int .u64 0, .agg #[.int .u64 0, .int .u64 0, .int .u64 0, .int .u64 0]] W fun e w' => ∃ a, e = .returned (.pointer (some ⟨a, 0, none⟩)) ∧ Wn W a 4 (fun _ => 0) w' := fun W => by
    have := opened_c 0 0 0 0 0 (by decide) (by decide) (by decide) (by decide) (by decide) W
    rw [op_zero] at this
    exact this
  have cS : ∀ (W : World) (Y : Nat → Prop) a, MemAt W Y a 65536 4 (fun _ => 0) → SPrts W → Calls Tryd.prog 9 #[.pointer (some ⟨a, 0, none⟩), .int .u64 128, .agg #[.int .i64 8, .int .u64 4096, .int .i64 7, .int .i64 0, .int .i64 0, .int .i64 0, .int .u64 0, .int .u64 64, .int .u64 96, .int .i64 3]] W fun e w' => e = .returned (.int .i64 0) ∧ Wst W Y a 65536 8 (stF (fun _ => 0) 65536 128 (wordN 8 4096 7 0 0 0) 0 (lnkN 64 96) 3) w' := fun W Y a h1 h2 =>
    store_ok h1 (by decide) 128 (by decide) (by decide) h2 (nx := 64) (pv := 96) (d := 3) hR hc (by decide) (by decide) (by decide)
  have hL := ld_back (S := 65536) (x := 128) (by decide) (by decide) (fun _ => 0) (nx := 64) (pv := 96) (d := 3) hR hc (by decide) (by decide) (by decide)
  obtain ⟨q0, q1, q2, q3, q4⟩ := four (S := 65536) (x := 128) (by decide) (by decide) (fun _ => 0) (wordN 8 4096 7 0 0 0) 0 (lnkN 64 96) 3
  generalize stF (fun _ => 0) 65536 128 (wordN 8 4096 7 0 0 0) 0 (lnkN 64 96) 3 = F at *
  have hZ : ldV 65536 F 160 = #[.int .i64 0, .int .u64 0, .int .i64 0, .int .i64 0, .int .i64 0, .int .i64 0, .int .u64 0, .int .u64 0, .int .u64 0, .int .i64 0] ∧ ldE 65536 F 160 = 0 := ld_zero (by decide) (q4 _ (by decide) (by decide) (by decide) (by decide)) (q4 _ (by decide) (by decide) (by decide) (by decide)) (q4 _ (by decide) (by decide) (by decide) (by decide)) (q4 _ (by decide) (by decide) (by decide) (by decide))
  have cL : ∀ (W : World) (Y : Nat → Prop) a n, MemAt W Y a 65536 n F → SPrts W → Calls Tryd.prog 17 #[.pointer (some ⟨a, 0, none⟩), .int .u64 128] W fun e w' => e = .returned (.tuple #[.agg #[.int .i64 8, .int .u64 4096, .int .i64 7, .int .i64 0, .int .i64 0, .int .i64 0, .int .u64 0, .int .u64 64, .int .u64 96, .int .i64 3], .int .i64 0]) ∧ Below W.heap.size W w' := fun W Y a n h1 h2 => by
    have := load_c h1 128 (by decide) h2
    rw [hL.1, hL.2] at this
    exact this
  have cZ : ∀ (W : World) (Y : Nat → Prop) a n, MemAt W Y a 65536 n F → SPrts W → Calls Tryd.prog 17 #[.pointer (some ⟨a, 0, none⟩), .int .u64 160] W fun e w' => e = .returned (.tuple #[.agg #[.int .i64 0, .int .u64 0, .int .i64 0, .int .i64 0, .int .i64 0, .int .i64 0, .int .u64 0, .int .u64 0, .int .u64 0, .int .i64 0], .int .i64 0]) ∧ Below W.heap.size W w' := fun W Y a n h1 h2 => by
    have := load_c h1 160 (by decide) h2
    rw [hZ.1, hZ.2] at this
    exact this
  have cR : ∀ (W : World) (Y : Nat → Prop) a n, MemAt W Y a 65536 n F → Calls Tryd.prog 16 #[.pointer (some ⟨a, 0, none⟩), .int .u64 144] W fun e w' => e = .returned (.tuple #[.int .u64 12884901890, .int .i64 0]) ∧ Below W.heap.size W w' := fun W Y a n h1 => by
    have := read_c h1 144 (by decide)
    rw [show F 144 = 12884901890 from q2] at this
    exact this
  have cE0 : ∀ W, Calls Tryd.prog 18 #[.agg #[.int .i64 0, .int .u64 0, .int .i64 0, .int .i64 0, .int .i64 0, .int .i64 0, .int .u64 0, .int .u64 0, .int .u64 0, .int .i64 0]] W fun e w' => e = .returned (.bool true) ∧ Below W.heap.size W w' := fun W => empty_any 0 0 0 0 0 0 0 0 0 0 W
  have cE1 : ∀ W, Calls Tryd.prog 18 #[.agg #[.int .i64 8, .int .u64 4096, .int .i64 7, .int .i64 0, .int .i64 0, .int .i64 0, .int .u64 0, .int .u64 64, .int .u64 96, .int .i64 3]] W fun e w' => e = .returned (.bool false) ∧ Below W.heap.size W w' := fun W => empty_any 8 4096 7 0 0 0 0 64 96 3 W
  have HQ : ∀ W, (binOp .eql 26 (.agg #[.int .i64 8, .int .u64 4096, .int .i64 7, .int .i64 0, .int .i64 0, .int .i64 0, .int .u64 0, .int .u64 64, .int .u64 96, .int .i64 3]) (.agg #[.int .i64 8, .int .u64 4096, .int .i64 7, .int .i64 0, .int .i64 0, .int .i64 0, .int .u64 0, .int .u64 64, .int .u64 96, .int .i64 3])).run Tryd.prog W = .ok (.bool true) W := fun W => eqS 8 4096 7 0 0 0 0 64 96 3 8 4096 7 0 0 0 0 64 96 3 W
  clear hL q0 q1 q2 q3 q4 hZ hR hc
  go_enter Tryd.func6, Tryd.ntmps6
  go_wp2_with fail
  refine (cO _).mono ?_
  rintro e w1 ⟨a, rfl, hM0⟩
  obtain ⟨Y, hM, hY⟩ := Wn.mem hM0
  have hB := Wn.bel hM0
  have HM := Hid.mk hM
  clear hM hM0
  go_upto_region 5 with fail
  have gS := heap_alloc_new w1 (.cells #[.int .i64 8, .int .u64 4096, .int .i64 7, .int .i64 0, .int .i64 0, .int .i64 0, .int .u64 0, .int .u64 64, .int .u64 96, .int .i64 3] 26)
  replace HM := Hid.mk (HM.out.below (below_new w1 (.cells #[.int .i64 8, .int .u64 4096, .int .i64 7, .int .i64 0, .int .i64 0, .int .i64 0, .int .u64 0, .int .u64 64, .int .u64 96, .int .i64 3] 26)))
  replace hB := below_tr hB (below_new w1 (.cells #[.int .i64 8, .int .u64 4096, .int .i64 7, .int .i64 0, .int .i64 0, .int .i64 0, .int .u64 0, .int .u64 64, .int .u64 96, .int .i64 3] 26))
  generalize w1.heap.size = sb at *
  generalize w1.alloc (.cells #[.int .i64 8, .int .u64 4096, .int .i64 7, .int .i64 0, .int .i64 0, .int .i64 0, .int .u64 0, .int .u64 64, .int .u64 96, .int .i64 3] 26) = W1 at *
  obtain ⟨c0, c1, c2, c3, c4, c5, c6, c7, c8, c9⟩ := cells10 gS
  go_wp2_with fail
  refine (cS _ _ _ HM.out (hP.later hB)).mono ?_
  clear c0 c1 c2 c3 c4 c5 c6 c7 c8 c9
  rintro e w2 ⟨rfl, hW⟩
  obtain ⟨hM2, hT⟩ := Wst.mem hW HM.out.lt
  replace gS := turn_row hT gS (fun c => Nat.lt_irrefl _ (hY _ c).2)
  replace hB := hB.trans (hT.below (fun i q => (hY i q).1) hB.size)
  clear HM
  have HM := Hid.mk hM2
  clear hM2 hT hW hY
  go_wp2_with fail
  refine (cL _ _ _ _ HM.out (hP.later hB)).mono ?_
  rintro e w3 ⟨rfl, hb⟩
  replace gS := block_later hb gS
  replace hB := below_tr hB hb
  replace HM := Hid.mk (HM.out.below hb)
  clear hb
  go_upto_region 7 with fail
  have gX := heap_alloc_new w3 (.cells #[.int .i64 8, .int .u64 4096, .int .i64 7, .int .i64 0, .int .i64 0, .int .i64 0, .int .u64 0, .int .u64 64, .int .u64 96, .int .i64 3] 26)
  replace gS := block_later (below_new w3 (.cells #[.int .i64 8, .int .u64 4096, .int .i64 7, .int .i64 0, .int .i64 0, .int .i64 0, .int .u64 0, .int .u64 64, .int .u64 96, .int .i64 3] 26)) gS
  replace HM := Hid.mk (HM.out.below (below_new w3 (.cells #[.int .i64 8, .int .u64 4096, .int .i64 7, .int .i64 0, .int .i64 0, .int .i64 0, .int .u64 0, .int .u64 64, .int .u64 96, .int .i64 3] 26)))
  replace hB := below_tr hB (below_new w3 (.cells #[.int .i64 8, .int .u64 4096, .int .i64 7, .int .i64 0, .int .i64 0, .int .i64 0, .int .u64 0, .int .u64 64, .int .u64 96, .int .i64 3] 26))
  generalize w3.heap.size = xb at *
  generalize w3.alloc (.cells #[.int .i64 8, .int .u64 4096, .int .i64 7, .int .i64 0, .int .i64 0, .int .i64 0, .int .u64 0, .int .u64 64, .int .u64 96, .int .i64 3] 26) = W3 at *
  go_wp2_with fail
  refine (cR _ _ _ _ HM.out).mono ?_
  rintro e w4 ⟨rfl, hb⟩
  replace gS := block_later hb gS
  replace gX := block_later hb gX
  replace hB := below_tr hB hb
  replace HM := Hid.mk (HM.out.below hb)
  clear hb
  go_wp2_with fail
  refine (cZ _ _ _ _ HM.out (hP.later hB)).mono ?_
  rintro e w5 ⟨rfl, hb⟩
  replace gS := block_later hb gS
  replace gX := block_later hb gX
  replace hB := below_tr hB hb
  clear hb HM
  go_upto_region 9 with fail
  have gY := heap_alloc_new w5 (.cells #[.int .i64 0, .int .u64 0, .int .i64 0, .int .i64 0, .int .i64 0, .int .i64 0, .int .u64 0, .int .u64 0, .int .u64 0, .int .i64 0] 26)
  replace gS := block_later (below_new w5 (.cells #[.int .i64 0, .int .u64 0, .int .i64 0, .int .i64 0, .int .i64 0, .int .i64 0, .int .u64 0, .int .u64 0, .int .u64 0, .int .i64 0] 26)) gS
  replace gX := block_later (below_new w5 (.cells #[.int .i64 0, .int .u64 0, .int .i64 0, .int .i64 0, .int .i64 0, .int .i64 0, .int .u64 0, .int .u64 0, .int .u64 0, .int .i64 0] 26)) gX
  replace hB := below_tr hB (below_new w5 (.cells #[.int .i64 0, .int .u64 0, .int .i64 0, .int .i64 0, .int .i64 0, .int .i64 0, .int .u64 0, .int .u64 0, .int .u64 0, .int .i64 0] 26))
  generalize w5.heap.size = yb at *
  generalize w5.alloc (.cells #[.int .i64 0, .int .u64 0, .int .i64 0, .int .i64 0, .int .i64 0, .int .i64 0, .int .u64 0, .int .u64 0, .int .u64 0, .int .i64 0] 26) = W5 at *
  obtain ⟨c0, c1, c2, c3, c4, c5, c6, c7, c8, c9⟩ := cells10 gS
  obtain ⟨x0, x1, x2, x3, x4, x5, x6, x7, x8, x9⟩ := cells10 gX
  obtain ⟨y0, y1, y2, y3, y4, y5, y6, y7, y8, y9⟩ := cells10 gY
  go_wp2_with fail
  refine (cE0 _).mono ?_
  clear x0 x1 x2 x3 x4 x5 x6 x7 x8 x9
  rintro e w6 ⟨rfl, hb⟩
  replace gX := block_later hb gX
  replace hB := below_tr hB hb
  clear hb
  obtain ⟨x0, x1, x2, x3, x4, x5, x6, x7, x8, x9⟩ := cells10 gX
  go_wp2_with fail
  refine (cE1 _).mono ?_
  rintro e w7 ⟨rfl, hb⟩
  replace hB := below_tr hB hb
  go_wp2
  go_ret
  exact ⟨rfl, hB⟩
end Go.Proofs.YtieldgocgjoojaaDoor
