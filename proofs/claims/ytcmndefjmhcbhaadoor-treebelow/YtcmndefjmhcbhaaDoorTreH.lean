/- Child, Set and Move. -/
import Derived.Test.YtcmndefjmhcbhaaDoorTreG
set_option linter.unusedVariables false
namespace Go.Proofs.YtcmndefjmhcbhaaDoor
open Go.RowKit
namespace TE

theorem he_ne {S : Nat} {y : Nat} : ¬ heE S y = 0 := by
  unfold heE
  by_cases c : sE S y = 0
  · rw [if_pos c]; decide
  · rw [if_neg c]; exact c
set_option maxRecDepth 100000 in
set_option maxHeartbeats 2000000 in
theorem child_no1 {w0 W : World} {O : Nat → Prop} {x ad S n : Nat} {g : Nat → Nat} {σ : Nat → Option Sl} {fs ct : Nat} (h : TrS w0 W O x ad S n g σ fs ct) {p y : Nat} (hlt : p < 18446744073709551616) (hz : Zr g p) (hp : σ p = none) (k : Int) (a : Nat) (b r q s : Int) (m : Nat) (ha : a < 18446744073709551616) (hm : m < 18446744073709551616) :
    Calls Tryd.prog 9 #[.pointer (some ⟨x, 0, none⟩), .int .u64 (p : Nat), .int .u64 (y : Nat), .agg #[.int .i64 k, .int .u64 (a : Nat), .int .i64 b, .int .i64 r, .int .i64 q, .int .i64 s, .int .u64 (m : Nat)]] W fun e w' => e = .returned (.int .i64 (heE S p)) ∧ Below W.heap.size W w' := by
  have cH := fun (w1 : World) (hb : Below W.heap.size W w1) => held_no (h.below hb) hlt hp hz
  have hE : ¬ heE S p = 0 := he_ne
  have g1 := heap_alloc_new W (.cells #[.int .i64 k, .int .u64 (a : Nat), .int .i64 b, .int .i64 r, .int .i64 q, .int .i64 s, .int .u64 (m : Nat)] 33)
  have hB := below_new W (.cells #[.int .i64 k, .int .u64 (a : Nat), .int .i64 b, .int .i64 r, .int .i64 q, .int .i64 s, .int .u64 (m : Nat)] 33)
  generalize eW : W.alloc (.cells #[.int .i64 k, .int .u64 (a : Nat), .int .i64 b, .int .i64 r, .int .i64 q, .int .i64 s, .int .u64 (m : Nat)] 33) = W0 at *
  generalize heE S p = E at *
  have dE : ((E : Int) != 0) = true := by rw [bne_iff_ne]; exact hE
  clear h hz hlt hE hp ha hm
  go_enter Tryd.func9, Tryd.ntmps9
  go_upto_region 1 with fail
  (try rw [eW])
  go_wp2_with fail
  refine (cH _ hB).mono ?_
  rintro e w1 ⟨rfl, hb⟩
  replace hB := below_tr hB hb
  replace g1 := block_later hb g1
  have hRT := hB.size
  have hlt1 := block_lt g1
  have gT := Hid.mk (heap_alloc_new w1 (.cells #[.int .i64 0, .int .u64 0, .int .i64 0, .int .i64 0, .int .i64 0, .int .i64 0, .int .u64 0, .int .u64 0, .int .u64 0, .int .i64 0] 61))
  replace g1 := Hid.mk (block_later (below_new w1 (.cells #[.int .i64 0, .int .u64 0, .int .i64 0, .int .i64 0, .int .i64 0, .int .i64 0, .int .u64 0, .int .u64 0, .int .u64 0, .int .i64 0] 61)) g1)
  replace hB := below_tr hB (below_new w1 (.cells #[.int .i64 0, .int .u64 0, .int .i64 0, .int .i64 0, .int .i64 0, .int .i64 0, .int .u64 0, .int .u64 0, .int .u64 0, .int .i64 0] 61))
  go_upto_region 2 with (first
    | (refine wpList_store_segTo rfl 61 _ _ rfl rfl (w1.heap.size) 0 _ Z10 rfl rfl rfl 61 _ (gT.out) (by rw [z10]; exact Nat.le_refl 10) (info10.trans (congrArg some z10.symm)) z1 Z10 (segA_all _ _ (by rw [z10]; rfl)) ?_; intro wq hrq htq)
    | fail)
  replace g1 := block_turn htq g1.out (Nat.ne_of_lt hlt1)
  replace gT := hrq
  replace hB := below_turn hB htq hRT
  clear hrq htq hb
  go_wp2
  go_ret
  exact ⟨rfl, hB⟩
set_option maxRecDepth 100000 in
set_option maxHeartbeats 2000000 in
theorem child_no2 {w0 W : World} {O : Nat → Prop} {x ad S n : Nat} {g : Nat → Nat} {σ : Nat → Option Sl} {fs ct : Nat} (h : TrS w0 W O x ad S n g σ fs ct) {p y : Nat} {t : Sl} (hlt : y < 18446744073709551616) (hz : Zr g y) (hp : σ p = some t) (k : Int) (a : Nat) (b r q s : Int) (m : Nat) (ha : a < 18446744073709551616) (hm : m < 18446744073709551616) (hE : ¬ maE S σ y ct (ftB k a b r q s m) = 0) :
    Calls Tryd.prog 9 #[.pointer (some ⟨x, 0, none⟩), .int .u64 (p : Nat), .int .u64 (y : Nat), .agg #[.int .i64 k, .int .u64 (a : Nat), .int .i64 b, .int .i64 r, .int .i64 q, .int .i64 s, .int .u64 (m : Nat)]] W fun e w' => e = .returned (.int .i64 (maE S σ y ct (ftB k a b r q s m))) ∧ Below W.heap.size W w' := by
  have cH := fun (w1 : World) (hb : Below W.heap.size W w1) => held_ok (h.below hb) hp
  have cM := fun (w1 : World) (hb : Below W.heap.size W w1) => mayAdd_c (h.below hb) hlt hz k a b r q s m ha hm
  have g1 := heap_alloc_new W (.cells #[.int .i64 k, .int .u64 (a : Nat), .int .i64 b, .int .i64 r, .int .i64 q, .int .i64 s, .int .u64 (m : Nat)] 33)
  have hB := below_new W (.cells #[.int .i64 k, .int .u64 (a : Nat), .int .i64 b, .int .i64 r, .int .i64 q, .int .i64 s, .int .u64 (m : Nat)] 33)
  generalize eW : W.alloc (.cells #[.int .i64 k, .int .u64 (a : Nat), .int .i64 b, .int .i64 r, .int .i64 q, .int .i64 s, .int .u64 (m : Nat)] 33) = W0 at *
  generalize maE S σ y ct (ftB k a b r q s m) = E at *
  have dE : ((E : Int) != 0) = true := by rw [bne_iff_ne]; exact hE
  clear h hz hlt hE hp ha hm
  go_enter Tryd.func9, Tryd.ntmps9
  go_upto_region 1 with fail
  (try rw [eW])
  go_wp2_with fail
  refine (cH _ hB).mono ?_
  rintro e w1 ⟨rfl, hb⟩
  replace hB := below_tr hB hb
  replace g1 := block_later hb g1
  have hRT := hB.size
  have hlt1 := block_lt g1
  have gT := Hid.mk (heap_alloc_new w1 (.cells #[.int .i64 0, .int .u64 0, .int .i64 0, .int .i64 0, .int .i64 0, .int .i64 0, .int .u64 0, .int .u64 0, .int .u64 0, .int .i64 0] 61))
  replace g1 := Hid.mk (block_later (below_new w1 (.cells #[.int .i64 0, .int .u64 0, .int .i64 0, .int .i64 0, .int .i64 0, .int .i64 0, .int .u64 0, .int .u64 0, .int .u64 0, .int .i64 0] 61)) g1)
  replace hB := below_tr hB (below_new w1 (.cells #[.int .i64 0, .int .u64 0, .int .i64 0, .int .i64 0, .int .i64 0, .int .i64 0, .int .u64 0, .int .u64 0, .int .u64 0, .int .i64 0] 61))
  go_upto_region 2 with (first
    | (refine wpList_store_segTo rfl 61 _ _ rfl rfl (w1.heap.size) 0 _ t.row rfl rfl rfl 61 _ (gT.out) (by rw [(row10 t)]; exact Nat.le_refl 10) (info10.trans (congrArg some (row10 t).symm)) (row1 t) t.row (segA_all _ _ (by rw [(row10 t)]; rfl)) ?_; intro wq hrq htq)
    | fail)
  replace g1 := block_turn htq g1.out (Nat.ne_of_lt hlt1)
  replace gT := hrq
  replace hB := below_turn hB htq hRT
  clear hrq htq hb
  obtain ⟨q0, q1, q2, q3, q4, q5, q6⟩ := c7_of g1
  go_wp2_with fail
  refine (cM _ hB).mono ?_
  clear q0 q1 q2 q3 q4 q5 q6
  rintro e w2 ⟨rfl, hb⟩
  replace hB := below_tr hB hb
  go_wp2
  go_ret
  exact ⟨rfl, hB⟩
set_option maxRecDepth 100000 in
set_option maxHeartbeats 2000000 in
theorem child_mk {σ' : Nat → Option Sl} {fs' ct' : Nat} {w0 W : World} {O : Nat → Prop} {x ad S n : Nat} {g : Nat → Nat} {σ : Nat → Option Sl} {fs ct : Nat} (h : TrS w0 W O x ad S n g σ fs ct) {p y : Nat} {t : Sl} (hp : σ p = some t) {c : Cp}
    (cM : ∀ w1, Below W.heap.size W w1 → Calls Tryd.prog 27 #[.pointer (some ⟨x, 0, none⟩), .int .u64 (y : Nat), .agg #[.int .i64 (c.k : Nat), .int .u64 (c.a : Nat), .int .i64 (c.b : Nat), .int .i64 (c.r : Nat), .int .i64 (c.g : Nat), .int .i64 (c.s : Nat), .int .u64 (c.m : Nat)]] w1 fun e w' => e = .returned (.int .i64 0) ∧ Below w1.heap.size w1 w')
    (cA : ∀ w1, TrS w0 w1 O x ad S n g σ fs ct → Calls Tryd.prog 28 #[.pointer (some ⟨x, 0, none⟩), .int .u64 (y : Nat), .agg (⟨c, t.nx, p, t.d + 1⟩ : Sl).row] w1 fun e w' => e = .returned (.tuple #[]) ∧ NxS w0 w1 O x ad S (n + 20) g σ' fs' ct' w') (hd : ¬ t.d = 4096) (hd2 : t.d ≤ 4096) :
    Calls Tryd.prog 9 #[.pointer (some ⟨x, 0, none⟩), .int .u64 (p : Nat), .int .u64 (y : Nat), .agg #[.int .i64 (c.k : Nat), .int .u64 (c.a : Nat), .int .i64 (c.b : Nat), .int .i64 (c.r : Nat), .int .i64 (c.g : Nat), .int .i64 (c.s : Nat), .int .u64 (c.m : Nat)]] W fun e w' => e = .returned (.int .i64 0) ∧ NxS w0 W O x ad S (n + 20) g σ' fs' ct' w' := by
  have H0 := Hid.mk h
  have cH := fun (w1 : World) (hb : Below W.heap.size W w1) => held_ok (h.below hb) hp
  have cA2 := fun (w1 : World) (hb : Below W.heap.size W w1) => (cA w1 (h.below hb)).mono fun e w' hh => (⟨hh.1, NxS.base hb hh.2⟩ : e = .returned (.tuple #[]) ∧ NxS w0 W O x ad S (n + 20) g σ' fs' ct' w')
  clear cA
  have g1 := heap_alloc_new W (.cells #[.int .i64 (c.k : Nat), .int .u64 (c.a : Nat), .int .i64 (c.b : Nat), .int .i64 (c.r : Nat), .int .i64 (c.g : Nat), .int .i64 (c.s : Nat), .int .u64 (c.m : Nat)] 33)
  have hB := below_new W (.cells #[.int .i64 (c.k : Nat), .int .u64 (c.a : Nat), .int .i64 (c.b : Nat), .int .i64 (c.r : Nat), .int .i64 (c.g : Nat), .int .i64 (c.s : Nat), .int .u64 (c.m : Nat)] 33)
  generalize eW : W.alloc (.cells #[.int .i64 (c.k : Nat), .int .u64 (c.a : Nat), .int .i64 (c.b : Nat), .int .i64 (c.r : Nat), .int .i64 (c.g : Nat), .int .i64 (c.s : Nat), .int .u64 (c.m : Nat)] 33) = W0 at *
  have hw1 : IntKind.i64.wrap ((t.d : Int) + 1) = ((t.d + 1 : Nat) : Int) := by rw [IntKind.wrap_i64] <;> omega
  have hw2 : wrap64 ((t.d : Int) + 1) = ((t.d + 1 : Nat) : Int) := by unfold wrap64; omega
  have dd : (((t.d : Nat) : Int) == 4096) = false := by rw [beq_eq_false_iff_ne]; omega
  have cA3 : ∀ (w1 : World) (hb : Below W.heap.size W w1), Calls Tryd.prog 28 #[.pointer (some ⟨x, 0, none⟩), .int .u64 (y : Nat), .agg #[.int .i64 (c.k : Nat), .int .u64 (c.a : Nat), .int .i64 (c.b : Nat), .int .i64 (c.r : Nat), .int .i64 (c.g : Nat), .int .i64 (c.s : Nat), .int .u64 (c.m : Nat), .int .u64 (t.nx : Nat), .int .u64 (p : Nat), .int .i64 ((t.d + 1 : Nat) : Int)]] w1 fun e w' => e = .returned (.tuple #[]) ∧ NxS w0 W O x ad S (n + 20) g σ' fs' ct' w' := cA2
  clear cA2
  generalize ((t.d + 1 : Nat) : Int) = D1 at *
  clear h hp hd hd2
  go_enter Tryd.func9, Tryd.ntmps9
  go_upto_region 1 with fail
  (try rw [eW])
  go_wp2_with fail
  refine (cH _ hB).mono ?_
  rintro e w1 ⟨rfl, hb⟩
  replace hB := below_tr hB hb
  replace g1 := block_later hb g1
  have hRT := hB.size
  have hlt1 := block_lt g1
  have gT := Hid.mk (heap_alloc_new w1 (.cells #[.int .i64 0, .int .u64 0, .int .i64 0, .int .i64 0, .int .i64 0, .int .i64 0, .int .u64 0, .int .u64 0, .int .u64 0, .int .i64 0] 61))
  replace g1 := Hid.mk (block_later (below_new w1 (.cells #[.int .i64 0, .int .u64 0, .int .i64 0, .int .i64 0, .int .i64 0, .int .i64 0, .int .u64 0, .int .u64 0, .int .u64 0, .int .i64 0] 61)) g1)
  replace hB := below_tr hB (below_new w1 (.cells #[.int .i64 0, .int .u64 0, .int .i64 0, .int .i64 0, .int .i64 0, .int .i64 0, .int .u64 0, .int .u64 0, .int .u64 0, .int .i64 0] 61))
  go_upto_region 2 with (first
    | (refine wpList_store_segTo rfl 61 _ _ rfl rfl (w1.heap.size) 0 _ t.row rfl rfl rfl 61 _ (gT.out) (by rw [(row10 t)]; exact Nat.le_refl 10) (info10.trans (congrArg some (row10 t).symm)) (row1 t) t.row (segA_all _ _ (by rw [(row10 t)]; rfl)) ?_; intro wq hrq htq)
    | fail)
  replace g1 := block_turn htq g1.out (Nat.ne_of_lt hlt1)
  replace gT := hrq
  replace hB := below_turn hB htq hRT
  clear hrq htq hb
  obtain ⟨q0, q1, q2, q3, q4, q5, q6⟩ := c7_of g1
  go_wp2_with fail
  refine (cM _ hB).mono ?_
  clear q0 q1 q2 q3 q4 q5 q6
  rintro e w2 ⟨rfl, hb⟩
  replace hB := below_tr hB hb
  obtain ⟨q0, q1, q2, q3, q4, q5, q6⟩ := c7_of (block_later hb g1)
  obtain ⟨-, -, -, -, -, -, -, p7, p8, p9⟩ := cells10 (block_later hb gT)
  generalize ((t.d : Nat) : Int) = D0 at *
  go_wp2_with fail
  refine (cA3 _ hB).mono ?_
  rintro e w3 ⟨rfl, hN⟩
  replace hN := Hid.mk hN
  go_wp2
  go_ret
  exact ⟨rfl, hN.out⟩
set_option maxRecDepth 100000 in
set_option maxHeartbeats 2000000 in
theorem child_no3 {w0 W : World} {O : Nat → Prop} {x ad S n : Nat} {g : Nat → Nat} {σ : Nat → Option Sl} {fs ct : Nat} (h : TrS w0 W O x ad S n g σ fs ct) {p y : Nat} {t : Sl} (hp : σ p = some t) {c : Cp}
    (cM : ∀ w1, Below W.heap.size W w1 → Calls Tryd.prog 27 #[.pointer (some ⟨x, 0, none⟩), .int .u64 (y : Nat), .agg #[.int .i64 (c.k : Nat), .int .u64 (c.a : Nat), .int .i64 (c.b : Nat), .int .i64 (c.r : Nat), .int .i64 (c.g : Nat), .int .i64 (c.s : Nat), .int .u64 (c.m : Nat)]] w1 fun e w' => e = .returned (.int .i64 0) ∧ Below w1.heap.size w1 w') (hd : t.d = 4096) :
    Calls Tryd.prog 9 #[.pointer (some ⟨x, 0, none⟩), .int .u64 (p : Nat), .int .u64 (y : Nat), .agg #[.int .i64 (c.k : Nat), .int .u64 (c.a : Nat), .int .i64 (c.b : Nat), .int .i64 (c.r : Nat), .int .i64 (c.g : Nat), .int .i64 (c.s : Nat), .int .u64 (c.m : Nat)]] W fun e w' => e = .returned (.int .i64 42) ∧ Below W.heap.size W w' := by
  have cH := fun (w1 : World) (hb : Below W.heap.size W w1) => held_ok (h.below hb) hp
  have g1 := heap_alloc_new W (.cells #[.int .i64 (c.k : Nat), .int .u64 (c.a : Nat), .int .i64 (c.b : Nat), .int .i64 (c.r : Nat), .int .i64 (c.g : Nat), .int .i64 (c.s : Nat), .int .u64 (c.m : Nat)] 33)
  have hB := below_new W (.cells #[.int .i64 (c.k : Nat), .int .u64 (c.a : Nat), .int .i64 (c.b : Nat), .int .i64 (c.r : Nat), .int .i64 (c.g : Nat), .int .i64 (c.s : Nat), .int .u64 (c.m : Nat)] 33)
  generalize eW : W.alloc (.cells #[.int .i64 (c.k : Nat), .int .u64 (c.a : Nat), .int .i64 (c.b : Nat), .int .i64 (c.r : Nat), .int .i64 (c.g : Nat), .int .i64 (c.s : Nat), .int .u64 (c.m : Nat)] 33) = W0 at *
  have dd : (((t.d : Nat) : Int) == 4096) = true := by rw [beq_iff_eq]; omega
  clear h hp hd
  go_enter Tryd.func9, Tryd.ntmps9
  go_upto_region 1 with fail
  (try rw [eW])
  go_wp2_with fail
  refine (cH _ hB).mono ?_
  rintro e w1 ⟨rfl, hb⟩
  replace hB := below_tr hB hb
  replace g1 := block_later hb g1
  have hRT := hB.size
  have hlt1 := block_lt g1
  have gT := Hid.mk (heap_alloc_new w1 (.cells #[.int .i64 0, .int .u64 0, .int .i64 0, .int .i64 0, .int .i64 0, .int .i64 0, .int .u64 0, .int .u64 0, .int .u64 0, .int .i64 0] 61))
  replace g1 := Hid.mk (block_later (below_new w1 (.cells #[.int .i64 0, .int .u64 0, .int .i64 0, .int .i64 0, .int .i64 0, .int .i64 0, .int .u64 0, .int .u64 0, .int .u64 0, .int .i64 0] 61)) g1)
  replace hB := below_tr hB (below_new w1 (.cells #[.int .i64 0, .int .u64 0, .int .i64 0, .int .i64 0, .int .i64 0, .int .i64 0, .int .u64 0, .int .u64 0, .int .u64 0, .int .i64 0] 61))
  go_upto_region 2 with (first
    | (refine wpList_store_segTo rfl 61 _ _ rfl rfl (w1.heap.size) 0 _ t.row rfl rfl rfl 61 _ (gT.out) (by rw [(row10 t)]; exact Nat.le_refl 10) (info10.trans (congrArg some (row10 t).symm)) (row1 t) t.row (segA_all _ _ (by rw [(row10 t)]; rfl)) ?_; intro wq hrq htq)
    | fail)
  replace g1 := block_turn htq g1.out (Nat.ne_of_lt hlt1)
  replace gT := hrq
  replace hB := below_turn hB htq hRT
  clear hrq htq hb
  obtain ⟨q0, q1, q2, q3, q4, q5, q6⟩ := c7_of g1
  go_wp2_with fail
  refine (cM _ hB).mono ?_
  clear q0 q1 q2 q3 q4 q5 q6
  rintro e w2 ⟨rfl, hb⟩
  replace hB := below_tr hB hb
  obtain ⟨-, -, -, -, -, -, -, p7, p8, p9⟩ := cells10 (block_later hb gT)
  generalize ((t.d : Nat) : Int) = D0 at *
  go_wp2
  go_ret
  exact ⟨rfl, hB⟩

theorem set1_c (c : Cp) (q : Nat) (s : Sl) (w1 : World) (hv : w1.heap[q]? = some (.cells #[.int .i64 (c.k : Nat), .int .u64 (c.a : Nat), .int .i64 (c.b : Nat), .int .i64 (c.r : Nat), .int .i64 (c.g : Nat), .int .i64 (c.s : Nat), .int .u64 (c.m : Nat)] 33 (0, 0))) : Doer 46 #[.pointer (some ⟨q, 0, none⟩)] s (toC c s) w1 := by
  intro b hb
  have gb := Hid.mk hb
  clear hb
  obtain ⟨q0, q1, q2, q3, q4, q5, q6⟩ := c7_of hv
  show Calls Tryd.prog 46 #[.pointer (some ⟨b, 0, none⟩), .pointer (some ⟨q, 0, none⟩)] w1 _
  go_enter Tryd.func46, Tryd.ntmps46
  go_wp2_with (first
    | (refine wpList_store_segTo rfl 33 _ _ rfl rfl b 0 _ #[.int .i64 (c.k : Nat), .int .u64 (c.a : Nat), .int .i64 (c.b : Nat), .int .i64 (c.r : Nat), .int .i64 (c.g : Nat), .int .i64 (c.s : Nat), .int .u64 (c.m : Nat)] rfl rfl rfl 61 _ gb.out (show 0 + 7 ≤ 10 by decide) info7 (by simp [Value.oneCell']) (toC c s).row rfl ?_; intro wq hrq htq)
    | fail)
  go_end0
  exact ⟨rfl, hrq, htq⟩
theorem enter46 (args : Array Value) (w : World) : (callFunc 46 args).run Tryd.prog w = .ok (.enter 46 args) w := enters_of Tryd.func46 (by kernel_rfl) rfl args w
set_option maxRecDepth 100000 in
set_option maxHeartbeats 2000000 in
theorem set_no1 {w0 W : World} {O : Nat → Prop} {x ad S n : Nat} {g : Nat → Nat} {σ : Nat → Option Sl} {fs ct : Nat} (h : TrS w0 W O x ad S n g σ fs ct) {p : Nat} (hlt : p < 18446744073709551616) (hz : Zr g p) (hp : σ p = none) (k : Int) (a : Nat) (b r q s : Int) (m : Nat) (ha : a < 18446744073709551616) (hm : m < 18446744073709551616) :
    Calls Tryd.prog 24 #[.pointer (some ⟨x, 0, none⟩), .int .u64 (p : Nat), .agg #[.int .i64 k, .int .u64 (a : Nat), .int .i64 b, .int .i64 r, .int .i64 q, .int .i64 s, .int .u64 (m : Nat)]] W fun e w' => e = .returned (.int .i64 (heE S p)) ∧ Below W.heap.size W w' := by
  have cH := fun (w1 : World) (hb : Below W.heap.size W w1) => held_no (h.below hb) hlt hp hz
  have hE : ¬ heE S p = 0 := he_ne
  have g1 := heap_alloc_new W (.cells #[.int .i64 k, .int .u64 (a : Nat), .int .i64 b, .int .i64 r, .int .i64 q, .int .i64 s, .int .u64 (m : Nat)] 33)
  have hB := below_new W (.cells #[.int .i64 k, .int .u64 (a : Nat), .int .i64 b, .int .i64 r, .int .i64 q, .int .i64 s, .int .u64 (m : Nat)] 33)
  generalize eW : W.alloc (.cells #[.int .i64 k, .int .u64 (a : Nat), .int .i64 b, .int .i64 r, .int .i64 q, .int .i64 s, .int .u64 (m : Nat)] 33) = W0 at *
  generalize heE S p = E at *
  have dE : ((E : Int) != 0) = true := by rw [bne_iff_ne]; exact hE
  clear h hz hlt hE hp ha hm
  go_enter Tryd.func24, Tryd.ntmps24
  go_upto_region 1 with fail
  (try rw [eW])
  go_wp2_with fail
  refine (cH _ hB).mono ?_
  rintro e w1 ⟨rfl, hb⟩
  replace hB := below_tr hB hb
  replace g1 := block_later hb g1
  have hRT := hB.size
  have hlt1 := block_lt g1
  have gT := Hid.mk (heap_alloc_new w1 (.cells #[.int .i64 0, .int .u64 0, .int .i64 0, .int .i64 0, .int .i64 0, .int .i64 0, .int .u64 0, .int .u64 0, .int .u64 0, .int .i64 0] 61))
  replace g1 := Hid.mk (block_later (below_new w1 (.cells #[.int .i64 0, .int .u64 0, .int .i64 0, .int .i64 0, .int .i64 0, .int .i64 0, .int .u64 0, .int .u64 0, .int .u64 0, .int .i64 0] 61)) g1)
  replace hB := below_tr hB (below_new w1 (.cells #[.int .i64 0, .int .u64 0, .int .i64 0, .int .i64 0, .int .i64 0, .int .i64 0, .int .u64 0, .int .u64 0, .int .u64 0, .int .i64 0] 61))
  go_upto_region 2 with (first
    | (refine wpList_store_segTo rfl 61 _ _ rfl rfl (w1.heap.size) 0 _ Z10 rfl rfl rfl 61 _ (gT.out) (by rw [z10]; exact Nat.le_refl 10) (info10.trans (congrArg some z10.symm)) z1 Z10 (segA_all _ _ (by rw [z10]; rfl)) ?_; intro wq hrq htq)
    | fail)
  replace g1 := block_turn htq g1.out (Nat.ne_of_lt hlt1)
  replace gT := hrq
  replace hB := below_turn hB htq hRT
  clear hrq htq hb
  go_wp2
  go_ret
  exact ⟨rfl, hB⟩
set_option maxRecDepth 100000 in
set_option maxHeartbeats 2000000 in
theorem set_no2 {w0 W : World} {O : Nat → Prop} {x ad S n : Nat} {g : Nat → Nat} {σ : Nat → Option Sl} {fs ct : Nat} (h : TrS w0 W O x ad S n g σ fs ct) {p : Nat} {t : Sl} (hp : σ p = some t) (k : Int) (a : Nat) (b r q s : Int) (m : Nat) (ha : a < 18446744073709551616) (hm : m < 18446744073709551616) (hE : ftB k a b r q s m = false) :
    Calls Tryd.prog 24 #[.pointer (some ⟨x, 0, none⟩), .int .u64 (p : Nat), .agg #[.int .i64 k, .int .u64 (a : Nat), .int .i64 b, .int .i64 r, .int .i64 q, .int .i64 s, .int .u64 (m : Nat)]] W fun e w' => e = .returned (.int .i64 10) ∧ Below W.heap.size W w' := by
  have cH := fun (w1 : World) (hb : Below W.heap.size W w1) => held_ok (h.below hb) hp
  have cT := fun w1 => fits_any k a b r q s m ha hm w1
  rw [hE] at cT
  have g1 := heap_alloc_new W (.cells #[.int .i64 k, .int .u64 (a : Nat), .int .i64 b, .int .i64 r, .int .i64 q, .int .i64 s, .int .u64 (m : Nat)] 33)
  have hB := below_new W (.cells #[.int .i64 k, .int .u64 (a : Nat), .int .i64 b, .int .i64 r, .int .i64 q, .int .i64 s, .int .u64 (m : Nat)] 33)
  generalize eW : W.alloc (.cells #[.int .i64 k, .int .u64 (a : Nat), .int .i64 b, .int .i64 r, .int .i64 q, .int .i64 s, .int .u64 (m : Nat)] 33) = W0 at *
  clear h hE hp ha hm
  go_enter Tryd.func24, Tryd.ntmps24
  go_upto_region 1 with fail
  (try rw [eW])
  go_wp2_with fail
  refine (cH _ hB).mono ?_
  rintro e w1 ⟨rfl, hb⟩
  replace hB := below_tr hB hb
  replace g1 := block_later hb g1
  have hRT := hB.size
  have hlt1 := block_lt g1
  have gT := Hid.mk (heap_alloc_new w1 (.cells #[.int .i64 0, .int .u64 0, .int .i64 0, .int .i64 0, .int .i64 0, .int .i64 0, .int .u64 0, .int .u64 0, .int .u64 0, .int .i64 0] 61))
  replace g1 := Hid.mk (block_later (below_new w1 (.cells #[.int .i64 0, .int .u64 0, .int .i64 0, .int .i64 0, .int .i64 0, .int .i64 0, .int .u64 0, .int .u64 0, .int .u64 0, .int .i64 0] 61)) g1)
  replace hB := below_tr hB (below_new w1 (.cells #[.int .i64 0, .int .u64 0, .int .i64 0, .int .i64 0, .int .i64 0, .int .i64 0, .int .u64 0, .int .u64 0, .int .u64 0, .int .i64 0] 61))
  go_upto_region 2 with (first
    | (refine wpList_store_segTo rfl 61 _ _ rfl rfl (w1.heap.size) 0 _ t.row rfl rfl rfl 61 _ (gT.out) (by rw [(row10 t)]; exact Nat.le_refl 10) (info10.trans (congrArg some (row10 t).symm)) (row1 t) t.row (segA_all _ _ (by rw [(row10 t)]; rfl)) ?_; intro wq hrq htq)
    | fail)
  replace g1 := block_turn htq g1.out (Nat.ne_of_lt hlt1)
  replace gT := hrq
  replace hB := below_turn hB htq hRT
  clear hrq htq hb
  obtain ⟨q0, q1, q2, q3, q4, q5, q6⟩ := c7_of g1
  go_wp2_with fail
  refine (cT _).mono ?_
  clear q0 q1 q2 q3 q4 q5 q6
  rintro e w2 ⟨rfl, hb⟩
  replace hB := below_tr hB hb
  go_wp2
  go_ret
  exact ⟨rfl, hB⟩
set_option maxRecDepth 100000 in
set_option maxHeartbeats 2000000 in
theorem set_mk {w0 W : World} {O : Nat → Prop} {x ad S n : Nat} {g : Nat → Nat} {σ : Nat → Option Sl} {fs ct : Nat} (h : TrS w0 W O x ad S n g σ fs ct) (hn : n + 4 < 100000000) {p : Nat} {t : Sl} (hp : σ p = some t) {c : Cp} (hf : Fit c) :
    Calls Tryd.prog 24 #[.pointer (some ⟨x, 0, none⟩), .int .u64 (p : Nat), .agg #[.int .i64 (c.k : Nat), .int .u64 (c.a : Nat), .int .i64 (c.b : Nat), .int .i64 (c.r : Nat), .int .i64 (c.g : Nat), .int .i64 (c.s : Nat), .int .u64 (c.m : Nat)]] W fun e w' => e = .returned (.int .i64 0) ∧ NxS w0 W O x ad S (n + 4) g (ch σ p (toC c)) fs ct w' := by
  have cH := fun (w1 : World) (hb : Below W.heap.size W w1) => held_ok (h.below hb) hp
  have cT := fun w1 => fits_any c.k c.a c.b c.r c.g c.s c.m (by have := hf.rt.qa; omega) hf.rt.qm w1
  rw [show ftB c.k c.a c.b c.r c.g c.s c.m = true by unfold ftB; rw [hf.cb]; simp [hf.k0]] at cT
  have cC := fun (w1 : World) (hb : Below W.heap.size W w1) (q : Nat) (hq : w1.heap[q]? = some (.cells #[.int .i64 (c.k : Nat), .int .u64 (c.a : Nat), .int .i64 (c.b : Nat), .int .i64 (c.r : Nat), .int .i64 (c.g : Nat), .int .i64 (c.s : Nat), .int .u64 (c.m : Nat)] 33 (0, 0))) => (change_c (h.below hb) hn hp ((h.good hp).1.toC hf) enter46 (lb := #[.pointer (some ⟨q, 0, none⟩)]) (fun w2 hb2 => set1_c c q t w2 (block_later hb2 hq))).mono fun e w' hh => (⟨hh.1, NxS.base hb hh.2⟩ : e = .returned (.tuple #[]) ∧ NxS w0 W O x ad S (n + 4) g (up σ p (some (toC c t))) fs ct w')
  rw [← ch_some hp (toC c)] at cC
  have g1 := heap_alloc_new W (.cells #[.int .i64 (c.k : Nat), .int .u64 (c.a : Nat), .int .i64 (c.b : Nat), .int .i64 (c.r : Nat), .int .i64 (c.g : Nat), .int .i64 (c.s : Nat), .int .u64 (c.m : Nat)] 33)
  have hB := below_new W (.cells #[.int .i64 (c.k : Nat), .int .u64 (c.a : Nat), .int .i64 (c.b : Nat), .int .i64 (c.r : Nat), .int .i64 (c.g : Nat), .int .i64 (c.s : Nat), .int .u64 (c.m : Nat)] 33)
  generalize eW : W.alloc (.cells #[.int .i64 (c.k : Nat), .int .u64 (c.a : Nat), .int .i64 (c.b : Nat), .int .i64 (c.r : Nat), .int .i64 (c.g : Nat), .int .i64 (c.s : Nat), .int .u64 (c.m : Nat)] 33) = W0 at *
  clear h hp hn hf
  go_enter Tryd.func24, Tryd.ntmps24
  go_upto_region 1 with fail
  (try rw [eW])
  go_wp2_with fail
  refine (cH _ hB).mono ?_
  rintro e w1 ⟨rfl, hb⟩
  replace hB := below_tr hB hb
  replace g1 := block_later hb g1
  have hRT := hB.size
  have hlt1 := block_lt g1
  have gT := Hid.mk (heap_alloc_new w1 (.cells #[.int .i64 0, .int .u64 0, .int .i64 0, .int .i64 0, .int .i64 0, .int .i64 0, .int .u64 0, .int .u64 0, .int .u64 0, .int .i64 0] 61))
  replace g1 := Hid.mk (block_later (below_new w1 (.cells #[.int .i64 0, .int .u64 0, .int .i64 0, .int .i64 0, .int .i64 0, .int .i64 0, .int .u64 0, .int .u64 0, .int .u64 0, .int .i64 0] 61)) g1)
  replace hB := below_tr hB (below_new w1 (.cells #[.int .i64 0, .int .u64 0, .int .i64 0, .int .i64 0, .int .i64 0, .int .i64 0, .int .u64 0, .int .u64 0, .int .u64 0, .int .i64 0] 61))
  go_upto_region 2 with (first
    | (refine wpList_store_segTo rfl 61 _ _ rfl rfl (w1.heap.size) 0 _ t.row rfl rfl rfl 61 _ (gT.out) (by rw [(row10 t)]; exact Nat.le_refl 10) (info10.trans (congrArg some (row10 t).symm)) (row1 t) t.row (segA_all _ _ (by rw [(row10 t)]; rfl)) ?_; intro wq hrq htq)
    | fail)
  replace g1 := block_turn htq g1.out (Nat.ne_of_lt hlt1)
  replace gT := hrq
  replace hB := below_turn hB htq hRT
  clear hrq htq hb
  obtain ⟨q0, q1, q2, q3, q4, q5, q6⟩ := c7_of g1
  go_wp2_with fail
  refine (cT _).mono ?_
  clear q0 q1 q2 q3 q4 q5 q6
  rintro e w2 ⟨rfl, hb⟩
  replace hB := below_tr hB hb
  replace g1 := block_later hb g1
  have cC2 := cC _ hB _ g1
  clear cC
  go_wp2_with fail
  refine cC2.mono ?_
  rintro e w3 ⟨rfl, hN⟩
  replace hN := Hid.mk hN
  go_wp2
  go_ret
  exact ⟨rfl, hN.out⟩
end TE
end Go.Proofs.YtcmndefjmhcbhaaDoor
