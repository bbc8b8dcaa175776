/- Slots: Load, Store and Wipe in a memory. -/
import Derived.Test.YtcmndefjmhcbhaaDoorSlotC
set_option linter.unusedVariables false
namespace Go.Proofs.YtcmndefjmhcbhaaDoor
open Go.RowKit

theorem MemAt.c0 {w : World} {X : Nat → Prop} {g S n : Nat} {f : Nat → Nat} (h : MemAt w X g S n f) : w.cell? ⟨g, 0, none⟩ = some (.int .u64 (S : Nat)) := by
  obtain ⟨mb, pg, h⟩ := h; exact h.c0
theorem MemAt.fl {w : World} {X : Nat → Prop} {g S n : Nat} {f : Nat → Nat} (h : MemAt w X g S n f) : ∀ x, f x < 18446744073709551616 := by
  obtain ⟨mb, pg, h⟩ := h; exact h.fl
theorem wpList_index {P : Program} {ops : Array Oper} {rest : List Oper} {op : Oper} {a : Act} {w : World} {Q : Exit → Act → World → Prop} (hgd : op.guard = none) (ty : TypeId) (x y : Operand) (ho : op.op = .index ty x y) (v : Value)
    (hr : (Instr.index ty (a.eval x) (a.eval y)).run P w = .ok v w) (h : wpList P ops Q rest (a.put op.dst v) w) : wpList P ops Q (op :: rest) a w := by
  refine wpList_plain hgd fun _ hK => ?_
  unfold Oper.wp execOp
  simp only [ho, hr, Sem.run_bind, Sem.run_pure, Result.andThen_ok]
  exact hK _ _ h
theorem info1u : (Tryd.prog.info? 23).map (·.size) = some 1 := by kernel_rfl
theorem sE_ok {S x : Nat} (h : sE S x = 0) : x % 32 = 0 ∧ x < S := by
  unfold sE at h
  by_cases q : x % 32 = 0
  · rw [if_pos q] at h
    by_cases q2 : S ≤ x
    · rw [if_pos q2] at h; cases h
    · exact ⟨q, by omega⟩
  · rw [if_neg q] at h; cases h

/-- What Load tells. -/
def ldV (S : Nat) (f : Nat → Nat) (x : Nat) : Array Value := if sE S x = 0 then slV (f x) (f (x + 8)) (f (x + 16)) (f (x + 24)) else #[.int .i64 0, .int .u64 0, .int .i64 0, .int .i64 0, .int .i64 0, .int .i64 0, .int .u64 0, .int .u64 0, .int .u64 0, .int .i64 0]
def ldE (S : Nat) (f : Nat → Nat) (x : Nat) : Int := if sE S x = 0 then slE (f x) (f (x + 8)) (f (x + 16)) (f (x + 24)) else sE S x

set_option maxRecDepth 100000 in
set_option maxHeartbeats 4000000 in
theorem load_no {w : World} {X : Nat → Prop} {g S n : Nat} {f : Nat → Nat} (h : MemAt w X g S n f) (x : Nat) (hx : x < 18446744073709551616) {E : Int} (hE : sE S x = E) (hE0 : ¬ E = 0) :
    Calls Tryd.prog 48 #[.pointer (some ⟨g, 0, none⟩), .int .u64 x] w fun e w' => e = .returned (.tuple #[.agg #[.int .i64 0, .int .u64 0, .int .i64 0, .int .i64 0, .int .i64 0, .int .i64 0, .int .u64 0, .int .u64 0, .int .u64 0, .int .i64 0], .int .i64 E]) ∧ Below w.heap.size w w' := by
  have cK := fun W (hb : Below w.heap.size w W) => scheck_c x hx (h.below hb).c0
  rw [hE] at cK
  have dE : ((E : Int) != 0) = true := by rw [bne_iff_ne]; exact hE0
  clear hE hE0
  go_enter Tryd.func48, Tryd.ntmps48
  go_wp2_with fail
  have gR := heap_alloc_new w (.cells #[.int .i64 0, .int .u64 0, .int .i64 0, .int .i64 0, .int .i64 0, .int .i64 0, .int .u64 0, .int .u64 0, .int .u64 0, .int .i64 0] 61)
  have hB := below_new w (.cells #[.int .i64 0, .int .u64 0, .int .i64 0, .int .i64 0, .int .i64 0, .int .i64 0, .int .u64 0, .int .u64 0, .int .u64 0, .int .i64 0] 61)
  generalize w.alloc (.cells #[.int .i64 0, .int .u64 0, .int .i64 0, .int .i64 0, .int .i64 0, .int .i64 0, .int .u64 0, .int .u64 0, .int .u64 0, .int .i64 0] 61) = W0 at *
  refine (cK _ hB).mono ?_
  rintro e w1 ⟨rfl, rfl⟩
  go_wp2_with (first
    | (refine wpList_store_segTo rfl 61 _ _ rfl rfl w.heap.size 0 _ #[.int .i64 0, .int .u64 0, .int .i64 0, .int .i64 0, .int .i64 0, .int .i64 0, .int .u64 0, .int .u64 0, .int .u64 0, .int .i64 0] rfl rfl rfl 61 _ gR (show 0 + 10 ≤ 10 by decide) info10 (by simp [Value.oneCell']) #[.int .i64 0, .int .u64 0, .int .i64 0, .int .i64 0, .int .i64 0, .int .i64 0, .int .u64 0, .int .u64 0, .int .u64 0, .int .i64 0] rfl ?_; intro wq hrq htq)
    | fail)
  refine bodyPost_ret (res_row_tmp rfl _ wq w.heap.size 61 #[.int .i64 0, .int .u64 0, .int .i64 0, .int .i64 0, .int .i64 0, .int .i64 0, .int .u64 0, .int .u64 0, .int .u64 0, .int .i64 0] (0, 0) _ rfl hrq Tryd.underlying61 rfl info10) rfl ?_
  exact ⟨rfl, below_turn hB htq (Nat.le_refl _)⟩

set_option maxRecDepth 100000 in
set_option maxHeartbeats 8000000 in
theorem load_mk {w : World} {X : Nat → Prop} {g S n : Nat} {f : Nat → Nat} (h : MemAt w X g S n f) (x x1 x2 x3 : Nat) (hx : x < 18446744073709551616) (hE : sE S x = 0) (e1 : x1 = x + 8) (e2 : x2 = x + 16) (e3 : x3 = x + 24) (hP : SPrts w) (v0 v1 v2 v3 v4 v5 v6 v7 v8 v9 : Value) (E : Int)
    (hone : (#[v0, v1, v2, v3, v4, v5, v6, v7, v8, v9] : Array Value).all (·.oneCell') = true)
    (hS : ∀ W, SPrts W → Calls Tryd.prog 60 #[.agg #[.int .u64 (f x : Nat), .int .u64 (f x1 : Nat), .int .u64 (f x2 : Nat), .int .u64 (f x3 : Nat)]] W fun e w' => e = .returned (.tuple #[.agg #[v0, v1, v2, v3, v4, v5, v6, v7, v8, v9], .int .i64 E]) ∧ Below W.heap.size W w') :
    Calls Tryd.prog 48 #[.pointer (some ⟨g, 0, none⟩), .int .u64 x] w fun e w' => e = .returned (.tuple #[.agg #[v0, v1, v2, v3, v4, v5, v6, v7, v8, v9], .int .i64 E]) ∧ Below w.heap.size w w' := by
  have cK := fun W (hb : Below w.heap.size w W) => scheck_c x hx (h.below hb).c0
  rw [hE] at cK
  have hS0 : S ≤ 4294967296 := by obtain ⟨mb, pg, h⟩ := h; exact h.s0.2.1
  obtain ⟨hx32, hxS⟩ := sE_ok hE
  have cQ0 := fun W (hb : Below w.heap.size w W) => read_c (h.below hb) x hx
  have cQ1 := fun W (hb : Below w.heap.size w W) => read_c (h.below hb) x1 (by omega)
  have cQ2 := fun W (hb : Below w.heap.size w W) => read_c (h.below hb) x2 (by omega)
  have cQ3 := fun W (hb : Below w.heap.size w W) => read_c (h.below hb) x3 (by omega)
  have f0 : IntKind.u64.wrap (x : Int) = (x : Int) := by rw [IntKind.wrap_u64]; omega
  have f1 : IntKind.u64.wrap ((x : Int) + 8) = (x1 : Int) := by rw [IntKind.wrap_u64]; omega
  have f2 : IntKind.u64.wrap ((x : Int) + 16) = (x2 : Int) := by rw [IntKind.wrap_u64]; omega
  have f3 : IntKind.u64.wrap ((x : Int) + 24) = (x3 : Int) := by rw [IntKind.wrap_u64]; omega
  generalize errA S x = E0 at *
  generalize errA S x1 = E1 at *
  generalize errA S x2 = E2 at *
  generalize errA S x3 = E3 at *
  generalize f x = F0 at *
  generalize f x1 = F1 at *
  generalize f x2 = F2 at *
  generalize f x3 = F3 at *
  clear hx hE e1 e2 e3 hS0 hx32 hxS
  go_enter Tryd.func48, Tryd.ntmps48
  go_wp2_with fail
  have gR := heap_alloc_new w (.cells #[.int .i64 0, .int .u64 0, .int .i64 0, .int .i64 0, .int .i64 0, .int .i64 0, .int .u64 0, .int .u64 0, .int .u64 0, .int .i64 0] 61)
  have hB := below_new w (.cells #[.int .i64 0, .int .u64 0, .int .i64 0, .int .i64 0, .int .i64 0, .int .i64 0, .int .u64 0, .int .u64 0, .int .u64 0, .int .i64 0] 61)
  generalize w.alloc (.cells #[.int .i64 0, .int .u64 0, .int .i64 0, .int .i64 0, .int .i64 0, .int .i64 0, .int .u64 0, .int .u64 0, .int .u64 0, .int .i64 0] 61) = W0 at *
  refine (cK _ hB).mono ?_
  rintro e w1 ⟨rfl, rfl⟩
  go_upto_region 5 with fail
  have hRT := block_lt gR
  have gT := heap_alloc_new W0 (.cells #[.int .u64 0, .int .u64 0, .int .u64 0, .int .u64 0] 97)
  replace gR := block_later (below_new _ (.cells #[.int .u64 0, .int .u64 0, .int .u64 0, .int .u64 0] 97)) gR
  replace hB := below_tr hB (below_new _ (.cells #[.int .u64 0, .int .u64 0, .int .u64 0, .int .u64 0] 97))
  generalize W0.heap.size = T at *
  generalize W0.alloc (.cells #[.int .u64 0, .int .u64 0, .int .u64 0, .int .u64 0] 97) = W0a at *
  go_wp2_with fail
  refine wp_loop_rounds 5 ?_
  rw [rounds_succ]
  go_wp2_with fail
  refine (cQ0 _ hB).mono ?_
  rintro e w2 ⟨rfl, hb⟩
  replace gR := block_later hb gR
  replace gT := block_later hb gT
  replace hB := below_tr hB hb
  clear hb
  go_wp2_with (first
    | (refine wpList_store_segTo rfl 23 _ _ rfl rfl T 0 _ #[.int .u64 (F0 : Nat)] rfl rfl rfl 97 _ gT (show 0 + 1 ≤ 4 by decide) info1u (by simp [Value.oneCell']) #[.int .u64 (F0 : Nat), .int .u64 0, .int .u64 0, .int .u64 0] rfl ?_; intro wq0 hrq htq)
    | fail)
  replace gR := block_turn htq gR (by omega)
  replace gT := hrq
  replace hB := below_turn hB htq (by omega)
  clear hrq htq
  rw [rounds_succ]
  go_wp2_with fail
  refine (cQ1 _ hB).mono ?_
  rintro e w3 ⟨rfl, hb⟩
  replace gR := block_later hb gR
  replace gT := block_later hb gT
  replace hB := below_tr hB hb
  clear hb
  go_wp2_with (first
    | (refine wpList_store_segTo rfl 23 _ _ rfl rfl T 1 _ #[.int .u64 (F1 : Nat)] rfl rfl rfl 97 _ gT (show 1 + 1 ≤ 4 by decide) info1u (by simp [Value.oneCell']) #[.int .u64 (F0 : Nat), .int .u64 (F1 : Nat), .int .u64 0, .int .u64 0] rfl ?_; intro wq1 hrq htq)
    | fail)
  replace gR := block_turn htq gR (by omega)
  replace gT := hrq
  replace hB := below_turn hB htq (by omega)
  clear hrq htq
  rw [rounds_succ]
  go_wp2_with fail
  refine (cQ2 _ hB).mono ?_
  rintro e w4 ⟨rfl, hb⟩
  replace gR := block_later hb gR
  replace gT := block_later hb gT
  replace hB := below_tr hB hb
  clear hb
  go_wp2_with (first
    | (refine wpList_store_segTo rfl 23 _ _ rfl rfl T 2 _ #[.int .u64 (F2 : Nat)] rfl rfl rfl 97 _ gT (show 2 + 1 ≤ 4 by decide) info1u (by simp [Value.oneCell']) #[.int .u64 (F0 : Nat), .int .u64 (F1 : Nat), .int .u64 (F2 : Nat), .int .u64 0] rfl ?_; intro wq2 hrq htq)
    | fail)
  replace gR := block_turn htq gR (by omega)
  replace gT := hrq
  replace hB := below_turn hB htq (by omega)
  clear hrq htq
  rw [rounds_succ]
  go_wp2_with fail
  refine (cQ3 _ hB).mono ?_
  rintro e w5 ⟨rfl, hb⟩
  replace gR := block_later hb gR
  replace gT := block_later hb gT
  replace hB := below_tr hB hb
  clear hb
  go_wp2_with (first
    | (refine wpList_store_segTo rfl 23 _ _ rfl rfl T 3 _ #[.int .u64 (F3 : Nat)] rfl rfl rfl 97 _ gT (show 3 + 1 ≤ 4 by decide) info1u (by simp [Value.oneCell']) #[.int .u64 (F0 : Nat), .int .u64 (F1 : Nat), .int .u64 (F2 : Nat), .int .u64 (F3 : Nat)] rfl ?_; intro wq3 hrq htq)
    | fail)
  replace gR := block_turn htq gR (by omega)
  replace gT := hrq
  replace hB := below_turn hB htq (by omega)
  clear hrq htq
  rw [rounds_succ]
  obtain ⟨t0, t1, t2, t3⟩ := cells4 gT
  go_wp2_with fail
  refine (hS _ (hP.later hB)).mono ?_
  rintro e w9 ⟨rfl, hb⟩
  replace gR := block_later hb gR
  replace hB := below_tr hB hb
  go_wp2_with (first
    | (refine wpList_store_segTo rfl 61 _ _ rfl rfl w.heap.size 0 _ #[v0, v1, v2, v3, v4, v5, v6, v7, v8, v9] rfl rfl rfl 61 _ gR (show 0 + 10 ≤ 10 by decide) info10 hone #[v0, v1, v2, v3, v4, v5, v6, v7, v8, v9] rfl ?_; intro wq hrq htq)
    | fail)
  refine bodyPost_ret (res_row_tmp rfl _ wq w.heap.size 61 #[v0, v1, v2, v3, v4, v5, v6, v7, v8, v9] (0, 0) _ rfl hrq Tryd.underlying61 rfl info10) rfl ?_
  exact ⟨rfl, below_turn hB htq (Nat.le_refl _)⟩

theorem load_c {w : World} {X : Nat → Prop} {g S n : Nat} {f : Nat → Nat} (h : MemAt w X g S n f) (x : Nat) (hx : x < 18446744073709551616) (hP : SPrts w) :
    Calls Tryd.prog 48 #[.pointer (some ⟨g, 0, none⟩), .int .u64 x] w fun e w' => e = .returned (.tuple #[.agg (ldV S f x), .int .i64 (ldE S f x)]) ∧ Below w.heap.size w w' := by
  unfold ldV ldE
  by_cases hE : sE S x = 0
  · rw [if_pos hE, if_pos hE]
    have fl := h.fl
    have c := fun W hW => slot_any (f x) (f (x + 8)) (f (x + 16)) (f (x + 24)) (fl _) (fl _) (fl _) (fl _) W hW
    unfold slV slE at c ⊢
    generalize okS (f x) (f (x + 8)) (f (x + 16)) (f (x + 24)) = q at c ⊢
    cases q
    · rw [if_neg (by decide), if_neg (by decide)] at c ⊢
      exact load_mk h x _ _ _ hx hE rfl rfl rfl hP _ _ _ _ _ _ _ _ _ _ _ (by simp [Value.oneCell']) c
    · rw [if_pos rfl, if_pos rfl] at c ⊢
      exact load_mk h x _ _ _ hx hE rfl rfl rfl hP _ _ _ _ _ _ _ _ _ _ _ (by simp [Value.oneCell']) c
  · rw [if_neg hE, if_neg hE]
    exact load_no h x hx rfl hE

/-- A memory of w's, at W: what is turned since w was its own, or is new. -/
def Wst (w : World) (X : Nat → Prop) (g S n : Nat) (f : Nat → Nat) (W : World) : Prop := ∃ Y, MemAt W Y g S n f ∧ Turn X w W ∧ ∀ i, Y i → i < w.heap.size → X i
theorem Wst.start {w : World} {X : Nat → Prop} {g S n : Nat} {f : Nat → Nat} (h : MemAt w X g S n f) : Wst w X g S n f w := ⟨X, h, Turn.refl _ _, fun _ q _ => q⟩
theorem Wst.later {w W W' : World} {X : Nat → Prop} {g S n : Nat} {f : Nat → Nat} (h : Wst w X g S n f W) (hb : Below W.heap.size W W') : Wst w X g S n f W' := by
  obtain ⟨Y, h1, h2, h3⟩ := h
  exact ⟨Y, h1.below hb, h2.trans (turn_of_below (fun _ => False) hb) (fun _ _ q => absurd q id), h3⟩
theorem Wst.write {w W : World} {X : Nat → Prop} {g S n : Nat} {f : Nat → Nat} (h : Wst w X g S n f W) (hn : n < 100000000) (x v : Nat) (hx : x < 18446744073709551616) (hv : v < 18446744073709551616) :
    Calls Tryd.prog 17 #[.pointer (some ⟨g, 0, none⟩), .int .u64 x, .int .u64 v] W fun e w' => e = .returned (.int .i64 (errA S x)) ∧ Wst w X g S (n + 1) (wrF f S x v) w' := by
  obtain ⟨Y, h1, h2, h3⟩ := h
  refine (write_c h1 hn x v hx hv).mono fun e w' hh => ⟨hh.1, Gr Y W w', hh.2.1, h2.trans hh.2.2 (fun i hi q => h3 i q hi), fun i q hi => ?_⟩
  rcases q with q | q
  · exact h3 i q hi
  · have := h2.size; omega
theorem Wst.mem {w W : World} {X : Nat → Prop} {g S n : Nat} {f : Nat → Nat} (h : Wst w X g S n f W) (hX : ∀ i, X i → i < w.heap.size) : MemAt W (Gr X w W) g S n f ∧ Turn X w W := by
  obtain ⟨Y, ⟨mb, pg, h1⟩, h2, h3⟩ := h
  refine ⟨⟨mb, pg, h1.wide (fun i q => ?_) (gr_lt hX h2.size)⟩, h2⟩
  by_cases hi : i < w.heap.size
  · exact Or.inl (h3 i q hi)
  · exact Or.inr ⟨by omega, h1.xlt i q⟩

/-- The words behind Store. -/
def stF (f : Nat → Nat) (S x a b c d : Nat) : Nat → Nat := wrF (wrF (wrF (wrF f S x a) S (x + 8) b) S (x + 16) c) S (x + 24) d
theorem idx4 (v0 v1 v2 v3 : Nat) (w : World) : (Instr.index 97 (.agg #[.int .u64 (v0 : Nat), .int .u64 (v1 : Nat), .int .u64 (v2 : Nat), .int .u64 (v3 : Nat)]) (.int .i64 0)).run Tryd.prog w = .ok (.int .u64 (v0 : Nat)) w ∧
    (Instr.index 97 (.agg #[.int .u64 (v0 : Nat), .int .u64 (v1 : Nat), .int .u64 (v2 : Nat), .int .u64 (v3 : Nat)]) (.int .i64 1)).run Tryd.prog w = .ok (.int .u64 (v1 : Nat)) w ∧
    (Instr.index 97 (.agg #[.int .u64 (v0 : Nat), .int .u64 (v1 : Nat), .int .u64 (v2 : Nat), .int .u64 (v3 : Nat)]) (.int .i64 2)).run Tryd.prog w = .ok (.int .u64 (v2 : Nat)) w ∧
    (Instr.index 97 (.agg #[.int .u64 (v0 : Nat), .int .u64 (v1 : Nat), .int .u64 (v2 : Nat), .int .u64 (v3 : Nat)]) (.int .i64 3)).run Tryd.prog w = .ok (.int .u64 (v3 : Nat)) w := by
  refine ⟨?_, ?_, ?_, ?_⟩ <;> kernel_rfl

set_option maxRecDepth 100000 in
set_option maxHeartbeats 4000000 in
theorem store_no {w : World} {X : Nat → Prop} {g S n : Nat} {f : Nat → Nat} (h : MemAt w X g S n f) (x : Nat) (k : Int) (a : Nat) (b r q s : Int) (m nx pv : Nat) (d : Int) (hx : x < 18446744073709551616) {E : Int} (hE : sE S x = E) (hE0 : ¬ E = 0) :
    Calls Tryd.prog 52 #[.pointer (some ⟨g, 0, none⟩), .int .u64 x, .agg #[.int .i64 k, .int .u64 (a : Nat), .int .i64 b, .int .i64 r, .int .i64 q, .int .i64 s, .int .u64 (m : Nat), .int .u64 (nx : Nat), .int .u64 (pv : Nat), .int .i64 d]] w fun e w' => e = .returned (.int .i64 E) ∧ Below w.heap.size w w' := by
  have cK := fun W (hb : Below w.heap.size w W) => scheck_c x hx (h.below hb).c0
  rw [hE] at cK
  have dE : ((E : Int) != 0) = true := by rw [bne_iff_ne]; exact hE0
  clear hE hE0
  go_enter Tryd.func52, Tryd.ntmps52
  go_wp2_with fail
  have gC := heap_alloc_new w (.cells #[.int .i64 k, .int .u64 (a : Nat), .int .i64 b, .int .i64 r, .int .i64 q, .int .i64 s, .int .u64 (m : Nat), .int .u64 (nx : Nat), .int .u64 (pv : Nat), .int .i64 d] 61)
  have hB := below_new w (.cells #[.int .i64 k, .int .u64 (a : Nat), .int .i64 b, .int .i64 r, .int .i64 q, .int .i64 s, .int .u64 (m : Nat), .int .u64 (nx : Nat), .int .u64 (pv : Nat), .int .i64 d] 61)
  generalize w.alloc (.cells #[.int .i64 k, .int .u64 (a : Nat), .int .i64 b, .int .i64 r, .int .i64 q, .int .i64 s, .int .u64 (m : Nat), .int .u64 (nx : Nat), .int .u64 (pv : Nat), .int .i64 d] 61) = W0 at *
  obtain ⟨c0, c1, c2, c3, c4, c5, c6, c7, c8, c9⟩ := cells10 gC
  have cp0 := fun o => cell_alloc (o := o) c0
  have cp1 := fun o => cell_alloc (o := o) c1
  have cp2 := fun o => cell_alloc (o := o) c2
  have cp3 := fun o => cell_alloc (o := o) c3
  have cp4 := fun o => cell_alloc (o := o) c4
  have cp5 := fun o => cell_alloc (o := o) c5
  have cp6 := fun o => cell_alloc (o := o) c6
  have cp7 := fun o => cell_alloc (o := o) c7
  have cp8 := fun o => cell_alloc (o := o) c8
  have cp9 := fun o => cell_alloc (o := o) c9
  refine (cK _ hB).mono ?_
  rintro e w1 ⟨rfl, rfl⟩
  go_wp2
  go_ret
  first
    | exact ⟨rfl, hB⟩
    | exact ⟨rfl, hB.alloc hB.size _⟩

set_option maxRecDepth 100000 in
set_option maxHeartbeats 4000000 in
theorem store_bad {w : World} {X : Nat → Prop} {g S n : Nat} {f : Nat → Nat} (h : MemAt w X g S n f) (x : Nat) (k : Int) (a : Nat) (b r q s : Int) (m nx pv : Nat) (d : Int) (hx : x < 18446744073709551616) (ha : a < 18446744073709551616) (hm : m < 18446744073709551616) (hnx : nx < 18446744073709551616) (hpv : pv < 18446744073709551616) (hE : sE S x = 0) (hs : sB k a b r q s m nx pv d = false) :
    Calls Tryd.prog 52 #[.pointer (some ⟨g, 0, none⟩), .int .u64 x, .agg #[.int .i64 k, .int .u64 (a : Nat), .int .i64 b, .int .i64 r, .int .i64 q, .int .i64 s, .int .u64 (m : Nat), .int .u64 (nx : Nat), .int .u64 (pv : Nat), .int .i64 d]] w fun e w' => e = .returned (.int .i64 10) ∧ Below w.heap.size w w' := by
  have cK := fun W (hb : Below w.heap.size w W) => scheck_c x hx (h.below hb).c0
  rw [hE] at cK
  have cW := fun w1 => swords_bad k a b r q s m nx pv d ha hm hnx hpv hs w1
  clear hE hs
  go_enter Tryd.func52, Tryd.ntmps52
  go_wp2_with fail
  have gC := heap_alloc_new w (.cells #[.int .i64 k, .int .u64 (a : Nat), .int .i64 b, .int .i64 r, .int .i64 q, .int .i64 s, .int .u64 (m : Nat), .int .u64 (nx : Nat), .int .u64 (pv : Nat), .int .i64 d] 61)
  have hB := below_new w (.cells #[.int .i64 k, .int .u64 (a : Nat), .int .i64 b, .int .i64 r, .int .i64 q, .int .i64 s, .int .u64 (m : Nat), .int .u64 (nx : Nat), .int .u64 (pv : Nat), .int .i64 d] 61)
  generalize w.alloc (.cells #[.int .i64 k, .int .u64 (a : Nat), .int .i64 b, .int .i64 r, .int .i64 q, .int .i64 s, .int .u64 (m : Nat), .int .u64 (nx : Nat), .int .u64 (pv : Nat), .int .i64 d] 61) = W0 at *
  obtain ⟨c0, c1, c2, c3, c4, c5, c6, c7, c8, c9⟩ := cells10 gC
  have cp0 := fun o => cell_alloc (o := o) c0
  have cp1 := fun o => cell_alloc (o := o) c1
  have cp2 := fun o => cell_alloc (o := o) c2
  have cp3 := fun o => cell_alloc (o := o) c3
  have cp4 := fun o => cell_alloc (o := o) c4
  have cp5 := fun o => cell_alloc (o := o) c5
  have cp6 := fun o => cell_alloc (o := o) c6
  have cp7 := fun o => cell_alloc (o := o) c7
  have cp8 := fun o => cell_alloc (o := o) c8
  have cp9 := fun o => cell_alloc (o := o) c9
  refine (cK _ hB).mono ?_
  rintro e w1 ⟨rfl, rfl⟩
  go_wp2_with fail
  refine (cW _).mono ?_
  clear c0 cp0 c1 cp1 c2 cp2 c3 cp3 c4 cp4 c5 cp5 c6 cp6 c7 cp7 c8 cp8 c9 cp9
  rintro e w2 ⟨rfl, hb⟩
  replace gC := block_later hb gC
  replace hB := below_tr hB hb
  clear hb
  obtain ⟨c0, c1, c2, c3, c4, c5, c6, c7, c8, c9⟩ := cells10 gC
  have cp0 := fun o => cell_alloc (o := o) c0
  have cp1 := fun o => cell_alloc (o := o) c1
  have cp2 := fun o => cell_alloc (o := o) c2
  have cp3 := fun o => cell_alloc (o := o) c3
  have cp4 := fun o => cell_alloc (o := o) c4
  have cp5 := fun o => cell_alloc (o := o) c5
  have cp6 := fun o => cell_alloc (o := o) c6
  have cp7 := fun o => cell_alloc (o := o) c7
  have cp8 := fun o => cell_alloc (o := o) c8
  have cp9 := fun o => cell_alloc (o := o) c9
  go_wp2
  go_ret
  first
    | exact ⟨rfl, hB⟩
    | exact ⟨rfl, hB.alloc hB.size _⟩

set_option maxRecDepth 100000 in
set_option maxHeartbeats 8000000 in
theorem store_mk {w : World} {X : Nat → Prop} {g S n : Nat} {f : Nat → Nat} (h : MemAt w X g S n f) (hn : n + 4 < 100000000) (x x1 x2 x3 : Nat) (hx : x < 18446744073709551616) (hE : sE S x = 0) (e1 : x1 = x + 8) (e2 : x2 = x + 16) (e3 : x3 = x + 24) (hP : SPrts w) (k : Int) (a : Nat) (b r q s : Int) (m nx pv : Nat) (d : Int) (A B C D : Nat) (hA : A < 18446744073709551616) (hB0 : B < 18446744073709551616) (hC : C < 18446744073709551616) (hD : D < 18446744073709551616)
    (hW : ∀ W, SPrts W → Calls Tryd.prog 61 #[.agg #[.int .i64 k, .int .u64 (a : Nat), .int .i64 b, .int .i64 r, .int .i64 q, .int .i64 s, .int .u64 (m : Nat), .int .u64 (nx : Nat), .int .u64 (pv : Nat), .int .i64 d]] W fun e w' => e = .returned (.tuple #[.agg #[.int .u64 (A : Nat), .int .u64 (B : Nat), .int .u64 (C : Nat), .int .u64 (D : Nat)], .int .i64 0]) ∧ Below W.heap.size W w') :
    Calls Tryd.prog 52 #[.pointer (some ⟨g, 0, none⟩), .int .u64 x, .agg #[.int .i64 k, .int .u64 (a : Nat), .int .i64 b, .int .i64 r, .int .i64 q, .int .i64 s, .int .u64 (m : Nat), .int .u64 (nx : Nat), .int .u64 (pv : Nat), .int .i64 d]] w fun e w' => e = .returned (.int .i64 0) ∧ Wst w X g S (n + 4) (wrF (wrF (wrF (wrF f S x A) S x1 B) S x2 C) S x3 D) w' := by
  have cK := fun W (hb : Below w.heap.size w W) => scheck_c x hx (h.below hb).c0
  rw [hE] at cK
  have hS0 : S ≤ 4294967296 := by obtain ⟨mb, pg, h⟩ := h; exact h.s0.2.1
  obtain ⟨hx32, hxS⟩ := sE_ok hE
  have cQ0 := fun W (hm : Wst w X g S n f W) => hm.write (by omega) x A hx hA
  have cQ1 := fun W (hm : Wst w X g S (n + 1) (wrF f S x A) W) => hm.write (by omega) x1 B (by omega) hB0
  have cQ2 := fun W (hm : Wst w X g S (n + 2) (wrF (wrF f S x A) S x1 B) W) => hm.write (by omega) x2 C (by omega) hC
  have cQ3 := fun W (hm : Wst w X g S (n + 3) (wrF (wrF (wrF f S x A) S x1 B) S x2 C) W) => hm.write (by omega) x3 D (by omega) hD
  have f0 : IntKind.u64.wrap (x : Int) = (x : Int) := by rw [IntKind.wrap_u64]; omega
  have f1 : IntKind.u64.wrap ((x : Int) + 8) = (x1 : Int) := by rw [IntKind.wrap_u64]; omega
  have f2 : IntKind.u64.wrap ((x : Int) + 16) = (x2 : Int) := by rw [IntKind.wrap_u64]; omega
  have f3 : IntKind.u64.wrap ((x : Int) + 24) = (x3 : Int) := by rw [IntKind.wrap_u64]; omega
  have HM := Hid.mk (Wst.start h)
  have HX := fun W => idx4 A B C D W
  clear h hx hE e1 e2 e3 hS0 hx32 hxS hn hA hB0 hC hD
  go_enter Tryd.func52, Tryd.ntmps52
  go_wp2_with fail
  have gC := heap_alloc_new w (.cells #[.int .i64 k, .int .u64 (a : Nat), .int .i64 b, .int .i64 r, .int .i64 q, .int .i64 s, .int .u64 (m : Nat), .int .u64 (nx : Nat), .int .u64 (pv : Nat), .int .i64 d] 61)
  have hB := below_new w (.cells #[.int .i64 k, .int .u64 (a : Nat), .int .i64 b, .int .i64 r, .int .i64 q, .int .i64 s, .int .u64 (m : Nat), .int .u64 (nx : Nat), .int .u64 (pv : Nat), .int .i64 d] 61)
  generalize w.alloc (.cells #[.int .i64 k, .int .u64 (a : Nat), .int .i64 b, .int .i64 r, .int .i64 q, .int .i64 s, .int .u64 (m : Nat), .int .u64 (nx : Nat), .int .u64 (pv : Nat), .int .i64 d] 61) = W0 at *
  obtain ⟨c0, c1, c2, c3, c4, c5, c6, c7, c8, c9⟩ := cells10 gC
  have cp0 := fun o => cell_alloc (o := o) c0
  have cp1 := fun o => cell_alloc (o := o) c1
  have cp2 := fun o => cell_alloc (o := o) c2
  have cp3 := fun o => cell_alloc (o := o) c3
  have cp4 := fun o => cell_alloc (o := o) c4
  have cp5 := fun o => cell_alloc (o := o) c5
  have cp6 := fun o => cell_alloc (o := o) c6
  have cp7 := fun o => cell_alloc (o := o) c7
  have cp8 := fun o => cell_alloc (o := o) c8
  have cp9 := fun o => cell_alloc (o := o) c9
  refine (cK _ hB).mono ?_
  rintro e w1 ⟨rfl, rfl⟩
  go_wp2_with fail
  refine (hW _ (hP.later hB)).mono ?_
  clear c0 cp0 c1 cp1 c2 cp2 c3 cp3 c4 cp4 c5 cp5 c6 cp6 c7 cp7 c8 cp8 c9 cp9
  rintro e w2 ⟨rfl, hb⟩
  replace gC := block_later hb gC
  replace hB := below_tr hB hb
  clear hb
  obtain ⟨c0, c1, c2, c3, c4, c5, c6, c7, c8, c9⟩ := cells10 gC
  have cp0 := fun o => cell_alloc (o := o) c0
  have cp1 := fun o => cell_alloc (o := o) c1
  have cp2 := fun o => cell_alloc (o := o) c2
  have cp3 := fun o => cell_alloc (o := o) c3
  have cp4 := fun o => cell_alloc (o := o) c4
  have cp5 := fun o => cell_alloc (o := o) c5
  have cp6 := fun o => cell_alloc (o := o) c6
  have cp7 := fun o => cell_alloc (o := o) c7
  have cp8 := fun o => cell_alloc (o := o) c8
  have cp9 := fun o => cell_alloc (o := o) c9
  go_upto_region 5 with fail
  clear c0 cp0 c1 cp1 c2 cp2 c3 cp3 c4 cp4 c5 cp5 c6 cp6 c7 cp7 c8 cp8 c9 cp9
  have gT := heap_alloc_new w2 (.cells #[.int .u64 (A : Nat), .int .u64 (B : Nat), .int .u64 (C : Nat), .int .u64 (D : Nat)] 97)
  replace gC := block_later (below_new _ (.cells #[.int .u64 (A : Nat), .int .u64 (B : Nat), .int .u64 (C : Nat), .int .u64 (D : Nat)] 97)) gC
  replace hB := below_tr hB (below_new _ (.cells #[.int .u64 (A : Nat), .int .u64 (B : Nat), .int .u64 (C : Nat), .int .u64 (D : Nat)] 97))
  generalize w2.heap.size = T at *
  generalize w2.alloc (.cells #[.int .u64 (A : Nat), .int .u64 (B : Nat), .int .u64 (C : Nat), .int .u64 (D : Nat)] 97) = w2a at *
  obtain ⟨c0, c1, c2, c3, c4, c5, c6, c7, c8, c9⟩ := cells10 gC
  have cp0 := fun o => cell_alloc (o := o) c0
  have cp1 := fun o => cell_alloc (o := o) c1
  have cp2 := fun o => cell_alloc (o := o) c2
  have cp3 := fun o => cell_alloc (o := o) c3
  have cp4 := fun o => cell_alloc (o := o) c4
  have cp5 := fun o => cell_alloc (o := o) c5
  have cp6 := fun o => cell_alloc (o := o) c6
  have cp7 := fun o => cell_alloc (o := o) c7
  have cp8 := fun o => cell_alloc (o := o) c8
  have cp9 := fun o => cell_alloc (o := o) c9
  obtain ⟨t0, t1, t2, t3⟩ := cells4 gT
  have tp0 := fun o => cell_alloc (o := o) t0
  have tp1 := fun o => cell_alloc (o := o) t1
  have tp2 := fun o => cell_alloc (o := o) t2
  have tp3 := fun o => cell_alloc (o := o) t3
  have HM := Hid.mk (HM.out.later hB)
  go_wp2_with fail
  refine wp_loop_rounds 5 ?_
  clear c0 cp0 c1 cp1 c2 cp2 c3 cp3 c4 cp4 c5 cp5 c6 cp6 c7 cp7 c8 cp8 c9 cp9 t0 tp0 t1 tp1 t2 tp2 t3 tp3
  rw [rounds_succ]
  go_wp2_with (first
    | (refine wpList_index rfl 97 _ _ rfl _ (HX _).1 ?_)
    | fail)
  refine (cQ0 _ HM.out).mono ?_
  rintro e z0 ⟨rfl, hm⟩
  replace HM := Hid.mk hm
  clear hm
  go_wp2_with fail
  rw [rounds_succ]
  go_wp2_with (first
    | (refine wpList_index rfl 97 _ _ rfl _ (HX _).2.1 ?_)
    | fail)
  refine (cQ1 _ HM.out).mono ?_
  rintro e z1 ⟨rfl, hm⟩
  replace HM := Hid.mk hm
  clear hm
  go_wp2_with fail
  rw [rounds_succ]
  go_wp2_with (first
    | (refine wpList_index rfl 97 _ _ rfl _ (HX _).2.2.1 ?_)
    | fail)
  refine (cQ2 _ HM.out).mono ?_
  rintro e z2 ⟨rfl, hm⟩
  replace HM := Hid.mk hm
  clear hm
  go_wp2_with fail
  rw [rounds_succ]
  go_wp2_with (first
    | (refine wpList_index rfl 97 _ _ rfl _ (HX _).2.2.2 ?_)
    | fail)
  refine (cQ3 _ HM.out).mono ?_
  rintro e z3 ⟨rfl, hm⟩
  replace HM := Hid.mk hm
  clear hm
  go_wp2_with fail
  rw [rounds_succ]
  go_wp2
  go_ret
  exact ⟨rfl, HM.out⟩

/-- Is a slot laid at an address? What is told of it. -/
def stE (S x : Nat) (k : Int) (a : Nat) (b r q s : Int) (m nx pv : Nat) (d : Int) : Int := if sE S x = 0 then (if sB k a b r q s m nx pv d = true then 0 else 10) else sE S x
theorem store_ok {w : World} {X : Nat → Prop} {g S n : Nat} {f : Nat → Nat} (h : MemAt w X g S n f) (hn : n + 4 < 100000000) (x : Nat) (hx : x < 18446744073709551616) (hE : sE S x = 0) (hP : SPrts w) {k a b r g' s m nx pv d : Nat} (hR : Rt k a b r g' s m) (hc : cB k a b r g' s m = true) (hnx : nx < 4294967296 ∧ nx % 32 = 0) (hpv : pv < 4294967296 ∧ pv % 32 = 0) (hd : d ≤ 4096) :
    Calls Tryd.prog 52 #[.pointer (some ⟨g, 0, none⟩), .int .u64 x, .agg #[.int .i64 (k : Nat), .int .u64 (a : Nat), .int .i64 (b : Nat), .int .i64 (r : Nat), .int .i64 (g' : Nat), .int .i64 (s : Nat), .int .u64 (m : Nat), .int .u64 (nx : Nat), .int .u64 (pv : Nat), .int .i64 (d : Nat)]] w fun e w' => e = .returned (.int .i64 0) ∧ Wst w X g S (n + 4) (stF f S x (wordN k a b r g' s) m (lnkN nx pv) d) w' :=
  store_mk h hn x _ _ _ hx hE rfl rfl rfl hP _ _ _ _ _ _ _ _ _ _ _ _ _ _ (word_lt hR) hR.qm (by unfold lnkN; omega) (by omega) (fun W h1 => swords_ok hR hc hnx hpv hd W h1)
end Go.Proofs.YtcmndefjmhcbhaaDoor
