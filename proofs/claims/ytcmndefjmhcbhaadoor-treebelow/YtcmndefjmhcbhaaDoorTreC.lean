/- A slot that is changed, and its neighbours. -/
import Derived.Test.YtcmndefjmhcbhaaDoorTreB
set_option linter.unusedVariables false
namespace Go.Proofs.YtcmndefjmhcbhaaDoor
open Go.RowKit
namespace TE

theorem exec_row {P : Program} {a : Act} {o : Oper} {ty T t : Nat} {x : Operand} {V : Array Value} {d : TypeDesc} {w : World} (ho : o.op = .load ty x) (hx : a.eval x = .pointer (some ⟨T, 0, none⟩)) (hg : w.heap[T]? = some (.cells V t (0, 0)))
    (hu : P.underlying ty = some d) (hd : (match d with | .struct _ | .array _ _ => true | _ => false) = true) (hi : (P.info? ty).map (·.size) = some V.size) : (execOp a.eval o).run P w = .ok (.value (.agg V)) w := by
  unfold execOp
  simp only [ho, hx, Instr.loadAt, Instr.sureAddr, Sem.run_bind, Sem.run_pure, Result.andThen_ok, run_loadVar_row w T t ty V (0, 0) d hg hu hd hi]
theorem TrS.olt {w0 W : World} {O : Nat → Prop} {x ad S n : Nat} {g : Nat → Nat} {σ : Nat → Option Sl} {fs ct : Nat} (h : TrS w0 W O x ad S n g σ fs ct) : ∀ i, O i → i < W.heap.size := fun i q => by
  by_cases e : i = x
  · subst e; exact block_lt h.blk
  · obtain ⟨f, h1, h2⟩ := h.mem; exact h1.lt i ⟨q, e⟩
theorem TrS.c0 {w0 W : World} {O : Nat → Prop} {x ad S n : Nat} {g : Nat → Nat} {σ : Nat → Option Sl} {fs ct : Nat} (h : TrS w0 W O x ad S n g σ fs ct) : W.cell? ⟨x, 0, none⟩ = some (.pointer (some ⟨ad, 0, none⟩)) := by rw [cell_of_row _ _ _ _ _ _ h.blk]; rfl
theorem TrS.c1 {w0 W : World} {O : Nat → Prop} {x ad S n : Nat} {g : Nat → Nat} {σ : Nat → Option Sl} {fs ct : Nat} (h : TrS w0 W O x ad S n g σ fs ct) : W.cell? ⟨x, 1, none⟩ = some (.int .u64 (fs : Nat)) := by rw [cell_of_row _ _ _ _ _ _ h.blk]; rfl
theorem TrS.c2 {w0 W : World} {O : Nat → Prop} {x ad S n : Nat} {g : Nat → Nat} {σ : Nat → Option Sl} {fs ct : Nat} (h : TrS w0 W O x ad S n g σ fs ct) : W.cell? ⟨x, 2, none⟩ = some (.int .i64 (ct : Nat)) := by rw [cell_of_row _ _ _ _ _ _ h.blk]; rfl
theorem ch_none {f : Nat → Option Sl} {y : Nat} (h : f y = none) (k : Sl → Sl) : ch f y k = f := by
  funext z; rw [ch_z]
  by_cases e : z = y
  · rw [if_pos e, e, h]; rfl
  · rw [if_neg e]
theorem ch_some {f : Nat → Option Sl} {y : Nat} {s : Sl} (h : f y = some s) (k : Sl → Sl) : ch f y k = up f y (some (k s)) := by
  funext z; rw [ch_z, up_z]
  by_cases e : z = y
  · rw [if_pos e, if_pos e, e, h]; rfl
  · rw [if_neg e, if_neg e]
theorem GoodS.toN {s : Sl} (h : GoodS s) {v : Nat} (hv : v < 4294967296 ∧ v % 32 = 0) : GoodS (toN v s) := ⟨h.ft, hv, h.hp, h.hd⟩
theorem GoodS.toP {s : Sl} (h : GoodS s) {v : Nat} (hv : v < 4294967296 ∧ v % 32 = 0) : GoodS (toP v s) := ⟨h.ft, h.hn, hv, h.hd⟩
theorem GoodS.toC {s : Sl} (h : GoodS s) {c : Cp} (hv : Fit c) : GoodS (toC c s) := ⟨hv, h.hn, h.hp, h.hd⟩
theorem GoodS.toD {s : Sl} (h : GoodS s) {v : Nat} (hv : v ≤ 4096) : GoodS (toD v s) := ⟨h.ft, h.hn, h.hp, hv⟩
theorem TrS.good {w0 W : World} {O : Nat → Prop} {x ad S n : Nat} {g : Nat → Nat} {σ : Nat → Option Sl} {fs ct : Nat} (h : TrS w0 W O x ad S n g σ fs ct) {y : Nat} {s : Sl} (hy : σ y = some s) : GoodS s ∧ y < 4294967296 ∧ y % 32 = 0 := by
  obtain ⟨f, h1, h2⟩ := h.mem
  obtain ⟨e1, e2, -⟩ := h2.ok y s hy
  have := sE_ok e1
  have := h.sm
  exact ⟨e2, by omega, by omega⟩

/-- What a function value does to a slot in a variable. -/
def Doer (q : Nat) (lb : Array Value) (s s' : Sl) (w1 : World) : Prop := ∀ b, w1.heap[b]? = some (.cells s.row 61 (0, 0)) → Calls Tryd.prog q (#[.pointer (some ⟨b, 0, none⟩)] ++ lb) w1 fun e w' => e = .returned (.tuple #[]) ∧ w'.heap[b]? = some (.cells s'.row 61 (0, 0)) ∧ Turn (fun i => i = b) w1 w'

set_option maxRecDepth 100000 in
set_option maxHeartbeats 2000000 in
theorem jn1_c (v q : Nat) (s : Sl) (w1 : World) (hv : w1.cell? ⟨q, 0, none⟩ = some (.int .u64 (v : Nat))) : Doer 53 #[.pointer (some ⟨q, 0, none⟩)] s (toN v s) w1 := by
  intro b hb
  have gb := Hid.mk hb
  clear hb
  show Calls Tryd.prog 53 #[.pointer (some ⟨b, 0, none⟩), .pointer (some ⟨q, 0, none⟩)] w1 _
  go_enter Tryd.func53, Tryd.ntmps53
  go_wp2_with (first
    | (refine wpList_store_segTo rfl 23 _ _ rfl rfl b 7 _ #[.int .u64 (v : Nat)] rfl rfl rfl 61 _ gb.out (show 7 + 1 ≤ 10 by decide) info1u (by simp [Value.oneCell']) (toN v s).row rfl ?_; intro wq hrq htq)
    | fail)
  go_end0
  exact ⟨rfl, hrq, htq⟩
set_option maxRecDepth 100000 in
set_option maxHeartbeats 2000000 in
theorem jn2_c (v q : Nat) (s : Sl) (w1 : World) (hv : w1.cell? ⟨q, 0, none⟩ = some (.int .u64 (v : Nat))) : Doer 54 #[.pointer (some ⟨q, 0, none⟩)] s (toP v s) w1 := by
  intro b hb
  have gb := Hid.mk hb
  clear hb
  show Calls Tryd.prog 54 #[.pointer (some ⟨b, 0, none⟩), .pointer (some ⟨q, 0, none⟩)] w1 _
  go_enter Tryd.func54, Tryd.ntmps54
  go_wp2_with (first
    | (refine wpList_store_segTo rfl 23 _ _ rfl rfl b 8 _ #[.int .u64 (v : Nat)] rfl rfl rfl 61 _ gb.out (show 8 + 1 ≤ 10 by decide) info1u (by simp [Value.oneCell']) (toP v s).row rfl ?_; intro wq hrq htq)
    | fail)
  go_end0
  exact ⟨rfl, hrq, htq⟩

set_option maxRecDepth 100000 in
set_option maxHeartbeats 2000000 in
theorem change_c {w0 W : World} {O : Nat → Prop} {x ad S n : Nat} {g : Nat → Nat} {σ : Nat → Option Sl} {fs ct : Nat} (h : TrS w0 W O x ad S n g σ fs ct) (hn : n + 4 < 100000000) {y : Nat} {s s' : Sl} (hy : σ y = some s) (hg : GoodS s') {q : Nat} {lb : Array Value} (eg : ∀ args w, (callFunc q args).run Tryd.prog w = .ok (.enter q args) w)
    (hq : ∀ w1, Below W.heap.size W w1 → Doer q lb s s' w1) :
    Calls Tryd.prog 34 #[.pointer (some ⟨x, 0, none⟩), .int .u64 (y : Nat), .func (.func q) #[] lb] W fun e w' => e = .returned (.tuple #[]) ∧ NxS w0 W O x ad S (n + 4) g (up σ y (some s')) fs ct w' := by
  have H0 := Hid.mk h
  have k0 := h.c0
  have hlo := h.olt
  have hLd : ∀ w1, Below W.heap.size W w1 → Calls Tryd.prog 48 #[.pointer (some ⟨ad, 0, none⟩), .int .u64 (y : Nat)] w1 fun e w' => e = .returned (.tuple #[.agg s.row, .int .i64 0]) ∧ Below w1.heap.size w1 w' := fun w1 hb => by
    obtain ⟨f, h1, h2⟩ := h.mem
    obtain ⟨e1, e2, e3, e4⟩ := h2.ok y s hy
    have hlt : y < 18446744073709551616 := by have := (sE_ok e1).2; have := h.sm; omega
    have := load_c (h1.below hb) y hlt (h.prts.later hb)
    rw [e3, e4] at this
    exact this
  have hSt : ∀ w1 (Y : Nat → Prop), Turn Y W w1 → (∀ i, Y i → W.heap.size ≤ i) → Calls Tryd.prog 52 #[.pointer (some ⟨ad, 0, none⟩), .int .u64 (y : Nat), .agg s'.row] w1 fun e w' => e = .returned (.int .i64 0) ∧ NxS w0 w1 O x ad S (n + 4) g (up σ y (some s')) fs ct w' := fun w1 Y ht hY => by
    have h' := h.turn ht (fun i qi c => Nat.not_lt_of_le (hY i c) (hlo i qi)) (fun i c => Nat.le_trans h.hb.size (hY i c))
    obtain ⟨f, h1, h2⟩ := h'.mem
    obtain ⟨e1, -⟩ := h2.ok y s hy
    have hlt : y < 18446744073709551616 := by have := (sE_ok e1).2; have := h.sm; omega
    refine (store_ok h1 hn y hlt e1 h'.prts hg.ft.rt hg.ft.cb hg.hn hg.hp hg.hd).mono fun e w' hh => ⟨hh.1, h'.wrote hh.2 (h2.put h.sm.2.2 e1 hg) ?_⟩
    unfold up
    by_cases c : 0 = y
    · subst c; rw [h.z0] at hy; cases hy
    · rw [if_neg c]; exact h.z0
  have hB := Below.refl W.heap.size W
  have hRB := Nat.le_refl W.heap.size
  clear h
  go_enter Tryd.func34, Tryd.ntmps34
  go_wp2_with fail
  refine (hLd _ hB).mono ?_
  rintro e w1 ⟨rfl, hb⟩
  replace k0 := cell_later hb k0
  replace hB := below_tr hB hb
  clear hb
  have hRT := hB.size
  have gT := Hid.mk (heap_alloc_new w1 (.cells #[.int .i64 0, .int .u64 0, .int .i64 0, .int .i64 0, .int .i64 0, .int .i64 0, .int .u64 0, .int .u64 0, .int .u64 0, .int .i64 0] 61))
  replace k0 := cell_alloc (o := .cells #[.int .i64 0, .int .u64 0, .int .i64 0, .int .i64 0, .int .i64 0, .int .i64 0, .int .u64 0, .int .u64 0, .int .u64 0, .int .i64 0] 61) k0
  replace hB := below_tr hB (below_new w1 (.cells #[.int .i64 0, .int .u64 0, .int .i64 0, .int .i64 0, .int .i64 0, .int .i64 0, .int .u64 0, .int .u64 0, .int .u64 0, .int .i64 0] 61))
  have hxT : x < w1.heap.size := Nat.lt_of_lt_of_le (hlo x H0.out.ox) hRT
  go_upto_region 1 with (first
    | (refine wpList_store_segTo rfl 61 _ _ rfl rfl (w1.heap.size) 0 _ s.row rfl rfl rfl 61 _ (gT.out) (by rw [(row10 s)]; exact Nat.le_refl 10) (info10.trans (congrArg some (row10 s).symm)) (row1 s) s.row (segA_all _ _ (by rw [(row10 s)]; rfl)) ?_; intro wq hrq htq)
    | fail)
  replace gT := hrq
  replace k0 := turn_cell htq (Nat.ne_of_lt hxT) k0
  replace hB := below_turn hB htq hRT
  clear hrq htq
  have hDo := hq _ hB _ gT
  have GT := Hid.mk gT
  clear gT
  go_upto_region 3 with fail
  refine hDo.mono ?_
  clear hDo
  rintro e w2 ⟨rfl, hr2, ht2⟩
  replace k0 := turn_cell ht2 (Nat.ne_of_lt hxT) k0
  replace hB := below_turn hB ht2 hRT
  go_upto_region 3 with fail
  refine wp_region_noPanic ?_
  refine wp_region_held_drew (S := fun w' => w'.cell? ⟨x, 0, none⟩ = some (.pointer (some ⟨ad, 0, none⟩)) ∧ w'.heap[w1.heap.size]? = some (.cells s'.row 61 (0, 0))) (by kernel_rfl) ⟨cell_later (Below.refl _ _).drew k0, block_later (Below.refl _ _).drew hr2⟩ (fun hHeld => ?_)
  replace hB := below_tr hB (Below.refl _ w2).drew
  have HT : Hid (Turn (fun i => W.heap.size ≤ i) W w2.drew) := ⟨hB.os, hB.tape, hB.output, hB.size, fun i hi _ => hB.block i hi⟩
  generalize w2.drew = wd at *
  refine take_at (i := 0) (v := ?_) 21 rfl rfl (by kernel_rfl) (by kernel_rfl) (by kernel_rfl) (fun _ _ _ h => h) (Or.inl ⟨by rfl, ?_⟩) (by assumption) ?_
  rotate_left
  · (intro w' hSw; (try dsimp only at hSw); go_simp; all_goals with_reducible rfl)
  try simp only [Act.put, List.setIfInBounds_toArray, List.set_cons_zero, List.set_cons_succ]
  refine take_at (i := 1) (v := ?_) 22 rfl rfl (by kernel_rfl) (by kernel_rfl) (by kernel_rfl) (fun _ _ _ h => h) (Or.inl ⟨by rfl, ?_⟩) (by assumption) ?_
  rotate_left
  · (intro w' hSw; (try dsimp only at hSw); go_simp; all_goals with_reducible rfl)
  try simp only [Act.put, List.setIfInBounds_toArray, List.set_cons_zero, List.set_cons_succ]
  refine take_at (i := 2) (v := ?_) 23 rfl rfl (by kernel_rfl) (by kernel_rfl) (by kernel_rfl) (fun _ _ _ h => h) (Or.inl ⟨by rfl, ?_⟩) (by assumption) ?_
  rotate_left
  · (intro w' hSw; (try dsimp only at hSw); go_simp; all_goals with_reducible rfl)
  try simp only [Act.put, List.setIfInBounds_toArray, List.set_cons_zero, List.set_cons_succ]
  refine take_at (i := 3) (v := ?_) 24 rfl rfl (by kernel_rfl) (by kernel_rfl) (by kernel_rfl) (fun _ _ _ h => h) (Or.inl ⟨by rfl, ?_⟩) (by assumption) ?_
  rotate_left
  · (intro w' hSw; (try dsimp only at hSw); go_simp; all_goals with_reducible rfl)
  try simp only [Act.put, List.setIfInBounds_toArray, List.set_cons_zero, List.set_cons_succ]
  refine take_at (i := 4) (v := ?_) 25 rfl rfl (by kernel_rfl) (by kernel_rfl) (by kernel_rfl) (fun _ _ _ h => h) (Or.inl ⟨by rfl, ?_⟩) (by assumption) ?_
  rotate_left
  · (intro w' hSw; (try dsimp only at hSw); go_simp; all_goals with_reducible rfl)
  try simp only [Act.put, List.setIfInBounds_toArray, List.set_cons_zero, List.set_cons_succ]
  refine take_at (i := 5) (v := .agg s'.row) 26 rfl rfl (by kernel_rfl) (by kernel_rfl) (by kernel_rfl) (fun _ _ _ h => h) (Or.inl ⟨by rfl, fun w' hSw => exec_row rfl rfl (hSw.2) Tryd.underlying61 rfl (info10.trans (congrArg some (row10 s').symm))⟩) (by assumption) ?_
  try simp only [Act.put, List.setIfInBounds_toArray, List.set_cons_zero, List.set_cons_succ]
  refine wpAnyH_ready (rs := [6]) (by kernel_rfl) (by simp) ?_
  refine AllReadyH.cons rfl (fun K hK => ?_) AllReadyH.nil
  go_simp
  refine (hSt _ _ HT.out (fun i c => c)).mono ?_
  rintro e w3 ⟨rfl, hN⟩
  go_wp2_with fail
  obtain ⟨O1, hn1, hn2, hn3⟩ := hN
  have gT3 := turn_row hn2 hHeld.2 (fun c => Nat.not_lt_of_le hRT (hlo _ c))
  refine hK.out _ _ ⟨hn1.c0, gT3⟩ (fun hHeld2 => ?_)
  clear hK
  try simp only [Act.put, List.setIfInBounds_toArray, List.set_cons_zero, List.set_cons_succ]
  refine wpAnyH_done (by kernel_rfl) ?_ _
  refine NoPanic.normal ?_
  have HN : Hid (NxS w0 W O x ad S (n + 4) g (up σ y (some s')) fs ct w3) := by
    refine NxS.trans (O1 := O) ⟨hB.os, hB.tape, hB.output, hB.size, fun i hi _ => hB.block i hi⟩ (fun _ _ c => c) ⟨O1, hn1, hn2, hn3⟩
  clear hn1 hn2 hn3 gT3
  go_wp2
  go_end0
  exact ⟨rfl, HN.out⟩
end TE
end Go.Proofs.YtcmndefjmhcbhaaDoor
