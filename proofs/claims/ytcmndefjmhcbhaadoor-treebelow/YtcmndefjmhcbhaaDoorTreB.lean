/- Slots that are held, or free. -/
import Derived.Test.YtcmndefjmhcbhaaDoorTreA
set_option linter.unusedVariables false
namespace Go.Proofs.YtcmndefjmhcbhaaDoor
open Go.RowKit
namespace TE

theorem segA_all (cs V : Array Value) (h : V.size = cs.size) : segA cs 0 V.toList = V := by
  unfold segA
  have h2 : List.drop (0 + V.toList.length) cs.toList = [] := List.drop_of_length_le (by simp [h])
  rw [h2]; simp
theorem row10 (s : Sl) : s.row.size = 10 := rfl
theorem row1 (s : Sl) : s.row.all (·.oneCell') = true := by simp [Sl.row, Value.oneCell']
theorem z10 : Z10.size = 10 := rfl
theorem z1 : Z10.all (·.oneCell') = true := by simp [Z10, Value.oneCell']
def hldV (E : Int) (B : Bool) : Int := if E = 0 ∧ B = true then 14 else E
set_option maxRecDepth 100000 in
set_option maxHeartbeats 2000000 in
theorem held_mk {W : World} {x ad : Nat} {v0 v1 v2 v3 v4 v5 v6 v7 v8 v9 : Value} {E : Int} {B : Bool} {y : Nat} (hV1 : (#[v0, v1, v2, v3, v4, v5, v6, v7, v8, v9] : Array Value).all (·.oneCell') = true) (c0 : W.cell? ⟨x, 0, none⟩ = some (.pointer (some ⟨ad, 0, none⟩)))
    (hL : ∀ w1, Below W.heap.size W w1 → Calls Tryd.prog 48 #[.pointer (some ⟨ad, 0, none⟩), .int .u64 (y : Nat)] w1 fun e w' => e = .returned (.tuple #[.agg #[v0, v1, v2, v3, v4, v5, v6, v7, v8, v9], .int .i64 E]) ∧ Below w1.heap.size w1 w')
    (hE : ∀ w1, Calls Tryd.prog 49 #[.agg #[v0, v1, v2, v3, v4, v5, v6, v7, v8, v9]] w1 fun e w' => e = .returned (.bool B) ∧ Below w1.heap.size w1 w') :
    Calls Tryd.prog 26 #[.pointer (some ⟨x, 0, none⟩), .int .u64 (y : Nat)] W fun e w' => e = .returned (.tuple #[.agg #[v0, v1, v2, v3, v4, v5, v6, v7, v8, v9], .int .i64 (hldV E B)]) ∧ Below W.heap.size W w' := by
  have cp0 := fun o => cell_alloc (o := o) c0
  have gR := Hid.mk (heap_alloc_new W (.cells #[.int .i64 0, .int .u64 0, .int .i64 0, .int .i64 0, .int .i64 0, .int .i64 0, .int .u64 0, .int .u64 0, .int .u64 0, .int .i64 0] 61))
  have hB := below_new W (.cells #[.int .i64 0, .int .u64 0, .int .i64 0, .int .i64 0, .int .i64 0, .int .i64 0, .int .u64 0, .int .u64 0, .int .u64 0, .int .i64 0] 61)
  have hRB := Nat.le_refl W.heap.size
  by_cases hE0 : E = 0
  · subst hE0
    cases B
    all_goals
      go_enter Tryd.func26, Tryd.ntmps26
      go_wp2_with fail
      generalize W.alloc (.cells #[.int .i64 0, .int .u64 0, .int .i64 0, .int .i64 0, .int .i64 0, .int .i64 0, .int .u64 0, .int .u64 0, .int .u64 0, .int .i64 0] 61) = W0 at *
      refine (hL _ hB).mono ?_
      clear c0 cp0
      rintro e w1 ⟨rfl, hb⟩
      replace gR := Hid.mk (block_later hb gR.out)
      have hRT := block_lt gR.out
      replace hB := below_tr hB hb
      clear hb
      have gT := Hid.mk (heap_alloc_new w1 (.cells #[.int .i64 0, .int .u64 0, .int .i64 0, .int .i64 0, .int .i64 0, .int .i64 0, .int .u64 0, .int .u64 0, .int .u64 0, .int .i64 0] 61))
      replace gR := Hid.mk (block_later (below_new w1 (.cells #[.int .i64 0, .int .u64 0, .int .i64 0, .int .i64 0, .int .i64 0, .int .i64 0, .int .u64 0, .int .u64 0, .int .u64 0, .int .i64 0] 61)) gR.out)
      replace hB := below_tr hB (below_new w1 (.cells #[.int .i64 0, .int .u64 0, .int .i64 0, .int .i64 0, .int .i64 0, .int .i64 0, .int .u64 0, .int .u64 0, .int .u64 0, .int .i64 0] 61))
      go_upto_region 2 with (first
        | (refine wpList_store_segTo rfl 61 _ _ rfl rfl (w1.heap.size) 0 _ #[v0, v1, v2, v3, v4, v5, v6, v7, v8, v9] rfl rfl rfl 61 _ (gT.out) (show 0 + 10 ≤ 10 by decide) info10 hV1 #[v0, v1, v2, v3, v4, v5, v6, v7, v8, v9] rfl ?_; intro wq hrq htq)
        | fail)
      replace gR := Hid.mk (block_turn htq gR.out (Nat.ne_of_lt hRT))
      replace gT := Hid.mk hrq
      replace hB := below_turn hB htq (Nat.le_trans hRB (Nat.le_of_lt hRT))
      clear hrq htq
      obtain ⟨q0, q1, q2, q3, q4, q5, q6, q7, q8, q9⟩ := cells10 gT.out
      go_wp2_with fail
      refine (hE _).mono ?_
      clear q0 q1 q2 q3 q4 q5 q6 q7 q8 q9
      rintro e w2 ⟨rfl, hb⟩
      replace gR := Hid.mk (block_later hb gR.out)
      replace gT := Hid.mk (block_later hb gT.out)
      replace hB := below_tr hB hb
      clear hb
      go_wp2_with (first
        | (refine wpList_load_row rfl 61 _ rfl (w1.heap.size) rfl 61 #[v0, v1, v2, v3, v4, v5, v6, v7, v8, v9] (0, 0) _ (gT.out) Tryd.underlying61 rfl info10 ?_)
        | (refine wpList_store_segTo rfl 61 _ _ rfl rfl (W.heap.size) 0 _ #[v0, v1, v2, v3, v4, v5, v6, v7, v8, v9] rfl rfl rfl 61 _ (gR.out) (show 0 + 10 ≤ 10 by decide) info10 hV1 #[v0, v1, v2, v3, v4, v5, v6, v7, v8, v9] rfl ?_; intro wz hrz htz)
        | fail)
      refine bodyPost_ret (res_row_tmp rfl _ wz (W.heap.size) 61 #[v0, v1, v2, v3, v4, v5, v6, v7, v8, v9] (0, 0) _ rfl (hrz) Tryd.underlying61 rfl info10) rfl ?_
      exact ⟨rfl, below_turn hB htz hRB⟩
  · have HA : Hid (hldV E B = E) := by show hldV E B = E; unfold hldV; rw [if_neg (fun c => hE0 c.1)]
    have dE : ((E : Int) == 0) = false := by rw [beq_eq_false_iff_ne]; exact hE0
    clear hE0
    go_enter Tryd.func26, Tryd.ntmps26
    go_wp2_with fail
    generalize W.alloc (.cells #[.int .i64 0, .int .u64 0, .int .i64 0, .int .i64 0, .int .i64 0, .int .i64 0, .int .u64 0, .int .u64 0, .int .u64 0, .int .i64 0] 61) = W0 at *
    refine (hL _ hB).mono ?_
    clear c0 cp0
    rintro e w1 ⟨rfl, hb⟩
    replace gR := Hid.mk (block_later hb gR.out)
    have hRT := block_lt gR.out
    replace hB := below_tr hB hb
    clear hb
    have gT := Hid.mk (heap_alloc_new w1 (.cells #[.int .i64 0, .int .u64 0, .int .i64 0, .int .i64 0, .int .i64 0, .int .i64 0, .int .u64 0, .int .u64 0, .int .u64 0, .int .i64 0] 61))
    replace gR := Hid.mk (block_later (below_new w1 (.cells #[.int .i64 0, .int .u64 0, .int .i64 0, .int .i64 0, .int .i64 0, .int .i64 0, .int .u64 0, .int .u64 0, .int .u64 0, .int .i64 0] 61)) gR.out)
    replace hB := below_tr hB (below_new w1 (.cells #[.int .i64 0, .int .u64 0, .int .i64 0, .int .i64 0, .int .i64 0, .int .i64 0, .int .u64 0, .int .u64 0, .int .u64 0, .int .i64 0] 61))
    go_upto_region 2 with (first
      | (refine wpList_store_segTo rfl 61 _ _ rfl rfl (w1.heap.size) 0 _ #[v0, v1, v2, v3, v4, v5, v6, v7, v8, v9] rfl rfl rfl 61 _ (gT.out) (show 0 + 10 ≤ 10 by decide) info10 hV1 #[v0, v1, v2, v3, v4, v5, v6, v7, v8, v9] rfl ?_; intro wq hrq htq)
      | fail)
    replace gR := Hid.mk (block_turn htq gR.out (Nat.ne_of_lt hRT))
    replace gT := Hid.mk hrq
    replace hB := below_turn hB htq (Nat.le_trans hRB (Nat.le_of_lt hRT))
    clear hrq htq
    go_wp2_with (first
      | (refine wpList_load_row rfl 61 _ rfl (w1.heap.size) rfl 61 #[v0, v1, v2, v3, v4, v5, v6, v7, v8, v9] (0, 0) _ (gT.out) Tryd.underlying61 rfl info10 ?_)
      | (refine wpList_store_segTo rfl 61 _ _ rfl rfl (W.heap.size) 0 _ #[v0, v1, v2, v3, v4, v5, v6, v7, v8, v9] rfl rfl rfl 61 _ (gR.out) (show 0 + 10 ≤ 10 by decide) info10 hV1 #[v0, v1, v2, v3, v4, v5, v6, v7, v8, v9] rfl ?_; intro wz hrz htz)
      | fail)
    refine bodyPost_ret (res_row_tmp rfl _ wz (W.heap.size) 61 #[v0, v1, v2, v3, v4, v5, v6, v7, v8, v9] (0, 0) _ rfl (hrz) Tryd.underlying61 rfl info10) rfl ?_
    rw [HA.out]
    exact ⟨rfl, below_turn hB htz hRB⟩

theorem emp_row (s : Sl) (h : s.c.k ≠ 0) (w1 : World) : Calls Tryd.prog 49 #[.agg s.row] w1 fun e w' => e = .returned (.bool false) ∧ Below w1.heap.size w1 w' := by
  have := empty_any s.c.k s.c.a s.c.b s.c.r s.c.g s.c.s s.c.m s.nx s.pv s.d w1
  rwa [show eqSB (s.c.k : Int) s.c.a s.c.b s.c.r s.c.g s.c.s s.c.m s.nx s.pv s.d 0 0 0 0 0 0 0 0 0 0 = false by unfold eqSB; simp [h]] at this
theorem emp_z (w1 : World) : Calls Tryd.prog 49 #[.agg Z10] w1 fun e w' => e = .returned (.bool true) ∧ Below w1.heap.size w1 w' := empty_any 0 0 0 0 0 0 0 0 0 0 w1
/-- The error of an address that no slot lies at. -/
def heE (S y : Nat) : Int := if sE S y = 0 then 14 else sE S y
theorem held_ok {w0 W : World} {O : Nat → Prop} {x ad S n : Nat} {g : Nat → Nat} {σ : Nat → Option Sl} {fs ct : Nat} (h : TrS w0 W O x ad S n g σ fs ct) {y : Nat} {s : Sl} (hy : σ y = some s) :
    Calls Tryd.prog 26 #[.pointer (some ⟨x, 0, none⟩), .int .u64 (y : Nat)] W fun e w' => e = .returned (.tuple #[.agg s.row, .int .i64 0]) ∧ Below W.heap.size W w' := by
  obtain ⟨f, h1, h2⟩ := h.mem
  obtain ⟨e1, e2, e3, e4⟩ := h2.ok y s hy
  have hlt : y < 18446744073709551616 := by have := (sE_ok e1).2; have := h.sm; omega
  refine (held_mk (E := 0) (B := false) (row1 s) (by rw [cell_of_row _ _ _ _ _ _ h.blk]; rfl) (fun w1 hb => ?_) (emp_row s e2.ft.k0)).mono fun e w' hh => hh
  have := load_c (h1.below hb) y hlt (h.prts.later hb)
  rw [e3, e4] at this
  exact this
theorem held_no {w0 W : World} {O : Nat → Prop} {x ad S n : Nat} {g : Nat → Nat} {σ : Nat → Option Sl} {fs ct : Nat} (h : TrS w0 W O x ad S n g σ fs ct) {y : Nat} (hlt : y < 18446744073709551616) (hy : σ y = none) (hz : Zr g y) :
    Calls Tryd.prog 26 #[.pointer (some ⟨x, 0, none⟩), .int .u64 (y : Nat)] W fun e w' => e = .returned (.tuple #[.agg Z10, .int .i64 (heE S y)]) ∧ Below W.heap.size W w' := by
  obtain ⟨f, h1, h2⟩ := h.mem
  have q : ldV S f y = Z10 ∧ ldE S f y = sE S y := by
    by_cases e : sE S y = 0
    · rw [e]; exact h2.emp e hz hy
    · exact ld_bad f e
  have := held_mk (W := W) (x := x) (y := y) (E := sE S y) (B := true) z1 (by rw [cell_of_row _ _ _ _ _ _ h.blk]; rfl) (fun w1 hb => by
    have := load_c (h1.below hb) y hlt (h.prts.later hb)
    rw [q.1, q.2] at this
    exact this) emp_z
  rwa [show hldV (sE S y) true = heE S y by unfold hldV heE; by_cases e : sE S y = 0 <;> simp [e]] at this

/-- The error of an address where one more slot should lie. -/
def frE (S : Nat) (σ : Nat → Option Sl) (y : Nat) : Int := if y = 0 then 12 else if sE S y = 0 then (if (σ y).isSome = true then 16 else 0) else sE S y
set_option maxRecDepth 100000 in
set_option maxHeartbeats 2000000 in
theorem free_mk {W : World} {x ad : Nat} {v0 v1 v2 v3 v4 v5 v6 v7 v8 v9 : Value} {E R : Int} {B : Bool} {y : Nat} (hy0 : y ≠ 0) (hV1 : (#[v0, v1, v2, v3, v4, v5, v6, v7, v8, v9] : Array Value).all (·.oneCell') = true) (c0 : W.cell? ⟨x, 0, none⟩ = some (.pointer (some ⟨ad, 0, none⟩)))
    (hL : ∀ w1, Below W.heap.size W w1 → Calls Tryd.prog 48 #[.pointer (some ⟨ad, 0, none⟩), .int .u64 (y : Nat)] w1 fun e w' => e = .returned (.tuple #[.agg #[v0, v1, v2, v3, v4, v5, v6, v7, v8, v9], .int .i64 E]) ∧ Below w1.heap.size w1 w')
    (hE : ∀ w1, Calls Tryd.prog 49 #[.agg #[v0, v1, v2, v3, v4, v5, v6, v7, v8, v9]] w1 fun e w' => e = .returned (.bool B) ∧ Below w1.heap.size w1 w')
    (hR : (E = 0 ∧ B = true ∧ R = 0) ∨ (E = 0 ∧ B = false ∧ R = 16) ∨ (¬ E = 0 ∧ R = E)) :
    Calls Tryd.prog 31 #[.pointer (some ⟨x, 0, none⟩), .int .u64 (y : Nat)] W fun e w' => e = .returned (.int .i64 R) ∧ Below W.heap.size W w' := by
  have hB := Below.refl W.heap.size W
  have hRB := Nat.le_refl W.heap.size
  have dy : ((y : Int) == 0) = false := by rw [beq_eq_false_iff_ne]; omega
  have dy2 : ((y : Nat) == 0) = false := by rw [beq_eq_false_iff_ne]; omega
  clear hy0
  rcases hR with ⟨rfl, rfl, rfl⟩ | ⟨rfl, rfl, rfl⟩ | ⟨hE0, rfl⟩
  iterate 2
    go_enter Tryd.func31, Tryd.ntmps31
    go_wp2_with fail
    refine (hL _ hB).mono ?_
    clear c0
    rintro e w1 ⟨rfl, hb⟩
    replace hB := below_tr hB hb
    clear hb
    have hRT := hB.size
    have gT := Hid.mk (heap_alloc_new w1 (.cells #[.int .i64 0, .int .u64 0, .int .i64 0, .int .i64 0, .int .i64 0, .int .i64 0, .int .u64 0, .int .u64 0, .int .u64 0, .int .i64 0] 61))
    replace hB := below_tr hB (below_new w1 (.cells #[.int .i64 0, .int .u64 0, .int .i64 0, .int .i64 0, .int .i64 0, .int .i64 0, .int .u64 0, .int .u64 0, .int .u64 0, .int .i64 0] 61))
    go_upto_region 4 with (first
      | (refine wpList_store_segTo rfl 61 _ _ rfl rfl (w1.heap.size) 0 _ #[v0, v1, v2, v3, v4, v5, v6, v7, v8, v9] rfl rfl rfl 61 _ (gT.out) (show 0 + 10 ≤ 10 by decide) info10 hV1 #[v0, v1, v2, v3, v4, v5, v6, v7, v8, v9] rfl ?_; intro wq hrq htq)
      | fail)
    replace gT := Hid.mk hrq
    replace hB := below_turn hB htq hRT
    clear hrq htq
    obtain ⟨q0, q1, q2, q3, q4, q5, q6, q7, q8, q9⟩ := cells10 gT.out
    go_wp2_with fail
    refine (hE _).mono ?_
    clear q0 q1 q2 q3 q4 q5 q6 q7 q8 q9
    rintro e w2 ⟨rfl, hb⟩
    replace hB := below_tr hB hb
    clear hb
    go_wp2_with fail
    go_ret
    exact ⟨rfl, hB⟩
  · have dE : ((R : Int) == 0) = false := by rw [beq_eq_false_iff_ne]; exact hE0
    clear hE0
    go_enter Tryd.func31, Tryd.ntmps31
    go_wp2_with fail
    refine (hL _ hB).mono ?_
    clear c0
    rintro e w1 ⟨rfl, hb⟩
    replace hB := below_tr hB hb
    clear hb
    have hRT := hB.size
    have gT := Hid.mk (heap_alloc_new w1 (.cells #[.int .i64 0, .int .u64 0, .int .i64 0, .int .i64 0, .int .i64 0, .int .i64 0, .int .u64 0, .int .u64 0, .int .u64 0, .int .i64 0] 61))
    replace hB := below_tr hB (below_new w1 (.cells #[.int .i64 0, .int .u64 0, .int .i64 0, .int .i64 0, .int .i64 0, .int .i64 0, .int .u64 0, .int .u64 0, .int .u64 0, .int .i64 0] 61))
    go_upto_region 4 with (first
      | (refine wpList_store_segTo rfl 61 _ _ rfl rfl (w1.heap.size) 0 _ #[v0, v1, v2, v3, v4, v5, v6, v7, v8, v9] rfl rfl rfl 61 _ (gT.out) (show 0 + 10 ≤ 10 by decide) info10 hV1 #[v0, v1, v2, v3, v4, v5, v6, v7, v8, v9] rfl ?_; intro wq hrq htq)
      | fail)
    replace hB := below_turn hB htq hRT
    clear hrq htq
    go_wp2_with fail
    go_ret
    exact ⟨rfl, hB⟩
theorem free_zero (x : Nat) (W : World) : Calls Tryd.prog 31 #[.pointer (some ⟨x, 0, none⟩), .int .u64 0] W fun e w' => e = .returned (.int .i64 12) ∧ Below W.heap.size W w' := by
  have hB := Below.refl W.heap.size W
  go_enter Tryd.func31, Tryd.ntmps31
  go_wp2
  go_ret
  exact ⟨rfl, hB⟩
theorem free_c {w0 W : World} {O : Nat → Prop} {x ad S n : Nat} {g : Nat → Nat} {σ : Nat → Option Sl} {fs ct : Nat} (h : TrS w0 W O x ad S n g σ fs ct) {y : Nat} (hlt : y < 18446744073709551616) (hz : Zr g y) :
    Calls Tryd.prog 31 #[.pointer (some ⟨x, 0, none⟩), .int .u64 (y : Nat)] W fun e w' => e = .returned (.int .i64 (frE S σ y)) ∧ Below W.heap.size W w' := by
  by_cases h0 : y = 0
  · subst h0; exact free_zero x W
  obtain ⟨f, h1, h2⟩ := h.mem
  have cL := fun (w1 : World) (hb : Below W.heap.size W w1) => load_c (h1.below hb) y hlt (h.prts.later hb)
  have c0 : W.cell? ⟨x, 0, none⟩ = some (.pointer (some ⟨ad, 0, none⟩)) := by rw [cell_of_row _ _ _ _ _ _ h.blk]; rfl
  cases hs : σ y with
  | none =>
    by_cases e : sE S y = 0
    · have q := h2.emp e hz hs
      rw [q.1, q.2] at cL
      exact free_mk h0 z1 c0 cL emp_z (Or.inl ⟨rfl, rfl, by unfold frE; rw [if_neg h0, if_pos e, hs]; rfl⟩)
    · have q := ld_bad f e
      rw [q.1, q.2] at cL
      exact free_mk h0 z1 c0 cL emp_z (Or.inr (Or.inr ⟨e, by unfold frE; rw [if_neg h0, if_neg e]⟩))
  | some s =>
    obtain ⟨e1, e2, e3, e4⟩ := h2.ok y s hs
    rw [e3, e4] at cL
    exact free_mk h0 (row1 s) c0 cL (emp_row s e2.ft.k0) (Or.inr (Or.inl ⟨rfl, rfl, by unfold frE; rw [if_neg h0, if_pos e1, hs]; rfl⟩))
end TE
end Go.Proofs.YtcmndefjmhcbhaaDoor
