/- Neighbours; a slot that is laid. -/
import Derived.Test.YtcmndefjmhcbhaaDoorTreC
set_option linter.unusedVariables false
namespace Go.Proofs.YtcmndefjmhcbhaaDoor
open Go.RowKit
namespace TE

theorem oth0 {w W : World} {Y : Nat → Prop} (h : Turn Y w W) {b : Nat} {o : Obj} (hr : w.heap[b]? = some o) (hn : ¬ Y b) : W.heap[b]? = some o := turn_row h hr hn
theorem NxS.later {w0 W W1 W2 : World} {O : Nat → Prop} {x ad S n : Nat} {g : Nat → Nat} {σ : Nat → Option Sl} {fs ct : Nat} (h : NxS w0 W O x ad S n g σ fs ct W1) (hb : Below W1.heap.size W1 W2) : NxS w0 W O x ad S n g σ fs ct W2 := by
  obtain ⟨O1, h1, h2, h3⟩ := h
  exact ⟨O1, h1.below hb, h2.trans (turn_of_below (fun _ => False) hb) (fun _ _ q => absurd q id), h3⟩
/-- From a world that is Below another one. -/
theorem NxS.base {w0 W W1 W2 : World} {O : Nat → Prop} {x ad S n : Nat} {g : Nat → Nat} {σ : Nat → Option Sl} {fs ct : Nat} (hb : Below W.heap.size W W1) (h : NxS w0 W1 O x ad S n g σ fs ct W2) : NxS w0 W O x ad S n g σ fs ct W2 :=
  NxS.trans (turn_of_below O hb) (fun _ _ q => q) h
theorem z_ch {f : Nat → Option Sl} (h : f 0 = none) (y : Nat) (k : Sl → Sl) : ch f y k 0 = none := by
  rw [ch_z, h]; by_cases c : 0 = y <;> simp [c]
theorem enter53 (args : Array Value) (w : World) : (callFunc 53 args).run Tryd.prog w = .ok (.enter 53 args) w := enters_of Tryd.func53 (by kernel_rfl) rfl args w
theorem enter54 (args : Array Value) (w : World) : (callFunc 54 args).run Tryd.prog w = .ok (.enter 54 args) w := enters_of Tryd.func54 (by kernel_rfl) rfl args w

set_option maxRecDepth 100000 in
set_option maxHeartbeats 2000000 in
/-- The first half of join. -/
theorem join_c {w0 W : World} {O : Nat → Prop} {x ad S n : Nat} {g : Nat → Nat} {σ : Nat → Option Sl} {fs ct : Nat} (h : TrS w0 W O x ad S n g σ fs ct) (hn : n + 8 < 100000000) {p q : Nat} (hp : p = 0 ∨ ∃ s, σ p = some s) (hq : q = 0 ∨ ∃ s, ch σ p (toN q) q = some s) (lp : p < 4294967296 ∧ p % 32 = 0) (lq : q < 4294967296 ∧ q % 32 = 0) :
    Calls Tryd.prog 36 #[.pointer (some ⟨x, 0, none⟩), .int .u64 (p : Nat), .int .u64 (q : Nat)] W fun e w' => e = .returned (.tuple #[]) ∧ NxS w0 W O x ad S (n + 8) g (jnS p q σ) (jnF p q fs) ct w' := by
  have H0 := Hid.mk h
  have hlo := Hid.mk h.olt
  have g4 := Hid.mk (heap2_0 W (.cells #[.int .u64 (p : Nat)] 23) (.cells #[.int .u64 (q : Nat)] 23))
  have g5 := Hid.mk (heap_alloc_new (W.alloc (.cells #[.int .u64 (p : Nat)] 23)) (.cells #[.int .u64 (q : Nat)] 23))
  have hB := below2 W (.cells #[.int .u64 (p : Nat)] 23) (.cells #[.int .u64 (q : Nat)] 23)
  have lo5 : ∀ i, O i → i ≠ W.heap.size + 1 := fun i c e => by have := h.olt i c; omega
  have lo4 : ∀ i, O i → i ≠ W.heap.size := fun i c e => by have := h.olt i c; omega
  clear h
  rw [World.size_alloc] at g5
  -- what the second half does, in whatever world
  have H2 : ∀ (w1 : World) (O1 : Nat → Prop) (fs1 : Nat), TrS w0 w1 O1 x ad S (n + 4) g (ch σ p (toN q)) fs1 ct → Turn O W w1 → (∀ i, i < W.heap.size → O1 i → O i) → w1.heap[W.heap.size]? = some (.cells #[.int .u64 (p : Nat)] 23 (0, 0)) → w1.heap[W.heap.size + 1]? = some (.cells #[.int .u64 (q : Nat)] 23 (0, 0)) →
      (¬ q = 0 → Calls Tryd.prog 34 #[.pointer (some ⟨x, 0, none⟩), .int .u64 (q : Nat), .func (.func 54) #[] #[.pointer (some ⟨W.heap.size, 0, none⟩)]] w1 fun e w' => e = .returned (.tuple #[]) ∧ NxS w0 W O x ad S (n + 8) g (jnS p q σ) fs1 ct w') ∧ (q = 0 → NxS w0 W O x ad S (n + 8) g (jnS p q σ) fs1 ct w1) := by
    intro w1 O1 fs1 h1 t1 o1 r4 r5
    refine ⟨fun q0 => ?_, fun q0 => ?_⟩
    · obtain ⟨s, hs⟩ : ∃ s, ch σ p (toN q) q = some s := by rcases hq with c | c; exact absurd c q0; exact c
      have e := ch_some hs (toP p)
      unfold jnS
      rw [e]
      refine (change_c h1 (by omega) hs ((h1.good hs).1.toP lp) enter54 (fun w2 hb => jn2_c p _ s w2 ?_)).mono fun e w' hh => ⟨hh.1, (NxS.trans t1 o1 hh.2).mono (by omega)⟩
      rw [cell_of_row _ _ _ _ _ _ (block_later hb r4)]; rfl
    · subst q0
      unfold jnS
      rw [ch_none h1.z0]
      exact (NxS.trans t1 o1 (NxS.start h1)).mono (by omega)
  generalize eW : (W.alloc (.cells #[.int .u64 (p : Nat)] 23)).alloc (.cells #[.int .u64 (q : Nat)] 23) = W0 at *
  have k0 : W0.cell? ⟨W.heap.size, 0, none⟩ = some (.int .u64 (p : Nat)) := by rw [cell_of_row _ _ _ _ _ _ g4.out]; rfl
  have k1 : W0.cell? ⟨W.heap.size + 1, 0, none⟩ = some (.int .u64 (q : Nat)) := by rw [cell_of_row _ _ _ _ _ _ g5.out]; rfl
  have hT0 : Turn O W W0 := turn_of_below O hB
  have gX := Hid.mk (block_later hB H0.out.blk)
  have hxW := hlo.out x H0.out.ox
  by_cases p0 : p = 0
  · have e1 : ch σ p (toN q) = σ := by rw [p0]; exact ch_none H0.out.z0 _
    rw [e1] at H2
    have HJ : Hid (jnF p q fs = q) := by show jnF p q fs = q; unfold jnF; rw [if_pos p0]
    have dp : ((p : Int) == 0) = true := by rw [beq_iff_eq]; omega
    clear e1 p0 hp
    by_cases q0 : q = 0
    · have dq : ((q : Int) != 0) = false := by rw [bne_eq_false_iff_eq]; omega
      have Q0 := Hid.mk q0
      clear q0 hq
      go_enter Tryd.func36, Tryd.ntmps36
      go_upto_region 1 with fail
      (try rw [eW])
      go_upto_region 4 with (first
        | (refine wpList_store_segTo rfl 23 _ _ rfl rfl x 1 _ #[.int .u64 (q : Nat)] rfl rfl rfl 59 _ gX.out (show 1 + 1 ≤ 3 by decide) info1u (by simp [Value.oneCell']) #[.pointer (some ⟨ad, 0, none⟩), .int .u64 (q : Nat), .int .i64 (ct : Nat)] rfl ?_; intro wq hrq htq)
        | fail)
      obtain ⟨O1, h1, t1, o1⟩ := ((H0.out.below hB).setR hrq htq).mono (show n ≤ n + 4 by omega)
      have hN := Hid.mk ((H2 wq O1 q h1 (hT0.trans t1 (fun _ _ c => c)) (fun i hi c => o1 i (Nat.lt_of_lt_of_le hi hB.size) c) (block_turn htq g4.out (by omega)) (block_turn htq g5.out (by omega))).2 Q0.out)
      replace k1 := turn_cell htq (by omega) k1
      clear h1 t1 o1 hrq htq
      go_wp2
      go_end0
      refine ⟨rfl, ?_⟩
      rw [HJ.out]; exact hN.out
    · have dq : ((q : Int) != 0) = true := by rw [bne_iff_ne]; omega
      have Q0 := Hid.mk q0
      clear q0 hq
      go_enter Tryd.func36, Tryd.ntmps36
      go_upto_region 1 with fail
      (try rw [eW])
      go_upto_region 4 with (first
        | (refine wpList_store_segTo rfl 23 _ _ rfl rfl x 1 _ #[.int .u64 (q : Nat)] rfl rfl rfl 59 _ gX.out (show 1 + 1 ≤ 3 by decide) info1u (by simp [Value.oneCell']) #[.pointer (some ⟨ad, 0, none⟩), .int .u64 (q : Nat), .int .i64 (ct : Nat)] rfl ?_; intro wq hrq htq)
        | fail)
      obtain ⟨O1, h1, t1, o1⟩ := ((H0.out.below hB).setR hrq htq).mono (show n ≤ n + 4 by omega)
      have hC := (H2 wq O1 q h1 (hT0.trans t1 (fun _ _ c => c)) (fun i hi c => o1 i (Nat.lt_of_lt_of_le hi hB.size) c) (block_turn htq g4.out (by omega)) (block_turn htq g5.out (by omega))).1 Q0.out
      replace k1 := turn_cell htq (by omega) k1
      clear h1 t1 o1 hrq htq
      go_wp2_with fail
      refine hC.mono ?_
      rintro e w2 ⟨rfl, hN⟩
      replace hN := Hid.mk hN
      go_wp2
      go_end0
      refine ⟨rfl, ?_⟩
      rw [HJ.out]; exact hN.out
  · obtain ⟨s, hs⟩ : ∃ s, σ p = some s := by rcases hp with c | c; exact absurd c p0; exact c
    have e1 := ch_some hs (toN q)
    have HJ : Hid (jnF p q fs = fs) := by show jnF p q fs = fs; unfold jnF; rw [if_neg p0]
    have dp : ((p : Int) == 0) = false := by rw [beq_eq_false_iff_ne]; omega
    have hC1 := change_c (H0.out.below hB) (by omega) hs ((H0.out.good hs).1.toN lq) enter53 (lb := #[.pointer (some ⟨W.heap.size + 1, 0, none⟩)]) (fun w2 hb => jn1_c q _ s w2 (cell_later hb k1))
    rw [← e1] at hC1
    clear e1 p0 hp hs
    by_cases q0 : q = 0
    · have dq : ((q : Int) != 0) = false := by rw [bne_eq_false_iff_eq]; omega
      have Q0 := Hid.mk q0
      clear q0 hq
      go_enter Tryd.func36, Tryd.ntmps36
      go_upto_region 1 with fail
      (try rw [eW])
      go_wp2_with fail
      refine hC1.mono ?_
      rintro e w1 ⟨rfl, O1, h1, t1, o1⟩
      have r4 := turn_row t1 g4.out (fun c => lo4 _ c rfl)
      have r5 := turn_row t1 g5.out (fun c => lo5 _ c rfl)
      have hN := Hid.mk ((H2 w1 O1 fs h1 (hT0.trans t1 (fun _ _ c => c)) (fun i hi c => o1 i (Nat.lt_of_lt_of_le hi hB.size) c) r4 r5).2 Q0.out)
      replace k1 : w1.cell? ⟨W.heap.size + 1, 0, none⟩ = some (.int .u64 (q : Nat)) := by rw [cell_of_row _ _ _ _ _ _ r5]; rfl
      clear h1 t1 o1 r4 r5
      go_wp2
      go_end0
      refine ⟨rfl, ?_⟩
      rw [HJ.out]; exact hN.out
    · have dq : ((q : Int) != 0) = true := by rw [bne_iff_ne]; omega
      have Q0 := Hid.mk q0
      clear q0 hq
      go_enter Tryd.func36, Tryd.ntmps36
      go_upto_region 1 with fail
      (try rw [eW])
      go_wp2_with fail
      refine hC1.mono ?_
      rintro e w1 ⟨rfl, O1, h1, t1, o1⟩
      have r4 := turn_row t1 g4.out (fun c => lo4 _ c rfl)
      have r5 := turn_row t1 g5.out (fun c => lo5 _ c rfl)
      have hC := (H2 w1 O1 fs h1 (hT0.trans t1 (fun _ _ c => c)) (fun i hi c => o1 i (Nat.lt_of_lt_of_le hi hB.size) c) r4 r5).1 Q0.out
      replace k1 : w1.cell? ⟨W.heap.size + 1, 0, none⟩ = some (.int .u64 (q : Nat)) := by rw [cell_of_row _ _ _ _ _ _ r5]; rfl
      clear h1 t1 o1 r4 r5
      go_wp2_with fail
      refine hC.mono ?_
      rintro e w2 ⟨rfl, hN⟩
      replace hN := Hid.mk hN
      go_wp2
      go_end0
      refine ⟨rfl, ?_⟩
      rw [HJ.out]; exact hN.out
end TE
end Go.Proofs.YtcmndefjmhcbhaaDoor
