/- open, Write. -/
import Derived.Test.YtcmndefjmhcbhaaDoorPhysRead
namespace Go.Proofs.YtcmndefjmhcbhaaDoor
open Go.RowKit Go.Maps

theorem Pages.look_at {w : World} {mb n : Nat} {pg : Nat → Option Nat} (h : Pages w mb n pg) {x : Nat} (hx : x < 18446744073709551616) {v : Value} (hv : ptrV (pg x) = v) :
    (Instr.lookup 79 (.map (some mb)) (.int .u64 x) false).run Tryd.prog w = .ok v w := hv ▸ h.look hx
theorem turned_turn {w w' : World} {b : Nat} (h : w.mapTurned w' b) : Turn (fun i => i = b) w w' := turn_of_grown h.grown rfl

set_option maxRecDepth 100000 in
set_option maxHeartbeats 1000000 in
theorem open_c {w : World} {X : Nat → Prop} {a S n : Nat} {f : Nat → Nat} {mb : Nat} {pg : Nat → Option Nat} (h : Mem w X a S n f mb pg) (hn : n < 100000000) (x : Nat) (hx : x < 18446744073709551616) (hm : x % 4096 = 0) :
    Calls Tryd.prog 40 #[.pointer (some ⟨a, 0, none⟩), .int .u64 x] w fun e w' => ∃ b, e = .returned (.pointer (some ⟨b, 0, none⟩)) ∧ (pg x = some b ∨ (pg x = none ∧ w.heap.size ≤ b)) ∧
      w'.heap[b]? = some (.cells (prow fun i => f (x + 8 * i)) 93 (0, 0)) ∧ Pages w' mb (n + 1) (updPg pg x (some b)) ∧ Turn (fun i => i = mb) w w' := by
  have c0 := h.c0
  have c1 := h.c1
  cases hpg : pg x with
  | some b =>
    obtain ⟨_, _, _, hrow, _⟩ := h.page _ _ hpg
    have hlook := h.pgs.look_at hx (v := .pointer (some ⟨b, 0, none⟩)) (by rw [hpg]; rfl)
    have HR : Hid (w.heap[b]? = some (.cells (prow fun i => f (x + 8 * i)) 93 (0, 0))) := hrow
    have HH : Hid (Mem w X a S n f mb pg) := h
    clear hrow h
    go_enter Tryd.func40, Tryd.ntmps40
    go_wp2
    go_ret
    have h := HH.out
    refine ⟨b, rfl, Or.inl rfl, HR.out, ?_, Turn.refl _ _⟩
    have e : updPg pg x (some b) = pg := by
      funext y
      unfold updPg
      by_cases q : y = x
      · rw [if_pos q, q, hpg]
      · rw [if_neg q]
    rw [e]
    exact h.pgs.mono (by omega)
  | none =>
    have hlook := h.pgs.look_at hx (v := .pointer none) (by rw [hpg]; rfl)
    have hnew := heap_alloc_new w (.cells (prow fun _ => 0) 93 (0, 0))
    have ha : a < w.heap.size := h.xlt _ h.xa
    have hmb : mb < w.heap.size := h.xlt _ h.xm
    have hP := h.pgs.block (w' := w.alloc (.cells (prow fun _ => 0) 93 (0, 0))) (Below.heap_alloc _ _ _ hmb)
    obtain ⟨w2, hst, hpg2, htu⟩ := hP.store hn hx w.heap.size
    have HZ : Hid (∀ i, i < 512 → f (x + 8 * i) = 0) := h.zero x hm hpg
    have hzA := zeroA
    clear h hP
    generalize hpr : prow (fun _ => 0) = PR at *
    go_enter Tryd.func40, Tryd.ntmps40
    go_wp2
    go_ret
    refine ⟨w.heap.size, rfl, Or.inr ⟨by trivial, Nat.le_refl _⟩, ?_, hpg2, ?_⟩
    · rw [htu.grown.block w.heap.size (by simp) (fun e => by cases e; omega), hnew, ← hpr]
      rw [prow_congr (fun i hi => (HZ.out i hi).symm)]
    · exact (turn_of_below _ ((Below.refl _ _).alloc (Nat.le_refl _) _)).trans (turned_turn htu) (fun i _ hi => hi)

/-- The word at x is v. -/
def updF (f : Nat → Nat) (x v : Nat) : Nat → Nat := fun y => if y = x then v else f y

theorem dn_idx {x y i : Nat} (hx : x % 8 = 0) (hy : y % 4096 = 0) (hi : i < 512) : y + 8 * i = x ↔ y = dn x ∧ i = plc x := by unfold dn plc; omega

theorem row_ne_map {w : World} {b mb n : Nat} {pg : Nat → Option Nat} {cs : Array Value} {t : TypeId} (hb : w.heap[b]? = some (.cells cs t (0, 0))) (hP : Pages w mb n pg) : b ≠ mb := by
  obtain ⟨es, clock, hm⟩ := hP.isMap
  intro e
  rw [e, hm] at hb
  cases hb

theorem Mem.a_ne {w : World} {X : Nat → Prop} {a S n : Nat} {f : Nat → Nat} {mb : Nat} {pg : Nat → Option Nat} (h : Mem w X a S n f mb pg) : a ≠ mb := row_ne_map h.str h.pgs
theorem Mem.a_ne_b {w : World} {X : Nat → Prop} {a S n : Nat} {f : Nat → Nat} {mb : Nat} {pg : Nat → Option Nat} (h : Mem w X a S n f mb pg) {x b : Nat} (hb : pg x = some b) : a ≠ b := by
  obtain ⟨_, _, _, hr, _⟩ := h.page x b hb
  intro e
  have h1 := h.str
  rw [e, hr] at h1
  injection h1 with h1
  injection h1 with h1
  have := congrArg Array.size h1
  rw [prow_size] at this
  simp at this

theorem Mem.wrote {w w1 : World} {X : Nat → Prop} {a S n : Nat} {f : Nat → Nat} {mb : Nat} {pg : Nat → Option Nat} (h : Mem w X a S n f mb pg) (x v : Nat) (hx8 : x % 8 = 0) (hxS : x < S) (hv0 : v ≠ 0) (hv : v < 18446744073709551616) {b : Nat}
    (hb : pg (dn x) = some b ∨ (pg (dn x) = none ∧ w.heap.size ≤ b)) (hrow : w1.heap[b]? = some (.cells (prow fun i => f (dn x + 8 * i)) 93 (0, 0))) (hP : Pages w1 mb (n + 1) (updPg pg (dn x) (some b))) (hT : Turn (fun i => i = mb) w w1) :
    Mem (w1.setCell ⟨b, plc x, none⟩ (.int .u64 (v : Nat))) (Gr X w (w1.setCell ⟨b, plc x, none⟩ (.int .u64 (v : Nat)))) a S (n + 1) (updF f x v) mb (updPg pg (dn x) (some b)) ∧ Turn X w (w1.setCell ⟨b, plc x, none⟩ (.int .u64 (v : Nat))) := by
  have hsz : (w1.setCell ⟨b, plc x, none⟩ (.int .u64 (v : Nat))).heap.size = w1.heap.size := by simp [World.setCell]
  have hne : b ≠ mb := row_ne_map hrow hP
  have hab : a ≠ b := by
    rcases hb with hb | ⟨_, hb⟩
    · exact h.a_ne_b hb
    · have := h.xlt _ h.xa; omega
  have hXb : Gr X w (w1.setCell ⟨b, plc x, none⟩ (.int .u64 (v : Nat))) b := by
    rcases hb with hb | ⟨_, hb⟩
    · exact Or.inl (h.page _ _ hb).1
    · refine Or.inr ⟨hb, ?_⟩
      rw [hsz]
      exact (Array.getElem?_eq_some_iff.1 hrow).1
  have hoth : ∀ i, i ≠ b → (w1.setCell ⟨b, plc x, none⟩ (.int .u64 (v : Nat))).heap[i]? = w1.heap[i]? := fun i hi => Below.heap_setCell _ _ _ _ hi
  have hT2 : Turn X w (w1.setCell ⟨b, plc x, none⟩ (.int .u64 (v : Nat))) := by
    refine ⟨hT.os, hT.tape, hT.output, by rw [hsz]; exact hT.size, fun i hi hX => ?_⟩
    rw [hoth i (fun e => by
      rcases hb with hb | ⟨_, hb⟩
      · exact hX (e ▸ (h.page _ _ hb).1)
      · omega)]
    exact hT.block i hi (fun e => hX (e ▸ h.xm))
  refine ⟨⟨?_, ?_, Or.inl h.xa, Or.inl h.xm, ?_, h.s0, ?_, ?_, ?_, ?_, ?_⟩, hT2⟩
  · rw [hoth a hab, hT.block a (h.xlt _ h.xa) h.a_ne]
    exact h.str
  · exact hP.block (hoth mb hne.symm)
  · intro i hi
    rw [hsz]
    rcases hi with hi | hi
    · exact Nat.lt_of_lt_of_le (h.xlt i hi) hT.size
    · rw [hsz] at hi; exact hi.2
  · intro y b' hy
    unfold updPg at hy
    by_cases e : y = dn x
    · subst e
      rw [if_pos rfl] at hy
      cases hy
      refine ⟨hXb, dn_mod x, Nat.lt_of_le_of_lt (dn_le x) hxS, ?_, plc x, plc_lt x, ?_⟩
      · rw [heap_setCell_same _ _ _ _ _ _ hrow, prow_set _ _ _ (plc_lt x)]
        rw [prow_congr (g := fun i => updF f x v (dn x + 8 * i)) (fun i hi => ?_)]
        unfold updF
        by_cases q : i = plc x
        · rw [if_pos q, if_pos ((dn_idx hx8 (dn_mod x) hi).2 ⟨rfl, q⟩)]
        · rw [if_neg q, if_neg (fun c => q ((dn_idx hx8 (dn_mod x) hi).1 c).2)]
      · unfold updF
        rw [if_pos (dn_plc hx8)]
        exact hv0
    · rw [if_neg e] at hy
      obtain ⟨q1, q2, q3, q4, q5⟩ := h.page y b' hy
      have hbb : b' ≠ b := fun c => by
        rcases hb with hb | ⟨_, hb⟩
        · exact e (h.inj _ _ _ hy (c ▸ hb))
        · have := h.xlt _ q1; omega
      have hbm : b' ≠ mb := row_ne_map q4 h.pgs
      have hsame : ∀ i, i < 512 → updF f x v (y + 8 * i) = f (y + 8 * i) := fun i hi => by
        unfold updF
        rw [if_neg (fun c => e ((dn_idx hx8 q2 hi).1 c).1)]
      refine ⟨Or.inl q1, q2, q3, ?_, ?_⟩
      · rw [hoth b' hbb, hT.block b' (h.xlt _ q1) hbm, q4, prow_congr (fun i hi => (hsame i hi).symm)]
      · obtain ⟨i, hi, h0⟩ := q5
        exact ⟨i, hi, by rw [hsame i hi]; exact h0⟩
  · intro y z c hy hz
    unfold updPg at hy hz
    have key : ∀ u, pg u = some b → u = dn x := fun u hu => by
      rcases hb with hb | ⟨_, hb⟩
      · exact h.inj _ _ _ hu hb
      · have := h.xlt _ (h.page _ _ hu).1; omega
    by_cases e1 : y = dn x
    · by_cases e2 : z = dn x
      · rw [e1, e2]
      · rw [if_pos e1] at hy
        rw [if_neg e2] at hz
        cases hy
        exact absurd (key z hz) e2
    · rw [if_neg e1] at hy
      by_cases e2 : z = dn x
      · rw [if_pos e2] at hz
        cases hz
        exact absurd (key y hy) e1
      · rw [if_neg e2] at hz
        exact h.inj _ _ _ hy hz
  · intro y hy hpg i hi
    unfold updPg at hpg
    by_cases e : y = dn x
    · rw [if_pos e] at hpg; cases hpg
    · rw [if_neg e] at hpg
      unfold updF
      rw [if_neg (fun c => e ((dn_idx hx8 hy hi).1 c).1)]
      exact h.zero y hy hpg i hi
  · intro y
    unfold updF
    by_cases e : y = x
    · rw [if_pos e]; exact hv
    · rw [if_neg e]; exact h.fl y
  · intro y hy
    unfold updF
    have e : y ≠ x := fun e => by subst e; omega
    rw [if_neg e]
    exact h.out y hy
end Go.Proofs.YtcmndefjmhcbhaaDoor
