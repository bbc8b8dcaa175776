/- Copy. -/
import Derived.Test.YtcmndefjmhcbhaaDoorPhysIter
namespace Go.Proofs.YtcmndefjmhcbhaaDoor
open Go.RowKit Go.Maps

theorem run_makeHint (L : Int) (w : World) : (Instr.makeMap 79 (some (.int .i64 L))).run Tryd.prog w = .ok (.map (some w.heap.size)) (w.alloc (.map #[] 0)) := by
  simp only [Instr.makeMap]
  simp [run_underlying Tryd.underlying79, asInt, asIntOf, Result.andThen]

/-- What the round of Copy keeps. -/
structure CopyRel (w : World) (S n : Nat) (f : Nat → Nat) (mb : Nat) (pg : Nat → Option Nat) (wr : World) (left : Nat → Bool) (cnt : Nat) (pg2 : Nat → Option Nat) (k : Nat) : Prop where
  rg : PRange wr mb (w.heap.size + 1) n pg left cnt
  bel : Below w.heap.size w wr
  pgs : Pages wr w.heap.size k pg2
  bnd : k + cnt ≤ n
  sz : w.heap.size + 2 ≤ wr.heap.size
  todo : ∀ x, x < S → left x = true → pg2 x = none
  done : ∀ x b, pg x = some b → left x = false → (pg2 x).isSome = true
  page : ∀ x c, pg2 x = some c → (pg x).isSome = true ∧ w.heap.size + 2 ≤ c ∧ wr.heap[c]? = some (.cells (prow fun i => f (x + 8 * i)) 93 (0, 0))
  inj : ∀ x y c, pg2 x = some c → pg2 y = some c → x = y

theorem CopyRel.step {w : World} {X : Nat → Prop} {a S n : Nat} {f : Nat → Nat} {mb : Nat} {pg : Nat → Option Nat} (h : Mem w X a S n f mb pg) {wr : World} {left : Nat → Bool} {cnt : Nat} {pg2 : Nat → Option Nat} {k : Nat} (hR : CopyRel w S n f mb pg wr left cnt pg2 k)
    {x b : Nat} {w1 w3 : World} {cnt1 : Nat} (hlx : left x = true) (hpx : pg x = some b) (hrg1 : PRange w1 mb (w.heap.size + 1) n pg (fun y => left y && !decide (y = x)) cnt1) (hlt : cnt1 < cnt) (hg1 : wr.grownBy w1 (some (w.heap.size + 1))) (hs1 : w1.heap.size = wr.heap.size)
    (hP : Pages w3 w.heap.size (k + 1) (updPg pg2 x (some w1.heap.size))) (hT : (w1.alloc (.cells (prow fun i => f (x + 8 * i)) 93)).mapTurned w3 w.heap.size) :
    CopyRel w S n f mb pg w3 (fun y => left y && !decide (y = x)) cnt1 (updPg pg2 x (some w1.heap.size)) (k + 1) := by
  have hmb : mb < w.heap.size := h.xlt _ h.xm
  have hg3 := hT.grown
  have hsz := hR.sz
  have hb1 : ∀ i, i < w1.heap.size → i ≠ w.heap.size → w3.heap[i]? = w1.heap[i]? := fun i hi hne => by
    rw [hg3.block i (by simp; omega) (fun e => hne (by cases e; rfl)), Below.heap_alloc _ _ _ hi]
  have hnew : w3.heap[w1.heap.size]? = some (.cells (prow fun i => f (x + 8 * i)) 93 (0, 0)) := by
    rw [hg3.block w1.heap.size (by simp) (fun e => by have := Option.some.inj e; omega)]
    exact heap_alloc_new _ _
  have hxS := (h.page x b hpx).2.2.1
  have hpx2 : pg2 x = none := hR.todo x hxS hlx
  refine ⟨hrg1.blocks (hb1 mb (by omega) (by omega)) (hb1 _ (by omega) (by omega)), ?_, hP, by have := hR.bnd; omega, ?_, ?_, ?_, ?_, ?_⟩
  · refine ⟨?_, ?_, ?_, ?_, fun i hi => ?_⟩
    · exact (hg3.os.trans hg1.os).trans hR.bel.os
    · exact (hg3.tape.trans hg1.tape).trans hR.bel.tape
    · exact (hg3.output.trans hg1.output).trans hR.bel.output
    · have := hg3.size; simp at this; omega
    · rw [hb1 i (by omega) (by omega), hg1.block i (by omega) (fun e => by cases e; omega)]
      exact hR.bel.block i hi
  · have := hg3.size; simp at this; omega
  · intro y hy hl
    simp only [Bool.and_eq_true, Bool.not_eq_true', decide_eq_false_iff_not] at hl
    unfold updPg
    rw [if_neg hl.2]
    exact hR.todo y hy hl.1
  · intro y c hc hl
    unfold updPg
    by_cases e : y = x
    · rw [if_pos e]; rfl
    · rw [if_neg e]
      exact hR.done y c hc (by simpa [e] using hl)
  · intro y c hc
    unfold updPg at hc
    by_cases e : y = x
    · rw [if_pos e] at hc
      cases hc
      subst e
      exact ⟨by rw [hpx]; rfl, by omega, hnew⟩
    · rw [if_neg e] at hc
      obtain ⟨q1, q2, q3⟩ := hR.page y c hc
      have hclt : c < wr.heap.size := (Array.getElem?_eq_some_iff.1 q3).1
      refine ⟨q1, q2, ?_⟩
      rw [hb1 c (by omega) (by omega), hg1.block c hclt (fun e => by cases e; omega)]
      exact q3
  · intro y z c hy hz
    unfold updPg at hy hz
    have key : ∀ u, pg2 u = some w1.heap.size → False := fun u hu => by
      have := (Array.getElem?_eq_some_iff.1 (hR.page u _ hu).2.2).1
      omega
    by_cases ey : y = x
    · by_cases ez : z = x
      · rw [ey, ez]
      · rw [if_pos ey] at hy
        rw [if_neg ez] at hz
        cases hy
        exact (key z hz).elim
    · rw [if_neg ey] at hy
      by_cases ez : z = x
      · rw [if_pos ez] at hz
        cases hz
        exact (key y hy).elim
      · rw [if_neg ez] at hz
        exact hR.inj _ _ _ hy hz

/-- Behind the last round. -/
theorem CopyRel.end_ {w : World} {X : Nat → Prop} {a S n : Nat} {f : Nat → Nat} {mb : Nat} {pg : Nat → Option Nat} (h : Mem w X a S n f mb pg) {wr : World} {left : Nat → Bool} {cnt : Nat} {pg2 : Nat → Option Nat} {k : Nat} (hR : CopyRel w S n f mb pg wr left cnt pg2 k)
    (hl : ∀ x, x < 18446744073709551616 → left x = false) :
    MemAt (wr.alloc (.cells #[.int .u64 (S : Nat), .map (some w.heap.size)] 81)) (fun i => w.heap.size ≤ i ∧ i < (wr.alloc (.cells #[.int .u64 (S : Nat), .map (some w.heap.size)] 81)).heap.size) wr.heap.size S n f ∧ Below w.heap.size w (wr.alloc (.cells #[.int .u64 (S : Nat), .map (some w.heap.size)] 81)) := by
  have hsz := hR.sz
  refine ⟨⟨w.heap.size, pg2, heap_alloc_new _ _, (hR.pgs.mono (by have := hR.bnd; omega)).block (Below.heap_alloc _ _ _ (by omega)), ⟨by omega, by simp⟩, ⟨Nat.le_refl _, by simp; omega⟩, fun i hi => hi.2, h.s0, ?_, hR.inj, ?_, h.fl, h.out⟩, hR.bel.alloc (by omega) _⟩
  · intro x c hc
    obtain ⟨q1, q2, q3⟩ := hR.page x c hc
    obtain ⟨b, hb⟩ := Option.isSome_iff_exists.1 q1
    obtain ⟨p1, p2, p3, p4, p5⟩ := h.page x b hb
    have hclt : c < wr.heap.size := (Array.getElem?_eq_some_iff.1 q3).1
    exact ⟨⟨by omega, by simp; omega⟩, p2, p3, (Below.heap_alloc _ _ _ hclt).trans q3, p5⟩
  · intro x hx hn
    cases hpg : pg x with
    | none => exact h.zero x hx hpg
    | some b =>
      have hxS := (h.page x b hpg).2.2.1
      have := h.s0
      have h2 := hR.done x b hpg (hl x (by omega))
      rw [hn] at h2
      cases h2

end Go.Proofs.YtcmndefjmhcbhaaDoor
