/- maps.Keys over a map of pages; slices.Collect over an iterator of words. -/
import Derived.RangeFuncNested
import Derived.RangeFuncBound
import Derived.RangeFuncCalls
import Derived.RangeFuncLeaves
import Derived.RangeFuncBox
import Derived.Shelf.Abstract
import Derived.Shelf.RegionOpen
import Derived.WalkKit
import Derived.OwnWalkIn
import Derived.TacticsInMore
import Derived.LoopNIn
import Derived.LoopIn
import Derived.Maps.AppendAt
import Derived.Sort.MapsRangeIn
import Derived.Test.YtiedlkhbbnjkbaaPhysIter
namespace Go.Proofs.Ytiedlkhbbnjkbaa
open Go.RowKit Go.Shelf Go.Maps
attribute [local go_sem] Oper.semAt_some

section
variable {F : Fence} {n : Nat} (w : World) {ops : Array Oper} {rest : List Oper} {o : Oper} {a : Act} {Q : Exit → Act → World → Prop}

theorem wpListIn_rangeP (hg : o.guard = none) (m : Operand) (hop : o.op = Op.range 54 m) (mb nn : Nat) (pg : Nat → Option Nat) (hm : a.eval m = .map (some mb)) (h : Pages w mb nn pg)
    (hK : ∀ w' cnt, PRange w' mb w.heap.size nn pg (fun x => (pg x).isSome) cnt → w.grownBy w' none → cnt ≤ nn → wpListIn F n Try.prog ops Q rest (a.put o.dst (.pointer (some ⟨w.heap.size, 0, none⟩))) w') :
    wpListIn F n Try.prog ops Q (o :: rest) a w := by
  refine wpListIn_plain hg fun K' hK' => ?_
  obtain ⟨w', cnt, hrun, h1, h2, _, h4⟩ := h.range
  unfold Oper.wpIn
  refine ⟨?_, ?_⟩
  · simp [Oper.about, hop]
  · rw [Oper.semAt_plain F _ _ (by rw [hop]; intro c hc'; cases hc')]
    simp [execOp, hop, hm, hrun, Result.andThen]
    exact hK' _ _ (hK w' cnt h1 h2 h4)

theorem wpListIn_nextP (hg : o.guard = none) (it : Operand) (hop : o.op = Op.next it false) (mb r nn : Nat) (pg : Nat → Option Nat) (left : Nat → Bool) (cnt : Nat) (hit : a.eval it = .pointer (some ⟨r, 0, none⟩)) (h : PRange w mb r nn pg left cnt)
    (hDone : (∀ x, x < 18446744073709551616 → left x = false) → wpListIn F n Try.prog ops Q rest (a.put o.dst (.tuple #[.bool false])) w)
    (hMore : ∀ x b w' cnt', x < 18446744073709551616 → left x = true → pg x = some b → PRange w' mb r nn pg (fun y => left y && !decide (y = x)) cnt' → cnt' < cnt → w.grownBy w' (some r) →
      (Instr.entry (.pointer (some ⟨r, 0, none⟩))).run Try.prog w' = .ok (.tuple #[.int .u64 (x : Nat), .pointer (some ⟨b, 0, none⟩)]) w' →
      wpListIn F n Try.prog ops Q rest (a.put o.dst (.tuple #[.bool true, .int .u64 (x : Nat), .pointer (some ⟨b, 0, none⟩)])) w') :
    wpListIn F n Try.prog ops Q (o :: rest) a w := by
  refine wpListIn_plain hg fun K' hK' => ?_
  unfold Oper.wpIn
  refine ⟨by simp [Oper.about, hop], ?_⟩
  rw [Oper.semAt_plain F _ _ (by rw [hop]; intro c hc'; cases hc')]
  rcases h.next o.type with ⟨hl, hrun⟩ | ⟨x, b, w', cnt', h1, h2, h3, hrun, h4, h5, h6, _, h8⟩
  · simp [execOp, hop, hit, hrun, Result.andThen]
    exact hK' _ _ (hDone hl)
  · simp [execOp, hop, hit, hrun, Result.andThen]
    exact hK' _ _ (hMore x b w' cnt' h1 h2 h3 h4 h5 h6 h8)
end

theorem PRange.of_walks {w w' : World} {mb r n : Nat} {pg : Nat → Option Nat} {left : Nat → Bool} {cnt : Nat} (h : PRange w mb r n pg left cnt) (hk : KeepsWalks w w') : PRange w' mb r n pg left cnt := by
  obtain ⟨D, lf, h1, h2⟩ := h
  exact ⟨D, lf, h1.of_walks hk, h2⟩

theorem PRange.iter_walk {w : World} {mb r n : Nat} {pg : Nat → Option Nat} {left : Nat → Bool} {cnt : Nat} (h : PRange w mb r n pg left cnt) : ∃ o : Obj, w.heap[r]? = some o ∧ o.isWalk = true := by
  obtain ⟨s, c, t, h1⟩ := h.isIter
  exact ⟨_, h1, rfl⟩

/-- ss: the pages that there are, each once. -/
def KeysOf (pg : Nat → Option Nat) (ss : List Nat) : Prop := ss.Nodup ∧ ∀ x, x ∈ ss ↔ x < 18446744073709551616 ∧ (pg x).isSome = true
/-- ss: those of them that have come. -/
def Got (pg : Nat → Option Nat) (left : Nat → Bool) (ss : List Nat) : Prop := ss.Nodup ∧ ∀ x, x ∈ ss ↔ x < 18446744073709551616 ∧ (pg x).isSome = true ∧ left x = false

theorem Got.start (pg : Nat → Option Nat) : Got pg (fun x => (pg x).isSome) [] := ⟨List.nodup_nil, fun x => by
  constructor
  · intro h; cases h
  · rintro ⟨_, h2, h3⟩; exact absurd (h2.symm.trans h3) (by decide)⟩
theorem Got.step {pg : Nat → Option Nat} {left : Nat → Bool} {ss : List Nat} (h : Got pg left ss) {x b : Nat} (hx : x < 18446744073709551616) (hl : left x = true) (hp : pg x = some b) : Got pg (fun y => left y && !decide (y = x)) (ss ++ [x]) := by
  have hnew : x ∉ ss := fun hm => by have := ((h.2 x).1 hm).2.2; rw [hl] at this; cases this
  refine ⟨List.nodup_append.2 ⟨h.1, by simp, fun a ha b hb => by simp at hb; subst hb; exact fun e => hnew (e ▸ ha)⟩, fun y => ?_⟩
  by_cases e : y = x
  · subst e; simp [hx, hp]
  · simp [h.2 y, e]
theorem Got.all {pg : Nat → Option Nat} {left : Nat → Bool} {ss : List Nat} (h : Got pg left ss) (hl : ∀ x, x < 18446744073709551616 → left x = false) : KeysOf pg ss :=
  ⟨h.1, fun x => (h.2 x).trans ⟨fun ⟨h1, h2⟩ => ⟨h1, h2.1⟩, fun ⟨h1, h2⟩ => ⟨h1, h2, hl x h1⟩⟩⟩

set_option maxRecDepth 100000 in
set_option maxHeartbeats 1000000 in
theorem keysit_in (F : Fence) (n : Nat) (hf : F.fn 41) (hro : F.round = none) (hn : 1 ≤ n) (l Bm mb nn : Nat) (pg : Nat → Option Nat) (J Jx : List Nat → World → Prop)
    (hY : ∀ pre x W, J pre W → pre.length < nn → YieldAt F (n - 1) Try.prog l #[.int .u64 (x : Nat)] W fun e W' =>
      (e = .returned (.bool true) ∧ J (pre ++ [x]) W' ∧ KeepsWalks W W') ∨ (e = .returned (.bool false) ∧ Jx (pre ++ [x]) W'))
    (W : World) (hJ : AbidesFrom W.heap.size J) (hm : W.cell? ⟨Bm, 0, none⟩ = some (.map (some mb))) (hp : Pages W mb nn pg) (h0 : J [] W) :
    CallsIn F n Try.prog 41 #[.func (.yield l) #[] #[], .pointer (some ⟨Bm, 0, none⟩)] W fun e W' => (∃ v, e = .returned v) ∧ ((∃ ss, KeysOf pg ss ∧ J ss W') ∨ (∃ pre, True ∧ Jx pre W')) := by
  refine callsIn_of_wp Try.func41 rfl hf ?_ hro
  simp only [Try.ntmps41, List.size_toArray, List.length_cons, List.length_nil, Nat.reduceAdd, Nat.reduceSub, Array.replicate_succ, Array.replicate_zero, List.push_toArray, List.append_toArray, List.nil_append, List.cons_append]
  gi_wp2_with (first
    | (gi_at_range; refine wpListIn_rangeP _ rfl _ rfl mb nn pg rfl hp ?_; intro w0 cnt0 hrg0 hg0 hc0)
    | gi_in)
  go_frame
  gi_loopw [3] (fun _ wr => ∃ (left : Nat → Bool) (cnt : Nat) (ss : List Nat), PRange wr mb W.heap.size nn pg left cnt ∧ ss.length + cnt ≤ nn ∧ Got pg left ss ∧ J ss wr)
    (fun _ wr => wr.rangeLeft mb W.heap.size)
  case atStart =>
    exact ⟨_, cnt0, [], hrg0, by simpa using hc0, Got.start pg, hJ [] W w0 none h0 hg0 (fun r e => by cases e)⟩
  case round =>
    obtain ⟨left, cnt, ss, hrg, hcs, hC, hJs⟩ := hrel
    gi_wp2_with (first
      | (gi_at_next; refine wpListIn_nextP _ rfl _ rfl mb W.heap.size nn pg left cnt rfl hrg ?_ ?_)
      | gi_in)
    · intro hl0
      gi_wp2
      go_end0
      exact ⟨⟨_, rfl⟩, Or.inl ⟨ss, hC.all hl0, hJs⟩⟩
    · intro x b w2 cnt2 hx hlk hb hrg2 hlt hg2 hen
      have hJ2 : J ss w2 := hJ ss wr w2 (some W.heap.size) hJs hg2 (fun r e => by cases e; exact ⟨Nat.le_refl _, hrg.iter_walk⟩)
      obtain ⟨fn, tmps, assign, body, hy, hR⟩ := hY ss x w2 hJ2 (by omega)
      gi_wp2
      refine hR.mono ?_
      rintro e W3 (⟨rfl, hJ3, hk3⟩ | ⟨rfl, hJx3⟩)
      · gi_wp2
        have hrg3 := hrg2.of_walks hk3
        go_roundw
        case rel => exact ⟨_, cnt2, ss ++ [x], hrg3, by simp; omega, hC.step hx hlk hb, hJ3⟩
        case measure => rw [hrg3.left_eq, hrg.left_eq]; exact hlt
      · gi_wp2
        refine bodyPost_ret (results_none rfl _ _ _) rfl ?_
        exact ⟨⟨_, rfl⟩, Or.inr ⟨ss ++ [x], trivial, hJx3⟩⟩

theorem keysit_stops (F : Fence) (n : Nat) (hf : F.fn 41) (hro : F.round = none) (hn : 1 ≤ n) (Bm mb nn : Nat) (pg : Nat → Option Nat) (w : World) (hBm : Bm < w.heap.size)
    (hm : w.cell? ⟨Bm, 0, none⟩ = some (.map (some mb))) (hp : Pages w mb nn pg) :
    SeqStopsK F n Try.prog 41 #[.pointer (some ⟨Bm, 0, none⟩)] (fun x : Nat => #[Value.int .u64 (x : Nat)]) KeepsWalks (KeysOf pg) (fun _ => True) nn w := fun l J Jx W hW hJ _ hY h0 =>
  keysit_in F n hf hro hn l Bm mb nn pg J Jx hY W hJ ((hW.cell (p := ⟨Bm, 0, none⟩) hBm).trans hm) (hp.block (hW.block mb hp.lt)) h0

set_option maxHeartbeats 1000000 in
theorem keys_in (F : Fence) (n : Nat) (hf : F.fn 38) (hro : F.round = none) (mb : Option Nat) (w : World) :
    CallsIn F n Try.prog 38 #[.map mb] w fun e w' => e = .returned (.func (.func 41) #[] #[.pointer (some ⟨w.heap.size, 0, none⟩)]) ∧ w' = w.alloc (.cells #[.map mb] 54) := by
  refine callsIn_of_wp Try.func38 rfl hf ?_ hro
  simp only [Try.ntmps38, List.size_toArray, List.length_cons, List.length_nil, Nat.reduceAdd, Nat.reduceSub, Array.replicate_succ, Array.replicate_zero, List.push_toArray, List.append_toArray, List.nil_append, List.cons_append]
  gi_wp2
  go_ret
  exact ⟨rfl, rfl⟩
end Go.Proofs.Ytiedlkhbbnjkbaa
