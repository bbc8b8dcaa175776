/- Going through the pages: the laws at the operations; a page by value. -/
import Derived.Test.YtcmndefjmhcbhaaDoorPhysPut
namespace Go.Proofs.YtcmndefjmhcbhaaDoor
open Go.RowKit Go.Maps

section
variable (w : World) {ops : Array Oper} {rest : List Oper} {o : Oper} {a : Act} {Q : Exit → Act → World → Prop}

theorem wpList_rangeP (hg : o.guard = none) (m : Operand) (hop : o.op = Op.range 79 m) (mb n : Nat) (pg : Nat → Option Nat) (hm : a.eval m = .map (some mb)) (h : Pages w mb n pg)
    (hK : ∀ w' cnt, PRange w' mb w.heap.size n pg (fun x => (pg x).isSome) cnt → Below w.heap.size w w' → w'.heap.size = w.heap.size + 1 → cnt ≤ n → wpList Tryd.prog ops Q rest (a.put o.dst (.pointer (some ⟨w.heap.size, 0, none⟩))) w') :
    wpList Tryd.prog ops Q (o :: rest) a w := by
  obtain ⟨w', cnt, hrun, h1, h2, h3, h4⟩ := h.range
  refine Great.wpList_runTo hg _ rfl (.pointer (some ⟨w.heap.size, 0, none⟩)) w' ?_ (hK w' cnt h1 ⟨h2.os, h2.tape, h2.output, h2.size, fun k hk => h2.block k hk (by simp)⟩ h3 h4)
  simp [execOp, hop, hm, hrun, Result.andThen]

theorem wpList_nextP (hg : o.guard = none) (it : Operand) (hop : o.op = Op.next it false) (mb r n : Nat) (pg : Nat → Option Nat) (left : Nat → Bool) (cnt : Nat) (hit : a.eval it = .pointer (some ⟨r, 0, none⟩)) (h : PRange w mb r n pg left cnt)
    (hDone : (∀ x, x < 18446744073709551616 → left x = false) → wpList Tryd.prog ops Q rest (a.put o.dst (.tuple #[.bool false])) w)
    (hMore : ∀ x b w' cnt', x < 18446744073709551616 → left x = true → pg x = some b → PRange w' mb r n pg (fun y => left y && !decide (y = x)) cnt' → cnt' < cnt → w.grownBy w' (some r) → w'.heap.size = w.heap.size →
      (Instr.entry (.pointer (some ⟨r, 0, none⟩))).run Tryd.prog w' = .ok (.tuple #[.int .u64 (x : Nat), .pointer (some ⟨b, 0, none⟩)]) w' →
      wpList Tryd.prog ops Q rest (a.put o.dst (.tuple #[.bool true, .int .u64 (x : Nat), .pointer (some ⟨b, 0, none⟩)])) w') :
    wpList Tryd.prog ops Q (o :: rest) a w := by
  rcases h.next o.type with ⟨hl, hrun⟩ | ⟨x, b, w', cnt', h1, h2, h3, hrun, h4, h5, h6, h7, h8⟩
  · refine Great.wpList_runTo hg _ rfl (.tuple #[.bool false]) w ?_ (hDone hl)
    simp [execOp, hop, hit, hrun, Result.andThen]
  · refine Great.wpList_runTo hg _ rfl (.tuple #[.bool true, .int .u64 (x : Nat), .pointer (some ⟨b, 0, none⟩)]) w' ?_ (hMore x b w' cnt' h1 h2 h3 h4 h5 h6 h7 h8)
    simp [execOp, hop, hit, hrun, Result.andThen]
end

/-! ### regions that draw their order, over a class of worlds -/
section
variable {P : Program} {ops : Array Oper} {rest : List Oper} {o : Oper} {a : Act} {C : World → Prop} {Q : Act → Prop}

theorem q_val (hg : o.guard = none) (v : Value) (h : ∀ W, C W → (execOp a.eval o).run P W = .ok (.value v) W) (k : wpQuiet P ops C Q rest (a.put o.dst v)) : wpQuiet P ops C Q (o :: rest) a := by
  refine wpQuiet_step (fun K hK => ?_)
  have : Region.wanted o (yielded ops a.tmps) = true := by simp [Region.wanted, hg]
  rw [if_pos this]
  refine ⟨v, fun W hW => ?_, hK _ k⟩
  unfold Oper.quietAt
  rw [h W hW]
  exact ⟨rfl, rfl⟩

theorem q_call (hg : o.guard = none) (v : Value) (f : FuncId) (args : Array Value) (h0 : ∀ W, (execOp a.eval o).run P W = .ok (.enter f args) W) (h : ∀ W, C W → Calls P f args W fun e w'' => e = .returned v ∧ C w'') (k : wpQuiet P ops C Q rest (a.put o.dst v)) : wpQuiet P ops C Q (o :: rest) a := by
  refine wpQuiet_step (fun K hK => ?_)
  have : Region.wanted o (yielded ops a.tmps) = true := by simp [Region.wanted, hg]
  rw [if_pos this]
  refine ⟨v, fun W hW => ?_, hK _ k⟩
  unfold Oper.quietAt
  rw [h0 W]
  exact ⟨rfl, h W hW⟩
end

theorem q_callF {P : Program} {ops : Array Oper} {rest : List Oper} {o : Oper} {a : Act} {C : World → Prop} {Q : Act → Prop} (hg : o.guard = none) (v : Value) (f : FuncId) (xs : Array Operand) (ts : Array TypeId) (ho : o.op = .call { callee := .value (.func f), args := xs, argTypes := ts }) (args : Array Value) (hl : xs.toList.map a.eval = args.toList) (hcf : ∀ W args, (callFunc f args).run P W = .ok (.enter f args) W)
    (h : ∀ W, C W → Calls P f args W fun e w'' => e = .returned v ∧ C w'') (k : wpQuiet P ops C Q rest (a.put o.dst v)) : wpQuiet P ops C Q (o :: rest) a := by
  refine q_call hg v f args (fun W => ?_) h k
  obtain rfl : xs.map a.eval = args := by
    apply Array.ext'
    rw [Array.toList_map]
    exact hl
  simp [execOp, ho, resolve, invoke, Act.eval, Deferred.ofValue, hcf]

theorem below_class (w : World) : Below w.heap.size w { w with drawn := w.drawn + 1 } := ⟨rfl, rfl, rfl, Nat.le_refl _, fun _ _ => rfl⟩

theorem run_loadPage {W : World} {b : Nat} {PR : Array Value} (hPR : PR.size = 512) (h : W.heap[b]? = some (.cells PR 93 (0, 0))) : (loadVar 93 ⟨b, 0, none⟩).run Tryd.prog W = .ok (.agg PR) W :=
  run_loadVar_row W b 93 93 PR (0, 0) _ h Tryd.underlying93 rfl (by rw [hPR]; kernel_rfl)

theorem q_load {ops : Array Oper} {rest : List Oper} {o : Oper} {a : Act} {C : World → Prop} {Q : Act → Prop} (hg : o.guard = none) (x : Operand) (ho : o.op = .load 93 x) (c : Nat) (hx : a.eval x = .pointer (some ⟨c, 0, none⟩)) {PR : Array Value} (hPR : PR.size = 512) (h : ∀ W, C W → W.heap[c]? = some (.cells PR 93 (0, 0)))
    (k : wpQuiet Tryd.prog ops C Q rest (a.put o.dst (.agg PR))) : wpQuiet Tryd.prog ops C Q (o :: rest) a := by
  refine q_val hg (.agg PR) (fun W hW => ?_) k
  unfold execOp
  simp only [ho, hx, Instr.loadAt, Instr.sureAddr, Sem.run_bind, Sem.run_pure, Result.andThen_ok, run_loadPage hPR (h W hW)]

theorem q_nePage {ops : Array Oper} {rest : List Oper} {o : Oper} {a : Act} {C : World → Prop} {Q : Act → Prop} (hg : o.guard = none) (x y : Operand) (t : TypeId) (ho : o.op = .binOp .neq 93 x y t) {PR PR2 : Array Value} (hx : a.eval x = .agg PR) (hy : a.eval y = .agg PR2) {q : Bool}
    (h : ∀ W, (Op.equalIn 10000 93 (.agg PR) (.agg PR2)).run Tryd.prog W = .ok q W) (k : wpQuiet Tryd.prog ops C Q rest (a.put o.dst (.bool (!q)))) : wpQuiet Tryd.prog ops C Q (o :: rest) a := by
  refine q_val hg (.bool (!q)) (fun W hW => ?_) k
  simp only [execOp, ho, hx, hy, Sem.run_bind, run_eqGuard_agg W _ _ _ _ _ _ guardP, Result.andThen_ok, run_neq_struct, h]
  rfl

/-- A step of the loop writes the iterator's block alone. -/
theorem Mem.step {w w' : World} {X : Nat → Prop} {a S n : Nat} {f : Nat → Nat} {mb : Nat} {pg : Nat → Option Nat} (h : Mem w X a S n f mb pg) {r : Nat} (hg : w.grownBy w' (some r)) (hr : ¬ X r) : Mem w' X a S n f mb pg :=
  h.kept (fun i hi => hg.block i (h.xlt i hi) (fun e => hr (by cases e; exact hi))) hg.size

end Go.Proofs.YtcmndefjmhcbhaaDoor
