/- Capabilities: the law's anchor, and what words and capabilities say of one another. -/
import Derived.Test.YtcmndefjmhcbhaaDoorCapJ
set_option linter.unusedVariables false
namespace Go.Proofs.YtcmndefjmhcbhaaDoor
open Go.RowKit

theorem rd_word {k a b r g s m : Nat} (h : Rt k a b r g s m) : rdK (wordN k a b r g s) = k ∧ rdA (wordN k a b r g s) = a ∧ rdB (wordN k a b r g s) = b ∧ rdR (wordN k a b r g s) = r ∧ rdG (wordN k a b r g s) = g ∧ rdS (wordN k a b r g s) = s := by
  obtain ⟨q1, q2, q3, q4, q5, q6, q7, q8⟩ := h
  unfold rdK rdA rdB rdR rdG rdS wordN
  refine ⟨?_, ?_, ?_, ?_, ?_, ?_⟩ <;> omega
theorem word_lt {k a b r g s m : Nat} (h : Rt k a b r g s m) : wordN k a b r g s < 18446744073709551616 := by
  obtain ⟨q1, q2, q3, q4, q5, q6, q7, q8⟩ := h
  unfold wordN; omega
theorem read_word {k a b r g s m : Nat} (h : Rt k a b r g s m) (hc : cB k a b r g s m = true) (w : World) (hP : Prts w) :
    Calls Tryd.prog 67 #[.int .u64 ((wordN k a b r g s : Nat) : Int), .int .u64 (m : Nat)] w fun e w' => e = .returned (.tuple #[.agg #[.int .i64 (k : Nat), .int .u64 (a : Nat), .int .i64 (b : Nat), .int .i64 (r : Nat), .int .i64 (g : Nat), .int .i64 (s : Nat), .int .u64 (m : Nat)], .int .i64 0]) ∧ Below w.heap.size w w' := by
  obtain ⟨e1, e2, e3, e4, e5, e6⟩ := rd_word h
  have := read_any (wordN k a b r g s) m (word_lt h) h.qm w hP
  have hk : rdOK (wordN k a b r g s) m = true := by unfold rdOK; rw [e1, e2, e3, e4, e5, e6, hc]; simp
  rw [hk, if_pos rfl, if_pos rfl, e1, e2, e3, e4, e5, e6] at this
  exact this

theorem eqTh (w : World) : (binOp .eql 33 (.agg #[.int .i64 8, .int .u64 4096, .int .i64 7, .int .i64 0, .int .i64 0, .int .i64 0, .int .u64 0]) (.agg #[.int .i64 8, .int .u64 4096, .int .i64 7, .int .i64 0, .int .i64 0, .int .i64 0, .int .u64 0])).run Tryd.prog w = .ok (.bool true) w := by
  have := eqC 8 4096 7 0 0 0 0 8 4096 7 0 0 0 0 w
  exact this.trans (by rfl)

end Go.Proofs.YtcmndefjmhcbhaaDoor
