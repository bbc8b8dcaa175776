/- P11 -/
import Derived.Test.YtfdbdeckohaneaaGreatDoorP10
import Derived.Test.YtfdbdeckohaneaaGreatDoorP02
set_option maxHeartbeats 16000000
set_option maxRecDepth 100000
namespace Go.Proofs.YtfdbdeckohaneaaGreatDoor
open Go.RowKit Go.Maps
structure StepsAt (w : World) (ad : Option Addr) (n : Nat) (A V : Nat → Nat) : Prop where
 cells : ∀ i, i < n → ∃ g o, ad = some ⟨g, o, none⟩ ∧ g < w.heap.size ∧ w.cell? ⟨g, o + i * 2, none⟩ = some (.int .u64 (A i : Nat)) ∧ w.cell? ⟨g, o + i * 2 + 1, none⟩ = some (.int .u64 (V i : Nat))
 al : ∀ i, A i < 18446744073709551616
 vl : ∀ i, V i < 18446744073709551616
def fW (S : Nat) (A V : Nat → Nat) : Nat → Nat → Nat
 | 0 => fun _ => 0
 | k + 1 => wrF (fW S A V k) S (A k) (V k)
theorem fW_succ (S : Nat) (A V : Nat → Nat) (k : Nat) : fW S A V (k + 1) = wrF (fW S A V k) S (A k) (V k) := rfl
theorem StepsAt.later {w w' : World} {ad : Option Addr} {n : Nat} {A V : Nat → Nat} (h : StepsAt w ad n A V) (hb : Below w.heap.size w w') : StepsAt w' ad n A V := by
 refine ⟨fun i hi => ?_, h.al, h.vl⟩
 obtain ⟨g, o, e, hg, q1, q2⟩ := h.cells i hi
 exact ⟨g, o, e, Nat.lt_of_lt_of_le hg hb.size, (hb.cell (p := ⟨g, _, none⟩) hg).trans q1, (hb.cell (p := ⟨g, _, none⟩) hg).trans q2⟩
end Go.Proofs.YtfdbdeckohaneaaGreatDoor
