/- Rights, second part: their texts. -/
import Derived.Test.YtoblkicbfkgjnaaDoorRgA
import Derived.Test.YtoblkicbfkgjnaaDoorShelf
import Derived.Lib.OthersKept
namespace Go.Proofs.YtoblkicbfkgjnaaDoor
open Go.RowKit Go.Lib

/-- The three signs. -/
def SG : ByteArray := ⟨#[114, 119, 120]⟩
/-- The k-th letter of rights' text; the first k letters. -/
def shC (r k : Nat) : UInt8 := if r.testBit k then [114, 119, 120].getD k 0 else 45
def shL (r k : Nat) : List UInt8 := (List.range k).map (shC r)
theorem shL_step (r k : Nat) : shL r (k + 1) = shL r k ++ [shC r k] := by simp [shL, List.range_succ]
theorem cells_step (r k : Nat) : byteCells (shL r (k + 1)) = byteCells (shL r k) ++ [.int .u8 ((shC r k).toNat : Int)] := by rw [shL_step]; simp [byteCells]
theorem shL_len (r k : Nat) : (byteCells (shL r k)).length = k := by simp [byteCells, shL]
theorem and_bit0 : ∀ r : Nat, r < 8 → (bits .and .i64 (r : Int) 1 == 0) = !r.testBit 0 := by decide
theorem and_bit1 : ∀ r : Nat, r < 8 → (bits .and .i64 (r : Int) 2 == 0) = !r.testBit 1 := by decide
theorem and_bit2 : ∀ r : Nat, r < 8 → (bits .and .i64 (r : Int) 4 == 0) = !r.testBit 2 := by decide

/-- What the rounds of Show keep. -/
structure ShR (r : Nat) (w : World) (k : Nat) (wr : World) : Prop where
  bld : IsBuilderF 46 5 w.heap.size w.heap.size (byteCells (shL r k)) wr
  it : wr.heap[w.heap.size + 1]? = some (.stringIter SG k)
  bel : Below w.heap.size w wr
theorem ShR.step {r : Nat} {w wr w' : World} {k : Nat} {c : Int} (h : ShR r w k wr) (hc : runeCells c = [.int .u8 ((shC r k).toNat : Int)])
    (hA : BuilderAtF 46 5 w.heap.size w.heap.size (.pointer (some ⟨w.heap.size, 0, none⟩)) (byteCells (shL r k) ++ runeCells c) w') (hB : Below w.heap.size (wr.iterAt (w.heap.size + 1) SG (k + 1)) w')
    (hO : OthersKept 5 (some w.heap.size) (wr.iterAt (w.heap.size + 1) SG (k + 1)) w') : ShR r w (k + 1) w' := by
  rw [hc, ← cells_step] at hA
  refine ⟨Or.inr hA, ?_, ?_⟩
  · exact hO _ _ (iterAt_heap _ _ _ _ _ h.it) (by simp) (fun c fz e => by cases e)
  · exact (below_iterAt h.bel (by omega) _ _).trans hB
theorem ShR.iterB {r : Nat} {w wr : World} {k : Nat} (h : ShR r w k wr) : IsBuilderF 46 5 w.heap.size w.heap.size (byteCells (shL r k)) (wr.iterAt (w.heap.size + 1) SG (k + 1)) := by
  rcases h.bld with hb | hb
  · exact Or.inl (hb.iterAt h.it (k + 1))
  · exact Or.inr (hb.iterAt h.it (k + 1))
theorem ShR.size {r : Nat} {w wr : World} {k : Nat} (h : ShR r w k wr) : w.heap.size ≤ (wr.iterAt (w.heap.size + 1) SG (k + 1)).heap.size := by
  rw [iterAt_size]; exact h.bel.size

set_option maxHeartbeats 2000000 in
set_option maxRecDepth 100000 in
theorem show_any (r : Nat) (hr : r < 8) (w : World) :
    Calls Tryd.prog 13 #[.int .i64 (r : Int)] w fun e w' => e = .returned (.string ⟨(shL r 3).toArray⟩) ∧ Below w.heap.size w w' := by
  have cR := fun w1 => rite_any (r : Int) w1
  rw [rB_of hr] at cR
  have a0 := and_bit0 r hr
  have a1 := and_bit1 r hr
  have a2 := and_bit2 r hr
  clear hr
  go_enter Tryd.func13, Tryd.ntmps13
  go_wp2_with fail
  refine (cR _).mono ?_
  rintro e w1 ⟨rfl, rfl⟩
  clear cR
  go_wp2
  go_loopw [] (fun wr => ∃ k : Nat, k ≤ 3 ∧ ShR r w k wr) (fun wr => 3 - wr.iterPos (w.heap.size + 1))
  case atStart =>
    refine ⟨0, by omega, Or.inl ?_, heap_alloc2_new _ _ _, (below_new _ _).alloc (below_new _ _).size _⟩
    refine ⟨Nat.le_refl _, .slice none 0 0, heap_alloc2_old _ _ _, ⟨rfl, Or.inl ⟨rfl, rfl⟩⟩, by simp [Value.ownBlock]⟩
  case round =>
    obtain ⟨k, hk, hR⟩ := hrel
    have hit := hR.it
    by_cases e3 : k = 3
    · subst e3
      have hnx : ∀ ty, (Instr.next (.pointer (some ⟨w.heap.size + 1, 0, none⟩)) true ty).run Tryd.prog wr = .ok (.tuple #[.bool false]) wr := fun ty => run_next_end_at wr (w.heap.size + 1) SG 3 ty hit (by decide)
      have cS := Tryd.Builder_String_any_k w.heap.size w.heap.size (shL r 3) wr hR.bld hR.bel.size
      have HB := Hid.mk hR.bel
      clear hit hR a0 a1 a2
      go_wp2_with (go_at_call 22; refine cS.mono ?_; rintro e w2 ⟨rfl, -, hb, -⟩)
      go_ret
      exact ⟨rfl, HB.out.trans hb⟩
    rcases (show k = 0 ∨ k = 1 ∨ k = 2 by omega) with rfl | rfl | rfl
    · have hnx : ∀ ty, (Instr.next (.pointer (some ⟨w.heap.size + 1, 0, none⟩)) true ty).run Tryd.prog wr = .ok (.tuple #[.bool true, .int .i64 0, .int .i32 114]) (wr.iterAt (w.heap.size + 1) SG 1) := fun ty => run_next_ascii_at wr (w.heap.size + 1) SG 0 ty hit (by decide) (by decide)
      have hB := hR.iterB
      have hz := hR.size
      cases ht : r.testBit 0
      · rw [ht] at a0
        have hc : runeCells 45 = [.int .u8 ((shC r 0).toNat : Int)] := by unfold shC; rw [ht]; rfl
        have cW := Tryd.Builder_WriteRune_k w.heap.size w.heap.size _ 45 (by decide) (by decide) _ hB (by rw [shL_len]; decide) hz
        clear hit a1 a2 hB hz
        go_wp2_with (go_at_call 21; refine cW.mono ?_; rintro e w2 ⟨rfl, h1, h2, h3⟩; have hS := hR.step hc h1 h2 h3)
        go_roundw
        case rel => exact ⟨1, by omega, hS⟩
        case measure => simp only [World.iterPos, hS.it, hR.it]; omega
      · rw [ht] at a0
        have hc : runeCells 114 = [.int .u8 ((shC r 0).toNat : Int)] := by unfold shC; rw [ht]; rfl
        have cW := Tryd.Builder_WriteRune_k w.heap.size w.heap.size _ 114 (by decide) (by decide) _ hB (by rw [shL_len]; decide) hz
        clear hit a1 a2 hB hz
        go_wp2_with (go_at_call 21; refine cW.mono ?_; rintro e w2 ⟨rfl, h1, h2, h3⟩; have hS := hR.step hc h1 h2 h3)
        go_roundw
        case rel => exact ⟨1, by omega, hS⟩
        case measure => simp only [World.iterPos, hS.it, hR.it]; omega
    · have hnx : ∀ ty, (Instr.next (.pointer (some ⟨w.heap.size + 1, 0, none⟩)) true ty).run Tryd.prog wr = .ok (.tuple #[.bool true, .int .i64 1, .int .i32 119]) (wr.iterAt (w.heap.size + 1) SG 2) := fun ty => run_next_ascii_at wr (w.heap.size + 1) SG 1 ty hit (by decide) (by decide)
      have hB := hR.iterB
      have hz := hR.size
      cases ht : r.testBit 1
      · rw [ht] at a1
        have hc : runeCells 45 = [.int .u8 ((shC r 1).toNat : Int)] := by unfold shC; rw [ht]; rfl
        have cW := Tryd.Builder_WriteRune_k w.heap.size w.heap.size _ 45 (by decide) (by decide) _ hB (by rw [shL_len]; decide) hz
        clear hit a0 a2 hB hz
        go_wp2_with (go_at_call 21; refine cW.mono ?_; rintro e w2 ⟨rfl, h1, h2, h3⟩; have hS := hR.step hc h1 h2 h3)
        go_roundw
        case rel => exact ⟨2, by omega, hS⟩
        case measure => simp only [World.iterPos, hS.it, hR.it]; omega
      · rw [ht] at a1
        have hc : runeCells 119 = [.int .u8 ((shC r 1).toNat : Int)] := by unfold shC; rw [ht]; rfl
        have cW := Tryd.Builder_WriteRune_k w.heap.size w.heap.size _ 119 (by decide) (by decide) _ hB (by rw [shL_len]; decide) hz
        clear hit a0 a2 hB hz
        go_wp2_with (go_at_call 21; refine cW.mono ?_; rintro e w2 ⟨rfl, h1, h2, h3⟩; have hS := hR.step hc h1 h2 h3)
        go_roundw
        case rel => exact ⟨2, by omega, hS⟩
        case measure => simp only [World.iterPos, hS.it, hR.it]; omega
    · have hnx : ∀ ty, (Instr.next (.pointer (some ⟨w.heap.size + 1, 0, none⟩)) true ty).run Tryd.prog wr = .ok (.tuple #[.bool true, .int .i64 2, .int .i32 120]) (wr.iterAt (w.heap.size + 1) SG 3) := fun ty => run_next_ascii_at wr (w.heap.size + 1) SG 2 ty hit (by decide) (by decide)
      have hB := hR.iterB
      have hz := hR.size
      cases ht : r.testBit 2
      · rw [ht] at a2
        have hc : runeCells 45 = [.int .u8 ((shC r 2).toNat : Int)] := by unfold shC; rw [ht]; rfl
        have cW := Tryd.Builder_WriteRune_k w.heap.size w.heap.size _ 45 (by decide) (by decide) _ hB (by rw [shL_len]; decide) hz
        clear hit a0 a1 hB hz
        go_wp2_with (go_at_call 21; refine cW.mono ?_; rintro e w2 ⟨rfl, h1, h2, h3⟩; have hS := hR.step hc h1 h2 h3)
        go_roundw
        case rel => exact ⟨3, by omega, hS⟩
        case measure => simp only [World.iterPos, hS.it, hR.it]; omega
      · rw [ht] at a2
        have hc : runeCells 120 = [.int .u8 ((shC r 2).toNat : Int)] := by unfold shC; rw [ht]; rfl
        have cW := Tryd.Builder_WriteRune_k w.heap.size w.heap.size _ 120 (by decide) (by decide) _ hB (by rw [shL_len]; decide) hz
        clear hit a0 a1 hB hz
        go_wp2_with (go_at_call 21; refine cW.mono ?_; rintro e w2 ⟨rfl, h1, h2, h3⟩; have hS := hR.step hc h1 h2 h3)
        go_roundw
        case rel => exact ⟨3, by omega, hS⟩
        case measure => simp only [World.iterPos, hS.it, hR.it]; omega

set_option maxHeartbeats 400000 in
theorem show_bad (r : Int) (hr : rB r = false) (w : World) :
    Calls Tryd.prog 13 #[.int .i64 r] w fun e w' => e = .returned (.string ⟨#[]⟩) ∧ Below w.heap.size w w' := by
  have cR := fun w1 => rite_any r w1
  rw [hr] at cR
  go_enter Tryd.func13, Tryd.ntmps13
  go_wp2_with fail
  refine (cR _).mono ?_
  rintro e w1 ⟨rfl, rfl⟩
  go_wp2
  go_ret
  exact ⟨rfl, Below.refl _ _⟩
end Go.Proofs.YtoblkicbfkgjnaaDoor
