/- The law's laid: words written into a new memory. -/
import Derived.Test.YtdpcbdbdacjcbaaDoorWalkF
namespace Go.Proofs.YtdpcbdbdacjcbaaDoor.TR
open Go.RowKit Go.Maps

set_option maxHeartbeats 1000000 in
set_option maxRecDepth 100000 in
theorem laid_bad (n cap : Nat) (ad : Option Addr) (h : 60 < n) (w : World) :
    Calls Tryd.prog 10 #[.slice ad n cap] w fun e w' => e = .returned (.tuple #[.pointer none, .bool false]) ∧ Below w.heap.size w w' := by
  have hn2 : (60 : Int) < n := by omega
  clear h
  go_enter Tryd.func10, Tryd.ntmps10
  go_wp2_with fail
  refine (Go.Proofs.YtdpcbdbdacjcbaaDoor.new_ok 1048576 (by decide) _).mono ?_
  rintro e w1 ⟨a, rfl, -, hb⟩
  go_wp2
  go_ret2
  exact ⟨rfl, hb⟩

/-- A memory that was made behind w0. -/
def LMem (w0 w : World) (a S n : Nat) (f : Nat → Nat) : Prop := ∃ X, MemAt w X a S n f ∧ (∀ i, X i → w0.heap.size ≤ i) ∧ Below w0.heap.size w0 w
theorem LMem.later {w0 w w' : World} {a S n : Nat} {f : Nat → Nat} (h : LMem w0 w a S n f) (hb : Below w.heap.size w w') : LMem w0 w' a S n f := by
  obtain ⟨X, h1, h2, h3⟩ := h
  exact ⟨X, h1.below hb, h2, below_tr h3 hb⟩
theorem LMem.bel {w0 w : World} {a S n : Nat} {f : Nat → Nat} (h : LMem w0 w a S n f) : Below w0.heap.size w0 w := by
  obtain ⟨X, h1, h2, h3⟩ := h
  exact h3
theorem LMem.write {w0 w : World} {a S n : Nat} {f : Nat → Nat} (h : LMem w0 w a S n f) (hn : n < 100000000) (x v : Nat) (hx : x < 18446744073709551616) (hv : v < 18446744073709551616) :
    Calls Tryd.prog 30 #[.pointer (some ⟨a, 0, none⟩), .int .u64 x, .int .u64 v] w fun e w' => e = .returned (.int .i64 (errA S x)) ∧ LMem w0 w' a S (n + 1) (wrF f S x v) := by
  obtain ⟨X, h1, h2, h3⟩ := h
  refine (write_c h1 hn x v hx hv).mono ?_
  rintro e w' ⟨rfl, hm, ht⟩
  refine ⟨rfl, Gr X w w', hm, fun i hi => ?_, h3.trans (ht.below h2 h3.size)⟩
  rcases hi with hi | hi
  · exact h2 i hi
  · exact Nat.le_trans h3.size hi.1

set_option maxHeartbeats 1000000 in
set_option maxRecDepth 100000 in
theorem laid_ok (n cap : Nat) (ad : Option Addr) (A V : Nat → Nat) (hn : n ≤ 60) (w : World) (hst : StepsAt w ad n A V) :
    Calls Tryd.prog 10 #[.slice ad n cap] w fun e w' => ∃ a, e = .returned (.tuple #[.pointer (some ⟨a, 0, none⟩), .bool true]) ∧ LMem w w' a 1048576 n (fW 1048576 A V n) := by
  have hn2 : ¬ (60 : Int) < n := by omega
  have hnI : (n : Int) ≤ 60 := by omega
  have HST := Hid.mk hst
  have HFW : Hid (∀ i, fW 1048576 A V (i + 1) = wrF (fW 1048576 A V i) 1048576 (A i) (V i)) := fun i => rfl
  have HF0 : Hid (fW 1048576 A V 0 = fun _ => 0) := rfl
  clear hst
  generalize fW 1048576 A V = FW at *
  go_enter Tryd.func10, Tryd.ntmps10
  go_wp2_with fail
  refine (Go.Proofs.YtdpcbdbdacjcbaaDoor.new_ok 1048576 (by decide) _).mono ?_
  rintro e w1 ⟨a, rfl, hM, hb⟩
  have HM : Hid (LMem w w1 a 1048576 0 (FW 0)) := ⟨fun i => w.heap.size ≤ i ∧ i < w1.heap.size, by rw [HF0.out]; exact hM, fun i hi => hi.1, hb⟩
  clear hM hb HF0
  go_wp2
  go_loopw [7, 25] (fun _ s25 wr => ∃ i : Nat, i ≤ n ∧ s25 = .int .i64 (i : Nat) ∧ LMem w wr a 1048576 i (FW i)) (fun _ s25 _ => n - (intOf s25).toNat)
  case atStart => exact ⟨0, by omega, rfl, HM.out⟩
  case round =>
    obtain ⟨i, hi, rfl, hL⟩ := hrel
    have HL := Hid.mk hL
    clear HM
    by_cases hlt : i < n
    · have hlt2 : (i : Int) < n := by omega
      have HLT := Hid.mk hlt
      have hib : (i : Int) < 1000 := by omega
      obtain ⟨g, o, rfl, hg, q1, q2⟩ := HST.out.cells i hlt
      have d1 := cell_later hL.bel q1
      have d2 := cell_later hL.bel q2
      have HW := Hid.mk (fun W (hW : LMem w W a 1048576 i (FW i)) => hW.write (by omega) (A i) (V i) (HST.out.al i) (HST.out.vl i))
      have HFWi := Hid.mk (HFW.out i)
      clear q1 q2 hL hg hlt hi
      go_wp2_with fail
      refine (HW.out _ (HL.out.later (below_new _ _))).mono ?_
      rintro e w2 ⟨rfl, hL2⟩
      have HL2 := Hid.mk hL2
      clear hL2 HW d1 d2
      go_wp2
      go_roundw
      case rel => exact ⟨i + 1, by have := HLT.out; omega, by go_num, by rw [HFWi.out]; exact HL2.out⟩
      case measure => have := HLT.out; simp [intOf]; omega
    · have hlt2 : ¬ (i : Int) < n := by omega
      obtain rfl : i = n := by omega
      clear hlt hi hL
      go_wp2
      go_ret2
      exact ⟨a, rfl, HL.out⟩

end Go.Proofs.YtdpcbdbdacjcbaaDoor.TR
