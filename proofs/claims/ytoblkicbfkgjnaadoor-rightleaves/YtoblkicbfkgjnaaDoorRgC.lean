/- Rights, third part: texts that are read. -/
import Derived.Test.YtoblkicbfkgjnaaDoorRgB
namespace Go.Proofs.YtoblkicbfkgjnaaDoor
open Go.RowKit Go.Lib

def bt (s : ByteArray) (k : Nat) : Nat := (s.data.toList.getD k 0).toNat
theorem bt_eq (s : ByteArray) (k : Nat) (h : k < s.size) : bt s k = (s[k]'h).toNat := by
  have hl : k < s.data.toList.length := by simpa using h
  unfold bt
  rw [List.getD_eq_getElem?_getD, List.getElem?_eq_getElem hl]
  simp [ByteArray.getElem_eq_getElem_data]
def sgN (k : Nat) : Nat := [114, 119, 120].getD k 0
def okC (s : ByteArray) (k : Nat) : Bool := decide (bt s k = sgN k) || decide (bt s k = 45)
def pR (s : ByteArray) : Nat → Nat
  | 0 => 0
  | k + 1 => pR s k + (if bt s k = sgN k then 2 ^ k else 0)
def pOk (s : ByteArray) : Bool := decide (s.size = 3) && okC s 0 && okC s 1 && okC s 2
/-- What Parse says. -/
def pV (s : ByteArray) : Int := if pOk s = true then (pR s 3 : Nat) else 0
theorem pR_lt (s : ByteArray) : ∀ k, pR s k < 2 ^ k
  | 0 => by simp [pR]
  | k + 1 => by
    have h := pR_lt s k
    have e : 2 ^ (k + 1) = 2 * 2 ^ k := by rw [Nat.pow_succ]; omega
    unfold pR
    split <;> omega
theorem or_0 : ∀ r : Nat, r < 1 → bits .or .i64 (r : Int) 1 = ((r + 1 : Nat) : Int) := by decide
theorem or_1 : ∀ r : Nat, r < 2 → bits .or .i64 (r : Int) 2 = ((r + 2 : Nat) : Int) := by decide
theorem or_2 : ∀ r : Nat, r < 4 → bits .or .i64 (r : Int) 4 = ((r + 4 : Nat) : Int) := by decide
theorem pR_yes (s : ByteArray) (k : Nat) (h : bt s k = sgN k) : pR s (k + 1) = pR s k + 2 ^ k := by rw [pR, if_pos h]
theorem pR_no (s : ByteArray) (k : Nat) (h : ¬ bt s k = sgN k) : pR s (k + 1) = pR s k := by rw [pR, if_neg h, Nat.add_zero]

structure PaR (s : ByteArray) (w : World) (k : Nat) (wr : World) : Prop where
  ok : ∀ i, i < k → okC s i = true
  it : wr.heap[w.heap.size]? = some (.stringIter SG k)
  bel : Below w.heap.size w wr
theorem PaR.step {s : ByteArray} {w wr : World} {k : Nat} (h : PaR s w k wr) (hk : okC s k = true) : PaR s w (k + 1) (wr.iterAt w.heap.size SG (k + 1)) := by
  refine ⟨fun i hi => ?_, iterAt_heap _ _ _ _ _ h.it, below_iterAt h.bel (Nat.le_refl _) _ _⟩
  by_cases e : i = k
  · rw [e]; exact hk
  · exact h.ok i (by omega)

set_option maxHeartbeats 2000000 in
set_option maxRecDepth 100000 in
theorem parse_any (s : ByteArray) (w : World) :
    Calls Tryd.prog 14 #[.string s] w fun e w' => e = .returned (.tuple #[.int .i64 (pV s), .bool (pOk s)]) ∧ Below w.heap.size w w' := by
  by_cases h3 : s.size = 3
  rotate_left
  · have e1 : pOk s = false := by unfold pOk; rw [decide_eq_false h3]; rfl
    have e2 : pV s = 0 := by unfold pV; rw [e1]; rfl
    rw [e1, e2]
    have hne : ((s.size : Int) != 3) = true := by rw [bne_iff_ne]; omega
    clear e1 e2 h3
    go_enter Tryd.func14, Tryd.ntmps14
    go_wp2
    go_ret2
    exact ⟨rfl, Below.refl _ _⟩
  have hne : ((s.size : Int) != 3) = false := by rw [h3]; rfl
  go_enter Tryd.func14, Tryd.ntmps14
  go_wp2
  go_loopw [4] (fun v wr => ∃ k : Nat, k ≤ 3 ∧ v = .int .i64 ((pR s k : Nat) : Int) ∧ PaR s w k wr) (fun _ wr => 3 - wr.iterPos w.heap.size)
  case atStart =>
    exact ⟨0, by omega, rfl, fun i hi => absurd hi (by omega), heap_alloc_new _ _, below_new _ _⟩
  case round =>
    obtain ⟨k, hk, rfl, hR⟩ := hrel
    have hit := hR.it
    by_cases e3 : k = 3
    · subst e3
      have hnx : ∀ ty, (Instr.next (.pointer (some ⟨w.heap.size, 0, none⟩)) true ty).run Tryd.prog wr = .ok (.tuple #[.bool false]) wr := fun ty => run_next_end_at wr w.heap.size SG 3 ty hit (by decide)
      have e1 : pOk s = true := by unfold pOk; rw [decide_eq_true h3, hR.ok 0 (by omega), hR.ok 1 (by omega), hR.ok 2 (by omega)]; rfl
      have HE : Hid (pV s = (pR s 3 : Nat) ∧ pOk s = true) := ⟨by unfold pV; rw [if_pos e1], e1⟩
      have HB := Hid.mk hR.bel
      clear hit hR e1 h3
      go_wp2
      go_ret2
      exact ⟨by rw [HE.out.1, HE.out.2]; rfl, HB.out⟩
    rcases (show k = 0 ∨ k = 1 ∨ k = 2 by omega) with rfl | rfl | rfl
    · have hnx : ∀ ty, (Instr.next (.pointer (some ⟨w.heap.size, 0, none⟩)) true ty).run Tryd.prog wr = .ok (.tuple #[.bool true, .int .i64 0, .int .i32 114]) (wr.iterAt w.heap.size SG 1) := fun ty => run_next_ascii_at wr w.heap.size SG 0 ty hit (by decide) (by decide)
      have hlt : 0 < s.size := by omega
      have hlz : (0 : Int) < (s.size : Int) := by omega
      have hb256 : (s[0]'hlt).toNat < 256 := UInt8.toNat_lt _
      have hw32 : wrap32 ((s[0]'hlt).toNat : Int) = ((s[0]'hlt).toNat : Int) := by unfold wrap32; omega
      have hpl := pR_lt s 0
      have hbt := bt_eq s 0 hlt
      by_cases hc : bt s 0 = 114
      · have d1 : (((s[0]'hlt).toNat : Int) == 114) = true := by rw [beq_iff_eq]; omega
        have HS := Hid.mk (hR.step (by unfold okC; rw [decide_eq_true (show bt s 0 = sgN 0 from hc)]; rfl))
        have HP := Hid.mk (pR_yes s 0 hc)
        have HO := Hid.mk (or_0 (pR s 0) hpl)
        clear hbt hc hit
        go_wp2
        go_roundw
        case rel => exact ⟨1, by omega, by rw [HP.out, HO.out], HS.out⟩
        case measure => simp only [World.iterPos, HS.out.it, hR.it]; omega
      by_cases hd : bt s 0 = 45
      · have d1 : (((s[0]'hlt).toNat : Int) == 114) = false := by rw [beq_eq_false_iff_ne]; omega
        have d2 : (((s[0]'hlt).toNat : Int) == 45) = true := by rw [beq_iff_eq]; omega
        have HS := Hid.mk (hR.step (by unfold okC; rw [decide_eq_true hd, Bool.or_true]))
        have HP := Hid.mk (pR_no s 0 hc)
        clear hbt hc hit hd
        go_wp2
        go_roundw
        case rel => exact ⟨1, by omega, by rw [HP.out], HS.out⟩
        case measure => simp only [World.iterPos, HS.out.it, hR.it]; omega
      · have d1 : (((s[0]'hlt).toNat : Int) == 114) = false := by rw [beq_eq_false_iff_ne]; omega
        have d2 : (((s[0]'hlt).toNat : Int) == 45) = false := by rw [beq_eq_false_iff_ne]; omega
        have e0 : okC s 0 = false := by unfold okC; rw [decide_eq_false (show ¬ bt s 0 = sgN 0 from hc), decide_eq_false hd]; rfl
        have e1 : pOk s = false := by unfold pOk; rw [e0]; simp
        have HE : Hid (pV s = 0 ∧ pOk s = false) := ⟨by unfold pV; rw [e1]; rfl, e1⟩
        have HB := Hid.mk (below_iterAt hR.bel (Nat.le_refl _) SG 1)
        clear hbt hc hit hd e0 e1 hR
        go_wp2
        go_ret2
        exact ⟨by rw [HE.out.1, HE.out.2]; rfl, HB.out⟩
    · have hnx : ∀ ty, (Instr.next (.pointer (some ⟨w.heap.size, 0, none⟩)) true ty).run Tryd.prog wr = .ok (.tuple #[.bool true, .int .i64 1, .int .i32 119]) (wr.iterAt w.heap.size SG 2) := fun ty => run_next_ascii_at wr w.heap.size SG 1 ty hit (by decide) (by decide)
      have hlt : 1 < s.size := by omega
      have hlz : (1 : Int) < (s.size : Int) := by omega
      have hb256 : (s[1]'hlt).toNat < 256 := UInt8.toNat_lt _
      have hw32 : wrap32 ((s[1]'hlt).toNat : Int) = ((s[1]'hlt).toNat : Int) := by unfold wrap32; omega
      have hpl := pR_lt s 1
      have hbt := bt_eq s 1 hlt
      by_cases hc : bt s 1 = 119
      · have d1 : (((s[1]'hlt).toNat : Int) == 119) = true := by rw [beq_iff_eq]; omega
        have HS := Hid.mk (hR.step (by unfold okC; rw [decide_eq_true (show bt s 1 = sgN 1 from hc)]; rfl))
        have HP := Hid.mk (pR_yes s 1 hc)
        have HO := Hid.mk (or_1 (pR s 1) hpl)
        clear hbt hc hit
        go_wp2
        go_roundw
        case rel => exact ⟨2, by omega, by rw [HP.out, HO.out], HS.out⟩
        case measure => simp only [World.iterPos, HS.out.it, hR.it]; omega
      by_cases hd : bt s 1 = 45
      · have d1 : (((s[1]'hlt).toNat : Int) == 119) = false := by rw [beq_eq_false_iff_ne]; omega
        have d2 : (((s[1]'hlt).toNat : Int) == 45) = true := by rw [beq_iff_eq]; omega
        have HS := Hid.mk (hR.step (by unfold okC; rw [decide_eq_true hd, Bool.or_true]))
        have HP := Hid.mk (pR_no s 1 hc)
        clear hbt hc hit hd
        go_wp2
        go_roundw
        case rel => exact ⟨2, by omega, by rw [HP.out], HS.out⟩
        case measure => simp only [World.iterPos, HS.out.it, hR.it]; omega
      · have d1 : (((s[1]'hlt).toNat : Int) == 119) = false := by rw [beq_eq_false_iff_ne]; omega
        have d2 : (((s[1]'hlt).toNat : Int) == 45) = false := by rw [beq_eq_false_iff_ne]; omega
        have e0 : okC s 1 = false := by unfold okC; rw [decide_eq_false (show ¬ bt s 1 = sgN 1 from hc), decide_eq_false hd]; rfl
        have e1 : pOk s = false := by unfold pOk; rw [e0]; simp
        have HE : Hid (pV s = 0 ∧ pOk s = false) := ⟨by unfold pV; rw [e1]; rfl, e1⟩
        have HB := Hid.mk (below_iterAt hR.bel (Nat.le_refl _) SG 2)
        clear hbt hc hit hd e0 e1 hR
        go_wp2
        go_ret2
        exact ⟨by rw [HE.out.1, HE.out.2]; rfl, HB.out⟩
    · have hnx : ∀ ty, (Instr.next (.pointer (some ⟨w.heap.size, 0, none⟩)) true ty).run Tryd.prog wr = .ok (.tuple #[.bool true, .int .i64 2, .int .i32 120]) (wr.iterAt w.heap.size SG 3) := fun ty => run_next_ascii_at wr w.heap.size SG 2 ty hit (by decide) (by decide)
      have hlt : 2 < s.size := by omega
      have hlz : (2 : Int) < (s.size : Int) := by omega
      have hb256 : (s[2]'hlt).toNat < 256 := UInt8.toNat_lt _
      have hw32 : wrap32 ((s[2]'hlt).toNat : Int) = ((s[2]'hlt).toNat : Int) := by unfold wrap32; omega
      have hpl := pR_lt s 2
      have hbt := bt_eq s 2 hlt
      by_cases hc : bt s 2 = 120
      · have d1 : (((s[2]'hlt).toNat : Int) == 120) = true := by rw [beq_iff_eq]; omega
        have HS := Hid.mk (hR.step (by unfold okC; rw [decide_eq_true (show bt s 2 = sgN 2 from hc)]; rfl))
        have HP := Hid.mk (pR_yes s 2 hc)
        have HO := Hid.mk (or_2 (pR s 2) hpl)
        clear hbt hc hit
        go_wp2
        go_roundw
        case rel => exact ⟨3, by omega, by rw [HP.out, HO.out], HS.out⟩
        case measure => simp only [World.iterPos, HS.out.it, hR.it]; omega
      by_cases hd : bt s 2 = 45
      · have d1 : (((s[2]'hlt).toNat : Int) == 120) = false := by rw [beq_eq_false_iff_ne]; omega
        have d2 : (((s[2]'hlt).toNat : Int) == 45) = true := by rw [beq_iff_eq]; omega
        have HS := Hid.mk (hR.step (by unfold okC; rw [decide_eq_true hd, Bool.or_true]))
        have HP := Hid.mk (pR_no s 2 hc)
        clear hbt hc hit hd
        go_wp2
        go_roundw
        case rel => exact ⟨3, by omega, by rw [HP.out], HS.out⟩
        case measure => simp only [World.iterPos, HS.out.it, hR.it]; omega
      · have d1 : (((s[2]'hlt).toNat : Int) == 120) = false := by rw [beq_eq_false_iff_ne]; omega
        have d2 : (((s[2]'hlt).toNat : Int) == 45) = false := by rw [beq_eq_false_iff_ne]; omega
        have e0 : okC s 2 = false := by unfold okC; rw [decide_eq_false (show ¬ bt s 2 = sgN 2 from hc), decide_eq_false hd]; rfl
        have e1 : pOk s = false := by unfold pOk; rw [e0]; simp
        have HE : Hid (pV s = 0 ∧ pOk s = false) := ⟨by unfold pV; rw [e1]; rfl, e1⟩
        have HB := Hid.mk (below_iterAt hR.bel (Nat.le_refl _) SG 3)
        clear hbt hc hit hd e0 e1 hR
        go_wp2
        go_ret2
        exact ⟨by rw [HE.out.1, HE.out.2]; rfl, HB.out⟩
end Go.Proofs.YtoblkicbfkgjnaaDoor
