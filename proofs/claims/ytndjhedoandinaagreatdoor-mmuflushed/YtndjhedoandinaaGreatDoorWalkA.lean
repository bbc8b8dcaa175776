/- The walks of package walk, first part: isTable, entry, holds, meaning. -/
import Derived.Test.YtndjhedoandinaaGreatDoorWalkT
namespace Go.Proofs.YtndjhedoandinaaGreatDoor
open Go.RowKit Go.Maps

def isTab (l : Int) (tb : Nat) : Bool := isLv l && alB tb 12

set_option maxHeartbeats 400000 in
theorem isTable_any (l : Int) (tb : Nat) (ht : tb < 18446744073709551616) (w : World) :
    Calls Tryz.prog 138 #[.int .i64 l, .int .u64 tb] w fun e w' => e = .returned (.bool (isTab l tb)) ∧ w = w' := by
  have hA := fun w => aligned_c tb 12 (Or.inr rfl) ht w
  by_cases h1 : 0 ≤ l
  · have d1 : decide (0 ≤ l) = true := decide_eq_true h1
    by_cases h2 : l < 4
    · have d2 : decide (l < 4) = true := decide_eq_true h2
      have HE : Hid (isTab l tb = alB tb 12) := by show isTab l tb = _; unfold isTab isLv; rw [decide_eq_true (by omega)]; rfl
      go_enter Tryz.func138, Tryz.ntmps138
      go_wp2_with (go_at_call 74; refine (hA _).mono ?_; rintro e w' ⟨rfl, rfl⟩)
      go_ret
      exact ⟨by rw [HE.out]; rfl, rfl⟩
    · have d2 : decide (l < 4) = false := decide_eq_false h2
      have HE : Hid (isTab l tb = false) := by show isTab l tb = _; unfold isTab isLv; rw [decide_eq_false (by omega)]; rfl
      go_enter Tryz.func138, Tryz.ntmps138
      go_wp2
      go_ret
      exact ⟨by rw [HE.out]; rfl, rfl⟩
  · have d1 : decide (0 ≤ l) = false := decide_eq_false h1
    have HE : Hid (isTab l tb = false) := by show isTab l tb = _; unfold isTab isLv; rw [decide_eq_false (by omega)]; rfl
    go_enter Tryz.func138, Tryz.ntmps138
    go_wp2
    go_ret
    exact ⟨by rw [HE.out]; rfl, rfl⟩

set_option maxHeartbeats 400000 in
theorem entry_any (tb i : Nat) (hi : i < 512) (ht : tb % 4096 = 0) (hl : tb < 18446744073709551616) (w : World) :
    Calls Tryz.prog 139 #[.int .u64 tb, .int .i64 i] w fun e w' => e = .returned (.int .u64 ((tb + 8 * i : Nat) : Int)) ∧ w = w' := by
  have hb : (tb : Int) + 8 * i < 18446744073709551616 := by omega
  go_enter Tryz.func139, Tryz.ntmps139
  go_wp2
  go_ret
  refine ⟨?_, rfl⟩
  first
    | rfl
    | (congr 2; omega)
    | (congr 2; simp; omega)

/-- Are all bytes of an entry's stretch in memory? -/
def holdsB (S o n : Nat) : Bool := decide (o + 2 ^ n ≤ S)

set_option maxHeartbeats 1000000 in
theorem holds_any {w : World} {a S : Nat} (c0 : w.cell? ⟨a, 0, none⟩ = some (.int .u64 (S : Nat))) (hS : S ≤ 4294967296) (o n : Nat) (ho : o < 18446744073709551616) (hn : n = 12 ∨ n = 21 ∨ n = 30 ∨ n = 39) :
    Calls Tryz.prog 154 #[.pointer (some ⟨a, 0, none⟩), .int .u64 o, .int .i64 n] w fun e w' => e = .returned (.bool (holdsB S o n)) ∧ ∃ m, w' = w.drewN m := by
  by_cases h1 : o ≤ S
  · have d1 : decide ((o : Int) ≤ S) = true := decide_eq_true (by omega)
    have hs : (0 : Int) ≤ (S : Int) - o := by omega
    have HE : Hid (holdsB S o n = decide (((2 ^ n : Nat) : Int) ≤ (S : Int) - o)) := by show holdsB S o n = _; unfold holdsB; rw [decide_eq_decide]; omega
    rcases hn with rfl | rfl | rfl | rfl
    all_goals
      go_enter Tryz.func154, Tryz.ntmps154
      go_wp2
      go_quiet ((refine Calls.quiet_of_same ((size_c (a := a) (S := S) (by exact c0)).mono (fun e w1 hh => ⟨hh.1, hh.2.symm⟩))))
      go_wp2
      go_ret
      exact ⟨by rw [HE.out]; rfl, _, rfl⟩
  · have d1 : decide ((o : Int) ≤ S) = false := decide_eq_false (by omega)
    have HE : Hid (holdsB S o n = false) := by show holdsB S o n = _; unfold holdsB; rw [decide_eq_false_iff_not]; have := Nat.two_pow_pos n; omega
    go_enter Tryz.func154, Tryz.ntmps154
    go_wp2
    go_quiet ((refine Calls.quiet_of_same ((size_c (a := a) (S := S) (by exact c0)).mono (fun e w1 hh => ⟨hh.1, hh.2.symm⟩))))
    go_wp2
    go_ret
    exact ⟨by rw [HE.out]; rfl, _, rfl⟩

/-- Read only reads (and draws). -/
theorem read_q {w : World} {X : Nat → Prop} {a S n : Nat} {f : Nat → Nat} (h : MemAt w X a S n f) (x : Nat) (hx : x < 18446744073709551616) :
    Calls Tryz.prog 24 #[.pointer (some ⟨a, 0, none⟩), .int .u64 x] w fun e w' => e = .returned (.tuple #[.int .u64 (f x : Nat), .int .i64 (errA S x)]) ∧ ∃ m, w' = w.drewN m := by
  obtain ⟨mb, pg, h⟩ := h
  have c0 := h.c0
  have c1 := h.c1
  by_cases he : errA S x = 0
  · have h8 : x % 8 = 0 ∧ x < S := by
      unfold errA at he
      by_cases q : x % 8 = 0
      · rw [if_neg (fun c => c q)] at he
        by_cases q2 : S ≤ x
        · rw [if_pos q2] at he; cases he
        · exact ⟨q, by omega⟩
      · rw [if_pos q] at he; cases he
    have hdl : dn x < 18446744073709551616 := Nat.lt_of_le_of_lt (dn_le x) hx
    cases hpg : pg (dn x) with
    | none =>
      have hlook : ∀ k, (Instr.lookup 133 (.map (some mb)) (.int .u64 ((dn x : Nat) : Int)) false).run Tryz.prog (w.drewN k) = .ok (.pointer none) (w.drewN k) := fun k => by
        have := (h.pgs.block (w' := w.drewN k) (by rfl)).look hdl
        rw [hpg] at this
        exact this
      have HF : Hid (f x = 0) := by
        show f x = 0
        have := h.zero (dn x) (dn_mod x) hpg (plc x) (plc_lt x)
        rwa [dn_plc h8.1] at this
      have hck := check_c x hx c0
      rw [he] at hck
      clear h
      go_enter Tryz.func24, Tryz.ntmps24
      go_wp2_with fail
      refine hck.mono ?_
      rintro e w1 ⟨rfl, rfl⟩
      go_wp2
      go_quiet ((refine Calls.quiet_of_same ((down_c x hx _).mono (fun e w1 hh => ⟨hh.1, hh.2.symm⟩))))
      go_wp2
      go_ret2
      exact ⟨by rw [HF.out, he]; rfl, _, rfl⟩
    | some b =>
      obtain ⟨_, _, _, hrow, _⟩ := h.page _ _ hpg
      have hlook : ∀ k, (Instr.lookup 133 (.map (some mb)) (.int .u64 ((dn x : Nat) : Int)) false).run Tryz.prog (w.drewN k) = .ok (.pointer (some ⟨b, 0, none⟩)) (w.drewN k) := fun k => by
        have := (h.pgs.block (w' := w.drewN k) (by rfl)).look hdl
        rw [hpg] at this
        exact this
      have hcell : w.cell? ⟨b, plc x, none⟩ = some (.int .u64 (f x : Nat)) := by
        rw [cell_of_row _ _ _ _ _ _ hrow, prow_get _ _ (plc_lt x), dn_plc h8.1]
      have hpl := plc_lt x
      have hck := check_c x hx c0
      rw [he] at hck
      clear h hrow
      have hplace := place_c x hx
      generalize plc x = P at hcell hpl hplace
      go_enter Tryz.func24, Tryz.ntmps24
      go_wp2_with fail
      refine hck.mono ?_
      rintro e w1 ⟨rfl, rfl⟩
      go_wp2
      go_quiet ((refine Calls.quiet_of_same ((down_c x hx _).mono (fun e w1 hh => ⟨hh.1, hh.2.symm⟩))))
      go_wp2
      have hcell1 : (w.drewN nq).cell? ⟨b, P, none⟩ = some (.int .u64 (f x : Nat)) := hcell
      have hB : ∃ m, w.drewN nq = w.drewN m := ⟨_, rfl⟩
      clear hlook hcell c0 c1 hck
      generalize w.drewN nq = w1 at *
      go_quiet ((refine Calls.quiet_of_same ((hplace _).mono (fun e w1 hh => ⟨hh.1, hh.2.symm⟩))))
      go_wp2
      go_ret2
      obtain ⟨m, rfl⟩ := hB
      exact ⟨by rw [he]; rfl, _, World.drewN_drewN _ _ _⟩
  · have hz : f x = 0 := by
      apply h.out
      unfold errA at he
      by_cases q : x % 8 = 0
      · rw [if_neg (fun c => c q)] at he
        by_cases q2 : S ≤ x
        · exact Or.inr q2
        · rw [if_neg q2] at he; exact absurd rfl he
      · exact Or.inl q
    have HF : Hid (f x = 0) := hz
    have hck := check_c x hx c0
    clear h hz
    generalize hE : errA S x = E at *
    go_enter Tryz.func24, Tryz.ntmps24
    go_wp2_with fail
    refine hck.mono ?_
    rintro e w1 ⟨rfl, rfl⟩
    go_wp2
    go_ret2
    exact ⟨by rw [HF.out]; rfl, 0, rfl⟩

theorem below_drewN {w w' : World} (h : ∃ m, w' = w.drewN m) : Below w.heap.size w w' := by
  obtain ⟨m, rfl⟩ := h
  exact ⟨rfl, rfl, rfl, Nat.le_refl _, fun _ _ => rfl⟩
end Go.Proofs.YtndjhedoandinaaGreatDoor
