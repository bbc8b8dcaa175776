/- New, Read, Size. -/
import Derived.Test.YtcmndefjmhcbhaaDoorPhysMem
namespace Go.Proofs.YtcmndefjmhcbhaaDoor
open Go.RowKit Go.Maps

theorem new_bad (S : Nat) (hS : S < 18446744073709551616) (hb : ¬ (65536 ≤ S ∧ S ≤ 4294967296 ∧ S % 4096 = 0)) (w : World) :
    Calls Tryd.prog 22 #[.int .u64 S] w fun e w' => e = .returned (.tuple #[.pointer none, .int .i64 11]) ∧ w = w' := by
  by_cases h1 : S < 65536
  · have d1 : decide ((S : Int) < 65536) = true := decide_eq_true (by omega)
    clear hb
    go_enter Tryd.func22, Tryd.ntmps22
    go_wp2
    go_ret2
    exact ⟨rfl, rfl⟩
  · have d1 : decide ((S : Int) < 65536) = false := decide_eq_false (by omega)
    by_cases h2 : 4294967296 < S
    · have d2 : decide ((4294967296 : Int) < S) = true := decide_eq_true (by omega)
      clear hb h1 h2
      go_enter Tryd.func22, Tryd.ntmps22
      go_wp2
      go_ret2
      exact ⟨rfl, rfl⟩
    · have d2 : decide ((4294967296 : Int) < S) = false := decide_eq_false (by omega)
      have hal : alB S 12 = false := decide_eq_false fun h => hb ⟨by omega, by omega, h⟩
      clear hb h1 h2
      go_enter Tryd.func22, Tryd.ntmps22
      go_wp2_with fail
      refine (aligned_c S 12 (Or.inr rfl) hS w).mono ?_
      rintro e w1 ⟨rfl, rfl⟩
      rw [hal]
      go_wp2
      go_ret2
      exact ⟨rfl, rfl⟩

theorem new_ok (S : Nat) (hb : 65536 ≤ S ∧ S ≤ 4294967296 ∧ S % 4096 = 0) (w : World) :
    Calls Tryd.prog 22 #[.int .u64 S] w fun e w' => ∃ a, e = .returned (.tuple #[.pointer (some ⟨a, 0, none⟩), .int .i64 0]) ∧ MemAt w' (fun i => w.heap.size ≤ i ∧ i < w'.heap.size) a S 0 (fun _ => 0) ∧ Below w.heap.size w w' := by
  have HB : Hid (65536 ≤ S ∧ S ≤ 4294967296 ∧ S % 4096 = 0) := hb
  have d1 : decide ((S : Int) < 65536) = false := decide_eq_false (by omega)
  have d2 : decide ((4294967296 : Int) < S) = false := decide_eq_false (by omega)
  have hal : alB S 12 = true := decide_eq_true hb.2.2
  have hS : S < 18446744073709551616 := by omega
  clear hb
  have hmm := @run_makeMap Tryd.prog
  go_enter Tryd.func22, Tryd.ntmps22
  go_wp2_with fail
  refine (aligned_c S 12 (Or.inr rfl) hS w).mono ?_
  rintro e w1 ⟨rfl, rfl⟩
  rw [hal]
  go_wp2
  go_ret2
  refine ⟨w.heap.size + 1, rfl, ⟨w.heap.size, fun _ => none, ?_, ?_, ?_, ?_, ?_, HB.out, ?_, ?_, ?_, ?_, ?_⟩, ((Below.refl _ _).alloc (Nat.le_refl _) _).alloc (by simp) _⟩
  · have := heap_alloc_new (w.alloc (.map #[] 0)) (.cells #[.int .u64 (S : Nat), .map (some w.heap.size)] 81)
    simpa using this
  · refine (Pages.made w).block ?_
    exact Below.heap_alloc _ _ _ (by simp)
  · simp
  · simp; omega
  · intro i hi; exact hi.2
  · intro x b e; cases e
  · intro x y b e; cases e
  · intros; rfl
  · intro x; decide
  · intros; rfl

theorem size_c {w : World} {a S : Nat} (c0 : w.cell? ⟨a, 0, none⟩ = some (.int .u64 (S : Nat))) :
    Calls Tryd.prog 66 #[.pointer (some ⟨a, 0, none⟩)] w fun e w' => e = .returned (.int .u64 (S : Nat)) ∧ w = w' := by
  go_enter Tryd.func66, Tryd.ntmps66
  go_wp2
  go_ret
  exact ⟨rfl, rfl⟩

theorem read_c {w : World} {X : Nat → Prop} {a S n : Nat} {f : Nat → Nat} (h : MemAt w X a S n f) (x : Nat) (hx : x < 18446744073709551616) :
    Calls Tryd.prog 18 #[.pointer (some ⟨a, 0, none⟩), .int .u64 x] w fun e w' => e = .returned (.tuple #[.int .u64 (f x : Nat), .int .i64 (errA S x)]) ∧ Below w.heap.size w w' := by
  obtain ⟨mb, pg, h⟩ := h
  have c0 := h.c0
  have c1 := h.c1
  by_cases he : errA S x = 0
  · have h8 : x % 8 = 0 ∧ x < S := by
      unfold errA at he
      by_cases q : x % 8 = 0
      · rw [if_neg (fun c => c q)] at he
        by_cases q2 : S ≤ x
        · rw [if_pos q2] at he; cases he
        · exact ⟨q, by omega⟩
      · rw [if_pos q] at he; cases he
    have hdl : dn x < 18446744073709551616 := Nat.lt_of_le_of_lt (dn_le x) hx
    cases hpg : pg (dn x) with
    | none =>
      have hlook : ∀ k, (Instr.lookup 79 (.map (some mb)) (.int .u64 ((dn x : Nat) : Int)) false).run Tryd.prog (w.drewN k) = .ok (.pointer none) (w.drewN k) := fun k => by
        have := (h.pgs.block (w' := w.drewN k) (by rfl)).look hdl
        rw [hpg] at this
        exact this
      have HF : Hid (f x = 0) := by
        show f x = 0
        have := h.zero (dn x) (dn_mod x) hpg (plc x) (plc_lt x)
        rwa [dn_plc h8.1] at this
      have hck := check_c x hx c0
      rw [he] at hck
      clear h
      go_enter Tryd.func18, Tryd.ntmps18
      go_wp2_with fail
      refine hck.mono ?_
      rintro e w1 ⟨rfl, rfl⟩
      go_wp2
      go_quiet ((refine Calls.quiet_of_same ((down_c x hx _).mono (fun e w1 hh => ⟨hh.1, hh.2.symm⟩))))
      go_wp2
      go_ret2
      exact ⟨by rw [HF.out, he]; rfl, ⟨rfl, rfl, rfl, Nat.le_refl _, fun _ _ => rfl⟩⟩
    | some b =>
      obtain ⟨_, _, _, hrow, _⟩ := h.page _ _ hpg
      have hlook : ∀ k, (Instr.lookup 79 (.map (some mb)) (.int .u64 ((dn x : Nat) : Int)) false).run Tryd.prog (w.drewN k) = .ok (.pointer (some ⟨b, 0, none⟩)) (w.drewN k) := fun k => by
        have := (h.pgs.block (w' := w.drewN k) (by rfl)).look hdl
        rw [hpg] at this
        exact this
      have hcell : w.cell? ⟨b, plc x, none⟩ = some (.int .u64 (f x : Nat)) := by
        rw [cell_of_row _ _ _ _ _ _ hrow, prow_get _ _ (plc_lt x), dn_plc h8.1]
      have hpl := plc_lt x
      have hck := check_c x hx c0
      rw [he] at hck
      clear h hrow
      have hplace := place_c x hx
      generalize plc x = P at hcell hpl hplace
      go_enter Tryd.func18, Tryd.ntmps18
      go_wp2_with fail
      refine hck.mono ?_
      rintro e w1 ⟨rfl, rfl⟩
      go_wp2
      go_quiet ((refine Calls.quiet_of_same ((down_c x hx _).mono (fun e w1 hh => ⟨hh.1, hh.2.symm⟩))))
      go_wp2
      have hcell1 : (w.drewN nq).cell? ⟨b, P, none⟩ = some (.int .u64 (f x : Nat)) := hcell
      have hB : Below w.heap.size w (w.drewN nq) := ⟨rfl, rfl, rfl, Nat.le_refl _, fun _ _ => rfl⟩
      clear hlook hcell c0 c1 hck
      generalize w.drewN nq = w1 at *
      go_quiet ((refine Calls.quiet_of_same ((hplace _).mono (fun e w1 hh => ⟨hh.1, hh.2.symm⟩))))
      go_wp2
      go_ret2
      exact ⟨by rw [he]; rfl, hB.trans ⟨rfl, rfl, rfl, Nat.le_refl _, fun _ _ => rfl⟩⟩
  · have hz : f x = 0 := by
      apply h.out
      unfold errA at he
      by_cases q : x % 8 = 0
      · rw [if_neg (fun c => c q)] at he
        by_cases q2 : S ≤ x
        · exact Or.inr q2
        · rw [if_neg q2] at he; exact absurd rfl he
      · exact Or.inl q
    have HF : Hid (f x = 0) := hz
    have hck := check_c x hx c0
    clear h hz
    generalize hE : errA S x = E at *
    go_enter Tryd.func18, Tryd.ntmps18
    go_wp2_with fail
    refine hck.mono ?_
    rintro e w1 ⟨rfl, rfl⟩
    go_wp2
    go_ret2
    exact ⟨by rw [HF.out]; rfl, Below.refl _ _⟩
end Go.Proofs.YtcmndefjmhcbhaaDoor
