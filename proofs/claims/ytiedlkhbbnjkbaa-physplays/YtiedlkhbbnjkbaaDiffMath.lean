/- The addresses at which two memories part. -/
import Derived.Test.YtiedlkhbbnjkbaaDiffUn
namespace Go.Proofs.Ytiedlkhbbnjkbaa

def dsel (f g : Nat → Nat) (y : Nat) : Bool := f y != g y
/-- .. of a page, from its word i on. -/
def tl (f g : Nat → Nat) (x i : Nat) : List Nat := ((List.range' i (512 - i)).map fun j => x + 8 * j).filter (dsel f g)
/-- .. of pages. -/
def flat (f g : Nat → Nat) (ts : List Nat) : List Nat := ts.flatMap fun x => tl f g x 0
/-- .. of S bytes. -/
def dl (f g : Nat → Nat) (S : Nat) : List Nat := ((List.range (S / 8)).map fun j => 8 * j).filter (dsel f g)

theorem dsel_iff {f g : Nat → Nat} {y : Nat} : dsel f g y = true ↔ f y ≠ g y := by simp [dsel]
theorem tl_end (f g : Nat → Nat) (x : Nat) : tl f g x 512 = [] := rfl
theorem tl_step (f g : Nat → Nat) (x : Nat) {i : Nat} (hi : i < 512) : tl f g x i = if dsel f g (x + 8 * i) then (x + 8 * i) :: tl f g x (i + 1) else tl f g x (i + 1) := by
  unfold tl
  rw [show 512 - i = (512 - (i + 1)) + 1 by omega, List.range'_succ, List.map_cons, List.filter_cons]
theorem tl_yes {f g : Nat → Nat} {x i : Nat} (hi : i < 512) (h : f (x + 8 * i) ≠ g (x + 8 * i)) : tl f g x i = (x + 8 * i) :: tl f g x (i + 1) := by
  rw [tl_step f g x hi, if_pos (dsel_iff.2 h)]
theorem tl_no {f g : Nat → Nat} {x i : Nat} (hi : i < 512) (h : f (x + 8 * i) = g (x + 8 * i)) : tl f g x i = tl f g x (i + 1) := by
  rw [tl_step f g x hi, if_neg (fun c => (dsel_iff.1 c) h)]
theorem flat_cons (f g : Nat → Nat) (x : Nat) (ts : List Nat) : flat f g (x :: ts) = tl f g x 0 ++ flat f g ts := rfl

theorem tl_len (f g : Nat → Nat) (x i : Nat) : (tl f g x i).length ≤ 512 := by
  refine Nat.le_trans (List.length_filter_le _ _) ?_
  simp
theorem flat_len (f g : Nat → Nat) : ∀ ts : List Nat, (flat f g ts).length ≤ 512 * ts.length
  | [] => by simp [flat]
  | x :: ts => by
    rw [flat_cons, List.length_append, List.length_cons]
    have := flat_len f g ts
    have := tl_len f g x 0
    omega

theorem mem_tl {f g : Nat → Nat} {x y : Nat} : y ∈ tl f g x 0 ↔ (∃ i, i < 512 ∧ y = x + 8 * i) ∧ f y ≠ g y := by
  unfold tl
  rw [List.mem_filter, dsel_iff, List.mem_map]
  constructor
  · rintro ⟨⟨i, hi, rfl⟩, h⟩
    rw [List.mem_range'_1] at hi
    exact ⟨⟨i, by omega, rfl⟩, h⟩
  · rintro ⟨⟨i, hi, rfl⟩, h⟩
    exact ⟨⟨i, by rw [List.mem_range'_1]; omega, rfl⟩, h⟩

theorem tl_asc (f g : Nat → Nat) (x : Nat) : (tl f g x 0).Pairwise (fun a b => a < b) := by
  unfold tl
  refine List.Pairwise.filter _ ?_
  rw [List.pairwise_map]
  exact (List.pairwise_lt_range' (s := 0) (n := 512 - 0) (step := 1)).imp fun h => by omega

theorem flat_asc {f g : Nat → Nat} : ∀ {ts : List Nat}, ts.Pairwise (fun a b => a < b) → (∀ x, x ∈ ts → x % 4096 = 0) → (flat f g ts).Pairwise (fun a b => a < b)
  | [], _, _ => List.Pairwise.nil
  | x :: ts, h, hm => by
    rw [flat_cons, List.pairwise_append]
    obtain ⟨h1, h2⟩ := List.pairwise_cons.1 h
    refine ⟨tl_asc f g x, flat_asc h2 (fun y hy => hm y (List.mem_cons_of_mem _ hy)), fun a ha b hb => ?_⟩
    obtain ⟨⟨i, hi, rfl⟩, _⟩ := mem_tl.1 ha
    obtain ⟨z, hz, hbz⟩ := List.mem_flatMap.1 hb
    obtain ⟨⟨j, hj, rfl⟩, _⟩ := mem_tl.1 hbz
    have := h1 z hz
    have := hm x (by simp)
    have := hm z (List.mem_cons_of_mem _ hz)
    omega

theorem asc_eq {l l' : List Nat} (h : l.Pairwise (fun a b => a < b)) (h' : l'.Pairwise (fun a b => a < b)) (hm : ∀ x, x ∈ l ↔ x ∈ l') : l = l' := by
  have n1 : l.Nodup := h.imp fun h => Nat.ne_of_lt h
  have n2 : l'.Nodup := h'.imp fun h => Nat.ne_of_lt h
  exact List.Perm.eq_of_pairwise (le := fun a b => a < b) (fun a b _ _ h1 h2 => by omega) h h' ((List.perm_ext_iff_of_nodup n1 n2).2 hm)

theorem dl_asc (f g : Nat → Nat) (S : Nat) : (dl f g S).Pairwise (fun a b => a < b) := by
  unfold dl
  refine List.Pairwise.filter _ ?_
  rw [List.pairwise_map]
  exact (List.pairwise_lt_range (n := S / 8)).imp fun h => by omega
theorem mem_dl {f g : Nat → Nat} {S : Nat} (hS : S % 8 = 0) (h1 : ∀ x, (x % 8 ≠ 0 ∨ S ≤ x) → f x = 0) (h2 : ∀ x, (x % 8 ≠ 0 ∨ S ≤ x) → g x = 0) {y : Nat} : y ∈ dl f g S ↔ f y ≠ g y := by
  unfold dl
  rw [List.mem_filter, dsel_iff, List.mem_map]
  constructor
  · exact fun h => h.2
  · intro h
    refine ⟨?_, h⟩
    by_cases c : y % 8 = 0 ∧ y < S
    · exact ⟨y / 8, List.mem_range.2 (by omega), by omega⟩
    · exact absurd ((h1 y (by omega)).trans (h2 y (by omega)).symm) h

theorem flat_dl {f g : Nat → Nat} {S : Nat} {ts : List Nat} (hS : S % 8 = 0) (h1 : ∀ x, (x % 8 ≠ 0 ∨ S ≤ x) → f x = 0) (h2 : ∀ x, (x % 8 ≠ 0 ∨ S ≤ x) → g x = 0) (ha : ts.Pairwise (fun a b => a < b)) (hm : ∀ x, x ∈ ts ↔ Unl f g x) : flat f g ts = dl f g S := by
  refine asc_eq (flat_asc ha fun x hx => ((hm x).1 hx).1) (dl_asc f g S) fun y => ?_
  rw [mem_dl hS h1 h2]
  constructor
  · intro h
    obtain ⟨z, _, hz⟩ := List.mem_flatMap.1 h
    exact (mem_tl.1 hz).2
  · intro h
    have h8 : y % 8 = 0 := by
      apply Classical.byContradiction
      intro c
      exact h ((h1 y (Or.inl c)).trans (h2 y (Or.inl c)).symm)
    have e := dn_plc h8
    refine List.mem_flatMap.2 ⟨dn y, (hm _).2 ⟨dn_mod y, plc y, plc_lt y, by rw [e]; exact h⟩, mem_tl.2 ⟨⟨plc y, plc_lt y, e.symm⟩, h⟩⟩
end Go.Proofs.Ytiedlkhbbnjkbaa
