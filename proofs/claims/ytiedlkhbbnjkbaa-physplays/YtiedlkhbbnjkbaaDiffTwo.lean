/- Two memories and a slice beside them. -/
import Derived.Test.YtiedlkhbbnjkbaaPhysTwo
import Derived.Test.YtiedlkhbbnjkbaaDiffer0
namespace Go.Proofs.Ytiedlkhbbnjkbaa
open Go.RowKit Go.Maps

/-- Two memories that are new since w and have nothing in common with each other, nor with the blocks P, which are as in w0. -/
def TwoF (w w0 : World) (P : Nat → Prop) (wr : World) (a S n : Nat) (f : Nat → Nat) (b T m : Nat) (g : Nat → Nat) : Prop :=
  (∃ X Y, MemAt wr X a S n f ∧ MemAt wr Y b T m g ∧ (∀ i, X i → ¬ Y i) ∧ (∀ i, X i → w.heap.size ≤ i) ∧ (∀ i, Y i → w.heap.size ≤ i) ∧ ∀ i, P i → ¬ X i ∧ ¬ Y i ∧ i < wr.heap.size ∧ wr.heap[i]? = w0.heap[i]?) ∧ Below w.heap.size w wr

section
variable {w w0 wr w' : World} {P : Nat → Prop} {a S n b T m : Nat} {f g : Nat → Nat}

theorem TwoF.two (h : TwoF w w0 P wr a S n f b T m g) : Two w wr a S n f b T m g := by
  obtain ⟨⟨X, Y, h1, h2, h3, h4, h5, _⟩, hB⟩ := h
  exact ⟨⟨X, Y, h1, h2, h3, h4, h5⟩, hB⟩
theorem TwoF.bel (h : TwoF w w0 P wr a S n f b T m g) : Below w.heap.size w wr := h.2
theorem TwoF.swap (h : TwoF w w0 P wr a S n f b T m g) : TwoF w w0 P wr b T m g a S n f := by
  obtain ⟨⟨X, Y, h1, h2, h3, h4, h5, h6⟩, hB⟩ := h
  exact ⟨⟨Y, X, h2, h1, fun i hy hx => h3 i hx hy, h5, h4, fun i hi => ⟨(h6 i hi).2.1, (h6 i hi).1, (h6 i hi).2.2⟩⟩, hB⟩
theorem TwoF.later (h : TwoF w w0 P wr a S n f b T m g) (hb : Below wr.heap.size wr w') : TwoF w w0 P w' a S n f b T m g := by
  obtain ⟨⟨X, Y, h1, h2, h3, h4, h5, h6⟩, hB⟩ := h
  exact ⟨⟨X, Y, h1.below hb, h2.below hb, h3, h4, h5, fun i hi => ⟨(h6 i hi).1, (h6 i hi).2.1, Nat.lt_of_lt_of_le (h6 i hi).2.2.1 hb.size, (hb.block i (h6 i hi).2.2.1).trans (h6 i hi).2.2.2⟩⟩, below_tr hB hb⟩
theorem Two.with (h : Two w wr a S n f b T m g) (hb : Below wr.heap.size wr w') : TwoF w w' (fun i => wr.heap.size ≤ i ∧ i < w'.heap.size) w' a S n f b T m g := by
  obtain ⟨⟨X, Y, h1, h2, h3, h4, h5⟩, hB⟩ := h
  exact ⟨⟨X, Y, h1.below hb, h2.below hb, h3, h4, h5, fun i hi => ⟨fun hx => by have := h1.lt i hx; omega, fun hy => by have := h2.lt i hy; omega, hi.2, rfl⟩⟩, below_tr hB hb⟩
theorem TwoF.read (h : TwoF w w0 P wr a S n f b T m g) (x : Nat) (hx : x < 18446744073709551616) :
    Calls Try.prog 13 #[.pointer (some ⟨a, 0, none⟩), .int .u64 x] wr fun e w' => e = .returned (.tuple #[.int .u64 (f x : Nat), .int .i64 (errA S x)]) ∧ TwoF w w0 P w' a S n f b T m g := by
  have h0 := h
  obtain ⟨⟨X, Y, h1, h2, h3, h4, h5, h6⟩, hB⟩ := h
  exact (read_c h1 x hx).mono fun e w' hh => ⟨hh.1, h0.later hh.2⟩
theorem TwoF.write (h : TwoF w w0 P wr a S n f b T m g) (hn : n < 100000000) (x v : Nat) (hx : x < 18446744073709551616) (hv : v < 18446744073709551616) :
    Calls Try.prog 12 #[.pointer (some ⟨a, 0, none⟩), .int .u64 x, .int .u64 v] wr fun e w' => e = .returned (.int .i64 (errA S x)) ∧ TwoF w w0 P w' a S (n + 1) (wrF f S x v) b T m g := by
  obtain ⟨⟨X, Y, h1, h2, h3, h4, h5, h6⟩, hB⟩ := h
  refine (write_c h1 hn x v hx hv).mono fun e w' hh => ⟨hh.1, ⟨Gr X wr w', Y, hh.2.1, h2.turn hh.2.2 (fun i hy hx => h3 i hx hy), fun i hi hy => ?_, fun i hi => ?_, h5, fun i hi => ?_⟩, hB.trans (hh.2.2.below h4 hB.size)⟩
  · rcases hi with hi | hi
    · exact h3 i hi hy
    · have := h2.lt i hy; omega
  · rcases hi with hi | hi
    · exact h4 i hi
    · exact Nat.le_trans hB.size hi.1
  · obtain ⟨q1, q2, q3, q4⟩ := h6 i hi
    refine ⟨fun hx => ?_, q2, Nat.lt_of_lt_of_le q3 hh.2.2.size, (hh.2.2.block i q3 q1).trans q4⟩
    rcases hx with hx | hx
    · exact q1 hx
    · omega
theorem Two.differ (h : Two w wr a S n f b S m g) (hn : n + m < 100000) (most : Int) (hm0 : -9223372036854775808 ≤ most) (hm1 : most < 9223372036854775808) :
    Calls Try.prog 20 #[.pointer (some ⟨a, 0, none⟩), .pointer (some ⟨b, 0, none⟩), .int .i64 most] wr fun e w' => ∃ v, e = .returned v ∧ Wsl w' wr.heap.size v ((dl f g S).take most.toNat) ∧ Below wr.heap.size wr w' := by
  obtain ⟨⟨X, Y, h1, h2, _⟩, _⟩ := h
  exact differ_c h1 h2 hn most hm0 hm1
theorem Two.outs (h : Two w wr a S n f b T m g) : (∀ x, (x % 8 ≠ 0 ∨ S ≤ x) → f x = 0) ∧ (∀ x, (x % 8 ≠ 0 ∨ T ≤ x) → g x = 0) ∧ (∀ x, f x < 18446744073709551616) ∧ ∀ x, g x < 18446744073709551616 := by
  obtain ⟨⟨X, Y, ⟨_, _, h1⟩, ⟨_, _, h2⟩, _⟩, _⟩ := h
  exact ⟨h1.out, h2.out, h1.fl, h2.fl⟩
theorem TwoF.cell (h : TwoF w w0 P wr a S n f b T m g) {i : Nat} (hi : P i) (j : Nat) : wr.cell? ⟨i, j, none⟩ = w0.cell? ⟨i, j, none⟩ := by
  obtain ⟨⟨X, Y, h1, h2, h3, h4, h5, h6⟩, hB⟩ := h
  exact World.cell?_of_block (a := ⟨i, j, none⟩) (h6 i hi).2.2.2
/-- The slice's words as they are in wr. -/
theorem TwoF.wsl (h : TwoF w w0 P wr a S n f b T m g) {lo : Nat} {v : Value} {ts : List Nat} (hw : Wsl w0 lo v ts) (hP : ∀ i, lo ≤ i → i < w0.heap.size → P i) : Wsl wr lo v ts := by
  obtain ⟨⟨X, Y, h1, h2, h3, h4, h5, h6⟩, hB⟩ := h
  rcases hw with hw | ⟨g, cap, q1, q2, q3, q4⟩
  · exact Or.inl hw
  · obtain ⟨_, _, r1, r2⟩ := h6 g (hP g q2 q3)
    exact Or.inr ⟨g, cap, q1, q2, r1, fun j hj => (World.cell?_of_block (a := ⟨g, j, none⟩) r2).trans (q4 j hj)⟩
end

theorem Wsl.form {w : World} {lo : Nat} {v : Value} {ts : List Nat} (h : Wsl w lo v ts) : ∃ p cap, v = .slice p ts.length cap ∧ ∀ j, j < ts.length → ∃ g, p = some ⟨g, 0, none⟩ ∧ w.cell? ⟨g, j, none⟩ = some (.int .u64 (ts[j]! : Nat)) := by
  rcases h with ⟨rfl, rfl⟩ | ⟨g, cap, rfl, h2, h3, h4⟩
  · exact ⟨none, 0, rfl, fun j hj => by cases hj⟩
  · exact ⟨_, cap, rfl, fun j hj => ⟨g, rfl, h4 j hj⟩⟩

theorem Wsl.at {w : World} {lo : Nat} {p : Option Addr} {L cap : Nat} {ts : List Nat} (h : Wsl w lo (.slice p L cap) ts) (j : Nat) (hj : j < ts.length) : ∃ g, p = some ⟨g, 0, none⟩ ∧ w.cell? ⟨g, j, none⟩ = some (.int .u64 (ts[j]! : Nat)) := by
  rcases h with ⟨_, rfl⟩ | ⟨g, cap, h1, h2, h3, h4⟩
  · cases hj
  · cases h1
    exact ⟨g, rfl, h4 j hj⟩

/-- The words behind k writes on top of f. -/
def fX (f : Nat → Nat) (S : Nat) (A V : Nat → Nat) : Nat → Nat → Nat
  | 0 => f
  | k + 1 => wrF (fX f S A V k) S (A k) (V k)
theorem fX_succ (f : Nat → Nat) (S : Nat) (A V : Nat → Nat) (k : Nat) : fX f S A V (k + 1) = wrF (fX f S A V k) S (A k) (V k) := rfl
theorem fX_off {f : Nat → Nat} {S : Nat} {A V : Nat → Nat} : ∀ {n y : Nat}, fX f S A V n y ≠ f y → ∃ j, j < n ∧ A j = y
  | 0, y, h => absurd rfl h
  | n + 1, y, h => by
    by_cases e : y = A n
    · exact ⟨n, by omega, e.symm⟩
    · have : fX f S A V (n + 1) y = fX f S A V n y := by
        rw [fX_succ]
        unfold wrF
        by_cases he : errA S (A n) = 0
        · rw [if_pos he]; unfold updF; rw [if_neg e]
        · rw [if_neg he]
      rw [this] at h
      obtain ⟨j, h1, h2⟩ := fX_off h
      exact ⟨j, by omega, h2⟩

theorem nodup_le : ∀ {l l' : List Nat}, l.Nodup → (∀ y, y ∈ l → y ∈ l') → l.length ≤ l'.length
  | [], l', _, _ => Nat.zero_le _
  | a :: l, l', hd, hs => by
    obtain ⟨h1, h2⟩ := List.nodup_cons.1 hd
    have ha : a ∈ l' := hs a (by simp)
    have hlen : (l'.erase a).length + 1 = l'.length := by
      have := List.length_erase_of_mem ha
      have h0 : 0 < l'.length := List.length_pos_of_mem ha
      omega
    have := nodup_le h2 (l' := l'.erase a) (fun y hy => (List.mem_erase_of_ne (fun c => by rw [c] at hy; exact h1 hy)).2 (hs y (List.mem_cons_of_mem _ hy)))
    simp; omega

theorem dl_len {f g : Nat → Nat} {S N : Nat} {A : Nat → Nat} (h : ∀ y, f y ≠ g y → ∃ j, j < N ∧ A j = y) : (dl f g S).length ≤ N := by
  have hnd : (dl f g S).Nodup := (dl_asc f g S).imp fun h => Nat.ne_of_lt h
  have := nodup_le hnd (l' := (List.range N).map A) (fun y hy => by
    have hy2 : f y ≠ g y := by
      unfold dl at hy
      exact dsel_iff.1 (List.mem_filter.1 hy).2
    obtain ⟨j, h1, h2⟩ := h y hy2
    exact List.mem_map.2 ⟨j, List.mem_range.2 h1, h2⟩)
  simpa using this

theorem dl_self (g : Nat → Nat) (S : Nat) : dl g g S = [] := by
  unfold dl
  rw [List.filter_eq_nil_iff]
  intro y _
  simp [dsel]

/-- f with g's words at the first i of the addresses at which they part. -/
def fI (f g : Nat → Nat) (ds : List Nat) (i : Nat) : Nat → Nat := fun y => if y ∈ ds.take i then g y else f y

theorem fI_zero (f g : Nat → Nat) (ds : List Nat) : fI f g ds 0 = f := by funext y; simp [fI]
theorem fI_end {f g : Nat → Nat} {ds : List Nat} (hm : ∀ y, y ∈ ds ↔ f y ≠ g y) {i : Nat} (hi : ds.length ≤ i) : fI f g ds i = g := by
  funext y
  unfold fI
  rw [List.take_of_length_le hi]
  by_cases h : y ∈ ds
  · rw [if_pos h]
  · rw [if_neg h]
    apply Classical.byContradiction
    intro c
    exact h ((hm y).2 c)
theorem asc_notin {ds : List Nat} (ha : ds.Pairwise (fun x y => x < y)) {i : Nat} (hi : i < ds.length) : ds[i]! ∉ ds.take i := by
  intro hm
  obtain ⟨j, hj, he⟩ := List.getElem_of_mem hm
  have hj2 : j < i := by simp at hj; omega
  rw [List.getElem_take] at he
  have := (List.pairwise_iff_getElem.1 ha) j i (by omega) hi hj2
  rw [getElem!_pos ds i hi] at he
  omega
theorem fI_at {f g : Nat → Nat} {ds : List Nat} (ha : ds.Pairwise (fun x y => x < y)) {i : Nat} (hi : i < ds.length) : fI f g ds i ds[i]! = f ds[i]! := by
  unfold fI
  rw [if_neg (asc_notin ha hi)]
theorem fI_succ {f g : Nat → Nat} {ds : List Nat} {S i : Nat} (hi : i < ds.length) (he : errA S ds[i]! = 0) : wrF (fI f g ds i) S ds[i]! (g ds[i]!) = fI f g ds (i + 1) := by
  unfold wrF
  rw [if_pos he]
  funext y
  have ht : ∀ z, z ∈ ds.take (i + 1) ↔ z ∈ ds.take i ∨ z = ds[i] := fun z => by
    rw [List.take_succ_eq_append_getElem hi]
    exact List.mem_append.trans (or_congr Iff.rfl List.mem_singleton)
  unfold updF fI
  rw [getElem!_pos ds i hi]
  by_cases e : y = ds[i]
  · rw [if_pos e, if_pos ((ht y).2 (Or.inr e)), e]
  · rw [if_neg e]
    by_cases c : y ∈ ds.take i
    · rw [if_pos c, if_pos ((ht y).2 (Or.inl c))]
    · rw [if_neg c, if_neg (fun h => ((ht y).1 h).elim c e)]
theorem errA_zero {S y : Nat} (h8 : y % 8 = 0) (hS : y < S) : errA S y = 0 := by
  unfold errA
  rw [if_neg (fun c => c h8), if_neg (by omega)]
end Go.Proofs.Ytiedlkhbbnjkbaa
