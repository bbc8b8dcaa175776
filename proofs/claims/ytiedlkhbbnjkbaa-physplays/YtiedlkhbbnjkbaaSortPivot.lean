/- choosePivot at words: some place between. -/
import Derived.Test.YtiedlkhbbnjkbaaSortBreak
namespace Go.Proofs.Ytiedlkhbbnjkbaa
open Go.RowKit
open Go.Sort (swp ltInt PermIn SortedIn)

/-- The row, and the count of swaps in block s. -/
structure Cn (w : World) (g s : Nat) (d : Array Int) (n : Int) : Prop where
  row : Rw w g d
  glt : g < w.heap.size
  cell : w.cell? ⟨s, 0, none⟩ = some (.int .i64 n)
  frz : w.frozen? ⟨s, 0, none⟩ = false
  ne : g ≠ s
  lo : 0 ≤ n

theorem Cn.drewN {w : World} {g s : Nat} {d : Array Int} {n : Int} (h : Cn w g s d n) (k : Nat) : Cn (w.drewN k) g s d n := ⟨h.row, h.glt, h.cell, h.frz, h.ne, h.lo⟩
theorem Cn.put {w : World} {g s : Nat} {d : Array Int} {n m : Int} (h : Cn w g s d n) (hm : 0 ≤ m) : Cn (w.setCell ⟨s, 0, none⟩ (.int .i64 m)) g s d m ∧ Turn (fun i => i = s) w (w.setCell ⟨s, 0, none⟩ (.int .i64 m)) := by
  have hb : (w.setCell ⟨s, 0, none⟩ (.int .i64 m)).heap[g]? = w.heap[g]? := Below.heap_setCell _ _ _ _ h.ne
  exact ⟨⟨fun j hj => ⟨(World.cell?_of_block (a := ⟨g, j, none⟩) hb).trans (h.row j hj).1, (World.frozen?_of_block (a := ⟨g, j, none⟩) hb).trans (h.row j hj).2⟩, by simp [World.setCell]; exact h.glt, cell_set_same h.cell, (World.frozen?_setCell _ _ _ _).trans h.frz, h.ne, hm⟩,
    ⟨rfl, rfl, rfl, by simp [World.setCell], fun k _ hne => Below.heap_setCell _ _ _ _ hne⟩⟩

/-- Behind a reading function: the count has grown by at most k. -/
def CnTo (w : World) (g s : Nat) (d : Array Int) (n : Int) (k : Int) (w' : World) : Prop := ∃ m, Cn w' g s d m ∧ m ≤ n + k ∧ Turn (fun i => i = s) w w'

set_option maxHeartbeats 1000000 in
theorem order2_c {w : World} {g s : Nat} {d : Array Int} {n : Int} (cap a b : Nat) (h : Cn w g s d n) (hn : n < 1000) (ha : a < d.size) (hb : b < d.size) :
    Calls Try.prog 62 #[.slice (some ⟨g, 0, none⟩) d.size cap, .int .i64 a, .int .i64 b, .pointer (some ⟨s, 0, none⟩)] w fun r w' => ∃ x y : Nat, r = .returned (.tuple #[.int .i64 x, .int .i64 y]) ∧ ((x = a ∧ y = b) ∨ (x = b ∧ y = a)) ∧ CnTo w g s d n 1 w' := by
  have f1 := (h.row a ha).1
  have f2 := (h.row b hb).1
  have hls := less_c d[b]! d[a]!
  have HC := Hid.mk h
  have bad : (a : Int) < d.size := by omega
  have bbd : (b : Int) < d.size := by omega
  have hlo := h.lo
  clear h
  generalize d[a]! = x at *
  generalize d[b]! = y at *
  go_enter Try.func62, Try.ntmps62
  go_wp2
  go_quiet ((refine Calls.quiet_of_same ((hls _).mono (fun e w1 hh => ⟨hh.1, hh.2.symm⟩))))
  have HC2 := Hid.mk (HC.out.drewN nq)
  have HB : Hid (Turn (fun i => i = s) w (w.drewN nq)) := ⟨rfl, rfl, rfl, Nat.le_refl _, fun _ _ _ => rfl⟩
  clear f1 f2 hls
  generalize w.drewN nq = wq at *
  cases hc : ltInt y x with
  | true =>
    have c1 := HC2.out.cell
    have c2 := HC2.out.frz
    go_wp2
    go_ret2
    refine ⟨b, a, rfl, Or.inr ⟨rfl, rfl⟩, n + 1, ?_⟩
    obtain ⟨q1, q2⟩ := HC2.out.put (m := n + 1) (by omega)
    exact ⟨q1, by omega, HB.out.trans q2 (fun _ _ h => h)⟩
  | false =>
    go_wp2
    go_ret2
    exact ⟨a, b, rfl, Or.inl ⟨rfl, rfl⟩, n, HC2.out, by omega, HB.out⟩

set_option maxHeartbeats 1000000 in
theorem median_c {w : World} {g s : Nat} {d : Array Int} {n : Int} (cap a b c : Nat) (lo hi : Nat) (h : Cn w g s d n) (hn : n < 900) (ha : lo ≤ a ∧ a < hi) (hb : lo ≤ b ∧ b < hi) (hc : lo ≤ c ∧ c < hi) (hhi : hi ≤ d.size) :
    Calls Try.prog 60 #[.slice (some ⟨g, 0, none⟩) d.size cap, .int .i64 a, .int .i64 b, .int .i64 c, .pointer (some ⟨s, 0, none⟩)] w fun r w' => ∃ x : Nat, r = .returned (.int .i64 x) ∧ lo ≤ x ∧ x < hi ∧ CnTo w g s d n 3 w' := by
  have h1 := order2_c cap a b h (by omega) (by omega) (by omega)
  go_enter Try.func60, Try.ntmps60
  go_wp2_with fail
  refine h1.mono ?_
  rintro e w1 ⟨a1, b1, rfl, hab, m1, hC1, hm1, ht1⟩
  have h2 := order2_c cap b1 c hC1 (by omega) (by omega) (by omega)
  have HT1 := Hid.mk ht1
  clear h1 h ht1
  go_wp2_with fail
  refine h2.mono ?_
  rintro e w2 ⟨b2, c2, rfl, hbc, m2, hC2, hm2, ht2⟩
  have h3 := order2_c cap a1 b2 hC2 (by omega) (by omega) (by omega)
  have HT2 := Hid.mk ht2
  clear h2 hC1 ht2
  go_wp2_with fail
  refine h3.mono ?_
  rintro e w3 ⟨a3, b3, rfl, hab3, m3, hC3, hm3, ht3⟩
  have HC3 := Hid.mk (And.intro hC3 ht3)
  have hb3 : lo ≤ b3 ∧ b3 < hi := by omega
  have HM : Hid (m3 ≤ n + 3) := by (show m3 ≤ n + 3; omega)
  clear h3 hC2 hC3 ht3 hab hbc hab3
  go_wp2
  go_ret
  exact ⟨b3, rfl, hb3.1, hb3.2, m3, HC3.out.1, HM.out, (HT1.out.trans HT2.out (fun _ _ h => h)).trans HC3.out.2 (fun _ _ h => h)⟩

set_option maxHeartbeats 1000000 in
theorem medadj_c {w : World} {g s : Nat} {d : Array Int} {n : Int} (cap a : Nat) (lo hi : Nat) (h : Cn w g s d n) (hn : n < 900) (ha : lo < a ∧ a + 1 < hi) (hhi : hi ≤ d.size) (hs : d.size < 4611686018427387904) :
    Calls Try.prog 59 #[.slice (some ⟨g, 0, none⟩) d.size cap, .int .i64 a, .pointer (some ⟨s, 0, none⟩)] w fun r w' => ∃ x : Nat, r = .returned (.int .i64 x) ∧ lo ≤ x ∧ x < hi ∧ CnTo w g s d n 3 w' := by
  have h1 := median_c cap (a - 1) a (a + 1) lo hi h hn (by omega) (by omega) (by omega) hhi
  rw [show ((a - 1 : Nat) : Int) = (a : Int) - 1 by omega, show ((a + 1 : Nat) : Int) = (a : Int) + 1 by omega] at h1
  clear h
  go_enter Try.func59, Try.ntmps59
  go_wp2_with fail
  refine h1.mono ?_
  rintro e w1 ⟨x, rfl, hx1, hx2, hC⟩
  have HC := Hid.mk hC
  clear h1 hC
  go_wp2
  go_ret
  exact ⟨x, rfl, hx1, hx2, HC.out⟩
end Go.Proofs.Ytiedlkhbbnjkbaa
