/- The search for all leaves, seventh part: All. -/
import Derived.Test.YtjhplcpaaghleaaDoorAllF
namespace Go.Proofs.YtjhplcpaaghleaaDoor
open Go.RowKit Go.Maps

/-- What All answers: nothing, or the leaves. -/
def allR (S : Nat) (f : Nat → Nat) (most : Int) (root : Nat) : Option (List (Nat × Int × Nat)) :=
  if inB most (0, []) = false then none
  else if isTab 0 root = false then some []
  else if (tblS S f most 3 root 0 (0, [])).1 = true then some (tblS S f most 3 root 0 (0, [])).2.2 else none

/-- .. as values. -/
def AllPost (w w' : World) (r : Option (List (Nat × Int × Nat))) (e : Ending) : Prop :=
  (r = none ∧ e = .returned (.tuple #[.slice none 0 0, .bool false]) ∧ Below w.heap.size w w') ∨
  ∃ L v, r = some L ∧ e = .returned (.tuple #[v, .bool true]) ∧ OwnM w' (w.heap.size + 1) v L ∧ L.length ≤ 8193 ∧ Below w.heap.size w w'

set_option maxHeartbeats 2000000 in
theorem all_c (root : Nat) (most : Int) (hr : root < 18446744073709551616) {w : World} {X : Nat → Prop} {a S n : Nat} {f : Nat → Nat} (hM : MemAt w X a S n f) (hF : Flds w) :
    Calls Tryd.prog 19 #[.pointer (some ⟨a, 0, none⟩), .int .u64 root, .int .i64 most] w fun e w' => AllPost w w' (allR S f most root) e := by
  have HT := Hid.mk (fun (w1 : World) (v : Value) (htm : root % 4096 = 0) (h : Srch w w1 a most (0, []) v) => table_any (most := most) hM hF 3 root 0 (0, []) v w1 (by omega) htm hr (by decide) (by decide) (by decide) h)
  have hok := tblS_ok S f most 3 root 0 (0, []) (by decide) (by decide)
  have HOK := Hid.mk hok
  have hIT := fun w1 => isTable_any 0 root hr w1
  have HR0 : Hid (inB most (0, []) = false → allR S f most root = none) := fun q => by unfold allR; rw [if_pos q]
  have HR1 : Hid (inB most (0, []) = true → isTab 0 root = false → allR S f most root = some []) := fun q1 q2 => by unfold allR; rw [if_neg (by rw [q1]; decide), if_pos q2]
  have HR2 : Hid (inB most (0, []) = true → isTab 0 root = true → (tblS S f most 3 root 0 (0, [])).1 = true → allR S f most root = some (tblS S f most 3 root 0 (0, [])).2.2) := fun q1 q2 q3 => by unfold allR; rw [if_neg (by rw [q1]; decide), if_neg (by rw [q2]; decide), if_pos q3]
  have HR3 : Hid (inB most (0, []) = true → isTab 0 root = true → (tblS S f most 3 root 0 (0, [])).1 = false → allR S f most root = none) := fun q1 q2 q3 => by unfold allR; rw [if_neg (by rw [q1]; decide), if_neg (by rw [q2]; decide), if_neg (by rw [q3]; decide)]
  have HTM : Hid (isTab 0 root = true → root % 4096 = 0) := fun q => by
    unfold isTab at q
    rw [Bool.and_eq_true] at q
    exact of_decide_eq_true q.2
  generalize allR S f most root = R at *
  generalize tblS S f most 3 root 0 (0, []) = T at *
  have HS0 : Hid (Srch w (w.alloc (.cells #[.pointer (some ⟨a, 0, none⟩), .int .i64 most, .int .i64 0, .slice none 0 0] 88)) a most (0, []) (.slice none 0 0)) := ⟨heap_alloc_new _ _, World.ownsRow_nil _ _ _ _, below_new _ _⟩
  clear hM hF hok
  go_enter Tryd.func19, Tryd.ntmps19
  go_upto_region 2 with fail
  generalize w.alloc (.cells #[.pointer (some ⟨a, 0, none⟩), .int .i64 most, .int .i64 0, .slice none 0 0] 88) = w1 at *
  go_wp2_with fail
  refine (within_c HS0.out).mono ?_
  rintro e w2 ⟨rfl, hd⟩
  have HS2 := Hid.mk (HS0.out.later (below_drewN hd))
  clear hd HS0
  cases hin : inB most (0, [])
  · go_wp2
    go_ret2
    exact Or.inl ⟨HR0.out hin, rfl, HS2.out.bel⟩
  · cases hit : isTab 0 root
    · rw [hit] at hIT
      obtain ⟨-, -, -, c3⟩ := cells4 HS2.out.row
      go_wp2_with (go_at_call 40; refine (hIT _).mono ?_; rintro e w' ⟨rfl, rfl⟩)
      go_ret2
      exact Or.inr ⟨[], _, HR1.out hin hit, rfl, HS2.out.own, by decide, HS2.out.bel⟩
    · rw [hit] at hIT
      go_wp2_with fail
      refine (hIT _).mono ?_
      rintro e w3 ⟨rfl, rfl⟩
      go_wp2_with fail
      refine (HT.out _ _ (HTM.out hit) HS2.out).mono ?_
      rintro e w4 ⟨v4, rfl, hs4⟩
      have HS4 := Hid.mk hs4
      obtain ⟨-, -, -, c3⟩ := cells4 hs4.row
      clear hs4
      cases hT : T.1
      · go_wp2
        go_ret2
        exact Or.inl ⟨HR3.out hin hit hT, rfl, HS4.out.bel⟩
      · go_wp2
        go_ret2
        exact Or.inr ⟨_, _, HR2.out hin hit hT, rfl, HS4.out.own, by have := HOK.out.2; omega, HS4.out.bel⟩
end Go.Proofs.YtjhplcpaaghleaaDoor
