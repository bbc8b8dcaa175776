/- Rights, first part: what is right, what meets, what is within; what a descriptor gives. -/
import Derived.Test.YtoblkicbfkgjnaaDoorDescAnchor
import Derived.Test.YtoblkicbfkgjnaaDoorSegs
namespace Go.Proofs.YtoblkicbfkgjnaaDoor
open Go.RowKit

/-- Is a number rights? -/
def rB (r : Int) : Bool := decide (0 ≤ r ∧ r ≤ 7)
theorem rB_nat {r : Int} (h : rB r = true) : ∃ n : Nat, n < 8 ∧ r = (n : Int) := by
  have := of_decide_eq_true h
  exact ⟨r.toNat, by omega, by omega⟩
theorem rB_of {n : Nat} (h : n < 8) : rB (n : Int) = true := decide_eq_true (by omega)

set_option maxHeartbeats 400000 in
theorem rite_any (l : Int) (w : World) :
    Calls Tryd.prog 9 #[.int .i64 l] w fun e w' => e = .returned (.bool (rB l)) ∧ w = w' := by
  by_cases h1 : 0 ≤ l
  · have d1 : decide (0 ≤ l) = true := decide_eq_true h1
    have HE : Hid (rB l = decide (l ≤ 7)) := by show rB l = _; unfold rB; rw [decide_eq_decide]; omega
    go_enter Tryd.func9, Tryd.ntmps9
    go_wp2
    go_ret
    exact ⟨by rw [HE.out]; rfl, rfl⟩
  · have d1 : decide (0 ≤ l) = false := decide_eq_false h1
    have HE : Hid (rB l = false) := by show rB l = _; unfold rB; rw [decide_eq_false_iff_not]; omega
    go_enter Tryd.func9, Tryd.ntmps9
    go_wp2
    go_ret
    exact ⟨by rw [HE.out]; rfl, rfl⟩

set_option maxHeartbeats 400000 in
theorem refRite_any (l : Int) (w : World) :
    Calls Tryd.prog 8 #[.int .i64 l] w fun e w' => e = .returned (.bool (rB l)) ∧ w = w' := by
  by_cases h1 : 0 ≤ l
  · have d1 : decide (0 ≤ l) = true := decide_eq_true h1
    have HE : Hid (rB l = decide (l ≤ 7)) := by show rB l = _; unfold rB; rw [decide_eq_decide]; omega
    go_enter Tryd.func8, Tryd.ntmps8
    go_wp2
    go_ret
    exact ⟨by rw [HE.out]; rfl, rfl⟩
  · have d1 : decide (0 ≤ l) = false := decide_eq_false h1
    have HE : Hid (rB l = false) := by show rB l = _; unfold rB; rw [decide_eq_false_iff_not]; omega
    go_enter Tryd.func8, Tryd.ntmps8
    go_wp2
    go_ret
    exact ⟨by rw [HE.out]; rfl, rfl⟩

/-- The rights in both. -/
def meetV (a b : Int) : Int := if rB a && rB b then bits .and .i64 a b else 0
/-- Are all of a in b? -/
def inV (a b : Int) : Bool := rB a && rB b && (bits .andNot .i64 a b == 0)

set_option maxHeartbeats 400000 in
theorem meet_any (a b : Int) (w : World) :
    Calls Tryd.prog 10 #[.int .i64 a, .int .i64 b] w fun e w' => e = .returned (.int .i64 (meetV a b)) ∧ w = w' := by
  have cA := fun w1 => rite_any a w1
  have cB := fun w1 => rite_any b w1
  cases ha : rB a
  · have HE : Hid (meetV a b = 0) := by show meetV a b = 0; unfold meetV; rw [ha]; rfl
    rw [ha] at cA
    go_enter Tryd.func10, Tryd.ntmps10
    go_wp2_with fail
    refine (cA _).mono ?_
    rintro e w1 ⟨rfl, rfl⟩
    go_wp2
    go_ret
    exact ⟨by rw [HE.out]; rfl, rfl⟩
  cases hb : rB b
  · have HE : Hid (meetV a b = 0) := by show meetV a b = 0; unfold meetV; rw [ha, hb]; rfl
    rw [ha] at cA
    rw [hb] at cB
    go_enter Tryd.func10, Tryd.ntmps10
    go_wp2_with fail
    refine (cA _).mono ?_
    rintro e w1 ⟨rfl, rfl⟩
    go_wp2_with fail
    refine (cB _).mono ?_
    rintro e w1 ⟨rfl, rfl⟩
    go_wp2
    go_ret
    exact ⟨by rw [HE.out]; rfl, rfl⟩
  · have HE : Hid (meetV a b = bits .and .i64 a b) := by show meetV a b = _; unfold meetV; rw [ha, hb]; rfl
    rw [ha] at cA
    rw [hb] at cB
    go_enter Tryd.func10, Tryd.ntmps10
    go_wp2_with fail
    refine (cA _).mono ?_
    rintro e w1 ⟨rfl, rfl⟩
    go_wp2_with fail
    refine (cB _).mono ?_
    rintro e w1 ⟨rfl, rfl⟩
    go_wp2
    go_ret
    exact ⟨by rw [HE.out]; rfl, rfl⟩

set_option maxHeartbeats 400000 in
theorem in_any (a b : Int) (w : World) :
    Calls Tryd.prog 11 #[.int .i64 a, .int .i64 b] w fun e w' => e = .returned (.bool (inV a b)) ∧ w = w' := by
  have cA := fun w1 => rite_any a w1
  have cB := fun w1 => rite_any b w1
  cases ha : rB a
  · have HE : Hid (inV a b = false) := by show inV a b = _; unfold inV; rw [ha]; rfl
    rw [ha] at cA
    go_enter Tryd.func11, Tryd.ntmps11
    go_wp2_with fail
    refine (cA _).mono ?_
    rintro e w1 ⟨rfl, rfl⟩
    go_wp2
    go_ret
    exact ⟨by rw [HE.out]; rfl, rfl⟩
  cases hb : rB b
  · have HE : Hid (inV a b = false) := by show inV a b = _; unfold inV; rw [ha, hb]; rfl
    rw [ha] at cA
    rw [hb] at cB
    go_enter Tryd.func11, Tryd.ntmps11
    go_wp2_with fail
    refine (cA _).mono ?_
    rintro e w1 ⟨rfl, rfl⟩
    go_wp2_with fail
    refine (cB _).mono ?_
    rintro e w1 ⟨rfl, rfl⟩
    go_wp2
    go_ret
    exact ⟨by rw [HE.out]; rfl, rfl⟩
  · have HE : Hid (inV a b = (bits .andNot .i64 a b == 0)) := by show inV a b = _; unfold inV; rw [ha, hb]; rfl
    rw [ha] at cA
    rw [hb] at cB
    go_enter Tryd.func11, Tryd.ntmps11
    go_wp2_with fail
    refine (cA _).mono ?_
    rintro e w1 ⟨rfl, rfl⟩
    go_wp2_with fail
    refine (cB _).mono ?_
    rintro e w1 ⟨rfl, rfl⟩
    go_wp2
    go_ret
    exact ⟨by rw [HE.out]; rfl, rfl⟩


set_option maxHeartbeats 400000 in
theorem has_any (r n : Nat) (hr : r < 8) (hn : n < 64) (w : World) :
    Calls Tryd.prog 15 #[.int .i64 (r : Int), .int .i64 (n : Int)] w fun e w' => e = .returned (.bool (r.testBit n)) ∧ Below w.heap.size w w' := by
  have hw : IntKind.u64.wrap (r : Int) = (r : Int) := by rw [IntKind.wrap_u64]; omega
  have hn1 : (n : Int) < 64 := by omega
  go_enter Tryd.func15, Tryd.ntmps15
  go_wp2_with fail
  refine (bits_any r (by omega) _).mono ?_
  rintro e w1 ⟨rfl, hb⟩
  go_wp2_with (first
    | (refine wpList_store_row rfl 52 _ _ rfl w1.heap.size (arr r.testBit) rfl rfl 52 _ (heap_alloc_new _ _) (info_arr _) (by rw [arr_size]; rfl) (arr_one _) ?_; rw [World.setRow_alloc_new]
       have hc : (w1.alloc (.cells (arr r.testBit) 52)).cell? ⟨w1.heap.size, n, none⟩ = some (.bool (r.testBit n)) := by
         rw [cell_of_row _ _ _ _ _ _ (heap_alloc_new _ _), arr_get _ _ hn])
    | fail)
  go_ret
  exact ⟨rfl, hb.alloc hb.size _⟩

/-- The lowest k bits of both. -/
def mK (n m k : Nat) : Nat := (n &&& m) % 2 ^ k
theorem mK_step : ∀ n, n < 8 → ∀ m, m < 8 → ∀ k, k < 3 → mK n m (k + 1) = mK n m k + (if (n.testBit k && m.testBit k) = true then 2 ^ k else 0) := by decide
theorem mK_end : ∀ n, n < 8 → ∀ m, m < 8 → mK n m 3 = n &&& m := by decide
theorem mK_lt (n m k : Nat) (hk : k < 4) : mK n m k < 8 := by
  have h1 : 2 ^ k ≤ 2 ^ 3 := Nat.pow_le_pow_right (by omega) (by omega)
  have h2 := Nat.mod_lt (n &&& m) (Nat.two_pow_pos k)
  unfold mK
  omega

set_option maxHeartbeats 1000000 in
theorem refMeet_any (n m : Nat) (hn : n < 8) (hm : m < 8) (w : World) :
    Calls Tryd.prog 12 #[.int .i64 (n : Int), .int .i64 (m : Int)] w fun e w' => e = .returned (.int .i64 ((n &&& m : Nat) : Int)) ∧ Below w.heap.size w w' := by
  have HZ : Hid (mK n m 3 = n &&& m) := mK_end n hn m hm
  have h0 : mK n m 0 = 0 := by unfold mK; rw [Nat.pow_zero, Nat.mod_one]
  go_enter Tryd.func12, Tryd.ntmps12
  go_wp2
  go_loopw [5, 6, 7] (fun r p i wr => ∃ k : Nat, k ≤ 3 ∧ i = .int .i64 k ∧ p = .int .i64 ((2 ^ k : Nat) : Int) ∧ r = .int .i64 ((mK n m k : Nat) : Int) ∧ Below w.heap.size w wr) (fun _ _ i _ => 3 - (intOf i).toNat)
  case atStart => exact ⟨0, by omega, rfl, rfl, by rw [h0]; rfl, Below.refl _ _⟩
  case round =>
    obtain ⟨k, hk, rfl, rfl, rfl, hb⟩ := hrel
    clear h0
    by_cases hlt : k < 3
    · have e1 := mK_step n hn m hm k hlt
      have b1 := mK_lt n m k (by omega)
      have b2 : 2 ^ k ≤ 2 ^ 2 := Nat.pow_le_pow_right (by omega) (by omega)
      have b3 : 2 ^ (k + 1) = 2 * 2 ^ k := by rw [Nat.pow_succ]; omega
      have cN := fun w1 => has_any n k hn (by omega) w1
      have cM := fun w1 => has_any m k hm (by omega) w1
      cases h1 : n.testBit k
      · rw [h1, Bool.false_and, if_neg (by simp)] at e1
        rw [h1] at cN
        have HX : Hid (mK n m (k + 1) = mK n m k + 0 ∧ 2 ^ (k + 1) = 2 * 2 ^ k) := ⟨e1, b3⟩
        clear e1 b3
        generalize mK n m k = M at *
        generalize 2 ^ k = p at *
        go_wp2_with fail
        refine (cN _).mono ?_
        rintro e w1 ⟨rfl, hbm⟩
        go_wp2
        exact ⟨⟨k + 1, by omega, by go_num, by rw [HX.out.2]; go_num, by rw [HX.out.1]; rfl, below_tr hb hbm⟩, by simp [intOf]; omega⟩
      cases h2 : m.testBit k
      · rw [h1, h2, if_neg (by simp)] at e1
        rw [h1] at cN
        rw [h2] at cM
        have HX : Hid (mK n m (k + 1) = mK n m k + 0 ∧ 2 ^ (k + 1) = 2 * 2 ^ k) := ⟨e1, b3⟩
        clear e1 b3
        generalize mK n m k = M at *
        generalize 2 ^ k = p at *
        go_wp2_with fail
        refine (cN _).mono ?_
        rintro e w1 ⟨rfl, hbm⟩
        go_wp2_with fail
        refine (cM _).mono ?_
        rintro e w2 ⟨rfl, hbm2⟩
        go_wp2
        exact ⟨⟨k + 1, by omega, by go_num, by rw [HX.out.2]; go_num, by rw [HX.out.1]; rfl, below_tr (below_tr hb hbm) hbm2⟩, by simp [intOf]; omega⟩
      · rw [h1, h2, if_pos (by simp)] at e1
        rw [h1] at cN
        rw [h2] at cM
        have HX : Hid (mK n m (k + 1) = mK n m k + 2 ^ k ∧ 2 ^ (k + 1) = 2 * 2 ^ k) := ⟨e1, b3⟩
        clear e1 b3
        generalize mK n m k = M at *
        generalize 2 ^ k = p at *
        go_wp2_with fail
        refine (cN _).mono ?_
        rintro e w1 ⟨rfl, hbm⟩
        go_wp2_with fail
        refine (cM _).mono ?_
        rintro e w2 ⟨rfl, hbm2⟩
        go_wp2
        exact ⟨⟨k + 1, by omega, by go_num, by rw [HX.out.2]; go_num, by rw [HX.out.1]; go_num, below_tr (below_tr hb hbm) hbm2⟩, by simp [intOf]; omega⟩
    · have e3 : k = 3 := by omega
      subst e3
      go_wp2
      go_ret
      exact ⟨by rw [HZ.out]; rfl, hb⟩

/-- What a descriptor gives. -/
def ofV (k : Int) (u r x s : Bool) : Int := if (decide (k = 2 ∨ k = 3) && s && u) = true then 1 + 2 * (r.toNat : Int) + 4 * (x.toNat : Int) else 0

set_option maxHeartbeats 2000000 in
theorem of_any (k : Int) (o : Nat) (u r x s : Bool) (a : Int) (w : World) :
    Calls Tryd.prog 19 #[dv k o u r x s a] w fun e w' => e = .returned (.int .i64 (ofV k u r x s)) ∧ Below w.heap.size w w' := by
  by_cases h2 : k = 2
  · subst h2
    cases s <;> cases u <;> cases r <;> cases x
    all_goals
      go_enter Tryd.func19, Tryd.ntmps19
      go_wp2
      go_ret
      exact ⟨rfl, below_new _ _⟩
  by_cases h3 : k = 3
  · subst h3
    cases s <;> cases u <;> cases r <;> cases x
    all_goals
      go_enter Tryd.func19, Tryd.ntmps19
      go_wp2
      go_ret
      exact ⟨rfl, below_new _ _⟩
  · have HE : Hid (ofV k u r x s = 0) := by
      show ofV k u r x s = 0
      unfold ofV
      rw [decide_eq_false (by omega)]; rfl
    have d2 : (k == 2) = false := by rw [beq_eq_false_iff_ne]; exact h2
    have d3 : (k == 3) = false := by rw [beq_eq_false_iff_ne]; exact h3
    go_enter Tryd.func19, Tryd.ntmps19
    go_wp2
    go_ret
    exact ⟨by rw [HE.out]; rfl, below_new _ _⟩

set_option maxHeartbeats 2000000 in
theorem refOf_any (k : Int) (o : Nat) (u r x s : Bool) (a : Int) (w : World) :
    Calls Tryd.prog 20 #[dv k o u r x s a] w fun e w' => e = .returned (.int .i64 (ofV k u r x s)) ∧ Below w.heap.size w w' := by
  by_cases h2 : k = 2
  · subst h2
    cases s <;> cases u <;> cases r <;> cases x
    all_goals
      go_enter Tryd.func20, Tryd.ntmps20
      go_wp2
      go_ret
      exact ⟨rfl, below_new _ _⟩
  by_cases h3 : k = 3
  · subst h3
    cases s <;> cases u <;> cases r <;> cases x
    all_goals
      go_enter Tryd.func20, Tryd.ntmps20
      go_wp2
      go_ret
      exact ⟨rfl, below_new _ _⟩
  · have HE : Hid (ofV k u r x s = 0) := by
      show ofV k u r x s = 0
      unfold ofV
      rw [decide_eq_false (by omega)]; rfl
    by_cases h1 : k < 2
    · have d1 : decide (k < 2) = true := decide_eq_true h1
      clear h2 h3
      go_enter Tryd.func20, Tryd.ntmps20
      go_wp2
      go_ret
      exact ⟨by rw [HE.out]; rfl, below_new _ _⟩
    · have d1 : decide (k < 2) = false := decide_eq_false h1
      have d2 : decide (3 < k) = true := decide_eq_true (by omega)
      have h4 : 3 < k := by omega
      clear h2 h3
      go_enter Tryd.func20, Tryd.ntmps20
      go_wp2
      go_ret
      exact ⟨by rw [HE.out]; rfl, below_new _ _⟩

end Go.Proofs.YtoblkicbfkgjnaaDoor
