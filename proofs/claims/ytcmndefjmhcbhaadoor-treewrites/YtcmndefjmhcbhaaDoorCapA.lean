/- Capabilities, first part: what is right of the parts of one. -/
import Derived.Test.YtcmndefjmhcbhaaDoorVirtB
import Derived.Test.YtcmndefjmhcbhaaDoorSegs
import Derived.Deep.QuietTactic
import Derived.BigQuiet
import Derived.Deep.RegionHeld3
namespace Go.Proofs.YtcmndefjmhcbhaaDoor
open Go.RowKit

/-- Is a number rights? -/
def rB (r : Int) : Bool := decide (0 ≤ r ∧ r ≤ 7)

theorem rB_nat {r : Int} (h : rB r = true) : ∃ n : Nat, n < 8 ∧ r = (n : Int) := by
  have := of_decide_eq_true h
  exact ⟨r.toNat, by omega, by omega⟩

theorem rB_of {n : Nat} (h : n < 8) : rB (n : Int) = true := decide_eq_true (by omega)

set_option maxHeartbeats 400000 in
theorem rite_any (l : Int) (w : World) :
    Calls Tryd.prog 76 #[.int .i64 l] w fun e w' => e = .returned (.bool (rB l)) ∧ w = w' := by
  by_cases h1 : 0 ≤ l
  · have d1 : decide (0 ≤ l) = true := decide_eq_true h1
    have HE : Hid (rB l = decide (l ≤ 7)) := by show rB l = _; unfold rB; rw [decide_eq_decide]; omega
    go_enter Tryd.func76, Tryd.ntmps76
    go_wp2
    go_ret
    exact ⟨by rw [HE.out]; rfl, rfl⟩
  · have d1 : decide (0 ≤ l) = false := decide_eq_false h1
    have HE : Hid (rB l = false) := by show rB l = _; unfold rB; rw [decide_eq_false_iff_not]; omega
    go_enter Tryd.func76, Tryd.ntmps76
    go_wp2
    go_ret
    exact ⟨by rw [HE.out]; rfl, rfl⟩

/-- Are all of a in b? -/
def inV (a b : Int) : Bool := rB a && rB b && (bits .andNot .i64 a b == 0)

set_option maxHeartbeats 400000 in
theorem in_any (a b : Int) (w : World) :
    Calls Tryd.prog 80 #[.int .i64 a, .int .i64 b] w fun e w' => e = .returned (.bool (inV a b)) ∧ w = w' := by
  have cA := fun w1 => rite_any a w1
  have cB := fun w1 => rite_any b w1
  cases ha : rB a
  · have HE : Hid (inV a b = false) := by show inV a b = _; unfold inV; rw [ha]; rfl
    rw [ha] at cA
    go_enter Tryd.func80, Tryd.ntmps80
    go_wp2_with fail
    refine (cA _).mono ?_
    rintro e w1 ⟨rfl, rfl⟩
    go_wp2
    go_ret
    exact ⟨by rw [HE.out]; rfl, rfl⟩
  cases hb : rB b
  · have HE : Hid (inV a b = false) := by show inV a b = _; unfold inV; rw [ha, hb]; rfl
    rw [ha] at cA
    rw [hb] at cB
    go_enter Tryd.func80, Tryd.ntmps80
    go_wp2_with fail
    refine (cA _).mono ?_
    rintro e w1 ⟨rfl, rfl⟩
    go_wp2_with fail
    refine (cB _).mono ?_
    rintro e w1 ⟨rfl, rfl⟩
    go_wp2
    go_ret
    exact ⟨by rw [HE.out]; rfl, rfl⟩
  · have HE : Hid (inV a b = (bits .andNot .i64 a b == 0)) := by show inV a b = _; unfold inV; rw [ha, hb]; rfl
    rw [ha] at cA
    rw [hb] at cB
    go_enter Tryd.func80, Tryd.ntmps80
    go_wp2_with fail
    refine (cA _).mono ?_
    rintro e w1 ⟨rfl, rfl⟩
    go_wp2_with fail
    refine (cB _).mono ?_
    rintro e w1 ⟨rfl, rfl⟩
    go_wp2
    go_ret
    exact ⟨by rw [HE.out]; rfl, rfl⟩


def levB (n : Int) : Bool := decide (n = 39 ∨ n = 30 ∨ n = 21 ∨ n = 12)

def levV (n : Int) : Int := if n = 39 then 0 else if n = 30 then 1 else if n = 21 then 2 else if n = 12 then 3 else 0

set_option maxHeartbeats 2000000 in
theorem level_any (n : Int) (w : World) :
    Calls Tryd.prog 72 #[.int .i64 n] w fun e w' => e = .returned (.tuple #[.int .i64 (levV n), .bool (levB n)]) ∧ w = w' := by
  have c0 := fun w1 => dbits_any 0 w1
  have c1 := fun w1 => dbits_any 1 w1
  have c2 := fun w1 => dbits_any 2 w1
  have c3 := fun w1 => dbits_any 3 w1
  rw [show lowL 0 = 39 by decide] at c0
  rw [show lowL 1 = 30 by decide] at c1
  rw [show lowL 2 = 21 by decide] at c2
  rw [show lowL 3 = 12 by decide] at c3
  go_enter Tryd.func72, Tryd.ntmps72
  go_wp2
  go_loop [5] (fun i => ∃ k : Nat, k ≤ 4 ∧ i = .int .i64 k ∧ (1 ≤ k → n ≠ 39) ∧ (2 ≤ k → n ≠ 30) ∧ (3 ≤ k → n ≠ 21) ∧ (4 ≤ k → n ≠ 12)) (fun i => 4 - (intOf i).toNat)
  case atStart => exact ⟨0, by omega, rfl, by omega, by omega, by omega, by omega⟩
  case round =>
    obtain ⟨k, hk, rfl, n0, n1, n2, n3⟩ := hrel
    obtain rfl | rfl | rfl | rfl | rfl : k = 0 ∨ k = 1 ∨ k = 2 ∨ k = 3 ∨ k = 4 := by omega
    · by_cases h : n = 39
      · subst h
        clear n0 n1 n2 n3
        go_wp2_with (go_at_call 86; refine (c0 _).mono ?_; rintro e w' ⟨rfl, rfl⟩)
        go_ret2
        exact ⟨rfl, rfl⟩
      · have hne : ((39 : Int) == n) = false := by rw [beq_eq_false_iff_ne]; omega
        clear n0 n1 n2 n3
        go_wp2_with (go_at_call 86; refine (c0 _).mono ?_; rintro e w' ⟨rfl, rfl⟩)
        exact ⟨⟨1, by omega, by go_num, fun _ => h, by omega, by omega, by omega⟩, by simp [intOf]⟩
    · replace n0 := n0 (by omega)
      by_cases h : n = 30
      · subst h
        clear n0 n1 n2 n3
        go_wp2_with (go_at_call 86; refine (c1 _).mono ?_; rintro e w' ⟨rfl, rfl⟩)
        go_ret2
        exact ⟨rfl, rfl⟩
      · have hne : ((30 : Int) == n) = false := by rw [beq_eq_false_iff_ne]; omega
        have N0 : Hid (n ≠ 39) := n0
        clear n0 n1 n2 n3
        go_wp2_with (go_at_call 86; refine (c1 _).mono ?_; rintro e w' ⟨rfl, rfl⟩)
        exact ⟨⟨2, by omega, by go_num, fun _ => N0.out, fun _ => h, by omega, by omega⟩, by simp [intOf]⟩
    · have N0 : Hid (n ≠ 39) := n0 (by omega)
      have N1 : Hid (n ≠ 30) := n1 (by omega)
      by_cases h : n = 21
      · subst h
        clear n0 n1 n2 n3
        go_wp2_with (go_at_call 86; refine (c2 _).mono ?_; rintro e w' ⟨rfl, rfl⟩)
        go_ret2
        exact ⟨rfl, rfl⟩
      · have hne : ((21 : Int) == n) = false := by rw [beq_eq_false_iff_ne]; omega
        clear n0 n1 n2 n3
        go_wp2_with (go_at_call 86; refine (c2 _).mono ?_; rintro e w' ⟨rfl, rfl⟩)
        exact ⟨⟨3, by omega, by go_num, fun _ => N0.out, fun _ => N1.out, fun _ => h, by omega⟩, by simp [intOf]⟩
    · have N0 : Hid (n ≠ 39) := n0 (by omega)
      have N1 : Hid (n ≠ 30) := n1 (by omega)
      have N2 : Hid (n ≠ 21) := n2 (by omega)
      by_cases h : n = 12
      · subst h
        clear n0 n1 n2 n3
        go_wp2_with (go_at_call 86; refine (c3 _).mono ?_; rintro e w' ⟨rfl, rfl⟩)
        go_ret2
        exact ⟨rfl, rfl⟩
      · have hne : ((12 : Int) == n) = false := by rw [beq_eq_false_iff_ne]; omega
        clear n0 n1 n2 n3
        go_wp2_with (go_at_call 86; refine (c3 _).mono ?_; rintro e w' ⟨rfl, rfl⟩)
        exact ⟨⟨4, by omega, by go_num, fun _ => N0.out, fun _ => N1.out, fun _ => N2.out, fun _ => h⟩, by simp [intOf]⟩
    · have HE : Hid (levV n = 0 ∧ levB n = false) := by
        have n0 := n0 (by omega)
        have n1 := n1 (by omega)
        have n2 := n2 (by omega)
        have n3 := n3 (by omega)
        show _ ∧ _
        unfold levV levB
        rw [if_neg n0, if_neg n1, if_neg n2, if_neg n3]
        exact ⟨rfl, decide_eq_false (by omega)⟩
      clear n0 n1 n2 n3
      go_wp2
      go_ret2
      exact ⟨by rw [HE.out.1, HE.out.2]; rfl, rfl⟩

theorem cell_alloc {W : World} {o : Obj} {a : Addr} {v : Value} (h : W.cell? a = some v) : (W.alloc o).cell? a = some v := by
  rw [(below_new W o).cell (World.block_lt_of_cell? W _ h)]; exact h

/-- Seven cells. -/
theorem cells7 {w1 : World} {g t : Nat} {c0 c1 c2 c3 c4 c5 c6 : Value} (hh : w1.heap[g]? = some (.cells #[c0, c1, c2, c3, c4, c5, c6] t (0, 0))) :
    w1.cell? ⟨g, 0, none⟩ = some c0 ∧ w1.cell? ⟨g, 1, none⟩ = some c1 ∧ w1.cell? ⟨g, 2, none⟩ = some c2 ∧ w1.cell? ⟨g, 3, none⟩ = some c3 ∧ w1.cell? ⟨g, 4, none⟩ = some c4 ∧ w1.cell? ⟨g, 5, none⟩ = some c5 ∧ w1.cell? ⟨g, 6, none⟩ = some c6 := by
  refine ⟨?_, ?_, ?_, ?_, ?_, ?_, ?_⟩
  all_goals (rw [cell_of_row _ _ _ _ _ _ hh]; rfl)

/-- Is a number a virtual ASID, or none? -/
def asB (s : Int) : Bool := decide (0 ≤ s ∧ s < 4096)

set_option maxHeartbeats 400000 in
theorem asid_any (l : Int) (w : World) :
    Calls Tryd.prog 79 #[.int .i64 l] w fun e w' => e = .returned (.bool (asB l)) ∧ w = w' := by
  by_cases h1 : 0 ≤ l
  · have d1 : decide (0 ≤ l) = true := decide_eq_true h1
    have HE : Hid (asB l = decide (l < 4096)) := by show asB l = _; unfold asB; rw [decide_eq_decide]; omega
    go_enter Tryd.func79, Tryd.ntmps79
    go_wp2
    go_ret
    exact ⟨by rw [HE.out]; rfl, rfl⟩
  · have d1 : decide (0 ≤ l) = false := decide_eq_false h1
    have HE : Hid (asB l = false) := by show asB l = _; unfold asB; rw [decide_eq_false_iff_not]; omega
    go_enter Tryd.func79, Tryd.ntmps79
    go_wp2
    go_ret
    exact ⟨by rw [HE.out]; rfl, rfl⟩

/-- Is an address the base of a stretch of a level? -/
def isB (m : Nat) (l : Int) : Bool := ((baseV m l : Nat) : Int) == (m : Int)

set_option maxHeartbeats 400000 in
theorem isBase_any (m : Nat) (l : Int) (hm : m < 18446744073709551616) (w : World) :
    Calls Tryd.prog 87 #[.int .u64 (m : Nat), .int .i64 l] w fun e w' => e = .returned (.bool (isB m l)) ∧ w = w' := by
  have HE : Hid (isB m l = (((baseV m l : Nat) : Int) == (m : Int))) := rfl
  go_enter Tryd.func87, Tryd.ntmps87
  go_wp2_with fail
  refine (base_any m l hm _).mono ?_
  rintro e w1 ⟨rfl, rfl⟩
  go_wp2
  go_ret
  exact ⟨by first | (rw [HE.out]; done) | (rw [HE.out]; rfl) | (simp [isB]; done), rfl⟩

def hoB (k : Int) : Bool := if k = 0 then (false) else (if k = 6 then (false) else (true))

set_option maxHeartbeats 2000000 in
theorem hasObj_any (k : Int) (a : Nat) (b r g s : Int) (m : Nat)  (w : World) :
    Calls Tryd.prog 62 #[.agg #[.int .i64 k, .int .u64 (a : Nat), .int .i64 b, .int .i64 r, .int .i64 g, .int .i64 s, .int .u64 (m : Nat)]] w fun e w' => e = .returned (.bool (hoB k)) ∧ Below w.heap.size w w' := by
  by_cases h1 : k = 0
  · subst h1
    have HE : Hid (hoB 0 = (false)) := by
      show hoB 0 = _
      unfold hoB
      rw [if_pos rfl]
    go_enter Tryd.func62, Tryd.ntmps62
    go_wp2
    go_ret
    exact ⟨by first | (rw [HE.out]; done) | (rw [HE.out]; rfl), below_new _ _⟩
  · have dh1 : ((k : Int) == 0) = false := by rw [beq_eq_false_iff_ne]; omega
    have eh1 : ((k : Int) != 0) = true := by rw [bne_iff_ne]; omega
    by_cases h2 : k = 6
    · subst h2
      have HE : Hid (hoB 6 = (false)) := by
        show hoB 6 = _
        unfold hoB
        rw [if_neg (by decide), if_pos rfl]
      go_enter Tryd.func62, Tryd.ntmps62
      go_wp2
      go_ret
      exact ⟨by first | (rw [HE.out]; done) | (rw [HE.out]; rfl), below_new _ _⟩
    · have dh2 : ((k : Int) == 6) = false := by rw [beq_eq_false_iff_ne]; omega
      have eh2 : ((k : Int) != 6) = true := by rw [bne_iff_ne]; omega
      have HE : Hid (hoB k = (true)) := by
        show hoB k = _
        unfold hoB
        rw [if_neg h1, if_neg h2]
      go_enter Tryd.func62, Tryd.ntmps62
      go_wp2
      go_ret
      exact ⟨by first | (rw [HE.out]; done) | (rw [HE.out]; rfl), below_new _ _⟩

def rbB (k b : Int) : Bool := if k = 1 then (if 5 ≤ b then (decide (b ≤ 32)) else (false)) else (if k = 2 then (if 1 ≤ b then (decide (b ≤ 12)) else (false)) else (if k = 10 then (if 1 ≤ b then (decide (b ≤ 12)) else (false)) else (if k = 3 then (if levB b = true then (levV b != 0) else (false)) else (if k = 4 then (b == 12) else (if k = 5 then (b == 12) else (if k = 7 then (b == 12) else (if k = 8 then (b == 7) else (if k = 9 then (b == 5) else (false)))))))))

set_option maxHeartbeats 2000000 in
theorem rightBits_any (k : Int) (a : Nat) (b r g s : Int) (m : Nat)  (w : World) :
    Calls Tryd.prog 63 #[.agg #[.int .i64 k, .int .u64 (a : Nat), .int .i64 b, .int .i64 r, .int .i64 g, .int .i64 s, .int .u64 (m : Nat)]] w fun e w' => e = .returned (.bool (rbB k b)) ∧ Below w.heap.size w w' := by
  by_cases h1 : k = 1
  · subst h1
    by_cases h2 : 5 ≤ b
    · have dh2 : decide ((5 : Int) ≤ b) = true := decide_eq_true (by omega)
      have HE : Hid (rbB 1 b = (decide (b ≤ 32))) := by
        show rbB 1 b = _
        unfold rbB
        rw [if_pos rfl, if_pos h2]
      go_enter Tryd.func63, Tryd.ntmps63
      go_wp2
      go_ret
      exact ⟨by first | (rw [HE.out]; done) | (rw [HE.out]; rfl), below_new _ _⟩
    · have dh2 : decide ((5 : Int) ≤ b) = false := decide_eq_false (by omega)
      have HE : Hid (rbB 1 b = (false)) := by
        show rbB 1 b = _
        unfold rbB
        rw [if_pos rfl, if_neg h2]
      go_enter Tryd.func63, Tryd.ntmps63
      go_wp2
      go_ret
      exact ⟨by first | (rw [HE.out]; done) | (rw [HE.out]; rfl), below_new _ _⟩
  · have dh1 : ((k : Int) == 1) = false := by rw [beq_eq_false_iff_ne]; omega
    have eh1 : ((k : Int) != 1) = true := by rw [bne_iff_ne]; omega
    by_cases h3 : k = 2
    · subst h3
      by_cases h4 : 1 ≤ b
      · have dh4 : decide ((1 : Int) ≤ b) = true := decide_eq_true (by omega)
        have HE : Hid (rbB 2 b = (decide (b ≤ 12))) := by
          show rbB 2 b = _
          unfold rbB
          rw [if_neg (by decide), if_pos rfl, if_pos h4]
        go_enter Tryd.func63, Tryd.ntmps63
        go_wp2
        go_ret
        exact ⟨by first | (rw [HE.out]; done) | (rw [HE.out]; rfl), below_new _ _⟩
      · have dh4 : decide ((1 : Int) ≤ b) = false := decide_eq_false (by omega)
        have HE : Hid (rbB 2 b = (false)) := by
          show rbB 2 b = _
          unfold rbB
          rw [if_neg (by decide), if_pos rfl, if_neg h4]
        go_enter Tryd.func63, Tryd.ntmps63
        go_wp2
        go_ret
        exact ⟨by first | (rw [HE.out]; done) | (rw [HE.out]; rfl), below_new _ _⟩
    · have dh3 : ((k : Int) == 2) = false := by rw [beq_eq_false_iff_ne]; omega
      have eh3 : ((k : Int) != 2) = true := by rw [bne_iff_ne]; omega
      by_cases h5 : k = 10
      · subst h5
        by_cases h6 : 1 ≤ b
        · have dh6 : decide ((1 : Int) ≤ b) = true := decide_eq_true (by omega)
          have HE : Hid (rbB 10 b = (decide (b ≤ 12))) := by
            show rbB 10 b = _
            unfold rbB
            rw [if_neg (by decide), if_neg (by decide), if_pos rfl, if_pos h6]
          go_enter Tryd.func63, Tryd.ntmps63
          go_wp2
          go_ret
          exact ⟨by first | (rw [HE.out]; done) | (rw [HE.out]; rfl), below_new _ _⟩
        · have dh6 : decide ((1 : Int) ≤ b) = false := decide_eq_false (by omega)
          have HE : Hid (rbB 10 b = (false)) := by
            show rbB 10 b = _
            unfold rbB
            rw [if_neg (by decide), if_neg (by decide), if_pos rfl, if_neg h6]
          go_enter Tryd.func63, Tryd.ntmps63
          go_wp2
          go_ret
          exact ⟨by first | (rw [HE.out]; done) | (rw [HE.out]; rfl), below_new _ _⟩
      · have dh5 : ((k : Int) == 10) = false := by rw [beq_eq_false_iff_ne]; omega
        have eh5 : ((k : Int) != 10) = true := by rw [bne_iff_ne]; omega
        by_cases h7 : k = 3
        · subst h7
          cases h8 : levB b
          · have HE : Hid (rbB 3 b = (false)) := by
              show rbB 3 b = _
              unfold rbB
              rw [if_neg (by decide), if_neg (by decide), if_neg (by decide), if_pos rfl, if_neg (ne_true_of_eq_false h8)]
            go_enter Tryd.func63, Tryd.ntmps63
            go_wp2_with fail
            refine (level_any b _).mono ?_
            rintro e w1 ⟨rfl, rfl⟩
            rw [h8]
            go_wp2
            go_ret
            exact ⟨by first | (rw [HE.out]; done) | (rw [HE.out]; rfl), below_new _ _⟩
          · have HE : Hid (rbB 3 b = (levV b != 0)) := by
              show rbB 3 b = _
              unfold rbB
              rw [if_neg (by decide), if_neg (by decide), if_neg (by decide), if_pos rfl, if_pos h8]
            go_enter Tryd.func63, Tryd.ntmps63
            go_wp2_with fail
            refine (level_any b _).mono ?_
            rintro e w1 ⟨rfl, rfl⟩
            rw [h8]
            go_wp2
            go_ret
            exact ⟨by first | (rw [HE.out]; done) | (rw [HE.out]; rfl), below_new _ _⟩
        · have dh7 : ((k : Int) == 3) = false := by rw [beq_eq_false_iff_ne]; omega
          have eh7 : ((k : Int) != 3) = true := by rw [bne_iff_ne]; omega
          by_cases h9 : k = 4
          · subst h9
            have HE : Hid (rbB 4 b = (b == 12)) := by
              show rbB 4 b = _
              unfold rbB
              rw [if_neg (by decide), if_neg (by decide), if_neg (by decide), if_neg (by decide), if_pos rfl]
            go_enter Tryd.func63, Tryd.ntmps63
            go_wp2
            go_ret
            exact ⟨by first | (rw [HE.out]; done) | (rw [HE.out]; rfl), below_new _ _⟩
          · have dh9 : ((k : Int) == 4) = false := by rw [beq_eq_false_iff_ne]; omega
            have eh9 : ((k : Int) != 4) = true := by rw [bne_iff_ne]; omega
            by_cases h10 : k = 5
            · subst h10
              have HE : Hid (rbB 5 b = (b == 12)) := by
                show rbB 5 b = _
                unfold rbB
                rw [if_neg (by decide), if_neg (by decide), if_neg (by decide), if_neg (by decide), if_neg (by decide), if_pos rfl]
              go_enter Tryd.func63, Tryd.ntmps63
              go_wp2
              go_ret
              exact ⟨by first | (rw [HE.out]; done) | (rw [HE.out]; rfl), below_new _ _⟩
            · have dh10 : ((k : Int) == 5) = false := by rw [beq_eq_false_iff_ne]; omega
              have eh10 : ((k : Int) != 5) = true := by rw [bne_iff_ne]; omega
              by_cases h11 : k = 7
              · subst h11
                have HE : Hid (rbB 7 b = (b == 12)) := by
                  show rbB 7 b = _
                  unfold rbB
                  rw [if_neg (by decide), if_neg (by decide), if_neg (by decide), if_neg (by decide), if_neg (by decide), if_neg (by decide), if_pos rfl]
                go_enter Tryd.func63, Tryd.ntmps63
                go_wp2
                go_ret
                exact ⟨by first | (rw [HE.out]; done) | (rw [HE.out]; rfl), below_new _ _⟩
              · have dh11 : ((k : Int) == 7) = false := by rw [beq_eq_false_iff_ne]; omega
                have eh11 : ((k : Int) != 7) = true := by rw [bne_iff_ne]; omega
                by_cases h12 : k = 8
                · subst h12
                  have HE : Hid (rbB 8 b = (b == 7)) := by
                    show rbB 8 b = _
                    unfold rbB
                    rw [if_neg (by decide), if_neg (by decide), if_neg (by decide), if_neg (by decide), if_neg (by decide), if_neg (by decide), if_neg (by decide), if_pos rfl]
                  go_enter Tryd.func63, Tryd.ntmps63
                  go_wp2
                  go_ret
                  exact ⟨by first | (rw [HE.out]; done) | (rw [HE.out]; rfl), below_new _ _⟩
                · have dh12 : ((k : Int) == 8) = false := by rw [beq_eq_false_iff_ne]; omega
                  have eh12 : ((k : Int) != 8) = true := by rw [bne_iff_ne]; omega
                  by_cases h13 : k = 9
                  · subst h13
                    have HE : Hid (rbB 9 b = (b == 5)) := by
                      show rbB 9 b = _
                      unfold rbB
                      rw [if_neg (by decide), if_neg (by decide), if_neg (by decide), if_neg (by decide), if_neg (by decide), if_neg (by decide), if_neg (by decide), if_neg (by decide), if_pos rfl]
                    go_enter Tryd.func63, Tryd.ntmps63
                    go_wp2
                    go_ret
                    exact ⟨by first | (rw [HE.out]; done) | (rw [HE.out]; rfl), below_new _ _⟩
                  · have dh13 : ((k : Int) == 9) = false := by rw [beq_eq_false_iff_ne]; omega
                    have eh13 : ((k : Int) != 9) = true := by rw [bne_iff_ne]; omega
                    have HE : Hid (rbB k b = (false)) := by
                      show rbB k b = _
                      unfold rbB
                      rw [if_neg h1, if_neg h3, if_neg h5, if_neg h7, if_neg h9, if_neg h10, if_neg h11, if_neg h12, if_neg h13]
                    go_enter Tryd.func63, Tryd.ntmps63
                    go_wp2
                    go_ret
                    exact ⟨by first | (rw [HE.out]; done) | (rw [HE.out]; rfl), below_new _ _⟩

end Go.Proofs.YtcmndefjmhcbhaaDoor
