/- The walks of package desc, eighth part: registers. -/
import Derived.Test.YtndjhedoandinaaGreatDoorDescMath
import Derived.Test.YtndjhedoandinaaGreatDoorDescG
import Derived.OwnWalk
namespace Go.Proofs.YtndjhedoandinaaGreatDoor
open Go.RowKit

/-- The third variable of package desc: the field of a register's ASID. -/
structure Asid (w : World) : Prop where
  s0 : w.cell? ⟨1, 0, none⟩ = some (.int .i64 48)
  s1 : w.cell? ⟨1, 1, none⟩ = some (.int .i64 8)
theorem Asid.later {w w' : World} (h : Asid w) (hb : Below w.heap.size w w') : Asid w' := ⟨cell_later hb h.s0, cell_later hb h.s1⟩

set_option maxHeartbeats 2000000 in
theorem base_align (x : Nat) (n : Int) (hx : x < 18446744073709551616) (ha : alignedB x 12 = false) (w : World) :
    Calls Tryz.prog 83 #[.int .u64 x, .int .i64 n] w fun e w' => e = .returned (.tuple #[.int .u64 0, .int .i64 13]) ∧ w = w' := by
  have cA := fun w1 => aligned_any x 12 hx w1
  rw [ha] at cA
  go_enter Tryz.func83, Tryz.ntmps83
  go_wp2_with (go_at_call 74; refine (cA _).mono ?_; rintro e w1 ⟨rfl, rfl⟩)
  go_ret2
  exact ⟨rfl, rfl⟩

set_option maxHeartbeats 2000000 in
theorem base_range (x : Nat) (n : Int) (hx : x < 18446744073709551616) (ha : alignedB x 12 = true) (ho : isOutB x 12 = false ∨ n < 0 ∨ 255 < n) (w : World) (hF : Flds w) :
    Calls Tryz.prog 83 #[.int .u64 x, .int .i64 n] w fun e w' => e = .returned (.tuple #[.int .u64 0, .int .i64 12]) ∧ Below w.heap.size w w' := by
  have cA := fun w1 => aligned_any x 12 hx w1
  have cO := fun w1 h => isOut_any x 12 hx w1 h
  rw [ha] at cA
  cases hb : isOutB x 12
  · rw [hb] at cO
    clear ho hb
    go_enter Tryz.func83, Tryz.ntmps83
    go_wp2_with (first
      | (go_at_call 74; refine (cA _).mono ?_; rintro e w1 ⟨rfl, rfl⟩)
      | (go_at_call 121; refine (cO _ hF).mono ?_; rintro e w1 ⟨rfl, hbm⟩))
    go_ret2
    exact ⟨rfl, hbm⟩
  · rw [hb] at cO
    by_cases h0 : n < 0
    · have d0 : decide (n < 0) = true := decide_eq_true h0
      clear ho hb
      go_enter Tryz.func83, Tryz.ntmps83
      go_wp2_with (first
        | (go_at_call 74; refine (cA _).mono ?_; rintro e w1 ⟨rfl, rfl⟩)
        | (go_at_call 121; refine (cO _ hF).mono ?_; rintro e w1 ⟨rfl, hbm⟩))
      go_ret2
      exact ⟨rfl, hbm⟩
    · have d0 : decide (n < 0) = false := decide_eq_false h0
      have h1 : 255 < n := by rcases ho with h | h | h
                              · rw [hb] at h; cases h
                              · exact absurd h h0
                              · exact h
      have d1 : decide (255 < n) = true := decide_eq_true h1
      clear ho hb
      go_enter Tryz.func83, Tryz.ntmps83
      go_wp2_with (first
        | (go_at_call 74; refine (cA _).mono ?_; rintro e w1 ⟨rfl, rfl⟩)
        | (go_at_call 121; refine (cO _ hF).mono ?_; rintro e w1 ⟨rfl, hbm⟩))
      go_ret2
      exact ⟨rfl, hbm⟩

theorem right488 : rightB ((48 : Nat) : Int) ((8 : Nat) : Int) = true := by decide

set_option maxHeartbeats 2000000 in
theorem base_ok (x n : Nat) (hx : x < 18446744073709551616) (ha : alignedB x 12 = true) (ho : isOutB x 12 = true) (hn : n ≤ 255) (w : World) (hF : Flds w) (hS : Asid w) :
    Calls Tryz.prog 83 #[.int .u64 x, .int .i64 (n : Int)] w fun e w' => e = .returned (.tuple #[.int .u64 ((x + n * 281474976710656 : Nat) : Int), .int .i64 0]) ∧ Below w.heap.size w w' := by
  have cA := fun w1 => aligned_any x 12 hx w1
  have cO := fun w1 h => isOut_any x 12 hx w1 h
  have hlt : x < 281474976710656 ∧ x % 4096 = 0 := by
    have := isOut_mod x 12 hx (by omega) (by omega)
    rw [show ((12 : Nat) : Int) = 12 from rfl, ho] at this
    exact of_decide_eq_true this.symm
  have hP : putX 48 8 x n = x + n * 281474976710656 := by
    have h := putX_mod right488 (v := n) (by omega) x hx
    rw [show putX 48 8 x n = putX ((48 : Nat) : Int) ((8 : Nat) : Int) x n from rfl, h]
    omega
  have hE : putE 48 8 n = 0 := by
    have : ones 8 = 255 := by decide +kernel
    unfold putE; rw [if_neg (by decide), if_neg (by omega)]
  have cP := fun w1 => put_any 48 8 x n hx w1
  have hwr : IntKind.u64.wrap (n : Int) = (n : Int) := by rw [IntKind.wrap_u64]; omega
  rw [hP, hE] at cP
  rw [ha] at cA
  rw [ho] at cO
  have h0 : ¬ (n : Int) < 0 := by omega
  have d0 : decide ((n : Int) < 0) = false := decide_eq_false h0
  have h1 : ¬ 255 < (n : Int) := by omega
  have h2 : ¬ 255 < n := by omega
  have d1 : decide (255 < (n : Int)) = false := decide_eq_false h1
  generalize x + n * 281474976710656 = V at *
  clear hP hE hlt ha ho
  go_enter Tryz.func83, Tryz.ntmps83
  go_wp2_with (first
    | (go_at_call 74; refine (cA _).mono ?_; rintro e w1 ⟨rfl, rfl⟩)
    | (go_at_call 121; refine (cO _ hF).mono ?_; rintro e w1 ⟨rfl, hbm⟩; have s0 := (hS.later hbm).s0; have s1 := (hS.later hbm).s1)
    | (go_at_call 122; refine (cP _).mono ?_; rintro e w2 ⟨rfl, hb2⟩))
  go_ret2
  exact ⟨rfl, below_tr hbm hb2⟩

/-- A word without what a register may have. -/
def restR (x : Nat) : Nat := restV x [(12, 36), (48, 8)]
theorem restR_mod (x : Nat) (hx : x < 18446744073709551616) : restR x = x / 72057594037927936 * 72057594037927936 + x % 4096 := by
  show andn (restV x [(12, 36)]) (maskV 48 8) = _
  have h := andn_mod right488 (restV x [(12, 36)]) (restV_lt x hx _)
  rw [show maskV 48 8 = maskV ((48 : Nat) : Int) ((8 : Nat) : Int) from rfl, h, rest_out x hx]
  omega

set_option maxHeartbeats 2000000 in
theorem readBase_bad (x : Nat) (hx : x < 18446744073709551616) (h : restR x ≠ 0) (w : World) (hF : Flds w) (hS : Asid w) :
    Calls Tryz.prog 45 #[.int .u64 x] w fun e w' => e = .returned (.tuple #[.int .u64 0, .int .i64 0, .int .i64 10]) ∧ Below w.heap.size w w' := by
  have o0 := hF.o0
  have o1 := hF.o1
  have s0 := hS.s0
  have s1 := hS.s1
  have hne : ((restR x : Int) != 0) = true := by rw [bne_iff_ne]; omega
  go_enter Tryz.func45, Tryz.ntmps45
  go_wp2_with fail
  refine (rest_some x hx [(12, 36), (48, 8)] _ _ (by decide) _ (fun i hi => ?_) (fun i hi => ?_)).mono ?_
  · simp at hi
    rcases (show i = 0 ∨ i = 1 by omega) with rfl | rfl <;> simp
  · simp at hi
    rcases (show i = 0 ∨ i = 1 by omega) with rfl | rfl <;> simp
  rintro e w1 ⟨rfl, hb⟩
  rw [show restV x [(12, 36), (48, 8)] = restR x from rfl]
  generalize restR x = R at *
  go_wp2
  go_ret3
  exact ⟨rfl, below_tr (below_new _ _) hb⟩

set_option maxHeartbeats 2000000 in
theorem readBase_ok (x : Nat) (hx : x < 18446744073709551616) (h : restR x = 0) (w : World) (hF : Flds w) (hS : Asid w) :
    Calls Tryz.prog 45 #[.int .u64 x] w fun e w' => e = .returned (.tuple #[.int .u64 ((outV x : Nat) : Int), .int .i64 ((getV 48 8 x : Nat) : Int), .int .i64 0]) ∧ Below w.heap.size w w' := by
  have o0 := hF.o0
  have o1 := hF.o1
  have s0 := hS.s0
  have s1 := hS.s1
  have hO : bits BinOp.and IntKind.u64 (x : Int) ((maskV 12 36 : Nat) : Int) = ((outV x : Nat) : Int) := bits_and_u64_nat _ _ hx (maskV_lt _ _)
  have hw : IntKind.i64.wrap ((getV 48 8 x : Nat) : Int) = ((getV 48 8 x : Nat) : Int) := by
    have := getV_mod right488 x
    rw [show getV 48 8 x = getV ((48 : Nat) : Int) ((8 : Nat) : Int) x from rfl, this, IntKind.wrap_i64]; omega
  have cM := fun w1 => mask_any 12 36 w1
  have cG := fun w1 => get_any 48 8 x hx w1
  generalize getV 48 8 x = G at *
  generalize outV x = O at *
  generalize maskV 12 36 = M at *
  go_enter Tryz.func45, Tryz.ntmps45
  go_wp2_with fail
  refine (rest_some x hx [(12, 36), (48, 8)] _ _ (by decide) _ (fun i hi => ?_) (fun i hi => ?_)).mono ?_
  · simp at hi
    rcases (show i = 0 ∨ i = 1 by omega) with rfl | rfl <;> simp
  · simp at hi
    rcases (show i = 0 ∨ i = 1 by omega) with rfl | rfl <;> simp
  rintro e w1 ⟨rfl, hb⟩
  rw [show restV x [(12, 36), (48, 8)] = restR x from rfl, h]
  have hB : Below w.heap.size w w1 := below_tr (below_new _ _) hb
  have p0 := cell_later hB o0
  have p1 := cell_later hB o1
  have p2 := cell_later hB s0
  have p3 := cell_later hB s1
  clear hb o0 o1 s0 s1 hF hS h
  go_wp2
  go_region_held3 (fun w' => w'.cell? ⟨0, 0, none⟩ = some (.int .i64 12) ∧ w'.cell? ⟨0, 1, none⟩ = some (.int .i64 36) ∧ w'.cell? ⟨1, 0, none⟩ = some (.int .i64 48) ∧ w'.cell? ⟨1, 1, none⟩ = some (.int .i64 8) ∧ Below w.heap.size w w')
    ((go_split_ands; refine ⟨?_, ?_, ?_, ?_, ?_⟩ <;> first | (assumption; done) | exact cell_later hbm (by assumption) | exact below_tr (by assumption) hbm | exact Below.drew (by assumption) | (go_keep; done)))
    (first
      | (go_at_call 85; refine (cM _).mono ?_; rintro e w' ⟨rfl, hbm⟩)
      | (go_at_call 86; refine (cG _).mono ?_; rintro e w' ⟨rfl, hbm⟩))
  all_goals go_wp2
  all_goals go_ret3
  all_goals exact ⟨rfl, by go_split_ands; assumption⟩

end Go.Proofs.YtndjhedoandinaaGreatDoor
