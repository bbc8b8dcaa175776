/- The walk of Pages: the bases of all stretches that have some of so many bytes. -/
import Derived.Test.YtldbldblpmlfpaaVirtA
import Derived.Deep.OwnRows
namespace Go.Proofs.Ytldbldblpmlfpaa
open Go.RowKit

theorem info_u64 : (Try.prog.info? 22).map (fun i => (i.zero, i.size, i.bytes)) = some (some (.int .u64 0), 1, 8) := by kernel_rfl

/-- How many stretches there are from a base up to another one. -/
def cntN (F L K : Nat) : Nat := (L - F) / 2 ^ K + 1
/-- The bases, the first i of them laid. -/
def pg (F K i j : Nat) : Nat := if j < i then F + j * 2 ^ K else 0

theorem pages_zero (va : Nat) (l : Int) (w : World) :
    Calls Try.prog 20 #[.int .u64 va, .int .u64 0, .int .i64 l] w fun e w' => e = .returned (.tuple #[.slice none 0 0, .bool false]) ∧ w = w' := by
  go_enter Try.func20, Try.ntmps20
  go_wp2
  go_ret2
  exact ⟨rfl, rfl⟩

set_option maxHeartbeats 2000000 in
theorem pages_level (va n : Nat) (l : Int) (hn : n ≠ 0) (hl : isLv l = false) (w : World) :
    Calls Try.prog 20 #[.int .u64 va, .int .u64 n, .int .i64 l] w fun e w' => e = .returned (.tuple #[.slice none 0 0, .bool false]) ∧ w = w' := by
  have hne : ((n : Int) == 0) = false := by rw [beq_eq_false_iff_ne]; omega
  go_enter Try.func20, Try.ntmps20
  go_wp2_with (go_at_call 22; refine (vlevel_any _ _).mono ?_; rintro e w' ⟨rfl, rfl⟩; rw [hl])
  go_ret2
  exact ⟨rfl, rfl⟩

set_option maxHeartbeats 2000000 in
theorem pages_high (va n : Nat) (l : Int) (hn : n ≠ 0) (hl : isLv l = true) (hv : lowB va = false) (w : World) :
    Calls Try.prog 20 #[.int .u64 va, .int .u64 n, .int .i64 l] w fun e w' => e = .returned (.tuple #[.slice none 0 0, .bool false]) ∧ w = w' := by
  have hne : ((n : Int) == 0) = false := by rw [beq_eq_false_iff_ne]; omega
  go_enter Try.func20, Try.ntmps20
  go_wp2_with (first
    | (go_at_call 22; refine (vlevel_any _ _).mono ?_; rintro e w' ⟨rfl, rfl⟩; rw [hl])
    | (go_at_call 9; refine (low_any _ _).mono ?_; rintro e w' ⟨rfl, rfl⟩; rw [hv]))
  go_ret2
  exact ⟨rfl, rfl⟩

set_option maxHeartbeats 2000000 in
theorem pages_over (va n : Nat) (l : Int) (hl : isLv l = true) (hv : va < 281474976710656) (ho : 281474976710656 - va < n) (w : World) :
    Calls Try.prog 20 #[.int .u64 va, .int .u64 n, .int .i64 l] w fun e w' => e = .returned (.tuple #[.slice none 0 0, .bool false]) ∧ w = w' := by
  have hne : ((n : Int) == 0) = false := by rw [beq_eq_false_iff_ne]; omega
  have hv1 : lowB va = true := decide_eq_true hv
  have hd : decide ((281474976710656 : Int) - (va : Int) < (n : Int)) = true := decide_eq_true (by omega)
  have hv2 : (va : Int) < 281474976710656 := by omega
  have ho2 : (281474976710656 : Int) - (va : Int) < (n : Int) := by omega
  clear ho hv
  go_enter Try.func20, Try.ntmps20
  go_wp2_with (first
    | (go_at_call 22; refine (vlevel_any _ _).mono ?_; rintro e w' ⟨rfl, rfl⟩; rw [hl])
    | (go_at_call 9; refine (low_any _ _).mono ?_; rintro e w' ⟨rfl, rfl⟩; rw [hv1]))
  go_ret2
  exact ⟨rfl, rfl⟩
end Go.Proofs.Ytldbldblpmlfpaa
