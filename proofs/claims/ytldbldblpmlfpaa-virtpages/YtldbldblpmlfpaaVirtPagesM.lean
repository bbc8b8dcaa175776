/- The walk of Pages behind its first tests. -/
import Derived.Test.YtldbldblpmlfpaaVirtPagesW
namespace Go.Proofs.Ytldbldblpmlfpaa
open Go.RowKit

/-- The facts that both of the ways behind the first tests want. -/
theorem pages_facts {va n : Nat} {l : Int} (hl : isLv l = true) (hn : n ≠ 0) (hv : va < 281474976710656) (ho : n ≤ 281474976710656 - va) :
    baseV va l ≤ baseV (va + n - 1) l ∧ baseV (va + n - 1) l < 281474976710656 := by
  refine ⟨?_, baseV_lt _ _⟩
  unfold baseV baseN
  rw [if_pos hl, if_pos hl, Nat.mod_eq_of_lt hv, Nat.mod_eq_of_lt (show va + n - 1 < 281474976710656 by omega)]
  exact Nat.mul_le_mul_right _ (Nat.div_le_div_right (by omega))

set_option maxRecDepth 100000 in
set_option maxHeartbeats 2000000 in
theorem pages_many (va n : Nat) (l : Int) (hn : n ≠ 0) (hl : isLv l = true) (hv : va < 281474976710656) (ho : n ≤ 281474976710656 - va)
    (hc : 512 < cntN (baseV va l) (baseV (va + n - 1) l) (lowK l)) (w : World) :
    Calls Try.prog 20 #[.int .u64 va, .int .u64 n, .int .i64 l] w fun e w' => e = .returned (.tuple #[.slice none 0 0, .bool false]) ∧ w = w' := by
  have hne : ((n : Int) == 0) = false := by rw [beq_eq_false_iff_ne]; omega
  have hv1 : lowB va = true := decide_eq_true hv
  have cF := fun w1 => base_any va l (by omega) w1
  have cL := fun w1 => base_any (va + n - 1) l (by omega) w1
  have cD := fun w1 => dbits_any l w1
  obtain ⟨eK, k1, k2, -⟩ := lowK_eq hl
  rw [eK] at cD
  obtain ⟨hFL, hL⟩ := pages_facts hl hn hv ho
  have eA : ((va + n - 1 : Nat) : Int) = (va : Int) + (n : Int) - 1 := by omega
  rw [eA] at cL
  have hd : decide ((281474976710656 : Int) - (va : Int) < (n : Int)) = false := decide_eq_false (by omega)
  have hv2 : (va : Int) < 281474976710656 := by omega
  have ho2 : ¬ (281474976710656 : Int) - (va : Int) < (n : Int) := by omega
  have hn1 : (1 : Int) ≤ (n : Int) := by omega
  generalize baseV va l = F at *
  generalize baseV (va + n - 1) l = L at *
  have hQ : ((L : Int) - (F : Int)) / 2 ^ lowK l = (((L - F) / 2 ^ lowK l : Nat) : Int) := by
    rw [← Int.ofNat_sub hFL]; simp
  unfold cntN at hc
  have hQl : (L - F) / 2 ^ lowK l < 281474976710656 := Nat.lt_of_le_of_lt (Nat.div_le_self _ _) (by omega)
  generalize (L - F) / 2 ^ lowK l = Q at *
  generalize lowK l = K at *
  clear ho hv eK
  have hc2 : (512 : Int) < (Q : Int) + 1 := by omega
  have hQl2 : (Q : Int) < 281474976710656 := by omega
  clear hc hQl
  go_enter Try.func20, Try.ntmps20
  go_wp2_with (first
    | (go_at_call 22; refine (vlevel_any _ _).mono ?_; rintro e w' ⟨rfl, rfl⟩; rw [hl])
    | (go_at_call 9; refine (low_any _ _).mono ?_; rintro e w' ⟨rfl, rfl⟩; rw [hv1])
    | (go_at_call 17; refine (cD _).mono ?_; rintro e w' ⟨rfl, rfl⟩)
    | fail)
  refine (cF _).mono ?_
  rintro e w1 ⟨rfl, rfl⟩
  go_wp2_with fail
  refine (cL _).mono ?_
  rintro e w1 ⟨rfl, rfl⟩
  clear hne hd hn1 cD cF cL eA hn
  go_wp2
  go_ret2
  exact ⟨rfl, rfl⟩

theorem pg_step {w : World} {b t c F K i : Nat} (h : w.rowIs b t c (fun j => .int .u64 ((pg F K i j : Nat) : Int))) :
    (w.setCell ⟨b, i, none⟩ (.int .u64 ((F + i * 2 ^ K : Nat) : Int))).rowIs b t c (fun j => .int .u64 ((pg F K (i + 1) j : Nat) : Int)) := by
  refine (h.set i _).congr fun j _ => ?_
  by_cases e : j = i
  · subst e
    rw [if_pos rfl]; unfold pg; rw [if_pos (by omega)]
  · rw [if_neg e]; unfold pg
    by_cases h2 : j < i
    · rw [if_pos h2, if_pos (by omega)]
    · rw [if_neg h2, if_neg (by omega)]

set_option maxRecDepth 100000 in
set_option maxHeartbeats 4000000 in
theorem pages_ok (va n : Nat) (l : Int) (hn : n ≠ 0) (hl : isLv l = true) (hv : va < 281474976710656) (ho : n ≤ 281474976710656 - va)
    (hc : cntN (baseV va l) (baseV (va + n - 1) l) (lowK l) ≤ 512) (w : World) :
    Calls Try.prog 20 #[.int .u64 va, .int .u64 n, .int .i64 l] w fun e w' =>
      e = .returned (.tuple #[.slice (some ⟨w.heap.size, 0, none⟩) (cntN (baseV va l) (baseV (va + n - 1) l) (lowK l)) (cntN (baseV va l) (baseV (va + n - 1) l) (lowK l)), .bool true]) ∧
      Below w.heap.size w w' ∧ w'.rowIs w.heap.size 22 (cntN (baseV va l) (baseV (va + n - 1) l) (lowK l)) (fun j => .int .u64 ((pg (baseV va l) (lowK l) (cntN (baseV va l) (baseV (va + n - 1) l) (lowK l)) j : Nat) : Int)) := by
  have hne : ((n : Int) == 0) = false := by rw [beq_eq_false_iff_ne]; omega
  have hv1 : lowB va = true := decide_eq_true hv
  have cF := fun w1 => base_any va l (by omega) w1
  have cL := fun w1 => base_any (va + n - 1) l (by omega) w1
  have cD := fun w1 => dbits_any l w1
  obtain ⟨eK, k1, k2, -⟩ := lowK_eq hl
  rw [eK] at cD
  obtain ⟨hFL, hL⟩ := pages_facts hl hn hv ho
  have eA : ((va + n - 1 : Nat) : Int) = (va : Int) + (n : Int) - 1 := by omega
  rw [eA] at cL
  have hd : decide ((281474976710656 : Int) - (va : Int) < (n : Int)) = false := decide_eq_false (by omega)
  have hv2 : (va : Int) < 281474976710656 := by omega
  have ho2 : ¬ (281474976710656 : Int) - (va : Int) < (n : Int) := by omega
  have hn1 : (1 : Int) ≤ (n : Int) := by omega
  generalize baseV va l = F at *
  generalize baseV (va + n - 1) l = L at *
  have hQ : ((L : Int) - (F : Int)) / 2 ^ lowK l + 1 = ((cntN F L (lowK l) : Nat) : Int) := by
    unfold cntN
    rw [← Int.ofNat_sub hFL]; simp
  have hQp : 0 ≤ ((L : Int) - (F : Int)) / 2 ^ lowK l := by
    have : 1 ≤ cntN F L (lowK l) := by exact Nat.le_add_left 1 _
    omega
  generalize cntN F L (lowK l) = C at *
  generalize lowK l = K at *
  have hQ2 : ((L : Int) - (F : Int)) / 2 ^ K < 281474976710656 := by omega
  have hpow : 2 ^ K ≤ 549755813888 := by
    have : 2 ^ K ≤ 2 ^ 39 := Nat.pow_le_pow_right (by omega) k2
    omega
  have hmk := run_make_row' (P := Try.prog) 42 22 (.int .u64 0) 8 Try.underlying42 info_u64 rfl .u64 .u64 C (by omega) (by omega)
  have hF : F < 281474976710656 := by omega
  have hC : (C : Int) ≤ 512 := by omega
  have hd2 : decide ((512 : Int) < (C : Int)) = false := decide_eq_false (by omega)
  clear ho hv eK eA
  go_enter Try.func20, Try.ntmps20
  go_wp2_with (first
    | (go_at_call 22; refine (vlevel_any _ _).mono ?_; rintro e w' ⟨rfl, rfl⟩; rw [hl])
    | (go_at_call 9; refine (low_any _ _).mono ?_; rintro e w' ⟨rfl, rfl⟩; rw [hv1])
    | (go_at_call 17; refine (cD _).mono ?_; rintro e w' ⟨rfl, rfl⟩)
    | fail)
  refine (cF _).mono ?_
  rintro e w1 ⟨rfl, rfl⟩
  go_wp2_with fail
  refine (cL _).mono ?_
  rintro e w1 ⟨rfl, rfl⟩
  clear cF cL cD hne hd hn1
  go_wp2
  clear hmk hQ hQp hQ2 hL hFL hv2 ho2 hv1 hd2
  go_loopw [54] (fun t wr => ∃ i : Nat, i ≤ C ∧ t = .int .u64 i ∧ Below w.heap.size w wr ∧ wr.rowIs w.heap.size 22 C (fun j => .int .u64 ((pg F K i j : Nat) : Int))) (fun t _ => C - (intOf t).toNat)
  case atStart =>
    exact ⟨0, by omega, rfl, below_new _ _, (World.rowIs_made w (.int .u64 0) C 22).congr fun j _ => rfl⟩
  case round =>
    obtain ⟨i, hi, rfl, hB, hR⟩ := hrel
    by_cases hlt : i < C
    · have hst : wr.cell? ⟨w.heap.size, i, none⟩ = some (.int .u64 ((pg F K i i : Nat) : Int)) := hR.cell hlt
      have hfr : wr.frozen? ⟨w.heap.size, i, none⟩ = false := hR.frozen i
      have hm : i * 2 ^ K < 281474976710656 := by
        have h1 : i * 2 ^ K ≤ 511 * 2 ^ K := Nat.mul_le_mul_right _ (by omega)
        omega
      have hw : IntKind.u64.wrap ((i : Int) * 2 ^ K) = ((i * 2 ^ K : Nat) : Int) := by
        have e : ((i : Int) * 2 ^ K) = ((i * 2 ^ K : Nat) : Int) := by simp
        rw [e, IntKind.wrap_u64]; omega
      have HE : Hid (((F + i * 2 ^ K : Nat) : Int) = (F : Int) + ((i * 2 ^ K : Nat) : Int)) := by
        show _ = _
        omega
      have HR : Hid _ := pg_step hR
      have hltI : (i : Int) < (C : Int) := by omega
      have hdI : decide ((i : Int) < (C : Int)) = true := decide_eq_true hltI
      have hiI : (i : Int) < 512 := by omega
      rw [HE.out] at HR
      clear HE hR hpow
      generalize i * 2 ^ K = M at *
      generalize pg F K i i = old at *
      go_wp2
      refine ⟨⟨i + 1, by omega, by go_num, hB.setCell (Nat.le_refl _) _, HR.out⟩, by simp [intOf]; omega⟩
    · obtain rfl : i = C := by omega
      have hdI : decide ((i : Int) < (i : Int)) = false := decide_eq_false (by omega)
      clear hpow
      go_wp2
      go_ret2
      exact ⟨rfl, hB, hR⟩
end Go.Proofs.Ytldbldblpmlfpaa
