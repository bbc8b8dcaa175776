/- The search for all leaves, sixth part: word and table, level by level. -/
import Derived.Test.YtjhplcpaaghleaaDoorAllE
namespace Go.Proofs.YtjhplcpaaghleaaDoor
open Go.RowKit Go.Maps

theorem mf_range (S : Nat) (l : Int) (x : Nat) : mf S l x = 0 ∨ mf S l x = 1 ∨ (mf S l x ≠ 0 ∧ mf S l x ≠ 1) := by
  by_cases h0 : mf S l x = 0
  · exact Or.inl h0
  · by_cases h1 : mf S l x = 1
    · exact Or.inr (Or.inl h1)
    · exact Or.inr (Or.inr ⟨h0, h1⟩)

set_option maxHeartbeats 1000000 in
theorem table_err (l : Int) (tb va : Nat) (htm : tb % 4096 = 0) (htl : tb < 18446744073709551616) {w0 w : World} {X : Nat → Prop} {a S n : Nat} {f : Nat → Nat} {most : Int} {st : SSt} {v : Value}
    (h : Srch w0 w a most st v) (hM0 : MemAt w0 X a S n f) (he : errA S tb ≠ 0) :
    Calls Tryd.prog 41 #[.pointer (some ⟨w0.heap.size, 0, none⟩), .int .i64 l, .int .u64 tb, .int .u64 va] w fun e w' => ∃ v', e = .returned (.bool true) ∧ Srch w0 w' a most st v' := by
  have HS := Hid.mk h
  have HM := Hid.mk hM0
  have hE := fun w1 => entry_any tb 0 (by omega) htm htl w1
  have hRd := fun (w1 : World) (hm : MemAt w1 X a S n f) => read_q hm (tb + 8 * 0) (by omega)
  rw [show tb + 8 * 0 = tb by omega] at hE hRd
  generalize errA S tb = E at *
  generalize f tb = x at *
  clear h hM0 htm htl
  go_enter Tryd.func41, Tryd.ntmps41
  go_wp2
  go_loopw [12] (fun s12 wr => s12 = .int .i64 (0 : Nat) ∧ Srch w0 wr a most st v) (fun _ _ => 0)
  case atStart => exact ⟨rfl, HS.out⟩
  case round =>
    clear HS
    obtain ⟨rfl, hs⟩ := hrel
    have HS := Hid.mk hs
    obtain ⟨c0, -, -, -⟩ := cells4 hs.row
    clear hs
    go_wp2
    go_quiet (first
      | (go_at_call 48; refine Calls.quiet_of_same ((hE _).mono (fun e w1 hh => ⟨hh.1, hh.2.symm⟩)))
      | (go_at_call 50; refine Calls.quiet_of ((hRd _ (HM.out.below (below_tr HS.out.bel (below_drewN ⟨_, rfl⟩)))).mono (fun e w1 hh => ⟨hh.1, hh.2⟩))))
    go_wp2
    go_ret
    exact ⟨v, rfl, HS.out.later (below_drewN ⟨_, rfl⟩)⟩

def subS (S : Nat) (f : Nat → Nat) (most : Int) : Nat → Nat → Nat → SSt → Bool × SSt
  | 0 => fun _ _ s => (true, s)
  | k + 1 => tblS S f most k
theorem tblS_eq (S : Nat) (f : Nat → Nat) (most : Int) (k tb va : Nat) (st : SSt) : tblS S f most k tb va st = if errA S tb ≠ 0 then (true, st) else rowS (fun i st => wordS S most (3 - (k : Int)) (subS S f most k) (f (tb + 8 * i)) (va + i * 2 ^ lowK (3 - (k : Int))) st) 512 0 st := by
  cases k with
  | zero => rfl
  | succ k => rfl
theorem subS_ok (S : Nat) (f : Nat → Nat) (most : Int) (k tb va : Nat) (st : SSt) (h1 : st.1 ≤ 8192) (h2 : st.2.length ≤ st.1) : okS (subS S f most k tb va st) := by
  cases k with
  | zero => exact ⟨fun _ => h1, h2, by show st.1 ≤ _; omega⟩
  | succ k => exact tblS_ok S f most k tb va st h1 h2

theorem table_any {w0 : World} {X : Nat → Prop} {a S n : Nat} {f : Nat → Nat} {most : Int} (hM0 : MemAt w0 X a S n f) (hF0 : Flds w0) : ∀ (k tb va : Nat) (st : SSt) (v : Value) (w : World), k ≤ 3 → tb % 4096 = 0 → tb < 18446744073709551616 → va + 512 * 2 ^ lowK (3 - (k : Int)) ≤ 281474976710656 → st.1 ≤ 8192 → st.2.length ≤ st.1 → Srch w0 w a most st v →
    Calls Tryd.prog 41 #[.pointer (some ⟨w0.heap.size, 0, none⟩), .int .i64 (3 - (k : Int)), .int .u64 tb, .int .u64 va] w fun e w' => ∃ v', e = .returned (.bool (tblS S f most k tb va st).1) ∧ Srch w0 w' a most (tblS S f most k tb va st).2 v' := by
  have hS : S ≤ 4294967296 := by obtain ⟨_, _, h⟩ := hM0; exact h.s0.2.1
  have hcS : w0.cell? ⟨a, 0, none⟩ = some (.int .u64 (S : Nat)) := by obtain ⟨_, _, h⟩ := hM0; exact h.c0
  have hfl : ∀ x, f x < 18446744073709551616 := by obtain ⟨_, _, h⟩ := hM0; exact h.fl
  intro k
  induction k with
  | zero =>
    intro tb va st v w hk htm htl hva h1 h2 h
    rw [tblS_eq]
    by_cases he : errA S tb = 0
    · rw [if_neg (fun c => c he)]
      have hlv : isLv (3 - ((0 : Nat) : Int)) = true := by decide
      refine table_row _ (lowK (3 - ((0 : Nat) : Int))) tb va (by decide) htm htl (by omega) h hM0 he h1 h2 _ (fun i s q1 q2 => wordS_ok q1 q2 (fun tb va s q3 q4 => subS_ok S f most 0 tb va s q3 q4)) ?_
      intro i s v1 w1 hi q1 q2 hs
      rcases mf_range S (3 - ((0 : Nat) : Int)) (f (tb + 8 * i)) with hm | hm | hm
      · exact word_leaf _ _ _ hlv (hfl _) hs hF0 hcS hS _ hm (rdK_deep _) q1 q2
      · exact word_miss _ _ _ hlv (hfl _) hs hF0 hcS hS _ hm
      · exact word_bad _ _ _ hlv (hfl _) hs hF0 hcS hS _ hm.1 hm.2 q1
    · rw [if_pos he]
      exact table_err _ tb va htm htl h hM0 he
  | succ k ih =>
    intro tb va st v w hk htm htl hva h1 h2 h
    rw [tblS_eq]
    by_cases he : errA S tb = 0
    · rw [if_neg (fun c => c he)]
      have hlv : isLv (3 - ((k + 1 : Nat) : Int)) = true := decide_eq_true (by omega)
      have hlv2 : isLv (3 - (k : Int)) = true := decide_eq_true (by omega)
      have hv1 := lowK_val hlv
      have hv2 := lowK_val hlv2
      have hbt : (3 - ((k + 1 : Nat) : Int) = 0 ∧ lowK (3 - ((k + 1 : Nat) : Int)) = 39) ∨ (3 - ((k + 1 : Nat) : Int) = 1 ∧ lowK (3 - ((k + 1 : Nat) : Int)) = 30) ∨ (3 - ((k + 1 : Nat) : Int) = 2 ∧ lowK (3 - ((k + 1 : Nat) : Int)) = 21) ∨ (3 - ((k + 1 : Nat) : Int) = 3 ∧ lowK (3 - ((k + 1 : Nat) : Int)) = 12) := by omega
      refine table_row _ (lowK (3 - ((k + 1 : Nat) : Int))) tb va hbt htm htl (by omega) h hM0 he h1 h2 _ (fun i s q1 q2 => wordS_ok q1 q2 (fun tb va s q3 q4 => subS_ok S f most (k + 1) tb va s q3 q4)) ?_
      intro i s v1 w1 hi q1 q2 hs
      rcases mf_range S (3 - ((k + 1 : Nat) : Int)) (f (tb + 8 * i)) with hm | hm | hm
      · by_cases hk1 : rdK (3 - ((k + 1 : Nat) : Int)) (f (tb + 8 * i)) = 1
        · refine word_tab _ _ _ hlv (hfl _) hs hF0 hcS hS _ hm hk1 q1 ?_
          intro w2 hs2 hin
          have e : 3 - ((k + 1 : Nat) : Int) + 1 = 3 - (k : Int) := by omega
          rw [e]
          have hp : 512 * 2 ^ lowK (3 - (k : Int)) = 2 ^ lowK (3 - ((k + 1 : Nat) : Int)) := by
            have : lowK (3 - ((k + 1 : Nat) : Int)) = lowK (3 - (k : Int)) + 9 := by omega
            rw [this, Nat.pow_add, Nat.mul_comm]
          refine ih _ _ _ _ _ (by omega) (rdO_mod _) (rdO_lt _) ?_ (inB_le hin).2 (by show s.2.length ≤ s.1 + 1; omega) hs2
          rw [hp]
          have : i * 2 ^ lowK (3 - ((k + 1 : Nat) : Int)) + 2 ^ lowK (3 - ((k + 1 : Nat) : Int)) ≤ 512 * 2 ^ lowK (3 - ((k + 1 : Nat) : Int)) := by
            rw [← Nat.succ_mul]; exact Nat.mul_le_mul_right _ hi
          omega
        · exact word_leaf _ _ _ hlv (hfl _) hs hF0 hcS hS _ hm hk1 q1 q2
      · exact word_miss _ _ _ hlv (hfl _) hs hF0 hcS hS _ hm
      · exact word_bad _ _ _ hlv (hfl _) hs hF0 hcS hS _ hm.1 hm.2 q1
    · rw [if_pos he]
      exact table_err _ tb va htm htl h hM0 he
end Go.Proofs.YtjhplcpaaghleaaDoor
