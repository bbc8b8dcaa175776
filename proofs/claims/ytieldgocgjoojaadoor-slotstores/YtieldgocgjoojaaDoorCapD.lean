/- Capabilities, fourth part: what the document says is right. -/
import Derived.Test.YtieldgocgjoojaaDoorCapB
set_option linter.unusedVariables false
namespace Go.Proofs.YtieldgocgjoojaaDoor
open Go.RowKit

set_option maxHeartbeats 2000000 in
theorem pow_any (n : Nat) (hn : n ≤ 63) (w : World) :
    Calls Tryd.prog 49 #[.int .i64 (n : Int)] w fun e w' => e = .returned (.int .u64 ((2 ^ n : Nat) : Int)) ∧ w = w' := by
  go_enter Tryd.func49, Tryd.ntmps49
  go_wp2
  go_loop [3, 4] (fun p i => ∃ j : Nat, j ≤ n ∧ i = .int .i64 (j : Int) ∧ p = .int .u64 ((2 ^ j : Nat) : Int)) (fun _ i => n - (intOf i).toNat)
  case atStart => exact ⟨0, by omega, rfl, rfl⟩
  case round =>
    obtain ⟨j, hj, rfl, rfl⟩ := hrel
    by_cases hlt : j < n
    · have hl2 : (j : Int) < n := by omega
      have e3 : 2 ^ (j + 1) = 2 ^ j + 2 ^ j := by rw [Nat.pow_succ]; omega
      have e4 : 2 ^ (j + 1) ≤ 2 ^ 63 := Nat.pow_le_pow_right (by omega) (by omega)
      have HX : Hid (2 ^ (j + 1) = 2 ^ j + 2 ^ j) := e3
      have hb : 2 ^ j + 2 ^ j ≤ 9223372036854775808 := by omega
      clear e3 e4
      generalize 2 ^ j = p at *
      go_wp2
      exact ⟨⟨j + 1, by omega, by go_num, by rw [HX.out]; go_num⟩, by simp [intOf]; omega⟩
    · have e5 : j = n := by omega
      subst e5
      go_wp2
      go_ret
      exact ⟨rfl, rfl⟩
theorem pow_int (b : Int) (h0 : 0 ≤ b) (h1 : b ≤ 63) (w : World) :
    Calls Tryd.prog 49 #[.int .i64 b] w fun e w' => e = .returned (.int .u64 ((2 ^ b.toNat : Nat) : Int)) ∧ w = w' := by
  have h := pow_any b.toNat (by omega) w
  rw [show ((b.toNat : Nat) : Int) = b by omega] at h
  exact h

/-- How many bits an object's size has, by the document. -/
def szV (k b : Int) : Int := if k = 0 then (if b = 0 then (-1) else (-2)) else (if k = 6 then (if b = 0 then (-1) else (-2)) else (if k = 1 then (if 5 ≤ b then (if b ≤ 32 then (b) else (-2)) else (-2)) else (if k = 2 then (if 1 ≤ b then (if b ≤ 12 then (b + 5) else (-2)) else (-2)) else (if k = 10 then (if 1 ≤ b then (if b ≤ 12 then (b + 5) else (-2)) else (-2)) else (if k = 3 then (if b = 12 then (b) else (if b = 21 then (b) else (if b = 30 then (b) else (-2)))) else (if k = 4 then (if b = 12 then (12) else (-2)) else (if k = 5 then (if b = 12 then (12) else (-2)) else (if k = 7 then (if b = 12 then (12) else (-2)) else (if k = 8 then (if b = 7 then (b) else (-2)) else (if k = 9 then (if b = 5 then (b) else (-2)) else (-2)))))))))))
set_option maxHeartbeats 4000000 in
theorem size_any (k b : Int) (w : World) :
    Calls Tryd.prog 58 #[.int .i64 k, .int .i64 b] w fun e w' => e = .returned (.int .i64 (szV k b)) ∧ w = w' := by
  by_cases h1 : k = 0
  · subst h1
    by_cases h2 : b = 0
    · have dh2 : ((b : Int) == 0) = true := by rw [beq_iff_eq]; omega
      have eh2 : ((b : Int) != 0) = false := by rw [bne_eq_false_iff_eq]; omega
      have HE : Hid (szV 0 b = (-1)) := by
        show szV 0 b = _
        unfold szV
        rw [if_pos rfl, if_pos h2]
      go_enter Tryd.func58, Tryd.ntmps58
      go_wp2
      go_ret
      exact ⟨by first | (rw [HE.out]; done) | (rw [HE.out]; rfl), rfl⟩
    · have dh2 : ((b : Int) == 0) = false := by rw [beq_eq_false_iff_ne]; omega
      have eh2 : ((b : Int) != 0) = true := by rw [bne_iff_ne]; omega
      have HE : Hid (szV 0 b = (-2)) := by
        show szV 0 b = _
        unfold szV
        rw [if_pos rfl, if_neg h2]
      go_enter Tryd.func58, Tryd.ntmps58
      go_wp2
      go_ret
      exact ⟨by first | (rw [HE.out]; done) | (rw [HE.out]; rfl), rfl⟩
  · have dh1 : ((k : Int) == 0) = false := by rw [beq_eq_false_iff_ne]; omega
    have eh1 : ((k : Int) != 0) = true := by rw [bne_iff_ne]; omega
    by_cases h3 : k = 6
    · subst h3
      by_cases h4 : b = 0
      · have dh4 : ((b : Int) == 0) = true := by rw [beq_iff_eq]; omega
        have eh4 : ((b : Int) != 0) = false := by rw [bne_eq_false_iff_eq]; omega
        have HE : Hid (szV 6 b = (-1)) := by
          show szV 6 b = _
          unfold szV
          rw [if_neg (by decide), if_pos rfl, if_pos h4]
        go_enter Tryd.func58, Tryd.ntmps58
        go_wp2
        go_ret
        exact ⟨by first | (rw [HE.out]; done) | (rw [HE.out]; rfl), rfl⟩
      · have dh4 : ((b : Int) == 0) = false := by rw [beq_eq_false_iff_ne]; omega
        have eh4 : ((b : Int) != 0) = true := by rw [bne_iff_ne]; omega
        have HE : Hid (szV 6 b = (-2)) := by
          show szV 6 b = _
          unfold szV
          rw [if_neg (by decide), if_pos rfl, if_neg h4]
        go_enter Tryd.func58, Tryd.ntmps58
        go_wp2
        go_ret
        exact ⟨by first | (rw [HE.out]; done) | (rw [HE.out]; rfl), rfl⟩
    · have dh3 : ((k : Int) == 6) = false := by rw [beq_eq_false_iff_ne]; omega
      have eh3 : ((k : Int) != 6) = true := by rw [bne_iff_ne]; omega
      by_cases h5 : k = 1
      · subst h5
        by_cases h6 : 5 ≤ b
        · have dh6 : decide ((5 : Int) ≤ b) = true := decide_eq_true (by omega)
          by_cases h7 : b ≤ 32
          · have dh7 : decide ((b : Int) ≤ 32) = true := decide_eq_true (by omega)
            have HE : Hid (szV 1 b = (b)) := by
              show szV 1 b = _
              unfold szV
              rw [if_neg (by decide), if_neg (by decide), if_pos rfl, if_pos h6, if_pos h7]
            go_enter Tryd.func58, Tryd.ntmps58
            go_wp2
            go_ret
            exact ⟨by first | (rw [HE.out]; done) | (rw [HE.out]; rfl), rfl⟩
          · have dh7 : decide ((b : Int) ≤ 32) = false := decide_eq_false (by omega)
            have HE : Hid (szV 1 b = (-2)) := by
              show szV 1 b = _
              unfold szV
              rw [if_neg (by decide), if_neg (by decide), if_pos rfl, if_pos h6, if_neg h7]
            go_enter Tryd.func58, Tryd.ntmps58
            go_wp2
            go_ret
            exact ⟨by first | (rw [HE.out]; done) | (rw [HE.out]; rfl), rfl⟩
        · have dh6 : decide ((5 : Int) ≤ b) = false := decide_eq_false (by omega)
          have HE : Hid (szV 1 b = (-2)) := by
            show szV 1 b = _
            unfold szV
            rw [if_neg (by decide), if_neg (by decide), if_pos rfl, if_neg h6]
          go_enter Tryd.func58, Tryd.ntmps58
          go_wp2
          go_ret
          exact ⟨by first | (rw [HE.out]; done) | (rw [HE.out]; rfl), rfl⟩
      · have dh5 : ((k : Int) == 1) = false := by rw [beq_eq_false_iff_ne]; omega
        have eh5 : ((k : Int) != 1) = true := by rw [bne_iff_ne]; omega
        by_cases h8 : k = 2
        · subst h8
          by_cases h9 : 1 ≤ b
          · have dh9 : decide ((1 : Int) ≤ b) = true := decide_eq_true (by omega)
            by_cases h10 : b ≤ 12
            · have dh10 : decide ((b : Int) ≤ 12) = true := decide_eq_true (by omega)
              have HE : Hid (szV 2 b = (b + 5)) := by
                show szV 2 b = _
                unfold szV
                rw [if_neg (by decide), if_neg (by decide), if_neg (by decide), if_pos rfl, if_pos h9, if_pos h10]
              go_enter Tryd.func58, Tryd.ntmps58
              go_wp2
              go_ret
              exact ⟨by first | (rw [HE.out]; done) | (rw [HE.out]; rfl), rfl⟩
            · have dh10 : decide ((b : Int) ≤ 12) = false := decide_eq_false (by omega)
              have HE : Hid (szV 2 b = (-2)) := by
                show szV 2 b = _
                unfold szV
                rw [if_neg (by decide), if_neg (by decide), if_neg (by decide), if_pos rfl, if_pos h9, if_neg h10]
              go_enter Tryd.func58, Tryd.ntmps58
              go_wp2
              go_ret
              exact ⟨by first | (rw [HE.out]; done) | (rw [HE.out]; rfl), rfl⟩
          · have dh9 : decide ((1 : Int) ≤ b) = false := decide_eq_false (by omega)
            have HE : Hid (szV 2 b = (-2)) := by
              show szV 2 b = _
              unfold szV
              rw [if_neg (by decide), if_neg (by decide), if_neg (by decide), if_pos rfl, if_neg h9]
            go_enter Tryd.func58, Tryd.ntmps58
            go_wp2
            go_ret
            exact ⟨by first | (rw [HE.out]; done) | (rw [HE.out]; rfl), rfl⟩
        · have dh8 : ((k : Int) == 2) = false := by rw [beq_eq_false_iff_ne]; omega
          have eh8 : ((k : Int) != 2) = true := by rw [bne_iff_ne]; omega
          by_cases h11 : k = 10
          · subst h11
            by_cases h12 : 1 ≤ b
            · have dh12 : decide ((1 : Int) ≤ b) = true := decide_eq_true (by omega)
              by_cases h13 : b ≤ 12
              · have dh13 : decide ((b : Int) ≤ 12) = true := decide_eq_true (by omega)
                have HE : Hid (szV 10 b = (b + 5)) := by
                  show szV 10 b = _
                  unfold szV
                  rw [if_neg (by decide), if_neg (by decide), if_neg (by decide), if_neg (by decide), if_pos rfl, if_pos h12, if_pos h13]
                go_enter Tryd.func58, Tryd.ntmps58
                go_wp2
                go_ret
                exact ⟨by first | (rw [HE.out]; done) | (rw [HE.out]; rfl), rfl⟩
              · have dh13 : decide ((b : Int) ≤ 12) = false := decide_eq_false (by omega)
                have HE : Hid (szV 10 b = (-2)) := by
                  show szV 10 b = _
                  unfold szV
                  rw [if_neg (by decide), if_neg (by decide), if_neg (by decide), if_neg (by decide), if_pos rfl, if_pos h12, if_neg h13]
                go_enter Tryd.func58, Tryd.ntmps58
                go_wp2
                go_ret
                exact ⟨by first | (rw [HE.out]; done) | (rw [HE.out]; rfl), rfl⟩
            · have dh12 : decide ((1 : Int) ≤ b) = false := decide_eq_false (by omega)
              have HE : Hid (szV 10 b = (-2)) := by
                show szV 10 b = _
                unfold szV
                rw [if_neg (by decide), if_neg (by decide), if_neg (by decide), if_neg (by decide), if_pos rfl, if_neg h12]
              go_enter Tryd.func58, Tryd.ntmps58
              go_wp2
              go_ret
              exact ⟨by first | (rw [HE.out]; done) | (rw [HE.out]; rfl), rfl⟩
          · have dh11 : ((k : Int) == 10) = false := by rw [beq_eq_false_iff_ne]; omega
            have eh11 : ((k : Int) != 10) = true := by rw [bne_iff_ne]; omega
            by_cases h14 : k = 3
            · subst h14
              by_cases h15 : b = 12
              · have dh15 : ((b : Int) == 12) = true := by rw [beq_iff_eq]; omega
                have eh15 : ((b : Int) != 12) = false := by rw [bne_eq_false_iff_eq]; omega
                have HE : Hid (szV 3 b = (b)) := by
                  show szV 3 b = _
                  unfold szV
                  rw [if_neg (by decide), if_neg (by decide), if_neg (by decide), if_neg (by decide), if_neg (by decide), if_pos rfl, if_pos h15]
                go_enter Tryd.func58, Tryd.ntmps58
                go_wp2
                go_ret
                exact ⟨by first | (rw [HE.out]; done) | (rw [HE.out]; rfl), rfl⟩
              · have dh15 : ((b : Int) == 12) = false := by rw [beq_eq_false_iff_ne]; omega
                have eh15 : ((b : Int) != 12) = true := by rw [bne_iff_ne]; omega
                by_cases h16 : b = 21
                · have dh16 : ((b : Int) == 21) = true := by rw [beq_iff_eq]; omega
                  have eh16 : ((b : Int) != 21) = false := by rw [bne_eq_false_iff_eq]; omega
                  have HE : Hid (szV 3 b = (b)) := by
                    show szV 3 b = _
                    unfold szV
                    rw [if_neg (by decide), if_neg (by decide), if_neg (by decide), if_neg (by decide), if_neg (by decide), if_pos rfl, if_neg h15, if_pos h16]
                  go_enter Tryd.func58, Tryd.ntmps58
                  go_wp2
                  go_ret
                  exact ⟨by first | (rw [HE.out]; done) | (rw [HE.out]; rfl), rfl⟩
                · have dh16 : ((b : Int) == 21) = false := by rw [beq_eq_false_iff_ne]; omega
                  have eh16 : ((b : Int) != 21) = true := by rw [bne_iff_ne]; omega
                  by_cases h17 : b = 30
                  · have dh17 : ((b : Int) == 30) = true := by rw [beq_iff_eq]; omega
                    have eh17 : ((b : Int) != 30) = false := by rw [bne_eq_false_iff_eq]; omega
                    have HE : Hid (szV 3 b = (b)) := by
                      show szV 3 b = _
                      unfold szV
                      rw [if_neg (by decide), if_neg (by decide), if_neg (by decide), if_neg (by decide), if_neg (by decide), if_pos rfl, if_neg h15, if_neg h16, if_pos h17]
                    go_enter Tryd.func58, Tryd.ntmps58
                    go_wp2
                    go_ret
                    exact ⟨by first | (rw [HE.out]; done) | (rw [HE.out]; rfl), rfl⟩
                  · have dh17 : ((b : Int) == 30) = false := by rw [beq_eq_false_iff_ne]; omega
                    have eh17 : ((b : Int) != 30) = true := by rw [bne_iff_ne]; omega
                    have HE : Hid (szV 3 b = (-2)) := by
                      show szV 3 b = _
                      unfold szV
                      rw [if_neg (by decide), if_neg (by decide), if_neg (by decide), if_neg (by decide), if_neg (by decide), if_pos rfl, if_neg h15, if_neg h16, if_neg h17]
                    go_enter Tryd.func58, Tryd.ntmps58
                    go_wp2
                    go_ret
                    exact ⟨by first | (rw [HE.out]; done) | (rw [HE.out]; rfl), rfl⟩
            · have dh14 : ((k : Int) == 3) = false := by rw [beq_eq_false_iff_ne]; omega
              have eh14 : ((k : Int) != 3) = true := by rw [bne_iff_ne]; omega
              by_cases h18 : k = 4
              · subst h18
                by_cases h19 : b = 12
                · have dh19 : ((b : Int) == 12) = true := by rw [beq_iff_eq]; omega
                  have eh19 : ((b : Int) != 12) = false := by rw [bne_eq_false_iff_eq]; omega
                  have HE : Hid (szV 4 b = (12)) := by
                    show szV 4 b = _
                    unfold szV
                    rw [if_neg (by decide), if_neg (by decide), if_neg (by decide), if_neg (by decide), if_neg (by decide), if_neg (by decide), if_pos rfl, if_pos h19]
                  go_enter Tryd.func58, Tryd.ntmps58
                  go_wp2
                  go_ret
                  exact ⟨by first | (rw [HE.out]; done) | (rw [HE.out]; rfl), rfl⟩
                · have dh19 : ((b : Int) == 12) = false := by rw [beq_eq_false_iff_ne]; omega
                  have eh19 : ((b : Int) != 12) = true := by rw [bne_iff_ne]; omega
                  have HE : Hid (szV 4 b = (-2)) := by
                    show szV 4 b = _
                    unfold szV
                    rw [if_neg (by decide), if_neg (by decide), if_neg (by decide), if_neg (by decide), if_neg (by decide), if_neg (by decide), if_pos rfl, if_neg h19]
                  go_enter Tryd.func58, Tryd.ntmps58
                  go_wp2
                  go_ret
                  exact ⟨by first | (rw [HE.out]; done) | (rw [HE.out]; rfl), rfl⟩
              · have dh18 : ((k : Int) == 4) = false := by rw [beq_eq_false_iff_ne]; omega
                have eh18 : ((k : Int) != 4) = true := by rw [bne_iff_ne]; omega
                by_cases h20 : k = 5
                · subst h20
                  by_cases h21 : b = 12
                  · have dh21 : ((b : Int) == 12) = true := by rw [beq_iff_eq]; omega
                    have eh21 : ((b : Int) != 12) = false := by rw [bne_eq_false_iff_eq]; omega
                    have HE : Hid (szV 5 b = (12)) := by
                      show szV 5 b = _
                      unfold szV
                      rw [if_neg (by decide), if_neg (by decide), if_neg (by decide), if_neg (by decide), if_neg (by decide), if_neg (by decide), if_neg (by decide), if_pos rfl, if_pos h21]
                    go_enter Tryd.func58, Tryd.ntmps58
                    go_wp2
                    go_ret
                    exact ⟨by first | (rw [HE.out]; done) | (rw [HE.out]; rfl), rfl⟩
                  · have dh21 : ((b : Int) == 12) = false := by rw [beq_eq_false_iff_ne]; omega
                    have eh21 : ((b : Int) != 12) = true := by rw [bne_iff_ne]; omega
                    have HE : Hid (szV 5 b = (-2)) := by
                      show szV 5 b = _
                      unfold szV
                      rw [if_neg (by decide), if_neg (by decide), if_neg (by decide), if_neg (by decide), if_neg (by decide), if_neg (by decide), if_neg (by decide), if_pos rfl, if_neg h21]
                    go_enter Tryd.func58, Tryd.ntmps58
                    go_wp2
                    go_ret
                    exact ⟨by first | (rw [HE.out]; done) | (rw [HE.out]; rfl), rfl⟩
                · have dh20 : ((k : Int) == 5) = false := by rw [beq_eq_false_iff_ne]; omega
                  have eh20 : ((k : Int) != 5) = true := by rw [bne_iff_ne]; omega
                  by_cases h22 : k = 7
                  · subst h22
                    by_cases h23 : b = 12
                    · have dh23 : ((b : Int) == 12) = true := by rw [beq_iff_eq]; omega
                      have eh23 : ((b : Int) != 12) = false := by rw [bne_eq_false_iff_eq]; omega
                      have HE : Hid (szV 7 b = (12)) := by
                        show szV 7 b = _
                        unfold szV
                        rw [if_neg (by decide), if_neg (by decide), if_neg (by decide), if_neg (by decide), if_neg (by decide), if_neg (by decide), if_neg (by decide), if_neg (by decide), if_pos rfl, if_pos h23]
                      go_enter Tryd.func58, Tryd.ntmps58
                      go_wp2
                      go_ret
                      exact ⟨by first | (rw [HE.out]; done) | (rw [HE.out]; rfl), rfl⟩
                    · have dh23 : ((b : Int) == 12) = false := by rw [beq_eq_false_iff_ne]; omega
                      have eh23 : ((b : Int) != 12) = true := by rw [bne_iff_ne]; omega
                      have HE : Hid (szV 7 b = (-2)) := by
                        show szV 7 b = _
                        unfold szV
                        rw [if_neg (by decide), if_neg (by decide), if_neg (by decide), if_neg (by decide), if_neg (by decide), if_neg (by decide), if_neg (by decide), if_neg (by decide), if_pos rfl, if_neg h23]
                      go_enter Tryd.func58, Tryd.ntmps58
                      go_wp2
                      go_ret
                      exact ⟨by first | (rw [HE.out]; done) | (rw [HE.out]; rfl), rfl⟩
                  · have dh22 : ((k : Int) == 7) = false := by rw [beq_eq_false_iff_ne]; omega
                    have eh22 : ((k : Int) != 7) = true := by rw [bne_iff_ne]; omega
                    by_cases h24 : k = 8
                    · subst h24
                      by_cases h25 : b = 7
                      · have dh25 : ((b : Int) == 7) = true := by rw [beq_iff_eq]; omega
                        have eh25 : ((b : Int) != 7) = false := by rw [bne_eq_false_iff_eq]; omega
                        have HE : Hid (szV 8 b = (b)) := by
                          show szV 8 b = _
                          unfold szV
                          rw [if_neg (by decide), if_neg (by decide), if_neg (by decide), if_neg (by decide), if_neg (by decide), if_neg (by decide), if_neg (by decide), if_neg (by decide), if_neg (by decide), if_pos rfl, if_pos h25]
                        go_enter Tryd.func58, Tryd.ntmps58
                        go_wp2
                        go_ret
                        exact ⟨by first | (rw [HE.out]; done) | (rw [HE.out]; rfl), rfl⟩
                      · have dh25 : ((b : Int) == 7) = false := by rw [beq_eq_false_iff_ne]; omega
                        have eh25 : ((b : Int) != 7) = true := by rw [bne_iff_ne]; omega
                        have HE : Hid (szV 8 b = (-2)) := by
                          show szV 8 b = _
                          unfold szV
                          rw [if_neg (by decide), if_neg (by decide), if_neg (by decide), if_neg (by decide), if_neg (by decide), if_neg (by decide), if_neg (by decide), if_neg (by decide), if_neg (by decide), if_pos rfl, if_neg h25]
                        go_enter Tryd.func58, Tryd.ntmps58
                        go_wp2
                        go_ret
                        exact ⟨by first | (rw [HE.out]; done) | (rw [HE.out]; rfl), rfl⟩
                    · have dh24 : ((k : Int) == 8) = false := by rw [beq_eq_false_iff_ne]; omega
                      have eh24 : ((k : Int) != 8) = true := by rw [bne_iff_ne]; omega
                      by_cases h26 : k = 9
                      · subst h26
                        by_cases h27 : b = 5
                        · have dh27 : ((b : Int) == 5) = true := by rw [beq_iff_eq]; omega
                          have eh27 : ((b : Int) != 5) = false := by rw [bne_eq_false_iff_eq]; omega
                          have HE : Hid (szV 9 b = (b)) := by
                            show szV 9 b = _
                            unfold szV
                            rw [if_neg (by decide), if_neg (by decide), if_neg (by decide), if_neg (by decide), if_neg (by decide), if_neg (by decide), if_neg (by decide), if_neg (by decide), if_neg (by decide), if_neg (by decide), if_pos rfl, if_pos h27]
                          go_enter Tryd.func58, Tryd.ntmps58
                          go_wp2
                          go_ret
                          exact ⟨by first | (rw [HE.out]; done) | (rw [HE.out]; rfl), rfl⟩
                        · have dh27 : ((b : Int) == 5) = false := by rw [beq_eq_false_iff_ne]; omega
                          have eh27 : ((b : Int) != 5) = true := by rw [bne_iff_ne]; omega
                          have HE : Hid (szV 9 b = (-2)) := by
                            show szV 9 b = _
                            unfold szV
                            rw [if_neg (by decide), if_neg (by decide), if_neg (by decide), if_neg (by decide), if_neg (by decide), if_neg (by decide), if_neg (by decide), if_neg (by decide), if_neg (by decide), if_neg (by decide), if_pos rfl, if_neg h27]
                          go_enter Tryd.func58, Tryd.ntmps58
                          go_wp2
                          go_ret
                          exact ⟨by first | (rw [HE.out]; done) | (rw [HE.out]; rfl), rfl⟩
                      · have dh26 : ((k : Int) == 9) = false := by rw [beq_eq_false_iff_ne]; omega
                        have eh26 : ((k : Int) != 9) = true := by rw [bne_iff_ne]; omega
                        have HE : Hid (szV k b = (-2)) := by
                          show szV k b = _
                          unfold szV
                          rw [if_neg h1, if_neg h3, if_neg h5, if_neg h8, if_neg h11, if_neg h14, if_neg h18, if_neg h20, if_neg h22, if_neg h24, if_neg h26]
                        go_enter Tryd.func58, Tryd.ntmps58
                        go_wp2
                        go_ret
                        exact ⟨by first | (rw [HE.out]; done) | (rw [HE.out]; rfl), rfl⟩

set_option maxHeartbeats 4000000 in
theorem sz_le (k b : Int) : -2 ≤ szV k b ∧ szV k b ≤ 32 := by
  generalize h : szV k b = z
  unfold szV at h
  (repeat' split at h) <;> subst h <;> constructor <;> omega

/-- May an object of so many bits lie there? -/
def inM (a n : Nat) : Bool := decide (a < 4294967296) && (decide (a % 2 ^ n = 0) && decide (a + 2 ^ n ≤ 4294967296))
/-- May the object lie so? -/
def liesB (k : Int) (a : Nat) (b : Int) : Bool := if szV k b < 0 then (if szV k b = -1 then decide (a = 0) else false) else inM a (szV k b).toNat

set_option maxRecDepth 100000 in
set_option maxHeartbeats 4000000 in
theorem lies_any (k : Int) (a : Nat) (b r g s : Int) (m : Nat) (ha : a < 18446744073709551616) (w : World) :
    Calls Tryd.prog 42 #[.agg #[.int .i64 k, .int .u64 (a : Nat), .int .i64 b, .int .i64 r, .int .i64 g, .int .i64 s, .int .u64 (m : Nat)]] w fun e w' => e = .returned (.bool (liesB k a b)) ∧ Below w.heap.size w w' := by
  have cS := fun w1 => size_any k b w1
  have hsz := sz_le k b
  have HL : Hid (liesB k a b = if szV k b < 0 then (if szV k b = -1 then decide (a = 0) else false) else inM a (szV k b).toNat) := Hid.mk rfl
  generalize szV k b = n at *
  by_cases hn : n < 0
  · have dn : decide (n < 0) = true := decide_eq_true hn
    by_cases h1 : n = -1
    · subst h1
      have HE : Hid (liesB k a b = ((a : Int) == 0)) := by
        show _ = _
        rw [HL.out, if_pos hn, if_pos rfl, Bool.eq_iff_iff, decide_eq_true_iff, beq_iff_eq]; omega
      clear HL hn dn hsz
      go_enter Tryd.func42, Tryd.ntmps42
      go_wp2_with (first | (go_at_call 58; refine (cS _).mono ?_; rintro e w1 ⟨rfl, rfl⟩))
      go_ret
      exact ⟨by first | (rw [HE.out]; done) | (rw [HE.out]; rfl) | (simp [HE.out]; done), below_new _ _⟩
    · have e1 : (n == -1) = false := by rw [beq_eq_false_iff_ne]; exact h1
      have HE : Hid (liesB k a b = false) := by
        show _ = _
        rw [HL.out, if_pos hn, if_neg h1]
      clear HL hsz
      go_enter Tryd.func42, Tryd.ntmps42
      go_wp2_with (first | (go_at_call 58; refine (cS _).mono ?_; rintro e w1 ⟨rfl, rfl⟩))
      go_ret
      exact ⟨by first | (rw [HE.out]; done) | (rw [HE.out]; rfl), below_new _ _⟩
  · have HI : Hid (liesB k a b = inM a n.toNat) := by
      show _ = _
      rw [HL.out, if_neg hn]
    clear HL
    obtain ⟨N, rfl⟩ : ∃ N : Nat, n = (N : Int) := ⟨n.toNat, by omega⟩
    have hN : N ≤ 32 := by omega
    have HI : Hid (liesB k a b = inM a N) := HI
    clear hsz
    have cP := fun w1 => pow_any N (by omega) w1
    have hp0 : 0 < 2 ^ N := Nat.two_pow_pos N
    have hp1 : 2 ^ N ≤ 2 ^ 32 := Nat.pow_le_pow_right (by omega) hN
    have HU : Hid (inM a N = (decide (a < 4294967296) && (decide (a % 2 ^ N = 0) && decide (a + 2 ^ N ≤ 4294967296)))) := Hid.mk rfl
    generalize 2 ^ N = p at *
    have hpz : ¬ (p : Int) = 0 := by omega
    have hpz1 : ((p : Int) == 0) = false := by rw [beq_eq_false_iff_ne]; exact hpz
    have hpN : ¬ p = 0 := by omega
    have dN : decide ((N : Int) < 0) = false := decide_eq_false (by omega)
    clear hn hN
    by_cases h1 : a < 4294967296
    · have d1 : decide ((a : Int) < 4294967296) = true := decide_eq_true (by omega)
      by_cases h2 : a % p = 0
      · have e2 : (a : Int).tmod (p : Int) = 0 := by rw [Int.tmod_eq_emod_of_nonneg (by omega)]; omega
        have HE : Hid (liesB k a b = decide ((a : Int) + (p : Int) ≤ 4294967296)) := by
          show _ = _
          rw [HI.out, HU.out, decide_eq_true h1, decide_eq_true h2, Bool.true_and, Bool.true_and, decide_eq_decide]; omega
        have ew : IntKind.u64.wrap ((a : Int) + (p : Int)) = (a : Int) + (p : Int) := by rw [IntKind.wrap_u64]; omega
        clear HI HU hp1
        go_enter Tryd.func42, Tryd.ntmps42
        go_wp2_with fail
        refine (cS _).mono ?_
        rintro e w1 ⟨rfl, rfl⟩
        go_upto_region 4 with fail
        have gC := heap_alloc_new w (.cells #[.int .i64 k, .int .u64 (a : Nat), .int .i64 b, .int .i64 r, .int .i64 g, .int .i64 s, .int .u64 (m : Nat)] 36)
        have hB := below_new w (.cells #[.int .i64 k, .int .u64 (a : Nat), .int .i64 b, .int .i64 r, .int .i64 g, .int .i64 s, .int .u64 (m : Nat)] 36)
        generalize w.alloc (.cells #[.int .i64 k, .int .u64 (a : Nat), .int .i64 b, .int .i64 r, .int .i64 g, .int .i64 s, .int .u64 (m : Nat)] 36) = W at *
        obtain ⟨k0, k1, k2, k3, k4, k5, k6⟩ := cells7 gC
        refine wp_region_noPanic ?_
        refine wp_region_held_drew (S := (fun w' => w'.cell? ⟨w.heap.size, 0, none⟩ = some (.int .i64 k) ∧ w'.cell? ⟨w.heap.size, 1, none⟩ = some (.int .u64 (a : Nat)) ∧ w'.cell? ⟨w.heap.size, 2, none⟩ = some (.int .i64 b) ∧ w'.cell? ⟨w.heap.size, 3, none⟩ = some (.int .i64 r) ∧ w'.cell? ⟨w.heap.size, 4, none⟩ = some (.int .i64 g) ∧ w'.cell? ⟨w.heap.size, 5, none⟩ = some (.int .i64 s) ∧ w'.cell? ⟨w.heap.size, 6, none⟩ = some (.int .u64 (m : Nat)))) (by kernel_rfl) ?_ (fun hHeld => ?_)
        · exact ⟨cell_later (Below.refl _ _).drew k0, cell_later (Below.refl _ _).drew k1, cell_later (Below.refl _ _).drew k2, cell_later (Below.refl _ _).drew k3, cell_later (Below.refl _ _).drew k4, cell_later (Below.refl _ _).drew k5, cell_later (Below.refl _ _).drew k6⟩
        replace k0 := cell_later (Below.refl _ W).drew k0
        replace k1 := cell_later (Below.refl _ W).drew k1
        replace k2 := cell_later (Below.refl _ W).drew k2
        replace k3 := cell_later (Below.refl _ W).drew k3
        replace k4 := cell_later (Below.refl _ W).drew k4
        replace k5 := cell_later (Below.refl _ W).drew k5
        replace k6 := cell_later (Below.refl _ W).drew k6
        replace gC := block_later (Below.refl _ W).drew gC
        replace hB := below_tr hB (Below.refl _ W).drew
        generalize W.drew = Wd at *
        refine take_at (i := 0) (v := ?_) 18 rfl rfl (by kernel_rfl) (by kernel_rfl) (by kernel_rfl) (fun _ _ _ h => h) (Or.inl ⟨by rfl, ?_⟩) (by assumption) ?_
        rotate_left
        · (intro w' hSw; (try dsimp only at hSw); go_simp; all_goals with_reducible rfl)
        try simp only [Act.put, List.setIfInBounds_toArray, List.set_cons_zero, List.set_cons_succ]
        refine take_at (i := 1) (v := ?_) 19 rfl rfl (by kernel_rfl) (by kernel_rfl) (by kernel_rfl) (fun _ _ _ h => h) (Or.inl ⟨by rfl, ?_⟩) (by assumption) ?_
        rotate_left
        · (intro w' hSw; (try dsimp only at hSw); go_simp; all_goals with_reducible rfl)
        try simp only [Act.put, List.setIfInBounds_toArray, List.set_cons_zero, List.set_cons_succ]
        refine take_at (i := 2) (v := ?_) 20 rfl rfl (by kernel_rfl) (by kernel_rfl) (by kernel_rfl) (fun _ _ _ h => h) (Or.inl ⟨by rfl, ?_⟩) (by assumption) ?_
        rotate_left
        · (intro w' hSw; (try dsimp only at hSw); go_simp; all_goals with_reducible rfl)
        try simp only [Act.put, List.setIfInBounds_toArray, List.set_cons_zero, List.set_cons_succ]
        refine take_at (i := 3) (v := ?_) 21 rfl rfl (by kernel_rfl) (by kernel_rfl) (by kernel_rfl) (fun _ _ _ h => h) (Or.inl ⟨by rfl, ?_⟩) (by assumption) ?_
        rotate_left
        · (intro w' hSw; (try dsimp only at hSw); go_simp; all_goals with_reducible rfl)
        try simp only [Act.put, List.setIfInBounds_toArray, List.set_cons_zero, List.set_cons_succ]
        refine take_at (i := 4) (v := ?_) 22 rfl rfl (by kernel_rfl) (by kernel_rfl) (by kernel_rfl) (fun _ _ _ h => h) (Or.inl ⟨by rfl, ?_⟩) (by assumption) ?_
        rotate_left
        · (intro w' hSw; (try dsimp only at hSw); go_simp; all_goals with_reducible rfl)
        try simp only [Act.put, List.setIfInBounds_toArray, List.set_cons_zero, List.set_cons_succ]
        refine take_at (i := 5) (v := ?_) 23 rfl rfl (by kernel_rfl) (by kernel_rfl) (by kernel_rfl) (fun _ _ _ h => h) (Or.inl ⟨by rfl, ?_⟩) (by assumption) ?_
        rotate_left
        · (intro w' hSw; (try dsimp only at hSw); go_simp; all_goals with_reducible rfl)
        try simp only [Act.put, List.setIfInBounds_toArray, List.set_cons_zero, List.set_cons_succ]
        refine take_at (i := 6) (v := ?_) 24 rfl rfl (by kernel_rfl) (by kernel_rfl) (by kernel_rfl) (fun _ _ _ h => h) (Or.inl ⟨by rfl, ?_⟩) (by assumption) ?_
        rotate_left
        · (intro w' hSw; (try dsimp only at hSw); go_simp; all_goals with_reducible rfl)
        try simp only [Act.put, List.setIfInBounds_toArray, List.set_cons_zero, List.set_cons_succ]
        refine wpAnyH_ready (rs := [7]) (by kernel_rfl) (by simp) ?_
        refine AllReadyH.cons rfl (fun K hK => ?_) AllReadyH.nil
        go_simp
        refine (cP _).mono ?_
        rintro e wc1 ⟨rfl, rfl⟩
        go_wp2_with fail
        refine hK.out _ _ ⟨k0, k1, k2, k3, k4, k5, k6⟩ (fun hHeld1 => ?_)
        clear hK
        try simp only [Act.put, List.setIfInBounds_toArray, List.set_cons_zero, List.set_cons_succ]
        refine take_at (i := 8) (v := ?_) 26 rfl rfl (by kernel_rfl) (by kernel_rfl) (by kernel_rfl) (fun _ _ _ h => h) (Or.inl ⟨by rfl, ?_⟩) (by assumption) ?_
        rotate_left
        · (intro w' hSw; (try dsimp only at hSw); go_simp; all_goals with_reducible rfl)
        try simp only [Act.put, List.setIfInBounds_toArray, List.set_cons_zero, List.set_cons_succ]
        refine take_at (i := 9) (v := ?_) 27 rfl rfl (by kernel_rfl) (by kernel_rfl) (by kernel_rfl) (fun _ _ _ h => h) (Or.inl ⟨by rfl, ?_⟩) (by assumption) ?_
        rotate_left
        · (intro w' hSw; (try dsimp only at hSw); go_simp; all_goals with_reducible rfl)
        try simp only [Act.put, List.setIfInBounds_toArray, List.set_cons_zero, List.set_cons_succ]
        refine take_at (i := 10) (v := ?_) 28 rfl rfl (by kernel_rfl) (by kernel_rfl) (by kernel_rfl) (fun _ _ _ h => h) (Or.inl ⟨by rfl, ?_⟩) (by assumption) ?_
        rotate_left
        · (intro w' hSw; (try dsimp only at hSw); go_simp; all_goals with_reducible rfl)
        try simp only [Act.put, List.setIfInBounds_toArray, List.set_cons_zero, List.set_cons_succ]
        refine take_at (i := 11) (v := ?_) 29 rfl rfl (by kernel_rfl) (by kernel_rfl) (by kernel_rfl) (fun _ _ _ h => h) (Or.inl ⟨by rfl, ?_⟩) (by assumption) ?_
        rotate_left
        · (intro w' hSw; (try dsimp only at hSw); go_simp; all_goals with_reducible rfl)
        try simp only [Act.put, List.setIfInBounds_toArray, List.set_cons_zero, List.set_cons_succ]
        refine take_at (i := 12) (v := ?_) 30 rfl rfl (by kernel_rfl) (by kernel_rfl) (by kernel_rfl) (fun _ _ _ h => h) (Or.inl ⟨by rfl, ?_⟩) (by assumption) ?_
        rotate_left
        · (intro w' hSw; (try dsimp only at hSw); go_simp; all_goals with_reducible rfl)
        try simp only [Act.put, List.setIfInBounds_toArray, List.set_cons_zero, List.set_cons_succ]
        refine take_at (i := 13) (v := ?_) 31 rfl rfl (by kernel_rfl) (by kernel_rfl) (by kernel_rfl) (fun _ _ _ h => h) (Or.inl ⟨by rfl, ?_⟩) (by assumption) ?_
        rotate_left
        · (intro w' hSw; (try dsimp only at hSw); go_simp; all_goals with_reducible rfl)
        try simp only [Act.put, List.setIfInBounds_toArray, List.set_cons_zero, List.set_cons_succ]
        refine take_at (i := 14) (v := ?_) 32 rfl rfl (by kernel_rfl) (by kernel_rfl) (by kernel_rfl) (fun _ _ _ h => h) (Or.inl ⟨by rfl, ?_⟩) (by assumption) ?_
        rotate_left
        · (intro w' hSw; (try dsimp only at hSw); go_simp; all_goals with_reducible rfl)
        try simp only [Act.put, List.setIfInBounds_toArray, List.set_cons_zero, List.set_cons_succ]
        refine wpAnyH_ready (rs := [15]) (by kernel_rfl) (by simp) ?_
        refine AllReadyH.cons rfl (fun K hK => ?_) AllReadyH.nil
        go_simp
        refine (cP _).mono ?_
        rintro e wc2 ⟨rfl, rfl⟩
        go_wp2_with fail
        refine hK.out _ _ ⟨k0, k1, k2, k3, k4, k5, k6⟩ (fun hHeld2 => ?_)
        clear hK
        try simp only [Act.put, List.setIfInBounds_toArray, List.set_cons_zero, List.set_cons_succ]
        refine take_at (i := 16) (v := ?_) 34 rfl rfl (by kernel_rfl) (by kernel_rfl) (by kernel_rfl) (fun _ _ _ h => h) (Or.inl ⟨by rfl, ?_⟩) (by assumption) ?_
        rotate_left
        · (intro w' hSw; (try dsimp only at hSw); go_simp; all_goals with_reducible rfl)
        try simp only [Act.put, List.setIfInBounds_toArray, List.set_cons_zero, List.set_cons_succ]
        refine take_at (i := 17) (v := ?_) 35 rfl rfl (by kernel_rfl) (by kernel_rfl) (by kernel_rfl) (fun _ _ _ h => h) (Or.inl ⟨by rfl, ?_⟩) (by assumption) ?_
        rotate_left
        · (intro w' hSw; (try dsimp only at hSw); go_simp; all_goals with_reducible rfl)
        try simp only [Act.put, List.setIfInBounds_toArray, List.set_cons_zero, List.set_cons_succ]
        refine take_at (i := 18) (v := ?_) 36 rfl rfl (by kernel_rfl) (by kernel_rfl) (by kernel_rfl) (fun _ _ _ h => h) (Or.inl ⟨by rfl, ?_⟩) (by assumption) ?_
        rotate_left
        · (intro w' hSw; (try dsimp only at hSw); go_simp; all_goals with_reducible rfl)
        try simp only [Act.put, List.setIfInBounds_toArray, List.set_cons_zero, List.set_cons_succ]
        refine take_at (i := 19) (v := ?_) 2 rfl rfl (by kernel_rfl) (by kernel_rfl) (by kernel_rfl) (fun _ _ _ h => h) (Or.inl ⟨by rfl, ?_⟩) (by assumption) ?_
        rotate_left
        · (intro w' hSw; (try dsimp only at hSw); go_simp; all_goals with_reducible rfl)
        try simp only [Act.put, List.setIfInBounds_toArray, List.set_cons_zero, List.set_cons_succ]
        refine wpAnyH_done (by kernel_rfl) ?_ _
        refine NoPanic.normal ?_
        go_wp2
        go_ret
        exact ⟨by first | (rw [HE.out]; done) | (rw [HE.out]; rfl), hB⟩
      · have e2 : (a : Int).tmod (p : Int) = ((a % p : Nat) : Int) := by rw [Int.tmod_eq_emod_of_nonneg (by omega)]; simp
        have HE : Hid (liesB k a b = false) := by
          show _ = _
          rw [HI.out, HU.out, decide_eq_true h1, decide_eq_false h2]; rfl
        clear HI HU hp1
        generalize a % p = q at *
        have eq0 : ((q : Int) == 0) = false := by rw [beq_eq_false_iff_ne]; omega
        go_enter Tryd.func42, Tryd.ntmps42
        go_wp2_with fail
        refine (cS _).mono ?_
        rintro e w1 ⟨rfl, rfl⟩
        go_upto_region 4 with fail
        have gC := heap_alloc_new w (.cells #[.int .i64 k, .int .u64 (a : Nat), .int .i64 b, .int .i64 r, .int .i64 g, .int .i64 s, .int .u64 (m : Nat)] 36)
        have hB := below_new w (.cells #[.int .i64 k, .int .u64 (a : Nat), .int .i64 b, .int .i64 r, .int .i64 g, .int .i64 s, .int .u64 (m : Nat)] 36)
        generalize w.alloc (.cells #[.int .i64 k, .int .u64 (a : Nat), .int .i64 b, .int .i64 r, .int .i64 g, .int .i64 s, .int .u64 (m : Nat)] 36) = W at *
        obtain ⟨k0, k1, k2, k3, k4, k5, k6⟩ := cells7 gC
        refine wp_region_noPanic ?_
        refine wp_region_held_drew (S := (fun w' => w'.cell? ⟨w.heap.size, 0, none⟩ = some (.int .i64 k) ∧ w'.cell? ⟨w.heap.size, 1, none⟩ = some (.int .u64 (a : Nat)) ∧ w'.cell? ⟨w.heap.size, 2, none⟩ = some (.int .i64 b) ∧ w'.cell? ⟨w.heap.size, 3, none⟩ = some (.int .i64 r) ∧ w'.cell? ⟨w.heap.size, 4, none⟩ = some (.int .i64 g) ∧ w'.cell? ⟨w.heap.size, 5, none⟩ = some (.int .i64 s) ∧ w'.cell? ⟨w.heap.size, 6, none⟩ = some (.int .u64 (m : Nat)))) (by kernel_rfl) ?_ (fun hHeld => ?_)
        · exact ⟨cell_later (Below.refl _ _).drew k0, cell_later (Below.refl _ _).drew k1, cell_later (Below.refl _ _).drew k2, cell_later (Below.refl _ _).drew k3, cell_later (Below.refl _ _).drew k4, cell_later (Below.refl _ _).drew k5, cell_later (Below.refl _ _).drew k6⟩
        replace k0 := cell_later (Below.refl _ W).drew k0
        replace k1 := cell_later (Below.refl _ W).drew k1
        replace k2 := cell_later (Below.refl _ W).drew k2
        replace k3 := cell_later (Below.refl _ W).drew k3
        replace k4 := cell_later (Below.refl _ W).drew k4
        replace k5 := cell_later (Below.refl _ W).drew k5
        replace k6 := cell_later (Below.refl _ W).drew k6
        replace gC := block_later (Below.refl _ W).drew gC
        replace hB := below_tr hB (Below.refl _ W).drew
        generalize W.drew = Wd at *
        refine take_at (i := 0) (v := ?_) 18 rfl rfl (by kernel_rfl) (by kernel_rfl) (by kernel_rfl) (fun _ _ _ h => h) (Or.inl ⟨by rfl, ?_⟩) (by assumption) ?_
        rotate_left
        · (intro w' hSw; (try dsimp only at hSw); go_simp; all_goals with_reducible rfl)
        try simp only [Act.put, List.setIfInBounds_toArray, List.set_cons_zero, List.set_cons_succ]
        refine take_at (i := 1) (v := ?_) 19 rfl rfl (by kernel_rfl) (by kernel_rfl) (by kernel_rfl) (fun _ _ _ h => h) (Or.inl ⟨by rfl, ?_⟩) (by assumption) ?_
        rotate_left
        · (intro w' hSw; (try dsimp only at hSw); go_simp; all_goals with_reducible rfl)
        try simp only [Act.put, List.setIfInBounds_toArray, List.set_cons_zero, List.set_cons_succ]
        refine take_at (i := 2) (v := ?_) 20 rfl rfl (by kernel_rfl) (by kernel_rfl) (by kernel_rfl) (fun _ _ _ h => h) (Or.inl ⟨by rfl, ?_⟩) (by assumption) ?_
        rotate_left
        · (intro w' hSw; (try dsimp only at hSw); go_simp; all_goals with_reducible rfl)
        try simp only [Act.put, List.setIfInBounds_toArray, List.set_cons_zero, List.set_cons_succ]
        refine take_at (i := 3) (v := ?_) 21 rfl rfl (by kernel_rfl) (by kernel_rfl) (by kernel_rfl) (fun _ _ _ h => h) (Or.inl ⟨by rfl, ?_⟩) (by assumption) ?_
        rotate_left
        · (intro w' hSw; (try dsimp only at hSw); go_simp; all_goals with_reducible rfl)
        try simp only [Act.put, List.setIfInBounds_toArray, List.set_cons_zero, List.set_cons_succ]
        refine take_at (i := 4) (v := ?_) 22 rfl rfl (by kernel_rfl) (by kernel_rfl) (by kernel_rfl) (fun _ _ _ h => h) (Or.inl ⟨by rfl, ?_⟩) (by assumption) ?_
        rotate_left
        · (intro w' hSw; (try dsimp only at hSw); go_simp; all_goals with_reducible rfl)
        try simp only [Act.put, List.setIfInBounds_toArray, List.set_cons_zero, List.set_cons_succ]
        refine take_at (i := 5) (v := ?_) 23 rfl rfl (by kernel_rfl) (by kernel_rfl) (by kernel_rfl) (fun _ _ _ h => h) (Or.inl ⟨by rfl, ?_⟩) (by assumption) ?_
        rotate_left
        · (intro w' hSw; (try dsimp only at hSw); go_simp; all_goals with_reducible rfl)
        try simp only [Act.put, List.setIfInBounds_toArray, List.set_cons_zero, List.set_cons_succ]
        refine take_at (i := 6) (v := ?_) 24 rfl rfl (by kernel_rfl) (by kernel_rfl) (by kernel_rfl) (fun _ _ _ h => h) (Or.inl ⟨by rfl, ?_⟩) (by assumption) ?_
        rotate_left
        · (intro w' hSw; (try dsimp only at hSw); go_simp; all_goals with_reducible rfl)
        try simp only [Act.put, List.setIfInBounds_toArray, List.set_cons_zero, List.set_cons_succ]
        refine wpAnyH_ready (rs := [7]) (by kernel_rfl) (by simp) ?_
        refine AllReadyH.cons rfl (fun K hK => ?_) AllReadyH.nil
        go_simp
        refine (cP _).mono ?_
        rintro e wc1 ⟨rfl, rfl⟩
        go_wp2_with fail
        refine hK.out _ _ ⟨k0, k1, k2, k3, k4, k5, k6⟩ (fun hHeld1 => ?_)
        clear hK
        try simp only [Act.put, List.setIfInBounds_toArray, List.set_cons_zero, List.set_cons_succ]
        refine take_at (i := 8) (v := ?_) 26 rfl rfl (by kernel_rfl) (by kernel_rfl) (by kernel_rfl) (fun _ _ _ h => h) (Or.inl ⟨by rfl, ?_⟩) (by assumption) ?_
        rotate_left
        · (intro w' hSw; (try dsimp only at hSw); go_simp; all_goals with_reducible rfl)
        try simp only [Act.put, List.setIfInBounds_toArray, List.set_cons_zero, List.set_cons_succ]
        refine take_at (i := 9) (v := ?_) 27 rfl rfl (by kernel_rfl) (by kernel_rfl) (by kernel_rfl) (fun _ _ _ h => h) (Or.inl ⟨by rfl, ?_⟩) (by assumption) ?_
        rotate_left
        · (intro w' hSw; (try dsimp only at hSw); go_simp; all_goals with_reducible rfl)
        try simp only [Act.put, List.setIfInBounds_toArray, List.set_cons_zero, List.set_cons_succ]
        refine take_at (i := 10) (v := ?_) 28 rfl rfl (by kernel_rfl) (by kernel_rfl) (by kernel_rfl) (fun _ _ _ h => h) (Or.inl ⟨by rfl, ?_⟩) (by assumption) ?_
        rotate_left
        · (intro w' hSw; (try dsimp only at hSw); go_simp; all_goals with_reducible rfl)
        try simp only [Act.put, List.setIfInBounds_toArray, List.set_cons_zero, List.set_cons_succ]
        refine take_at (i := 11) (v := ?_) 29 rfl rfl (by kernel_rfl) (by kernel_rfl) (by kernel_rfl) (fun _ _ _ h => h) (Or.inl ⟨by rfl, ?_⟩) (by assumption) ?_
        rotate_left
        · (intro w' hSw; (try dsimp only at hSw); go_simp; all_goals with_reducible rfl)
        try simp only [Act.put, List.setIfInBounds_toArray, List.set_cons_zero, List.set_cons_succ]
        refine take_at (i := 12) (v := undef) 30 rfl rfl (by kernel_rfl) (by kernel_rfl) (by kernel_rfl) (fun _ _ _ h => h) (Or.inr ⟨by rfl, rfl⟩) (by assumption) ?_
        try simp only [Act.put, List.setIfInBounds_toArray, List.set_cons_zero, List.set_cons_succ]
        refine take_at (i := 13) (v := undef) 31 rfl rfl (by kernel_rfl) (by kernel_rfl) (by kernel_rfl) (fun _ _ _ h => h) (Or.inr ⟨by rfl, rfl⟩) (by assumption) ?_
        try simp only [Act.put, List.setIfInBounds_toArray, List.set_cons_zero, List.set_cons_succ]
        refine take_at (i := 14) (v := undef) 32 rfl rfl (by kernel_rfl) (by kernel_rfl) (by kernel_rfl) (fun _ _ _ h => h) (Or.inr ⟨by rfl, rfl⟩) (by assumption) ?_
        try simp only [Act.put, List.setIfInBounds_toArray, List.set_cons_zero, List.set_cons_succ]
        refine take_at (i := 15) (v := undef) 33 rfl rfl (by kernel_rfl) (by kernel_rfl) (by kernel_rfl) (fun _ _ _ h => h) (Or.inr ⟨by rfl, rfl⟩) (by assumption) ?_
        try simp only [Act.put, List.setIfInBounds_toArray, List.set_cons_zero, List.set_cons_succ]
        refine take_at (i := 16) (v := undef) 34 rfl rfl (by kernel_rfl) (by kernel_rfl) (by kernel_rfl) (fun _ _ _ h => h) (Or.inr ⟨by rfl, rfl⟩) (by assumption) ?_
        try simp only [Act.put, List.setIfInBounds_toArray, List.set_cons_zero, List.set_cons_succ]
        refine take_at (i := 17) (v := undef) 35 rfl rfl (by kernel_rfl) (by kernel_rfl) (by kernel_rfl) (fun _ _ _ h => h) (Or.inr ⟨by rfl, rfl⟩) (by assumption) ?_
        try simp only [Act.put, List.setIfInBounds_toArray, List.set_cons_zero, List.set_cons_succ]
        refine take_at (i := 18) (v := ?_) 36 rfl rfl (by kernel_rfl) (by kernel_rfl) (by kernel_rfl) (fun _ _ _ h => h) (Or.inl ⟨by rfl, ?_⟩) (by assumption) ?_
        rotate_left
        · (intro w' hSw; (try dsimp only at hSw); go_simp; all_goals with_reducible rfl)
        try simp only [Act.put, List.setIfInBounds_toArray, List.set_cons_zero, List.set_cons_succ]
        refine take_at (i := 19) (v := ?_) 2 rfl rfl (by kernel_rfl) (by kernel_rfl) (by kernel_rfl) (fun _ _ _ h => h) (Or.inl ⟨by rfl, ?_⟩) (by assumption) ?_
        rotate_left
        · (intro w' hSw; (try dsimp only at hSw); go_simp; all_goals with_reducible rfl)
        try simp only [Act.put, List.setIfInBounds_toArray, List.set_cons_zero, List.set_cons_succ]
        refine wpAnyH_done (by kernel_rfl) ?_ _
        refine NoPanic.normal ?_
        go_wp2
        go_ret
        exact ⟨by first | (rw [HE.out]; done) | (rw [HE.out]; rfl), hB⟩
    · have d1 : decide ((a : Int) < 4294967296) = false := decide_eq_false (by omega)
      have HE : Hid (liesB k a b = false) := by
        show _ = _
        rw [HI.out, HU.out, decide_eq_false h1]; rfl
      clear HI HU hp1
      go_enter Tryd.func42, Tryd.ntmps42
      go_wp2_with fail
      refine (cS _).mono ?_
      rintro e w1 ⟨rfl, rfl⟩
      go_upto_region 4 with fail
      have gC := heap_alloc_new w (.cells #[.int .i64 k, .int .u64 (a : Nat), .int .i64 b, .int .i64 r, .int .i64 g, .int .i64 s, .int .u64 (m : Nat)] 36)
      have hB := below_new w (.cells #[.int .i64 k, .int .u64 (a : Nat), .int .i64 b, .int .i64 r, .int .i64 g, .int .i64 s, .int .u64 (m : Nat)] 36)
      generalize w.alloc (.cells #[.int .i64 k, .int .u64 (a : Nat), .int .i64 b, .int .i64 r, .int .i64 g, .int .i64 s, .int .u64 (m : Nat)] 36) = W at *
      obtain ⟨k0, k1, k2, k3, k4, k5, k6⟩ := cells7 gC
      refine wp_region_noPanic ?_
      refine wp_region_held_drew (S := (fun w' => w'.cell? ⟨w.heap.size, 0, none⟩ = some (.int .i64 k) ∧ w'.cell? ⟨w.heap.size, 1, none⟩ = some (.int .u64 (a : Nat)) ∧ w'.cell? ⟨w.heap.size, 2, none⟩ = some (.int .i64 b) ∧ w'.cell? ⟨w.heap.size, 3, none⟩ = some (.int .i64 r) ∧ w'.cell? ⟨w.heap.size, 4, none⟩ = some (.int .i64 g) ∧ w'.cell? ⟨w.heap.size, 5, none⟩ = some (.int .i64 s) ∧ w'.cell? ⟨w.heap.size, 6, none⟩ = some (.int .u64 (m : Nat)))) (by kernel_rfl) ?_ (fun hHeld => ?_)
      · exact ⟨cell_later (Below.refl _ _).drew k0, cell_later (Below.refl _ _).drew k1, cell_later (Below.refl _ _).drew k2, cell_later (Below.refl _ _).drew k3, cell_later (Below.refl _ _).drew k4, cell_later (Below.refl _ _).drew k5, cell_later (Below.refl _ _).drew k6⟩
      replace k0 := cell_later (Below.refl _ W).drew k0
      replace k1 := cell_later (Below.refl _ W).drew k1
      replace k2 := cell_later (Below.refl _ W).drew k2
      replace k3 := cell_later (Below.refl _ W).drew k3
      replace k4 := cell_later (Below.refl _ W).drew k4
      replace k5 := cell_later (Below.refl _ W).drew k5
      replace k6 := cell_later (Below.refl _ W).drew k6
      replace gC := block_later (Below.refl _ W).drew gC
      replace hB := below_tr hB (Below.refl _ W).drew
      generalize W.drew = Wd at *
      refine take_at (i := 0) (v := ?_) 18 rfl rfl (by kernel_rfl) (by kernel_rfl) (by kernel_rfl) (fun _ _ _ h => h) (Or.inl ⟨by rfl, ?_⟩) (by assumption) ?_
      rotate_left
      · (intro w' hSw; (try dsimp only at hSw); go_simp; all_goals with_reducible rfl)
      try simp only [Act.put, List.setIfInBounds_toArray, List.set_cons_zero, List.set_cons_succ]
      refine take_at (i := 1) (v := ?_) 19 rfl rfl (by kernel_rfl) (by kernel_rfl) (by kernel_rfl) (fun _ _ _ h => h) (Or.inl ⟨by rfl, ?_⟩) (by assumption) ?_
      rotate_left
      · (intro w' hSw; (try dsimp only at hSw); go_simp; all_goals with_reducible rfl)
      try simp only [Act.put, List.setIfInBounds_toArray, List.set_cons_zero, List.set_cons_succ]
      refine take_at (i := 2) (v := ?_) 20 rfl rfl (by kernel_rfl) (by kernel_rfl) (by kernel_rfl) (fun _ _ _ h => h) (Or.inl ⟨by rfl, ?_⟩) (by assumption) ?_
      rotate_left
      · (intro w' hSw; (try dsimp only at hSw); go_simp; all_goals with_reducible rfl)
      try simp only [Act.put, List.setIfInBounds_toArray, List.set_cons_zero, List.set_cons_succ]
      refine take_at (i := 3) (v := ?_) 21 rfl rfl (by kernel_rfl) (by kernel_rfl) (by kernel_rfl) (fun _ _ _ h => h) (Or.inl ⟨by rfl, ?_⟩) (by assumption) ?_
      rotate_left
      · (intro w' hSw; (try dsimp only at hSw); go_simp; all_goals with_reducible rfl)
      try simp only [Act.put, List.setIfInBounds_toArray, List.set_cons_zero, List.set_cons_succ]
      refine take_at (i := 4) (v := undef) 22 rfl rfl (by kernel_rfl) (by kernel_rfl) (by kernel_rfl) (fun _ _ _ h => h) (Or.inr ⟨by rfl, rfl⟩) (by assumption) ?_
      try simp only [Act.put, List.setIfInBounds_toArray, List.set_cons_zero, List.set_cons_succ]
      refine take_at (i := 5) (v := undef) 23 rfl rfl (by kernel_rfl) (by kernel_rfl) (by kernel_rfl) (fun _ _ _ h => h) (Or.inr ⟨by rfl, rfl⟩) (by assumption) ?_
      try simp only [Act.put, List.setIfInBounds_toArray, List.set_cons_zero, List.set_cons_succ]
      refine take_at (i := 6) (v := undef) 24 rfl rfl (by kernel_rfl) (by kernel_rfl) (by kernel_rfl) (fun _ _ _ h => h) (Or.inr ⟨by rfl, rfl⟩) (by assumption) ?_
      try simp only [Act.put, List.setIfInBounds_toArray, List.set_cons_zero, List.set_cons_succ]
      refine take_at (i := 7) (v := undef) 25 rfl rfl (by kernel_rfl) (by kernel_rfl) (by kernel_rfl) (fun _ _ _ h => h) (Or.inr ⟨by rfl, rfl⟩) (by assumption) ?_
      try simp only [Act.put, List.setIfInBounds_toArray, List.set_cons_zero, List.set_cons_succ]
      refine take_at (i := 8) (v := undef) 26 rfl rfl (by kernel_rfl) (by kernel_rfl) (by kernel_rfl) (fun _ _ _ h => h) (Or.inr ⟨by rfl, rfl⟩) (by assumption) ?_
      try simp only [Act.put, List.setIfInBounds_toArray, List.set_cons_zero, List.set_cons_succ]
      refine take_at (i := 9) (v := undef) 27 rfl rfl (by kernel_rfl) (by kernel_rfl) (by kernel_rfl) (fun _ _ _ h => h) (Or.inr ⟨by rfl, rfl⟩) (by assumption) ?_
      try simp only [Act.put, List.setIfInBounds_toArray, List.set_cons_zero, List.set_cons_succ]
      refine take_at (i := 10) (v := ?_) 28 rfl rfl (by kernel_rfl) (by kernel_rfl) (by kernel_rfl) (fun _ _ _ h => h) (Or.inl ⟨by rfl, ?_⟩) (by assumption) ?_
      rotate_left
      · (intro w' hSw; (try dsimp only at hSw); go_simp; all_goals with_reducible rfl)
      try simp only [Act.put, List.setIfInBounds_toArray, List.set_cons_zero, List.set_cons_succ]
      refine take_at (i := 11) (v := ?_) 29 rfl rfl (by kernel_rfl) (by kernel_rfl) (by kernel_rfl) (fun _ _ _ h => h) (Or.inl ⟨by rfl, ?_⟩) (by assumption) ?_
      rotate_left
      · (intro w' hSw; (try dsimp only at hSw); go_simp; all_goals with_reducible rfl)
      try simp only [Act.put, List.setIfInBounds_toArray, List.set_cons_zero, List.set_cons_succ]
      refine take_at (i := 12) (v := undef) 30 rfl rfl (by kernel_rfl) (by kernel_rfl) (by kernel_rfl) (fun _ _ _ h => h) (Or.inr ⟨by rfl, rfl⟩) (by assumption) ?_
      try simp only [Act.put, List.setIfInBounds_toArray, List.set_cons_zero, List.set_cons_succ]
      refine take_at (i := 13) (v := undef) 31 rfl rfl (by kernel_rfl) (by kernel_rfl) (by kernel_rfl) (fun _ _ _ h => h) (Or.inr ⟨by rfl, rfl⟩) (by assumption) ?_
      try simp only [Act.put, List.setIfInBounds_toArray, List.set_cons_zero, List.set_cons_succ]
      refine take_at (i := 14) (v := undef) 32 rfl rfl (by kernel_rfl) (by kernel_rfl) (by kernel_rfl) (fun _ _ _ h => h) (Or.inr ⟨by rfl, rfl⟩) (by assumption) ?_
      try simp only [Act.put, List.setIfInBounds_toArray, List.set_cons_zero, List.set_cons_succ]
      refine take_at (i := 15) (v := undef) 33 rfl rfl (by kernel_rfl) (by kernel_rfl) (by kernel_rfl) (fun _ _ _ h => h) (Or.inr ⟨by rfl, rfl⟩) (by assumption) ?_
      try simp only [Act.put, List.setIfInBounds_toArray, List.set_cons_zero, List.set_cons_succ]
      refine take_at (i := 16) (v := undef) 34 rfl rfl (by kernel_rfl) (by kernel_rfl) (by kernel_rfl) (fun _ _ _ h => h) (Or.inr ⟨by rfl, rfl⟩) (by assumption) ?_
      try simp only [Act.put, List.setIfInBounds_toArray, List.set_cons_zero, List.set_cons_succ]
      refine take_at (i := 17) (v := undef) 35 rfl rfl (by kernel_rfl) (by kernel_rfl) (by kernel_rfl) (fun _ _ _ h => h) (Or.inr ⟨by rfl, rfl⟩) (by assumption) ?_
      try simp only [Act.put, List.setIfInBounds_toArray, List.set_cons_zero, List.set_cons_succ]
      refine take_at (i := 18) (v := ?_) 36 rfl rfl (by kernel_rfl) (by kernel_rfl) (by kernel_rfl) (fun _ _ _ h => h) (Or.inl ⟨by rfl, ?_⟩) (by assumption) ?_
      rotate_left
      · (intro w' hSw; (try dsimp only at hSw); go_simp; all_goals with_reducible rfl)
      try simp only [Act.put, List.setIfInBounds_toArray, List.set_cons_zero, List.set_cons_succ]
      refine take_at (i := 19) (v := ?_) 2 rfl rfl (by kernel_rfl) (by kernel_rfl) (by kernel_rfl) (fun _ _ _ h => h) (Or.inl ⟨by rfl, ?_⟩) (by assumption) ?_
      rotate_left
      · (intro w' hSw; (try dsimp only at hSw); go_simp; all_goals with_reducible rfl)
      try simp only [Act.put, List.setIfInBounds_toArray, List.set_cons_zero, List.set_cons_succ]
      refine wpAnyH_done (by kernel_rfl) ?_ _
      refine NoPanic.normal ?_
      go_wp2
      go_ret
      exact ⟨by first | (rw [HE.out]; done) | (rw [HE.out]; rfl), hB⟩

/-- Is an address the base of a level's stretch, by the document? -/
def plB (m : Nat) (l : Int) : Bool := decide (m < 281474976710656) && isB m l
set_option maxHeartbeats 2000000 in
theorem place_any (m : Nat) (l : Int) (hl : isLv l = true) (hm : m < 18446744073709551616) (w : World) :
    Calls Tryd.prog 59 #[.int .u64 (m : Nat), .int .i64 l] w fun e w' => e = .returned (.bool (plB m l)) ∧ Below w.heap.size w w' := by
  by_cases h1 : m < 281474976710656
  · have d1 : decide ((m : Int) < 281474976710656) = true := decide_eq_true (by omega)
    have HE : Hid (plB m l = isB m l) := by show plB m l = _; unfold plB; rw [decide_eq_true h1, Bool.true_and]
    have HI : Hid (isB m l = (((baseV m l : Nat) : Int) == (m : Int))) := rfl
    go_enter Tryd.func59, Tryd.ntmps59
    go_wp2_with fail
    refine (refBase_any m l hl hm _).mono ?_
    rintro e w1 ⟨rfl, hb⟩
    go_wp2
    go_ret
    exact ⟨by first | (rw [HE.out, HI.out]; done) | (rw [HE.out, HI.out]; rfl), hb⟩
  · have d1 : decide ((m : Int) < 281474976710656) = false := decide_eq_false (by omega)
    have HE : Hid (plB m l = false) := by show plB m l = _; unfold plB; rw [decide_eq_false h1]; rfl
    go_enter Tryd.func59, Tryd.ntmps59
    go_wp2
    go_ret
    exact ⟨by first | (rw [HE.out]; done) | (rw [HE.out]; rfl), Below.refl _ _⟩

end Go.Proofs.YtieldgocgjoojaaDoor
