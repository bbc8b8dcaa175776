/- VirtLevels (P5.1): for every number of bits the law returns true: a level is found just by the bits that its entries cover. No condition beyond the row's own. -/
import Derived.Test.YtldbldblpmlfpaaVirtA
import Derived.Test.YtldbldblpmlfpaaChecked
import Derived.Lib.SmallJoins
namespace Go.Proofs.Ytldbldblpmlfpaa.virtLevels
open Go.ChangeShapes Go.WideShapes Go.ChangeAt Go.RowKit Go.Lib Go.Joins

def levB (n : Int) : Bool := decide (n = 39 ∨ n = 30 ∨ n = 21 ∨ n = 12)
def levV (n : Int) : Int := if n = 39 then 0 else if n = 30 then 1 else if n = 21 then 2 else if n = 12 then 3 else 0

set_option maxHeartbeats 2000000 in
theorem level_any (n : Int) (w : World) :
    Calls Try.prog 16 #[.int .i64 n] w fun e w' => e = .returned (.tuple #[.int .i64 (levV n), .bool (levB n)]) ∧ w = w' := by
  have c0 := fun w1 => dbits_any 0 w1
  have c1 := fun w1 => dbits_any 1 w1
  have c2 := fun w1 => dbits_any 2 w1
  have c3 := fun w1 => dbits_any 3 w1
  rw [show lowL 0 = 39 by decide] at c0
  rw [show lowL 1 = 30 by decide] at c1
  rw [show lowL 2 = 21 by decide] at c2
  rw [show lowL 3 = 12 by decide] at c3
  go_enter Try.func16, Try.ntmps16
  go_wp2
  go_loop [5] (fun i => ∃ k : Nat, k ≤ 4 ∧ i = .int .i64 k ∧ (1 ≤ k → n ≠ 39) ∧ (2 ≤ k → n ≠ 30) ∧ (3 ≤ k → n ≠ 21) ∧ (4 ≤ k → n ≠ 12)) (fun i => 4 - (intOf i).toNat)
  case atStart => exact ⟨0, by omega, rfl, by omega, by omega, by omega, by omega⟩
  case round =>
    obtain ⟨k, hk, rfl, n0, n1, n2, n3⟩ := hrel
    obtain rfl | rfl | rfl | rfl | rfl : k = 0 ∨ k = 1 ∨ k = 2 ∨ k = 3 ∨ k = 4 := by omega
    · by_cases h : n = 39
      · subst h
        clear n0 n1 n2 n3
        go_wp2_with (go_at_call 17; refine (c0 _).mono ?_; rintro e w' ⟨rfl, rfl⟩)
        go_ret2
        exact ⟨rfl, rfl⟩
      · have hne : ((39 : Int) == n) = false := by rw [beq_eq_false_iff_ne]; omega
        clear n0 n1 n2 n3
        go_wp2_with (go_at_call 17; refine (c0 _).mono ?_; rintro e w' ⟨rfl, rfl⟩)
        exact ⟨⟨1, by omega, by go_num, fun _ => h, by omega, by omega, by omega⟩, by simp [intOf]⟩
    · replace n0 := n0 (by omega)
      by_cases h : n = 30
      · subst h
        clear n0 n1 n2 n3
        go_wp2_with (go_at_call 17; refine (c1 _).mono ?_; rintro e w' ⟨rfl, rfl⟩)
        go_ret2
        exact ⟨rfl, rfl⟩
      · have hne : ((30 : Int) == n) = false := by rw [beq_eq_false_iff_ne]; omega
        have N0 : Hid (n ≠ 39) := n0
        clear n0 n1 n2 n3
        go_wp2_with (go_at_call 17; refine (c1 _).mono ?_; rintro e w' ⟨rfl, rfl⟩)
        exact ⟨⟨2, by omega, by go_num, fun _ => N0.out, fun _ => h, by omega, by omega⟩, by simp [intOf]⟩
    · have N0 : Hid (n ≠ 39) := n0 (by omega)
      have N1 : Hid (n ≠ 30) := n1 (by omega)
      by_cases h : n = 21
      · subst h
        clear n0 n1 n2 n3
        go_wp2_with (go_at_call 17; refine (c2 _).mono ?_; rintro e w' ⟨rfl, rfl⟩)
        go_ret2
        exact ⟨rfl, rfl⟩
      · have hne : ((21 : Int) == n) = false := by rw [beq_eq_false_iff_ne]; omega
        clear n0 n1 n2 n3
        go_wp2_with (go_at_call 17; refine (c2 _).mono ?_; rintro e w' ⟨rfl, rfl⟩)
        exact ⟨⟨3, by omega, by go_num, fun _ => N0.out, fun _ => N1.out, fun _ => h, by omega⟩, by simp [intOf]⟩
    · have N0 : Hid (n ≠ 39) := n0 (by omega)
      have N1 : Hid (n ≠ 30) := n1 (by omega)
      have N2 : Hid (n ≠ 21) := n2 (by omega)
      by_cases h : n = 12
      · subst h
        clear n0 n1 n2 n3
        go_wp2_with (go_at_call 17; refine (c3 _).mono ?_; rintro e w' ⟨rfl, rfl⟩)
        go_ret2
        exact ⟨rfl, rfl⟩
      · have hne : ((12 : Int) == n) = false := by rw [beq_eq_false_iff_ne]; omega
        clear n0 n1 n2 n3
        go_wp2_with (go_at_call 17; refine (c3 _).mono ?_; rintro e w' ⟨rfl, rfl⟩)
        exact ⟨⟨4, by omega, by go_num, fun _ => N0.out, fun _ => N1.out, fun _ => N2.out, fun _ => h⟩, by simp [intOf]⟩
    · have HE : Hid (levV n = 0 ∧ levB n = false) := by
        have n0 := n0 (by omega)
        have n1 := n1 (by omega)
        have n2 := n2 (by omega)
        have n3 := n3 (by omega)
        show _ ∧ _
        unfold levV levB
        rw [if_neg n0, if_neg n1, if_neg n2, if_neg n3]
        exact ⟨rfl, decide_eq_false (by omega)⟩
      clear n0 n1 n2 n3
      go_wp2
      go_ret2
      exact ⟨by rw [HE.out.1, HE.out.2]; rfl, rfl⟩

set_option maxHeartbeats 2000000 in
theorem walk (n : Int) (w : World) :
    Calls Try.prog 5 #[.int .i64 n] w fun e w' => e = .returned (.bool true) ∧ Below w.heap.size w w' := by
  have cA := anchor_any w
  have cL := fun w1 => level_any n w1
  by_cases h : n = 39 ∨ n = 30 ∨ n = 21 ∨ n = 12
  · rcases h with rfl | rfl | rfl | rfl
    · have cB := fun w1 => dbits_any 0 w1
      rw [show levV 39 = 0 by decide, show levB 39 = true by decide] at cL
      rw [show lowL 0 = 39 by decide] at cB
      go_enter Try.func5, Try.ntmps5
      go_wp2_with (first
        | (go_at_call 8; refine cA.mono ?_; rintro e w1 ⟨rfl, hb⟩)
        | (go_at_call 16; refine (cL _).mono ?_; rintro e w2 ⟨rfl, rfl⟩)
        | (go_at_call 17; refine (cB _).mono ?_; rintro e w3 ⟨rfl, rfl⟩))
      go_ret
      exact ⟨rfl, hb⟩
    · have cB := fun w1 => dbits_any 1 w1
      rw [show levV 30 = 1 by decide, show levB 30 = true by decide] at cL
      rw [show lowL 1 = 30 by decide] at cB
      go_enter Try.func5, Try.ntmps5
      go_wp2_with (first
        | (go_at_call 8; refine cA.mono ?_; rintro e w1 ⟨rfl, hb⟩)
        | (go_at_call 16; refine (cL _).mono ?_; rintro e w2 ⟨rfl, rfl⟩)
        | (go_at_call 17; refine (cB _).mono ?_; rintro e w3 ⟨rfl, rfl⟩))
      go_ret
      exact ⟨rfl, hb⟩
    · have cB := fun w1 => dbits_any 2 w1
      rw [show levV 21 = 2 by decide, show levB 21 = true by decide] at cL
      rw [show lowL 2 = 21 by decide] at cB
      go_enter Try.func5, Try.ntmps5
      go_wp2_with (first
        | (go_at_call 8; refine cA.mono ?_; rintro e w1 ⟨rfl, hb⟩)
        | (go_at_call 16; refine (cL _).mono ?_; rintro e w2 ⟨rfl, rfl⟩)
        | (go_at_call 17; refine (cB _).mono ?_; rintro e w3 ⟨rfl, rfl⟩))
      go_ret
      exact ⟨rfl, hb⟩
    · have cB := fun w1 => dbits_any 3 w1
      rw [show levV 12 = 3 by decide, show levB 12 = true by decide] at cL
      rw [show lowL 3 = 12 by decide] at cB
      go_enter Try.func5, Try.ntmps5
      go_wp2_with (first
        | (go_at_call 8; refine cA.mono ?_; rintro e w1 ⟨rfl, hb⟩)
        | (go_at_call 16; refine (cL _).mono ?_; rintro e w2 ⟨rfl, rfl⟩)
        | (go_at_call 17; refine (cB _).mono ?_; rintro e w3 ⟨rfl, rfl⟩))
      go_ret
      exact ⟨rfl, hb⟩
  · have e1 : levB n = false := decide_eq_false h
    have e2 : levV n = 0 := by
      unfold levV
      rw [if_neg (by omega), if_neg (by omega), if_neg (by omega), if_neg (by omega)]
    rw [e1, e2] at cL
    have h0 : (n != 39) = true := by rw [bne_iff_ne]; omega
    have h1 : (n != 30) = true := by rw [bne_iff_ne]; omega
    have h2 : (n != 21) = true := by rw [bne_iff_ne]; omega
    have h3 : (n != 12) = true := by rw [bne_iff_ne]; omega
    clear h e1 e2
    go_enter Try.func5, Try.ntmps5
    go_wp2_with (first
      | (go_at_call 8; refine cA.mono ?_; rintro e w1 ⟨rfl, hb⟩)
      | (go_at_call 16; refine (cL _).mono ?_; rintro e w2 ⟨rfl, rfl⟩))
    go_ret
    exact ⟨rfl, hb⟩

theorem own : ownKnob Try.prog.godebug = none := by kernel_rfl
theorem laidOut : laidOutB Try.prog = true := by kernel_rfl

set_option linter.unusedVariables false in
set_option maxRecDepth 100000 in
theorem lifted (os : Os) (started : os.Started) (H : Type) (enc : TypeId × Value → H) :
    ReturnsInHanded {} Try.checked os 5 .any (Rows.virtLevelsSpec.pre6 enc Try.prog Try.f5 Rows.virtLevelsRow.domain false) (Rows.virtLevelsSpec.post enc Try.prog Try.f5 false true false false) := by
  refine returnsInHanded_of_change (C := Try.checked) own started (by kernel_rfl) Try.func5
    (ChangeSpec.witness6 (enc := enc) (C := Try.checked) false ⟨#[], #[.int .i64 0], []⟩ 8 (by kernel_rfl) (by kernel_rfl) (by kernel_rfl) (by kernel_rfl)) ?_
  intro W base args ds gs before hval0 hW hcnd _
  have hval : ∀ (j : Nat) t v, Try.f5.params[j]? = some t → args[j]? = some v → Value.okWide Try.prog W .any base t v := hval0
  have hW' := hW
  obtain ⟨p, q, hA0, hV, rfl, hfz, hnd⟩ := hW
  have hA : DataW.TrodAll enc Try.prog W 0 (fun _ => true) true Try.f5.params.toList args.toList ds p := hA0
  rw [Try.params5] at hA hval
  obtain ⟨v0, vs0, d0, ds0, p0, q0, hargs, rfl, rfl, h0, r0⟩ := trodAll_cons hA
  obtain ⟨rfl, rfl, rfl⟩ := trodAll_nil r0
  obtain rfl : args = #[v0] := by cases args; simp_all
  obtain ⟨rfl, rfl⟩ := trodVars_none hV
  have k0 := h0
  have lt0 : ∀ x ∈ p0, x.block < W.heap.size := by obtain ⟨m, hm⟩ := k0; exact DataW.trod_lt m _ _ _ hm
  obtain ⟨a0, rfl, _, _, w0⟩ := open_int Try.underlying3 (hval 0 3 v0 rfl rfl) h0
  clear hA0 hval0
  refine (walk a0 W).mono fun e W' ⟨he, bel⟩ => ?_
  subst he
  exact ⟨_, rfl, _, _, _, [], _, [], hW', trodAll_mk1 (shut_bool Try.underlying4 _), (trodAll_cons_mk (Below.trod laidOut (by kernel_rfl) (of_decide_eq_true (by kernel_rfl)) k0 bel lt0) trodAll_mk0), rfl, bel.frame _, fun h => by cases h⟩

theorem over : Rows.virtLevelsRow.holds Try.pinned (OpenSpec.ofChange Rows.virtLevelsSpec) :=
  OpenClaim.holds_of_wide 5 Try.f5 rfl rfl rfl rfl rfl rfl rfl ⟨rfl, rfl, rfl, rfl, rfl⟩ rfl rfl rfl rfl rfl (by kernel_rfl) Try.func5 (by kernel_rfl)
    (of_decide_eq_true (by kernel_rfl)) (by unfold Func.isWrapper; first | (rw [if_pos (by decide +kernel)]; kernel_rfl) | (rw [if_neg (by decide +kernel)]; exact ⟨rfl, rfl⟩))
    (fun os started H enc _ => lifted os started H enc)

theorem proved : Rows.VirtLevelsSaid :=
  over

end Go.Proofs.Ytldbldblpmlfpaa.virtLevels
