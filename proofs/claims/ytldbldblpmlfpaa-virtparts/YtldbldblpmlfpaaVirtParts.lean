/- VirtParts (P5.1): for every word and every level the law returns true: an address is parted as the document says, and a low one is its base and its offset together. No condition beyond the row's own. -/
import Derived.Test.YtldbldblpmlfpaaVirtB
import Derived.Test.YtldbldblpmlfpaaChecked
import Derived.Lib.SmallJoins
namespace Go.Proofs.Ytldbldblpmlfpaa.virtParts
open Go.ChangeShapes Go.WideShapes Go.ChangeAt Go.RowKit Go.Lib Go.Joins

set_option maxHeartbeats 2000000 in
theorem walk (x : Nat) (l : Int) (hx : x < 18446744073709551616) (w : World) :
    Calls Try.prog 3 #[.int .u64 x, .int .i64 l] w fun e w' => e = .returned (.bool true) ∧ Below w.heap.size w w' := by
  have HL : Hid (lowB x = decide ((x : Int) < 281474976710656)) := by show lowB x = _; unfold lowB; rw [decide_eq_decide]; omega
  have cA := anchor_any w
  have cI := fun w1 => index_any x l hx w1
  have cB := fun w1 => base_any x l hx w1
  have cO := fun w1 => offset_any x l hx w1
  have cL := fun w1 => low_any x w1
  rw [HL.out] at cL
  cases hl : isLv l
  · have e1 : idxI x l = -1 := by unfold idxI; rw [hl]; rfl
    have e2 : baseV x l = 0 := by unfold baseV; rw [hl]; rfl
    have e3 : offV x l = 0 := by unfold offV; rw [hl]; rfl
    rw [e1] at cI
    rw [e2] at cB
    rw [e3] at cO
    have hn : ¬ (0 ≤ l ∧ l ≤ 3) := of_decide_eq_false hl
    clear e1 e2 e3 hl
    by_cases h1 : l < 0
    · have d1 : decide (l < 0) = true := decide_eq_true h1
      clear hn
      go_enter Try.func3, Try.ntmps3
      go_wp2_with (first
        | (go_at_call 8; refine cA.mono ?_; rintro e w1 ⟨rfl, hb⟩)
        | (go_at_call 9; refine (cL _).mono ?_; rintro e w2 ⟨rfl, rfl⟩)
        | (go_at_call 10; refine (cI _).mono ?_; rintro e w3 ⟨rfl, hb3⟩)
        | (go_at_call 11; refine (cB _).mono ?_; rintro e w4 ⟨rfl, rfl⟩)
        | (go_at_call 12; refine (cO _).mono ?_; rintro e w5 ⟨rfl, rfl⟩))
      go_ret
      exact ⟨rfl, below_tr hb hb3⟩
    · have d1 : decide (l < 0) = false := decide_eq_false h1
      have d2 : decide (3 < l) = true := decide_eq_true (by omega)
      have h3 : 3 < l := by omega
      clear hn
      go_enter Try.func3, Try.ntmps3
      go_wp2_with (first
        | (go_at_call 8; refine cA.mono ?_; rintro e w1 ⟨rfl, hb⟩)
        | (go_at_call 9; refine (cL _).mono ?_; rintro e w2 ⟨rfl, rfl⟩)
        | (go_at_call 10; refine (cI _).mono ?_; rintro e w3 ⟨rfl, hb3⟩)
        | (go_at_call 11; refine (cB _).mono ?_; rintro e w4 ⟨rfl, rfl⟩)
        | (go_at_call 12; refine (cO _).mono ?_; rintro e w5 ⟨rfl, rfl⟩))
      go_ret
      exact ⟨rfl, below_tr hb hb3⟩
  · have hb0 := isLv_of hl
    have rI := fun w1 => refIndex_any x l hl hx w1
    have rB := fun w1 => refBase_any x l hl hx w1
    have rO := fun w1 => refOffset_any x l hl hx w1
    have h1 : ¬ l < 0 := by omega
    have h3 : ¬ 3 < l := by omega
    have d1 : decide (l < 0) = false := decide_eq_false h1
    have d2 : decide (3 < l) = false := decide_eq_false h3
    have hBl : baseV x l < 18446744073709551616 := by have := baseV_lt x l; omega
    have hOl : offV x l < 18446744073709551616 := Nat.lt_of_le_of_lt (offV_le x l) hx
    have HB : x < 281474976710656 → Hid ((baseV x l ||| offV x l) = x ∧ (baseV x l &&& offV x l) = 0) := fun h => base_off hl h
    generalize baseV x l = B at *
    generalize offV x l = O at *
    generalize idxI x l = I at *
    by_cases hlow : x < 281474976710656
    · have HB1 := HB hlow
      have hor : bits BinOp.or IntKind.u64 (B : Int) (O : Int) = (x : Int) := by rw [bits_or_u64_nat _ _ hBl hOl, HB1.out.1]
      have hand : bits BinOp.and IntKind.u64 (B : Int) (O : Int) = 0 := by rw [bits_and_u64_nat _ _ hBl hOl, HB1.out.2]; rfl
      have hd : decide ((x : Int) < 281474976710656) = true := decide_eq_true (by omega)
      rw [hd] at cL
      clear HB HB1 HL hl hb0
      go_enter Try.func3, Try.ntmps3
      go_wp2_with (first
        | (go_at_call 8; refine cA.mono ?_; rintro e w1 ⟨rfl, hb⟩)
        | (go_at_call 9; refine (cL _).mono ?_; rintro e w2 ⟨rfl, rfl⟩)
        | (go_at_call 10; refine (cI _).mono ?_; rintro e w3 ⟨rfl, hb3⟩)
        | (go_at_call 13; refine (rI _).mono ?_; rintro e w4 ⟨rfl, hb4⟩)
        | (go_at_call 11; refine (cB _).mono ?_; rintro e w5 ⟨rfl, rfl⟩)
        | (go_at_call 14; refine (rB _).mono ?_; rintro e w6 ⟨rfl, hb6⟩)
        | (go_at_call 12; refine (cO _).mono ?_; rintro e w7 ⟨rfl, rfl⟩)
        | (go_at_call 15; refine (rO _).mono ?_; rintro e w8 ⟨rfl, hb8⟩))
      go_ret
      exact ⟨rfl, below_tr hb (below_tr hb3 (below_tr hb4 (below_tr hb6 hb8)))⟩
    · have hd : decide ((x : Int) < 281474976710656) = false := decide_eq_false (by omega)
      rw [hd] at cL
      clear HB HL hl hb0
      go_enter Try.func3, Try.ntmps3
      go_wp2_with (first
        | (go_at_call 8; refine cA.mono ?_; rintro e w1 ⟨rfl, hb⟩)
        | (go_at_call 9; refine (cL _).mono ?_; rintro e w2 ⟨rfl, rfl⟩)
        | (go_at_call 10; refine (cI _).mono ?_; rintro e w3 ⟨rfl, hb3⟩)
        | (go_at_call 13; refine (rI _).mono ?_; rintro e w4 ⟨rfl, hb4⟩)
        | (go_at_call 11; refine (cB _).mono ?_; rintro e w5 ⟨rfl, rfl⟩)
        | (go_at_call 14; refine (rB _).mono ?_; rintro e w6 ⟨rfl, hb6⟩)
        | (go_at_call 12; refine (cO _).mono ?_; rintro e w7 ⟨rfl, rfl⟩)
        | (go_at_call 15; refine (rO _).mono ?_; rintro e w8 ⟨rfl, hb8⟩))
      go_ret
      exact ⟨rfl, below_tr hb (below_tr hb3 (below_tr hb4 (below_tr hb6 hb8)))⟩

theorem own : ownKnob Try.prog.godebug = none := by kernel_rfl
theorem laidOut : laidOutB Try.prog = true := by kernel_rfl

set_option linter.unusedVariables false in
set_option maxRecDepth 100000 in
theorem lifted (os : Os) (started : os.Started) (H : Type) (enc : TypeId × Value → H) :
    ReturnsInHanded {} Try.checked os 3 .any (Rows.virtPartsSpec.pre6 enc Try.prog Try.f3 Rows.virtPartsRow.domain false) (Rows.virtPartsSpec.post enc Try.prog Try.f3 false true false false) := by
  refine returnsInHanded_of_change (C := Try.checked) own started (by kernel_rfl) Try.func3
    (ChangeSpec.witness6 (enc := enc) (C := Try.checked) false ⟨#[], #[.int .u64 0, .int .i64 0], []⟩ 8 (by kernel_rfl) (by kernel_rfl) (by kernel_rfl) (by kernel_rfl)) ?_
  intro W base args ds gs before hval0 hW hcnd _
  have hval : ∀ (j : Nat) t v, Try.f3.params[j]? = some t → args[j]? = some v → Value.okWide Try.prog W .any base t v := hval0
  have hW' := hW
  obtain ⟨p, q, hA0, hV, rfl, hfz, hnd⟩ := hW
  have hA : DataW.TrodAll enc Try.prog W 0 (fun _ => true) true Try.f3.params.toList args.toList ds p := hA0
  rw [Try.params3] at hA hval
  obtain ⟨v0, vs0, d0, ds0, p0, q0, hargs, rfl, rfl, h0, r0⟩ := trodAll_cons hA
  obtain ⟨v1, vs1, d1, ds1, p1, q1, rfl, rfl, rfl, h1, r1⟩ := trodAll_cons r0
  obtain ⟨rfl, rfl, rfl⟩ := trodAll_nil r1
  obtain rfl : args = #[v0, v1] := by cases args; simp_all
  obtain ⟨rfl, rfl⟩ := trodVars_none hV
  have k0 := h0
  have lt0 : ∀ x ∈ p0, x.block < W.heap.size := by obtain ⟨m, hm⟩ := k0; exact DataW.trod_lt m _ _ _ hm
  have k1 := h1
  have lt1 : ∀ x ∈ p1, x.block < W.heap.size := by obtain ⟨m, hm⟩ := k1; exact DataW.trod_lt m _ _ _ hm
  obtain ⟨a0, rfl, _, _, w0⟩ := open_int Try.underlying22 (hval 0 22 v0 rfl rfl) h0
  obtain ⟨x0, rfl⟩ := Int.eq_ofNat_of_zero_le (bounds_u64 w0).1
  have b0 : x0 < 18446744073709551616 := by have := (bounds_u64 w0).2; omega
  obtain ⟨a1, rfl, _, _, w1⟩ := open_int Try.underlying3 (hval 1 3 v1 rfl rfl) h1
  clear hA0 hval0
  refine (walk x0 a1 b0 W).mono fun e W' ⟨he, bel⟩ => ?_
  subst he
  exact ⟨_, rfl, _, _, _, [], _, [], hW', trodAll_mk1 (shut_bool Try.underlying4 _), (trodAll_cons_mk (Below.trod laidOut (by kernel_rfl) (of_decide_eq_true (by kernel_rfl)) k0 bel lt0) (trodAll_cons_mk (Below.trod laidOut (by kernel_rfl) (of_decide_eq_true (by kernel_rfl)) k1 bel lt1) trodAll_mk0)), rfl, bel.frame _, fun h => by cases h⟩

theorem over : Rows.virtPartsRow.holds Try.pinned (OpenSpec.ofChange Rows.virtPartsSpec) :=
  OpenClaim.holds_of_wide 3 Try.f3 rfl rfl rfl rfl rfl rfl rfl ⟨rfl, rfl, rfl, rfl, rfl⟩ rfl rfl rfl rfl rfl (by kernel_rfl) Try.func3 (by kernel_rfl)
    (of_decide_eq_true (by kernel_rfl)) (by unfold Func.isWrapper; first | (rw [if_pos (by decide +kernel)]; kernel_rfl) | (rw [if_neg (by decide +kernel)]; exact ⟨rfl, rfl⟩))
    (fun os started H enc _ => lifted os started H enc)

theorem proved : Rows.VirtPartsSaid :=
  over

end Go.Proofs.Ytldbldblpmlfpaa.virtParts
