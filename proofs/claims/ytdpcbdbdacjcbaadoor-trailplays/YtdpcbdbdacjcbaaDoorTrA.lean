/- Marks: what is right, what leads: the walks of package trail's functions on marks. -/
import Derived.Test.YtdpcbdbdacjcbaaDoorTrT
import Derived.Test.YtdpcbdbdacjcbaaDoorDescMath
namespace Go.Proofs.YtdpcbdbdacjcbaaDoor.TR
open Go.RowKit

/-- The variables that calls read: package desc's, and where a table's address has its bits. -/
structure Flds (w : World) : Prop where
  d : Go.Proofs.YtdpcbdbdacjcbaaDoor.Flds w
  t0 : w.cell? ⟨0, 0, none⟩ = some (.int .i64 12)
  t1 : w.cell? ⟨0, 1, none⟩ = some (.int .i64 36)
theorem Flds.later {w w' : World} (h : Flds w) (hb : Below w.heap.size w w') : Flds w' :=
  ⟨h.d.later hb, cell_later hb h.t0, cell_later hb h.t1⟩
theorem Flds.alloc {w : World} (h : Flds w) (o : Obj) : Flds (w.alloc o) := h.later (below_new w o)

def baseB (b x : Nat) (l : Int) : Bool := isLv l && decide (baseV x l = b)
/-- A mark leads. -/
def mB (e : En) (i : Int) (x : Nat) : Bool := decide (e.aid = i) && (lowB x && baseB e.va x (e.lv - 1))
def tabB (t : Nat) : Bool := restV t [(12, 36)] == 0
/-- What may be. -/
def rightE (e : En) : Bool := decide (0 ≤ e.aid ∧ e.aid ≤ 255 ∧ 1 ≤ e.lv ∧ e.lv ≤ 3) && (tabB e.tb && mB e e.aid e.va)
def En.okR (e : En) : Prop := e.ok ∧ rightE e = true
theorem right_lv {e : En} (h : rightE e = true) : 1 ≤ e.lv ∧ e.lv ≤ 3 := by
  unfold rightE at h
  rw [Bool.and_eq_true, decide_eq_true_eq] at h
  exact h.1.2.2

set_option maxHeartbeats 1000000 in
theorem isBase_any (b x : Nat) (l : Int) (hx : x < 18446744073709551616) (w : World) :
    Calls Tryd.prog 39 #[.int .u64 b, .int .u64 x, .int .i64 l] w fun e w' => e = .returned (.bool (baseB b x l)) ∧ w = w' := by
  cases hl : isLv l
  · have HE : Hid (baseB b x l = false) := by show baseB b x l = _; unfold baseB; rw [hl]; rfl
    have e : lowL l = 0 := lowL_wrong hl
    go_enter Tryd.func39, Tryd.ntmps39
    go_wp2_with (first
      | (go_at_call 58; refine (dbits_any _ _).mono ?_; rintro e w' ⟨rfl, rfl⟩; rw [e])
      | (go_at_call 33; refine (base_any x l hx _).mono ?_; rintro e w' ⟨rfl, rfl⟩))
    go_ret
    exact ⟨by rw [HE.out]; rfl, rfl⟩
  · have HE : Hid (baseB b x l = ((baseV x l : Int) == (b : Int))) := by
      show baseB b x l = _
      unfold baseB; rw [hl, Bool.true_and, Bool.eq_iff_iff, decide_eq_true_eq, beq_iff_eq]; omega
    obtain ⟨e, h1, h2, -⟩ := lowK_eq hl
    have h3 : (0 : Int) < lowL l := by omega
    clear e h1 h2
    generalize hbv : baseV x l = B at *
    have hB := fun w1 => base_any x l hx w1
    rw [hbv] at hB
    clear hbv
    generalize hlv : lowL l = L at *
    have hL := fun w1 => dbits_any l w1
    rw [hlv] at hL
    clear hlv
    go_enter Tryd.func39, Tryd.ntmps39
    go_wp2_with (first
      | (go_at_call 58; refine (hL _).mono ?_; rintro e w' ⟨rfl, rfl⟩)
      | (go_at_call 33; refine (hB _).mono ?_; rintro e w' ⟨rfl, rfl⟩))
    all_goals go_ret
    all_goals exact ⟨by rw [HE.out]; rfl, rfl⟩

set_option maxHeartbeats 1000000 in
theorem matches_any (e : En) (h1 : 1 ≤ e.lv) (h3 : e.lv ≤ 3) (i : Int) (x : Nat) (hx : x < 18446744073709551616) (w : World) :
    Calls Tryd.prog 18 #[e.v, .int .i64 i, .int .u64 x] w fun r w' => r = .returned (.bool (mB e i x)) ∧ Below w.heap.size w w' := by
  unfold mB
  obtain ⟨a0, a1, a2, a3⟩ := e
  simp only [En.v] at *
  by_cases h0 : a0 = i
  · rw [decide_eq_true h0, Bool.true_and]
    have d0 : (a0 == i) = true := by rw [beq_iff_eq]; exact h0
    cases hl : lowB x
    · go_enter Tryd.func18, Tryd.ntmps18
      go_wp2_with (first
        | (go_at_call 32; refine (low_any x _).mono ?_; rintro e w' ⟨rfl, rfl⟩; rw [hl]))
      all_goals go_ret
      all_goals exact ⟨rfl, below_new _ _⟩
    · rw [Bool.true_and]
      go_enter Tryd.func18, Tryd.ntmps18
      go_wp2_with (first
        | (go_at_call 32; refine (low_any x _).mono ?_; rintro e w' ⟨rfl, rfl⟩; rw [hl])
        | (go_at_call 39; refine (isBase_any a1 x (a2 - 1) hx _).mono ?_; rintro e w' ⟨rfl, rfl⟩))
      all_goals go_ret
      all_goals exact ⟨rfl, below_new _ _⟩
  · rw [decide_eq_false h0, Bool.false_and]
    have d0 : (a0 == i) = false := by rw [beq_eq_false_iff_ne]; exact h0
    go_enter Tryd.func18, Tryd.ntmps18
    go_wp2
    go_ret
    exact ⟨rfl, below_new _ _⟩

set_option maxHeartbeats 2000000 in
theorem rightE_any (e : En) (he : e.ok) (w : World) (hF : Flds w) :
    Calls Tryd.prog 21 #[e.v] w fun r w' => r = .returned (.bool (rightE e)) ∧ Below w.heap.size w w' := by
  have hm := fun (h1 : 1 ≤ e.lv) (h3 : e.lv ≤ 3) w1 => matches_any e h1 h3 e.aid e.va he.1 w1
  have HT : Hid (tabB e.tb = (restV e.tb [(12, 36)] == 0)) := rfl
  have HE : Hid (rightE e = (decide (0 ≤ e.aid ∧ e.aid ≤ 255 ∧ 1 ≤ e.lv ∧ e.lv ≤ 3) && (tabB e.tb && mB e e.aid e.va))) := rfl
  have hR := fun b c w1 h1 h2 => rest_some e.tb he.2 [(12, 36)] b c (by decide) w1 h1 h2
  generalize rightE e = RE at *
  generalize mB e e.aid e.va = M at *
  have t0 := fun ob => cell_later (below_new w ob) hF.t0
  have t1 := fun ob => cell_later (below_new w ob) hF.t1
  clear hF
  obtain ⟨a0, a1, a2, a3⟩ := e
  simp only [En.v] at *
  by_cases h0 : 0 ≤ a0
  · by_cases h1 : a0 ≤ 255
    · by_cases h2 : 1 ≤ a2
      · by_cases h3 : a2 ≤ 3
        · rw [decide_eq_true (show 0 ≤ a0 ∧ a0 ≤ 255 ∧ 1 ≤ a2 ∧ a2 ≤ 3 from ⟨h0, h1, h2, h3⟩), Bool.true_and] at HE
          have d0 : decide (a0 < 0) = false := decide_eq_false (by omega)
          have d1 : decide (255 < a0) = false := decide_eq_false (by omega)
          have d2 : decide (a2 < 1) = false := decide_eq_false (by omega)
          have d3 : decide (3 < a2) = false := decide_eq_false (by omega)
          have hM := hm h2 h3
          clear hm
          generalize restV a3 [(12, 36)] = y at *
          by_cases hy : y = 0
          · rw [hy] at HT hR
            rw [HT.out] at HE
            go_enter Tryd.func21, Tryd.ntmps21
            go_wp2_with fail
            refine (hR _ _ _ (fun i hi => ?_) (fun i hi => ?_)).mono ?_
            · obtain rfl : i = 0 := by simp at hi; exact hi
              simp
            · obtain rfl : i = 0 := by simp at hi; exact hi
              simp
            rintro e w1 ⟨rfl, hb⟩
            have hK := block_later hb (heap_alloc2_old w (.cells #[.int .i64 a0, .int .u64 a1, .int .i64 a2, .int .u64 a3] 31) _)
            obtain ⟨q0, q1, q2, q3⟩ := cells4 hK
            have hB := below_tr (below_tr (below_new _ _) (below_new _ _)) hb
            clear hb hK hR t0 t1
            go_wp2_with fail
            refine (hM _).mono ?_
            rintro e w2 ⟨rfl, hb2⟩
            go_wp2
            all_goals go_ret
            all_goals exact ⟨by rw [HE.out]; rfl, below_tr hB hb2⟩
          · have hy2 : ((y : Int) == 0) = false := by rw [beq_eq_false_iff_ne]; omega
            rw [show (y == 0) = false by rw [beq_eq_false_iff_ne]; exact hy] at HT
            rw [HT.out] at HE
            go_enter Tryd.func21, Tryd.ntmps21
            go_wp2_with fail
            refine (hR _ _ _ (fun i hi => ?_) (fun i hi => ?_)).mono ?_
            · obtain rfl : i = 0 := by simp at hi; exact hi
              simp
            · obtain rfl : i = 0 := by simp at hi; exact hi
              simp
            rintro e w1 ⟨rfl, hb⟩
            have hB := below_tr (below_tr (below_new _ _) (below_new _ _)) hb
            clear hb hR t0 t1 hM
            go_wp2
            all_goals go_ret
            all_goals exact ⟨by rw [HE.out]; rfl, hB⟩
        · rw [decide_eq_false (show ¬ (0 ≤ a0 ∧ a0 ≤ 255 ∧ 1 ≤ a2 ∧ a2 ≤ 3) by omega), Bool.false_and] at HE
          have d0 : decide (a0 < 0) = false := decide_eq_false (by omega)
          have d1 : decide (255 < a0) = false := decide_eq_false (by omega)
          have d2 : decide (a2 < 1) = false := decide_eq_false (by omega)
          have d3 : decide (3 < a2) = true := decide_eq_true (by omega)
          clear hm hR t0 t1
          go_enter Tryd.func21, Tryd.ntmps21
          go_wp2
          all_goals go_ret
          all_goals exact ⟨by rw [HE.out]; rfl, below_new _ _⟩
      · rw [decide_eq_false (show ¬ (0 ≤ a0 ∧ a0 ≤ 255 ∧ 1 ≤ a2 ∧ a2 ≤ 3) by omega), Bool.false_and] at HE
        have d0 : decide (a0 < 0) = false := decide_eq_false (by omega)
        have d1 : decide (255 < a0) = false := decide_eq_false (by omega)
        have d2 : decide (a2 < 1) = true := decide_eq_true (by omega)
        clear hm hR t0 t1
        go_enter Tryd.func21, Tryd.ntmps21
        go_wp2
        all_goals go_ret
        all_goals exact ⟨by rw [HE.out]; rfl, below_new _ _⟩
    · rw [decide_eq_false (show ¬ (0 ≤ a0 ∧ a0 ≤ 255 ∧ 1 ≤ a2 ∧ a2 ≤ 3) by omega), Bool.false_and] at HE
      have d0 : decide (a0 < 0) = false := decide_eq_false (by omega)
      have d1 : decide (255 < a0) = true := decide_eq_true (by omega)
      clear hm hR t0 t1
      go_enter Tryd.func21, Tryd.ntmps21
      go_wp2
      all_goals go_ret
      all_goals exact ⟨by rw [HE.out]; rfl, below_new _ _⟩
  · rw [decide_eq_false (show ¬ (0 ≤ a0 ∧ a0 ≤ 255 ∧ 1 ≤ a2 ∧ a2 ≤ 3) by omega), Bool.false_and] at HE
    have d0 : decide (a0 < 0) = true := decide_eq_true (by omega)
    clear hm hR t0 t1
    go_enter Tryd.func21, Tryd.ntmps21
    go_wp2
    all_goals go_ret
    all_goals exact ⟨by rw [HE.out]; rfl, below_new _ _⟩

end Go.Proofs.YtdpcbdbdacjcbaaDoor.TR
