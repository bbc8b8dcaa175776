/- Capabilities: sizes, ends and slots; what covers what. -/
import Derived.Test.YtkedoajkdobjdaaDoorCapK
set_option linter.unusedVariables false
namespace Go.Proofs.YtkedoajkdobjdaaDoor
open Go.RowKit

/-- Is a capability right, and does it name an object? -/
def noB (k : Int) (a : Nat) (b r g s : Int) (m : Nat) : Bool := if hoB k = true then cB k a b r g s m else false
/-- How many bits its size has. -/
def nbN (k b : Int) : Nat := (bitV k b).toNat
theorem no_of {k : Int} {a : Nat} {b r g s : Int} {m : Nat} (h : noB k a b r g s m = true) : hoB k = true ∧ cB k a b r g s m = true ∧ rbB k b = true ∧ 0 ≤ b ∧ b ≤ 32 ∧ bitV k b = ((nbN k b : Nat) : Int) ∧ 5 ≤ nbN k b ∧ nbN k b ≤ 32 ∧ a + 2 ^ nbN k b ≤ 4294967296 ∧ (k = 2 → 1 ≤ b ∧ b ≤ 12) ∧ (k = 10 → 1 ≤ b ∧ b ≤ 12) := by
  have ho : hoB k = true := by unfold noB at h; split at h; assumption; cases h
  have hc : cB k a b r g s m = true := by unfold noB at h; rw [if_pos ho] at h; exact h
  have h2 := hc
  rw [c_obj _ _ _ _ _ _ _ ho] at h2
  obtain ⟨h3, h4, -⟩ := h2
  obtain ⟨b0, b1, ⟨e1, e2, e3⟩, b2, b3⟩ := rb_bits h3
  rw [ra_in a _ e2 e3] at h4
  unfold inM at h4
  simp only [Bool.and_eq_true, decide_eq_true_eq] at h4
  exact ⟨ho, hc, h3, b0, b1, e1, e2, e3, h4.2.2, b2, b3⟩
theorem no_true {k : Int} {a : Nat} {b r g s : Int} {m : Nat} (ho : hoB k = true) (hc : cB k a b r g s m = true) : noB k a b r g s m = true := by unfold noB; rw [if_pos ho]; exact hc
theorem no_ho {k : Int} {a : Nat} {b r g s : Int} {m : Nat} (ho : hoB k = false) : noB k a b r g s m = false := by unfold noB; rw [ho]; rfl
theorem no_c {k : Int} {a : Nat} {b r g s : Int} {m : Nat} (hc : cB k a b r g s m = false) : noB k a b r g s m = false := by unfold noB; rw [hc]; split <;> rfl
theorem sz_neg {k b : Int} (h : hoB k = false) : szV k b < 0 := by
  unfold hoB at h
  unfold szV
  by_cases h0 : k = 0
  · subst h0; rw [if_pos rfl]; split <;> decide
  rw [if_neg h0] at h
  by_cases h6 : k = 6
  · subst h6; rw [if_neg (by decide), if_pos rfl]; split <;> decide
  · rw [if_neg h6] at h; cases h
theorem sz_no {k : Int} {a : Nat} {b r g s : Int} {m : Nat} (h : noB k a b r g s m = true) : szV k b = ((nbN k b : Nat) : Int) := by
  obtain ⟨ho, hc, hr, -, -, e, -⟩ := no_of h
  have h0 : ¬ k = 0 := by intro h; subst h; exact absurd ho (by decide)
  have h6 : ¬ k = 6 := by intro h; subst h; exact absurd ho (by decide)
  rw [(sz_of k b h0 h6).1 hr, e]

set_option maxHeartbeats 4000000 in
theorem names_any (k : Int) (a : Nat) (b r g s : Int) (m : Nat) (ha : a < 18446744073709551616) (hm : m < 18446744073709551616) (w : World) :
    Calls Tryd.prog 42 #[.agg #[.int .i64 k, .int .u64 (a : Nat), .int .i64 b, .int .i64 r, .int .i64 g, .int .i64 s, .int .u64 (m : Nat)]] w fun e w' => e = .returned (.bool (noB k a b r g s m)) ∧ Below w.heap.size w w' := by
  cases h1 : hoB k
  · have HE : Hid (noB k a b r g s m = (false)) := by
      show noB k a b r g s m = _
      unfold noB
      rw [if_neg (ne_true_of_eq_false h1)]
    go_enter Tryd.func42, Tryd.ntmps42
    go_wp2_with fail
    refine (hasObj_any k a b r g s m _).mono ?_
    rintro e w1 ⟨rfl, hb⟩
    have gC := block_later hb (heap_alloc_new _ _)
    have hB := below_tr (below_new _ _) hb
    obtain ⟨k0, k1, k2, k3, k4, k5, k6⟩ := cells7 gC
    clear hb
    rw [h1]
    go_wp2
    go_ret
    exact ⟨by first | (rw [HE.out]; done) | (rw [HE.out]; rfl), hB⟩
  · have HE : Hid (noB k a b r g s m = (cB k a b r g s m)) := by
      show noB k a b r g s m = _
      unfold noB
      rw [if_pos h1]
    go_enter Tryd.func42, Tryd.ntmps42
    go_wp2_with fail
    refine (hasObj_any k a b r g s m _).mono ?_
    rintro e w1 ⟨rfl, hb⟩
    have gC := block_later hb (heap_alloc_new _ _)
    have hB := below_tr (below_new _ _) hb
    obtain ⟨k0, k1, k2, k3, k4, k5, k6⟩ := cells7 gC
    clear hb
    rw [h1]
    go_wp2_with fail
    refine (cright_any k a b r g s m ha hm _).mono ?_
    rintro e w2 ⟨rfl, hb⟩
    replace gC := block_later hb gC
    replace hB := below_tr hB hb
    obtain ⟨k0, k1, k2, k3, k4, k5, k6⟩ := cells7 gC
    clear hb
    go_wp2
    go_ret
    exact ⟨by first | (rw [HE.out]; done) | (rw [HE.out]; rfl), hB⟩

set_option maxRecDepth 100000 in
set_option maxHeartbeats 4000000 in
theorem size_yes (k : Int) (a : Nat) (b r g s : Int) (m : Nat) (ha : a < 18446744073709551616) (hm : m < 18446744073709551616) (h : noB k a b r g s m = true) (w : World) :
    Calls Tryd.prog 18 #[.agg #[.int .i64 k, .int .u64 (a : Nat), .int .i64 b, .int .i64 r, .int .i64 g, .int .i64 s, .int .u64 (m : Nat)]] w fun e w' => e = .returned (.int .i64 ((nbN k b : Nat) : Int)) ∧ Below w.heap.size w w' := by
  have cN := fun w1 => names_any k a b r g s m ha hm w1
  rw [h] at cN
  obtain ⟨-, -, -, b0, b1, e1, -⟩ := no_of h
  have cB' := fun w1 => bits_c k a b r g s m b0 (by omega) w1
  rw [e1] at cB'
  clear h e1
  go_enter Tryd.func18, Tryd.ntmps18
  go_wp2_with fail
  have gC := heap_alloc_new w (.cells #[.int .i64 k, .int .u64 (a : Nat), .int .i64 b, .int .i64 r, .int .i64 g, .int .i64 s, .int .u64 (m : Nat)] 24)
  have hB := below_new w (.cells #[.int .i64 k, .int .u64 (a : Nat), .int .i64 b, .int .i64 r, .int .i64 g, .int .i64 s, .int .u64 (m : Nat)] 24)
  generalize w.alloc (.cells #[.int .i64 k, .int .u64 (a : Nat), .int .i64 b, .int .i64 r, .int .i64 g, .int .i64 s, .int .u64 (m : Nat)] 24) = W0 at *
  obtain ⟨c0, c1, c2, c3, c4, c5, c6⟩ := cells7 gC
  have cp0 := fun o => cell_alloc (o := o) c0
  have cp1 := fun o => cell_alloc (o := o) c1
  have cp2 := fun o => cell_alloc (o := o) c2
  have cp3 := fun o => cell_alloc (o := o) c3
  have cp4 := fun o => cell_alloc (o := o) c4
  have cp5 := fun o => cell_alloc (o := o) c5
  have cp6 := fun o => cell_alloc (o := o) c6
  refine (cN _).mono ?_
  clear c0 cp0 c1 cp1 c2 cp2 c3 cp3 c4 cp4 c5 cp5 c6 cp6
  rintro e w1 ⟨rfl, hb⟩
  replace gC := block_later hb gC
  replace hB := below_tr hB hb
  clear hb
  obtain ⟨c0, c1, c2, c3, c4, c5, c6⟩ := cells7 gC
  have cp0 := fun o => cell_alloc (o := o) c0
  have cp1 := fun o => cell_alloc (o := o) c1
  have cp2 := fun o => cell_alloc (o := o) c2
  have cp3 := fun o => cell_alloc (o := o) c3
  have cp4 := fun o => cell_alloc (o := o) c4
  have cp5 := fun o => cell_alloc (o := o) c5
  have cp6 := fun o => cell_alloc (o := o) c6
  go_wp2_with fail
  refine (cB' _).mono ?_
  clear c0 cp0 c1 cp1 c2 cp2 c3 cp3 c4 cp4 c5 cp5 c6 cp6
  rintro e w2 ⟨rfl, hb⟩
  replace gC := block_later hb gC
  replace hB := below_tr hB hb
  clear hb
  obtain ⟨c0, c1, c2, c3, c4, c5, c6⟩ := cells7 gC
  have cp0 := fun o => cell_alloc (o := o) c0
  have cp1 := fun o => cell_alloc (o := o) c1
  have cp2 := fun o => cell_alloc (o := o) c2
  have cp3 := fun o => cell_alloc (o := o) c3
  have cp4 := fun o => cell_alloc (o := o) c4
  have cp5 := fun o => cell_alloc (o := o) c5
  have cp6 := fun o => cell_alloc (o := o) c6
  go_wp2
  go_ret
  first
    | exact ⟨rfl, hB⟩
    | exact ⟨rfl, hB.alloc hB.size _⟩

set_option maxRecDepth 100000 in
set_option maxHeartbeats 4000000 in
theorem size_no (k : Int) (a : Nat) (b r g s : Int) (m : Nat) (ha : a < 18446744073709551616) (hm : m < 18446744073709551616) (h : noB k a b r g s m = false) (w : World) :
    Calls Tryd.prog 18 #[.agg #[.int .i64 k, .int .u64 (a : Nat), .int .i64 b, .int .i64 r, .int .i64 g, .int .i64 s, .int .u64 (m : Nat)]] w fun e w' => e = .returned (.int .i64 (-1)) ∧ Below w.heap.size w w' := by
  have cN := fun w1 => names_any k a b r g s m ha hm w1
  rw [h] at cN
  clear h
  go_enter Tryd.func18, Tryd.ntmps18
  go_wp2_with fail
  have gC := heap_alloc_new w (.cells #[.int .i64 k, .int .u64 (a : Nat), .int .i64 b, .int .i64 r, .int .i64 g, .int .i64 s, .int .u64 (m : Nat)] 24)
  have hB := below_new w (.cells #[.int .i64 k, .int .u64 (a : Nat), .int .i64 b, .int .i64 r, .int .i64 g, .int .i64 s, .int .u64 (m : Nat)] 24)
  generalize w.alloc (.cells #[.int .i64 k, .int .u64 (a : Nat), .int .i64 b, .int .i64 r, .int .i64 g, .int .i64 s, .int .u64 (m : Nat)] 24) = W0 at *
  obtain ⟨c0, c1, c2, c3, c4, c5, c6⟩ := cells7 gC
  have cp0 := fun o => cell_alloc (o := o) c0
  have cp1 := fun o => cell_alloc (o := o) c1
  have cp2 := fun o => cell_alloc (o := o) c2
  have cp3 := fun o => cell_alloc (o := o) c3
  have cp4 := fun o => cell_alloc (o := o) c4
  have cp5 := fun o => cell_alloc (o := o) c5
  have cp6 := fun o => cell_alloc (o := o) c6
  refine (cN _).mono ?_
  clear c0 cp0 c1 cp1 c2 cp2 c3 cp3 c4 cp4 c5 cp5 c6 cp6
  rintro e w1 ⟨rfl, hb⟩
  replace gC := block_later hb gC
  replace hB := below_tr hB hb
  clear hb
  obtain ⟨c0, c1, c2, c3, c4, c5, c6⟩ := cells7 gC
  have cp0 := fun o => cell_alloc (o := o) c0
  have cp1 := fun o => cell_alloc (o := o) c1
  have cp2 := fun o => cell_alloc (o := o) c2
  have cp3 := fun o => cell_alloc (o := o) c3
  have cp4 := fun o => cell_alloc (o := o) c4
  have cp5 := fun o => cell_alloc (o := o) c5
  have cp6 := fun o => cell_alloc (o := o) c6
  go_wp2
  go_ret
  first
    | exact ⟨rfl, hB⟩
    | exact ⟨rfl, hB.alloc hB.size _⟩

set_option maxRecDepth 100000 in
set_option maxHeartbeats 4000000 in
theorem end_no (k : Int) (a : Nat) (b r g s : Int) (m : Nat) (ha : a < 18446744073709551616) (hm : m < 18446744073709551616) (h : noB k a b r g s m = false) (w : World) :
    Calls Tryd.prog 19 #[.agg #[.int .i64 k, .int .u64 (a : Nat), .int .i64 b, .int .i64 r, .int .i64 g, .int .i64 s, .int .u64 (m : Nat)]] w fun e w' => e = .returned (.int .u64 0) ∧ Below w.heap.size w w' := by
  have cN := fun w1 => names_any k a b r g s m ha hm w1
  rw [h] at cN
  clear h
  go_enter Tryd.func19, Tryd.ntmps19
  go_wp2_with fail
  have gC := heap_alloc_new w (.cells #[.int .i64 k, .int .u64 (a : Nat), .int .i64 b, .int .i64 r, .int .i64 g, .int .i64 s, .int .u64 (m : Nat)] 24)
  have hB := below_new w (.cells #[.int .i64 k, .int .u64 (a : Nat), .int .i64 b, .int .i64 r, .int .i64 g, .int .i64 s, .int .u64 (m : Nat)] 24)
  generalize w.alloc (.cells #[.int .i64 k, .int .u64 (a : Nat), .int .i64 b, .int .i64 r, .int .i64 g, .int .i64 s, .int .u64 (m : Nat)] 24) = W0 at *
  obtain ⟨c0, c1, c2, c3, c4, c5, c6⟩ := cells7 gC
  have cp0 := fun o => cell_alloc (o := o) c0
  have cp1 := fun o => cell_alloc (o := o) c1
  have cp2 := fun o => cell_alloc (o := o) c2
  have cp3 := fun o => cell_alloc (o := o) c3
  have cp4 := fun o => cell_alloc (o := o) c4
  have cp5 := fun o => cell_alloc (o := o) c5
  have cp6 := fun o => cell_alloc (o := o) c6
  refine (cN _).mono ?_
  clear c0 cp0 c1 cp1 c2 cp2 c3 cp3 c4 cp4 c5 cp5 c6 cp6
  rintro e w1 ⟨rfl, hb⟩
  replace gC := block_later hb gC
  replace hB := below_tr hB hb
  clear hb
  obtain ⟨c0, c1, c2, c3, c4, c5, c6⟩ := cells7 gC
  have cp0 := fun o => cell_alloc (o := o) c0
  have cp1 := fun o => cell_alloc (o := o) c1
  have cp2 := fun o => cell_alloc (o := o) c2
  have cp3 := fun o => cell_alloc (o := o) c3
  have cp4 := fun o => cell_alloc (o := o) c4
  have cp5 := fun o => cell_alloc (o := o) c5
  have cp6 := fun o => cell_alloc (o := o) c6
  go_wp2
  go_ret
  first
    | exact ⟨rfl, hB⟩
    | exact ⟨rfl, hB.alloc hB.size _⟩

set_option maxRecDepth 100000 in
set_option maxHeartbeats 4000000 in
theorem slots_no (k : Int) (a : Nat) (b r g s : Int) (m : Nat) (ha : a < 18446744073709551616) (hm : m < 18446744073709551616) (h : noB k a b r g s m = false) (w : World) :
    Calls Tryd.prog 20 #[.agg #[.int .i64 k, .int .u64 (a : Nat), .int .i64 b, .int .i64 r, .int .i64 g, .int .i64 s, .int .u64 (m : Nat)]] w fun e w' => e = .returned (.int .i64 0) ∧ Below w.heap.size w w' := by
  have cN := fun w1 => names_any k a b r g s m ha hm w1
  rw [h] at cN
  clear h
  go_enter Tryd.func20, Tryd.ntmps20
  go_wp2_with fail
  have gC := heap_alloc_new w (.cells #[.int .i64 k, .int .u64 (a : Nat), .int .i64 b, .int .i64 r, .int .i64 g, .int .i64 s, .int .u64 (m : Nat)] 24)
  have hB := below_new w (.cells #[.int .i64 k, .int .u64 (a : Nat), .int .i64 b, .int .i64 r, .int .i64 g, .int .i64 s, .int .u64 (m : Nat)] 24)
  generalize w.alloc (.cells #[.int .i64 k, .int .u64 (a : Nat), .int .i64 b, .int .i64 r, .int .i64 g, .int .i64 s, .int .u64 (m : Nat)] 24) = W0 at *
  obtain ⟨c0, c1, c2, c3, c4, c5, c6⟩ := cells7 gC
  have cp0 := fun o => cell_alloc (o := o) c0
  have cp1 := fun o => cell_alloc (o := o) c1
  have cp2 := fun o => cell_alloc (o := o) c2
  have cp3 := fun o => cell_alloc (o := o) c3
  have cp4 := fun o => cell_alloc (o := o) c4
  have cp5 := fun o => cell_alloc (o := o) c5
  have cp6 := fun o => cell_alloc (o := o) c6
  refine (cN _).mono ?_
  clear c0 cp0 c1 cp1 c2 cp2 c3 cp3 c4 cp4 c5 cp5 c6 cp6
  rintro e w1 ⟨rfl, hb⟩
  replace gC := block_later hb gC
  replace hB := below_tr hB hb
  clear hb
  obtain ⟨c0, c1, c2, c3, c4, c5, c6⟩ := cells7 gC
  have cp0 := fun o => cell_alloc (o := o) c0
  have cp1 := fun o => cell_alloc (o := o) c1
  have cp2 := fun o => cell_alloc (o := o) c2
  have cp3 := fun o => cell_alloc (o := o) c3
  have cp4 := fun o => cell_alloc (o := o) c4
  have cp5 := fun o => cell_alloc (o := o) c5
  have cp6 := fun o => cell_alloc (o := o) c6
  go_wp2
  go_ret
  first
    | exact ⟨rfl, hB⟩
    | exact ⟨rfl, hB.alloc hB.size _⟩

set_option maxRecDepth 100000 in
set_option maxHeartbeats 4000000 in
theorem end_yes (k : Int) (a : Nat) (b r g s : Int) (m : Nat) (ha : a < 18446744073709551616) (hm : m < 18446744073709551616) (h : noB k a b r g s m = true) (w : World) :
    Calls Tryd.prog 19 #[.agg #[.int .i64 k, .int .u64 (a : Nat), .int .i64 b, .int .i64 r, .int .i64 g, .int .i64 s, .int .u64 (m : Nat)]] w fun e w' => e = .returned (.int .u64 ((a + 2 ^ nbN k b : Nat) : Int)) ∧ Below w.heap.size w w' := by
  have cN := fun w1 => names_any k a b r g s m ha hm w1
  rw [h] at cN
  obtain ⟨-, -, -, b0, b1, e1, q1, q2, q3, -⟩ := no_of h
  have cB' := fun w1 => bits_c k a b r g s m b0 (by omega) w1
  rw [e1] at cB'
  have hn0 : (0 : Int) ≤ ((nbN k b : Nat) : Int) := by omega
  have HE : Hid (((a + 2 ^ nbN k b : Nat) : Int) = IntKind.u64.wrap ((a : Int) + IntKind.u64.wrap ((2 : Int) ^ nbN k b))) := by
    show _ = _
    rw [show ((2 : Int) ^ nbN k b) = ((2 ^ nbN k b : Nat) : Int) by simp, IntKind.wrap_u64, IntKind.wrap_u64]
    generalize 2 ^ nbN k b = p at *
    omega
  have HE2 : Hid (IntKind.u64.wrap ((2 : Int) ^ min (nbN k b) 64) = IntKind.u64.wrap ((2 : Int) ^ nbN k b)) := by
    show _ = _
    rw [Nat.min_eq_left (by omega)]
  clear h e1 q1 q3 b0 b1
  generalize nbN k b = N at *
  have e2 := HE2.out
  go_enter Tryd.func19, Tryd.ntmps19
  go_wp2_with fail
  have gC := heap_alloc_new w (.cells #[.int .i64 k, .int .u64 (a : Nat), .int .i64 b, .int .i64 r, .int .i64 g, .int .i64 s, .int .u64 (m : Nat)] 24)
  have hB := below_new w (.cells #[.int .i64 k, .int .u64 (a : Nat), .int .i64 b, .int .i64 r, .int .i64 g, .int .i64 s, .int .u64 (m : Nat)] 24)
  generalize w.alloc (.cells #[.int .i64 k, .int .u64 (a : Nat), .int .i64 b, .int .i64 r, .int .i64 g, .int .i64 s, .int .u64 (m : Nat)] 24) = W0 at *
  obtain ⟨c0, c1, c2, c3, c4, c5, c6⟩ := cells7 gC
  have cp0 := fun o => cell_alloc (o := o) c0
  have cp1 := fun o => cell_alloc (o := o) c1
  have cp2 := fun o => cell_alloc (o := o) c2
  have cp3 := fun o => cell_alloc (o := o) c3
  have cp4 := fun o => cell_alloc (o := o) c4
  have cp5 := fun o => cell_alloc (o := o) c5
  have cp6 := fun o => cell_alloc (o := o) c6
  refine (cN _).mono ?_
  clear c0 cp0 c1 cp1 c2 cp2 c3 cp3 c4 cp4 c5 cp5 c6 cp6
  rintro e w1 ⟨rfl, hb⟩
  replace gC := block_later hb gC
  replace hB := below_tr hB hb
  clear hb
  obtain ⟨c0, c1, c2, c3, c4, c5, c6⟩ := cells7 gC
  have cp0 := fun o => cell_alloc (o := o) c0
  have cp1 := fun o => cell_alloc (o := o) c1
  have cp2 := fun o => cell_alloc (o := o) c2
  have cp3 := fun o => cell_alloc (o := o) c3
  have cp4 := fun o => cell_alloc (o := o) c4
  have cp5 := fun o => cell_alloc (o := o) c5
  have cp6 := fun o => cell_alloc (o := o) c6
  clear c0 cp0 c1 cp1 c2 cp2 c3 cp3 c4 cp4 c5 cp5 c6 cp6
  go_upto_region 3 with fail
  obtain ⟨k0, k1, k2, k3, k4, k5, k6⟩ := cells7 gC
  refine wp_region_noPanic ?_
  refine wp_region_held_drew (S := (fun w' => w'.cell? ⟨w.heap.size, 0, none⟩ = some (.int .i64 k) ∧ w'.cell? ⟨w.heap.size, 1, none⟩ = some (.int .u64 (a : Nat)) ∧ w'.cell? ⟨w.heap.size, 2, none⟩ = some (.int .i64 b) ∧ w'.cell? ⟨w.heap.size, 3, none⟩ = some (.int .i64 r) ∧ w'.cell? ⟨w.heap.size, 4, none⟩ = some (.int .i64 g) ∧ w'.cell? ⟨w.heap.size, 5, none⟩ = some (.int .i64 s) ∧ w'.cell? ⟨w.heap.size, 6, none⟩ = some (.int .u64 (m : Nat)))) (by kernel_rfl) ?_ (fun hHeld => ?_)
  · exact ⟨cell_later (Below.refl _ _).drew k0, cell_later (Below.refl _ _).drew k1, cell_later (Below.refl _ _).drew k2, cell_later (Below.refl _ _).drew k3, cell_later (Below.refl _ _).drew k4, cell_later (Below.refl _ _).drew k5, cell_later (Below.refl _ _).drew k6⟩
  replace k0 := cell_later (Below.refl _ w1).drew k0
  replace k1 := cell_later (Below.refl _ w1).drew k1
  replace k2 := cell_later (Below.refl _ w1).drew k2
  replace k3 := cell_later (Below.refl _ w1).drew k3
  replace k4 := cell_later (Below.refl _ w1).drew k4
  replace k5 := cell_later (Below.refl _ w1).drew k5
  replace k6 := cell_later (Below.refl _ w1).drew k6
  replace gC := block_later (Below.refl _ w1).drew gC
  replace hB := below_tr hB (Below.refl _ w1).drew
  generalize w1.drew = Wd at *
  refine take_at (i := 0) (v := ?_) 6 rfl rfl (by kernel_rfl) (by kernel_rfl) (by kernel_rfl) (fun _ _ _ h => h) (Or.inl ⟨by rfl, ?_⟩) (by assumption) ?_
  rotate_left
  · (intro w' hSw; (try dsimp only at hSw); go_simp; all_goals with_reducible rfl)
  try simp only [Act.put, List.setIfInBounds_toArray, List.set_cons_zero, List.set_cons_succ]
  refine take_at (i := 1) (v := ?_) 7 rfl rfl (by kernel_rfl) (by kernel_rfl) (by kernel_rfl) (fun _ _ _ h => h) (Or.inl ⟨by rfl, ?_⟩) (by assumption) ?_
  rotate_left
  · (intro w' hSw; (try dsimp only at hSw); go_simp; all_goals with_reducible rfl)
  try simp only [Act.put, List.setIfInBounds_toArray, List.set_cons_zero, List.set_cons_succ]
  refine take_at (i := 2) (v := ?_) 8 rfl rfl (by kernel_rfl) (by kernel_rfl) (by kernel_rfl) (fun _ _ _ h => h) (Or.inl ⟨by rfl, ?_⟩) (by assumption) ?_
  rotate_left
  · (intro w' hSw; (try dsimp only at hSw); go_simp; all_goals with_reducible rfl)
  try simp only [Act.put, List.setIfInBounds_toArray, List.set_cons_zero, List.set_cons_succ]
  refine wpAnyH_ready (rs := [3]) (by kernel_rfl) (by simp) ?_
  refine AllReadyH.cons rfl (fun K hK => ?_) AllReadyH.nil
  go_simp
  refine (cB' _).mono ?_
  rintro e wc1 ⟨rfl, hb⟩
  go_wp2_with fail
  replace k0 := cell_later hb k0
  replace k1 := cell_later hb k1
  replace k2 := cell_later hb k2
  replace k3 := cell_later hb k3
  replace k4 := cell_later hb k4
  replace k5 := cell_later hb k5
  replace k6 := cell_later hb k6
  replace gC := block_later hb gC
  replace hB := below_tr hB hb
  refine hK.out _ _ ⟨k0, k1, k2, k3, k4, k5, k6⟩ (fun hHeld1 => ?_)
  clear hK
  try simp only [Act.put, List.setIfInBounds_toArray, List.set_cons_zero, List.set_cons_succ]
  refine take_at (i := 4) (v := ?_) 10 rfl rfl (by kernel_rfl) (by kernel_rfl) (by kernel_rfl) (fun _ _ _ h => h) (Or.inl ⟨by rfl, ?_⟩) (by assumption) ?_
  rotate_left
  · (intro w' hSw; (try dsimp only at hSw); go_simp; all_goals with_reducible rfl)
  try simp only [Act.put, List.setIfInBounds_toArray, List.set_cons_zero, List.set_cons_succ]
  refine take_at (i := 5) (v := ?_) 11 rfl rfl (by kernel_rfl) (by kernel_rfl) (by kernel_rfl) (fun _ _ _ h => h) (Or.inl ⟨by rfl, ?_⟩) (by assumption) ?_
  rotate_left
  · (intro w' hSw; (try dsimp only at hSw); go_simp; all_goals with_reducible rfl)
  try simp only [Act.put, List.setIfInBounds_toArray, List.set_cons_zero, List.set_cons_succ]
  refine take_at (i := 6) (v := ?_) 2 rfl rfl (by kernel_rfl) (by kernel_rfl) (by kernel_rfl) (fun _ _ _ h => h) (Or.inl ⟨by rfl, ?_⟩) (by assumption) ?_
  rotate_left
  · (intro w' hSw; (try dsimp only at hSw); go_simp; all_goals with_reducible rfl)
  try simp only [Act.put, List.setIfInBounds_toArray, List.set_cons_zero, List.set_cons_succ]
  refine wpAnyH_done (by kernel_rfl) ?_ _
  refine NoPanic.normal ?_
  go_wp2
  go_ret
  exact ⟨by first | (rw [HE.out]; done) | (rw [HE.out]; rfl), hB⟩

/-- How many slots a right one that names an object has. -/
def slN (k b : Int) : Nat := if k = 2 then 2 ^ b.toNat else if k = 10 then 2 ^ b.toNat else if k = 8 then 2 else 0
theorem shl_i {b : Int} (h0 : 0 ≤ b) (h1 : b ≤ 12) : wrap64 ((2 : Int) ^ b.toNat) = ((2 ^ b.toNat : Nat) : Int) ∧ 2 ^ b.toNat ≤ 4096 := by
  have h2 : 2 ^ b.toNat ≤ 2 ^ 12 := Nat.pow_le_pow_right (by omega) (by omega)
  rw [show ((2 : Int) ^ b.toNat) = ((2 ^ b.toNat : Nat) : Int) by simp]
  unfold wrap64
  generalize 2 ^ b.toNat = p at *
  omega
set_option maxRecDepth 100000 in
set_option maxHeartbeats 4000000 in
theorem slots_yes (k : Int) (a : Nat) (b r g s : Int) (m : Nat) (ha : a < 18446744073709551616) (hm : m < 18446744073709551616) (h : noB k a b r g s m = true) (w : World) :
    Calls Tryd.prog 20 #[.agg #[.int .i64 k, .int .u64 (a : Nat), .int .i64 b, .int .i64 r, .int .i64 g, .int .i64 s, .int .u64 (m : Nat)]] w fun e w' => e = .returned (.int .i64 ((slN k b : Nat) : Int)) ∧ Below w.heap.size w w' := by
  have cN := fun w1 => names_any k a b r g s m ha hm w1
  rw [h] at cN
  obtain ⟨-, -, -, b0, b1, -, -, -, -, b2, b3⟩ := no_of h
  clear h
  by_cases k2 : k = 2
  · subst k2
    obtain ⟨c0', c1'⟩ := b2 rfl
    obtain ⟨e1, e2⟩ := shl_i (by omega) c1'
    have HE : Hid (((slN 2 b : Nat) : Int) = wrap64 ((2 : Int) ^ b.toNat)) := by show _ = _; exact e1.symm
    clear e1 e2 b2 b3
    go_enter Tryd.func20, Tryd.ntmps20
    go_wp2_with fail
    have gC := heap_alloc_new w (.cells #[.int .i64 2, .int .u64 (a : Nat), .int .i64 b, .int .i64 r, .int .i64 g, .int .i64 s, .int .u64 (m : Nat)] 24)
    have hB := below_new w (.cells #[.int .i64 2, .int .u64 (a : Nat), .int .i64 b, .int .i64 r, .int .i64 g, .int .i64 s, .int .u64 (m : Nat)] 24)
    generalize w.alloc (.cells #[.int .i64 2, .int .u64 (a : Nat), .int .i64 b, .int .i64 r, .int .i64 g, .int .i64 s, .int .u64 (m : Nat)] 24) = W0 at *
    obtain ⟨c0, c1, c2, c3, c4, c5, c6⟩ := cells7 gC
    have cp0 := fun o => cell_alloc (o := o) c0
    have cp1 := fun o => cell_alloc (o := o) c1
    have cp2 := fun o => cell_alloc (o := o) c2
    have cp3 := fun o => cell_alloc (o := o) c3
    have cp4 := fun o => cell_alloc (o := o) c4
    have cp5 := fun o => cell_alloc (o := o) c5
    have cp6 := fun o => cell_alloc (o := o) c6
    refine (cN _).mono ?_
    clear c0 cp0 c1 cp1 c2 cp2 c3 cp3 c4 cp4 c5 cp5 c6 cp6
    rintro e w1 ⟨rfl, hb⟩
    replace gC := block_later hb gC
    replace hB := below_tr hB hb
    clear hb
    obtain ⟨c0, c1, c2, c3, c4, c5, c6⟩ := cells7 gC
    have cp0 := fun o => cell_alloc (o := o) c0
    have cp1 := fun o => cell_alloc (o := o) c1
    have cp2 := fun o => cell_alloc (o := o) c2
    have cp3 := fun o => cell_alloc (o := o) c3
    have cp4 := fun o => cell_alloc (o := o) c4
    have cp5 := fun o => cell_alloc (o := o) c5
    have cp6 := fun o => cell_alloc (o := o) c6
    go_wp2
    go_ret
    exact ⟨by first | (rw [HE.out]; done) | (rw [HE.out]; rfl), hB⟩
  by_cases k10 : k = 10
  · subst k10
    obtain ⟨c0', c1'⟩ := b3 rfl
    obtain ⟨e1, e2⟩ := shl_i (by omega) c1'
    have HE : Hid (((slN 10 b : Nat) : Int) = wrap64 ((2 : Int) ^ b.toNat)) := by show _ = _; exact e1.symm
    clear e1 e2 b2 b3
    go_enter Tryd.func20, Tryd.ntmps20
    go_wp2_with fail
    have gC := heap_alloc_new w (.cells #[.int .i64 10, .int .u64 (a : Nat), .int .i64 b, .int .i64 r, .int .i64 g, .int .i64 s, .int .u64 (m : Nat)] 24)
    have hB := below_new w (.cells #[.int .i64 10, .int .u64 (a : Nat), .int .i64 b, .int .i64 r, .int .i64 g, .int .i64 s, .int .u64 (m : Nat)] 24)
    generalize w.alloc (.cells #[.int .i64 10, .int .u64 (a : Nat), .int .i64 b, .int .i64 r, .int .i64 g, .int .i64 s, .int .u64 (m : Nat)] 24) = W0 at *
    obtain ⟨c0, c1, c2, c3, c4, c5, c6⟩ := cells7 gC
    have cp0 := fun o => cell_alloc (o := o) c0
    have cp1 := fun o => cell_alloc (o := o) c1
    have cp2 := fun o => cell_alloc (o := o) c2
    have cp3 := fun o => cell_alloc (o := o) c3
    have cp4 := fun o => cell_alloc (o := o) c4
    have cp5 := fun o => cell_alloc (o := o) c5
    have cp6 := fun o => cell_alloc (o := o) c6
    refine (cN _).mono ?_
    clear c0 cp0 c1 cp1 c2 cp2 c3 cp3 c4 cp4 c5 cp5 c6 cp6
    rintro e w1 ⟨rfl, hb⟩
    replace gC := block_later hb gC
    replace hB := below_tr hB hb
    clear hb
    obtain ⟨c0, c1, c2, c3, c4, c5, c6⟩ := cells7 gC
    have cp0 := fun o => cell_alloc (o := o) c0
    have cp1 := fun o => cell_alloc (o := o) c1
    have cp2 := fun o => cell_alloc (o := o) c2
    have cp3 := fun o => cell_alloc (o := o) c3
    have cp4 := fun o => cell_alloc (o := o) c4
    have cp5 := fun o => cell_alloc (o := o) c5
    have cp6 := fun o => cell_alloc (o := o) c6
    go_wp2
    go_ret
    exact ⟨by first | (rw [HE.out]; done) | (rw [HE.out]; rfl), hB⟩
  by_cases k8 : k = 8
  · subst k8
    have HE : Hid (((slN 8 b : Nat) : Int) = 2) := rfl
    clear b2 b3
    go_enter Tryd.func20, Tryd.ntmps20
    go_wp2_with fail
    have gC := heap_alloc_new w (.cells #[.int .i64 8, .int .u64 (a : Nat), .int .i64 b, .int .i64 r, .int .i64 g, .int .i64 s, .int .u64 (m : Nat)] 24)
    have hB := below_new w (.cells #[.int .i64 8, .int .u64 (a : Nat), .int .i64 b, .int .i64 r, .int .i64 g, .int .i64 s, .int .u64 (m : Nat)] 24)
    generalize w.alloc (.cells #[.int .i64 8, .int .u64 (a : Nat), .int .i64 b, .int .i64 r, .int .i64 g, .int .i64 s, .int .u64 (m : Nat)] 24) = W0 at *
    obtain ⟨c0, c1, c2, c3, c4, c5, c6⟩ := cells7 gC
    have cp0 := fun o => cell_alloc (o := o) c0
    have cp1 := fun o => cell_alloc (o := o) c1
    have cp2 := fun o => cell_alloc (o := o) c2
    have cp3 := fun o => cell_alloc (o := o) c3
    have cp4 := fun o => cell_alloc (o := o) c4
    have cp5 := fun o => cell_alloc (o := o) c5
    have cp6 := fun o => cell_alloc (o := o) c6
    refine (cN _).mono ?_
    clear c0 cp0 c1 cp1 c2 cp2 c3 cp3 c4 cp4 c5 cp5 c6 cp6
    rintro e w1 ⟨rfl, hb⟩
    replace gC := block_later hb gC
    replace hB := below_tr hB hb
    clear hb
    obtain ⟨c0, c1, c2, c3, c4, c5, c6⟩ := cells7 gC
    have cp0 := fun o => cell_alloc (o := o) c0
    have cp1 := fun o => cell_alloc (o := o) c1
    have cp2 := fun o => cell_alloc (o := o) c2
    have cp3 := fun o => cell_alloc (o := o) c3
    have cp4 := fun o => cell_alloc (o := o) c4
    have cp5 := fun o => cell_alloc (o := o) c5
    have cp6 := fun o => cell_alloc (o := o) c6
    go_wp2
    go_ret
    exact ⟨by first | (rw [HE.out]; done) | (rw [HE.out]; rfl), hB⟩
  · have HE : Hid (((slN k b : Nat) : Int) = 0) := by show _ = _; unfold slN; rw [if_neg k2, if_neg k10, if_neg k8]; rfl
    have d2 : (k == 2) = false := by rw [beq_eq_false_iff_ne]; exact k2
    have d10 : (k == 10) = false := by rw [beq_eq_false_iff_ne]; exact k10
    have d8 : (k == 8) = false := by rw [beq_eq_false_iff_ne]; exact k8
    clear b2 b3
    go_enter Tryd.func20, Tryd.ntmps20
    go_wp2_with fail
    have gC := heap_alloc_new w (.cells #[.int .i64 k, .int .u64 (a : Nat), .int .i64 b, .int .i64 r, .int .i64 g, .int .i64 s, .int .u64 (m : Nat)] 24)
    have hB := below_new w (.cells #[.int .i64 k, .int .u64 (a : Nat), .int .i64 b, .int .i64 r, .int .i64 g, .int .i64 s, .int .u64 (m : Nat)] 24)
    generalize w.alloc (.cells #[.int .i64 k, .int .u64 (a : Nat), .int .i64 b, .int .i64 r, .int .i64 g, .int .i64 s, .int .u64 (m : Nat)] 24) = W0 at *
    obtain ⟨c0, c1, c2, c3, c4, c5, c6⟩ := cells7 gC
    have cp0 := fun o => cell_alloc (o := o) c0
    have cp1 := fun o => cell_alloc (o := o) c1
    have cp2 := fun o => cell_alloc (o := o) c2
    have cp3 := fun o => cell_alloc (o := o) c3
    have cp4 := fun o => cell_alloc (o := o) c4
    have cp5 := fun o => cell_alloc (o := o) c5
    have cp6 := fun o => cell_alloc (o := o) c6
    refine (cN _).mono ?_
    clear c0 cp0 c1 cp1 c2 cp2 c3 cp3 c4 cp4 c5 cp5 c6 cp6
    rintro e w1 ⟨rfl, hb⟩
    replace gC := block_later hb gC
    replace hB := below_tr hB hb
    clear hb
    obtain ⟨c0, c1, c2, c3, c4, c5, c6⟩ := cells7 gC
    have cp0 := fun o => cell_alloc (o := o) c0
    have cp1 := fun o => cell_alloc (o := o) c1
    have cp2 := fun o => cell_alloc (o := o) c2
    have cp3 := fun o => cell_alloc (o := o) c3
    have cp4 := fun o => cell_alloc (o := o) c4
    have cp5 := fun o => cell_alloc (o := o) c5
    have cp6 := fun o => cell_alloc (o := o) c6
    go_wp2
    go_ret
    exact ⟨by first | (rw [HE.out]; done) | (rw [HE.out]; rfl), hB⟩

set_option maxRecDepth 100000 in
set_option maxHeartbeats 4000000 in
theorem refSlots_any (k : Int) (a : Nat) (b r g s : Int) (m : Nat) (ha : a < 18446744073709551616) (hm : m < 18446744073709551616) (h : noB k a b r g s m = true) (w : World) :
    Calls Tryd.prog 22 #[.agg #[.int .i64 k, .int .u64 (a : Nat), .int .i64 b, .int .i64 r, .int .i64 g, .int .i64 s, .int .u64 (m : Nat)]] w fun e w' => e = .returned (.int .i64 ((slN k b : Nat) : Int)) ∧ Below w.heap.size w w' := by
  obtain ⟨-, -, -, b0, b1, -, -, -, -, b2, b3⟩ := no_of h
  clear h
  by_cases k2 : k = 2
  · subst k2
    obtain ⟨c0', c1'⟩ := b2 rfl
    obtain ⟨-, e2⟩ := shl_i (by omega) c1'
    have cP := fun w1 => pow_int b (by omega) (by omega) w1
    have HE : Hid (((slN 2 b : Nat) : Int) = wrap64 ((2 ^ b.toNat : Nat) : Int)) := by show _ = _; unfold wrap64; rw [show slN 2 b = 2 ^ b.toNat from rfl]; generalize 2 ^ b.toNat = p at *; omega
    clear e2 b2 b3
    generalize 2 ^ b.toNat = p at *
    go_enter Tryd.func22, Tryd.ntmps22
    go_wp2_with fail
    have gC := heap_alloc_new w (.cells #[.int .i64 2, .int .u64 (a : Nat), .int .i64 b, .int .i64 r, .int .i64 g, .int .i64 s, .int .u64 (m : Nat)] 29)
    have hB := below_new w (.cells #[.int .i64 2, .int .u64 (a : Nat), .int .i64 b, .int .i64 r, .int .i64 g, .int .i64 s, .int .u64 (m : Nat)] 29)
    generalize w.alloc (.cells #[.int .i64 2, .int .u64 (a : Nat), .int .i64 b, .int .i64 r, .int .i64 g, .int .i64 s, .int .u64 (m : Nat)] 29) = W0 at *
    obtain ⟨c0, c1, c2, c3, c4, c5, c6⟩ := cells7 gC
    have cp0 := fun o => cell_alloc (o := o) c0
    have cp1 := fun o => cell_alloc (o := o) c1
    have cp2 := fun o => cell_alloc (o := o) c2
    have cp3 := fun o => cell_alloc (o := o) c3
    have cp4 := fun o => cell_alloc (o := o) c4
    have cp5 := fun o => cell_alloc (o := o) c5
    have cp6 := fun o => cell_alloc (o := o) c6
    refine (cP _).mono ?_
    rintro e w1 ⟨rfl, rfl⟩
    go_wp2
    go_ret
    exact ⟨by first | (rw [HE.out]; done) | (rw [HE.out]; rfl), hB⟩
  by_cases k10 : k = 10
  · subst k10
    obtain ⟨c0', c1'⟩ := b3 rfl
    obtain ⟨-, e2⟩ := shl_i (by omega) c1'
    have cP := fun w1 => pow_int b (by omega) (by omega) w1
    have HE : Hid (((slN 10 b : Nat) : Int) = wrap64 ((2 ^ b.toNat : Nat) : Int)) := by show _ = _; unfold wrap64; rw [show slN 10 b = 2 ^ b.toNat from rfl]; generalize 2 ^ b.toNat = p at *; omega
    clear e2 b2 b3
    generalize 2 ^ b.toNat = p at *
    go_enter Tryd.func22, Tryd.ntmps22
    go_wp2_with fail
    have gC := heap_alloc_new w (.cells #[.int .i64 10, .int .u64 (a : Nat), .int .i64 b, .int .i64 r, .int .i64 g, .int .i64 s, .int .u64 (m : Nat)] 29)
    have hB := below_new w (.cells #[.int .i64 10, .int .u64 (a : Nat), .int .i64 b, .int .i64 r, .int .i64 g, .int .i64 s, .int .u64 (m : Nat)] 29)
    generalize w.alloc (.cells #[.int .i64 10, .int .u64 (a : Nat), .int .i64 b, .int .i64 r, .int .i64 g, .int .i64 s, .int .u64 (m : Nat)] 29) = W0 at *
    obtain ⟨c0, c1, c2, c3, c4, c5, c6⟩ := cells7 gC
    have cp0 := fun o => cell_alloc (o := o) c0
    have cp1 := fun o => cell_alloc (o := o) c1
    have cp2 := fun o => cell_alloc (o := o) c2
    have cp3 := fun o => cell_alloc (o := o) c3
    have cp4 := fun o => cell_alloc (o := o) c4
    have cp5 := fun o => cell_alloc (o := o) c5
    have cp6 := fun o => cell_alloc (o := o) c6
    refine (cP _).mono ?_
    rintro e w1 ⟨rfl, rfl⟩
    go_wp2
    go_ret
    exact ⟨by first | (rw [HE.out]; done) | (rw [HE.out]; rfl), hB⟩
  by_cases k8 : k = 8
  · subst k8
    have HE : Hid (((slN 8 b : Nat) : Int) = 2) := rfl
    clear b2 b3
    go_enter Tryd.func22, Tryd.ntmps22
    go_wp2_with fail
    go_ret
    exact ⟨by first | (rw [HE.out]; done) | (rw [HE.out]; rfl), below_new _ _⟩
  · have HE : Hid (((slN k b : Nat) : Int) = 0) := by show _ = _; unfold slN; rw [if_neg k2, if_neg k10, if_neg k8]; rfl
    have d2 : (k == 2) = false := by rw [beq_eq_false_iff_ne]; exact k2
    have d10 : (k == 10) = false := by rw [beq_eq_false_iff_ne]; exact k10
    have d8 : (k == 8) = false := by rw [beq_eq_false_iff_ne]; exact k8
    clear b2 b3
    go_enter Tryd.func22, Tryd.ntmps22
    go_wp2_with fail
    go_ret
    exact ⟨by first | (rw [HE.out]; done) | (rw [HE.out]; rfl), below_new _ _⟩

end Go.Proofs.YtkedoajkdobjdaaDoor
