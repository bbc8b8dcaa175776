/- CapCovers (P11.5): for any two capabilities the law returns true: one covers another one just if each byte of its object is in the first one's; each that has an object covers itself; two that cover each other, of one kind, are the same. No condition beyond the row's own. -/
import Derived.Test.YtkedoajkdobjdaaDoorCapN
import Derived.Test.YtkedoajkdobjdaaDoorCapFrame
set_option linter.unusedVariables false
namespace Go.Proofs.YtkedoajkdobjdaaDoor.capCovers
open Go.ChangeShapes Go.WideShapes Go.ChangeAt Go.RowKit Go.Lib

theorem cov_self (k : Int) (a : Nat) (b r g s : Int) (m : Nat) : covB k a b r g s m k a b r g s m = noB k a b r g s m := by
  unfold covB
  cases noB k a b r g s m
  · rfl
  · rw [if_pos rfl, if_pos rfl, if_pos (Nat.le_refl _)]; exact decide_eq_true (Nat.le_refl _)
theorem sam_self (k : Int) (a : Nat) (b r g s : Int) (m : Nat) : samB k a b r g s m k a b r g s m = noB k a b r g s m := by
  unfold samB
  cases noB k a b r g s m
  · rfl
  · rw [if_pos rfl, if_pos rfl, if_pos rfl, if_pos rfl]; exact decide_eq_true rfl
theorem cov_iff (k : Int) (a : Nat) (b r g s : Int) (m : Nat) (k' : Int) (a' : Nat) (b' r' g' s' : Int) (m' : Nat) : (covB k a b r g s m k' a' b' r' g' s' m' = true) = (noB k a b r g s m = true ∧ noB k' a' b' r' g' s' m' = true ∧ a ≤ a' ∧ a' + 2 ^ nbN k' b' ≤ a + 2 ^ nbN k b) := by
  unfold covB enN
  cases noB k a b r g s m <;> cases noB k' a' b' r' g' s' m' <;> by_cases h : a ≤ a' <;> simp [h]
theorem sam_iff (k : Int) (a : Nat) (b r g s : Int) (m : Nat) (k' : Int) (a' : Nat) (b' r' g' s' : Int) (m' : Nat) : (samB k a b r g s m k' a' b' r' g' s' m' = true) = (noB k a b r g s m = true ∧ noB k' a' b' r' g' s' m' = true ∧ k = k' ∧ a = a' ∧ nbN k b = nbN k' b') := by
  unfold samB
  cases noB k a b r g s m <;> cases noB k' a' b' r' g' s' m' <;> by_cases h : k = k' <;> by_cases h2 : a = a' <;> simp [h, h2]
theorem pow_inj {x y : Nat} (h : 2 ^ x = 2 ^ y) : x = y := by
  rcases Nat.lt_trichotomy x y with hl | hl | hl
  · have := (Nat.pow_lt_pow_iff_right (a := 2) (by decide)).2 hl; omega
  · exact hl
  · have := (Nat.pow_lt_pow_iff_right (a := 2) (by decide)).2 hl; omega
theorem sam_no (k : Int) (a : Nat) (b r g s : Int) (m : Nat) (k' : Int) (a' : Nat) (b' r' g' s' : Int) (m' : Nat) (h : covB k a b r g s m k' a' b' r' g' s' m' = false) : samB k a b r g s m k' a' b' r' g' s' m' = false := by
  cases hs : samB k a b r g s m k' a' b' r' g' s' m'
  · rfl
  · exfalso
    have e := sam_iff k a b r g s m k' a' b' r' g' s' m'
    rw [hs] at e
    obtain ⟨h1, h2, h3, h4, h5⟩ := e.mp rfl
    have c := cov_iff k a b r g s m k' a' b' r' g' s' m'
    rw [h] at c
    have := c.mpr ⟨h1, h2, by omega, by rw [h4, h5]; exact Nat.le_refl _⟩
    cases this
theorem sam_cov (k : Int) (a : Nat) (b r g s : Int) (m : Nat) (k' : Int) (a' : Nat) (b' r' g' s' : Int) (m' : Nat) (h : covB k a b r g s m k' a' b' r' g' s' m' = true) : samB k a b r g s m k' a' b' r' g' s' m' = (covB k' a' b' r' g' s' m' k a b r g s m && decide (k = k')) := by
  have c := cov_iff k a b r g s m k' a' b' r' g' s' m'
  rw [h] at c
  obtain ⟨h1, h2, h3, h4⟩ := c.mp rfl
  rw [Bool.eq_iff_iff, sam_iff, Bool.and_eq_true, cov_iff, decide_eq_true_iff]
  constructor
  · rintro ⟨-, -, e1, e2, e3⟩
    exact ⟨⟨h2, h1, by omega, by rw [e2, e3]; exact Nat.le_refl _⟩, e1⟩
  · rintro ⟨⟨-, -, e1, e2⟩, e3⟩
    have : a = a' := by omega
    exact ⟨h1, h2, e3, this, pow_inj (by omega)⟩

set_option maxRecDepth 100000 in
set_option maxHeartbeats 8000000 in
theorem walk (k : Int) (a : Nat) (b r g s : Int) (m : Nat) (k' : Int) (a' : Nat) (b' r' g' s' : Int) (m' : Nat) (w : World) (ha : a < 18446744073709551616) (hm : m < 18446744073709551616) (ha' : a' < 18446744073709551616) (hm' : m' < 18446744073709551616) (hP : Prts w) :
    Calls Tryd.prog 8 #[.agg #[.int .i64 k, .int .u64 (a : Nat), .int .i64 b, .int .i64 r, .int .i64 g, .int .i64 s, .int .u64 (m : Nat)], .agg #[.int .i64 k', .int .u64 (a' : Nat), .int .i64 b', .int .i64 r', .int .i64 g', .int .i64 s', .int .u64 (m' : Nat)]] w fun e w' => e = .returned (.bool true) ∧ Below w.heap.size w w' := by
  have cA := fun w1 h1 => anchorC_any w1 h1
  have cV := fun w1 => covers_any k a b r g s m k' a' b' r' g' s' m' ha hm ha' hm' w1
  have cW := fun w1 => covers_any k' a' b' r' g' s' m' k a b r g s m ha' hm' ha hm w1
  have cS := fun w1 => covers_any k a b r g s m k a b r g s m ha hm ha hm w1
  have cT := fun w1 => same_any k a b r g s m k a b r g s m ha hm ha hm w1
  have cU := fun w1 => same_any k a b r g s m k' a' b' r' g' s' m' ha hm ha' hm' w1
  rw [cov_self] at cS
  rw [sam_self] at cT
  have gC := heap2_0 w (.cells #[.int .i64 k, .int .u64 (a : Nat), .int .i64 b, .int .i64 r, .int .i64 g, .int .i64 s, .int .u64 (m : Nat)] 24) (.cells #[.int .i64 k', .int .u64 (a' : Nat), .int .i64 b', .int .i64 r', .int .i64 g', .int .i64 s', .int .u64 (m' : Nat)] 24)
  have gD := heap_alloc_new (w.alloc (.cells #[.int .i64 k, .int .u64 (a : Nat), .int .i64 b, .int .i64 r, .int .i64 g, .int .i64 s, .int .u64 (m : Nat)] 24)) (.cells #[.int .i64 k', .int .u64 (a' : Nat), .int .i64 b', .int .i64 r', .int .i64 g', .int .i64 s', .int .u64 (m' : Nat)] 24)
  have hB := below2 w (.cells #[.int .i64 k, .int .u64 (a : Nat), .int .i64 b, .int .i64 r, .int .i64 g, .int .i64 s, .int .u64 (m : Nat)] 24) (.cells #[.int .i64 k', .int .u64 (a' : Nat), .int .i64 b', .int .i64 r', .int .i64 g', .int .i64 s', .int .u64 (m' : Nat)] 24)
  rw [World.size_alloc] at gD
  have hcv := cov_iff k a b r g s m k' a' b' r' g' s' m'
  cases h1 : noB k a b r g s m
  · have hv : covB k a b r g s m k' a' b' r' g' s' m' = false := by
      cases q : covB k a b r g s m k' a' b' r' g' s' m'
      · rfl
      · rw [q, h1] at hcv; exact absurd (hcv.mp rfl).1 (by decide)
    have cI := fun w1 => sized_no k a b r g s m ha hm h1 w1
    rw [hv] at cV
    rw [sam_no _ _ _ _ _ _ _ _ _ _ _ _ _ _ hv] at cU
    rw [h1] at cS cT
    cases h2 : noB k' a' b' r' g' s' m'
    · have cJ := fun w1 => sized_no k' a' b' r' g' s' m' ha' hm' h2 w1
      clear hcv hv h1 h2 cW
      go_enter Tryd.func8, Tryd.ntmps8
      go_wp2_with fail
      generalize (w.alloc (.cells #[.int .i64 k, .int .u64 (a : Nat), .int .i64 b, .int .i64 r, .int .i64 g, .int .i64 s, .int .u64 (m : Nat)] 24)).alloc (.cells #[.int .i64 k', .int .u64 (a' : Nat), .int .i64 b', .int .i64 r', .int .i64 g', .int .i64 s', .int .u64 (m' : Nat)] 24) = W at *
      obtain ⟨c0, c1, c2, c3, c4, c5, c6⟩ := cells7 gC
      have cp0 := fun o => cell_alloc (o := o) c0
      have cp1 := fun o => cell_alloc (o := o) c1
      have cp2 := fun o => cell_alloc (o := o) c2
      have cp3 := fun o => cell_alloc (o := o) c3
      have cp4 := fun o => cell_alloc (o := o) c4
      have cp5 := fun o => cell_alloc (o := o) c5
      have cp6 := fun o => cell_alloc (o := o) c6
      obtain ⟨d0, d1, d2, d3, d4, d5, d6⟩ := cells7 gD
      have dp0 := fun o => cell_alloc (o := o) d0
      have dp1 := fun o => cell_alloc (o := o) d1
      have dp2 := fun o => cell_alloc (o := o) d2
      have dp3 := fun o => cell_alloc (o := o) d3
      have dp4 := fun o => cell_alloc (o := o) d4
      have dp5 := fun o => cell_alloc (o := o) d5
      have dp6 := fun o => cell_alloc (o := o) d6
      refine (cA _ (hP.later hB)).mono ?_
      clear c0 cp0 c1 cp1 c2 cp2 c3 cp3 c4 cp4 c5 cp5 c6 cp6 d0 dp0 d1 dp1 d2 dp2 d3 dp3 d4 dp4 d5 dp5 d6 dp6
      rintro e w1 ⟨rfl, hb⟩
      replace gC := block_later hb gC
      replace gD := block_later hb gD
      replace hB := below_tr hB hb
      clear hb
      obtain ⟨c0, c1, c2, c3, c4, c5, c6⟩ := cells7 gC
      have cp0 := fun o => cell_alloc (o := o) c0
      have cp1 := fun o => cell_alloc (o := o) c1
      have cp2 := fun o => cell_alloc (o := o) c2
      have cp3 := fun o => cell_alloc (o := o) c3
      have cp4 := fun o => cell_alloc (o := o) c4
      have cp5 := fun o => cell_alloc (o := o) c5
      have cp6 := fun o => cell_alloc (o := o) c6
      obtain ⟨d0, d1, d2, d3, d4, d5, d6⟩ := cells7 gD
      have dp0 := fun o => cell_alloc (o := o) d0
      have dp1 := fun o => cell_alloc (o := o) d1
      have dp2 := fun o => cell_alloc (o := o) d2
      have dp3 := fun o => cell_alloc (o := o) d3
      have dp4 := fun o => cell_alloc (o := o) d4
      have dp5 := fun o => cell_alloc (o := o) d5
      have dp6 := fun o => cell_alloc (o := o) d6
      go_wp2_with fail
      refine (cI _).mono ?_
      clear c0 cp0 c1 cp1 c2 cp2 c3 cp3 c4 cp4 c5 cp5 c6 cp6 d0 dp0 d1 dp1 d2 dp2 d3 dp3 d4 dp4 d5 dp5 d6 dp6
      rintro e w2 ⟨rfl, hb⟩
      replace gC := block_later hb gC
      replace gD := block_later hb gD
      replace hB := below_tr hB hb
      clear hb
      obtain ⟨c0, c1, c2, c3, c4, c5, c6⟩ := cells7 gC
      have cp0 := fun o => cell_alloc (o := o) c0
      have cp1 := fun o => cell_alloc (o := o) c1
      have cp2 := fun o => cell_alloc (o := o) c2
      have cp3 := fun o => cell_alloc (o := o) c3
      have cp4 := fun o => cell_alloc (o := o) c4
      have cp5 := fun o => cell_alloc (o := o) c5
      have cp6 := fun o => cell_alloc (o := o) c6
      obtain ⟨d0, d1, d2, d3, d4, d5, d6⟩ := cells7 gD
      have dp0 := fun o => cell_alloc (o := o) d0
      have dp1 := fun o => cell_alloc (o := o) d1
      have dp2 := fun o => cell_alloc (o := o) d2
      have dp3 := fun o => cell_alloc (o := o) d3
      have dp4 := fun o => cell_alloc (o := o) d4
      have dp5 := fun o => cell_alloc (o := o) d5
      have dp6 := fun o => cell_alloc (o := o) d6
      go_wp2_with fail
      refine (cJ _).mono ?_
      clear c0 cp0 c1 cp1 c2 cp2 c3 cp3 c4 cp4 c5 cp5 c6 cp6 d0 dp0 d1 dp1 d2 dp2 d3 dp3 d4 dp4 d5 dp5 d6 dp6
      rintro e w3 ⟨rfl, hb⟩
      replace gC := block_later hb gC
      replace gD := block_later hb gD
      replace hB := below_tr hB hb
      clear hb
      obtain ⟨c0, c1, c2, c3, c4, c5, c6⟩ := cells7 gC
      have cp0 := fun o => cell_alloc (o := o) c0
      have cp1 := fun o => cell_alloc (o := o) c1
      have cp2 := fun o => cell_alloc (o := o) c2
      have cp3 := fun o => cell_alloc (o := o) c3
      have cp4 := fun o => cell_alloc (o := o) c4
      have cp5 := fun o => cell_alloc (o := o) c5
      have cp6 := fun o => cell_alloc (o := o) c6
      obtain ⟨d0, d1, d2, d3, d4, d5, d6⟩ := cells7 gD
      have dp0 := fun o => cell_alloc (o := o) d0
      have dp1 := fun o => cell_alloc (o := o) d1
      have dp2 := fun o => cell_alloc (o := o) d2
      have dp3 := fun o => cell_alloc (o := o) d3
      have dp4 := fun o => cell_alloc (o := o) d4
      have dp5 := fun o => cell_alloc (o := o) d5
      have dp6 := fun o => cell_alloc (o := o) d6
      go_wp2_with fail
      refine (cV _).mono ?_
      clear c0 cp0 c1 cp1 c2 cp2 c3 cp3 c4 cp4 c5 cp5 c6 cp6 d0 dp0 d1 dp1 d2 dp2 d3 dp3 d4 dp4 d5 dp5 d6 dp6
      rintro e w4 ⟨rfl, hb⟩
      replace gC := block_later hb gC
      replace gD := block_later hb gD
      replace hB := below_tr hB hb
      clear hb
      obtain ⟨c0, c1, c2, c3, c4, c5, c6⟩ := cells7 gC
      have cp0 := fun o => cell_alloc (o := o) c0
      have cp1 := fun o => cell_alloc (o := o) c1
      have cp2 := fun o => cell_alloc (o := o) c2
      have cp3 := fun o => cell_alloc (o := o) c3
      have cp4 := fun o => cell_alloc (o := o) c4
      have cp5 := fun o => cell_alloc (o := o) c5
      have cp6 := fun o => cell_alloc (o := o) c6
      obtain ⟨d0, d1, d2, d3, d4, d5, d6⟩ := cells7 gD
      have dp0 := fun o => cell_alloc (o := o) d0
      have dp1 := fun o => cell_alloc (o := o) d1
      have dp2 := fun o => cell_alloc (o := o) d2
      have dp3 := fun o => cell_alloc (o := o) d3
      have dp4 := fun o => cell_alloc (o := o) d4
      have dp5 := fun o => cell_alloc (o := o) d5
      have dp6 := fun o => cell_alloc (o := o) d6
      go_wp2_with fail
      refine (cS _).mono ?_
      clear c0 cp0 c1 cp1 c2 cp2 c3 cp3 c4 cp4 c5 cp5 c6 cp6 d0 dp0 d1 dp1 d2 dp2 d3 dp3 d4 dp4 d5 dp5 d6 dp6
      rintro e w5 ⟨rfl, hb⟩
      replace gC := block_later hb gC
      replace gD := block_later hb gD
      replace hB := below_tr hB hb
      clear hb
      obtain ⟨c0, c1, c2, c3, c4, c5, c6⟩ := cells7 gC
      have cp0 := fun o => cell_alloc (o := o) c0
      have cp1 := fun o => cell_alloc (o := o) c1
      have cp2 := fun o => cell_alloc (o := o) c2
      have cp3 := fun o => cell_alloc (o := o) c3
      have cp4 := fun o => cell_alloc (o := o) c4
      have cp5 := fun o => cell_alloc (o := o) c5
      have cp6 := fun o => cell_alloc (o := o) c6
      obtain ⟨d0, d1, d2, d3, d4, d5, d6⟩ := cells7 gD
      have dp0 := fun o => cell_alloc (o := o) d0
      have dp1 := fun o => cell_alloc (o := o) d1
      have dp2 := fun o => cell_alloc (o := o) d2
      have dp3 := fun o => cell_alloc (o := o) d3
      have dp4 := fun o => cell_alloc (o := o) d4
      have dp5 := fun o => cell_alloc (o := o) d5
      have dp6 := fun o => cell_alloc (o := o) d6
      go_wp2_with fail
      refine (cT _).mono ?_
      clear c0 cp0 c1 cp1 c2 cp2 c3 cp3 c4 cp4 c5 cp5 c6 cp6 d0 dp0 d1 dp1 d2 dp2 d3 dp3 d4 dp4 d5 dp5 d6 dp6
      rintro e w6 ⟨rfl, hb⟩
      replace gC := block_later hb gC
      replace gD := block_later hb gD
      replace hB := below_tr hB hb
      clear hb
      obtain ⟨c0, c1, c2, c3, c4, c5, c6⟩ := cells7 gC
      have cp0 := fun o => cell_alloc (o := o) c0
      have cp1 := fun o => cell_alloc (o := o) c1
      have cp2 := fun o => cell_alloc (o := o) c2
      have cp3 := fun o => cell_alloc (o := o) c3
      have cp4 := fun o => cell_alloc (o := o) c4
      have cp5 := fun o => cell_alloc (o := o) c5
      have cp6 := fun o => cell_alloc (o := o) c6
      obtain ⟨d0, d1, d2, d3, d4, d5, d6⟩ := cells7 gD
      have dp0 := fun o => cell_alloc (o := o) d0
      have dp1 := fun o => cell_alloc (o := o) d1
      have dp2 := fun o => cell_alloc (o := o) d2
      have dp3 := fun o => cell_alloc (o := o) d3
      have dp4 := fun o => cell_alloc (o := o) d4
      have dp5 := fun o => cell_alloc (o := o) d5
      have dp6 := fun o => cell_alloc (o := o) d6
      go_wp2_with fail
      refine (cU _).mono ?_
      clear c0 cp0 c1 cp1 c2 cp2 c3 cp3 c4 cp4 c5 cp5 c6 cp6 d0 dp0 d1 dp1 d2 dp2 d3 dp3 d4 dp4 d5 dp5 d6 dp6
      rintro e w7 ⟨rfl, hb⟩
      replace gC := block_later hb gC
      replace gD := block_later hb gD
      replace hB := below_tr hB hb
      clear hb
      obtain ⟨c0, c1, c2, c3, c4, c5, c6⟩ := cells7 gC
      have cp0 := fun o => cell_alloc (o := o) c0
      have cp1 := fun o => cell_alloc (o := o) c1
      have cp2 := fun o => cell_alloc (o := o) c2
      have cp3 := fun o => cell_alloc (o := o) c3
      have cp4 := fun o => cell_alloc (o := o) c4
      have cp5 := fun o => cell_alloc (o := o) c5
      have cp6 := fun o => cell_alloc (o := o) c6
      obtain ⟨d0, d1, d2, d3, d4, d5, d6⟩ := cells7 gD
      have dp0 := fun o => cell_alloc (o := o) d0
      have dp1 := fun o => cell_alloc (o := o) d1
      have dp2 := fun o => cell_alloc (o := o) d2
      have dp3 := fun o => cell_alloc (o := o) d3
      have dp4 := fun o => cell_alloc (o := o) d4
      have dp5 := fun o => cell_alloc (o := o) d5
      have dp6 := fun o => cell_alloc (o := o) d6
      go_wp2
      go_ret
      first
        | exact ⟨rfl, hB⟩
        | exact ⟨rfl, hB.alloc hB.size _⟩
    · have cJ := fun w1 => sized_yes k' a' b' r' g' s' m' ha' hm' h2 w1
      clear hcv hv h1 h2 cW
      generalize 2 ^ nbN k' b' = q at *
      go_enter Tryd.func8, Tryd.ntmps8
      go_wp2_with fail
      generalize (w.alloc (.cells #[.int .i64 k, .int .u64 (a : Nat), .int .i64 b, .int .i64 r, .int .i64 g, .int .i64 s, .int .u64 (m : Nat)] 24)).alloc (.cells #[.int .i64 k', .int .u64 (a' : Nat), .int .i64 b', .int .i64 r', .int .i64 g', .int .i64 s', .int .u64 (m' : Nat)] 24) = W at *
      obtain ⟨c0, c1, c2, c3, c4, c5, c6⟩ := cells7 gC
      have cp0 := fun o => cell_alloc (o := o) c0
      have cp1 := fun o => cell_alloc (o := o) c1
      have cp2 := fun o => cell_alloc (o := o) c2
      have cp3 := fun o => cell_alloc (o := o) c3
      have cp4 := fun o => cell_alloc (o := o) c4
      have cp5 := fun o => cell_alloc (o := o) c5
      have cp6 := fun o => cell_alloc (o := o) c6
      obtain ⟨d0, d1, d2, d3, d4, d5, d6⟩ := cells7 gD
      have dp0 := fun o => cell_alloc (o := o) d0
      have dp1 := fun o => cell_alloc (o := o) d1
      have dp2 := fun o => cell_alloc (o := o) d2
      have dp3 := fun o => cell_alloc (o := o) d3
      have dp4 := fun o => cell_alloc (o := o) d4
      have dp5 := fun o => cell_alloc (o := o) d5
      have dp6 := fun o => cell_alloc (o := o) d6
      refine (cA _ (hP.later hB)).mono ?_
      clear c0 cp0 c1 cp1 c2 cp2 c3 cp3 c4 cp4 c5 cp5 c6 cp6 d0 dp0 d1 dp1 d2 dp2 d3 dp3 d4 dp4 d5 dp5 d6 dp6
      rintro e w1 ⟨rfl, hb⟩
      replace gC := block_later hb gC
      replace gD := block_later hb gD
      replace hB := below_tr hB hb
      clear hb
      obtain ⟨c0, c1, c2, c3, c4, c5, c6⟩ := cells7 gC
      have cp0 := fun o => cell_alloc (o := o) c0
      have cp1 := fun o => cell_alloc (o := o) c1
      have cp2 := fun o => cell_alloc (o := o) c2
      have cp3 := fun o => cell_alloc (o := o) c3
      have cp4 := fun o => cell_alloc (o := o) c4
      have cp5 := fun o => cell_alloc (o := o) c5
      have cp6 := fun o => cell_alloc (o := o) c6
      obtain ⟨d0, d1, d2, d3, d4, d5, d6⟩ := cells7 gD
      have dp0 := fun o => cell_alloc (o := o) d0
      have dp1 := fun o => cell_alloc (o := o) d1
      have dp2 := fun o => cell_alloc (o := o) d2
      have dp3 := fun o => cell_alloc (o := o) d3
      have dp4 := fun o => cell_alloc (o := o) d4
      have dp5 := fun o => cell_alloc (o := o) d5
      have dp6 := fun o => cell_alloc (o := o) d6
      go_wp2_with fail
      refine (cI _).mono ?_
      clear c0 cp0 c1 cp1 c2 cp2 c3 cp3 c4 cp4 c5 cp5 c6 cp6 d0 dp0 d1 dp1 d2 dp2 d3 dp3 d4 dp4 d5 dp5 d6 dp6
      rintro e w2 ⟨rfl, hb⟩
      replace gC := block_later hb gC
      replace gD := block_later hb gD
      replace hB := below_tr hB hb
      clear hb
      obtain ⟨c0, c1, c2, c3, c4, c5, c6⟩ := cells7 gC
      have cp0 := fun o => cell_alloc (o := o) c0
      have cp1 := fun o => cell_alloc (o := o) c1
      have cp2 := fun o => cell_alloc (o := o) c2
      have cp3 := fun o => cell_alloc (o := o) c3
      have cp4 := fun o => cell_alloc (o := o) c4
      have cp5 := fun o => cell_alloc (o := o) c5
      have cp6 := fun o => cell_alloc (o := o) c6
      obtain ⟨d0, d1, d2, d3, d4, d5, d6⟩ := cells7 gD
      have dp0 := fun o => cell_alloc (o := o) d0
      have dp1 := fun o => cell_alloc (o := o) d1
      have dp2 := fun o => cell_alloc (o := o) d2
      have dp3 := fun o => cell_alloc (o := o) d3
      have dp4 := fun o => cell_alloc (o := o) d4
      have dp5 := fun o => cell_alloc (o := o) d5
      have dp6 := fun o => cell_alloc (o := o) d6
      go_wp2_with fail
      refine (cJ _).mono ?_
      clear c0 cp0 c1 cp1 c2 cp2 c3 cp3 c4 cp4 c5 cp5 c6 cp6 d0 dp0 d1 dp1 d2 dp2 d3 dp3 d4 dp4 d5 dp5 d6 dp6
      rintro e w3 ⟨rfl, hb⟩
      replace gC := block_later hb gC
      replace gD := block_later hb gD
      replace hB := below_tr hB hb
      clear hb
      obtain ⟨c0, c1, c2, c3, c4, c5, c6⟩ := cells7 gC
      have cp0 := fun o => cell_alloc (o := o) c0
      have cp1 := fun o => cell_alloc (o := o) c1
      have cp2 := fun o => cell_alloc (o := o) c2
      have cp3 := fun o => cell_alloc (o := o) c3
      have cp4 := fun o => cell_alloc (o := o) c4
      have cp5 := fun o => cell_alloc (o := o) c5
      have cp6 := fun o => cell_alloc (o := o) c6
      obtain ⟨d0, d1, d2, d3, d4, d5, d6⟩ := cells7 gD
      have dp0 := fun o => cell_alloc (o := o) d0
      have dp1 := fun o => cell_alloc (o := o) d1
      have dp2 := fun o => cell_alloc (o := o) d2
      have dp3 := fun o => cell_alloc (o := o) d3
      have dp4 := fun o => cell_alloc (o := o) d4
      have dp5 := fun o => cell_alloc (o := o) d5
      have dp6 := fun o => cell_alloc (o := o) d6
      go_wp2_with fail
      refine (cV _).mono ?_
      clear c0 cp0 c1 cp1 c2 cp2 c3 cp3 c4 cp4 c5 cp5 c6 cp6 d0 dp0 d1 dp1 d2 dp2 d3 dp3 d4 dp4 d5 dp5 d6 dp6
      rintro e w4 ⟨rfl, hb⟩
      replace gC := block_later hb gC
      replace gD := block_later hb gD
      replace hB := below_tr hB hb
      clear hb
      obtain ⟨c0, c1, c2, c3, c4, c5, c6⟩ := cells7 gC
      have cp0 := fun o => cell_alloc (o := o) c0
      have cp1 := fun o => cell_alloc (o := o) c1
      have cp2 := fun o => cell_alloc (o := o) c2
      have cp3 := fun o => cell_alloc (o := o) c3
      have cp4 := fun o => cell_alloc (o := o) c4
      have cp5 := fun o => cell_alloc (o := o) c5
      have cp6 := fun o => cell_alloc (o := o) c6
      obtain ⟨d0, d1, d2, d3, d4, d5, d6⟩ := cells7 gD
      have dp0 := fun o => cell_alloc (o := o) d0
      have dp1 := fun o => cell_alloc (o := o) d1
      have dp2 := fun o => cell_alloc (o := o) d2
      have dp3 := fun o => cell_alloc (o := o) d3
      have dp4 := fun o => cell_alloc (o := o) d4
      have dp5 := fun o => cell_alloc (o := o) d5
      have dp6 := fun o => cell_alloc (o := o) d6
      go_wp2_with fail
      refine (cS _).mono ?_
      clear c0 cp0 c1 cp1 c2 cp2 c3 cp3 c4 cp4 c5 cp5 c6 cp6 d0 dp0 d1 dp1 d2 dp2 d3 dp3 d4 dp4 d5 dp5 d6 dp6
      rintro e w5 ⟨rfl, hb⟩
      replace gC := block_later hb gC
      replace gD := block_later hb gD
      replace hB := below_tr hB hb
      clear hb
      obtain ⟨c0, c1, c2, c3, c4, c5, c6⟩ := cells7 gC
      have cp0 := fun o => cell_alloc (o := o) c0
      have cp1 := fun o => cell_alloc (o := o) c1
      have cp2 := fun o => cell_alloc (o := o) c2
      have cp3 := fun o => cell_alloc (o := o) c3
      have cp4 := fun o => cell_alloc (o := o) c4
      have cp5 := fun o => cell_alloc (o := o) c5
      have cp6 := fun o => cell_alloc (o := o) c6
      obtain ⟨d0, d1, d2, d3, d4, d5, d6⟩ := cells7 gD
      have dp0 := fun o => cell_alloc (o := o) d0
      have dp1 := fun o => cell_alloc (o := o) d1
      have dp2 := fun o => cell_alloc (o := o) d2
      have dp3 := fun o => cell_alloc (o := o) d3
      have dp4 := fun o => cell_alloc (o := o) d4
      have dp5 := fun o => cell_alloc (o := o) d5
      have dp6 := fun o => cell_alloc (o := o) d6
      go_wp2_with fail
      refine (cT _).mono ?_
      clear c0 cp0 c1 cp1 c2 cp2 c3 cp3 c4 cp4 c5 cp5 c6 cp6 d0 dp0 d1 dp1 d2 dp2 d3 dp3 d4 dp4 d5 dp5 d6 dp6
      rintro e w6 ⟨rfl, hb⟩
      replace gC := block_later hb gC
      replace gD := block_later hb gD
      replace hB := below_tr hB hb
      clear hb
      obtain ⟨c0, c1, c2, c3, c4, c5, c6⟩ := cells7 gC
      have cp0 := fun o => cell_alloc (o := o) c0
      have cp1 := fun o => cell_alloc (o := o) c1
      have cp2 := fun o => cell_alloc (o := o) c2
      have cp3 := fun o => cell_alloc (o := o) c3
      have cp4 := fun o => cell_alloc (o := o) c4
      have cp5 := fun o => cell_alloc (o := o) c5
      have cp6 := fun o => cell_alloc (o := o) c6
      obtain ⟨d0, d1, d2, d3, d4, d5, d6⟩ := cells7 gD
      have dp0 := fun o => cell_alloc (o := o) d0
      have dp1 := fun o => cell_alloc (o := o) d1
      have dp2 := fun o => cell_alloc (o := o) d2
      have dp3 := fun o => cell_alloc (o := o) d3
      have dp4 := fun o => cell_alloc (o := o) d4
      have dp5 := fun o => cell_alloc (o := o) d5
      have dp6 := fun o => cell_alloc (o := o) d6
      go_wp2_with fail
      refine (cU _).mono ?_
      clear c0 cp0 c1 cp1 c2 cp2 c3 cp3 c4 cp4 c5 cp5 c6 cp6 d0 dp0 d1 dp1 d2 dp2 d3 dp3 d4 dp4 d5 dp5 d6 dp6
      rintro e w7 ⟨rfl, hb⟩
      replace gC := block_later hb gC
      replace gD := block_later hb gD
      replace hB := below_tr hB hb
      clear hb
      obtain ⟨c0, c1, c2, c3, c4, c5, c6⟩ := cells7 gC
      have cp0 := fun o => cell_alloc (o := o) c0
      have cp1 := fun o => cell_alloc (o := o) c1
      have cp2 := fun o => cell_alloc (o := o) c2
      have cp3 := fun o => cell_alloc (o := o) c3
      have cp4 := fun o => cell_alloc (o := o) c4
      have cp5 := fun o => cell_alloc (o := o) c5
      have cp6 := fun o => cell_alloc (o := o) c6
      obtain ⟨d0, d1, d2, d3, d4, d5, d6⟩ := cells7 gD
      have dp0 := fun o => cell_alloc (o := o) d0
      have dp1 := fun o => cell_alloc (o := o) d1
      have dp2 := fun o => cell_alloc (o := o) d2
      have dp3 := fun o => cell_alloc (o := o) d3
      have dp4 := fun o => cell_alloc (o := o) d4
      have dp5 := fun o => cell_alloc (o := o) d5
      have dp6 := fun o => cell_alloc (o := o) d6
      go_wp2
      go_ret
      first
        | exact ⟨rfl, hB⟩
        | exact ⟨rfl, hB.alloc hB.size _⟩
  have cI := fun w1 => sized_yes k a b r g s m ha hm h1 w1
  rw [h1] at cS cT
  cases h2 : noB k' a' b' r' g' s' m'
  · have hv : covB k a b r g s m k' a' b' r' g' s' m' = false := by
      cases q : covB k a b r g s m k' a' b' r' g' s' m'
      · rfl
      · rw [q, h2] at hcv; exact absurd (hcv.mp rfl).2.1 (by decide)
    have cJ := fun w1 => sized_no k' a' b' r' g' s' m' ha' hm' h2 w1
    rw [hv] at cV
    rw [sam_no _ _ _ _ _ _ _ _ _ _ _ _ _ _ hv] at cU
    clear hcv hv h1 h2 cW
    generalize 2 ^ nbN k b = p at *
    go_enter Tryd.func8, Tryd.ntmps8
    go_wp2_with fail
    generalize (w.alloc (.cells #[.int .i64 k, .int .u64 (a : Nat), .int .i64 b, .int .i64 r, .int .i64 g, .int .i64 s, .int .u64 (m : Nat)] 24)).alloc (.cells #[.int .i64 k', .int .u64 (a' : Nat), .int .i64 b', .int .i64 r', .int .i64 g', .int .i64 s', .int .u64 (m' : Nat)] 24) = W at *
    obtain ⟨c0, c1, c2, c3, c4, c5, c6⟩ := cells7 gC
    have cp0 := fun o => cell_alloc (o := o) c0
    have cp1 := fun o => cell_alloc (o := o) c1
    have cp2 := fun o => cell_alloc (o := o) c2
    have cp3 := fun o => cell_alloc (o := o) c3
    have cp4 := fun o => cell_alloc (o := o) c4
    have cp5 := fun o => cell_alloc (o := o) c5
    have cp6 := fun o => cell_alloc (o := o) c6
    obtain ⟨d0, d1, d2, d3, d4, d5, d6⟩ := cells7 gD
    have dp0 := fun o => cell_alloc (o := o) d0
    have dp1 := fun o => cell_alloc (o := o) d1
    have dp2 := fun o => cell_alloc (o := o) d2
    have dp3 := fun o => cell_alloc (o := o) d3
    have dp4 := fun o => cell_alloc (o := o) d4
    have dp5 := fun o => cell_alloc (o := o) d5
    have dp6 := fun o => cell_alloc (o := o) d6
    refine (cA _ (hP.later hB)).mono ?_
    clear c0 cp0 c1 cp1 c2 cp2 c3 cp3 c4 cp4 c5 cp5 c6 cp6 d0 dp0 d1 dp1 d2 dp2 d3 dp3 d4 dp4 d5 dp5 d6 dp6
    rintro e w1 ⟨rfl, hb⟩
    replace gC := block_later hb gC
    replace gD := block_later hb gD
    replace hB := below_tr hB hb
    clear hb
    obtain ⟨c0, c1, c2, c3, c4, c5, c6⟩ := cells7 gC
    have cp0 := fun o => cell_alloc (o := o) c0
    have cp1 := fun o => cell_alloc (o := o) c1
    have cp2 := fun o => cell_alloc (o := o) c2
    have cp3 := fun o => cell_alloc (o := o) c3
    have cp4 := fun o => cell_alloc (o := o) c4
    have cp5 := fun o => cell_alloc (o := o) c5
    have cp6 := fun o => cell_alloc (o := o) c6
    obtain ⟨d0, d1, d2, d3, d4, d5, d6⟩ := cells7 gD
    have dp0 := fun o => cell_alloc (o := o) d0
    have dp1 := fun o => cell_alloc (o := o) d1
    have dp2 := fun o => cell_alloc (o := o) d2
    have dp3 := fun o => cell_alloc (o := o) d3
    have dp4 := fun o => cell_alloc (o := o) d4
    have dp5 := fun o => cell_alloc (o := o) d5
    have dp6 := fun o => cell_alloc (o := o) d6
    go_wp2_with fail
    refine (cI _).mono ?_
    clear c0 cp0 c1 cp1 c2 cp2 c3 cp3 c4 cp4 c5 cp5 c6 cp6 d0 dp0 d1 dp1 d2 dp2 d3 dp3 d4 dp4 d5 dp5 d6 dp6
    rintro e w2 ⟨rfl, hb⟩
    replace gC := block_later hb gC
    replace gD := block_later hb gD
    replace hB := below_tr hB hb
    clear hb
    obtain ⟨c0, c1, c2, c3, c4, c5, c6⟩ := cells7 gC
    have cp0 := fun o => cell_alloc (o := o) c0
    have cp1 := fun o => cell_alloc (o := o) c1
    have cp2 := fun o => cell_alloc (o := o) c2
    have cp3 := fun o => cell_alloc (o := o) c3
    have cp4 := fun o => cell_alloc (o := o) c4
    have cp5 := fun o => cell_alloc (o := o) c5
    have cp6 := fun o => cell_alloc (o := o) c6
    obtain ⟨d0, d1, d2, d3, d4, d5, d6⟩ := cells7 gD
    have dp0 := fun o => cell_alloc (o := o) d0
    have dp1 := fun o => cell_alloc (o := o) d1
    have dp2 := fun o => cell_alloc (o := o) d2
    have dp3 := fun o => cell_alloc (o := o) d3
    have dp4 := fun o => cell_alloc (o := o) d4
    have dp5 := fun o => cell_alloc (o := o) d5
    have dp6 := fun o => cell_alloc (o := o) d6
    go_wp2_with fail
    refine (cJ _).mono ?_
    clear c0 cp0 c1 cp1 c2 cp2 c3 cp3 c4 cp4 c5 cp5 c6 cp6 d0 dp0 d1 dp1 d2 dp2 d3 dp3 d4 dp4 d5 dp5 d6 dp6
    rintro e w3 ⟨rfl, hb⟩
    replace gC := block_later hb gC
    replace gD := block_later hb gD
    replace hB := below_tr hB hb
    clear hb
    obtain ⟨c0, c1, c2, c3, c4, c5, c6⟩ := cells7 gC
    have cp0 := fun o => cell_alloc (o := o) c0
    have cp1 := fun o => cell_alloc (o := o) c1
    have cp2 := fun o => cell_alloc (o := o) c2
    have cp3 := fun o => cell_alloc (o := o) c3
    have cp4 := fun o => cell_alloc (o := o) c4
    have cp5 := fun o => cell_alloc (o := o) c5
    have cp6 := fun o => cell_alloc (o := o) c6
    obtain ⟨d0, d1, d2, d3, d4, d5, d6⟩ := cells7 gD
    have dp0 := fun o => cell_alloc (o := o) d0
    have dp1 := fun o => cell_alloc (o := o) d1
    have dp2 := fun o => cell_alloc (o := o) d2
    have dp3 := fun o => cell_alloc (o := o) d3
    have dp4 := fun o => cell_alloc (o := o) d4
    have dp5 := fun o => cell_alloc (o := o) d5
    have dp6 := fun o => cell_alloc (o := o) d6
    go_wp2_with fail
    refine (cV _).mono ?_
    clear c0 cp0 c1 cp1 c2 cp2 c3 cp3 c4 cp4 c5 cp5 c6 cp6 d0 dp0 d1 dp1 d2 dp2 d3 dp3 d4 dp4 d5 dp5 d6 dp6
    rintro e w4 ⟨rfl, hb⟩
    replace gC := block_later hb gC
    replace gD := block_later hb gD
    replace hB := below_tr hB hb
    clear hb
    obtain ⟨c0, c1, c2, c3, c4, c5, c6⟩ := cells7 gC
    have cp0 := fun o => cell_alloc (o := o) c0
    have cp1 := fun o => cell_alloc (o := o) c1
    have cp2 := fun o => cell_alloc (o := o) c2
    have cp3 := fun o => cell_alloc (o := o) c3
    have cp4 := fun o => cell_alloc (o := o) c4
    have cp5 := fun o => cell_alloc (o := o) c5
    have cp6 := fun o => cell_alloc (o := o) c6
    obtain ⟨d0, d1, d2, d3, d4, d5, d6⟩ := cells7 gD
    have dp0 := fun o => cell_alloc (o := o) d0
    have dp1 := fun o => cell_alloc (o := o) d1
    have dp2 := fun o => cell_alloc (o := o) d2
    have dp3 := fun o => cell_alloc (o := o) d3
    have dp4 := fun o => cell_alloc (o := o) d4
    have dp5 := fun o => cell_alloc (o := o) d5
    have dp6 := fun o => cell_alloc (o := o) d6
    go_wp2_with fail
    refine (cS _).mono ?_
    clear c0 cp0 c1 cp1 c2 cp2 c3 cp3 c4 cp4 c5 cp5 c6 cp6 d0 dp0 d1 dp1 d2 dp2 d3 dp3 d4 dp4 d5 dp5 d6 dp6
    rintro e w5 ⟨rfl, hb⟩
    replace gC := block_later hb gC
    replace gD := block_later hb gD
    replace hB := below_tr hB hb
    clear hb
    obtain ⟨c0, c1, c2, c3, c4, c5, c6⟩ := cells7 gC
    have cp0 := fun o => cell_alloc (o := o) c0
    have cp1 := fun o => cell_alloc (o := o) c1
    have cp2 := fun o => cell_alloc (o := o) c2
    have cp3 := fun o => cell_alloc (o := o) c3
    have cp4 := fun o => cell_alloc (o := o) c4
    have cp5 := fun o => cell_alloc (o := o) c5
    have cp6 := fun o => cell_alloc (o := o) c6
    obtain ⟨d0, d1, d2, d3, d4, d5, d6⟩ := cells7 gD
    have dp0 := fun o => cell_alloc (o := o) d0
    have dp1 := fun o => cell_alloc (o := o) d1
    have dp2 := fun o => cell_alloc (o := o) d2
    have dp3 := fun o => cell_alloc (o := o) d3
    have dp4 := fun o => cell_alloc (o := o) d4
    have dp5 := fun o => cell_alloc (o := o) d5
    have dp6 := fun o => cell_alloc (o := o) d6
    go_wp2_with fail
    refine (cT _).mono ?_
    clear c0 cp0 c1 cp1 c2 cp2 c3 cp3 c4 cp4 c5 cp5 c6 cp6 d0 dp0 d1 dp1 d2 dp2 d3 dp3 d4 dp4 d5 dp5 d6 dp6
    rintro e w6 ⟨rfl, hb⟩
    replace gC := block_later hb gC
    replace gD := block_later hb gD
    replace hB := below_tr hB hb
    clear hb
    obtain ⟨c0, c1, c2, c3, c4, c5, c6⟩ := cells7 gC
    have cp0 := fun o => cell_alloc (o := o) c0
    have cp1 := fun o => cell_alloc (o := o) c1
    have cp2 := fun o => cell_alloc (o := o) c2
    have cp3 := fun o => cell_alloc (o := o) c3
    have cp4 := fun o => cell_alloc (o := o) c4
    have cp5 := fun o => cell_alloc (o := o) c5
    have cp6 := fun o => cell_alloc (o := o) c6
    obtain ⟨d0, d1, d2, d3, d4, d5, d6⟩ := cells7 gD
    have dp0 := fun o => cell_alloc (o := o) d0
    have dp1 := fun o => cell_alloc (o := o) d1
    have dp2 := fun o => cell_alloc (o := o) d2
    have dp3 := fun o => cell_alloc (o := o) d3
    have dp4 := fun o => cell_alloc (o := o) d4
    have dp5 := fun o => cell_alloc (o := o) d5
    have dp6 := fun o => cell_alloc (o := o) d6
    go_wp2_with fail
    refine (cU _).mono ?_
    clear c0 cp0 c1 cp1 c2 cp2 c3 cp3 c4 cp4 c5 cp5 c6 cp6 d0 dp0 d1 dp1 d2 dp2 d3 dp3 d4 dp4 d5 dp5 d6 dp6
    rintro e w7 ⟨rfl, hb⟩
    replace gC := block_later hb gC
    replace gD := block_later hb gD
    replace hB := below_tr hB hb
    clear hb
    obtain ⟨c0, c1, c2, c3, c4, c5, c6⟩ := cells7 gC
    have cp0 := fun o => cell_alloc (o := o) c0
    have cp1 := fun o => cell_alloc (o := o) c1
    have cp2 := fun o => cell_alloc (o := o) c2
    have cp3 := fun o => cell_alloc (o := o) c3
    have cp4 := fun o => cell_alloc (o := o) c4
    have cp5 := fun o => cell_alloc (o := o) c5
    have cp6 := fun o => cell_alloc (o := o) c6
    obtain ⟨d0, d1, d2, d3, d4, d5, d6⟩ := cells7 gD
    have dp0 := fun o => cell_alloc (o := o) d0
    have dp1 := fun o => cell_alloc (o := o) d1
    have dp2 := fun o => cell_alloc (o := o) d2
    have dp3 := fun o => cell_alloc (o := o) d3
    have dp4 := fun o => cell_alloc (o := o) d4
    have dp5 := fun o => cell_alloc (o := o) d5
    have dp6 := fun o => cell_alloc (o := o) d6
    go_wp2
    go_ret
    first
      | exact ⟨rfl, hB⟩
      | exact ⟨rfl, hB.alloc hB.size _⟩
  have cJ := fun w1 => sized_yes k' a' b' r' g' s' m' ha' hm' h2 w1
  obtain ⟨-, -, -, -, -, -, -, -, u1, -⟩ := no_of h1
  obtain ⟨-, -, -, -, -, -, -, -, u2, -⟩ := no_of h2
  have hsc := sam_cov k a b r g s m k' a' b' r' g' s' m'
  have hsn := sam_no k a b r g s m k' a' b' r' g' s' m'
  rw [h1, h2] at hcv
  generalize 2 ^ nbN k b = p at *
  generalize 2 ^ nbN k' b' = q at *
  have hw : IntKind.u64.wrap ((a' : Int) - (a : Int)) = if a ≤ a' then (a' : Int) - (a : Int) else IntKind.u64.wrap ((a' : Int) - (a : Int)) := by
    split
    · rw [IntKind.wrap_u64]; omega
    · rfl
  by_cases t1 : a ≤ a'
  · have d1 : decide ((a : Int) ≤ (a' : Int)) = true := decide_eq_true (by omega)
    rw [if_pos t1] at hw
    by_cases t2 : a' - a ≤ p
    · have d2 : decide ((a' : Int) - (a : Int) ≤ (p : Int)) = true := decide_eq_true (by omega)
      have hw2 : IntKind.u64.wrap ((p : Int) - ((a' : Int) - (a : Int))) = (p : Int) - ((a' : Int) - (a : Int)) := by rw [IntKind.wrap_u64]; omega
      by_cases t3 : q ≤ p - (a' - a)
      · have d3 : decide ((q : Int) ≤ (p : Int) - ((a' : Int) - (a : Int))) = true := decide_eq_true (by omega)
        have hv : covB k a b r g s m k' a' b' r' g' s' m' = true := hcv.mpr ⟨rfl, rfl, t1, by omega⟩
        have hs := hsc hv
        rw [hv] at cV
        rw [hs] at cU
        clear hcv hsc hsn hv hs h1 h2 u1 u2
        cases hx : covB k' a' b' r' g' s' m' k a b r g s m
        · rw [hx] at cW cU
          rw [Bool.false_and] at cU
          clear hx
          go_enter Tryd.func8, Tryd.ntmps8
          go_wp2_with fail
          generalize (w.alloc (.cells #[.int .i64 k, .int .u64 (a : Nat), .int .i64 b, .int .i64 r, .int .i64 g, .int .i64 s, .int .u64 (m : Nat)] 24)).alloc (.cells #[.int .i64 k', .int .u64 (a' : Nat), .int .i64 b', .int .i64 r', .int .i64 g', .int .i64 s', .int .u64 (m' : Nat)] 24) = W at *
          obtain ⟨c0, c1, c2, c3, c4, c5, c6⟩ := cells7 gC
          have cp0 := fun o => cell_alloc (o := o) c0
          have cp1 := fun o => cell_alloc (o := o) c1
          have cp2 := fun o => cell_alloc (o := o) c2
          have cp3 := fun o => cell_alloc (o := o) c3
          have cp4 := fun o => cell_alloc (o := o) c4
          have cp5 := fun o => cell_alloc (o := o) c5
          have cp6 := fun o => cell_alloc (o := o) c6
          obtain ⟨d0, d1, d2, d3, d4, d5, d6⟩ := cells7 gD
          have dp0 := fun o => cell_alloc (o := o) d0
          have dp1 := fun o => cell_alloc (o := o) d1
          have dp2 := fun o => cell_alloc (o := o) d2
          have dp3 := fun o => cell_alloc (o := o) d3
          have dp4 := fun o => cell_alloc (o := o) d4
          have dp5 := fun o => cell_alloc (o := o) d5
          have dp6 := fun o => cell_alloc (o := o) d6
          refine (cA _ (hP.later hB)).mono ?_
          clear c0 cp0 c1 cp1 c2 cp2 c3 cp3 c4 cp4 c5 cp5 c6 cp6 d0 dp0 d1 dp1 d2 dp2 d3 dp3 d4 dp4 d5 dp5 d6 dp6
          rintro e w1 ⟨rfl, hb⟩
          replace gC := block_later hb gC
          replace gD := block_later hb gD
          replace hB := below_tr hB hb
          clear hb
          obtain ⟨c0, c1, c2, c3, c4, c5, c6⟩ := cells7 gC
          have cp0 := fun o => cell_alloc (o := o) c0
          have cp1 := fun o => cell_alloc (o := o) c1
          have cp2 := fun o => cell_alloc (o := o) c2
          have cp3 := fun o => cell_alloc (o := o) c3
          have cp4 := fun o => cell_alloc (o := o) c4
          have cp5 := fun o => cell_alloc (o := o) c5
          have cp6 := fun o => cell_alloc (o := o) c6
          obtain ⟨d0, d1, d2, d3, d4, d5, d6⟩ := cells7 gD
          have dp0 := fun o => cell_alloc (o := o) d0
          have dp1 := fun o => cell_alloc (o := o) d1
          have dp2 := fun o => cell_alloc (o := o) d2
          have dp3 := fun o => cell_alloc (o := o) d3
          have dp4 := fun o => cell_alloc (o := o) d4
          have dp5 := fun o => cell_alloc (o := o) d5
          have dp6 := fun o => cell_alloc (o := o) d6
          go_wp2_with fail
          refine (cI _).mono ?_
          clear c0 cp0 c1 cp1 c2 cp2 c3 cp3 c4 cp4 c5 cp5 c6 cp6 d0 dp0 d1 dp1 d2 dp2 d3 dp3 d4 dp4 d5 dp5 d6 dp6
          rintro e w2 ⟨rfl, hb⟩
          replace gC := block_later hb gC
          replace gD := block_later hb gD
          replace hB := below_tr hB hb
          clear hb
          obtain ⟨c0, c1, c2, c3, c4, c5, c6⟩ := cells7 gC
          have cp0 := fun o => cell_alloc (o := o) c0
          have cp1 := fun o => cell_alloc (o := o) c1
          have cp2 := fun o => cell_alloc (o := o) c2
          have cp3 := fun o => cell_alloc (o := o) c3
          have cp4 := fun o => cell_alloc (o := o) c4
          have cp5 := fun o => cell_alloc (o := o) c5
          have cp6 := fun o => cell_alloc (o := o) c6
          obtain ⟨d0, d1, d2, d3, d4, d5, d6⟩ := cells7 gD
          have dp0 := fun o => cell_alloc (o := o) d0
          have dp1 := fun o => cell_alloc (o := o) d1
          have dp2 := fun o => cell_alloc (o := o) d2
          have dp3 := fun o => cell_alloc (o := o) d3
          have dp4 := fun o => cell_alloc (o := o) d4
          have dp5 := fun o => cell_alloc (o := o) d5
          have dp6 := fun o => cell_alloc (o := o) d6
          go_wp2_with fail
          refine (cJ _).mono ?_
          clear c0 cp0 c1 cp1 c2 cp2 c3 cp3 c4 cp4 c5 cp5 c6 cp6 d0 dp0 d1 dp1 d2 dp2 d3 dp3 d4 dp4 d5 dp5 d6 dp6
          rintro e w3 ⟨rfl, hb⟩
          replace gC := block_later hb gC
          replace gD := block_later hb gD
          replace hB := below_tr hB hb
          clear hb
          obtain ⟨c0, c1, c2, c3, c4, c5, c6⟩ := cells7 gC
          have cp0 := fun o => cell_alloc (o := o) c0
          have cp1 := fun o => cell_alloc (o := o) c1
          have cp2 := fun o => cell_alloc (o := o) c2
          have cp3 := fun o => cell_alloc (o := o) c3
          have cp4 := fun o => cell_alloc (o := o) c4
          have cp5 := fun o => cell_alloc (o := o) c5
          have cp6 := fun o => cell_alloc (o := o) c6
          obtain ⟨d0, d1, d2, d3, d4, d5, d6⟩ := cells7 gD
          have dp0 := fun o => cell_alloc (o := o) d0
          have dp1 := fun o => cell_alloc (o := o) d1
          have dp2 := fun o => cell_alloc (o := o) d2
          have dp3 := fun o => cell_alloc (o := o) d3
          have dp4 := fun o => cell_alloc (o := o) d4
          have dp5 := fun o => cell_alloc (o := o) d5
          have dp6 := fun o => cell_alloc (o := o) d6
          go_wp2_with fail
          refine (cV _).mono ?_
          clear c0 cp0 c1 cp1 c2 cp2 c3 cp3 c4 cp4 c5 cp5 c6 cp6 d0 dp0 d1 dp1 d2 dp2 d3 dp3 d4 dp4 d5 dp5 d6 dp6
          rintro e w4 ⟨rfl, hb⟩
          replace gC := block_later hb gC
          replace gD := block_later hb gD
          replace hB := below_tr hB hb
          clear hb
          obtain ⟨c0, c1, c2, c3, c4, c5, c6⟩ := cells7 gC
          have cp0 := fun o => cell_alloc (o := o) c0
          have cp1 := fun o => cell_alloc (o := o) c1
          have cp2 := fun o => cell_alloc (o := o) c2
          have cp3 := fun o => cell_alloc (o := o) c3
          have cp4 := fun o => cell_alloc (o := o) c4
          have cp5 := fun o => cell_alloc (o := o) c5
          have cp6 := fun o => cell_alloc (o := o) c6
          obtain ⟨d0, d1, d2, d3, d4, d5, d6⟩ := cells7 gD
          have dp0 := fun o => cell_alloc (o := o) d0
          have dp1 := fun o => cell_alloc (o := o) d1
          have dp2 := fun o => cell_alloc (o := o) d2
          have dp3 := fun o => cell_alloc (o := o) d3
          have dp4 := fun o => cell_alloc (o := o) d4
          have dp5 := fun o => cell_alloc (o := o) d5
          have dp6 := fun o => cell_alloc (o := o) d6
          go_wp2_with fail
          refine (cS _).mono ?_
          clear c0 cp0 c1 cp1 c2 cp2 c3 cp3 c4 cp4 c5 cp5 c6 cp6 d0 dp0 d1 dp1 d2 dp2 d3 dp3 d4 dp4 d5 dp5 d6 dp6
          rintro e w5 ⟨rfl, hb⟩
          replace gC := block_later hb gC
          replace gD := block_later hb gD
          replace hB := below_tr hB hb
          clear hb
          obtain ⟨c0, c1, c2, c3, c4, c5, c6⟩ := cells7 gC
          have cp0 := fun o => cell_alloc (o := o) c0
          have cp1 := fun o => cell_alloc (o := o) c1
          have cp2 := fun o => cell_alloc (o := o) c2
          have cp3 := fun o => cell_alloc (o := o) c3
          have cp4 := fun o => cell_alloc (o := o) c4
          have cp5 := fun o => cell_alloc (o := o) c5
          have cp6 := fun o => cell_alloc (o := o) c6
          obtain ⟨d0, d1, d2, d3, d4, d5, d6⟩ := cells7 gD
          have dp0 := fun o => cell_alloc (o := o) d0
          have dp1 := fun o => cell_alloc (o := o) d1
          have dp2 := fun o => cell_alloc (o := o) d2
          have dp3 := fun o => cell_alloc (o := o) d3
          have dp4 := fun o => cell_alloc (o := o) d4
          have dp5 := fun o => cell_alloc (o := o) d5
          have dp6 := fun o => cell_alloc (o := o) d6
          go_wp2_with fail
          refine (cT _).mono ?_
          clear c0 cp0 c1 cp1 c2 cp2 c3 cp3 c4 cp4 c5 cp5 c6 cp6 d0 dp0 d1 dp1 d2 dp2 d3 dp3 d4 dp4 d5 dp5 d6 dp6
          rintro e w6 ⟨rfl, hb⟩
          replace gC := block_later hb gC
          replace gD := block_later hb gD
          replace hB := below_tr hB hb
          clear hb
          obtain ⟨c0, c1, c2, c3, c4, c5, c6⟩ := cells7 gC
          have cp0 := fun o => cell_alloc (o := o) c0
          have cp1 := fun o => cell_alloc (o := o) c1
          have cp2 := fun o => cell_alloc (o := o) c2
          have cp3 := fun o => cell_alloc (o := o) c3
          have cp4 := fun o => cell_alloc (o := o) c4
          have cp5 := fun o => cell_alloc (o := o) c5
          have cp6 := fun o => cell_alloc (o := o) c6
          obtain ⟨d0, d1, d2, d3, d4, d5, d6⟩ := cells7 gD
          have dp0 := fun o => cell_alloc (o := o) d0
          have dp1 := fun o => cell_alloc (o := o) d1
          have dp2 := fun o => cell_alloc (o := o) d2
          have dp3 := fun o => cell_alloc (o := o) d3
          have dp4 := fun o => cell_alloc (o := o) d4
          have dp5 := fun o => cell_alloc (o := o) d5
          have dp6 := fun o => cell_alloc (o := o) d6
          go_wp2_with fail
          refine (cU _).mono ?_
          clear c0 cp0 c1 cp1 c2 cp2 c3 cp3 c4 cp4 c5 cp5 c6 cp6 d0 dp0 d1 dp1 d2 dp2 d3 dp3 d4 dp4 d5 dp5 d6 dp6
          rintro e w7 ⟨rfl, hb⟩
          replace gC := block_later hb gC
          replace gD := block_later hb gD
          replace hB := below_tr hB hb
          clear hb
          obtain ⟨c0, c1, c2, c3, c4, c5, c6⟩ := cells7 gC
          have cp0 := fun o => cell_alloc (o := o) c0
          have cp1 := fun o => cell_alloc (o := o) c1
          have cp2 := fun o => cell_alloc (o := o) c2
          have cp3 := fun o => cell_alloc (o := o) c3
          have cp4 := fun o => cell_alloc (o := o) c4
          have cp5 := fun o => cell_alloc (o := o) c5
          have cp6 := fun o => cell_alloc (o := o) c6
          obtain ⟨d0, d1, d2, d3, d4, d5, d6⟩ := cells7 gD
          have dp0 := fun o => cell_alloc (o := o) d0
          have dp1 := fun o => cell_alloc (o := o) d1
          have dp2 := fun o => cell_alloc (o := o) d2
          have dp3 := fun o => cell_alloc (o := o) d3
          have dp4 := fun o => cell_alloc (o := o) d4
          have dp5 := fun o => cell_alloc (o := o) d5
          have dp6 := fun o => cell_alloc (o := o) d6
          go_wp2_with fail
          refine (cW _).mono ?_
          clear c0 cp0 c1 cp1 c2 cp2 c3 cp3 c4 cp4 c5 cp5 c6 cp6 d0 dp0 d1 dp1 d2 dp2 d3 dp3 d4 dp4 d5 dp5 d6 dp6
          rintro e w8 ⟨rfl, hb⟩
          replace gC := block_later hb gC
          replace gD := block_later hb gD
          replace hB := below_tr hB hb
          clear hb
          obtain ⟨c0, c1, c2, c3, c4, c5, c6⟩ := cells7 gC
          have cp0 := fun o => cell_alloc (o := o) c0
          have cp1 := fun o => cell_alloc (o := o) c1
          have cp2 := fun o => cell_alloc (o := o) c2
          have cp3 := fun o => cell_alloc (o := o) c3
          have cp4 := fun o => cell_alloc (o := o) c4
          have cp5 := fun o => cell_alloc (o := o) c5
          have cp6 := fun o => cell_alloc (o := o) c6
          obtain ⟨d0, d1, d2, d3, d4, d5, d6⟩ := cells7 gD
          have dp0 := fun o => cell_alloc (o := o) d0
          have dp1 := fun o => cell_alloc (o := o) d1
          have dp2 := fun o => cell_alloc (o := o) d2
          have dp3 := fun o => cell_alloc (o := o) d3
          have dp4 := fun o => cell_alloc (o := o) d4
          have dp5 := fun o => cell_alloc (o := o) d5
          have dp6 := fun o => cell_alloc (o := o) d6
          go_wp2
          go_ret
          first
            | exact ⟨rfl, hB⟩
            | exact ⟨rfl, hB.alloc hB.size _⟩
        · rw [hx] at cW cU
          rw [Bool.true_and] at cU
          clear hx
          by_cases hk : k = k'
          · have dk : (k == k') = true := by rw [beq_iff_eq]; exact hk
            rw [decide_eq_true hk] at cU
            replace hk := Hid.mk hk
            go_enter Tryd.func8, Tryd.ntmps8
            go_wp2_with fail
            generalize (w.alloc (.cells #[.int .i64 k, .int .u64 (a : Nat), .int .i64 b, .int .i64 r, .int .i64 g, .int .i64 s, .int .u64 (m : Nat)] 24)).alloc (.cells #[.int .i64 k', .int .u64 (a' : Nat), .int .i64 b', .int .i64 r', .int .i64 g', .int .i64 s', .int .u64 (m' : Nat)] 24) = W at *
            obtain ⟨c0, c1, c2, c3, c4, c5, c6⟩ := cells7 gC
            have cp0 := fun o => cell_alloc (o := o) c0
            have cp1 := fun o => cell_alloc (o := o) c1
            have cp2 := fun o => cell_alloc (o := o) c2
            have cp3 := fun o => cell_alloc (o := o) c3
            have cp4 := fun o => cell_alloc (o := o) c4
            have cp5 := fun o => cell_alloc (o := o) c5
            have cp6 := fun o => cell_alloc (o := o) c6
            obtain ⟨d0, d1, d2, d3, d4, d5, d6⟩ := cells7 gD
            have dp0 := fun o => cell_alloc (o := o) d0
            have dp1 := fun o => cell_alloc (o := o) d1
            have dp2 := fun o => cell_alloc (o := o) d2
            have dp3 := fun o => cell_alloc (o := o) d3
            have dp4 := fun o => cell_alloc (o := o) d4
            have dp5 := fun o => cell_alloc (o := o) d5
            have dp6 := fun o => cell_alloc (o := o) d6
            refine (cA _ (hP.later hB)).mono ?_
            clear c0 cp0 c1 cp1 c2 cp2 c3 cp3 c4 cp4 c5 cp5 c6 cp6 d0 dp0 d1 dp1 d2 dp2 d3 dp3 d4 dp4 d5 dp5 d6 dp6
            rintro e w1 ⟨rfl, hb⟩
            replace gC := block_later hb gC
            replace gD := block_later hb gD
            replace hB := below_tr hB hb
            clear hb
            obtain ⟨c0, c1, c2, c3, c4, c5, c6⟩ := cells7 gC
            have cp0 := fun o => cell_alloc (o := o) c0
            have cp1 := fun o => cell_alloc (o := o) c1
            have cp2 := fun o => cell_alloc (o := o) c2
            have cp3 := fun o => cell_alloc (o := o) c3
            have cp4 := fun o => cell_alloc (o := o) c4
            have cp5 := fun o => cell_alloc (o := o) c5
            have cp6 := fun o => cell_alloc (o := o) c6
            obtain ⟨d0, d1, d2, d3, d4, d5, d6⟩ := cells7 gD
            have dp0 := fun o => cell_alloc (o := o) d0
            have dp1 := fun o => cell_alloc (o := o) d1
            have dp2 := fun o => cell_alloc (o := o) d2
            have dp3 := fun o => cell_alloc (o := o) d3
            have dp4 := fun o => cell_alloc (o := o) d4
            have dp5 := fun o => cell_alloc (o := o) d5
            have dp6 := fun o => cell_alloc (o := o) d6
            go_wp2_with fail
            refine (cI _).mono ?_
            clear c0 cp0 c1 cp1 c2 cp2 c3 cp3 c4 cp4 c5 cp5 c6 cp6 d0 dp0 d1 dp1 d2 dp2 d3 dp3 d4 dp4 d5 dp5 d6 dp6
            rintro e w2 ⟨rfl, hb⟩
            replace gC := block_later hb gC
            replace gD := block_later hb gD
            replace hB := below_tr hB hb
            clear hb
            obtain ⟨c0, c1, c2, c3, c4, c5, c6⟩ := cells7 gC
            have cp0 := fun o => cell_alloc (o := o) c0
            have cp1 := fun o => cell_alloc (o := o) c1
            have cp2 := fun o => cell_alloc (o := o) c2
            have cp3 := fun o => cell_alloc (o := o) c3
            have cp4 := fun o => cell_alloc (o := o) c4
            have cp5 := fun o => cell_alloc (o := o) c5
            have cp6 := fun o => cell_alloc (o := o) c6
            obtain ⟨d0, d1, d2, d3, d4, d5, d6⟩ := cells7 gD
            have dp0 := fun o => cell_alloc (o := o) d0
            have dp1 := fun o => cell_alloc (o := o) d1
            have dp2 := fun o => cell_alloc (o := o) d2
            have dp3 := fun o => cell_alloc (o := o) d3
            have dp4 := fun o => cell_alloc (o := o) d4
            have dp5 := fun o => cell_alloc (o := o) d5
            have dp6 := fun o => cell_alloc (o := o) d6
            go_wp2_with fail
            refine (cJ _).mono ?_
            clear c0 cp0 c1 cp1 c2 cp2 c3 cp3 c4 cp4 c5 cp5 c6 cp6 d0 dp0 d1 dp1 d2 dp2 d3 dp3 d4 dp4 d5 dp5 d6 dp6
            rintro e w3 ⟨rfl, hb⟩
            replace gC := block_later hb gC
            replace gD := block_later hb gD
            replace hB := below_tr hB hb
            clear hb
            obtain ⟨c0, c1, c2, c3, c4, c5, c6⟩ := cells7 gC
            have cp0 := fun o => cell_alloc (o := o) c0
            have cp1 := fun o => cell_alloc (o := o) c1
            have cp2 := fun o => cell_alloc (o := o) c2
            have cp3 := fun o => cell_alloc (o := o) c3
            have cp4 := fun o => cell_alloc (o := o) c4
            have cp5 := fun o => cell_alloc (o := o) c5
            have cp6 := fun o => cell_alloc (o := o) c6
            obtain ⟨d0, d1, d2, d3, d4, d5, d6⟩ := cells7 gD
            have dp0 := fun o => cell_alloc (o := o) d0
            have dp1 := fun o => cell_alloc (o := o) d1
            have dp2 := fun o => cell_alloc (o := o) d2
            have dp3 := fun o => cell_alloc (o := o) d3
            have dp4 := fun o => cell_alloc (o := o) d4
            have dp5 := fun o => cell_alloc (o := o) d5
            have dp6 := fun o => cell_alloc (o := o) d6
            go_wp2_with fail
            refine (cV _).mono ?_
            clear c0 cp0 c1 cp1 c2 cp2 c3 cp3 c4 cp4 c5 cp5 c6 cp6 d0 dp0 d1 dp1 d2 dp2 d3 dp3 d4 dp4 d5 dp5 d6 dp6
            rintro e w4 ⟨rfl, hb⟩
            replace gC := block_later hb gC
            replace gD := block_later hb gD
            replace hB := below_tr hB hb
            clear hb
            obtain ⟨c0, c1, c2, c3, c4, c5, c6⟩ := cells7 gC
            have cp0 := fun o => cell_alloc (o := o) c0
            have cp1 := fun o => cell_alloc (o := o) c1
            have cp2 := fun o => cell_alloc (o := o) c2
            have cp3 := fun o => cell_alloc (o := o) c3
            have cp4 := fun o => cell_alloc (o := o) c4
            have cp5 := fun o => cell_alloc (o := o) c5
            have cp6 := fun o => cell_alloc (o := o) c6
            obtain ⟨d0, d1, d2, d3, d4, d5, d6⟩ := cells7 gD
            have dp0 := fun o => cell_alloc (o := o) d0
            have dp1 := fun o => cell_alloc (o := o) d1
            have dp2 := fun o => cell_alloc (o := o) d2
            have dp3 := fun o => cell_alloc (o := o) d3
            have dp4 := fun o => cell_alloc (o := o) d4
            have dp5 := fun o => cell_alloc (o := o) d5
            have dp6 := fun o => cell_alloc (o := o) d6
            go_wp2_with fail
            refine (cS _).mono ?_
            clear c0 cp0 c1 cp1 c2 cp2 c3 cp3 c4 cp4 c5 cp5 c6 cp6 d0 dp0 d1 dp1 d2 dp2 d3 dp3 d4 dp4 d5 dp5 d6 dp6
            rintro e w5 ⟨rfl, hb⟩
            replace gC := block_later hb gC
            replace gD := block_later hb gD
            replace hB := below_tr hB hb
            clear hb
            obtain ⟨c0, c1, c2, c3, c4, c5, c6⟩ := cells7 gC
            have cp0 := fun o => cell_alloc (o := o) c0
            have cp1 := fun o => cell_alloc (o := o) c1
            have cp2 := fun o => cell_alloc (o := o) c2
            have cp3 := fun o => cell_alloc (o := o) c3
            have cp4 := fun o => cell_alloc (o := o) c4
            have cp5 := fun o => cell_alloc (o := o) c5
            have cp6 := fun o => cell_alloc (o := o) c6
            obtain ⟨d0, d1, d2, d3, d4, d5, d6⟩ := cells7 gD
            have dp0 := fun o => cell_alloc (o := o) d0
            have dp1 := fun o => cell_alloc (o := o) d1
            have dp2 := fun o => cell_alloc (o := o) d2
            have dp3 := fun o => cell_alloc (o := o) d3
            have dp4 := fun o => cell_alloc (o := o) d4
            have dp5 := fun o => cell_alloc (o := o) d5
            have dp6 := fun o => cell_alloc (o := o) d6
            go_wp2_with fail
            refine (cT _).mono ?_
            clear c0 cp0 c1 cp1 c2 cp2 c3 cp3 c4 cp4 c5 cp5 c6 cp6 d0 dp0 d1 dp1 d2 dp2 d3 dp3 d4 dp4 d5 dp5 d6 dp6
            rintro e w6 ⟨rfl, hb⟩
            replace gC := block_later hb gC
            replace gD := block_later hb gD
            replace hB := below_tr hB hb
            clear hb
            obtain ⟨c0, c1, c2, c3, c4, c5, c6⟩ := cells7 gC
            have cp0 := fun o => cell_alloc (o := o) c0
            have cp1 := fun o => cell_alloc (o := o) c1
            have cp2 := fun o => cell_alloc (o := o) c2
            have cp3 := fun o => cell_alloc (o := o) c3
            have cp4 := fun o => cell_alloc (o := o) c4
            have cp5 := fun o => cell_alloc (o := o) c5
            have cp6 := fun o => cell_alloc (o := o) c6
            obtain ⟨d0, d1, d2, d3, d4, d5, d6⟩ := cells7 gD
            have dp0 := fun o => cell_alloc (o := o) d0
            have dp1 := fun o => cell_alloc (o := o) d1
            have dp2 := fun o => cell_alloc (o := o) d2
            have dp3 := fun o => cell_alloc (o := o) d3
            have dp4 := fun o => cell_alloc (o := o) d4
            have dp5 := fun o => cell_alloc (o := o) d5
            have dp6 := fun o => cell_alloc (o := o) d6
            go_wp2_with fail
            refine (cU _).mono ?_
            clear c0 cp0 c1 cp1 c2 cp2 c3 cp3 c4 cp4 c5 cp5 c6 cp6 d0 dp0 d1 dp1 d2 dp2 d3 dp3 d4 dp4 d5 dp5 d6 dp6
            rintro e w7 ⟨rfl, hb⟩
            replace gC := block_later hb gC
            replace gD := block_later hb gD
            replace hB := below_tr hB hb
            clear hb
            obtain ⟨c0, c1, c2, c3, c4, c5, c6⟩ := cells7 gC
            have cp0 := fun o => cell_alloc (o := o) c0
            have cp1 := fun o => cell_alloc (o := o) c1
            have cp2 := fun o => cell_alloc (o := o) c2
            have cp3 := fun o => cell_alloc (o := o) c3
            have cp4 := fun o => cell_alloc (o := o) c4
            have cp5 := fun o => cell_alloc (o := o) c5
            have cp6 := fun o => cell_alloc (o := o) c6
            obtain ⟨d0, d1, d2, d3, d4, d5, d6⟩ := cells7 gD
            have dp0 := fun o => cell_alloc (o := o) d0
            have dp1 := fun o => cell_alloc (o := o) d1
            have dp2 := fun o => cell_alloc (o := o) d2
            have dp3 := fun o => cell_alloc (o := o) d3
            have dp4 := fun o => cell_alloc (o := o) d4
            have dp5 := fun o => cell_alloc (o := o) d5
            have dp6 := fun o => cell_alloc (o := o) d6
            go_wp2_with fail
            refine (cW _).mono ?_
            clear c0 cp0 c1 cp1 c2 cp2 c3 cp3 c4 cp4 c5 cp5 c6 cp6 d0 dp0 d1 dp1 d2 dp2 d3 dp3 d4 dp4 d5 dp5 d6 dp6
            rintro e w8 ⟨rfl, hb⟩
            replace gC := block_later hb gC
            replace gD := block_later hb gD
            replace hB := below_tr hB hb
            clear hb
            obtain ⟨c0, c1, c2, c3, c4, c5, c6⟩ := cells7 gC
            have cp0 := fun o => cell_alloc (o := o) c0
            have cp1 := fun o => cell_alloc (o := o) c1
            have cp2 := fun o => cell_alloc (o := o) c2
            have cp3 := fun o => cell_alloc (o := o) c3
            have cp4 := fun o => cell_alloc (o := o) c4
            have cp5 := fun o => cell_alloc (o := o) c5
            have cp6 := fun o => cell_alloc (o := o) c6
            obtain ⟨d0, d1, d2, d3, d4, d5, d6⟩ := cells7 gD
            have dp0 := fun o => cell_alloc (o := o) d0
            have dp1 := fun o => cell_alloc (o := o) d1
            have dp2 := fun o => cell_alloc (o := o) d2
            have dp3 := fun o => cell_alloc (o := o) d3
            have dp4 := fun o => cell_alloc (o := o) d4
            have dp5 := fun o => cell_alloc (o := o) d5
            have dp6 := fun o => cell_alloc (o := o) d6
            go_wp2
            go_ret
            first
              | exact ⟨rfl, hB⟩
              | exact ⟨rfl, hB.alloc hB.size _⟩
          · have dk : (k == k') = false := by rw [beq_eq_false_iff_ne]; exact hk
            rw [decide_eq_false hk] at cU
            go_enter Tryd.func8, Tryd.ntmps8
            go_wp2_with fail
            generalize (w.alloc (.cells #[.int .i64 k, .int .u64 (a : Nat), .int .i64 b, .int .i64 r, .int .i64 g, .int .i64 s, .int .u64 (m : Nat)] 24)).alloc (.cells #[.int .i64 k', .int .u64 (a' : Nat), .int .i64 b', .int .i64 r', .int .i64 g', .int .i64 s', .int .u64 (m' : Nat)] 24) = W at *
            obtain ⟨c0, c1, c2, c3, c4, c5, c6⟩ := cells7 gC
            have cp0 := fun o => cell_alloc (o := o) c0
            have cp1 := fun o => cell_alloc (o := o) c1
            have cp2 := fun o => cell_alloc (o := o) c2
            have cp3 := fun o => cell_alloc (o := o) c3
            have cp4 := fun o => cell_alloc (o := o) c4
            have cp5 := fun o => cell_alloc (o := o) c5
            have cp6 := fun o => cell_alloc (o := o) c6
            obtain ⟨d0, d1, d2, d3, d4, d5, d6⟩ := cells7 gD
            have dp0 := fun o => cell_alloc (o := o) d0
            have dp1 := fun o => cell_alloc (o := o) d1
            have dp2 := fun o => cell_alloc (o := o) d2
            have dp3 := fun o => cell_alloc (o := o) d3
            have dp4 := fun o => cell_alloc (o := o) d4
            have dp5 := fun o => cell_alloc (o := o) d5
            have dp6 := fun o => cell_alloc (o := o) d6
            refine (cA _ (hP.later hB)).mono ?_
            clear c0 cp0 c1 cp1 c2 cp2 c3 cp3 c4 cp4 c5 cp5 c6 cp6 d0 dp0 d1 dp1 d2 dp2 d3 dp3 d4 dp4 d5 dp5 d6 dp6
            rintro e w1 ⟨rfl, hb⟩
            replace gC := block_later hb gC
            replace gD := block_later hb gD
            replace hB := below_tr hB hb
            clear hb
            obtain ⟨c0, c1, c2, c3, c4, c5, c6⟩ := cells7 gC
            have cp0 := fun o => cell_alloc (o := o) c0
            have cp1 := fun o => cell_alloc (o := o) c1
            have cp2 := fun o => cell_alloc (o := o) c2
            have cp3 := fun o => cell_alloc (o := o) c3
            have cp4 := fun o => cell_alloc (o := o) c4
            have cp5 := fun o => cell_alloc (o := o) c5
            have cp6 := fun o => cell_alloc (o := o) c6
            obtain ⟨d0, d1, d2, d3, d4, d5, d6⟩ := cells7 gD
            have dp0 := fun o => cell_alloc (o := o) d0
            have dp1 := fun o => cell_alloc (o := o) d1
            have dp2 := fun o => cell_alloc (o := o) d2
            have dp3 := fun o => cell_alloc (o := o) d3
            have dp4 := fun o => cell_alloc (o := o) d4
            have dp5 := fun o => cell_alloc (o := o) d5
            have dp6 := fun o => cell_alloc (o := o) d6
            go_wp2_with fail
            refine (cI _).mono ?_
            clear c0 cp0 c1 cp1 c2 cp2 c3 cp3 c4 cp4 c5 cp5 c6 cp6 d0 dp0 d1 dp1 d2 dp2 d3 dp3 d4 dp4 d5 dp5 d6 dp6
            rintro e w2 ⟨rfl, hb⟩
            replace gC := block_later hb gC
            replace gD := block_later hb gD
            replace hB := below_tr hB hb
            clear hb
            obtain ⟨c0, c1, c2, c3, c4, c5, c6⟩ := cells7 gC
            have cp0 := fun o => cell_alloc (o := o) c0
            have cp1 := fun o => cell_alloc (o := o) c1
            have cp2 := fun o => cell_alloc (o := o) c2
            have cp3 := fun o => cell_alloc (o := o) c3
            have cp4 := fun o => cell_alloc (o := o) c4
            have cp5 := fun o => cell_alloc (o := o) c5
            have cp6 := fun o => cell_alloc (o := o) c6
            obtain ⟨d0, d1, d2, d3, d4, d5, d6⟩ := cells7 gD
            have dp0 := fun o => cell_alloc (o := o) d0
            have dp1 := fun o => cell_alloc (o := o) d1
            have dp2 := fun o => cell_alloc (o := o) d2
            have dp3 := fun o => cell_alloc (o := o) d3
            have dp4 := fun o => cell_alloc (o := o) d4
            have dp5 := fun o => cell_alloc (o := o) d5
            have dp6 := fun o => cell_alloc (o := o) d6
            go_wp2_with fail
            refine (cJ _).mono ?_
            clear c0 cp0 c1 cp1 c2 cp2 c3 cp3 c4 cp4 c5 cp5 c6 cp6 d0 dp0 d1 dp1 d2 dp2 d3 dp3 d4 dp4 d5 dp5 d6 dp6
            rintro e w3 ⟨rfl, hb⟩
            replace gC := block_later hb gC
            replace gD := block_later hb gD
            replace hB := below_tr hB hb
            clear hb
            obtain ⟨c0, c1, c2, c3, c4, c5, c6⟩ := cells7 gC
            have cp0 := fun o => cell_alloc (o := o) c0
            have cp1 := fun o => cell_alloc (o := o) c1
            have cp2 := fun o => cell_alloc (o := o) c2
            have cp3 := fun o => cell_alloc (o := o) c3
            have cp4 := fun o => cell_alloc (o := o) c4
            have cp5 := fun o => cell_alloc (o := o) c5
            have cp6 := fun o => cell_alloc (o := o) c6
            obtain ⟨d0, d1, d2, d3, d4, d5, d6⟩ := cells7 gD
            have dp0 := fun o => cell_alloc (o := o) d0
            have dp1 := fun o => cell_alloc (o := o) d1
            have dp2 := fun o => cell_alloc (o := o) d2
            have dp3 := fun o => cell_alloc (o := o) d3
            have dp4 := fun o => cell_alloc (o := o) d4
            have dp5 := fun o => cell_alloc (o := o) d5
            have dp6 := fun o => cell_alloc (o := o) d6
            go_wp2_with fail
            refine (cV _).mono ?_
            clear c0 cp0 c1 cp1 c2 cp2 c3 cp3 c4 cp4 c5 cp5 c6 cp6 d0 dp0 d1 dp1 d2 dp2 d3 dp3 d4 dp4 d5 dp5 d6 dp6
            rintro e w4 ⟨rfl, hb⟩
            replace gC := block_later hb gC
            replace gD := block_later hb gD
            replace hB := below_tr hB hb
            clear hb
            obtain ⟨c0, c1, c2, c3, c4, c5, c6⟩ := cells7 gC
            have cp0 := fun o => cell_alloc (o := o) c0
            have cp1 := fun o => cell_alloc (o := o) c1
            have cp2 := fun o => cell_alloc (o := o) c2
            have cp3 := fun o => cell_alloc (o := o) c3
            have cp4 := fun o => cell_alloc (o := o) c4
            have cp5 := fun o => cell_alloc (o := o) c5
            have cp6 := fun o => cell_alloc (o := o) c6
            obtain ⟨d0, d1, d2, d3, d4, d5, d6⟩ := cells7 gD
            have dp0 := fun o => cell_alloc (o := o) d0
            have dp1 := fun o => cell_alloc (o := o) d1
            have dp2 := fun o => cell_alloc (o := o) d2
            have dp3 := fun o => cell_alloc (o := o) d3
            have dp4 := fun o => cell_alloc (o := o) d4
            have dp5 := fun o => cell_alloc (o := o) d5
            have dp6 := fun o => cell_alloc (o := o) d6
            go_wp2_with fail
            refine (cS _).mono ?_
            clear c0 cp0 c1 cp1 c2 cp2 c3 cp3 c4 cp4 c5 cp5 c6 cp6 d0 dp0 d1 dp1 d2 dp2 d3 dp3 d4 dp4 d5 dp5 d6 dp6
            rintro e w5 ⟨rfl, hb⟩
            replace gC := block_later hb gC
            replace gD := block_later hb gD
            replace hB := below_tr hB hb
            clear hb
            obtain ⟨c0, c1, c2, c3, c4, c5, c6⟩ := cells7 gC
            have cp0 := fun o => cell_alloc (o := o) c0
            have cp1 := fun o => cell_alloc (o := o) c1
            have cp2 := fun o => cell_alloc (o := o) c2
            have cp3 := fun o => cell_alloc (o := o) c3
            have cp4 := fun o => cell_alloc (o := o) c4
            have cp5 := fun o => cell_alloc (o := o) c5
            have cp6 := fun o => cell_alloc (o := o) c6
            obtain ⟨d0, d1, d2, d3, d4, d5, d6⟩ := cells7 gD
            have dp0 := fun o => cell_alloc (o := o) d0
            have dp1 := fun o => cell_alloc (o := o) d1
            have dp2 := fun o => cell_alloc (o := o) d2
            have dp3 := fun o => cell_alloc (o := o) d3
            have dp4 := fun o => cell_alloc (o := o) d4
            have dp5 := fun o => cell_alloc (o := o) d5
            have dp6 := fun o => cell_alloc (o := o) d6
            go_wp2_with fail
            refine (cT _).mono ?_
            clear c0 cp0 c1 cp1 c2 cp2 c3 cp3 c4 cp4 c5 cp5 c6 cp6 d0 dp0 d1 dp1 d2 dp2 d3 dp3 d4 dp4 d5 dp5 d6 dp6
            rintro e w6 ⟨rfl, hb⟩
            replace gC := block_later hb gC
            replace gD := block_later hb gD
            replace hB := below_tr hB hb
            clear hb
            obtain ⟨c0, c1, c2, c3, c4, c5, c6⟩ := cells7 gC
            have cp0 := fun o => cell_alloc (o := o) c0
            have cp1 := fun o => cell_alloc (o := o) c1
            have cp2 := fun o => cell_alloc (o := o) c2
            have cp3 := fun o => cell_alloc (o := o) c3
            have cp4 := fun o => cell_alloc (o := o) c4
            have cp5 := fun o => cell_alloc (o := o) c5
            have cp6 := fun o => cell_alloc (o := o) c6
            obtain ⟨d0, d1, d2, d3, d4, d5, d6⟩ := cells7 gD
            have dp0 := fun o => cell_alloc (o := o) d0
            have dp1 := fun o => cell_alloc (o := o) d1
            have dp2 := fun o => cell_alloc (o := o) d2
            have dp3 := fun o => cell_alloc (o := o) d3
            have dp4 := fun o => cell_alloc (o := o) d4
            have dp5 := fun o => cell_alloc (o := o) d5
            have dp6 := fun o => cell_alloc (o := o) d6
            go_wp2_with fail
            refine (cU _).mono ?_
            clear c0 cp0 c1 cp1 c2 cp2 c3 cp3 c4 cp4 c5 cp5 c6 cp6 d0 dp0 d1 dp1 d2 dp2 d3 dp3 d4 dp4 d5 dp5 d6 dp6
            rintro e w7 ⟨rfl, hb⟩
            replace gC := block_later hb gC
            replace gD := block_later hb gD
            replace hB := below_tr hB hb
            clear hb
            obtain ⟨c0, c1, c2, c3, c4, c5, c6⟩ := cells7 gC
            have cp0 := fun o => cell_alloc (o := o) c0
            have cp1 := fun o => cell_alloc (o := o) c1
            have cp2 := fun o => cell_alloc (o := o) c2
            have cp3 := fun o => cell_alloc (o := o) c3
            have cp4 := fun o => cell_alloc (o := o) c4
            have cp5 := fun o => cell_alloc (o := o) c5
            have cp6 := fun o => cell_alloc (o := o) c6
            obtain ⟨d0, d1, d2, d3, d4, d5, d6⟩ := cells7 gD
            have dp0 := fun o => cell_alloc (o := o) d0
            have dp1 := fun o => cell_alloc (o := o) d1
            have dp2 := fun o => cell_alloc (o := o) d2
            have dp3 := fun o => cell_alloc (o := o) d3
            have dp4 := fun o => cell_alloc (o := o) d4
            have dp5 := fun o => cell_alloc (o := o) d5
            have dp6 := fun o => cell_alloc (o := o) d6
            go_wp2_with fail
            refine (cW _).mono ?_
            clear c0 cp0 c1 cp1 c2 cp2 c3 cp3 c4 cp4 c5 cp5 c6 cp6 d0 dp0 d1 dp1 d2 dp2 d3 dp3 d4 dp4 d5 dp5 d6 dp6
            rintro e w8 ⟨rfl, hb⟩
            replace gC := block_later hb gC
            replace gD := block_later hb gD
            replace hB := below_tr hB hb
            clear hb
            obtain ⟨c0, c1, c2, c3, c4, c5, c6⟩ := cells7 gC
            have cp0 := fun o => cell_alloc (o := o) c0
            have cp1 := fun o => cell_alloc (o := o) c1
            have cp2 := fun o => cell_alloc (o := o) c2
            have cp3 := fun o => cell_alloc (o := o) c3
            have cp4 := fun o => cell_alloc (o := o) c4
            have cp5 := fun o => cell_alloc (o := o) c5
            have cp6 := fun o => cell_alloc (o := o) c6
            obtain ⟨d0, d1, d2, d3, d4, d5, d6⟩ := cells7 gD
            have dp0 := fun o => cell_alloc (o := o) d0
            have dp1 := fun o => cell_alloc (o := o) d1
            have dp2 := fun o => cell_alloc (o := o) d2
            have dp3 := fun o => cell_alloc (o := o) d3
            have dp4 := fun o => cell_alloc (o := o) d4
            have dp5 := fun o => cell_alloc (o := o) d5
            have dp6 := fun o => cell_alloc (o := o) d6
            go_wp2
            go_ret
            first
              | exact ⟨rfl, hB⟩
              | exact ⟨rfl, hB.alloc hB.size _⟩
      · have d3 : decide ((q : Int) ≤ (p : Int) - ((a' : Int) - (a : Int))) = false := decide_eq_false (by omega)
        have hv : covB k a b r g s m k' a' b' r' g' s' m' = false := by
          cases q' : covB k a b r g s m k' a' b' r' g' s' m'
          · rfl
          · rw [q'] at hcv; have := (hcv.mp rfl).2.2; omega
        rw [hv] at cV
        rw [hsn hv] at cU
        clear hcv hsc hsn hv h1 h2 cW u1 u2
        go_enter Tryd.func8, Tryd.ntmps8
        go_wp2_with fail
        generalize (w.alloc (.cells #[.int .i64 k, .int .u64 (a : Nat), .int .i64 b, .int .i64 r, .int .i64 g, .int .i64 s, .int .u64 (m : Nat)] 24)).alloc (.cells #[.int .i64 k', .int .u64 (a' : Nat), .int .i64 b', .int .i64 r', .int .i64 g', .int .i64 s', .int .u64 (m' : Nat)] 24) = W at *
        obtain ⟨c0, c1, c2, c3, c4, c5, c6⟩ := cells7 gC
        have cp0 := fun o => cell_alloc (o := o) c0
        have cp1 := fun o => cell_alloc (o := o) c1
        have cp2 := fun o => cell_alloc (o := o) c2
        have cp3 := fun o => cell_alloc (o := o) c3
        have cp4 := fun o => cell_alloc (o := o) c4
        have cp5 := fun o => cell_alloc (o := o) c5
        have cp6 := fun o => cell_alloc (o := o) c6
        obtain ⟨d0, d1, d2, d3, d4, d5, d6⟩ := cells7 gD
        have dp0 := fun o => cell_alloc (o := o) d0
        have dp1 := fun o => cell_alloc (o := o) d1
        have dp2 := fun o => cell_alloc (o := o) d2
        have dp3 := fun o => cell_alloc (o := o) d3
        have dp4 := fun o => cell_alloc (o := o) d4
        have dp5 := fun o => cell_alloc (o := o) d5
        have dp6 := fun o => cell_alloc (o := o) d6
        refine (cA _ (hP.later hB)).mono ?_
        clear c0 cp0 c1 cp1 c2 cp2 c3 cp3 c4 cp4 c5 cp5 c6 cp6 d0 dp0 d1 dp1 d2 dp2 d3 dp3 d4 dp4 d5 dp5 d6 dp6
        rintro e w1 ⟨rfl, hb⟩
        replace gC := block_later hb gC
        replace gD := block_later hb gD
        replace hB := below_tr hB hb
        clear hb
        obtain ⟨c0, c1, c2, c3, c4, c5, c6⟩ := cells7 gC
        have cp0 := fun o => cell_alloc (o := o) c0
        have cp1 := fun o => cell_alloc (o := o) c1
        have cp2 := fun o => cell_alloc (o := o) c2
        have cp3 := fun o => cell_alloc (o := o) c3
        have cp4 := fun o => cell_alloc (o := o) c4
        have cp5 := fun o => cell_alloc (o := o) c5
        have cp6 := fun o => cell_alloc (o := o) c6
        obtain ⟨d0, d1, d2, d3, d4, d5, d6⟩ := cells7 gD
        have dp0 := fun o => cell_alloc (o := o) d0
        have dp1 := fun o => cell_alloc (o := o) d1
        have dp2 := fun o => cell_alloc (o := o) d2
        have dp3 := fun o => cell_alloc (o := o) d3
        have dp4 := fun o => cell_alloc (o := o) d4
        have dp5 := fun o => cell_alloc (o := o) d5
        have dp6 := fun o => cell_alloc (o := o) d6
        go_wp2_with fail
        refine (cI _).mono ?_
        clear c0 cp0 c1 cp1 c2 cp2 c3 cp3 c4 cp4 c5 cp5 c6 cp6 d0 dp0 d1 dp1 d2 dp2 d3 dp3 d4 dp4 d5 dp5 d6 dp6
        rintro e w2 ⟨rfl, hb⟩
        replace gC := block_later hb gC
        replace gD := block_later hb gD
        replace hB := below_tr hB hb
        clear hb
        obtain ⟨c0, c1, c2, c3, c4, c5, c6⟩ := cells7 gC
        have cp0 := fun o => cell_alloc (o := o) c0
        have cp1 := fun o => cell_alloc (o := o) c1
        have cp2 := fun o => cell_alloc (o := o) c2
        have cp3 := fun o => cell_alloc (o := o) c3
        have cp4 := fun o => cell_alloc (o := o) c4
        have cp5 := fun o => cell_alloc (o := o) c5
        have cp6 := fun o => cell_alloc (o := o) c6
        obtain ⟨d0, d1, d2, d3, d4, d5, d6⟩ := cells7 gD
        have dp0 := fun o => cell_alloc (o := o) d0
        have dp1 := fun o => cell_alloc (o := o) d1
        have dp2 := fun o => cell_alloc (o := o) d2
        have dp3 := fun o => cell_alloc (o := o) d3
        have dp4 := fun o => cell_alloc (o := o) d4
        have dp5 := fun o => cell_alloc (o := o) d5
        have dp6 := fun o => cell_alloc (o := o) d6
        go_wp2_with fail
        refine (cJ _).mono ?_
        clear c0 cp0 c1 cp1 c2 cp2 c3 cp3 c4 cp4 c5 cp5 c6 cp6 d0 dp0 d1 dp1 d2 dp2 d3 dp3 d4 dp4 d5 dp5 d6 dp6
        rintro e w3 ⟨rfl, hb⟩
        replace gC := block_later hb gC
        replace gD := block_later hb gD
        replace hB := below_tr hB hb
        clear hb
        obtain ⟨c0, c1, c2, c3, c4, c5, c6⟩ := cells7 gC
        have cp0 := fun o => cell_alloc (o := o) c0
        have cp1 := fun o => cell_alloc (o := o) c1
        have cp2 := fun o => cell_alloc (o := o) c2
        have cp3 := fun o => cell_alloc (o := o) c3
        have cp4 := fun o => cell_alloc (o := o) c4
        have cp5 := fun o => cell_alloc (o := o) c5
        have cp6 := fun o => cell_alloc (o := o) c6
        obtain ⟨d0, d1, d2, d3, d4, d5, d6⟩ := cells7 gD
        have dp0 := fun o => cell_alloc (o := o) d0
        have dp1 := fun o => cell_alloc (o := o) d1
        have dp2 := fun o => cell_alloc (o := o) d2
        have dp3 := fun o => cell_alloc (o := o) d3
        have dp4 := fun o => cell_alloc (o := o) d4
        have dp5 := fun o => cell_alloc (o := o) d5
        have dp6 := fun o => cell_alloc (o := o) d6
        go_wp2_with fail
        refine (cV _).mono ?_
        clear c0 cp0 c1 cp1 c2 cp2 c3 cp3 c4 cp4 c5 cp5 c6 cp6 d0 dp0 d1 dp1 d2 dp2 d3 dp3 d4 dp4 d5 dp5 d6 dp6
        rintro e w4 ⟨rfl, hb⟩
        replace gC := block_later hb gC
        replace gD := block_later hb gD
        replace hB := below_tr hB hb
        clear hb
        obtain ⟨c0, c1, c2, c3, c4, c5, c6⟩ := cells7 gC
        have cp0 := fun o => cell_alloc (o := o) c0
        have cp1 := fun o => cell_alloc (o := o) c1
        have cp2 := fun o => cell_alloc (o := o) c2
        have cp3 := fun o => cell_alloc (o := o) c3
        have cp4 := fun o => cell_alloc (o := o) c4
        have cp5 := fun o => cell_alloc (o := o) c5
        have cp6 := fun o => cell_alloc (o := o) c6
        obtain ⟨d0, d1, d2, d3, d4, d5, d6⟩ := cells7 gD
        have dp0 := fun o => cell_alloc (o := o) d0
        have dp1 := fun o => cell_alloc (o := o) d1
        have dp2 := fun o => cell_alloc (o := o) d2
        have dp3 := fun o => cell_alloc (o := o) d3
        have dp4 := fun o => cell_alloc (o := o) d4
        have dp5 := fun o => cell_alloc (o := o) d5
        have dp6 := fun o => cell_alloc (o := o) d6
        go_wp2_with fail
        refine (cS _).mono ?_
        clear c0 cp0 c1 cp1 c2 cp2 c3 cp3 c4 cp4 c5 cp5 c6 cp6 d0 dp0 d1 dp1 d2 dp2 d3 dp3 d4 dp4 d5 dp5 d6 dp6
        rintro e w5 ⟨rfl, hb⟩
        replace gC := block_later hb gC
        replace gD := block_later hb gD
        replace hB := below_tr hB hb
        clear hb
        obtain ⟨c0, c1, c2, c3, c4, c5, c6⟩ := cells7 gC
        have cp0 := fun o => cell_alloc (o := o) c0
        have cp1 := fun o => cell_alloc (o := o) c1
        have cp2 := fun o => cell_alloc (o := o) c2
        have cp3 := fun o => cell_alloc (o := o) c3
        have cp4 := fun o => cell_alloc (o := o) c4
        have cp5 := fun o => cell_alloc (o := o) c5
        have cp6 := fun o => cell_alloc (o := o) c6
        obtain ⟨d0, d1, d2, d3, d4, d5, d6⟩ := cells7 gD
        have dp0 := fun o => cell_alloc (o := o) d0
        have dp1 := fun o => cell_alloc (o := o) d1
        have dp2 := fun o => cell_alloc (o := o) d2
        have dp3 := fun o => cell_alloc (o := o) d3
        have dp4 := fun o => cell_alloc (o := o) d4
        have dp5 := fun o => cell_alloc (o := o) d5
        have dp6 := fun o => cell_alloc (o := o) d6
        go_wp2_with fail
        refine (cT _).mono ?_
        clear c0 cp0 c1 cp1 c2 cp2 c3 cp3 c4 cp4 c5 cp5 c6 cp6 d0 dp0 d1 dp1 d2 dp2 d3 dp3 d4 dp4 d5 dp5 d6 dp6
        rintro e w6 ⟨rfl, hb⟩
        replace gC := block_later hb gC
        replace gD := block_later hb gD
        replace hB := below_tr hB hb
        clear hb
        obtain ⟨c0, c1, c2, c3, c4, c5, c6⟩ := cells7 gC
        have cp0 := fun o => cell_alloc (o := o) c0
        have cp1 := fun o => cell_alloc (o := o) c1
        have cp2 := fun o => cell_alloc (o := o) c2
        have cp3 := fun o => cell_alloc (o := o) c3
        have cp4 := fun o => cell_alloc (o := o) c4
        have cp5 := fun o => cell_alloc (o := o) c5
        have cp6 := fun o => cell_alloc (o := o) c6
        obtain ⟨d0, d1, d2, d3, d4, d5, d6⟩ := cells7 gD
        have dp0 := fun o => cell_alloc (o := o) d0
        have dp1 := fun o => cell_alloc (o := o) d1
        have dp2 := fun o => cell_alloc (o := o) d2
        have dp3 := fun o => cell_alloc (o := o) d3
        have dp4 := fun o => cell_alloc (o := o) d4
        have dp5 := fun o => cell_alloc (o := o) d5
        have dp6 := fun o => cell_alloc (o := o) d6
        go_wp2_with fail
        refine (cU _).mono ?_
        clear c0 cp0 c1 cp1 c2 cp2 c3 cp3 c4 cp4 c5 cp5 c6 cp6 d0 dp0 d1 dp1 d2 dp2 d3 dp3 d4 dp4 d5 dp5 d6 dp6
        rintro e w7 ⟨rfl, hb⟩
        replace gC := block_later hb gC
        replace gD := block_later hb gD
        replace hB := below_tr hB hb
        clear hb
        obtain ⟨c0, c1, c2, c3, c4, c5, c6⟩ := cells7 gC
        have cp0 := fun o => cell_alloc (o := o) c0
        have cp1 := fun o => cell_alloc (o := o) c1
        have cp2 := fun o => cell_alloc (o := o) c2
        have cp3 := fun o => cell_alloc (o := o) c3
        have cp4 := fun o => cell_alloc (o := o) c4
        have cp5 := fun o => cell_alloc (o := o) c5
        have cp6 := fun o => cell_alloc (o := o) c6
        obtain ⟨d0, d1, d2, d3, d4, d5, d6⟩ := cells7 gD
        have dp0 := fun o => cell_alloc (o := o) d0
        have dp1 := fun o => cell_alloc (o := o) d1
        have dp2 := fun o => cell_alloc (o := o) d2
        have dp3 := fun o => cell_alloc (o := o) d3
        have dp4 := fun o => cell_alloc (o := o) d4
        have dp5 := fun o => cell_alloc (o := o) d5
        have dp6 := fun o => cell_alloc (o := o) d6
        go_wp2
        go_ret
        first
          | exact ⟨rfl, hB⟩
          | exact ⟨rfl, hB.alloc hB.size _⟩
    · have d2 : decide ((a' : Int) - (a : Int) ≤ (p : Int)) = false := decide_eq_false (by omega)
      have hv : covB k a b r g s m k' a' b' r' g' s' m' = false := by
        cases q' : covB k a b r g s m k' a' b' r' g' s' m'
        · rfl
        · rw [q'] at hcv; have := (hcv.mp rfl).2.2; omega
      rw [hv] at cV
      rw [hsn hv] at cU
      clear hcv hsc hsn hv h1 h2 cW u1 u2
      go_enter Tryd.func8, Tryd.ntmps8
      go_wp2_with fail
      generalize (w.alloc (.cells #[.int .i64 k, .int .u64 (a : Nat), .int .i64 b, .int .i64 r, .int .i64 g, .int .i64 s, .int .u64 (m : Nat)] 24)).alloc (.cells #[.int .i64 k', .int .u64 (a' : Nat), .int .i64 b', .int .i64 r', .int .i64 g', .int .i64 s', .int .u64 (m' : Nat)] 24) = W at *
      obtain ⟨c0, c1, c2, c3, c4, c5, c6⟩ := cells7 gC
      have cp0 := fun o => cell_alloc (o := o) c0
      have cp1 := fun o => cell_alloc (o := o) c1
      have cp2 := fun o => cell_alloc (o := o) c2
      have cp3 := fun o => cell_alloc (o := o) c3
      have cp4 := fun o => cell_alloc (o := o) c4
      have cp5 := fun o => cell_alloc (o := o) c5
      have cp6 := fun o => cell_alloc (o := o) c6
      obtain ⟨d0, d1, d2, d3, d4, d5, d6⟩ := cells7 gD
      have dp0 := fun o => cell_alloc (o := o) d0
      have dp1 := fun o => cell_alloc (o := o) d1
      have dp2 := fun o => cell_alloc (o := o) d2
      have dp3 := fun o => cell_alloc (o := o) d3
      have dp4 := fun o => cell_alloc (o := o) d4
      have dp5 := fun o => cell_alloc (o := o) d5
      have dp6 := fun o => cell_alloc (o := o) d6
      refine (cA _ (hP.later hB)).mono ?_
      clear c0 cp0 c1 cp1 c2 cp2 c3 cp3 c4 cp4 c5 cp5 c6 cp6 d0 dp0 d1 dp1 d2 dp2 d3 dp3 d4 dp4 d5 dp5 d6 dp6
      rintro e w1 ⟨rfl, hb⟩
      replace gC := block_later hb gC
      replace gD := block_later hb gD
      replace hB := below_tr hB hb
      clear hb
      obtain ⟨c0, c1, c2, c3, c4, c5, c6⟩ := cells7 gC
      have cp0 := fun o => cell_alloc (o := o) c0
      have cp1 := fun o => cell_alloc (o := o) c1
      have cp2 := fun o => cell_alloc (o := o) c2
      have cp3 := fun o => cell_alloc (o := o) c3
      have cp4 := fun o => cell_alloc (o := o) c4
      have cp5 := fun o => cell_alloc (o := o) c5
      have cp6 := fun o => cell_alloc (o := o) c6
      obtain ⟨d0, d1, d2, d3, d4, d5, d6⟩ := cells7 gD
      have dp0 := fun o => cell_alloc (o := o) d0
      have dp1 := fun o => cell_alloc (o := o) d1
      have dp2 := fun o => cell_alloc (o := o) d2
      have dp3 := fun o => cell_alloc (o := o) d3
      have dp4 := fun o => cell_alloc (o := o) d4
      have dp5 := fun o => cell_alloc (o := o) d5
      have dp6 := fun o => cell_alloc (o := o) d6
      go_wp2_with fail
      refine (cI _).mono ?_
      clear c0 cp0 c1 cp1 c2 cp2 c3 cp3 c4 cp4 c5 cp5 c6 cp6 d0 dp0 d1 dp1 d2 dp2 d3 dp3 d4 dp4 d5 dp5 d6 dp6
      rintro e w2 ⟨rfl, hb⟩
      replace gC := block_later hb gC
      replace gD := block_later hb gD
      replace hB := below_tr hB hb
      clear hb
      obtain ⟨c0, c1, c2, c3, c4, c5, c6⟩ := cells7 gC
      have cp0 := fun o => cell_alloc (o := o) c0
      have cp1 := fun o => cell_alloc (o := o) c1
      have cp2 := fun o => cell_alloc (o := o) c2
      have cp3 := fun o => cell_alloc (o := o) c3
      have cp4 := fun o => cell_alloc (o := o) c4
      have cp5 := fun o => cell_alloc (o := o) c5
      have cp6 := fun o => cell_alloc (o := o) c6
      obtain ⟨d0, d1, d2, d3, d4, d5, d6⟩ := cells7 gD
      have dp0 := fun o => cell_alloc (o := o) d0
      have dp1 := fun o => cell_alloc (o := o) d1
      have dp2 := fun o => cell_alloc (o := o) d2
      have dp3 := fun o => cell_alloc (o := o) d3
      have dp4 := fun o => cell_alloc (o := o) d4
      have dp5 := fun o => cell_alloc (o := o) d5
      have dp6 := fun o => cell_alloc (o := o) d6
      go_wp2_with fail
      refine (cJ _).mono ?_
      clear c0 cp0 c1 cp1 c2 cp2 c3 cp3 c4 cp4 c5 cp5 c6 cp6 d0 dp0 d1 dp1 d2 dp2 d3 dp3 d4 dp4 d5 dp5 d6 dp6
      rintro e w3 ⟨rfl, hb⟩
      replace gC := block_later hb gC
      replace gD := block_later hb gD
      replace hB := below_tr hB hb
      clear hb
      obtain ⟨c0, c1, c2, c3, c4, c5, c6⟩ := cells7 gC
      have cp0 := fun o => cell_alloc (o := o) c0
      have cp1 := fun o => cell_alloc (o := o) c1
      have cp2 := fun o => cell_alloc (o := o) c2
      have cp3 := fun o => cell_alloc (o := o) c3
      have cp4 := fun o => cell_alloc (o := o) c4
      have cp5 := fun o => cell_alloc (o := o) c5
      have cp6 := fun o => cell_alloc (o := o) c6
      obtain ⟨d0, d1, d2, d3, d4, d5, d6⟩ := cells7 gD
      have dp0 := fun o => cell_alloc (o := o) d0
      have dp1 := fun o => cell_alloc (o := o) d1
      have dp2 := fun o => cell_alloc (o := o) d2
      have dp3 := fun o => cell_alloc (o := o) d3
      have dp4 := fun o => cell_alloc (o := o) d4
      have dp5 := fun o => cell_alloc (o := o) d5
      have dp6 := fun o => cell_alloc (o := o) d6
      go_wp2_with fail
      refine (cV _).mono ?_
      clear c0 cp0 c1 cp1 c2 cp2 c3 cp3 c4 cp4 c5 cp5 c6 cp6 d0 dp0 d1 dp1 d2 dp2 d3 dp3 d4 dp4 d5 dp5 d6 dp6
      rintro e w4 ⟨rfl, hb⟩
      replace gC := block_later hb gC
      replace gD := block_later hb gD
      replace hB := below_tr hB hb
      clear hb
      obtain ⟨c0, c1, c2, c3, c4, c5, c6⟩ := cells7 gC
      have cp0 := fun o => cell_alloc (o := o) c0
      have cp1 := fun o => cell_alloc (o := o) c1
      have cp2 := fun o => cell_alloc (o := o) c2
      have cp3 := fun o => cell_alloc (o := o) c3
      have cp4 := fun o => cell_alloc (o := o) c4
      have cp5 := fun o => cell_alloc (o := o) c5
      have cp6 := fun o => cell_alloc (o := o) c6
      obtain ⟨d0, d1, d2, d3, d4, d5, d6⟩ := cells7 gD
      have dp0 := fun o => cell_alloc (o := o) d0
      have dp1 := fun o => cell_alloc (o := o) d1
      have dp2 := fun o => cell_alloc (o := o) d2
      have dp3 := fun o => cell_alloc (o := o) d3
      have dp4 := fun o => cell_alloc (o := o) d4
      have dp5 := fun o => cell_alloc (o := o) d5
      have dp6 := fun o => cell_alloc (o := o) d6
      go_wp2_with fail
      refine (cS _).mono ?_
      clear c0 cp0 c1 cp1 c2 cp2 c3 cp3 c4 cp4 c5 cp5 c6 cp6 d0 dp0 d1 dp1 d2 dp2 d3 dp3 d4 dp4 d5 dp5 d6 dp6
      rintro e w5 ⟨rfl, hb⟩
      replace gC := block_later hb gC
      replace gD := block_later hb gD
      replace hB := below_tr hB hb
      clear hb
      obtain ⟨c0, c1, c2, c3, c4, c5, c6⟩ := cells7 gC
      have cp0 := fun o => cell_alloc (o := o) c0
      have cp1 := fun o => cell_alloc (o := o) c1
      have cp2 := fun o => cell_alloc (o := o) c2
      have cp3 := fun o => cell_alloc (o := o) c3
      have cp4 := fun o => cell_alloc (o := o) c4
      have cp5 := fun o => cell_alloc (o := o) c5
      have cp6 := fun o => cell_alloc (o := o) c6
      obtain ⟨d0, d1, d2, d3, d4, d5, d6⟩ := cells7 gD
      have dp0 := fun o => cell_alloc (o := o) d0
      have dp1 := fun o => cell_alloc (o := o) d1
      have dp2 := fun o => cell_alloc (o := o) d2
      have dp3 := fun o => cell_alloc (o := o) d3
      have dp4 := fun o => cell_alloc (o := o) d4
      have dp5 := fun o => cell_alloc (o := o) d5
      have dp6 := fun o => cell_alloc (o := o) d6
      go_wp2_with fail
      refine (cT _).mono ?_
      clear c0 cp0 c1 cp1 c2 cp2 c3 cp3 c4 cp4 c5 cp5 c6 cp6 d0 dp0 d1 dp1 d2 dp2 d3 dp3 d4 dp4 d5 dp5 d6 dp6
      rintro e w6 ⟨rfl, hb⟩
      replace gC := block_later hb gC
      replace gD := block_later hb gD
      replace hB := below_tr hB hb
      clear hb
      obtain ⟨c0, c1, c2, c3, c4, c5, c6⟩ := cells7 gC
      have cp0 := fun o => cell_alloc (o := o) c0
      have cp1 := fun o => cell_alloc (o := o) c1
      have cp2 := fun o => cell_alloc (o := o) c2
      have cp3 := fun o => cell_alloc (o := o) c3
      have cp4 := fun o => cell_alloc (o := o) c4
      have cp5 := fun o => cell_alloc (o := o) c5
      have cp6 := fun o => cell_alloc (o := o) c6
      obtain ⟨d0, d1, d2, d3, d4, d5, d6⟩ := cells7 gD
      have dp0 := fun o => cell_alloc (o := o) d0
      have dp1 := fun o => cell_alloc (o := o) d1
      have dp2 := fun o => cell_alloc (o := o) d2
      have dp3 := fun o => cell_alloc (o := o) d3
      have dp4 := fun o => cell_alloc (o := o) d4
      have dp5 := fun o => cell_alloc (o := o) d5
      have dp6 := fun o => cell_alloc (o := o) d6
      go_wp2_with fail
      refine (cU _).mono ?_
      clear c0 cp0 c1 cp1 c2 cp2 c3 cp3 c4 cp4 c5 cp5 c6 cp6 d0 dp0 d1 dp1 d2 dp2 d3 dp3 d4 dp4 d5 dp5 d6 dp6
      rintro e w7 ⟨rfl, hb⟩
      replace gC := block_later hb gC
      replace gD := block_later hb gD
      replace hB := below_tr hB hb
      clear hb
      obtain ⟨c0, c1, c2, c3, c4, c5, c6⟩ := cells7 gC
      have cp0 := fun o => cell_alloc (o := o) c0
      have cp1 := fun o => cell_alloc (o := o) c1
      have cp2 := fun o => cell_alloc (o := o) c2
      have cp3 := fun o => cell_alloc (o := o) c3
      have cp4 := fun o => cell_alloc (o := o) c4
      have cp5 := fun o => cell_alloc (o := o) c5
      have cp6 := fun o => cell_alloc (o := o) c6
      obtain ⟨d0, d1, d2, d3, d4, d5, d6⟩ := cells7 gD
      have dp0 := fun o => cell_alloc (o := o) d0
      have dp1 := fun o => cell_alloc (o := o) d1
      have dp2 := fun o => cell_alloc (o := o) d2
      have dp3 := fun o => cell_alloc (o := o) d3
      have dp4 := fun o => cell_alloc (o := o) d4
      have dp5 := fun o => cell_alloc (o := o) d5
      have dp6 := fun o => cell_alloc (o := o) d6
      go_wp2
      go_ret
      first
        | exact ⟨rfl, hB⟩
        | exact ⟨rfl, hB.alloc hB.size _⟩
  · have d1 : decide ((a : Int) ≤ (a' : Int)) = false := decide_eq_false (by omega)
    have hv : covB k a b r g s m k' a' b' r' g' s' m' = false := by
      cases q' : covB k a b r g s m k' a' b' r' g' s' m'
      · rfl
      · rw [q'] at hcv; exact absurd (hcv.mp rfl).2.2.1 t1
    rw [hv] at cV
    rw [hsn hv] at cU
    clear hcv hsc hsn hv h1 h2 cW u1 u2 hw
    go_enter Tryd.func8, Tryd.ntmps8
    go_wp2_with fail
    generalize (w.alloc (.cells #[.int .i64 k, .int .u64 (a : Nat), .int .i64 b, .int .i64 r, .int .i64 g, .int .i64 s, .int .u64 (m : Nat)] 24)).alloc (.cells #[.int .i64 k', .int .u64 (a' : Nat), .int .i64 b', .int .i64 r', .int .i64 g', .int .i64 s', .int .u64 (m' : Nat)] 24) = W at *
    obtain ⟨c0, c1, c2, c3, c4, c5, c6⟩ := cells7 gC
    have cp0 := fun o => cell_alloc (o := o) c0
    have cp1 := fun o => cell_alloc (o := o) c1
    have cp2 := fun o => cell_alloc (o := o) c2
    have cp3 := fun o => cell_alloc (o := o) c3
    have cp4 := fun o => cell_alloc (o := o) c4
    have cp5 := fun o => cell_alloc (o := o) c5
    have cp6 := fun o => cell_alloc (o := o) c6
    obtain ⟨d0, d1, d2, d3, d4, d5, d6⟩ := cells7 gD
    have dp0 := fun o => cell_alloc (o := o) d0
    have dp1 := fun o => cell_alloc (o := o) d1
    have dp2 := fun o => cell_alloc (o := o) d2
    have dp3 := fun o => cell_alloc (o := o) d3
    have dp4 := fun o => cell_alloc (o := o) d4
    have dp5 := fun o => cell_alloc (o := o) d5
    have dp6 := fun o => cell_alloc (o := o) d6
    refine (cA _ (hP.later hB)).mono ?_
    clear c0 cp0 c1 cp1 c2 cp2 c3 cp3 c4 cp4 c5 cp5 c6 cp6 d0 dp0 d1 dp1 d2 dp2 d3 dp3 d4 dp4 d5 dp5 d6 dp6
    rintro e w1 ⟨rfl, hb⟩
    replace gC := block_later hb gC
    replace gD := block_later hb gD
    replace hB := below_tr hB hb
    clear hb
    obtain ⟨c0, c1, c2, c3, c4, c5, c6⟩ := cells7 gC
    have cp0 := fun o => cell_alloc (o := o) c0
    have cp1 := fun o => cell_alloc (o := o) c1
    have cp2 := fun o => cell_alloc (o := o) c2
    have cp3 := fun o => cell_alloc (o := o) c3
    have cp4 := fun o => cell_alloc (o := o) c4
    have cp5 := fun o => cell_alloc (o := o) c5
    have cp6 := fun o => cell_alloc (o := o) c6
    obtain ⟨d0, d1, d2, d3, d4, d5, d6⟩ := cells7 gD
    have dp0 := fun o => cell_alloc (o := o) d0
    have dp1 := fun o => cell_alloc (o := o) d1
    have dp2 := fun o => cell_alloc (o := o) d2
    have dp3 := fun o => cell_alloc (o := o) d3
    have dp4 := fun o => cell_alloc (o := o) d4
    have dp5 := fun o => cell_alloc (o := o) d5
    have dp6 := fun o => cell_alloc (o := o) d6
    go_wp2_with fail
    refine (cI _).mono ?_
    clear c0 cp0 c1 cp1 c2 cp2 c3 cp3 c4 cp4 c5 cp5 c6 cp6 d0 dp0 d1 dp1 d2 dp2 d3 dp3 d4 dp4 d5 dp5 d6 dp6
    rintro e w2 ⟨rfl, hb⟩
    replace gC := block_later hb gC
    replace gD := block_later hb gD
    replace hB := below_tr hB hb
    clear hb
    obtain ⟨c0, c1, c2, c3, c4, c5, c6⟩ := cells7 gC
    have cp0 := fun o => cell_alloc (o := o) c0
    have cp1 := fun o => cell_alloc (o := o) c1
    have cp2 := fun o => cell_alloc (o := o) c2
    have cp3 := fun o => cell_alloc (o := o) c3
    have cp4 := fun o => cell_alloc (o := o) c4
    have cp5 := fun o => cell_alloc (o := o) c5
    have cp6 := fun o => cell_alloc (o := o) c6
    obtain ⟨d0, d1, d2, d3, d4, d5, d6⟩ := cells7 gD
    have dp0 := fun o => cell_alloc (o := o) d0
    have dp1 := fun o => cell_alloc (o := o) d1
    have dp2 := fun o => cell_alloc (o := o) d2
    have dp3 := fun o => cell_alloc (o := o) d3
    have dp4 := fun o => cell_alloc (o := o) d4
    have dp5 := fun o => cell_alloc (o := o) d5
    have dp6 := fun o => cell_alloc (o := o) d6
    go_wp2_with fail
    refine (cJ _).mono ?_
    clear c0 cp0 c1 cp1 c2 cp2 c3 cp3 c4 cp4 c5 cp5 c6 cp6 d0 dp0 d1 dp1 d2 dp2 d3 dp3 d4 dp4 d5 dp5 d6 dp6
    rintro e w3 ⟨rfl, hb⟩
    replace gC := block_later hb gC
    replace gD := block_later hb gD
    replace hB := below_tr hB hb
    clear hb
    obtain ⟨c0, c1, c2, c3, c4, c5, c6⟩ := cells7 gC
    have cp0 := fun o => cell_alloc (o := o) c0
    have cp1 := fun o => cell_alloc (o := o) c1
    have cp2 := fun o => cell_alloc (o := o) c2
    have cp3 := fun o => cell_alloc (o := o) c3
    have cp4 := fun o => cell_alloc (o := o) c4
    have cp5 := fun o => cell_alloc (o := o) c5
    have cp6 := fun o => cell_alloc (o := o) c6
    obtain ⟨d0, d1, d2, d3, d4, d5, d6⟩ := cells7 gD
    have dp0 := fun o => cell_alloc (o := o) d0
    have dp1 := fun o => cell_alloc (o := o) d1
    have dp2 := fun o => cell_alloc (o := o) d2
    have dp3 := fun o => cell_alloc (o := o) d3
    have dp4 := fun o => cell_alloc (o := o) d4
    have dp5 := fun o => cell_alloc (o := o) d5
    have dp6 := fun o => cell_alloc (o := o) d6
    go_wp2_with fail
    refine (cV _).mono ?_
    clear c0 cp0 c1 cp1 c2 cp2 c3 cp3 c4 cp4 c5 cp5 c6 cp6 d0 dp0 d1 dp1 d2 dp2 d3 dp3 d4 dp4 d5 dp5 d6 dp6
    rintro e w4 ⟨rfl, hb⟩
    replace gC := block_later hb gC
    replace gD := block_later hb gD
    replace hB := below_tr hB hb
    clear hb
    obtain ⟨c0, c1, c2, c3, c4, c5, c6⟩ := cells7 gC
    have cp0 := fun o => cell_alloc (o := o) c0
    have cp1 := fun o => cell_alloc (o := o) c1
    have cp2 := fun o => cell_alloc (o := o) c2
    have cp3 := fun o => cell_alloc (o := o) c3
    have cp4 := fun o => cell_alloc (o := o) c4
    have cp5 := fun o => cell_alloc (o := o) c5
    have cp6 := fun o => cell_alloc (o := o) c6
    obtain ⟨d0, d1, d2, d3, d4, d5, d6⟩ := cells7 gD
    have dp0 := fun o => cell_alloc (o := o) d0
    have dp1 := fun o => cell_alloc (o := o) d1
    have dp2 := fun o => cell_alloc (o := o) d2
    have dp3 := fun o => cell_alloc (o := o) d3
    have dp4 := fun o => cell_alloc (o := o) d4
    have dp5 := fun o => cell_alloc (o := o) d5
    have dp6 := fun o => cell_alloc (o := o) d6
    go_wp2_with fail
    refine (cS _).mono ?_
    clear c0 cp0 c1 cp1 c2 cp2 c3 cp3 c4 cp4 c5 cp5 c6 cp6 d0 dp0 d1 dp1 d2 dp2 d3 dp3 d4 dp4 d5 dp5 d6 dp6
    rintro e w5 ⟨rfl, hb⟩
    replace gC := block_later hb gC
    replace gD := block_later hb gD
    replace hB := below_tr hB hb
    clear hb
    obtain ⟨c0, c1, c2, c3, c4, c5, c6⟩ := cells7 gC
    have cp0 := fun o => cell_alloc (o := o) c0
    have cp1 := fun o => cell_alloc (o := o) c1
    have cp2 := fun o => cell_alloc (o := o) c2
    have cp3 := fun o => cell_alloc (o := o) c3
    have cp4 := fun o => cell_alloc (o := o) c4
    have cp5 := fun o => cell_alloc (o := o) c5
    have cp6 := fun o => cell_alloc (o := o) c6
    obtain ⟨d0, d1, d2, d3, d4, d5, d6⟩ := cells7 gD
    have dp0 := fun o => cell_alloc (o := o) d0
    have dp1 := fun o => cell_alloc (o := o) d1
    have dp2 := fun o => cell_alloc (o := o) d2
    have dp3 := fun o => cell_alloc (o := o) d3
    have dp4 := fun o => cell_alloc (o := o) d4
    have dp5 := fun o => cell_alloc (o := o) d5
    have dp6 := fun o => cell_alloc (o := o) d6
    go_wp2_with fail
    refine (cT _).mono ?_
    clear c0 cp0 c1 cp1 c2 cp2 c3 cp3 c4 cp4 c5 cp5 c6 cp6 d0 dp0 d1 dp1 d2 dp2 d3 dp3 d4 dp4 d5 dp5 d6 dp6
    rintro e w6 ⟨rfl, hb⟩
    replace gC := block_later hb gC
    replace gD := block_later hb gD
    replace hB := below_tr hB hb
    clear hb
    obtain ⟨c0, c1, c2, c3, c4, c5, c6⟩ := cells7 gC
    have cp0 := fun o => cell_alloc (o := o) c0
    have cp1 := fun o => cell_alloc (o := o) c1
    have cp2 := fun o => cell_alloc (o := o) c2
    have cp3 := fun o => cell_alloc (o := o) c3
    have cp4 := fun o => cell_alloc (o := o) c4
    have cp5 := fun o => cell_alloc (o := o) c5
    have cp6 := fun o => cell_alloc (o := o) c6
    obtain ⟨d0, d1, d2, d3, d4, d5, d6⟩ := cells7 gD
    have dp0 := fun o => cell_alloc (o := o) d0
    have dp1 := fun o => cell_alloc (o := o) d1
    have dp2 := fun o => cell_alloc (o := o) d2
    have dp3 := fun o => cell_alloc (o := o) d3
    have dp4 := fun o => cell_alloc (o := o) d4
    have dp5 := fun o => cell_alloc (o := o) d5
    have dp6 := fun o => cell_alloc (o := o) d6
    go_wp2_with fail
    refine (cU _).mono ?_
    clear c0 cp0 c1 cp1 c2 cp2 c3 cp3 c4 cp4 c5 cp5 c6 cp6 d0 dp0 d1 dp1 d2 dp2 d3 dp3 d4 dp4 d5 dp5 d6 dp6
    rintro e w7 ⟨rfl, hb⟩
    replace gC := block_later hb gC
    replace gD := block_later hb gD
    replace hB := below_tr hB hb
    clear hb
    obtain ⟨c0, c1, c2, c3, c4, c5, c6⟩ := cells7 gC
    have cp0 := fun o => cell_alloc (o := o) c0
    have cp1 := fun o => cell_alloc (o := o) c1
    have cp2 := fun o => cell_alloc (o := o) c2
    have cp3 := fun o => cell_alloc (o := o) c3
    have cp4 := fun o => cell_alloc (o := o) c4
    have cp5 := fun o => cell_alloc (o := o) c5
    have cp6 := fun o => cell_alloc (o := o) c6
    obtain ⟨d0, d1, d2, d3, d4, d5, d6⟩ := cells7 gD
    have dp0 := fun o => cell_alloc (o := o) d0
    have dp1 := fun o => cell_alloc (o := o) d1
    have dp2 := fun o => cell_alloc (o := o) d2
    have dp3 := fun o => cell_alloc (o := o) d3
    have dp4 := fun o => cell_alloc (o := o) d4
    have dp5 := fun o => cell_alloc (o := o) d5
    have dp6 := fun o => cell_alloc (o := o) d6
    go_wp2
    go_ret
    first
      | exact ⟨rfl, hB⟩
      | exact ⟨rfl, hB.alloc hB.size _⟩

theorem met {W : World} (h : laidMet Tryd.prog Rows.capCoversRow.laid W) : Prts W := by
  have h0 := part_of_reads (g := 0) (by kernel_rfl) (by kernel_rfl) (Lib.laidMet.reads h (n := "portreeve/cap.kindPart") (d := Rows.laid_portreeve_cap_kindPart) (by simp [Rows.capCoversRow]))
  have h1 := part_of_reads (g := 1) (by kernel_rfl) (by kernel_rfl) (Lib.laidMet.reads h (n := "portreeve/cap.bitsPart") (d := Rows.laid_portreeve_cap_bitsPart) (by simp [Rows.capCoversRow]))
  have h2 := part_of_reads (g := 2) (by kernel_rfl) (by kernel_rfl) (Lib.laidMet.reads h (n := "portreeve/cap.rightsPart") (d := Rows.laid_portreeve_cap_rightsPart) (by simp [Rows.capCoversRow]))
  have h3 := part_of_reads (g := 3) (by kernel_rfl) (by kernel_rfl) (Lib.laidMet.reads h (n := "portreeve/cap.guardPart") (d := Rows.laid_portreeve_cap_guardPart) (by simp [Rows.capCoversRow]))
  have h4 := part_of_reads (g := 4) (by kernel_rfl) (by kernel_rfl) (Lib.laidMet.reads h (n := "portreeve/cap.asidPart") (d := Rows.laid_portreeve_cap_asidPart) (by simp [Rows.capCoversRow]))
  have h5 := part_of_reads (g := 5) (by kernel_rfl) (by kernel_rfl) (Lib.laidMet.reads h (n := "portreeve/cap.atPart") (d := Rows.laid_portreeve_cap_atPart) (by simp [Rows.capCoversRow]))
  exact ⟨h0.1, h0.2.1, h0.2.2, h1.1, h1.2.1, h1.2.2, h2.1, h2.2.1, h2.2.2, h3.1, h3.2.1, h3.2.2, h4.1, h4.2.1, h4.2.2, h5.1, h5.2.1, h5.2.2⟩

theorem own : ownKnob Tryd.prog.godebug = none := by kernel_rfl
theorem laidOut : laidOutB Tryd.prog = true := by kernel_rfl

set_option linter.unusedVariables false in
set_option maxRecDepth 100000 in
theorem contract (H : Type) (enc : TypeId × Value → H) (W : World) (base : Nat) (args : Array Value) (ds gs : List (DataW H)) (before : List MemPlace)
    (hval0 : ∀ (j : Nat) t v, Tryd.f8.params[j]? = some t → args[j]? = some v → Value.okWide Tryd.prog W .any base t v)
    (hW : DataW.Whole enc Tryd.prog Tryd.f8.params.toList Rows.capCoversSpec.vars false W args.toList ds gs before) (hL0 : laidMetH Tryd.prog Rows.capCoversRow.laid W) :
    Calls Tryd.prog 8 args W fun e W' => ∃ v, e = .returned v ∧ Rows.capCoversSpec.post enc Tryd.prog Tryd.f8 false true false false W args v W' := by
  have hL := hL0
  rw [MakeChecks.laidMetH_plain _ _ _ (by kernel_rfl)] at hL
  have hval := hval0
  have hW' := hW
  obtain ⟨p, q, hA0, hV, rfl, hfz, hnd⟩ := hW
  have hA : DataW.TrodAll enc Tryd.prog W 0 (fun _ => true) true Tryd.f8.params.toList args.toList ds p := hA0
  rw [Tryd.params8] at hA hval
  obtain ⟨v0, vs0, d0, ds0, p0, q0, hargs, rfl, rfl, h0, r0⟩ := trodAll_cons hA
  obtain ⟨v1, vs1, d1, ds1, p1, q1, rfl, rfl, rfl, h1, r1⟩ := trodAll_cons r0
  obtain ⟨rfl, rfl, rfl⟩ := trodAll_nil r1
  obtain rfl : args = #[v0, v1] := by cases args; simp_all
  obtain ⟨rfl, rfl⟩ := trodVars_none hV
  have k0 := h0
  have lt0 : ∀ x ∈ p0, x.block < W.heap.size := by obtain ⟨m, hm⟩ := k0; exact DataW.trod_lt m _ _ _ hm
  have k1 := h1
  have lt1 : ∀ x ∈ p1, x.block < W.heap.size := by obtain ⟨m, hm⟩ := k1; exact DataW.trod_lt m _ _ _ hm
  obtain ⟨ck0, ca0, cb0, cr0, cg0, cs0', cm0, rfl, b0, bm0⟩ := open_cap (hval 0 24 v0 rfl rfl) h0
  obtain ⟨ck1, ca1, cb1, cr1, cg1, cs1', cm1, rfl, b1, bm1⟩ := open_cap (hval 1 24 v1 rfl rfl) h1
  clear hA0 hval0
  refine (walk ck0 ca0 cb0 cr0 cg0 cs0' cm0 ck1 ca1 cb1 cr1 cg1 cs1' cm1 W b0 bm0 b1 bm1 (met hL)).mono fun e W' ⟨he, bel⟩ => ?_
  subst he
  exact ⟨_, rfl, _, _, _, [], _, [], hW', trodAll_mk1 (shut_bool Tryd.underlying4 _), (trodAll_cons_mk (Below.trod laidOut (by kernel_rfl) (of_decide_eq_true (by kernel_rfl)) k0 bel lt0) (trodAll_cons_mk (Below.trod laidOut (by kernel_rfl) (of_decide_eq_true (by kernel_rfl)) k1 bel lt1) trodAll_mk0)), rfl, bel.frame _, fun h => by cases h⟩

theorem laid_met (os : Os) : laidMet Tryd.prog Rows.capCoversRow.laid ((World.laidAll Tryd.prog os Rows.capCoversRow.laid).forCall (fun _ _ => 0) ⟨#[], #[.agg #[.int .i64 0, .int .u64 0, .int .i64 0, .int .i64 0, .int .i64 0, .int .i64 0, .int .u64 0], .agg #[.int .i64 0, .int .u64 0, .int .i64 0, .int .i64 0, .int .i64 0, .int .i64 0, .int .u64 0]], []⟩).memory :=
  laidMet_laidAll _ (by kernel_rfl) (by kernel_rfl)
theorem reads (os : Os) {H : Type} (enc : TypeId × Value → H) : ∃ places, DataW.whole enc Tryd.prog ((World.laidAll Tryd.prog os Rows.capCoversRow.laid).forCall (fun _ _ => 0) ⟨#[], #[.agg #[.int .i64 0, .int .u64 0, .int .i64 0, .int .i64 0, .int .i64 0, .int .i64 0, .int .u64 0], .agg #[.int .i64 0, .int .u64 0, .int .i64 0, .int .i64 0, .int .i64 0, .int .i64 0, .int .u64 0]], []⟩).memory Tryd.f8.params.toList Rows.capCoversSpec.vars false (#[.agg #[.int .i64 0, .int .u64 0, .int .i64 0, .int .i64 0, .int .i64 0, .int .i64 0, .int .u64 0], .agg #[.int .i64 0, .int .u64 0, .int .i64 0, .int .i64 0, .int .i64 0, .int .i64 0, .int .u64 0]] : Array Value).toList 8 = some ([.agg [.lit (.int .i64 0), .lit (.int .u64 0), .lit (.int .i64 0), .lit (.int .i64 0), .lit (.int .i64 0), .lit (.int .i64 0), .lit (.int .u64 0)], .agg [.lit (.int .i64 0), .lit (.int .u64 0), .lit (.int .i64 0), .lit (.int .i64 0), .lit (.int .i64 0), .lit (.int .i64 0), .lit (.int .u64 0)]], [], places) :=
  ⟨[], by kernel_rfl⟩

set_option maxRecDepth 100000 in
theorem lifted (os : Os) (started : os.Started) (H : Type) (enc : TypeId × Value → H) (F : Stop.Interp) :
    ReturnsInHanded {} Tryd.checked os 8 .any ((OpenSpec.ofChange Rows.capCoversSpec).preRow enc Tryd.prog Tryd.f8 Rows.capCoversRow.domain false Rows.capCoversRow.laid) (((OpenSpec.ofChange Rows.capCoversSpec).at F).post enc Tryd.prog Tryd.f8 false true false false) := by
  obtain ⟨places, hx⟩ := reads os enc
  refine returnsInHanded_of_row (C := Tryd.checked) (s := (OpenSpec.ofChange Rows.capCoversSpec)) own started (by kernel_rfl) Tryd.func8
    (witness_row_at (enc := enc) (C := Tryd.checked) false (World.laidAll Tryd.prog os Rows.capCoversRow.laid) #[.agg #[.int .i64 0, .int .u64 0, .int .i64 0, .int .i64 0, .int .i64 0, .int .i64 0, .int .u64 0], .agg #[.int .i64 0, .int .u64 0, .int .i64 0, .int .i64 0, .int .i64 0, .int .i64 0, .int .u64 0]] (World.laidAll_os _ _ _) (by kernel_rfl) (by kernel_rfl) (by kernel_rfl)
      (OpenSpec.preRow_of_cond 8 hx (by kernel_rfl) (fun k hk => by cases hk) (by kernel_rfl) (laid_met os))) ?_
  intro W base args ds gs before hval hW _ _ _ hL _ _
  exact contract H enc W base args ds gs before hval hW hL

theorem said : Rows.CapCoversSaid :=
  OpenClaim.holds_of_cond 8 Tryd.f8 rfl rfl rfl rfl rfl rfl rfl ⟨rfl, rfl, rfl, rfl, rfl⟩ rfl rfl rfl rfl rfl (by kernel_rfl) Tryd.func8 (by kernel_rfl)
    (of_decide_eq_true (by kernel_rfl)) (by unfold Func.isWrapper; first | (rw [if_pos (by decide +kernel)]; kernel_rfl) | (rw [if_neg (by decide +kernel)]; exact ⟨rfl, rfl⟩))
    (fun os started H enc _ F => by rw [OpenClaim.pre_eq_preRow]; exact lifted os started H enc F)

theorem plain (f : FuncId) (fn : Func) (hf : Tryd.pinned.checked.prog.funcNamed "portreeve/portreevelaw11.CapCovers" = some f) (hfn : Tryd.pinned.checked.prog.funcs[f]? = some fn) :
    true = Tryd.pinned.checked.prog.looks [] ∧ ∀ (j : Nat) t, fn.params[j]? = some t → Tryd.pinned.checked.prog.wantsStandIn t = false := by
  obtain rfl : f = 8 := Option.some.inj ((show Tryd.prog.funcNamed "portreeve/portreevelaw11.CapCovers" = some 8 by kernel_rfl).symm.trans hf) |>.symm
  obtain rfl : fn = Tryd.f8 := (Option.some.inj (Tryd.func8.symm.trans hfn)).symm
  refine ⟨by kernel_rfl, fun j t ht => ?_⟩
  rw [Tryd.params8] at ht
  have hm : t ∈ [24, 24] := by simpa using Array.mem_of_getElem? ht
  have hall : ([24, 24].all fun u => !Tryd.prog.wantsStandIn u) = true := by kernel_rfl
  exact (show Tryd.prog.wantsStandIn t = false by simpa using List.all_eq_true.1 hall t hm)

theorem card : Rows.CapCoversCardSaid :=
  Claim7.holds_tied_plain_at .later [] _ _ _ _ said (fun _ h => by cases h) (by kernel_rfl) (fun _ h => by cases h) capCovers_row_tie rfl ⟨rfl, rfl⟩ (by kernel_rfl) rfl plain (by kernel_rfl)

end Go.Proofs.YtkedoajkdobjdaaDoor.capCovers
