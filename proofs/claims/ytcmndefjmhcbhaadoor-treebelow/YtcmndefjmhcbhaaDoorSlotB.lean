/- Slots: the words of one; what is wrong with an address. -/
import Derived.Test.YtcmndefjmhcbhaaDoorSlotA
set_option linter.unusedVariables false
namespace Go.Proofs.YtcmndefjmhcbhaaDoor
open Go.RowKit

/-- The parts lie as the program declares them. -/
structure SPrts (w : World) : Prop where
  pp : Prts w
  n0 : w.cell? ⟨0, 0, none⟩ = some (.int .i64 0)
  n1 : w.cell? ⟨0, 1, none⟩ = some (.int .i64 27)
  p0 : w.cell? ⟨1, 0, none⟩ = some (.int .i64 32)
  p1 : w.cell? ⟨1, 1, none⟩ = some (.int .i64 27)
theorem SPrts.later {w w' : World} (h : SPrts w) (hb : Below w.heap.size w w') : SPrts w' :=
  ⟨h.pp.later hb, cell_later hb h.n0, cell_later hb h.n1, cell_later hb h.p0, cell_later hb h.p1⟩
theorem SPrts.alloc {w : World} (h : SPrts w) (o : Obj) : SPrts (w.alloc o) := h.later (below_new w o)

/-- The word of two links. -/
def lnkN (nx pv : Nat) : Nat := nx / 32 + pv / 32 * 4294967296
theorem info4w : (Tryd.prog.info? 97).map (·.size) = some 4 := by kernel_rfl
theorem lk_iff (x : Nat) : (lkB x = true) ↔ x < 4294967296 ∧ x % 32 = 0 := by
  unfold lkB
  by_cases h : x < 4294967296
  · rw [if_pos h, decide_eq_true_iff]; exact ⟨fun q => ⟨h, q⟩, fun q => q.2⟩
  · rw [if_neg h]; exact ⟨fun q => (by cases q), fun q => absurd q.1 h⟩
theorem s_iff (k : Int) (a : Nat) (b r g s : Int) (m nx pv : Nat) (d : Int) : (sB k a b r g s m nx pv d = true) ↔ cB k a b r g s m = true ∧ (nx < 4294967296 ∧ nx % 32 = 0) ∧ (pv < 4294967296 ∧ pv % 32 = 0) ∧ 0 ≤ d ∧ d ≤ 4096 := by
  rw [← lk_iff, ← lk_iff]
  unfold sB
  cases cB k a b r g s m <;> cases lkB nx <;> cases lkB pv <;> by_cases h : 0 ≤ d <;> simp [h]

set_option maxRecDepth 100000 in
set_option maxHeartbeats 4000000 in
theorem swords_bad (k : Int) (a : Nat) (b r g s : Int) (m nx pv : Nat) (d : Int) (ha : a < 18446744073709551616) (hm : m < 18446744073709551616) (hx : nx < 18446744073709551616) (hp : pv < 18446744073709551616) (h : sB k a b r g s m nx pv d = false) (w : World) :
    Calls Tryd.prog 61 #[.agg #[.int .i64 k, .int .u64 (a : Nat), .int .i64 b, .int .i64 r, .int .i64 g, .int .i64 s, .int .u64 (m : Nat), .int .u64 (nx : Nat), .int .u64 (pv : Nat), .int .i64 d]] w fun e w' => e = .returned (.tuple #[.agg #[.int .u64 0, .int .u64 0, .int .u64 0, .int .u64 0], .int .i64 10]) ∧ Below w.heap.size w w' := by
  have cR := fun w1 => sright_any k a b r g s m nx pv d ha hm hx hp w1
  rw [h] at cR
  go_enter Tryd.func61, Tryd.ntmps61
  go_wp2_with fail
  have gC := heap2_0 w (.cells #[.int .i64 k, .int .u64 (a : Nat), .int .i64 b, .int .i64 r, .int .i64 g, .int .i64 s, .int .u64 (m : Nat), .int .u64 (nx : Nat), .int .u64 (pv : Nat), .int .i64 d] 61) (.cells #[.int .u64 0, .int .u64 0, .int .u64 0, .int .u64 0] 97)
  have gR := heap_alloc_new (w.alloc (.cells #[.int .i64 k, .int .u64 (a : Nat), .int .i64 b, .int .i64 r, .int .i64 g, .int .i64 s, .int .u64 (m : Nat), .int .u64 (nx : Nat), .int .u64 (pv : Nat), .int .i64 d] 61)) (.cells #[.int .u64 0, .int .u64 0, .int .u64 0, .int .u64 0] 97)
  have hB := below2 w (.cells #[.int .i64 k, .int .u64 (a : Nat), .int .i64 b, .int .i64 r, .int .i64 g, .int .i64 s, .int .u64 (m : Nat), .int .u64 (nx : Nat), .int .u64 (pv : Nat), .int .i64 d] 61) (.cells #[.int .u64 0, .int .u64 0, .int .u64 0, .int .u64 0] 97)
  rw [World.size_alloc] at gR
  generalize (w.alloc (.cells #[.int .i64 k, .int .u64 (a : Nat), .int .i64 b, .int .i64 r, .int .i64 g, .int .i64 s, .int .u64 (m : Nat), .int .u64 (nx : Nat), .int .u64 (pv : Nat), .int .i64 d] 61)).alloc (.cells #[.int .u64 0, .int .u64 0, .int .u64 0, .int .u64 0] 97) = W0 at *
  have hRB := Nat.le_succ w.heap.size
  obtain ⟨c0, c1, c2, c3, c4, c5, c6, c7, c8, c9⟩ := cells10 gC
  have cp0 := fun o => cell_alloc (o := o) c0
  have cp1 := fun o => cell_alloc (o := o) c1
  have cp2 := fun o => cell_alloc (o := o) c2
  have cp3 := fun o => cell_alloc (o := o) c3
  have cp4 := fun o => cell_alloc (o := o) c4
  have cp5 := fun o => cell_alloc (o := o) c5
  have cp6 := fun o => cell_alloc (o := o) c6
  have cp7 := fun o => cell_alloc (o := o) c7
  have cp8 := fun o => cell_alloc (o := o) c8
  have cp9 := fun o => cell_alloc (o := o) c9
  refine (cR _).mono ?_
  clear c0 cp0 c1 cp1 c2 cp2 c3 cp3 c4 cp4 c5 cp5 c6 cp6 c7 cp7 c8 cp8 c9 cp9
  rintro e w1 ⟨rfl, hb⟩
  replace gC := block_later hb gC
  replace gR := block_later hb gR
  replace hB := below_tr hB hb
  clear hb
  obtain ⟨c0, c1, c2, c3, c4, c5, c6, c7, c8, c9⟩ := cells10 gC
  have cp0 := fun o => cell_alloc (o := o) c0
  have cp1 := fun o => cell_alloc (o := o) c1
  have cp2 := fun o => cell_alloc (o := o) c2
  have cp3 := fun o => cell_alloc (o := o) c3
  have cp4 := fun o => cell_alloc (o := o) c4
  have cp5 := fun o => cell_alloc (o := o) c5
  have cp6 := fun o => cell_alloc (o := o) c6
  have cp7 := fun o => cell_alloc (o := o) c7
  have cp8 := fun o => cell_alloc (o := o) c8
  have cp9 := fun o => cell_alloc (o := o) c9
  go_wp2_with (first
    | (refine wpList_store_segTo rfl 97 _ _ rfl rfl (w.heap.size + 1) 0 _ #[.int .u64 0, .int .u64 0, .int .u64 0, .int .u64 0] rfl rfl rfl 97 _ gR (show 0 + 4 ≤ 4 by decide) info4w (by simp [Value.oneCell']) #[.int .u64 0, .int .u64 0, .int .u64 0, .int .u64 0] rfl ?_; intro wq hrq htq)
    | fail)
  refine bodyPost_ret (res_row_tmp rfl _ wq (w.heap.size + 1) 97 #[.int .u64 0, .int .u64 0, .int .u64 0, .int .u64 0] (0, 0) _ rfl hrq Tryd.underlying97 rfl info4w) rfl ?_
  exact ⟨rfl, below_turn hB htq hRB⟩

set_option maxRecDepth 100000 in
set_option maxHeartbeats 4000000 in
theorem swords_ok {k a b r g s m nx pv d : Nat} (hR : Rt k a b r g s m) (hc : cB k a b r g s m = true) (hx : nx < 4294967296 ∧ nx % 32 = 0) (hp : pv < 4294967296 ∧ pv % 32 = 0) (hd : d ≤ 4096) (w : World) (hP : SPrts w) :
    Calls Tryd.prog 61 #[.agg #[.int .i64 (k : Nat), .int .u64 (a : Nat), .int .i64 (b : Nat), .int .i64 (r : Nat), .int .i64 (g : Nat), .int .i64 (s : Nat), .int .u64 (m : Nat), .int .u64 (nx : Nat), .int .u64 (pv : Nat), .int .i64 (d : Nat)]] w fun e w' => e = .returned (.tuple #[.agg #[.int .u64 ((wordN k a b r g s : Nat) : Int), .int .u64 (m : Nat), .int .u64 ((lnkN nx pv : Nat) : Int), .int .u64 (d : Nat)], .int .i64 0]) ∧ Below w.heap.size w w' := by
  have hs : sB k a b r g s m nx pv d = true := (s_iff _ _ _ _ _ _ _ _ _ _).2 ⟨hc, hx, hp, by omega, by omega⟩
  have cR := fun w1 => sright_any k a b r g s m nx pv d (by have := hR.qa; omega) hR.qm (by omega) (by omega) w1
  rw [hs] at cR
  have cW := fun w1 h1 => words_ok hR hc w1 h1
  have cQ1 := fun w1 => put_any 0 27 0 (nx / 32) (by decide) w1
  have cQ2 := fun w1 => put_any 32 27 (nx / 32) (pv / 32) (by omega) w1
  have e1 : putX 0 27 0 (nx / 32) = nx / 32 := by
    have := put_on (l := 0) (n := 27) (by decide) (x := 0) (v := nx / 32) (by decide) (by decide) (by omega)
    simpa using this
  have e2 : putX 32 27 (nx / 32) (pv / 32) = lnkN nx pv := by
    have := put_on (l := 32) (n := 27) (by decide) (x := nx / 32) (v := pv / 32) (by omega) (by omega) (by omega)
    unfold lnkN
    rw [show putX 32 27 (nx / 32) (pv / 32) = _ from this]; omega
  rw [e1] at cQ1
  rw [e2] at cQ2
  rw [show (((nx / 32 : Nat)) : Int) = (nx : Int) / 32 by omega] at cQ1 cQ2
  rw [show (((pv / 32 : Nat)) : Int) = (pv : Int) / 32 by omega] at cQ2
  have e3 : IntKind.u64.wrap (d : Int) = (d : Int) := by rw [IntKind.wrap_u64]; omega
  generalize putE 0 27 (nx / 32) = E1 at *
  generalize putE 32 27 (pv / 32) = E2 at *
  generalize lnkN nx pv = L at *
  generalize wordN k a b r g s = N at *
  clear hs hR hc hx hp hd e1 e2
  go_enter Tryd.func61, Tryd.ntmps61
  go_wp2_with fail
  have gC := heap2_0 w (.cells #[.int .i64 (k : Nat), .int .u64 (a : Nat), .int .i64 (b : Nat), .int .i64 (r : Nat), .int .i64 (g : Nat), .int .i64 (s : Nat), .int .u64 (m : Nat), .int .u64 (nx : Nat), .int .u64 (pv : Nat), .int .i64 (d : Nat)] 61) (.cells #[.int .u64 0, .int .u64 0, .int .u64 0, .int .u64 0] 97)
  have gR := heap_alloc_new (w.alloc (.cells #[.int .i64 (k : Nat), .int .u64 (a : Nat), .int .i64 (b : Nat), .int .i64 (r : Nat), .int .i64 (g : Nat), .int .i64 (s : Nat), .int .u64 (m : Nat), .int .u64 (nx : Nat), .int .u64 (pv : Nat), .int .i64 (d : Nat)] 61)) (.cells #[.int .u64 0, .int .u64 0, .int .u64 0, .int .u64 0] 97)
  have hB := below2 w (.cells #[.int .i64 (k : Nat), .int .u64 (a : Nat), .int .i64 (b : Nat), .int .i64 (r : Nat), .int .i64 (g : Nat), .int .i64 (s : Nat), .int .u64 (m : Nat), .int .u64 (nx : Nat), .int .u64 (pv : Nat), .int .i64 (d : Nat)] 61) (.cells #[.int .u64 0, .int .u64 0, .int .u64 0, .int .u64 0] 97)
  rw [World.size_alloc] at gR
  generalize (w.alloc (.cells #[.int .i64 (k : Nat), .int .u64 (a : Nat), .int .i64 (b : Nat), .int .i64 (r : Nat), .int .i64 (g : Nat), .int .i64 (s : Nat), .int .u64 (m : Nat), .int .u64 (nx : Nat), .int .u64 (pv : Nat), .int .i64 (d : Nat)] 61)).alloc (.cells #[.int .u64 0, .int .u64 0, .int .u64 0, .int .u64 0] 97) = W0 at *
  have hRB := Nat.le_succ w.heap.size
  obtain ⟨c0, c1, c2, c3, c4, c5, c6, c7, c8, c9⟩ := cells10 gC
  have cp0 := fun o => cell_alloc (o := o) c0
  have cp1 := fun o => cell_alloc (o := o) c1
  have cp2 := fun o => cell_alloc (o := o) c2
  have cp3 := fun o => cell_alloc (o := o) c3
  have cp4 := fun o => cell_alloc (o := o) c4
  have cp5 := fun o => cell_alloc (o := o) c5
  have cp6 := fun o => cell_alloc (o := o) c6
  have cp7 := fun o => cell_alloc (o := o) c7
  have cp8 := fun o => cell_alloc (o := o) c8
  have cp9 := fun o => cell_alloc (o := o) c9
  refine (cR _).mono ?_
  clear c0 cp0 c1 cp1 c2 cp2 c3 cp3 c4 cp4 c5 cp5 c6 cp6 c7 cp7 c8 cp8 c9 cp9
  rintro e w1 ⟨rfl, hb⟩
  replace gC := block_later hb gC
  replace gR := block_later hb gR
  replace hB := below_tr hB hb
  clear hb
  obtain ⟨c0, c1, c2, c3, c4, c5, c6, c7, c8, c9⟩ := cells10 gC
  have cp0 := fun o => cell_alloc (o := o) c0
  have cp1 := fun o => cell_alloc (o := o) c1
  have cp2 := fun o => cell_alloc (o := o) c2
  have cp3 := fun o => cell_alloc (o := o) c3
  have cp4 := fun o => cell_alloc (o := o) c4
  have cp5 := fun o => cell_alloc (o := o) c5
  have cp6 := fun o => cell_alloc (o := o) c6
  have cp7 := fun o => cell_alloc (o := o) c7
  have cp8 := fun o => cell_alloc (o := o) c8
  have cp9 := fun o => cell_alloc (o := o) c9
  go_wp2_with fail
  refine (cW _ (hP.later hB).pp).mono ?_
  clear c0 cp0 c1 cp1 c2 cp2 c3 cp3 c4 cp4 c5 cp5 c6 cp6 c7 cp7 c8 cp8 c9 cp9
  rintro e w2 ⟨rfl, hb⟩
  replace gC := block_later hb gC
  replace gR := block_later hb gR
  replace hB := below_tr hB hb
  clear hb
  obtain ⟨c0, c1, c2, c3, c4, c5, c6, c7, c8, c9⟩ := cells10 gC
  have cp0 := fun o => cell_alloc (o := o) c0
  have cp1 := fun o => cell_alloc (o := o) c1
  have cp2 := fun o => cell_alloc (o := o) c2
  have cp3 := fun o => cell_alloc (o := o) c3
  have cp4 := fun o => cell_alloc (o := o) c4
  have cp5 := fun o => cell_alloc (o := o) c5
  have cp6 := fun o => cell_alloc (o := o) c6
  have cp7 := fun o => cell_alloc (o := o) c7
  have cp8 := fun o => cell_alloc (o := o) c8
  have cp9 := fun o => cell_alloc (o := o) c9
  have y0 := (hP.later hB).n0
  have y1 := (hP.later hB).n1
  go_wp2_with fail
  refine (cQ1 _).mono ?_
  clear c0 cp0 c1 cp1 c2 cp2 c3 cp3 c4 cp4 c5 cp5 c6 cp6 c7 cp7 c8 cp8 c9 cp9
  rintro e w3 ⟨rfl, hb⟩
  replace gC := block_later hb gC
  replace gR := block_later hb gR
  replace hB := below_tr hB hb
  clear hb
  obtain ⟨c0, c1, c2, c3, c4, c5, c6, c7, c8, c9⟩ := cells10 gC
  have cp0 := fun o => cell_alloc (o := o) c0
  have cp1 := fun o => cell_alloc (o := o) c1
  have cp2 := fun o => cell_alloc (o := o) c2
  have cp3 := fun o => cell_alloc (o := o) c3
  have cp4 := fun o => cell_alloc (o := o) c4
  have cp5 := fun o => cell_alloc (o := o) c5
  have cp6 := fun o => cell_alloc (o := o) c6
  have cp7 := fun o => cell_alloc (o := o) c7
  have cp8 := fun o => cell_alloc (o := o) c8
  have cp9 := fun o => cell_alloc (o := o) c9
  clear y0 y1
  have y0 := (hP.later hB).p0
  have y1 := (hP.later hB).p1
  go_wp2_with fail
  refine (cQ2 _).mono ?_
  clear c0 cp0 c1 cp1 c2 cp2 c3 cp3 c4 cp4 c5 cp5 c6 cp6 c7 cp7 c8 cp8 c9 cp9
  rintro e w4 ⟨rfl, hb⟩
  replace gC := block_later hb gC
  replace gR := block_later hb gR
  replace hB := below_tr hB hb
  clear hb
  obtain ⟨c0, c1, c2, c3, c4, c5, c6, c7, c8, c9⟩ := cells10 gC
  have cp0 := fun o => cell_alloc (o := o) c0
  have cp1 := fun o => cell_alloc (o := o) c1
  have cp2 := fun o => cell_alloc (o := o) c2
  have cp3 := fun o => cell_alloc (o := o) c3
  have cp4 := fun o => cell_alloc (o := o) c4
  have cp5 := fun o => cell_alloc (o := o) c5
  have cp6 := fun o => cell_alloc (o := o) c6
  have cp7 := fun o => cell_alloc (o := o) c7
  have cp8 := fun o => cell_alloc (o := o) c8
  have cp9 := fun o => cell_alloc (o := o) c9
  clear y0 y1
  go_wp2_with (first
    | (refine wpList_store_segTo rfl 97 _ _ rfl rfl (w.heap.size + 1) 0 _ #[.int .u64 (N : Nat), .int .u64 (m : Nat), .int .u64 (L : Nat), .int .u64 (d : Nat)] rfl rfl rfl 97 _ gR (show 0 + 4 ≤ 4 by decide) info4w (by simp [Value.oneCell']) #[.int .u64 (N : Nat), .int .u64 (m : Nat), .int .u64 (L : Nat), .int .u64 (d : Nat)] rfl ?_; intro wq hrq htq)
    | fail)
  refine bodyPost_ret (res_row_tmp rfl _ wq (w.heap.size + 1) 97 #[.int .u64 (N : Nat), .int .u64 (m : Nat), .int .u64 (L : Nat), .int .u64 (d : Nat)] (0, 0) _ rfl hrq Tryd.underlying97 rfl info4w) rfl ?_
  exact ⟨rfl, below_turn hB htq hRB⟩

/-- What is wrong with a slot's address: 13, 12, or 0. -/
def sE (S x : Nat) : Int := if x % 32 = 0 then (if S ≤ x then 12 else 0) else 13
set_option maxHeartbeats 2000000 in
theorem scheck_c {w : World} {g S : Nat} (x : Nat) (hx : x < 18446744073709551616) (c0 : w.cell? ⟨g, 0, none⟩ = some (.int .u64 (S : Nat))) :
    Calls Tryd.prog 59 #[.pointer (some ⟨g, 0, none⟩), .int .u64 x] w fun e w' => e = .returned (.int .i64 (sE S x)) ∧ w = w' := by
  have cA := al32 x hx w
  have cS := size_c c0
  by_cases h : x % 32 = 0
  · rw [decide_eq_true h] at cA
    by_cases h2 : S ≤ x
    · have HE : Hid (sE S x = 12) := by show _ = _; unfold sE; rw [if_pos h, if_pos h2]
      have d1 : decide ((S : Int) ≤ x) = true := decide_eq_true (by omega)
      have d2 : decide (S ≤ x) = true := decide_eq_true h2
      clear h h2 c0
      go_enter Tryd.func59, Tryd.ntmps59
      go_wp2_with fail
      refine cA.mono ?_
      rintro e w1 ⟨rfl, rfl⟩
      go_wp2_with fail
      refine cS.mono ?_
      rintro e w2 ⟨rfl, rfl⟩
      go_wp2
      go_ret
      exact ⟨by rw [HE.out]; rfl, rfl⟩
    · have HE : Hid (sE S x = 0) := by show _ = _; unfold sE; rw [if_pos h, if_neg h2]
      have d1 : decide ((S : Int) ≤ x) = false := decide_eq_false (by omega)
      have d2 : decide (S ≤ x) = false := decide_eq_false h2
      clear h h2 c0
      go_enter Tryd.func59, Tryd.ntmps59
      go_wp2_with fail
      refine cA.mono ?_
      rintro e w1 ⟨rfl, rfl⟩
      go_wp2_with fail
      refine cS.mono ?_
      rintro e w2 ⟨rfl, rfl⟩
      go_wp2
      go_ret
      exact ⟨by rw [HE.out]; rfl, rfl⟩
  · rw [decide_eq_false h] at cA
    have HE : Hid (sE S x = 13) := by show _ = _; unfold sE; rw [if_neg h]
    clear h c0
    go_enter Tryd.func59, Tryd.ntmps59
    go_wp2_with fail
    refine cA.mono ?_
    rintro e w1 ⟨rfl, rfl⟩
    go_wp2
    go_ret
    exact ⟨by rw [HE.out]; rfl, rfl⟩
end Go.Proofs.YtcmndefjmhcbhaaDoor
