/- Slots: what is right of one; its words. -/
import Derived.Test.YtcmndefjmhcbhaaDoorCapK
import Derived.Test.YtcmndefjmhcbhaaDoorPhysCopy
import Derived.Test.YtcmndefjmhcbhaaDoorMemW
set_option linter.unusedVariables false
namespace Go.Proofs.YtcmndefjmhcbhaaDoor
open Go.RowKit

theorem cells4 {w1 : World} {g t : Nat} {c0 c1 c2 c3 : Value} (hh : w1.heap[g]? = some (.cells #[c0, c1, c2, c3] t (0, 0))) :
    w1.cell? ⟨g, 0, none⟩ = some c0 ∧ w1.cell? ⟨g, 1, none⟩ = some c1 ∧ w1.cell? ⟨g, 2, none⟩ = some c2 ∧ w1.cell? ⟨g, 3, none⟩ = some c3 := by
  refine ⟨?_, ?_, ?_, ?_⟩ <;> (rw [cell_of_row _ _ _ _ _ _ hh]; rfl)
theorem cells10 {w1 : World} {g t : Nat} {c0 c1 c2 c3 c4 c5 c6 c7 c8 c9 : Value} (hh : w1.heap[g]? = some (.cells #[c0, c1, c2, c3, c4, c5, c6, c7, c8, c9] t (0, 0))) :
    w1.cell? ⟨g, 0, none⟩ = some c0 ∧ w1.cell? ⟨g, 1, none⟩ = some c1 ∧ w1.cell? ⟨g, 2, none⟩ = some c2 ∧ w1.cell? ⟨g, 3, none⟩ = some c3 ∧ w1.cell? ⟨g, 4, none⟩ = some c4 ∧ w1.cell? ⟨g, 5, none⟩ = some c5 ∧ w1.cell? ⟨g, 6, none⟩ = some c6 ∧ w1.cell? ⟨g, 7, none⟩ = some c7 ∧ w1.cell? ⟨g, 8, none⟩ = some c8 ∧ w1.cell? ⟨g, 9, none⟩ = some c9 := by
  refine ⟨?_, ?_, ?_, ?_, ?_, ?_, ?_, ?_, ?_, ?_⟩ <;> (rw [cell_of_row _ _ _ _ _ _ hh]; rfl)
def eqSB (k : Int) (a : Nat) (b : Int) (r : Int) (g : Int) (s : Int) (m : Nat) (nx : Nat) (pv : Nat) (d : Int) (k2 : Int) (a2 : Nat) (b2 : Int) (r2 : Int) (g2 : Int) (s2 : Int) (m2 : Nat) (nx2 : Nat) (pv2 : Nat) (d2 : Int) : Bool := k == k2 && (a == a2 && (b == b2 && (r == r2 && (g == g2 && (s == s2 && (m == m2 && (nx == nx2 && (pv == pv2 && (d == d2)))))))))
set_option maxHeartbeats 4000000 in
theorem eqS (k : Int) (a : Nat) (b : Int) (r : Int) (g : Int) (s : Int) (m : Nat) (nx : Nat) (pv : Nat) (d : Int) (k2 : Int) (a2 : Nat) (b2 : Int) (r2 : Int) (g2 : Int) (s2 : Int) (m2 : Nat) (nx2 : Nat) (pv2 : Nat) (d2 : Int) (w : World) : (binOp .eql 61 (.agg #[.int .i64 k, .int .u64 (a : Nat), .int .i64 b, .int .i64 r, .int .i64 g, .int .i64 s, .int .u64 (m : Nat), .int .u64 (nx : Nat), .int .u64 (pv : Nat), .int .i64 d]) (.agg #[.int .i64 k2, .int .u64 (a2 : Nat), .int .i64 b2, .int .i64 r2, .int .i64 g2, .int .i64 s2, .int .u64 (m2 : Nat), .int .u64 (nx2 : Nat), .int .u64 (pv2 : Nat), .int .i64 d2])).run Tryd.prog w = .ok (.bool (eqSB k a b r g s m nx pv d k2 a2 b2 r2 g2 s2 m2 nx2 pv2 d2)) w := by
  unfold eqSB
  by_cases hk : k = k2
  · subst hk
    by_cases ha : a = a2
    · subst ha
      by_cases hb : b = b2
      · subst hb
        by_cases hr : r = r2
        · subst hr
          by_cases hg : g = g2
          · subst hg
            by_cases hs : s = s2
            · subst hs
              by_cases hm : m = m2
              · subst hm
                by_cases hnx : nx = nx2
                · subst hnx
                  by_cases hpv : pv = pv2
                  · subst hpv
                    by_cases hd : d = d2
                    · subst hd
                      first | (go_simp; done) | (go_simp <;> simp_all)
                    · go_simp <;> (first | (simp_all; done) | (rw [if_neg (by omega), beq_eq_false_iff_ne.2 (by assumption)]; done) | (rw [if_neg (by omega), beq_eq_false_iff_ne.2 (by assumption)]; rfl))
                  · go_simp <;> (first | (simp_all; done) | (rw [if_neg (by omega), beq_eq_false_iff_ne.2 (by assumption)]; done) | (rw [if_neg (by omega), beq_eq_false_iff_ne.2 (by assumption)]; rfl))
                · go_simp <;> (first | (simp_all; done) | (rw [if_neg (by omega), beq_eq_false_iff_ne.2 (by assumption)]; done) | (rw [if_neg (by omega), beq_eq_false_iff_ne.2 (by assumption)]; rfl))
              · go_simp <;> (first | (simp_all; done) | (rw [if_neg (by omega), beq_eq_false_iff_ne.2 (by assumption)]; done) | (rw [if_neg (by omega), beq_eq_false_iff_ne.2 (by assumption)]; rfl))
            · go_simp <;> (first | (simp_all; done) | (rw [if_neg (by omega), beq_eq_false_iff_ne.2 (by assumption)]; done) | (rw [if_neg (by omega), beq_eq_false_iff_ne.2 (by assumption)]; rfl))
          · go_simp <;> (first | (simp_all; done) | (rw [if_neg (by omega), beq_eq_false_iff_ne.2 (by assumption)]; done) | (rw [if_neg (by omega), beq_eq_false_iff_ne.2 (by assumption)]; rfl))
        · go_simp <;> (first | (simp_all; done) | (rw [if_neg (by omega), beq_eq_false_iff_ne.2 (by assumption)]; done) | (rw [if_neg (by omega), beq_eq_false_iff_ne.2 (by assumption)]; rfl))
      · go_simp <;> (first | (simp_all; done) | (rw [if_neg (by omega), beq_eq_false_iff_ne.2 (by assumption)]; done) | (rw [if_neg (by omega), beq_eq_false_iff_ne.2 (by assumption)]; rfl))
    · go_simp <;> (first | (simp_all; done) | (rw [if_neg (by omega), beq_eq_false_iff_ne.2 (by assumption)]; done) | (rw [if_neg (by omega), beq_eq_false_iff_ne.2 (by assumption)]; rfl))
  · go_simp <;> (first | (simp_all; done) | (rw [if_neg (by omega), beq_eq_false_iff_ne.2 (by assumption)]; done) | (rw [if_neg (by omega), beq_eq_false_iff_ne.2 (by assumption)]; rfl))
def eqWB (x : Nat) (y : Nat) (z : Nat) (u : Nat) (x2 : Nat) (y2 : Nat) (z2 : Nat) (u2 : Nat) : Bool := x == x2 && (y == y2 && (z == z2 && (u == u2)))
def ar4 (f : Nat → Nat) : Array Value := #[.int .u64 (f 0 : Nat), .int .u64 (f 1 : Nat), .int .u64 (f 2 : Nat), .int .u64 (f 3 : Nat)]
theorem ar4_get (f : Nat → Nat) (i : Nat) (h : i < 4) : (ar4 f)[i]? = some (.int .u64 (f i : Nat)) := by
  match i, h with
  | 0, _ => rfl
  | 1, _ => rfl
  | 2, _ => rfl
  | 3, _ => rfl
theorem run_eqA {T : TypeId} (hT : ∃ e, Tryd.prog.underlying T = some (.array 4 e) ∧ Tryd.prog.underlying e = some (.int .u64) ∧ ∀ w, (sizeOf e).run Tryd.prog w = .ok 1 w) (f g : Nat → Nat) (w : World) : (Op.equalIn 10000 T (.agg (ar4 f)) (.agg (ar4 g))).run Tryd.prog w = .ok ((List.range 4).all fun i => f i == g i) w := by
  obtain ⟨e, ht, he, hsz⟩ := hT
  show (Op.equalIn (9998 + 2) T (.agg (ar4 f)) (.agg (ar4 g))).run Tryd.prog w = _
  rw [Op.equalIn]
  rw [List.range_eq_range']
  simp only [Sem.run_bind, run_underlying ht, Result.andThen_ok, hsz, Std.Legacy.Range.forIn_eq_forIn_range', Std.Legacy.Range.size, Nat.sub_zero, Nat.add_sub_cancel, Nat.div_one]
  have hl : ∀ i ∈ List.range' 0 4 1, i < 4 := fun i hi => by simpa using (List.mem_range'_1.1 hi).2
  generalize List.range' 0 4 1 = l at hl ⊢
  induction l with
  | nil => simp
  | cons i l ih =>
    have hi : i < 4 := hl i (by simp)
    have px : (part e (ar4 f) (i * 1)).run Tryd.prog w = .ok (.int .u64 (f i : Nat)) w := by
      simp [part, isAgg, run_underlying he, ar4_get f i hi]
    have py : (part e (ar4 g) (i * 1)).run Tryd.prog w = .ok (.int .u64 (g i : Nat)) w := by
      simp [part, isAgg, run_underlying he, ar4_get g i hi]
    have pe : (Op.equalIn 9999 e (.int .u64 (f i : Nat)) (.int .u64 (g i : Nat))).run Tryd.prog w = .ok (f i == g i) w := by
      have hq : ((f i : Int) == (g i : Int)) = (f i == g i) := by
        rw [Bool.eq_iff_iff]; simp; omega
      rw [run_equalIn_int w 9998 e .u64 .u64 _ _ he, hq]
    simp only [List.forIn_cons, Sem.run_bind, px, py, pe, Result.andThen_ok, List.all_cons]
    cases hb : (f i == g i)
    · simp
    · simp only [Bool.not_true, Bool.false_eq_true, if_false, Sem.run_pure, Result.andThen_ok, Bool.true_and]
      exact ih fun j hj => hl j (by simp [hj])
def sel4 (x y z u : Nat) (i : Nat) : Nat := if i = 0 then x else if i = 1 then y else if i = 2 then z else u
theorem eqIW (x y z u x2 y2 z2 u2 : Nat) (w : World) : (Op.equalIn 10000 97 (.agg #[.int .u64 (x : Nat), .int .u64 (y : Nat), .int .u64 (z : Nat), .int .u64 (u : Nat)]) (.agg #[.int .u64 (x2 : Nat), .int .u64 (y2 : Nat), .int .u64 (z2 : Nat), .int .u64 (u2 : Nat)])).run Tryd.prog w = .ok (eqWB x y z u x2 y2 z2 u2) w := by
  have := run_eqA (T := 97) ⟨23, by kernel_rfl, Tryd.underlying23, sizeU⟩ (sel4 x y z u) (sel4 x2 y2 z2 u2) w
  refine Eq.trans this ?_
  unfold eqWB
  simp [List.range_succ, sel4]
theorem neW (x y z u x2 y2 z2 u2 : Nat) (w : World) : (binOp .neq 97 (.agg #[.int .u64 (x : Nat), .int .u64 (y : Nat), .int .u64 (z : Nat), .int .u64 (u : Nat)]) (.agg #[.int .u64 (x2 : Nat), .int .u64 (y2 : Nat), .int .u64 (z2 : Nat), .int .u64 (u2 : Nat)])).run Tryd.prog w = .ok (.bool (!eqWB x y z u x2 y2 z2 u2)) w := by
  go_simp
  rw [eqIW]
  rfl
theorem eqIV (x y z u x2 y2 z2 u2 : Nat) (w : World) : (Op.equalIn 10000 96 (.agg #[.int .u64 (x : Nat), .int .u64 (y : Nat), .int .u64 (z : Nat), .int .u64 (u : Nat)]) (.agg #[.int .u64 (x2 : Nat), .int .u64 (y2 : Nat), .int .u64 (z2 : Nat), .int .u64 (u2 : Nat)])).run Tryd.prog w = .ok (eqWB x y z u x2 y2 z2 u2) w := by
  have := run_eqA (T := 96) ⟨23, by kernel_rfl, Tryd.underlying23, sizeU⟩ (sel4 x y z u) (sel4 x2 y2 z2 u2) w
  refine Eq.trans this ?_
  unfold eqWB
  simp [List.range_succ, sel4]
theorem neV (x y z u x2 y2 z2 u2 : Nat) (w : World) : (binOp .neq 96 (.agg #[.int .u64 (x : Nat), .int .u64 (y : Nat), .int .u64 (z : Nat), .int .u64 (u : Nat)]) (.agg #[.int .u64 (x2 : Nat), .int .u64 (y2 : Nat), .int .u64 (z2 : Nat), .int .u64 (u2 : Nat)])).run Tryd.prog w = .ok (.bool (!eqWB x y z u x2 y2 z2 u2)) w := by
  go_simp
  rw [eqIV]
  rfl

theorem al32 (x : Nat) (hx : x < 18446744073709551616) (w : World) : Calls Tryd.prog 44 #[.int .u64 x, .int .i64 5] w fun e w' => e = .returned (.bool (decide (x % 32 = 0))) ∧ w = w' := by
  have := aligned_any x 5 hx w
  have e : alignedB x 5 = decide (x % 32 = 0) := by
    have h := bits_andW x 31 hx (by decide)
    have h2 : x &&& 31 = x % 32 := Nat.and_two_pow_sub_one_eq_mod x 5
    unfold alignedB
    rw [show ones 5 = 31 by decide]
    rw [h2]
    by_cases q : x % 32 = 0
    · rw [q]; rfl
    · rw [decide_eq_false q, beq_eq_false_iff_ne]; omega
  rw [e] at this
  exact this.mono fun e w' h => ⟨h.1, h.2.symm⟩

/-- May an address be a link? -/
def lkB (x : Nat) : Bool := if x < 4294967296 then decide (x % 32 = 0) else false
theorem isLink_any (x : Nat) (hx : x < 18446744073709551616) (w : World) : Calls Tryd.prog 83 #[.int .u64 x] w fun e w' => e = .returned (.bool (lkB x)) ∧ w = w' := by
  by_cases h : x < 4294967296
  · have HE : Hid (lkB x = decide (x % 32 = 0)) := by show lkB x = _; unfold lkB; rw [if_pos h]
    have d1 : decide ((x : Int) < 4294967296) = true := decide_eq_true (by omega)
    have cA := fun w1 => al32 x hx w1
    generalize decide (x % 32 = 0) = B at *
    clear h
    go_enter Tryd.func83, Tryd.ntmps83
    go_wp2_with fail
    refine (cA _).mono ?_
    rintro e w1 ⟨rfl, rfl⟩
    go_wp2
    go_ret
    exact ⟨by rw [HE.out]; rfl, rfl⟩
  · have HE : Hid (lkB x = false) := by show lkB x = _; unfold lkB; rw [if_neg h]
    have d1 : decide ((x : Int) < 4294967296) = false := decide_eq_false (by omega)
    clear h
    go_enter Tryd.func83, Tryd.ntmps83
    go_wp2
    go_ret
    exact ⟨by rw [HE.out]; rfl, rfl⟩

/-- Is a slot right? -/
def sB (k : Int) (a : Nat) (b r g s : Int) (m nx pv : Nat) (d : Int) : Bool := if cB k a b r g s m = true then (if lkB nx = true then (if lkB pv = true then (if 0 ≤ d then decide (d ≤ 4096) else false) else false) else false) else false
set_option maxRecDepth 100000 in
set_option maxHeartbeats 4000000 in
theorem sright_any (k : Int) (a : Nat) (b r g s : Int) (m nx pv : Nat) (d : Int) (ha : a < 18446744073709551616) (hm : m < 18446744073709551616) (hx : nx < 18446744073709551616) (hp : pv < 18446744073709551616) (w : World) :
    Calls Tryd.prog 69 #[.agg #[.int .i64 k, .int .u64 (a : Nat), .int .i64 b, .int .i64 r, .int .i64 g, .int .i64 s, .int .u64 (m : Nat), .int .u64 (nx : Nat), .int .u64 (pv : Nat), .int .i64 d]] w fun e w' => e = .returned (.bool (sB k a b r g s m nx pv d)) ∧ Below w.heap.size w w' := by
  have cR := fun w1 => cright_any k a b r g s m ha hm w1
  have cN := fun w1 => isLink_any nx hx w1
  have cV := fun w1 => isLink_any pv hp w1
  cases h1 : cB k a b r g s m
  · rw [h1] at cR
    have HE : Hid (sB k a b r g s m nx pv d = false) := by show _ = _; unfold sB; rw [h1, if_neg (by decide)]
    go_enter Tryd.func69, Tryd.ntmps69
    go_wp2_with fail
    have gC := heap_alloc_new w (.cells #[.int .i64 k, .int .u64 (a : Nat), .int .i64 b, .int .i64 r, .int .i64 g, .int .i64 s, .int .u64 (m : Nat), .int .u64 (nx : Nat), .int .u64 (pv : Nat), .int .i64 d] 61)
    have hB := below_new w (.cells #[.int .i64 k, .int .u64 (a : Nat), .int .i64 b, .int .i64 r, .int .i64 g, .int .i64 s, .int .u64 (m : Nat), .int .u64 (nx : Nat), .int .u64 (pv : Nat), .int .i64 d] 61)
    generalize w.alloc (.cells #[.int .i64 k, .int .u64 (a : Nat), .int .i64 b, .int .i64 r, .int .i64 g, .int .i64 s, .int .u64 (m : Nat), .int .u64 (nx : Nat), .int .u64 (pv : Nat), .int .i64 d] 61) = W0 at *
    obtain ⟨c0, c1, c2, c3, c4, c5, c6, c7, c8, c9⟩ := cells10 gC
    have cp0 := fun o => cell_alloc (o := o) c0
    have cp1 := fun o => cell_alloc (o := o) c1
    have cp2 := fun o => cell_alloc (o := o) c2
    have cp3 := fun o => cell_alloc (o := o) c3
    have cp4 := fun o => cell_alloc (o := o) c4
    have cp5 := fun o => cell_alloc (o := o) c5
    have cp6 := fun o => cell_alloc (o := o) c6
    have cp7 := fun o => cell_alloc (o := o) c7
    have cp8 := fun o => cell_alloc (o := o) c8
    have cp9 := fun o => cell_alloc (o := o) c9
    refine (cR _).mono ?_
    clear c0 cp0 c1 cp1 c2 cp2 c3 cp3 c4 cp4 c5 cp5 c6 cp6 c7 cp7 c8 cp8 c9 cp9
    rintro e w1 ⟨rfl, hb⟩
    replace gC := block_later hb gC
    replace hB := below_tr hB hb
    clear hb
    obtain ⟨c0, c1, c2, c3, c4, c5, c6, c7, c8, c9⟩ := cells10 gC
    have cp0 := fun o => cell_alloc (o := o) c0
    have cp1 := fun o => cell_alloc (o := o) c1
    have cp2 := fun o => cell_alloc (o := o) c2
    have cp3 := fun o => cell_alloc (o := o) c3
    have cp4 := fun o => cell_alloc (o := o) c4
    have cp5 := fun o => cell_alloc (o := o) c5
    have cp6 := fun o => cell_alloc (o := o) c6
    have cp7 := fun o => cell_alloc (o := o) c7
    have cp8 := fun o => cell_alloc (o := o) c8
    have cp9 := fun o => cell_alloc (o := o) c9
    go_wp2
    go_ret
    exact ⟨by first | (rw [HE.out]; done) | (rw [HE.out]; rfl), hB⟩
  rw [h1] at cR
  cases h2 : lkB nx
  · rw [h2] at cN
    have HE : Hid (sB k a b r g s m nx pv d = false) := by show _ = _; unfold sB; rw [h1, if_pos rfl, h2, if_neg (by decide)]
    go_enter Tryd.func69, Tryd.ntmps69
    go_wp2_with fail
    have gC := heap_alloc_new w (.cells #[.int .i64 k, .int .u64 (a : Nat), .int .i64 b, .int .i64 r, .int .i64 g, .int .i64 s, .int .u64 (m : Nat), .int .u64 (nx : Nat), .int .u64 (pv : Nat), .int .i64 d] 61)
    have hB := below_new w (.cells #[.int .i64 k, .int .u64 (a : Nat), .int .i64 b, .int .i64 r, .int .i64 g, .int .i64 s, .int .u64 (m : Nat), .int .u64 (nx : Nat), .int .u64 (pv : Nat), .int .i64 d] 61)
    generalize w.alloc (.cells #[.int .i64 k, .int .u64 (a : Nat), .int .i64 b, .int .i64 r, .int .i64 g, .int .i64 s, .int .u64 (m : Nat), .int .u64 (nx : Nat), .int .u64 (pv : Nat), .int .i64 d] 61) = W0 at *
    obtain ⟨c0, c1, c2, c3, c4, c5, c6, c7, c8, c9⟩ := cells10 gC
    have cp0 := fun o => cell_alloc (o := o) c0
    have cp1 := fun o => cell_alloc (o := o) c1
    have cp2 := fun o => cell_alloc (o := o) c2
    have cp3 := fun o => cell_alloc (o := o) c3
    have cp4 := fun o => cell_alloc (o := o) c4
    have cp5 := fun o => cell_alloc (o := o) c5
    have cp6 := fun o => cell_alloc (o := o) c6
    have cp7 := fun o => cell_alloc (o := o) c7
    have cp8 := fun o => cell_alloc (o := o) c8
    have cp9 := fun o => cell_alloc (o := o) c9
    refine (cR _).mono ?_
    clear c0 cp0 c1 cp1 c2 cp2 c3 cp3 c4 cp4 c5 cp5 c6 cp6 c7 cp7 c8 cp8 c9 cp9
    rintro e w1 ⟨rfl, hb⟩
    replace gC := block_later hb gC
    replace hB := below_tr hB hb
    clear hb
    obtain ⟨c0, c1, c2, c3, c4, c5, c6, c7, c8, c9⟩ := cells10 gC
    have cp0 := fun o => cell_alloc (o := o) c0
    have cp1 := fun o => cell_alloc (o := o) c1
    have cp2 := fun o => cell_alloc (o := o) c2
    have cp3 := fun o => cell_alloc (o := o) c3
    have cp4 := fun o => cell_alloc (o := o) c4
    have cp5 := fun o => cell_alloc (o := o) c5
    have cp6 := fun o => cell_alloc (o := o) c6
    have cp7 := fun o => cell_alloc (o := o) c7
    have cp8 := fun o => cell_alloc (o := o) c8
    have cp9 := fun o => cell_alloc (o := o) c9
    go_wp2_with fail
    refine (cN _).mono ?_
    rintro e w2 ⟨rfl, rfl⟩
    go_wp2
    go_ret
    exact ⟨by first | (rw [HE.out]; done) | (rw [HE.out]; rfl), hB⟩
  rw [h2] at cN
  cases h3 : lkB pv
  · rw [h3] at cV
    have HE : Hid (sB k a b r g s m nx pv d = false) := by show _ = _; unfold sB; rw [h1, if_pos rfl, h2, if_pos rfl, h3, if_neg (by decide)]
    go_enter Tryd.func69, Tryd.ntmps69
    go_wp2_with fail
    have gC := heap_alloc_new w (.cells #[.int .i64 k, .int .u64 (a : Nat), .int .i64 b, .int .i64 r, .int .i64 g, .int .i64 s, .int .u64 (m : Nat), .int .u64 (nx : Nat), .int .u64 (pv : Nat), .int .i64 d] 61)
    have hB := below_new w (.cells #[.int .i64 k, .int .u64 (a : Nat), .int .i64 b, .int .i64 r, .int .i64 g, .int .i64 s, .int .u64 (m : Nat), .int .u64 (nx : Nat), .int .u64 (pv : Nat), .int .i64 d] 61)
    generalize w.alloc (.cells #[.int .i64 k, .int .u64 (a : Nat), .int .i64 b, .int .i64 r, .int .i64 g, .int .i64 s, .int .u64 (m : Nat), .int .u64 (nx : Nat), .int .u64 (pv : Nat), .int .i64 d] 61) = W0 at *
    obtain ⟨c0, c1, c2, c3, c4, c5, c6, c7, c8, c9⟩ := cells10 gC
    have cp0 := fun o => cell_alloc (o := o) c0
    have cp1 := fun o => cell_alloc (o := o) c1
    have cp2 := fun o => cell_alloc (o := o) c2
    have cp3 := fun o => cell_alloc (o := o) c3
    have cp4 := fun o => cell_alloc (o := o) c4
    have cp5 := fun o => cell_alloc (o := o) c5
    have cp6 := fun o => cell_alloc (o := o) c6
    have cp7 := fun o => cell_alloc (o := o) c7
    have cp8 := fun o => cell_alloc (o := o) c8
    have cp9 := fun o => cell_alloc (o := o) c9
    refine (cR _).mono ?_
    clear c0 cp0 c1 cp1 c2 cp2 c3 cp3 c4 cp4 c5 cp5 c6 cp6 c7 cp7 c8 cp8 c9 cp9
    rintro e w1 ⟨rfl, hb⟩
    replace gC := block_later hb gC
    replace hB := below_tr hB hb
    clear hb
    obtain ⟨c0, c1, c2, c3, c4, c5, c6, c7, c8, c9⟩ := cells10 gC
    have cp0 := fun o => cell_alloc (o := o) c0
    have cp1 := fun o => cell_alloc (o := o) c1
    have cp2 := fun o => cell_alloc (o := o) c2
    have cp3 := fun o => cell_alloc (o := o) c3
    have cp4 := fun o => cell_alloc (o := o) c4
    have cp5 := fun o => cell_alloc (o := o) c5
    have cp6 := fun o => cell_alloc (o := o) c6
    have cp7 := fun o => cell_alloc (o := o) c7
    have cp8 := fun o => cell_alloc (o := o) c8
    have cp9 := fun o => cell_alloc (o := o) c9
    go_wp2_with fail
    refine (cN _).mono ?_
    rintro e w2 ⟨rfl, rfl⟩
    go_wp2_with fail
    refine (cV _).mono ?_
    rintro e w3 ⟨rfl, rfl⟩
    go_wp2
    go_ret
    exact ⟨by first | (rw [HE.out]; done) | (rw [HE.out]; rfl), hB⟩
  rw [h3] at cV
  by_cases h4 : 0 ≤ d
  · have d4 : decide ((0 : Int) ≤ d) = true := decide_eq_true h4
    have HE : Hid (sB k a b r g s m nx pv d = decide (d ≤ 4096)) := by show _ = _; unfold sB; rw [h1, if_pos rfl, h2, if_pos rfl, h3, if_pos rfl, if_pos h4]
    clear h4
    go_enter Tryd.func69, Tryd.ntmps69
    go_wp2_with fail
    have gC := heap_alloc_new w (.cells #[.int .i64 k, .int .u64 (a : Nat), .int .i64 b, .int .i64 r, .int .i64 g, .int .i64 s, .int .u64 (m : Nat), .int .u64 (nx : Nat), .int .u64 (pv : Nat), .int .i64 d] 61)
    have hB := below_new w (.cells #[.int .i64 k, .int .u64 (a : Nat), .int .i64 b, .int .i64 r, .int .i64 g, .int .i64 s, .int .u64 (m : Nat), .int .u64 (nx : Nat), .int .u64 (pv : Nat), .int .i64 d] 61)
    generalize w.alloc (.cells #[.int .i64 k, .int .u64 (a : Nat), .int .i64 b, .int .i64 r, .int .i64 g, .int .i64 s, .int .u64 (m : Nat), .int .u64 (nx : Nat), .int .u64 (pv : Nat), .int .i64 d] 61) = W0 at *
    obtain ⟨c0, c1, c2, c3, c4, c5, c6, c7, c8, c9⟩ := cells10 gC
    have cp0 := fun o => cell_alloc (o := o) c0
    have cp1 := fun o => cell_alloc (o := o) c1
    have cp2 := fun o => cell_alloc (o := o) c2
    have cp3 := fun o => cell_alloc (o := o) c3
    have cp4 := fun o => cell_alloc (o := o) c4
    have cp5 := fun o => cell_alloc (o := o) c5
    have cp6 := fun o => cell_alloc (o := o) c6
    have cp7 := fun o => cell_alloc (o := o) c7
    have cp8 := fun o => cell_alloc (o := o) c8
    have cp9 := fun o => cell_alloc (o := o) c9
    refine (cR _).mono ?_
    clear c0 cp0 c1 cp1 c2 cp2 c3 cp3 c4 cp4 c5 cp5 c6 cp6 c7 cp7 c8 cp8 c9 cp9
    rintro e w1 ⟨rfl, hb⟩
    replace gC := block_later hb gC
    replace hB := below_tr hB hb
    clear hb
    obtain ⟨c0, c1, c2, c3, c4, c5, c6, c7, c8, c9⟩ := cells10 gC
    have cp0 := fun o => cell_alloc (o := o) c0
    have cp1 := fun o => cell_alloc (o := o) c1
    have cp2 := fun o => cell_alloc (o := o) c2
    have cp3 := fun o => cell_alloc (o := o) c3
    have cp4 := fun o => cell_alloc (o := o) c4
    have cp5 := fun o => cell_alloc (o := o) c5
    have cp6 := fun o => cell_alloc (o := o) c6
    have cp7 := fun o => cell_alloc (o := o) c7
    have cp8 := fun o => cell_alloc (o := o) c8
    have cp9 := fun o => cell_alloc (o := o) c9
    go_wp2_with fail
    refine (cN _).mono ?_
    rintro e w2 ⟨rfl, rfl⟩
    go_wp2_with fail
    refine (cV _).mono ?_
    rintro e w3 ⟨rfl, rfl⟩
    go_wp2
    go_ret
    exact ⟨by first | (rw [HE.out]; done) | (rw [HE.out]; rfl), hB⟩
  · have d4 : decide ((0 : Int) ≤ d) = false := decide_eq_false h4
    have HE : Hid (sB k a b r g s m nx pv d = false) := by show _ = _; unfold sB; rw [h1, if_pos rfl, h2, if_pos rfl, h3, if_pos rfl, if_neg h4]
    clear h4
    go_enter Tryd.func69, Tryd.ntmps69
    go_wp2_with fail
    have gC := heap_alloc_new w (.cells #[.int .i64 k, .int .u64 (a : Nat), .int .i64 b, .int .i64 r, .int .i64 g, .int .i64 s, .int .u64 (m : Nat), .int .u64 (nx : Nat), .int .u64 (pv : Nat), .int .i64 d] 61)
    have hB := below_new w (.cells #[.int .i64 k, .int .u64 (a : Nat), .int .i64 b, .int .i64 r, .int .i64 g, .int .i64 s, .int .u64 (m : Nat), .int .u64 (nx : Nat), .int .u64 (pv : Nat), .int .i64 d] 61)
    generalize w.alloc (.cells #[.int .i64 k, .int .u64 (a : Nat), .int .i64 b, .int .i64 r, .int .i64 g, .int .i64 s, .int .u64 (m : Nat), .int .u64 (nx : Nat), .int .u64 (pv : Nat), .int .i64 d] 61) = W0 at *
    obtain ⟨c0, c1, c2, c3, c4, c5, c6, c7, c8, c9⟩ := cells10 gC
    have cp0 := fun o => cell_alloc (o := o) c0
    have cp1 := fun o => cell_alloc (o := o) c1
    have cp2 := fun o => cell_alloc (o := o) c2
    have cp3 := fun o => cell_alloc (o := o) c3
    have cp4 := fun o => cell_alloc (o := o) c4
    have cp5 := fun o => cell_alloc (o := o) c5
    have cp6 := fun o => cell_alloc (o := o) c6
    have cp7 := fun o => cell_alloc (o := o) c7
    have cp8 := fun o => cell_alloc (o := o) c8
    have cp9 := fun o => cell_alloc (o := o) c9
    refine (cR _).mono ?_
    clear c0 cp0 c1 cp1 c2 cp2 c3 cp3 c4 cp4 c5 cp5 c6 cp6 c7 cp7 c8 cp8 c9 cp9
    rintro e w1 ⟨rfl, hb⟩
    replace gC := block_later hb gC
    replace hB := below_tr hB hb
    clear hb
    obtain ⟨c0, c1, c2, c3, c4, c5, c6, c7, c8, c9⟩ := cells10 gC
    have cp0 := fun o => cell_alloc (o := o) c0
    have cp1 := fun o => cell_alloc (o := o) c1
    have cp2 := fun o => cell_alloc (o := o) c2
    have cp3 := fun o => cell_alloc (o := o) c3
    have cp4 := fun o => cell_alloc (o := o) c4
    have cp5 := fun o => cell_alloc (o := o) c5
    have cp6 := fun o => cell_alloc (o := o) c6
    have cp7 := fun o => cell_alloc (o := o) c7
    have cp8 := fun o => cell_alloc (o := o) c8
    have cp9 := fun o => cell_alloc (o := o) c9
    go_wp2_with fail
    refine (cN _).mono ?_
    rintro e w2 ⟨rfl, rfl⟩
    go_wp2_with fail
    refine (cV _).mono ?_
    rintro e w3 ⟨rfl, rfl⟩
    go_wp2
    go_ret
    exact ⟨by first | (rw [HE.out]; done) | (rw [HE.out]; rfl), hB⟩

set_option maxHeartbeats 4000000 in
/-- Is a slot empty? -/
theorem empty_any (k : Int) (a : Nat) (b r g s : Int) (m nx pv : Nat) (d : Int) (w : World) : Calls Tryd.prog 49 #[.agg #[.int .i64 k, .int .u64 (a : Nat), .int .i64 b, .int .i64 r, .int .i64 g, .int .i64 s, .int .u64 (m : Nat), .int .u64 (nx : Nat), .int .u64 (pv : Nat), .int .i64 d]] w fun e w' => e = .returned (.bool (eqSB k a b r g s m nx pv d 0 0 0 0 0 0 0 0 0 0)) ∧ Below w.heap.size w w' := by
  have HB := below_new w (.cells #[.int .i64 k, .int .u64 (a : Nat), .int .i64 b, .int .i64 r, .int .i64 g, .int .i64 s, .int .u64 (m : Nat), .int .u64 (nx : Nat), .int .u64 (pv : Nat), .int .i64 d] 61)
  have HQ := fun w1 => eqS k a b r g s m nx pv d 0 0 0 0 0 0 0 0 0 0 w1
  cases hq : eqSB k a b r g s m nx pv d 0 0 0 0 0 0 0 0 0 0
  · have HQ2 : ∀ w1, (binOp .eql 61 (.agg #[.int .i64 k, .int .u64 (a : Nat), .int .i64 b, .int .i64 r, .int .i64 g, .int .i64 s, .int .u64 (m : Nat), .int .u64 (nx : Nat), .int .u64 (pv : Nat), .int .i64 d]) (.agg #[.int .i64 0, .int .u64 0, .int .i64 0, .int .i64 0, .int .i64 0, .int .i64 0, .int .u64 0, .int .u64 0, .int .u64 0, .int .i64 0])).run Tryd.prog w1 = .ok (.bool false) w1 := fun w1 => by rw [← hq]; exact HQ w1
    clear hq HQ
    go_enter Tryd.func49, Tryd.ntmps49
    go_wp2
    go_ret
    exact ⟨rfl, HB⟩
  · have HQ2 : ∀ w1, (binOp .eql 61 (.agg #[.int .i64 k, .int .u64 (a : Nat), .int .i64 b, .int .i64 r, .int .i64 g, .int .i64 s, .int .u64 (m : Nat), .int .u64 (nx : Nat), .int .u64 (pv : Nat), .int .i64 d]) (.agg #[.int .i64 0, .int .u64 0, .int .i64 0, .int .i64 0, .int .i64 0, .int .i64 0, .int .u64 0, .int .u64 0, .int .u64 0, .int .i64 0])).run Tryd.prog w1 = .ok (.bool true) w1 := fun w1 => by rw [← hq]; exact HQ w1
    clear hq HQ
    go_enter Tryd.func49, Tryd.ntmps49
    go_wp2
    go_ret
    exact ⟨rfl, HB⟩
end Go.Proofs.YtcmndefjmhcbhaaDoor
