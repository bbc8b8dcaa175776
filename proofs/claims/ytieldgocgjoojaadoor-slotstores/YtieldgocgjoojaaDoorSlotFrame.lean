/- What every tied row of package slot needs: the links' parts out of the row's list; a slot, and four words, as arguments. -/
import Derived.Test.YtieldgocgjoojaaDoorCapFrame
import Derived.Test.YtieldgocgjoojaaDoorSlotF
namespace Go.Proofs.YtieldgocgjoojaaDoor
open Go.RowKit Go.Lib Go.ChangeShapes Go.WideShapes Go.ChangeAt Go.Joins

theorem array10 {α : Type} {cs : Array α} (h : cs.size = 10) : ∃ c0 c1 c2 c3 c4 c5 c6 c7 c8 c9, cs = #[c0, c1, c2, c3, c4, c5, c6, c7, c8, c9] := by
  obtain ⟨l⟩ := cs
  match l, h with
  | [c0, c1, c2, c3, c4, c5, c6, c7, c8, c9], _ => exact ⟨c0, c1, c2, c3, c4, c5, c6, c7, c8, c9, rfl⟩
theorem array4 {α : Type} {cs : Array α} (h : cs.size = 4) : ∃ c0 c1 c2 c3, cs = #[c0, c1, c2, c3] := by
  obtain ⟨l⟩ := cs
  match l, h with
  | [c0, c1, c2, c3], _ => exact ⟨c0, c1, c2, c3, rfl⟩
theorem array2 {α : Type} {cs : Array α} (h : cs.size = 2) : ∃ c0 c1, cs = #[c0, c1] := by
  obtain ⟨l⟩ := cs
  match l, h with
  | [c0, c1], _ => exact ⟨c0, c1, rfl⟩

/-- A struct variable of two ints, cell by cell. -/
theorem two_of_reads {W : World} {n : String} {g : Nat} {a b : Int} (hg : Tryd.prog.globalNamed n = some g) (ht : (Tryd.prog.globals[g]?).map (·.type) = some 80)
    (h : VarReads Tryd.prog W n (.agg [.lit (.int .i64 a), .lit (.int .i64 b)])) : W.cell? ⟨g, 0, none⟩ = some (.int .i64 a) ∧ W.cell? ⟨g, 1, none⟩ = some (.int .i64 b) := by
  obtain ⟨g', t, cs, fuel, p, hg', hty, hvar, hd⟩ := h
  obtain rfl := Option.some.inj (hg.symm.trans hg')
  obtain rfl := Option.some.inj (ht.symm.trans hty)
  obtain ⟨y0, y1, m, hx, hl, h0, h1⟩ := trod_struct2 Tryd.underlying80 hd
  have hc : Tryd.prog.cellsOf 80 = 2 := by kernel_rfl
  have hc1 : Tryd.prog.cellsOf 3 = 1 := by kernel_rfl
  obtain ⟨c0, c1, rfl⟩ := array2 (cs := cs) (by simpa [hc] using hl)
  simp [hc1] at h0 h1
  obtain ⟨z0, e0, x0, _⟩ := DataW.trod_int Tryd.underlying3 h0
  obtain ⟨z1, e1, x1, _⟩ := DataW.trod_int Tryd.underlying3 h1
  subst x0 x1
  simp at hx e0 e1
  obtain ⟨⟨rfl, rfl⟩, _⟩ := hx
  rw [World.var?_cell hg hvar 0, World.var?_cell hg hvar 1]
  simp [e0, e1]

set_option maxRecDepth 100000 in
/-- A slot that comes in as an argument. -/
theorem open_slot {H : Type} {enc : TypeId × Value → H} {w : World} {base : Nat} {spare : Nat → Bool} {held : Bool} {r : Reach} {b0 : Nat} {v : Value} {d : DataW H} {p : List MemPlace}
    (hv : Value.okWide Tryd.prog w r b0 26 v) (h : DataW.Trod enc Tryd.prog w base spare held 26 v d p) :
    ∃ (k : Int) (a : Nat) (b ri g s : Int) (m nx pv : Nat) (dp : Int), v = .agg #[.int .i64 k, .int .u64 (a : Nat), .int .i64 b, .int .i64 ri, .int .i64 g, .int .i64 s, .int .u64 (m : Nat), .int .u64 (nx : Nat), .int .u64 (pv : Nat), .int .i64 dp] ∧ a < 18446744073709551616 ∧ m < 18446744073709551616 ∧ nx < 18446744073709551616 ∧ pv < 18446744073709551616 := by
  obtain ⟨cs, rfl, hsz⟩ := okWide_struct Tryd.underlying26 hv
  have hc : Tryd.prog.cellsOf 26 = 10 := by kernel_rfl
  have hcc : Tryd.prog.cellsOf 24 = 7 := by kernel_rfl
  have ci : Tryd.prog.cellsOf 3 = 1 := by kernel_rfl
  have cu : Tryd.prog.cellsOf 22 = 1 := by kernel_rfl
  obtain ⟨c0, c1, c2, c3, c4, c5, c6, c7, c8, c9, rfl⟩ := array10 (hsz.trans hc)
  obtain ⟨fuel, hf⟩ := h
  obtain ⟨xs, n, _, _, _, hlen, hx⟩ := DataW.trod_struct Tryd.underlying26 hf
  have hsome : ∀ i, i < 4 → ∃ y, xs[i]? = some y := fun i hi => ⟨xs[i]'(by rw [hlen]; exact hi), by simp⟩
  obtain ⟨y0, q0⟩ := hsome 0 (by omega)
  obtain ⟨y1, q1⟩ := hsome 1 (by omega)
  obtain ⟨y2, q2⟩ := hsome 2 (by omega)
  obtain ⟨y3, q3⟩ := hsome 3 (by omega)
  have h0 := (hx 0 _ rfl).trans q0
  have h1 := (hx 1 _ rfl).trans q1
  have h2 := (hx 2 _ rfl).trans q2
  have h3 := (hx 3 _ rfl).trans q3
  obtain ⟨xs', n', _, _, _, hlen', hx'⟩ := DataW.trod_struct Tryd.underlying24 h0
  have hsome' : ∀ i, i < 7 → ∃ y, xs'[i]? = some y := fun i hi => ⟨xs'[i]'(by rw [hlen']; exact hi), by simp⟩
  obtain ⟨z0, s0⟩ := hsome' 0 (by omega)
  obtain ⟨z1, s1⟩ := hsome' 1 (by omega)
  obtain ⟨z2, s2⟩ := hsome' 2 (by omega)
  obtain ⟨z3, s3⟩ := hsome' 3 (by omega)
  obtain ⟨z4, s4⟩ := hsome' 4 (by omega)
  obtain ⟨z5, s5⟩ := hsome' 5 (by omega)
  obtain ⟨z6, s6⟩ := hsome' 6 (by omega)
  have g0 := (hx' 0 _ rfl).trans s0
  have g1 := (hx' 1 _ rfl).trans s1
  have g2 := (hx' 2 _ rfl).trans s2
  have g3 := (hx' 3 _ rfl).trans s3
  have g4 := (hx' 4 _ rfl).trans s4
  have g5 := (hx' 5 _ rfl).trans s5
  have g6 := (hx' 6 _ rfl).trans s6
  obtain ⟨k, e0, _, _⟩ := DataW.trod_int Tryd.underlying3 g0
  obtain ⟨a, e1, _, wa⟩ := DataW.trod_int Tryd.underlying22 g1
  obtain ⟨b, e2, _, _⟩ := DataW.trod_int Tryd.underlying3 g2
  obtain ⟨ri, e3, _, _⟩ := DataW.trod_int Tryd.underlying3 g3
  obtain ⟨g, e4, _, _⟩ := DataW.trod_int Tryd.underlying3 g4
  obtain ⟨s, e5, _, _⟩ := DataW.trod_int Tryd.underlying3 g5
  obtain ⟨m, e6, _, wm⟩ := DataW.trod_int Tryd.underlying22 g6
  obtain ⟨nx, e7, _, wx⟩ := DataW.trod_int Tryd.underlying22 h1
  obtain ⟨pv, e8, _, wp⟩ := DataW.trod_int Tryd.underlying22 h2
  obtain ⟨dp, e9, _, _⟩ := DataW.trod_int Tryd.underlying3 h3
  simp [Value.cells, ci, cu, hcc] at e0 e1 e2 e3 e4 e5 e6 e7 e8 e9
  subst e0 e1 e2 e3 e4 e5 e6 e7 e8 e9
  obtain ⟨a, rfl⟩ := Int.eq_ofNat_of_zero_le (bounds_u64 wa).1
  obtain ⟨m, rfl⟩ := Int.eq_ofNat_of_zero_le (bounds_u64 wm).1
  obtain ⟨nx, rfl⟩ := Int.eq_ofNat_of_zero_le (bounds_u64 wx).1
  obtain ⟨pv, rfl⟩ := Int.eq_ofNat_of_zero_le (bounds_u64 wp).1
  exact ⟨k, a, b, ri, g, s, m, nx, pv, dp, rfl, by have := (bounds_u64 wa).2; omega, by have := (bounds_u64 wm).2; omega, by have := (bounds_u64 wx).2; omega, by have := (bounds_u64 wp).2; omega⟩

set_option maxRecDepth 100000 in
/-- Four words that come in as an argument. -/
theorem open_arr4 {H : Type} {enc : TypeId × Value → H} {w : World} {base : Nat} {spare : Nat → Bool} {held : Bool} {r : Reach} {b0 : Nat} {v : Value} {d : DataW H} {p : List MemPlace}
    (hv : Value.okWide Tryd.prog w r b0 27 v) (h : DataW.Trod enc Tryd.prog w base spare held 27 v d p) :
    ∃ (a b c d : Nat), v = .agg #[.int .u64 (a : Nat), .int .u64 (b : Nat), .int .u64 (c : Nat), .int .u64 (d : Nat)] ∧ a < 18446744073709551616 ∧ b < 18446744073709551616 ∧ c < 18446744073709551616 ∧ d < 18446744073709551616 := by
  simp only [Value.okWide, Tryd.underlying27] at hv
  obtain ⟨cs, rfl, hsz, _⟩ := hv
  have hc : Tryd.prog.cellsOf 27 = 4 := by kernel_rfl
  have cu : Tryd.prog.cellsOf 22 = 1 := by kernel_rfl
  obtain ⟨c0, c1, c2, c3, rfl⟩ := array4 (hsz.trans hc)
  obtain ⟨fuel, hf⟩ := h
  obtain ⟨xs, n, _, _, _, hlen, hx⟩ := DataW.trod_array Tryd.underlying27 hf
  have hsome : ∀ i, i < 4 → ∃ y, xs[i]? = some y := fun i hi => ⟨xs[i]'(by rw [hlen]; exact hi), by simp⟩
  obtain ⟨y0, q0⟩ := hsome 0 (by omega)
  obtain ⟨y1, q1⟩ := hsome 1 (by omega)
  obtain ⟨y2, q2⟩ := hsome 2 (by omega)
  obtain ⟨y3, q3⟩ := hsome 3 (by omega)
  have h0 := (hx 0 (by decide)).trans q0
  have h1 := (hx 1 (by decide)).trans q1
  have h2 := (hx 2 (by decide)).trans q2
  have h3 := (hx 3 (by decide)).trans q3
  obtain ⟨a, e0, _, w0⟩ := DataW.trod_int Tryd.underlying22 h0
  obtain ⟨b, e1, _, w1⟩ := DataW.trod_int Tryd.underlying22 h1
  obtain ⟨c, e2, _, w2⟩ := DataW.trod_int Tryd.underlying22 h2
  obtain ⟨d, e3, _, w3⟩ := DataW.trod_int Tryd.underlying22 h3
  simp [Value.cells, cu] at e0 e1 e2 e3
  subst e0 e1 e2 e3
  obtain ⟨a, rfl⟩ := Int.eq_ofNat_of_zero_le (bounds_u64 w0).1
  obtain ⟨b, rfl⟩ := Int.eq_ofNat_of_zero_le (bounds_u64 w1).1
  obtain ⟨c, rfl⟩ := Int.eq_ofNat_of_zero_le (bounds_u64 w2).1
  obtain ⟨d, rfl⟩ := Int.eq_ofNat_of_zero_le (bounds_u64 w3).1
  exact ⟨a, b, c, d, rfl, by have := (bounds_u64 w0).2; omega, by have := (bounds_u64 w1).2; omega, by have := (bounds_u64 w2).2; omega, by have := (bounds_u64 w3).2; omega⟩
end Go.Proofs.YtieldgocgjoojaaDoor
