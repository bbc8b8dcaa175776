/- What every tied row of package cap needs: the parts' cells out of the row's list; a capability as an argument. -/
import Derived.Test.YtieldgocgjoojaaDoorCards
import Derived.Test.YtieldgocgjoojaaDoorTie
import Derived.Test.YtieldgocgjoojaaDoorCapH
import Derived.ProofKit
import Derived.OpenShut
import Derived.SizedLaws
import Derived.Lay
import Derived.SevenTiedAt
import Derived.Deep.DeepHandedRow
import Derived.Deep.DeepWitnessRowRef
import Derived.Lib.LaidIn
import Derived.Lib.LaidTab
import Derived.Lib.LaidU8
import Derived.Lib.SmallJoins
namespace Go.Proofs.YtieldgocgjoojaaDoor
open Go.RowKit Go.Lib Go.ChangeShapes Go.WideShapes Go.ChangeAt Go.Joins

theorem array3 {α : Type} {cs : Array α} (h : cs.size = 3) : ∃ c0 c1 c2, cs = #[c0, c1, c2] := by
  obtain ⟨l⟩ := cs
  match l, h with
  | [c0, c1, c2], _ => exact ⟨c0, c1, c2, rfl⟩
theorem array7 {α : Type} {cs : Array α} (h : cs.size = 7) : ∃ c0 c1 c2 c3 c4 c5 c6, cs = #[c0, c1, c2, c3, c4, c5, c6] := by
  obtain ⟨l⟩ := cs
  match l, h with
  | [c0, c1, c2, c3, c4, c5, c6], _ => exact ⟨c0, c1, c2, c3, c4, c5, c6, rfl⟩

/-- A part as a variable holds its three ints, cell by cell. -/
theorem part_of_reads {W : World} {n : String} {g : Nat} {a b c : Int} (hg : Tryd.prog.globalNamed n = some g) (ht : (Tryd.prog.globals[g]?).map (·.type) = some 92)
    (h : VarReads Tryd.prog W n (.agg [.agg [.lit (.int .i64 a), .lit (.int .i64 b)], .lit (.int .i64 c)])) : W.cell? ⟨g, 0, none⟩ = some (.int .i64 a) ∧ W.cell? ⟨g, 1, none⟩ = some (.int .i64 b) ∧ W.cell? ⟨g, 2, none⟩ = some (.int .i64 c) := by
  obtain ⟨g', t, cs, fuel, p, hg', hty, hvar, hd⟩ := h
  obtain rfl := Option.some.inj (hg.symm.trans hg')
  obtain rfl := Option.some.inj (ht.symm.trans hty)
  obtain ⟨y0, y1, m, hx, hl, h0, h1⟩ := trod_struct2 Tryd.underlying92 hd
  have hc : Tryd.prog.cellsOf 92 = 3 := by kernel_rfl
  have hcf : Tryd.prog.cellsOf 80 = 2 := by kernel_rfl
  have hc1 : Tryd.prog.cellsOf 3 = 1 := by kernel_rfl
  obtain ⟨c0, c1, c2, rfl⟩ := array3 (cs := cs) (by simpa [hc] using hl)
  simp [hc1, hcf] at h0 h1
  obtain ⟨u0, u1, m', hx', hl', h00, h01⟩ := trod_struct2 Tryd.underlying80 h0
  simp [hc1] at h00 h01
  obtain ⟨z0, e0, x0, _⟩ := DataW.trod_int Tryd.underlying3 h00
  obtain ⟨z1, e1, x1, _⟩ := DataW.trod_int Tryd.underlying3 h01
  obtain ⟨z2, e2, x2, _⟩ := DataW.trod_int Tryd.underlying3 h1
  subst x0 x1 x2
  subst hx'
  simp at hx e0 e1 e2
  obtain ⟨⟨⟨rfl, rfl⟩, rfl⟩, _⟩ := hx
  rw [World.var?_cell hg hvar 0, World.var?_cell hg hvar 1, World.var?_cell hg hvar 2]
  simp [e0, e1, e2]

set_option maxRecDepth 100000 in
/-- A capability that comes in as an argument. -/
theorem open_cap {H : Type} {enc : TypeId × Value → H} {w : World} {base : Nat} {spare : Nat → Bool} {held : Bool} {r : Reach} {b0 : Nat} {v : Value} {d : DataW H} {p : List MemPlace}
    (hv : Value.okWide Tryd.prog w r b0 24 v) (h : DataW.Trod enc Tryd.prog w base spare held 24 v d p) :
    ∃ (k : Int) (a : Nat) (b ri g s : Int) (m : Nat), v = .agg #[.int .i64 k, .int .u64 (a : Nat), .int .i64 b, .int .i64 ri, .int .i64 g, .int .i64 s, .int .u64 (m : Nat)] ∧ a < 18446744073709551616 ∧ m < 18446744073709551616 := by
  obtain ⟨cs, rfl, hsz⟩ := okWide_struct Tryd.underlying24 hv
  have hc : Tryd.prog.cellsOf 24 = 7 := by kernel_rfl
  have ci : Tryd.prog.cellsOf 3 = 1 := by kernel_rfl
  have cu : Tryd.prog.cellsOf 22 = 1 := by kernel_rfl
  obtain ⟨c0, c1, c2, c3, c4, c5, c6, rfl⟩ := array7 (hsz.trans hc)
  obtain ⟨fuel, hf⟩ := h
  obtain ⟨xs, n, _, _, _, hlen, hx⟩ := DataW.trod_struct Tryd.underlying24 hf
  have hsome : ∀ i, i < 7 → ∃ y, xs[i]? = some y := fun i hi => ⟨xs[i]'(by rw [hlen]; exact hi), by simp⟩
  obtain ⟨y0, q0⟩ := hsome 0 (by omega)
  obtain ⟨y1, q1⟩ := hsome 1 (by omega)
  obtain ⟨y2, q2⟩ := hsome 2 (by omega)
  obtain ⟨y3, q3⟩ := hsome 3 (by omega)
  obtain ⟨y4, q4⟩ := hsome 4 (by omega)
  obtain ⟨y5, q5⟩ := hsome 5 (by omega)
  obtain ⟨y6, q6⟩ := hsome 6 (by omega)
  have h0 := (hx 0 _ rfl).trans q0
  have h1 := (hx 1 _ rfl).trans q1
  have h2 := (hx 2 _ rfl).trans q2
  have h3 := (hx 3 _ rfl).trans q3
  have h4 := (hx 4 _ rfl).trans q4
  have h5 := (hx 5 _ rfl).trans q5
  have h6 := (hx 6 _ rfl).trans q6
  obtain ⟨k, e0, _, _⟩ := DataW.trod_int Tryd.underlying3 h0
  obtain ⟨a, e1, _, wa⟩ := DataW.trod_int Tryd.underlying22 h1
  obtain ⟨b, e2, _, _⟩ := DataW.trod_int Tryd.underlying3 h2
  obtain ⟨ri, e3, _, _⟩ := DataW.trod_int Tryd.underlying3 h3
  obtain ⟨g, e4, _, _⟩ := DataW.trod_int Tryd.underlying3 h4
  obtain ⟨s, e5, _, _⟩ := DataW.trod_int Tryd.underlying3 h5
  obtain ⟨m, e6, _, wm⟩ := DataW.trod_int Tryd.underlying22 h6
  simp [Value.cells, ci, cu] at e0 e1 e2 e3 e4 e5 e6
  subst e0 e1 e2 e3 e4 e5 e6
  obtain ⟨a, rfl⟩ := Int.eq_ofNat_of_zero_le (bounds_u64 wa).1
  obtain ⟨m, rfl⟩ := Int.eq_ofNat_of_zero_le (bounds_u64 wm).1
  exact ⟨k, a, b, ri, g, s, m, rfl, by have := (bounds_u64 wa).2; omega, by have := (bounds_u64 wm).2; omega⟩
end Go.Proofs.YtieldgocgjoojaaDoor
