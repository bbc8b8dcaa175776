/- What every tied row of package desc needs: the fields' cells out of the row's list; a descriptor as an argument. -/
import Derived.Test.YtoblkicbfkgjnaaDoorCards
import Derived.Test.YtoblkicbfkgjnaaDoorTie
import Derived.Test.YtoblkicbfkgjnaaDoorDescLow
import Derived.ProofKit
import Derived.OpenShut
import Derived.SizedLaws
import Derived.Lay
import Derived.SevenTiedAt
import Derived.Deep.DeepHandedRow
import Derived.Deep.DeepWitnessRowRef
import Derived.Lib.LaidIn
import Derived.Lib.LaidTab
import Derived.Lib.LaidU8
import Derived.Lib.SmallJoins
namespace Go.Proofs.YtoblkicbfkgjnaaDoor
open Go.RowKit Go.Lib Go.ChangeShapes Go.WideShapes Go.ChangeAt Go.Joins

/-- A variable that reads as two ints holds them, cell by cell. -/
theorem pair_of_reads {W : World} {n : String} {g : Nat} {a b : Int} (hg : Tryd.prog.globalNamed n = some g) (ht : (Tryd.prog.globals[g]?).map (·.type) = some 62)
    (h : VarReads Tryd.prog W n (.agg [.lit (.int .i64 a), .lit (.int .i64 b)])) : W.cell? ⟨g, 0, none⟩ = some (.int .i64 a) ∧ W.cell? ⟨g, 1, none⟩ = some (.int .i64 b) := by
  obtain ⟨g', t, cs, fuel, p, hg', hty, hvar, hd⟩ := h
  obtain rfl := Option.some.inj (hg.symm.trans hg')
  obtain rfl := Option.some.inj (ht.symm.trans hty)
  obtain ⟨y0, y1, m, hx, hl, h0, h1⟩ := trod_struct2 Tryd.underlying62 hd
  have hc : Tryd.prog.cellsOf 62 = 2 := by kernel_rfl
  have hc1 : Tryd.prog.cellsOf 3 = 1 := by kernel_rfl
  obtain ⟨c0, c1, rfl⟩ := array2 (cs := cs) (by simpa [hc] using hl)
  simp [hc1] at h0 h1
  obtain ⟨z0, e0, x0, _⟩ := DataW.trod_int Tryd.underlying3 h0
  obtain ⟨z1, e1, x1, _⟩ := DataW.trod_int Tryd.underlying3 h1
  subst x0 x1
  simp at hx e0 e1
  obtain ⟨⟨rfl, rfl⟩, _⟩ := hx
  rw [World.var?_cell hg hvar 0, World.var?_cell hg hvar 1]
  simp [e0, e1]

theorem array7 {α : Type} {cs : Array α} (h : cs.size = 7) : ∃ c0 c1 c2 c3 c4 c5 c6, cs = #[c0, c1, c2, c3, c4, c5, c6] := by
  obtain ⟨l⟩ := cs
  match l, h with
  | [c0, c1, c2, c3, c4, c5, c6], _ => exact ⟨c0, c1, c2, c3, c4, c5, c6, rfl⟩

set_option maxRecDepth 100000 in
/-- A descriptor that comes in as an argument. -/
theorem open_desc {H : Type} {enc : TypeId × Value → H} {w : World} {base : Nat} {spare : Nat → Bool} {held : Bool} {r : Reach} {b0 : Nat} {v : Value} {d : DataW H} {p : List MemPlace}
    (hv : Value.okWide Tryd.prog w r b0 32 v) (h : DataW.Trod enc Tryd.prog w base spare held 32 v d p) :
    ∃ (k : Int) (o : Nat) (u wr x s : Bool) (a : Int), v = dv k o u wr x s a ∧ o < 18446744073709551616 := by
  obtain ⟨cs, rfl, hsz⟩ := okWide_struct Tryd.underlying32 hv
  have hc : Tryd.prog.cellsOf 32 = 7 := by kernel_rfl
  have ci : Tryd.prog.cellsOf 3 = 1 := by kernel_rfl
  have cu : Tryd.prog.cellsOf 30 = 1 := by kernel_rfl
  have cb : Tryd.prog.cellsOf 4 = 1 := by kernel_rfl
  obtain ⟨c0, c1, c2, c3, c4, c5, c6, rfl⟩ := array7 (hsz.trans hc)
  obtain ⟨fuel, hf⟩ := h
  obtain ⟨xs, n, _, _, _, hlen, hx⟩ := DataW.trod_struct Tryd.underlying32 hf
  have hsome : ∀ i, i < 7 → ∃ y, xs[i]? = some y := fun i hi => ⟨xs[i]'(by rw [hlen]; exact hi), by simp⟩
  obtain ⟨y0, q0⟩ := hsome 0 (by omega)
  obtain ⟨y1, q1⟩ := hsome 1 (by omega)
  obtain ⟨y2, q2⟩ := hsome 2 (by omega)
  obtain ⟨y3, q3⟩ := hsome 3 (by omega)
  obtain ⟨y4, q4⟩ := hsome 4 (by omega)
  obtain ⟨y5, q5⟩ := hsome 5 (by omega)
  obtain ⟨y6, q6⟩ := hsome 6 (by omega)
  have h0 := (hx 0 _ rfl).trans q0
  have h1 := (hx 1 _ rfl).trans q1
  have h2 := (hx 2 _ rfl).trans q2
  have h3 := (hx 3 _ rfl).trans q3
  have h4 := (hx 4 _ rfl).trans q4
  have h5 := (hx 5 _ rfl).trans q5
  have h6 := (hx 6 _ rfl).trans q6
  obtain ⟨k, e0, _, _⟩ := DataW.trod_int Tryd.underlying3 h0
  obtain ⟨o, e1, _, wo⟩ := DataW.trod_int Tryd.underlying30 h1
  obtain ⟨u, e2, _⟩ := DataW.trod_bool Tryd.underlying4 h2
  obtain ⟨wr, e3, _⟩ := DataW.trod_bool Tryd.underlying4 h3
  obtain ⟨x, e4, _⟩ := DataW.trod_bool Tryd.underlying4 h4
  obtain ⟨s, e5, _⟩ := DataW.trod_bool Tryd.underlying4 h5
  obtain ⟨a, e6, _, _⟩ := DataW.trod_int Tryd.underlying3 h6
  simp [Value.cells, ci, cu, cb] at e0 e1 e2 e3 e4 e5 e6
  subst e0 e1 e2 e3 e4 e5 e6
  obtain ⟨o, rfl⟩ := Int.eq_ofNat_of_zero_le (bounds_u64 wo).1
  exact ⟨k, o, u, wr, x, s, a, rfl, by have := (bounds_u64 wo).2; omega⟩
end Go.Proofs.YtoblkicbfkgjnaaDoor
