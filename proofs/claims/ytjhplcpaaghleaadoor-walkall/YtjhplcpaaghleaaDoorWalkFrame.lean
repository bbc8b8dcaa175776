/- What every tied row over package desc needs: the fields' cells out of the row's list. -/
import Derived.Test.YtjhplcpaaghleaaDoorCards
import Derived.Test.YtjhplcpaaghleaaDoorTie
import Derived.Test.YtjhplcpaaghleaaDoorDescG
import Derived.ProofKit
import Derived.OpenShut
import Derived.SizedLaws
import Derived.Lay
import Derived.SevenTiedAt
import Derived.Deep.DeepHandedRow
import Derived.Deep.DeepWitnessRowRef
import Derived.Lib.LaidIn
import Derived.Lib.LaidTab
import Derived.Lib.LaidU8
import Derived.Lib.SmallJoins
namespace Go.Proofs.YtjhplcpaaghleaaDoor
open Go.RowKit Go.Lib Go.ChangeShapes Go.WideShapes Go.ChangeAt Go.Joins

/-- A variable that reads as two ints holds them, cell by cell. -/
theorem pair_of_reads {W : World} {n : String} {g : Nat} {a b : Int} (hg : Tryd.prog.globalNamed n = some g) (ht : (Tryd.prog.globals[g]?).map (·.type) = some 109)
    (h : VarReads Tryd.prog W n (.agg [.lit (.int .i64 a), .lit (.int .i64 b)])) : W.cell? ⟨g, 0, none⟩ = some (.int .i64 a) ∧ W.cell? ⟨g, 1, none⟩ = some (.int .i64 b) := by
  obtain ⟨g', t, cs, fuel, p, hg', hty, hvar, hd⟩ := h
  obtain rfl := Option.some.inj (hg.symm.trans hg')
  obtain rfl := Option.some.inj (ht.symm.trans hty)
  obtain ⟨y0, y1, m, hx, hl, h0, h1⟩ := trod_struct2 Tryd.underlying109 hd
  have hc : Tryd.prog.cellsOf 109 = 2 := by kernel_rfl
  have hc1 : Tryd.prog.cellsOf 3 = 1 := by kernel_rfl
  obtain ⟨c0, c1, rfl⟩ := array2 (cs := cs) (by simpa [hc] using hl)
  simp [hc1] at h0 h1
  obtain ⟨z0, e0, x0, _⟩ := DataW.trod_int Tryd.underlying3 h0
  obtain ⟨z1, e1, x1, _⟩ := DataW.trod_int Tryd.underlying3 h1
  subst x0 x1
  simp at hx e0 e1
  obtain ⟨⟨rfl, rfl⟩, _⟩ := hx
  rw [World.var?_cell hg hvar 0, World.var?_cell hg hvar 1]
  simp [e0, e1]

end Go.Proofs.YtjhplcpaaghleaaDoor
