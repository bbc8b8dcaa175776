/- The walk of the statements' anchor: the document's own example. -/
import Derived.Test.YtbpahdgkedfmdaaDoorLexTok
namespace Go.Proofs.YtbpahdgkedfmdaaDoor
open Go.RowKit Go.Lib

def exLine : List UInt8 := [109, 97, 112, 32, 103, 114, 195, 182, 195, 159, 101, 32, 48, 120, 49, 95, 102, 32, 35, 32, 97, 108, 108]
def exToks : List Tok := [⟨1, [109, 97, 112], 0, 0⟩, ⟨1, [103, 114, 195, 182, 195, 159, 101], 0, 4⟩, ⟨2, [48, 120, 49, 95, 102], 31, 10⟩]
theorem ex_lex : lexS exLine = (exToks, 0, 0) := by
  kernel_rfl

set_option maxRecDepth 100000 in
set_option maxHeartbeats 4000000 in
theorem anchor_any (w : World) (hT : Tabs w) : Calls Tryd.prog 7 #[] w fun e w' => e = .returned (.bool true) ∧ Below w.heap.size w w' := by
  have cT := tokens_any ⟨exLine.toArray⟩ w (by decide) hT
  have e0 : (⟨exLine.toArray⟩ : ByteArray).data.toList = exLine := rfl
  rw [e0, ex_lex] at cT
  have e1 : (⟨exLine.toArray⟩ : ByteArray) = ⟨#[109, 97, 112, 32, 103, 114, 195, 182, 195, 159, 101, 32, 48, 120, 49, 95, 102, 32, 35, 32, 97, 108, 108]⟩ := rfl
  rw [e1] at cT
  clear e0 e1
  go_enter Tryd.func7, Tryd.ntmps7
  go_wp2_with fail
  refine cT.mono ?_
  rintro e w1 ⟨v, rfl, hown, hb⟩
  obtain ⟨g, cap, rfl, _, hg⟩ := hown.form (by decide)
  have hc := hown.cells (g := g) rfl
  have c4 : w1.cell? ⟨g, 4, none⟩ = some (.int .i64 1) := hc 4 _ rfl
  have c5 : w1.cell? ⟨g, 5, none⟩ = some (.string ⟨#[103, 114, 195, 182, 195, 159, 101]⟩) := hc 5 _ rfl
  have c6 : w1.cell? ⟨g, 6, none⟩ = some (.int .u64 0) := hc 6 _ rfl
  have c7 : w1.cell? ⟨g, 7, none⟩ = some (.int .i64 4) := hc 7 _ rfl
  have c10 : w1.cell? ⟨g, 10, none⟩ = some (.int .u64 31) := hc 10 _ rfl
  have c11 : w1.cell? ⟨g, 11, none⟩ = some (.int .i64 10) := hc 11 _ rfl
  have hl : exToks.length = 3 := rfl
  clear hc hown
  rw [hl]
  go_wp2
  go_ret
  exact ⟨rfl, hb⟩
end Go.Proofs.YtbpahdgkedfmdaaDoor
