/-
  No cell of these rows narrows 'for every input' (looked for: loops, veiled, ifaces, maps, wideKeys, modest, calm, conditions, laid).
  DERIVED. THE GIVEN ROWS OF THIS SEAT. 5 by the template 'for every input the law returns true; each argument reads behind the call as it read before'; 0 by the template 'total and deterministic' (their statements: YtldbldblpmlfpaaTotals.lean).
  GIVEN WITH THE SEED: the statements are not yours to turn. If you find one false, say at which input.
  Laid BY PROGRAM, IN A SANDBOX (cutbox-rows.mjs): the forced cells as the released guide's own fill.sh prints them over the translation ddf21dc67a3c0cb6… (all of the seat's roots in one cut). By AI agents, Wed Nov 11 2026. No macro, syntax, notation, axiom, sorry.
-/
import Derived.Test.YtldbldblpmlfpaaChecked
import GoSem.Claim
import GoSem.ClaimJoined
import GoSem.ClaimMapViews
import Derived.JoinedTies
import Derived.KernelRfl
namespace Go.Proofs.Ytldbldblpmlfpaa
/- THE CELL 'sum', in the pinned program and in every row, IS THE sha256 OF THE DUMP (.gsa) THAT YtldbldblpmlfpaaProg.lean LOADS. Nothing in Lean hashes anything: it is a label: what it is worth is what the hold of that sum in a sandbox is worth. -/
noncomputable def Try.pinned : Pinned := { name := "ytldbldblpmlfpaa", sum := "ddf21dc67a3c0cb6db3e3ede8165aaee486d7b4ad1a7aed200df2a469a421cd3", checked := Try.checked }
namespace Rows
def none {H : Type} : Left H := { results := [], args := [] }

/-- 'portreevelaw05.VirtParts': WHATEVER THE INPUT: true; the input reads as it did. -/
def virtPartsSpec : ChangeSpec := { name := "virtParts", fn := fun _ => fun
  | [d1, d2] => { results := [.lit (.bool true)], args := [d1, d2] }
  | _ => none }
def virtPartsRow : OpenClaim := { program := "ytldbldblpmlfpaa", sum := "ddf21dc67a3c0cb6db3e3ede8165aaee486d7b4ad1a7aed200df2a469a421cd3", func := "portreeve/portreevelaw05.VirtParts", spec := "virtParts", apart := false }
def VirtPartsSaid : Prop := virtPartsRow.holds Try.pinned (OpenSpec.ofChange virtPartsSpec)

/-- ITS FALSE NEIGHBOUR: 'it returns false'. Refute it at one input. -/
def virtPartsWrong : ChangeSpec := { name := "virtParts", fn := fun _ => fun
  | [d1, d2] => { results := [.lit (.bool false)], args := [d1, d2] }
  | _ => none }
def VirtPartsWrongFalsely : Prop := virtPartsRow.holds Try.pinned (OpenSpec.ofChange virtPartsWrong)

/-- 'portreevelaw05.VirtIndexes': WHATEVER THE INPUT: true; the input reads as it did. -/
def virtIndexesSpec : ChangeSpec := { name := "virtIndexes", fn := fun _ => fun
  | [d1, d2, d3] => { results := [.lit (.bool true)], args := [d1, d2, d3] }
  | _ => none }
def virtIndexesRow : OpenClaim := { program := "ytldbldblpmlfpaa", sum := "ddf21dc67a3c0cb6db3e3ede8165aaee486d7b4ad1a7aed200df2a469a421cd3", func := "portreeve/portreevelaw05.VirtIndexes", spec := "virtIndexes", apart := false }
def VirtIndexesSaid : Prop := virtIndexesRow.holds Try.pinned (OpenSpec.ofChange virtIndexesSpec)

/-- ITS FALSE NEIGHBOUR: 'it returns false'. Refute it at one input. -/
def virtIndexesWrong : ChangeSpec := { name := "virtIndexes", fn := fun _ => fun
  | [d1, d2, d3] => { results := [.lit (.bool false)], args := [d1, d2, d3] }
  | _ => none }
def VirtIndexesWrongFalsely : Prop := virtIndexesRow.holds Try.pinned (OpenSpec.ofChange virtIndexesWrong)

/-- 'portreevelaw05.VirtLevels': WHATEVER THE INPUT: true; the input reads as it did. -/
def virtLevelsSpec : ChangeSpec := { name := "virtLevels", fn := fun _ => fun
  | [d] => { results := [.lit (.bool true)], args := [d] }
  | _ => none }
def virtLevelsRow : OpenClaim := { program := "ytldbldblpmlfpaa", sum := "ddf21dc67a3c0cb6db3e3ede8165aaee486d7b4ad1a7aed200df2a469a421cd3", func := "portreeve/portreevelaw05.VirtLevels", spec := "virtLevels", apart := false }
def VirtLevelsSaid : Prop := virtLevelsRow.holds Try.pinned (OpenSpec.ofChange virtLevelsSpec)

/-- ITS FALSE NEIGHBOUR: 'it returns false'. Refute it at one input. -/
def virtLevelsWrong : ChangeSpec := { name := "virtLevels", fn := fun _ => fun
  | [d] => { results := [.lit (.bool false)], args := [d] }
  | _ => none }
def VirtLevelsWrongFalsely : Prop := virtLevelsRow.holds Try.pinned (OpenSpec.ofChange virtLevelsWrong)

/-- 'portreevelaw05.VirtLets': WHATEVER THE INPUT: true; the input reads as it did. -/
def virtLetsSpec : ChangeSpec := { name := "virtLets", fn := fun _ => fun
  | [d1, d2, d3] => { results := [.lit (.bool true)], args := [d1, d2, d3] }
  | _ => none }
def virtLetsRow : OpenClaim := { program := "ytldbldblpmlfpaa", sum := "ddf21dc67a3c0cb6db3e3ede8165aaee486d7b4ad1a7aed200df2a469a421cd3", func := "portreeve/portreevelaw05.VirtLets", spec := "virtLets", apart := false }
def VirtLetsSaid : Prop := virtLetsRow.holds Try.pinned (OpenSpec.ofChange virtLetsSpec)

/-- ITS FALSE NEIGHBOUR: 'it returns false'. Refute it at one input. -/
def virtLetsWrong : ChangeSpec := { name := "virtLets", fn := fun _ => fun
  | [d1, d2, d3] => { results := [.lit (.bool false)], args := [d1, d2, d3] }
  | _ => none }
def VirtLetsWrongFalsely : Prop := virtLetsRow.holds Try.pinned (OpenSpec.ofChange virtLetsWrong)

/-- 'portreevelaw05.VirtPages': WHATEVER THE INPUT: true; the input reads as it did. -/
def virtPagesSpec : ChangeSpec := { name := "virtPages", fn := fun _ => fun
  | [d1, d2, d3] => { results := [.lit (.bool true)], args := [d1, d2, d3] }
  | _ => none }
def virtPagesRow : OpenClaim := { program := "ytldbldblpmlfpaa", sum := "ddf21dc67a3c0cb6db3e3ede8165aaee486d7b4ad1a7aed200df2a469a421cd3", func := "portreeve/portreevelaw05.VirtPages", spec := "virtPages", apart := false }
def VirtPagesSaid : Prop := virtPagesRow.holds Try.pinned (OpenSpec.ofChange virtPagesSpec)

/-- ITS FALSE NEIGHBOUR: 'it returns false'. Refute it at one input. -/
def virtPagesWrong : ChangeSpec := { name := "virtPages", fn := fun _ => fun
  | [d1, d2, d3] => { results := [.lit (.bool false)], args := [d1, d2, d3] }
  | _ => none }
def VirtPagesWrongFalsely : Prop := virtPagesRow.holds Try.pinned (OpenSpec.ofChange virtPagesWrong)

/- THE SECOND FORM. 'bulk': how many values and letters a reading holds, each counted each time it is reached (what is shared counts as often as it is met; a slice's spare places count too). A statement '..UptoSaid' is the law's where the arguments, and the package variables that the reading takes, are together of bulk at most 1048576: NARROWER than '..Said'. Prove '..Said' where nothing that the law and all that it calls make is longer than what came in: it says more and counts as full. Else prove '..UptoSaid'. A law counts once. -/
mutual
def uptoBulk {H : Type} : DataW H → Nat
  | .lit (.string bytes) => bytes.length + 1
  | .lit _ => 1
  | .nil => 1
  | .ptr d => uptoBulk d + 1
  | .slice elems spare => uptoBulkAll elems + uptoBulkAll spare + 1
  | .agg parts => uptoBulkAll parts + 1
  | .iface _ d => uptoBulk d + 1
  | .map entries => uptoBulkEntries entries + 1
  | .held _ => 1
def uptoBulkAll {H : Type} : List (DataW H) → Nat
  | [] => 0
  | d :: r => uptoBulk d + uptoBulkAll r
def uptoBulkEntries {H : Type} : List (Lit × DataW H) → Nat
  | [] => 0
  | x :: r => uptoBulkEntry x + uptoBulkEntries r
def uptoBulkEntry {H : Type} : Lit × DataW H → Nat
  | (.string bytes, d) => bytes.length + uptoBulk d + 1
  | (_, d) => uptoBulk d + 1
 end
def uptoSmall : (H : Type) → List (DataW H) → Bool := fun _ ds => decide (uptoBulkAll ds ≤ 1048576)
def OpenSpec.upto (s : _root_.Go.ChangeSpec) : _root_.Go.OpenSpec := { _root_.Go.OpenSpec.ofChange s with cond := some uptoSmall }

/-- 'portreevelaw05.VirtParts', WHERE WHAT IT READS IS OF BULK AT MOST 1048576: true; the input reads as it did. -/
def virtPartsUptoRow : OpenClaim := { program := "ytldbldblpmlfpaa", sum := "ddf21dc67a3c0cb6db3e3ede8165aaee486d7b4ad1a7aed200df2a469a421cd3", func := "portreeve/portreevelaw05.VirtParts", spec := "virtParts", apart := false, narrowed := true }
def VirtPartsUptoSaid : Prop := virtPartsUptoRow.holds Try.pinned (OpenSpec.upto virtPartsSpec)

/-- 'portreevelaw05.VirtIndexes', WHERE WHAT IT READS IS OF BULK AT MOST 1048576: true; the input reads as it did. -/
def virtIndexesUptoRow : OpenClaim := { program := "ytldbldblpmlfpaa", sum := "ddf21dc67a3c0cb6db3e3ede8165aaee486d7b4ad1a7aed200df2a469a421cd3", func := "portreeve/portreevelaw05.VirtIndexes", spec := "virtIndexes", apart := false, narrowed := true }
def VirtIndexesUptoSaid : Prop := virtIndexesUptoRow.holds Try.pinned (OpenSpec.upto virtIndexesSpec)

/-- 'portreevelaw05.VirtLevels', WHERE WHAT IT READS IS OF BULK AT MOST 1048576: true; the input reads as it did. -/
def virtLevelsUptoRow : OpenClaim := { program := "ytldbldblpmlfpaa", sum := "ddf21dc67a3c0cb6db3e3ede8165aaee486d7b4ad1a7aed200df2a469a421cd3", func := "portreeve/portreevelaw05.VirtLevels", spec := "virtLevels", apart := false, narrowed := true }
def VirtLevelsUptoSaid : Prop := virtLevelsUptoRow.holds Try.pinned (OpenSpec.upto virtLevelsSpec)

/-- 'portreevelaw05.VirtLets', WHERE WHAT IT READS IS OF BULK AT MOST 1048576: true; the input reads as it did. -/
def virtLetsUptoRow : OpenClaim := { program := "ytldbldblpmlfpaa", sum := "ddf21dc67a3c0cb6db3e3ede8165aaee486d7b4ad1a7aed200df2a469a421cd3", func := "portreeve/portreevelaw05.VirtLets", spec := "virtLets", apart := false, narrowed := true }
def VirtLetsUptoSaid : Prop := virtLetsUptoRow.holds Try.pinned (OpenSpec.upto virtLetsSpec)

/-- 'portreevelaw05.VirtPages', WHERE WHAT IT READS IS OF BULK AT MOST 1048576: true; the input reads as it did. -/
def virtPagesUptoRow : OpenClaim := { program := "ytldbldblpmlfpaa", sum := "ddf21dc67a3c0cb6db3e3ede8165aaee486d7b4ad1a7aed200df2a469a421cd3", func := "portreeve/portreevelaw05.VirtPages", spec := "virtPages", apart := false, narrowed := true }
def VirtPagesUptoSaid : Prop := virtPagesUptoRow.holds Try.pinned (OpenSpec.upto virtPagesSpec)

end Rows
end Go.Proofs.Ytldbldblpmlfpaa
