/-
  NARROWER THAN 'FOR EVERY INPUT', by the rows' own cells (each row's printed sentence says how): RightMeets: laid · RightTexts: laid · RightLeaves: laid · RightOf: laid.
  DERIVED. THE GIVEN ROWS OF THIS SEAT. 4 by the template 'for every input the law returns true; each argument reads behind the call as it read before'; 0 by the template 'total and deterministic' (their statements: YtoblkicbfkgjnaaDoorTotals.lean).
  GIVEN WITH THE SEED: the statements are not yours to turn. If you find one false, say at which input.
  Laid BY PROGRAM, IN A SANDBOX (cutbox-rows.mjs): the forced cells as the released guide's own fill.sh prints them over the translation 350d31c09e63ea50… (all of the seat's roots in one cut). By AI agents, Wed Nov 11 2026. No macro, syntax, notation, axiom, sorry.
-/
import Derived.Test.YtoblkicbfkgjnaaDoorChecked
import GoSem.Claim
import GoSem.ClaimJoined
import GoSem.ClaimMapViews
import Derived.JoinedTies
import Derived.KernelRfl
namespace Go.Proofs.YtoblkicbfkgjnaaDoor
/- THE CELL 'sum', in the pinned program and in every row, IS THE sha256 OF THE DUMP (.gsa) THAT YtoblkicbfkgjnaaDoorProg.lean LOADS. Nothing in Lean hashes anything: it is a label: what it is worth is what the hold of that sum in a sandbox is worth. -/
noncomputable def Tryd.pinned : Pinned := { name := "ytoblkicbfkgjnaadoor", sum := "350d31c09e63ea50a91d77cc29edb11d04d757908b1114b6861685f49d62166e", checked := Tryd.checked }
namespace Rows
def none {H : Type} : Left H := { results := [], args := [] }

/- WHAT THE LISTED PACKAGE-LEVEL VARIABLES READ AS WHEN THE CALL BEGINS. Each datum BY PROGRAM (the guide's laid-datum.mjs) off the statement by which the dump's own 'gosem.cut.vars' lays the variable. In a bare row this is a premise. The card (YtoblkicbfkgjnaaDoorCards.lean) ties it to the program's text. -/
def laid_portreeve_desc_outField {H : Type} : DataW H := .agg [.lit (.int .i64 12), .lit (.int .i64 36)]

/-- 'portreevelaw10.RightMeets': WHATEVER THE INPUT: true; the input reads as it did. -/
def rightMeetsSpec : ChangeSpec := { name := "rightMeets", fn := fun _ => fun
  | [d1, d2] => { results := [.lit (.bool true)], args := [d1, d2] }
  | _ => none }
def rightMeetsRow : OpenClaim := { program := "ytoblkicbfkgjnaadoor", sum := "350d31c09e63ea50a91d77cc29edb11d04d757908b1114b6861685f49d62166e", func := "portreeve/portreevelaw10.RightMeets", spec := "rightMeets", inPlace := ["internal/abi.NoEscape"], named := ["portreeve/desc.outField"], apart := false, laid := [("portreeve/desc.outField", laid_portreeve_desc_outField)] }
def RightMeetsSaid : Prop := rightMeetsRow.holds Tryd.pinned (OpenSpec.ofChange rightMeetsSpec)

/-- ITS FALSE NEIGHBOUR: 'it returns false'. Refute it at one input. -/
def rightMeetsWrong : ChangeSpec := { name := "rightMeets", fn := fun _ => fun
  | [d1, d2] => { results := [.lit (.bool false)], args := [d1, d2] }
  | _ => none }
def RightMeetsWrongFalsely : Prop := rightMeetsRow.holds Tryd.pinned (OpenSpec.ofChange rightMeetsWrong)

/-- 'portreevelaw10.RightTexts': WHATEVER THE INPUT: true; the input reads as it did. -/
def rightTextsSpec : ChangeSpec := { name := "rightTexts", fn := fun _ => fun
  | [d1, d2] => { results := [.lit (.bool true)], args := [d1, d2] }
  | _ => none }
def rightTextsRow : OpenClaim := { program := "ytoblkicbfkgjnaadoor", sum := "350d31c09e63ea50a91d77cc29edb11d04d757908b1114b6861685f49d62166e", func := "portreeve/portreevelaw10.RightTexts", spec := "rightTexts", inPlace := ["internal/abi.NoEscape"], named := ["portreeve/desc.outField"], apart := false, laid := [("portreeve/desc.outField", laid_portreeve_desc_outField)] }
def RightTextsSaid : Prop := rightTextsRow.holds Tryd.pinned (OpenSpec.ofChange rightTextsSpec)

/-- ITS FALSE NEIGHBOUR: 'it returns false'. Refute it at one input. -/
def rightTextsWrong : ChangeSpec := { name := "rightTexts", fn := fun _ => fun
  | [d1, d2] => { results := [.lit (.bool false)], args := [d1, d2] }
  | _ => none }
def RightTextsWrongFalsely : Prop := rightTextsRow.holds Tryd.pinned (OpenSpec.ofChange rightTextsWrong)

/-- 'portreevelaw10.RightLeaves': WHATEVER THE INPUT: true; the input reads as it did. -/
def rightLeavesSpec : ChangeSpec := { name := "rightLeaves", fn := fun _ => fun
  | [d1, d2, d3] => { results := [.lit (.bool true)], args := [d1, d2, d3] }
  | _ => none }
def rightLeavesRow : OpenClaim := { program := "ytoblkicbfkgjnaadoor", sum := "350d31c09e63ea50a91d77cc29edb11d04d757908b1114b6861685f49d62166e", func := "portreeve/portreevelaw10.RightLeaves", spec := "rightLeaves", inPlace := ["internal/abi.NoEscape"], named := ["portreeve/desc.outField"], apart := false, laid := [("portreeve/desc.outField", laid_portreeve_desc_outField)] }
def RightLeavesSaid : Prop := rightLeavesRow.holds Tryd.pinned (OpenSpec.ofChange rightLeavesSpec)

/-- ITS FALSE NEIGHBOUR: 'it returns false'. Refute it at one input. -/
def rightLeavesWrong : ChangeSpec := { name := "rightLeaves", fn := fun _ => fun
  | [d1, d2, d3] => { results := [.lit (.bool false)], args := [d1, d2, d3] }
  | _ => none }
def RightLeavesWrongFalsely : Prop := rightLeavesRow.holds Tryd.pinned (OpenSpec.ofChange rightLeavesWrong)

/-- 'portreevelaw10.RightOf': WHATEVER THE INPUT: true; the input reads as it did. -/
def rightOfSpec : ChangeSpec := { name := "rightOf", fn := fun _ => fun
  | [d] => { results := [.lit (.bool true)], args := [d] }
  | _ => none }
def rightOfRow : OpenClaim := { program := "ytoblkicbfkgjnaadoor", sum := "350d31c09e63ea50a91d77cc29edb11d04d757908b1114b6861685f49d62166e", func := "portreeve/portreevelaw10.RightOf", spec := "rightOf", inPlace := ["internal/abi.NoEscape"], named := ["portreeve/desc.outField"], apart := false, laid := [("portreeve/desc.outField", laid_portreeve_desc_outField)] }
def RightOfSaid : Prop := rightOfRow.holds Tryd.pinned (OpenSpec.ofChange rightOfSpec)

/-- ITS FALSE NEIGHBOUR: 'it returns false'. Refute it at one input. -/
def rightOfWrong : ChangeSpec := { name := "rightOf", fn := fun _ => fun
  | [d] => { results := [.lit (.bool false)], args := [d] }
  | _ => none }
def RightOfWrongFalsely : Prop := rightOfRow.holds Tryd.pinned (OpenSpec.ofChange rightOfWrong)

/- THE SECOND FORM. 'bulk': how many values and letters a reading holds, each counted each time it is reached (what is shared counts as often as it is met; a slice's spare places count too). A statement '..UptoSaid' is the law's where the arguments, and the package variables that the reading takes, are together of bulk at most 1048576: NARROWER than '..Said'. Prove '..Said' where nothing that the law and all that it calls make is longer than what came in: it says more and counts as full. Else prove '..UptoSaid'. A law counts once. -/
mutual
def uptoBulk {H : Type} : DataW H → Nat
  | .lit (.string bytes) => bytes.length + 1
  | .lit _ => 1
  | .nil => 1
  | .ptr d => uptoBulk d + 1
  | .slice elems spare => uptoBulkAll elems + uptoBulkAll spare + 1
  | .agg parts => uptoBulkAll parts + 1
  | .iface _ d => uptoBulk d + 1
  | .map entries => uptoBulkEntries entries + 1
  | .held _ => 1
def uptoBulkAll {H : Type} : List (DataW H) → Nat
  | [] => 0
  | d :: r => uptoBulk d + uptoBulkAll r
def uptoBulkEntries {H : Type} : List (Lit × DataW H) → Nat
  | [] => 0
  | x :: r => uptoBulkEntry x + uptoBulkEntries r
def uptoBulkEntry {H : Type} : Lit × DataW H → Nat
  | (.string bytes, d) => bytes.length + uptoBulk d + 1
  | (_, d) => uptoBulk d + 1
 end
def uptoSmall : (H : Type) → List (DataW H) → Bool := fun _ ds => decide (uptoBulkAll ds ≤ 1048576)
def OpenSpec.upto (s : _root_.Go.ChangeSpec) : _root_.Go.OpenSpec := { _root_.Go.OpenSpec.ofChange s with cond := some uptoSmall }

/-- 'portreevelaw10.RightMeets', WHERE WHAT IT READS IS OF BULK AT MOST 1048576: true; the input reads as it did. -/
def rightMeetsUptoRow : OpenClaim := { program := "ytoblkicbfkgjnaadoor", sum := "350d31c09e63ea50a91d77cc29edb11d04d757908b1114b6861685f49d62166e", func := "portreeve/portreevelaw10.RightMeets", spec := "rightMeets", inPlace := ["internal/abi.NoEscape"], named := ["portreeve/desc.outField"], apart := false, laid := [("portreeve/desc.outField", laid_portreeve_desc_outField)], narrowed := true }
def RightMeetsUptoSaid : Prop := rightMeetsUptoRow.holds Tryd.pinned (OpenSpec.upto rightMeetsSpec)

/-- 'portreevelaw10.RightTexts', WHERE WHAT IT READS IS OF BULK AT MOST 1048576: true; the input reads as it did. -/
def rightTextsUptoRow : OpenClaim := { program := "ytoblkicbfkgjnaadoor", sum := "350d31c09e63ea50a91d77cc29edb11d04d757908b1114b6861685f49d62166e", func := "portreeve/portreevelaw10.RightTexts", spec := "rightTexts", inPlace := ["internal/abi.NoEscape"], named := ["portreeve/desc.outField"], apart := false, laid := [("portreeve/desc.outField", laid_portreeve_desc_outField)], narrowed := true }
def RightTextsUptoSaid : Prop := rightTextsUptoRow.holds Tryd.pinned (OpenSpec.upto rightTextsSpec)

/-- 'portreevelaw10.RightLeaves', WHERE WHAT IT READS IS OF BULK AT MOST 1048576: true; the input reads as it did. -/
def rightLeavesUptoRow : OpenClaim := { program := "ytoblkicbfkgjnaadoor", sum := "350d31c09e63ea50a91d77cc29edb11d04d757908b1114b6861685f49d62166e", func := "portreeve/portreevelaw10.RightLeaves", spec := "rightLeaves", inPlace := ["internal/abi.NoEscape"], named := ["portreeve/desc.outField"], apart := false, laid := [("portreeve/desc.outField", laid_portreeve_desc_outField)], narrowed := true }
def RightLeavesUptoSaid : Prop := rightLeavesUptoRow.holds Tryd.pinned (OpenSpec.upto rightLeavesSpec)

/-- 'portreevelaw10.RightOf', WHERE WHAT IT READS IS OF BULK AT MOST 1048576: true; the input reads as it did. -/
def rightOfUptoRow : OpenClaim := { program := "ytoblkicbfkgjnaadoor", sum := "350d31c09e63ea50a91d77cc29edb11d04d757908b1114b6861685f49d62166e", func := "portreeve/portreevelaw10.RightOf", spec := "rightOf", inPlace := ["internal/abi.NoEscape"], named := ["portreeve/desc.outField"], apart := false, laid := [("portreeve/desc.outField", laid_portreeve_desc_outField)], narrowed := true }
def RightOfUptoSaid : Prop := rightOfUptoRow.holds Tryd.pinned (OpenSpec.upto rightOfSpec)

end Rows
end Go.Proofs.YtoblkicbfkgjnaaDoor
