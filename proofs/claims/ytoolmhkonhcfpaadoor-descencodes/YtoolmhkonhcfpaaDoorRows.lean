/-
  NARROWER THAN 'FOR EVERY INPUT', by the rows' own cells (each row's printed sentence says how): DescEncodes: laid · DescDecodes: laid · DescBases: laid · DescBits: laid.
  DERIVED. THE GIVEN ROWS OF THIS SEAT. 4 by the template 'for every input the law returns true; each argument reads behind the call as it read before'; 0 by the template 'total and deterministic' (their statements: YtoolmhkonhcfpaaDoorTotals.lean).
  GIVEN WITH THE SEED: the statements are not yours to turn. If you find one false, say at which input.
  Laid BY PROGRAM, IN A SANDBOX (cutbox-rows.mjs): the forced cells as the released guide's own fill.sh prints them over the translation a249f7332ac2a10f… (all of the seat's roots in one cut). By AI agents, Wed Nov 11 2026. No macro, syntax, notation, axiom, sorry.
-/
import Derived.Test.YtoolmhkonhcfpaaDoorChecked
import GoSem.Claim
import GoSem.ClaimJoined
import GoSem.ClaimMapViews
import Derived.JoinedTies
import Derived.KernelRfl
namespace Go.Proofs.YtoolmhkonhcfpaaDoor
/- THE CELL 'sum', in the pinned program and in every row, IS THE sha256 OF THE DUMP (.gsa) THAT YtoolmhkonhcfpaaDoorProg.lean LOADS. Nothing in Lean hashes anything: it is a label: what it is worth is what the hold of that sum in a sandbox is worth. -/
noncomputable def Tryd.pinned : Pinned := { name := "ytoolmhkonhcfpaadoor", sum := "a249f7332ac2a10f94e29bcfe50e8d9b80cf5a3400d80abe145ea438addb9c14", checked := Tryd.checked }
namespace Rows
def none {H : Type} : Left H := { results := [], args := [] }

/- WHAT THE LISTED PACKAGE-LEVEL VARIABLES READ AS WHEN THE CALL BEGINS. Each datum BY PROGRAM (the guide's laid-datum.mjs) off the statement by which the dump's own 'gosem.cut.vars' lays the variable. In a bare row this is a premise. The card (YtoolmhkonhcfpaaDoorCards.lean) ties it to the program's text. -/
def laid_portreeve_desc_attrField {H : Type} : DataW H := .agg [.lit (.int .i64 2), .lit (.int .i64 3)]
def laid_portreeve_desc_outField {H : Type} : DataW H := .agg [.lit (.int .i64 12), .lit (.int .i64 36)]
def laid_portreeve_desc_asidField {H : Type} : DataW H := .agg [.lit (.int .i64 48), .lit (.int .i64 8)]

/-- 'portreevelaw04.DescEncodes': WHATEVER THE INPUT: true; the input reads as it did. -/
def descEncodesSpec : ChangeSpec := { name := "descEncodes", fn := fun _ => fun
  | [d1, d2] => { results := [.lit (.bool true)], args := [d1, d2] }
  | _ => none }
def descEncodesRow : OpenClaim := { program := "ytoolmhkonhcfpaadoor", sum := "a249f7332ac2a10f94e29bcfe50e8d9b80cf5a3400d80abe145ea438addb9c14", func := "portreeve/portreevelaw04.DescEncodes", spec := "descEncodes", named := ["portreeve/desc.outField", "portreeve/desc.attrField"], apart := false, laid := [("portreeve/desc.attrField", laid_portreeve_desc_attrField), ("portreeve/desc.outField", laid_portreeve_desc_outField)] }
def DescEncodesSaid : Prop := descEncodesRow.holds Tryd.pinned (OpenSpec.ofChange descEncodesSpec)

/-- ITS FALSE NEIGHBOUR: 'it returns false'. Refute it at one input. -/
def descEncodesWrong : ChangeSpec := { name := "descEncodes", fn := fun _ => fun
  | [d1, d2] => { results := [.lit (.bool false)], args := [d1, d2] }
  | _ => none }
def DescEncodesWrongFalsely : Prop := descEncodesRow.holds Tryd.pinned (OpenSpec.ofChange descEncodesWrong)

/-- 'portreevelaw04.DescDecodes': WHATEVER THE INPUT: true; the input reads as it did. -/
def descDecodesSpec : ChangeSpec := { name := "descDecodes", fn := fun _ => fun
  | [d1, d2] => { results := [.lit (.bool true)], args := [d1, d2] }
  | _ => none }
def descDecodesRow : OpenClaim := { program := "ytoolmhkonhcfpaadoor", sum := "a249f7332ac2a10f94e29bcfe50e8d9b80cf5a3400d80abe145ea438addb9c14", func := "portreeve/portreevelaw04.DescDecodes", spec := "descDecodes", named := ["portreeve/desc.outField", "portreeve/desc.attrField"], apart := false, laid := [("portreeve/desc.attrField", laid_portreeve_desc_attrField), ("portreeve/desc.outField", laid_portreeve_desc_outField)] }
def DescDecodesSaid : Prop := descDecodesRow.holds Tryd.pinned (OpenSpec.ofChange descDecodesSpec)

/-- ITS FALSE NEIGHBOUR: 'it returns false'. Refute it at one input. -/
def descDecodesWrong : ChangeSpec := { name := "descDecodes", fn := fun _ => fun
  | [d1, d2] => { results := [.lit (.bool false)], args := [d1, d2] }
  | _ => none }
def DescDecodesWrongFalsely : Prop := descDecodesRow.holds Tryd.pinned (OpenSpec.ofChange descDecodesWrong)

/-- 'portreevelaw04.DescBases': WHATEVER THE INPUT: true; the input reads as it did. -/
def descBasesSpec : ChangeSpec := { name := "descBases", fn := fun _ => fun
  | [d1, d2, d3] => { results := [.lit (.bool true)], args := [d1, d2, d3] }
  | _ => none }
def descBasesRow : OpenClaim := { program := "ytoolmhkonhcfpaadoor", sum := "a249f7332ac2a10f94e29bcfe50e8d9b80cf5a3400d80abe145ea438addb9c14", func := "portreeve/portreevelaw04.DescBases", spec := "descBases", named := ["portreeve/desc.outField", "portreeve/desc.attrField", "portreeve/desc.asidField"], apart := false, laid := [("portreeve/desc.attrField", laid_portreeve_desc_attrField), ("portreeve/desc.outField", laid_portreeve_desc_outField), ("portreeve/desc.asidField", laid_portreeve_desc_asidField)] }
def DescBasesSaid : Prop := descBasesRow.holds Tryd.pinned (OpenSpec.ofChange descBasesSpec)

/-- ITS FALSE NEIGHBOUR: 'it returns false'. Refute it at one input. -/
def descBasesWrong : ChangeSpec := { name := "descBases", fn := fun _ => fun
  | [d1, d2, d3] => { results := [.lit (.bool false)], args := [d1, d2, d3] }
  | _ => none }
def DescBasesWrongFalsely : Prop := descBasesRow.holds Tryd.pinned (OpenSpec.ofChange descBasesWrong)

/-- 'portreevelaw04.DescBits': WHATEVER THE INPUT: true; the input reads as it did. -/
def descBitsSpec : ChangeSpec := { name := "descBits", fn := fun _ => fun
  | [d] => { results := [.lit (.bool true)], args := [d] }
  | _ => none }
def descBitsRow : OpenClaim := { program := "ytoolmhkonhcfpaadoor", sum := "a249f7332ac2a10f94e29bcfe50e8d9b80cf5a3400d80abe145ea438addb9c14", func := "portreeve/portreevelaw04.DescBits", spec := "descBits", named := ["portreeve/desc.outField", "portreeve/desc.attrField"], apart := false, laid := [("portreeve/desc.attrField", laid_portreeve_desc_attrField), ("portreeve/desc.outField", laid_portreeve_desc_outField)] }
def DescBitsSaid : Prop := descBitsRow.holds Tryd.pinned (OpenSpec.ofChange descBitsSpec)

/-- ITS FALSE NEIGHBOUR: 'it returns false'. Refute it at one input. -/
def descBitsWrong : ChangeSpec := { name := "descBits", fn := fun _ => fun
  | [d] => { results := [.lit (.bool false)], args := [d] }
  | _ => none }
def DescBitsWrongFalsely : Prop := descBitsRow.holds Tryd.pinned (OpenSpec.ofChange descBitsWrong)

/- THE SECOND FORM. 'bulk': how many values and letters a reading holds, each counted each time it is reached (what is shared counts as often as it is met; a slice's spare places count too). A statement '..UptoSaid' is the law's where the arguments, and the package variables that the reading takes, are together of bulk at most 1048576: NARROWER than '..Said'. Prove '..Said' where nothing that the law and all that it calls make is longer than what came in: it says more and counts as full. Else prove '..UptoSaid'. A law counts once. -/
mutual
def uptoBulk {H : Type} : DataW H → Nat
  | .lit (.string bytes) => bytes.length + 1
  | .lit _ => 1
  | .nil => 1
  | .ptr d => uptoBulk d + 1
  | .slice elems spare => uptoBulkAll elems + uptoBulkAll spare + 1
  | .agg parts => uptoBulkAll parts + 1
  | .iface _ d => uptoBulk d + 1
  | .map entries => uptoBulkEntries entries + 1
  | .held _ => 1
def uptoBulkAll {H : Type} : List (DataW H) → Nat
  | [] => 0
  | d :: r => uptoBulk d + uptoBulkAll r
def uptoBulkEntries {H : Type} : List (Lit × DataW H) → Nat
  | [] => 0
  | x :: r => uptoBulkEntry x + uptoBulkEntries r
def uptoBulkEntry {H : Type} : Lit × DataW H → Nat
  | (.string bytes, d) => bytes.length + uptoBulk d + 1
  | (_, d) => uptoBulk d + 1
 end
def uptoSmall : (H : Type) → List (DataW H) → Bool := fun _ ds => decide (uptoBulkAll ds ≤ 1048576)
def OpenSpec.upto (s : _root_.Go.ChangeSpec) : _root_.Go.OpenSpec := { _root_.Go.OpenSpec.ofChange s with cond := some uptoSmall }

/-- 'portreevelaw04.DescEncodes', WHERE WHAT IT READS IS OF BULK AT MOST 1048576: true; the input reads as it did. -/
def descEncodesUptoRow : OpenClaim := { program := "ytoolmhkonhcfpaadoor", sum := "a249f7332ac2a10f94e29bcfe50e8d9b80cf5a3400d80abe145ea438addb9c14", func := "portreeve/portreevelaw04.DescEncodes", spec := "descEncodes", named := ["portreeve/desc.outField", "portreeve/desc.attrField"], apart := false, laid := [("portreeve/desc.attrField", laid_portreeve_desc_attrField), ("portreeve/desc.outField", laid_portreeve_desc_outField)], narrowed := true }
def DescEncodesUptoSaid : Prop := descEncodesUptoRow.holds Tryd.pinned (OpenSpec.upto descEncodesSpec)

/-- 'portreevelaw04.DescDecodes', WHERE WHAT IT READS IS OF BULK AT MOST 1048576: true; the input reads as it did. -/
def descDecodesUptoRow : OpenClaim := { program := "ytoolmhkonhcfpaadoor", sum := "a249f7332ac2a10f94e29bcfe50e8d9b80cf5a3400d80abe145ea438addb9c14", func := "portreeve/portreevelaw04.DescDecodes", spec := "descDecodes", named := ["portreeve/desc.outField", "portreeve/desc.attrField"], apart := false, laid := [("portreeve/desc.attrField", laid_portreeve_desc_attrField), ("portreeve/desc.outField", laid_portreeve_desc_outField)], narrowed := true }
def DescDecodesUptoSaid : Prop := descDecodesUptoRow.holds Tryd.pinned (OpenSpec.upto descDecodesSpec)

/-- 'portreevelaw04.DescBases', WHERE WHAT IT READS IS OF BULK AT MOST 1048576: true; the input reads as it did. -/
def descBasesUptoRow : OpenClaim := { program := "ytoolmhkonhcfpaadoor", sum := "a249f7332ac2a10f94e29bcfe50e8d9b80cf5a3400d80abe145ea438addb9c14", func := "portreeve/portreevelaw04.DescBases", spec := "descBases", named := ["portreeve/desc.outField", "portreeve/desc.attrField", "portreeve/desc.asidField"], apart := false, laid := [("portreeve/desc.attrField", laid_portreeve_desc_attrField), ("portreeve/desc.outField", laid_portreeve_desc_outField), ("portreeve/desc.asidField", laid_portreeve_desc_asidField)], narrowed := true }
def DescBasesUptoSaid : Prop := descBasesUptoRow.holds Tryd.pinned (OpenSpec.upto descBasesSpec)

/-- 'portreevelaw04.DescBits', WHERE WHAT IT READS IS OF BULK AT MOST 1048576: true; the input reads as it did. -/
def descBitsUptoRow : OpenClaim := { program := "ytoolmhkonhcfpaadoor", sum := "a249f7332ac2a10f94e29bcfe50e8d9b80cf5a3400d80abe145ea438addb9c14", func := "portreeve/portreevelaw04.DescBits", spec := "descBits", named := ["portreeve/desc.outField", "portreeve/desc.attrField"], apart := false, laid := [("portreeve/desc.attrField", laid_portreeve_desc_attrField), ("portreeve/desc.outField", laid_portreeve_desc_outField)], narrowed := true }
def DescBitsUptoSaid : Prop := descBitsUptoRow.holds Tryd.pinned (OpenSpec.upto descBitsSpec)

end Rows
end Go.Proofs.YtoolmhkonhcfpaaDoor
