/-
  NARROWER THAN 'FOR EVERY INPUT', by the rows' own cells (each row's printed sentence says how): TreeBelow: laid · TreeWrites: laid.
  DERIVED. THE GIVEN ROWS OF THIS SEAT. 2 by the template 'for every input the law returns true; each argument reads behind the call as it read before'; 0 by the template 'total and deterministic' (their statements: YtcmndefjmhcbhaaDoorTotals.lean).
  GIVEN WITH THE SEED: the statements are not yours to turn. If you find one false, say at which input.
  Laid BY PROGRAM, IN A SANDBOX (cutbox-rows.mjs): the forced cells as the released guide's own fill.sh prints them over the translation d4ad9a806342c156… (all of the seat's roots in one cut). By AI agents, Wed Nov 11 2026. No macro, syntax, notation, axiom, sorry.
-/
import Derived.Test.YtcmndefjmhcbhaaDoorChecked
import GoSem.Claim
import GoSem.ClaimJoined
import GoSem.ClaimMapViews
import Derived.JoinedTies
import Derived.KernelRfl
namespace Go.Proofs.YtcmndefjmhcbhaaDoor
/- THE CELL 'sum', in the pinned program and in every row, IS THE sha256 OF THE DUMP (.gsa) THAT YtcmndefjmhcbhaaDoorProg.lean LOADS. Nothing in Lean hashes anything: it is a label: what it is worth is what the hold of that sum in a sandbox is worth. -/
noncomputable def Tryd.pinned : Pinned := { name := "ytcmndefjmhcbhaadoor", sum := "d4ad9a806342c1562062f2693ca6ca670f0d55e87661416e055988220afeb78c", checked := Tryd.checked }
namespace Rows
def none {H : Type} : Left H := { results := [], args := [] }

/- WHAT THE LISTED PACKAGE-LEVEL VARIABLES READ AS WHEN THE CALL BEGINS. Each datum BY PROGRAM (the guide's laid-datum.mjs) off the statement by which the dump's own 'gosem.cut.vars' lays the variable. In a bare row this is a premise. The card (YtcmndefjmhcbhaaDoorCards.lean) ties it to the program's text. -/
def laid_portreeve_cap_kindPart {H : Type} : DataW H := .agg [.agg [.lit (.int .i64 0), .lit (.int .i64 4)], .lit (.int .i64 0)]
def laid_portreeve_cap_bitsPart {H : Type} : DataW H := .agg [.agg [.lit (.int .i64 4), .lit (.int .i64 6)], .lit (.int .i64 0)]
def laid_portreeve_cap_rightsPart {H : Type} : DataW H := .agg [.agg [.lit (.int .i64 10), .lit (.int .i64 3)], .lit (.int .i64 0)]
def laid_portreeve_cap_guardPart {H : Type} : DataW H := .agg [.agg [.lit (.int .i64 13), .lit (.int .i64 6)], .lit (.int .i64 0)]
def laid_portreeve_cap_asidPart {H : Type} : DataW H := .agg [.agg [.lit (.int .i64 19), .lit (.int .i64 16)], .lit (.int .i64 0)]
def laid_portreeve_cap_atPart {H : Type} : DataW H := .agg [.agg [.lit (.int .i64 35), .lit (.int .i64 27)], .lit (.int .i64 5)]
def laid_portreeve_slot_nextPart {H : Type} : DataW H := .agg [.lit (.int .i64 0), .lit (.int .i64 27)]
def laid_portreeve_slot_prevPart {H : Type} : DataW H := .agg [.lit (.int .i64 32), .lit (.int .i64 27)]

/-- 'portreevelaw13.TreeBelow': WHATEVER THE INPUT: true; the input reads as it did. -/
def treeBelowSpec : ChangeSpec := { name := "treeBelow", fn := fun _ => fun
  | [d1, d2, d3, d4] => { results := [.lit (.bool true)], args := [d1, d2, d3, d4] }
  | _ => none }
def treeBelowRow : OpenClaim := { program := "ytcmndefjmhcbhaadoor", sum := "d4ad9a806342c1562062f2693ca6ca670f0d55e87661416e055988220afeb78c", func := "portreeve/portreevelaw13.TreeBelow", spec := "treeBelow", unfollowed := true, recurses := true, named := ["portreeve/slot.nextPart", "portreeve/slot.prevPart", "portreeve/cap.kindPart", "portreeve/cap.atPart", "portreeve/cap.bitsPart", "portreeve/cap.rightsPart", "portreeve/cap.guardPart", "portreeve/cap.asidPart"], apart := false, laid := [("portreeve/cap.kindPart", laid_portreeve_cap_kindPart), ("portreeve/cap.bitsPart", laid_portreeve_cap_bitsPart), ("portreeve/cap.rightsPart", laid_portreeve_cap_rightsPart), ("portreeve/cap.guardPart", laid_portreeve_cap_guardPart), ("portreeve/cap.asidPart", laid_portreeve_cap_asidPart), ("portreeve/cap.atPart", laid_portreeve_cap_atPart), ("portreeve/slot.nextPart", laid_portreeve_slot_nextPart), ("portreeve/slot.prevPart", laid_portreeve_slot_prevPart)] }
def TreeBelowSaid : Prop := treeBelowRow.holds Tryd.pinned (OpenSpec.ofChange treeBelowSpec)

/-- ITS FALSE NEIGHBOUR: 'it returns false'. Refute it at one input. -/
def treeBelowWrong : ChangeSpec := { name := "treeBelow", fn := fun _ => fun
  | [d1, d2, d3, d4] => { results := [.lit (.bool false)], args := [d1, d2, d3, d4] }
  | _ => none }
def TreeBelowWrongFalsely : Prop := treeBelowRow.holds Tryd.pinned (OpenSpec.ofChange treeBelowWrong)

/-- 'portreevelaw13.TreeWrites': WHATEVER THE INPUT: true; the input reads as it did. -/
def treeWritesSpec : ChangeSpec := { name := "treeWrites", fn := fun _ => fun
  | [d1, d2, d3] => { results := [.lit (.bool true)], args := [d1, d2, d3] }
  | _ => none }
def treeWritesRow : OpenClaim := { program := "ytcmndefjmhcbhaadoor", sum := "d4ad9a806342c1562062f2693ca6ca670f0d55e87661416e055988220afeb78c", func := "portreeve/portreevelaw13.TreeWrites", spec := "treeWrites", unfollowed := true, recurses := true, named := ["portreeve/slot.nextPart", "portreeve/slot.prevPart", "portreeve/cap.kindPart", "portreeve/cap.atPart", "portreeve/cap.bitsPart", "portreeve/cap.rightsPart", "portreeve/cap.guardPart", "portreeve/cap.asidPart"], apart := false, laid := [("portreeve/cap.kindPart", laid_portreeve_cap_kindPart), ("portreeve/cap.bitsPart", laid_portreeve_cap_bitsPart), ("portreeve/cap.rightsPart", laid_portreeve_cap_rightsPart), ("portreeve/cap.guardPart", laid_portreeve_cap_guardPart), ("portreeve/cap.asidPart", laid_portreeve_cap_asidPart), ("portreeve/cap.atPart", laid_portreeve_cap_atPart), ("portreeve/slot.nextPart", laid_portreeve_slot_nextPart), ("portreeve/slot.prevPart", laid_portreeve_slot_prevPart)] }
def TreeWritesSaid : Prop := treeWritesRow.holds Tryd.pinned (OpenSpec.ofChange treeWritesSpec)

/-- ITS FALSE NEIGHBOUR: 'it returns false'. Refute it at one input. -/
def treeWritesWrong : ChangeSpec := { name := "treeWrites", fn := fun _ => fun
  | [d1, d2, d3] => { results := [.lit (.bool false)], args := [d1, d2, d3] }
  | _ => none }
def TreeWritesWrongFalsely : Prop := treeWritesRow.holds Tryd.pinned (OpenSpec.ofChange treeWritesWrong)

/- THE SECOND FORM. 'bulk': how many values and letters a reading holds, each counted each time it is reached (what is shared counts as often as it is met; a slice's spare places count too). A statement '..UptoSaid' is the law's where the arguments, and the package variables that the reading takes, are together of bulk at most 1048576: NARROWER than '..Said'. Prove '..Said' where nothing that the law and all that it calls make is longer than what came in: it says more and counts as full. Else prove '..UptoSaid'. A law counts once. -/
mutual
def uptoBulk {H : Type} : DataW H → Nat
  | .lit (.string bytes) => bytes.length + 1
  | .lit _ => 1
  | .nil => 1
  | .ptr d => uptoBulk d + 1
  | .slice elems spare => uptoBulkAll elems + uptoBulkAll spare + 1
  | .agg parts => uptoBulkAll parts + 1
  | .iface _ d => uptoBulk d + 1
  | .map entries => uptoBulkEntries entries + 1
  | .held _ => 1
def uptoBulkAll {H : Type} : List (DataW H) → Nat
  | [] => 0
  | d :: r => uptoBulk d + uptoBulkAll r
def uptoBulkEntries {H : Type} : List (Lit × DataW H) → Nat
  | [] => 0
  | x :: r => uptoBulkEntry x + uptoBulkEntries r
def uptoBulkEntry {H : Type} : Lit × DataW H → Nat
  | (.string bytes, d) => bytes.length + uptoBulk d + 1
  | (_, d) => uptoBulk d + 1
 end
def uptoSmall : (H : Type) → List (DataW H) → Bool := fun _ ds => decide (uptoBulkAll ds ≤ 1048576)
def OpenSpec.upto (s : _root_.Go.ChangeSpec) : _root_.Go.OpenSpec := { _root_.Go.OpenSpec.ofChange s with cond := some uptoSmall }

/-- 'portreevelaw13.TreeBelow', WHERE WHAT IT READS IS OF BULK AT MOST 1048576: true; the input reads as it did. -/
def treeBelowUptoRow : OpenClaim := { program := "ytcmndefjmhcbhaadoor", sum := "d4ad9a806342c1562062f2693ca6ca670f0d55e87661416e055988220afeb78c", func := "portreeve/portreevelaw13.TreeBelow", spec := "treeBelow", unfollowed := true, recurses := true, named := ["portreeve/slot.nextPart", "portreeve/slot.prevPart", "portreeve/cap.kindPart", "portreeve/cap.atPart", "portreeve/cap.bitsPart", "portreeve/cap.rightsPart", "portreeve/cap.guardPart", "portreeve/cap.asidPart"], apart := false, laid := [("portreeve/cap.kindPart", laid_portreeve_cap_kindPart), ("portreeve/cap.bitsPart", laid_portreeve_cap_bitsPart), ("portreeve/cap.rightsPart", laid_portreeve_cap_rightsPart), ("portreeve/cap.guardPart", laid_portreeve_cap_guardPart), ("portreeve/cap.asidPart", laid_portreeve_cap_asidPart), ("portreeve/cap.atPart", laid_portreeve_cap_atPart), ("portreeve/slot.nextPart", laid_portreeve_slot_nextPart), ("portreeve/slot.prevPart", laid_portreeve_slot_prevPart)], narrowed := true }
def TreeBelowUptoSaid : Prop := treeBelowUptoRow.holds Tryd.pinned (OpenSpec.upto treeBelowSpec)

/-- 'portreevelaw13.TreeWrites', WHERE WHAT IT READS IS OF BULK AT MOST 1048576: true; the input reads as it did. -/
def treeWritesUptoRow : OpenClaim := { program := "ytcmndefjmhcbhaadoor", sum := "d4ad9a806342c1562062f2693ca6ca670f0d55e87661416e055988220afeb78c", func := "portreeve/portreevelaw13.TreeWrites", spec := "treeWrites", unfollowed := true, recurses := true, named := ["portreeve/slot.nextPart", "portreeve/slot.prevPart", "portreeve/cap.kindPart", "portreeve/cap.atPart", "portreeve/cap.bitsPart", "portreeve/cap.rightsPart", "portreeve/cap.guardPart", "portreeve/cap.asidPart"], apart := false, laid := [("portreeve/cap.kindPart", laid_portreeve_cap_kindPart), ("portreeve/cap.bitsPart", laid_portreeve_cap_bitsPart), ("portreeve/cap.rightsPart", laid_portreeve_cap_rightsPart), ("portreeve/cap.guardPart", laid_portreeve_cap_guardPart), ("portreeve/cap.asidPart", laid_portreeve_cap_asidPart), ("portreeve/cap.atPart", laid_portreeve_cap_atPart), ("portreeve/slot.nextPart", laid_portreeve_slot_nextPart), ("portreeve/slot.prevPart", laid_portreeve_slot_prevPart)], narrowed := true }
def TreeWritesUptoSaid : Prop := treeWritesUptoRow.holds Tryd.pinned (OpenSpec.upto treeWritesSpec)

end Rows
end Go.Proofs.YtcmndefjmhcbhaaDoor
