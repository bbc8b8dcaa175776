/-
  NARROWER THAN 'FOR EVERY INPUT', by the rows' own cells (each row's printed sentence says how): VirtFaults: laid.
  DERIVED. THE GIVEN ROWS OF THIS SEAT. 1 by the template 'for every input the law returns true; each argument reads behind the call as it read before'; 0 by the template 'total and deterministic' (their statements: YtldbldblpmlfpaaDoorTotals.lean).
  GIVEN WITH THE SEED: the statements are not yours to turn. If you find one false, say at which input.
  Laid BY PROGRAM, IN A SANDBOX (cutbox-rows.mjs): the forced cells as the released guide's own fill.sh prints them over the translation 2d133701e49b1118… (all of the seat's roots in one cut). By AI agents, Wed Nov 11 2026. No macro, syntax, notation, axiom, sorry.
-/
import Derived.Test.YtldbldblpmlfpaaDoorChecked
import GoSem.Claim
import GoSem.ClaimJoined
import GoSem.ClaimMapViews
import Derived.JoinedTies
import Derived.KernelRfl
namespace Go.Proofs.YtldbldblpmlfpaaDoor
/- THE CELL 'sum', in the pinned program and in every row, IS THE sha256 OF THE DUMP (.gsa) THAT YtldbldblpmlfpaaDoorProg.lean LOADS. Nothing in Lean hashes anything: it is a label: what it is worth is what the hold of that sum in a sandbox is worth. -/
noncomputable def Tryd.pinned : Pinned := { name := "ytldbldblpmlfpaadoor", sum := "2d133701e49b11183f86a494554e15b7f4d3550afe5f04d98bd9a3e68843ffde", checked := Tryd.checked }
namespace Rows
def none {H : Type} : Left H := { results := [], args := [] }

/- WHAT THE LISTED PACKAGE-LEVEL VARIABLES READ AS WHEN THE CALL BEGINS. Each datum BY PROGRAM (the guide's laid-datum.mjs) off the statement by which the dump's own 'gosem.cut.vars' lays the variable. In a bare row this is a premise. The card (YtldbldblpmlfpaaDoorCards.lean) ties it to the program's text. -/
def laid_portreeve_virt_kindField {H : Type} : DataW H := .agg [.lit (.int .i64 0), .lit (.int .i64 4)]
def laid_portreeve_virt_levelField {H : Type} : DataW H := .agg [.lit (.int .i64 4), .lit (.int .i64 2)]

/-- 'portreevelaw05.VirtFaults': WHATEVER THE INPUT: true; the input reads as it did. -/
def virtFaultsSpec : ChangeSpec := { name := "virtFaults", fn := fun _ => fun
  | [d1, d2] => { results := [.lit (.bool true)], args := [d1, d2] }
  | _ => none }
def virtFaultsRow : OpenClaim := { program := "ytldbldblpmlfpaadoor", sum := "2d133701e49b11183f86a494554e15b7f4d3550afe5f04d98bd9a3e68843ffde", func := "portreeve/portreevelaw05.VirtFaults", spec := "virtFaults", named := ["portreeve/virt.levelField", "portreeve/virt.kindField"], apart := false, laid := [("portreeve/virt.kindField", laid_portreeve_virt_kindField), ("portreeve/virt.levelField", laid_portreeve_virt_levelField)] }
def VirtFaultsSaid : Prop := virtFaultsRow.holds Tryd.pinned (OpenSpec.ofChange virtFaultsSpec)

/-- ITS FALSE NEIGHBOUR: 'it returns false'. Refute it at one input. -/
def virtFaultsWrong : ChangeSpec := { name := "virtFaults", fn := fun _ => fun
  | [d1, d2] => { results := [.lit (.bool false)], args := [d1, d2] }
  | _ => none }
def VirtFaultsWrongFalsely : Prop := virtFaultsRow.holds Tryd.pinned (OpenSpec.ofChange virtFaultsWrong)

/- THE SECOND FORM. 'bulk': how many values and letters a reading holds, each counted each time it is reached (what is shared counts as often as it is met; a slice's spare places count too). A statement '..UptoSaid' is the law's where the arguments, and the package variables that the reading takes, are together of bulk at most 1048576: NARROWER than '..Said'. Prove '..Said' where nothing that the law and all that it calls make is longer than what came in: it says more and counts as full. Else prove '..UptoSaid'. A law counts once. -/
mutual
def uptoBulk {H : Type} : DataW H → Nat
  | .lit (.string bytes) => bytes.length + 1
  | .lit _ => 1
  | .nil => 1
  | .ptr d => uptoBulk d + 1
  | .slice elems spare => uptoBulkAll elems + uptoBulkAll spare + 1
  | .agg parts => uptoBulkAll parts + 1
  | .iface _ d => uptoBulk d + 1
  | .map entries => uptoBulkEntries entries + 1
  | .held _ => 1
def uptoBulkAll {H : Type} : List (DataW H) → Nat
  | [] => 0
  | d :: r => uptoBulk d + uptoBulkAll r
def uptoBulkEntries {H : Type} : List (Lit × DataW H) → Nat
  | [] => 0
  | x :: r => uptoBulkEntry x + uptoBulkEntries r
def uptoBulkEntry {H : Type} : Lit × DataW H → Nat
  | (.string bytes, d) => bytes.length + uptoBulk d + 1
  | (_, d) => uptoBulk d + 1
 end
def uptoSmall : (H : Type) → List (DataW H) → Bool := fun _ ds => decide (uptoBulkAll ds ≤ 1048576)
def OpenSpec.upto (s : _root_.Go.ChangeSpec) : _root_.Go.OpenSpec := { _root_.Go.OpenSpec.ofChange s with cond := some uptoSmall }

/-- 'portreevelaw05.VirtFaults', WHERE WHAT IT READS IS OF BULK AT MOST 1048576: true; the input reads as it did. -/
def virtFaultsUptoRow : OpenClaim := { program := "ytldbldblpmlfpaadoor", sum := "2d133701e49b11183f86a494554e15b7f4d3550afe5f04d98bd9a3e68843ffde", func := "portreeve/portreevelaw05.VirtFaults", spec := "virtFaults", named := ["portreeve/virt.levelField", "portreeve/virt.kindField"], apart := false, laid := [("portreeve/virt.kindField", laid_portreeve_virt_kindField), ("portreeve/virt.levelField", laid_portreeve_virt_levelField)], narrowed := true }
def VirtFaultsUptoSaid : Prop := virtFaultsUptoRow.holds Tryd.pinned (OpenSpec.upto virtFaultsSpec)

end Rows
end Go.Proofs.YtldbldblpmlfpaaDoor
