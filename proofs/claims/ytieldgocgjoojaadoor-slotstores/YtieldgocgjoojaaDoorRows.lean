/-
  NARROWER THAN 'FOR EVERY INPUT', by the rows' own cells (each row's printed sentence says how): SlotStores: laid · SlotLoads: laid · SlotWipes: laid.
  DERIVED. THE GIVEN ROWS OF THIS SEAT. 3 by the template 'for every input the law returns true; each argument reads behind the call as it read before'; 0 by the template 'total and deterministic' (their statements: YtieldgocgjoojaaDoorTotals.lean).
  GIVEN WITH THE SEED: the statements are not yours to turn. If you find one false, say at which input.
  Laid BY PROGRAM, IN A SANDBOX (cutbox-rows.mjs): the forced cells as the released guide's own fill.sh prints them over the translation 14167b3e9418b18c… (all of the seat's roots in one cut). By AI agents, Wed Nov 11 2026. No macro, syntax, notation, axiom, sorry.
-/
import Derived.Test.YtieldgocgjoojaaDoorChecked
import GoSem.Claim
import GoSem.ClaimJoined
import GoSem.ClaimMapViews
import Derived.JoinedTies
import Derived.KernelRfl
namespace Go.Proofs.YtieldgocgjoojaaDoor
/- THE CELL 'sum', in the pinned program and in every row, IS THE sha256 OF THE DUMP (.gsa) THAT YtieldgocgjoojaaDoorProg.lean LOADS. Nothing in Lean hashes anything: it is a label: what it is worth is what the hold of that sum in a sandbox is worth. -/
noncomputable def Tryd.pinned : Pinned := { name := "ytieldgocgjoojaadoor", sum := "14167b3e9418b18c8523128afaac613e6771ae7e60ea65b6bf23359af8b0f30f", checked := Tryd.checked }
namespace Rows
def none {H : Type} : Left H := { results := [], args := [] }

/- WHAT THE LISTED PACKAGE-LEVEL VARIABLES READ AS WHEN THE CALL BEGINS. Each datum BY PROGRAM (the guide's laid-datum.mjs) off the statement by which the dump's own 'gosem.cut.vars' lays the variable. In a bare row this is a premise. The card (YtieldgocgjoojaaDoorCards.lean) ties it to the program's text. -/
def laid_portreeve_cap_kindPart {H : Type} : DataW H := .agg [.agg [.lit (.int .i64 0), .lit (.int .i64 4)], .lit (.int .i64 0)]
def laid_portreeve_cap_bitsPart {H : Type} : DataW H := .agg [.agg [.lit (.int .i64 4), .lit (.int .i64 6)], .lit (.int .i64 0)]
def laid_portreeve_cap_rightsPart {H : Type} : DataW H := .agg [.agg [.lit (.int .i64 10), .lit (.int .i64 3)], .lit (.int .i64 0)]
def laid_portreeve_cap_guardPart {H : Type} : DataW H := .agg [.agg [.lit (.int .i64 13), .lit (.int .i64 6)], .lit (.int .i64 0)]
def laid_portreeve_cap_asidPart {H : Type} : DataW H := .agg [.agg [.lit (.int .i64 19), .lit (.int .i64 16)], .lit (.int .i64 0)]
def laid_portreeve_cap_atPart {H : Type} : DataW H := .agg [.agg [.lit (.int .i64 35), .lit (.int .i64 27)], .lit (.int .i64 5)]
def laid_portreeve_slot_nextPart {H : Type} : DataW H := .agg [.lit (.int .i64 0), .lit (.int .i64 27)]
def laid_portreeve_slot_prevPart {H : Type} : DataW H := .agg [.lit (.int .i64 32), .lit (.int .i64 27)]

/-- 'portreevelaw12.SlotStores': WHATEVER THE INPUT: true; the input reads as it did. -/
def slotStoresSpec : ChangeSpec := { name := "slotStores", fn := fun _ => fun
  | [d1, d2, d3] => { results := [.lit (.bool true)], args := [d1, d2, d3] }
  | _ => none }
def slotStoresRow : OpenClaim := { program := "ytieldgocgjoojaadoor", sum := "14167b3e9418b18c8523128afaac613e6771ae7e60ea65b6bf23359af8b0f30f", func := "portreeve/portreevelaw12.SlotStores", spec := "slotStores", named := ["portreeve/slot.nextPart", "portreeve/slot.prevPart", "portreeve/cap.kindPart", "portreeve/cap.bitsPart", "portreeve/cap.rightsPart", "portreeve/cap.guardPart", "portreeve/cap.asidPart", "portreeve/cap.atPart"], apart := false, laid := [("portreeve/cap.kindPart", laid_portreeve_cap_kindPart), ("portreeve/cap.bitsPart", laid_portreeve_cap_bitsPart), ("portreeve/cap.rightsPart", laid_portreeve_cap_rightsPart), ("portreeve/cap.guardPart", laid_portreeve_cap_guardPart), ("portreeve/cap.asidPart", laid_portreeve_cap_asidPart), ("portreeve/cap.atPart", laid_portreeve_cap_atPart), ("portreeve/slot.nextPart", laid_portreeve_slot_nextPart), ("portreeve/slot.prevPart", laid_portreeve_slot_prevPart)] }
def SlotStoresSaid : Prop := slotStoresRow.holds Tryd.pinned (OpenSpec.ofChange slotStoresSpec)

/-- ITS FALSE NEIGHBOUR: 'it returns false'. Refute it at one input. -/
def slotStoresWrong : ChangeSpec := { name := "slotStores", fn := fun _ => fun
  | [d1, d2, d3] => { results := [.lit (.bool false)], args := [d1, d2, d3] }
  | _ => none }
def SlotStoresWrongFalsely : Prop := slotStoresRow.holds Tryd.pinned (OpenSpec.ofChange slotStoresWrong)

/-- 'portreevelaw12.SlotLoads': WHATEVER THE INPUT: true; the input reads as it did. -/
def slotLoadsSpec : ChangeSpec := { name := "slotLoads", fn := fun _ => fun
  | [d1, d2] => { results := [.lit (.bool true)], args := [d1, d2] }
  | _ => none }
def slotLoadsRow : OpenClaim := { program := "ytieldgocgjoojaadoor", sum := "14167b3e9418b18c8523128afaac613e6771ae7e60ea65b6bf23359af8b0f30f", func := "portreeve/portreevelaw12.SlotLoads", spec := "slotLoads", named := ["portreeve/slot.nextPart", "portreeve/slot.prevPart", "portreeve/cap.kindPart", "portreeve/cap.bitsPart", "portreeve/cap.rightsPart", "portreeve/cap.guardPart", "portreeve/cap.asidPart", "portreeve/cap.atPart"], apart := false, laid := [("portreeve/cap.kindPart", laid_portreeve_cap_kindPart), ("portreeve/cap.bitsPart", laid_portreeve_cap_bitsPart), ("portreeve/cap.rightsPart", laid_portreeve_cap_rightsPart), ("portreeve/cap.guardPart", laid_portreeve_cap_guardPart), ("portreeve/cap.asidPart", laid_portreeve_cap_asidPart), ("portreeve/cap.atPart", laid_portreeve_cap_atPart), ("portreeve/slot.nextPart", laid_portreeve_slot_nextPart), ("portreeve/slot.prevPart", laid_portreeve_slot_prevPart)] }
def SlotLoadsSaid : Prop := slotLoadsRow.holds Tryd.pinned (OpenSpec.ofChange slotLoadsSpec)

/-- ITS FALSE NEIGHBOUR: 'it returns false'. Refute it at one input. -/
def slotLoadsWrong : ChangeSpec := { name := "slotLoads", fn := fun _ => fun
  | [d1, d2] => { results := [.lit (.bool false)], args := [d1, d2] }
  | _ => none }
def SlotLoadsWrongFalsely : Prop := slotLoadsRow.holds Tryd.pinned (OpenSpec.ofChange slotLoadsWrong)

/-- 'portreevelaw12.SlotWipes': WHATEVER THE INPUT: true; the input reads as it did. -/
def slotWipesSpec : ChangeSpec := { name := "slotWipes", fn := fun _ => fun
  | [d1, d2, d3, d4] => { results := [.lit (.bool true)], args := [d1, d2, d3, d4] }
  | _ => none }
def slotWipesRow : OpenClaim := { program := "ytieldgocgjoojaadoor", sum := "14167b3e9418b18c8523128afaac613e6771ae7e60ea65b6bf23359af8b0f30f", func := "portreeve/portreevelaw12.SlotWipes", spec := "slotWipes", named := ["portreeve/slot.nextPart", "portreeve/slot.prevPart", "portreeve/cap.kindPart", "portreeve/cap.bitsPart", "portreeve/cap.rightsPart", "portreeve/cap.guardPart", "portreeve/cap.asidPart", "portreeve/cap.atPart"], apart := false, laid := [("portreeve/cap.kindPart", laid_portreeve_cap_kindPart), ("portreeve/cap.bitsPart", laid_portreeve_cap_bitsPart), ("portreeve/cap.rightsPart", laid_portreeve_cap_rightsPart), ("portreeve/cap.guardPart", laid_portreeve_cap_guardPart), ("portreeve/cap.asidPart", laid_portreeve_cap_asidPart), ("portreeve/cap.atPart", laid_portreeve_cap_atPart), ("portreeve/slot.nextPart", laid_portreeve_slot_nextPart), ("portreeve/slot.prevPart", laid_portreeve_slot_prevPart)] }
def SlotWipesSaid : Prop := slotWipesRow.holds Tryd.pinned (OpenSpec.ofChange slotWipesSpec)

/-- ITS FALSE NEIGHBOUR: 'it returns false'. Refute it at one input. -/
def slotWipesWrong : ChangeSpec := { name := "slotWipes", fn := fun _ => fun
  | [d1, d2, d3, d4] => { results := [.lit (.bool false)], args := [d1, d2, d3, d4] }
  | _ => none }
def SlotWipesWrongFalsely : Prop := slotWipesRow.holds Tryd.pinned (OpenSpec.ofChange slotWipesWrong)

/- THE SECOND FORM. 'bulk': how many values and letters a reading holds, each counted each time it is reached (what is shared counts as often as it is met; a slice's spare places count too). A statement '..UptoSaid' is the law's where the arguments, and the package variables that the reading takes, are together of bulk at most 1048576: NARROWER than '..Said'. Prove '..Said' where nothing that the law and all that it calls make is longer than what came in: it says more and counts as full. Else prove '..UptoSaid'. A law counts once. -/
mutual
def uptoBulk {H : Type} : DataW H → Nat
  | .lit (.string bytes) => bytes.length + 1
  | .lit _ => 1
  | .nil => 1
  | .ptr d => uptoBulk d + 1
  | .slice elems spare => uptoBulkAll elems + uptoBulkAll spare + 1
  | .agg parts => uptoBulkAll parts + 1
  | .iface _ d => uptoBulk d + 1
  | .map entries => uptoBulkEntries entries + 1
  | .held _ => 1
def uptoBulkAll {H : Type} : List (DataW H) → Nat
  | [] => 0
  | d :: r => uptoBulk d + uptoBulkAll r
def uptoBulkEntries {H : Type} : List (Lit × DataW H) → Nat
  | [] => 0
  | x :: r => uptoBulkEntry x + uptoBulkEntries r
def uptoBulkEntry {H : Type} : Lit × DataW H → Nat
  | (.string bytes, d) => bytes.length + uptoBulk d + 1
  | (_, d) => uptoBulk d + 1
 end
def uptoSmall : (H : Type) → List (DataW H) → Bool := fun _ ds => decide (uptoBulkAll ds ≤ 1048576)
def OpenSpec.upto (s : _root_.Go.ChangeSpec) : _root_.Go.OpenSpec := { _root_.Go.OpenSpec.ofChange s with cond := some uptoSmall }

/-- 'portreevelaw12.SlotStores', WHERE WHAT IT READS IS OF BULK AT MOST 1048576: true; the input reads as it did. -/
def slotStoresUptoRow : OpenClaim := { program := "ytieldgocgjoojaadoor", sum := "14167b3e9418b18c8523128afaac613e6771ae7e60ea65b6bf23359af8b0f30f", func := "portreeve/portreevelaw12.SlotStores", spec := "slotStores", named := ["portreeve/slot.nextPart", "portreeve/slot.prevPart", "portreeve/cap.kindPart", "portreeve/cap.bitsPart", "portreeve/cap.rightsPart", "portreeve/cap.guardPart", "portreeve/cap.asidPart", "portreeve/cap.atPart"], apart := false, laid := [("portreeve/cap.kindPart", laid_portreeve_cap_kindPart), ("portreeve/cap.bitsPart", laid_portreeve_cap_bitsPart), ("portreeve/cap.rightsPart", laid_portreeve_cap_rightsPart), ("portreeve/cap.guardPart", laid_portreeve_cap_guardPart), ("portreeve/cap.asidPart", laid_portreeve_cap_asidPart), ("portreeve/cap.atPart", laid_portreeve_cap_atPart), ("portreeve/slot.nextPart", laid_portreeve_slot_nextPart), ("portreeve/slot.prevPart", laid_portreeve_slot_prevPart)], narrowed := true }
def SlotStoresUptoSaid : Prop := slotStoresUptoRow.holds Tryd.pinned (OpenSpec.upto slotStoresSpec)

/-- 'portreevelaw12.SlotLoads', WHERE WHAT IT READS IS OF BULK AT MOST 1048576: true; the input reads as it did. -/
def slotLoadsUptoRow : OpenClaim := { program := "ytieldgocgjoojaadoor", sum := "14167b3e9418b18c8523128afaac613e6771ae7e60ea65b6bf23359af8b0f30f", func := "portreeve/portreevelaw12.SlotLoads", spec := "slotLoads", named := ["portreeve/slot.nextPart", "portreeve/slot.prevPart", "portreeve/cap.kindPart", "portreeve/cap.bitsPart", "portreeve/cap.rightsPart", "portreeve/cap.guardPart", "portreeve/cap.asidPart", "portreeve/cap.atPart"], apart := false, laid := [("portreeve/cap.kindPart", laid_portreeve_cap_kindPart), ("portreeve/cap.bitsPart", laid_portreeve_cap_bitsPart), ("portreeve/cap.rightsPart", laid_portreeve_cap_rightsPart), ("portreeve/cap.guardPart", laid_portreeve_cap_guardPart), ("portreeve/cap.asidPart", laid_portreeve_cap_asidPart), ("portreeve/cap.atPart", laid_portreeve_cap_atPart), ("portreeve/slot.nextPart", laid_portreeve_slot_nextPart), ("portreeve/slot.prevPart", laid_portreeve_slot_prevPart)], narrowed := true }
def SlotLoadsUptoSaid : Prop := slotLoadsUptoRow.holds Tryd.pinned (OpenSpec.upto slotLoadsSpec)

/-- 'portreevelaw12.SlotWipes', WHERE WHAT IT READS IS OF BULK AT MOST 1048576: true; the input reads as it did. -/
def slotWipesUptoRow : OpenClaim := { program := "ytieldgocgjoojaadoor", sum := "14167b3e9418b18c8523128afaac613e6771ae7e60ea65b6bf23359af8b0f30f", func := "portreeve/portreevelaw12.SlotWipes", spec := "slotWipes", named := ["portreeve/slot.nextPart", "portreeve/slot.prevPart", "portreeve/cap.kindPart", "portreeve/cap.bitsPart", "portreeve/cap.rightsPart", "portreeve/cap.guardPart", "portreeve/cap.asidPart", "portreeve/cap.atPart"], apart := false, laid := [("portreeve/cap.kindPart", laid_portreeve_cap_kindPart), ("portreeve/cap.bitsPart", laid_portreeve_cap_bitsPart), ("portreeve/cap.rightsPart", laid_portreeve_cap_rightsPart), ("portreeve/cap.guardPart", laid_portreeve_cap_guardPart), ("portreeve/cap.asidPart", laid_portreeve_cap_asidPart), ("portreeve/cap.atPart", laid_portreeve_cap_atPart), ("portreeve/slot.nextPart", laid_portreeve_slot_nextPart), ("portreeve/slot.prevPart", laid_portreeve_slot_prevPart)], narrowed := true }
def SlotWipesUptoSaid : Prop := slotWipesUptoRow.holds Tryd.pinned (OpenSpec.upto slotWipesSpec)

end Rows
end Go.Proofs.YtieldgocgjoojaaDoor
