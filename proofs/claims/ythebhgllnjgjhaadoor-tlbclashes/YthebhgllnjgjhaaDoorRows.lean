/-
  NARROWER THAN 'FOR EVERY INPUT', by the rows' own cells (each row's printed sentence says how): TlbPlays: laid · TlbFlushes: laid · TlbMatches: laid · TlbClashes: laid.
  DERIVED. THE GIVEN ROWS OF THIS SEAT. 4 by the template 'for every input the law returns true; each argument reads behind the call as it read before'; 0 by the template 'total and deterministic' (their statements: YthebhgllnjgjhaaDoorTotals.lean).
  GIVEN WITH THE SEED: the statements are not yours to turn. If you find one false, say at which input.
  Laid BY PROGRAM, IN A SANDBOX (cutbox-rows.mjs): the forced cells as the released guide's own fill.sh prints them over the translation 307ac803c92aa4a6… (all of the seat's roots in one cut). By AI agents, Wed Nov 11 2026. No macro, syntax, notation, axiom, sorry.
-/
import Derived.Test.YthebhgllnjgjhaaDoorChecked
import GoSem.Claim
import GoSem.ClaimJoined
import GoSem.ClaimMapViews
import Derived.JoinedTies
import Derived.KernelRfl
namespace Go.Proofs.YthebhgllnjgjhaaDoor
/- THE CELL 'sum', in the pinned program and in every row, IS THE sha256 OF THE DUMP (.gsa) THAT YthebhgllnjgjhaaDoorProg.lean LOADS. Nothing in Lean hashes anything: it is a label: what it is worth is what the hold of that sum in a sandbox is worth. -/
noncomputable def Tryd.pinned : Pinned := { name := "ythebhgllnjgjhaadoor", sum := "307ac803c92aa4a6f42f1acd619db5c272de196fad2b1e73643c1da5cc1d0924", checked := Tryd.checked }
namespace Rows
def none {H : Type} : Left H := { results := [], args := [] }

/- WHAT THE LISTED PACKAGE-LEVEL VARIABLES READ AS WHEN THE CALL BEGINS. Each datum BY PROGRAM (the guide's laid-datum.mjs) off the statement by which the dump's own 'gosem.cut.vars' lays the variable. In a bare row this is a premise. The card (YthebhgllnjgjhaaDoorCards.lean) ties it to the program's text. -/
def laid_portreeve_desc_outField {H : Type} : DataW H := .agg [.lit (.int .i64 12), .lit (.int .i64 36)]

/-- 'portreevelaw07.TlbPlays': WHATEVER THE INPUT: true; the input reads as it did. -/
def tlbPlaysSpec : ChangeSpec := { name := "tlbPlays", fn := fun _ => fun
  | [d1, d2] => { results := [.lit (.bool true)], args := [d1, d2] }
  | _ => none }
def tlbPlaysRow : OpenClaim := { program := "ythebhgllnjgjhaadoor", sum := "307ac803c92aa4a6f42f1acd619db5c272de196fad2b1e73643c1da5cc1d0924", func := "portreeve/portreevelaw07.TlbPlays", spec := "tlbPlays", unfollowed := true, recurses := true, named := ["portreeve/desc.outField"], apart := false, laid := [("portreeve/desc.outField", laid_portreeve_desc_outField)] }
def TlbPlaysSaid : Prop := tlbPlaysRow.holds Tryd.pinned (OpenSpec.ofChange tlbPlaysSpec)

/-- ITS FALSE NEIGHBOUR: 'it returns false'. Refute it at one input. -/
def tlbPlaysWrong : ChangeSpec := { name := "tlbPlays", fn := fun _ => fun
  | [d1, d2] => { results := [.lit (.bool false)], args := [d1, d2] }
  | _ => none }
def TlbPlaysWrongFalsely : Prop := tlbPlaysRow.holds Tryd.pinned (OpenSpec.ofChange tlbPlaysWrong)

/-- 'portreevelaw07.TlbFlushes': WHATEVER THE INPUT: true; the input reads as it did. -/
def tlbFlushesSpec : ChangeSpec := { name := "tlbFlushes", fn := fun _ => fun
  | [d1, d2, d3, d4] => { results := [.lit (.bool true)], args := [d1, d2, d3, d4] }
  | _ => none }
def tlbFlushesRow : OpenClaim := { program := "ythebhgllnjgjhaadoor", sum := "307ac803c92aa4a6f42f1acd619db5c272de196fad2b1e73643c1da5cc1d0924", func := "portreeve/portreevelaw07.TlbFlushes", spec := "tlbFlushes", unfollowed := true, recurses := true, named := ["portreeve/desc.outField"], apart := false, laid := [("portreeve/desc.outField", laid_portreeve_desc_outField)] }
def TlbFlushesSaid : Prop := tlbFlushesRow.holds Tryd.pinned (OpenSpec.ofChange tlbFlushesSpec)

/-- ITS FALSE NEIGHBOUR: 'it returns false'. Refute it at one input. -/
def tlbFlushesWrong : ChangeSpec := { name := "tlbFlushes", fn := fun _ => fun
  | [d1, d2, d3, d4] => { results := [.lit (.bool false)], args := [d1, d2, d3, d4] }
  | _ => none }
def TlbFlushesWrongFalsely : Prop := tlbFlushesRow.holds Tryd.pinned (OpenSpec.ofChange tlbFlushesWrong)

/-- 'portreevelaw07.TlbMatches': WHATEVER THE INPUT: true; the input reads as it did. -/
def tlbMatchesSpec : ChangeSpec := { name := "tlbMatches", fn := fun _ => fun
  | [d1, d2, d3] => { results := [.lit (.bool true)], args := [d1, d2, d3] }
  | _ => none }
def tlbMatchesRow : OpenClaim := { program := "ythebhgllnjgjhaadoor", sum := "307ac803c92aa4a6f42f1acd619db5c272de196fad2b1e73643c1da5cc1d0924", func := "portreeve/portreevelaw07.TlbMatches", spec := "tlbMatches", named := ["portreeve/desc.outField"], apart := false, laid := [("portreeve/desc.outField", laid_portreeve_desc_outField)] }
def TlbMatchesSaid : Prop := tlbMatchesRow.holds Tryd.pinned (OpenSpec.ofChange tlbMatchesSpec)

/-- ITS FALSE NEIGHBOUR: 'it returns false'. Refute it at one input. -/
def tlbMatchesWrong : ChangeSpec := { name := "tlbMatches", fn := fun _ => fun
  | [d1, d2, d3] => { results := [.lit (.bool false)], args := [d1, d2, d3] }
  | _ => none }
def TlbMatchesWrongFalsely : Prop := tlbMatchesRow.holds Tryd.pinned (OpenSpec.ofChange tlbMatchesWrong)

/-- 'portreevelaw07.TlbClashes': WHATEVER THE INPUT: true; the input reads as it did. -/
def tlbClashesSpec : ChangeSpec := { name := "tlbClashes", fn := fun _ => fun
  | [d1, d2] => { results := [.lit (.bool true)], args := [d1, d2] }
  | _ => none }
def tlbClashesRow : OpenClaim := { program := "ythebhgllnjgjhaadoor", sum := "307ac803c92aa4a6f42f1acd619db5c272de196fad2b1e73643c1da5cc1d0924", func := "portreeve/portreevelaw07.TlbClashes", spec := "tlbClashes", named := ["portreeve/desc.outField"], apart := false, laid := [("portreeve/desc.outField", laid_portreeve_desc_outField)] }
def TlbClashesSaid : Prop := tlbClashesRow.holds Tryd.pinned (OpenSpec.ofChange tlbClashesSpec)

/-- ITS FALSE NEIGHBOUR: 'it returns false'. Refute it at one input. -/
def tlbClashesWrong : ChangeSpec := { name := "tlbClashes", fn := fun _ => fun
  | [d1, d2] => { results := [.lit (.bool false)], args := [d1, d2] }
  | _ => none }
def TlbClashesWrongFalsely : Prop := tlbClashesRow.holds Tryd.pinned (OpenSpec.ofChange tlbClashesWrong)

/- THE SECOND FORM. 'bulk': how many values and letters a reading holds, each counted each time it is reached (what is shared counts as often as it is met; a slice's spare places count too). A statement '..UptoSaid' is the law's where the arguments, and the package variables that the reading takes, are together of bulk at most 1048576: NARROWER than '..Said'. Prove '..Said' where nothing that the law and all that it calls make is longer than what came in: it says more and counts as full. Else prove '..UptoSaid'. A law counts once. -/
mutual
def uptoBulk {H : Type} : DataW H → Nat
  | .lit (.string bytes) => bytes.length + 1
  | .lit _ => 1
  | .nil => 1
  | .ptr d => uptoBulk d + 1
  | .slice elems spare => uptoBulkAll elems + uptoBulkAll spare + 1
  | .agg parts => uptoBulkAll parts + 1
  | .iface _ d => uptoBulk d + 1
  | .map entries => uptoBulkEntries entries + 1
  | .held _ => 1
def uptoBulkAll {H : Type} : List (DataW H) → Nat
  | [] => 0
  | d :: r => uptoBulk d + uptoBulkAll r
def uptoBulkEntries {H : Type} : List (Lit × DataW H) → Nat
  | [] => 0
  | x :: r => uptoBulkEntry x + uptoBulkEntries r
def uptoBulkEntry {H : Type} : Lit × DataW H → Nat
  | (.string bytes, d) => bytes.length + uptoBulk d + 1
  | (_, d) => uptoBulk d + 1
 end
def uptoSmall : (H : Type) → List (DataW H) → Bool := fun _ ds => decide (uptoBulkAll ds ≤ 1048576)
def OpenSpec.upto (s : _root_.Go.ChangeSpec) : _root_.Go.OpenSpec := { _root_.Go.OpenSpec.ofChange s with cond := some uptoSmall }

/-- 'portreevelaw07.TlbPlays', WHERE WHAT IT READS IS OF BULK AT MOST 1048576: true; the input reads as it did. -/
def tlbPlaysUptoRow : OpenClaim := { program := "ythebhgllnjgjhaadoor", sum := "307ac803c92aa4a6f42f1acd619db5c272de196fad2b1e73643c1da5cc1d0924", func := "portreeve/portreevelaw07.TlbPlays", spec := "tlbPlays", unfollowed := true, recurses := true, named := ["portreeve/desc.outField"], apart := false, laid := [("portreeve/desc.outField", laid_portreeve_desc_outField)], narrowed := true }
def TlbPlaysUptoSaid : Prop := tlbPlaysUptoRow.holds Tryd.pinned (OpenSpec.upto tlbPlaysSpec)

/-- 'portreevelaw07.TlbFlushes', WHERE WHAT IT READS IS OF BULK AT MOST 1048576: true; the input reads as it did. -/
def tlbFlushesUptoRow : OpenClaim := { program := "ythebhgllnjgjhaadoor", sum := "307ac803c92aa4a6f42f1acd619db5c272de196fad2b1e73643c1da5cc1d0924", func := "portreeve/portreevelaw07.TlbFlushes", spec := "tlbFlushes", unfollowed := true, recurses := true, named := ["portreeve/desc.outField"], apart := false, laid := [("portreeve/desc.outField", laid_portreeve_desc_outField)], narrowed := true }
def TlbFlushesUptoSaid : Prop := tlbFlushesUptoRow.holds Tryd.pinned (OpenSpec.upto tlbFlushesSpec)

/-- 'portreevelaw07.TlbMatches', WHERE WHAT IT READS IS OF BULK AT MOST 1048576: true; the input reads as it did. -/
def tlbMatchesUptoRow : OpenClaim := { program := "ythebhgllnjgjhaadoor", sum := "307ac803c92aa4a6f42f1acd619db5c272de196fad2b1e73643c1da5cc1d0924", func := "portreeve/portreevelaw07.TlbMatches", spec := "tlbMatches", named := ["portreeve/desc.outField"], apart := false, laid := [("portreeve/desc.outField", laid_portreeve_desc_outField)], narrowed := true }
def TlbMatchesUptoSaid : Prop := tlbMatchesUptoRow.holds Tryd.pinned (OpenSpec.upto tlbMatchesSpec)

/-- 'portreevelaw07.TlbClashes', WHERE WHAT IT READS IS OF BULK AT MOST 1048576: true; the input reads as it did. -/
def tlbClashesUptoRow : OpenClaim := { program := "ythebhgllnjgjhaadoor", sum := "307ac803c92aa4a6f42f1acd619db5c272de196fad2b1e73643c1da5cc1d0924", func := "portreeve/portreevelaw07.TlbClashes", spec := "tlbClashes", named := ["portreeve/desc.outField"], apart := false, laid := [("portreeve/desc.outField", laid_portreeve_desc_outField)], narrowed := true }
def TlbClashesUptoSaid : Prop := tlbClashesUptoRow.holds Tryd.pinned (OpenSpec.upto tlbClashesSpec)

end Rows
end Go.Proofs.YthebhgllnjgjhaaDoor
