/-
  No cell of these rows narrows 'for every input' (looked for: loops, veiled, ifaces, maps, wideKeys, modest, calm, conditions, laid).
  DERIVED. THE GIVEN ROWS OF THIS SEAT. 5 by the template 'for every input the law returns true; each argument reads behind the call as it read before'; 0 by the template 'total and deterministic' (their statements: YtiedlkhbbnjkbaaTotals.lean).
  GIVEN WITH THE SEED: the statements are not yours to turn. If you find one false, say at which input.
  Laid BY PROGRAM, IN A SANDBOX (cutbox-rows.mjs): the forced cells as the released guide's own fill.sh prints them over the translation a0c585c80134998f… (all of the seat's roots in one cut). By AI agents, Wed Nov 11 2026. No macro, syntax, notation, axiom, sorry.
-/
import Derived.Test.YtiedlkhbbnjkbaaChecked
import GoSem.Claim
import GoSem.ClaimJoined
import GoSem.ClaimMapViews
import Derived.JoinedTies
import Derived.KernelRfl
namespace Go.Proofs.Ytiedlkhbbnjkbaa
/- THE CELL 'sum', in the pinned program and in every row, IS THE sha256 OF THE DUMP (.gsa) THAT YtiedlkhbbnjkbaaProg.lean LOADS. Nothing in Lean hashes anything: it is a label: what it is worth is what the hold of that sum in a sandbox is worth. -/
noncomputable def Try.pinned : Pinned := { name := "ytiedlkhbbnjkbaa", sum := "a0c585c80134998fab3b2c12af34b70dfce763b815b29b3274a6680723d58721", checked := Try.checked }
namespace Rows
def none {H : Type} : Left H := { results := [], args := [] }

/-- 'portreevelaw03.PhysPlays': WHATEVER THE INPUT: true; the input reads as it did. -/
def physPlaysSpec : ChangeSpec := { name := "physPlays", fn := fun _ => fun
  | [d1, d2] => { results := [.lit (.bool true)], args := [d1, d2] }
  | _ => none }
def physPlaysRow : OpenClaim := { program := "ytiedlkhbbnjkbaa", sum := "a0c585c80134998fab3b2c12af34b70dfce763b815b29b3274a6680723d58721", func := "portreeve/portreevelaw03.PhysPlays", spec := "physPlays", unfollowed := true, recurses := true, apart := false }
def PhysPlaysSaid : Prop := physPlaysRow.holds Try.pinned (OpenSpec.ofChange physPlaysSpec)

/-- ITS FALSE NEIGHBOUR: 'it returns false'. Refute it at one input. -/
def physPlaysWrong : ChangeSpec := { name := "physPlays", fn := fun _ => fun
  | [d1, d2] => { results := [.lit (.bool false)], args := [d1, d2] }
  | _ => none }
def PhysPlaysWrongFalsely : Prop := physPlaysRow.holds Try.pinned (OpenSpec.ofChange physPlaysWrong)

/-- 'portreevelaw03.PhysSame': WHATEVER THE INPUT: true; the input reads as it did. -/
def physSameSpec : ChangeSpec := { name := "physSame", fn := fun _ => fun
  | [d1, d2, d3] => { results := [.lit (.bool true)], args := [d1, d2, d3] }
  | _ => none }
def physSameRow : OpenClaim := { program := "ytiedlkhbbnjkbaa", sum := "a0c585c80134998fab3b2c12af34b70dfce763b815b29b3274a6680723d58721", func := "portreeve/portreevelaw03.PhysSame", spec := "physSame", apart := false }
def PhysSameSaid : Prop := physSameRow.holds Try.pinned (OpenSpec.ofChange physSameSpec)

/-- ITS FALSE NEIGHBOUR: 'it returns false'. Refute it at one input. -/
def physSameWrong : ChangeSpec := { name := "physSame", fn := fun _ => fun
  | [d1, d2, d3] => { results := [.lit (.bool false)], args := [d1, d2, d3] }
  | _ => none }
def PhysSameWrongFalsely : Prop := physSameRow.holds Try.pinned (OpenSpec.ofChange physSameWrong)

/-- 'portreevelaw03.PhysClears': WHATEVER THE INPUT: true; the input reads as it did. -/
def physClearsSpec : ChangeSpec := { name := "physClears", fn := fun _ => fun
  | [d1, d2, d3] => { results := [.lit (.bool true)], args := [d1, d2, d3] }
  | _ => none }
def physClearsRow : OpenClaim := { program := "ytiedlkhbbnjkbaa", sum := "a0c585c80134998fab3b2c12af34b70dfce763b815b29b3274a6680723d58721", func := "portreeve/portreevelaw03.PhysClears", spec := "physClears", apart := false }
def PhysClearsSaid : Prop := physClearsRow.holds Try.pinned (OpenSpec.ofChange physClearsSpec)

/-- ITS FALSE NEIGHBOUR: 'it returns false'. Refute it at one input. -/
def physClearsWrong : ChangeSpec := { name := "physClears", fn := fun _ => fun
  | [d1, d2, d3] => { results := [.lit (.bool false)], args := [d1, d2, d3] }
  | _ => none }
def PhysClearsWrongFalsely : Prop := physClearsRow.holds Try.pinned (OpenSpec.ofChange physClearsWrong)

/-- 'portreevelaw03.PhysDiffers': WHATEVER THE INPUT: true; the input reads as it did. -/
def physDiffersSpec : ChangeSpec := { name := "physDiffers", fn := fun _ => fun
  | [d1, d2, d3] => { results := [.lit (.bool true)], args := [d1, d2, d3] }
  | _ => none }
def physDiffersRow : OpenClaim := { program := "ytiedlkhbbnjkbaa", sum := "a0c585c80134998fab3b2c12af34b70dfce763b815b29b3274a6680723d58721", func := "portreeve/portreevelaw03.PhysDiffers", spec := "physDiffers", recurses := true, apart := false }
def PhysDiffersSaid : Prop := physDiffersRow.holds Try.pinned (OpenSpec.ofChange physDiffersSpec)

/-- ITS FALSE NEIGHBOUR: 'it returns false'. Refute it at one input. -/
def physDiffersWrong : ChangeSpec := { name := "physDiffers", fn := fun _ => fun
  | [d1, d2, d3] => { results := [.lit (.bool false)], args := [d1, d2, d3] }
  | _ => none }
def PhysDiffersWrongFalsely : Prop := physDiffersRow.holds Try.pinned (OpenSpec.ofChange physDiffersWrong)

/-- 'portreevelaw03.PhysFinds': WHATEVER THE INPUT: true; the input reads as it did. -/
def physFindsSpec : ChangeSpec := { name := "physFinds", fn := fun _ => fun
  | [d1, d2, d3] => { results := [.lit (.bool true)], args := [d1, d2, d3] }
  | _ => none }
def physFindsRow : OpenClaim := { program := "ytiedlkhbbnjkbaa", sum := "a0c585c80134998fab3b2c12af34b70dfce763b815b29b3274a6680723d58721", func := "portreeve/portreevelaw03.PhysFinds", spec := "physFinds", apart := false }
def PhysFindsSaid : Prop := physFindsRow.holds Try.pinned (OpenSpec.ofChange physFindsSpec)

/-- ITS FALSE NEIGHBOUR: 'it returns false'. Refute it at one input. -/
def physFindsWrong : ChangeSpec := { name := "physFinds", fn := fun _ => fun
  | [d1, d2, d3] => { results := [.lit (.bool false)], args := [d1, d2, d3] }
  | _ => none }
def PhysFindsWrongFalsely : Prop := physFindsRow.holds Try.pinned (OpenSpec.ofChange physFindsWrong)

/- THE SECOND FORM. 'bulk': how many values and letters a reading holds, each counted each time it is reached (what is shared counts as often as it is met; a slice's spare places count too). A statement '..UptoSaid' is the law's where the arguments, and the package variables that the reading takes, are together of bulk at most 1048576: NARROWER than '..Said'. Prove '..Said' where nothing that the law and all that it calls make is longer than what came in: it says more and counts as full. Else prove '..UptoSaid'. A law counts once. -/
mutual
def uptoBulk {H : Type} : DataW H → Nat
  | .lit (.string bytes) => bytes.length + 1
  | .lit _ => 1
  | .nil => 1
  | .ptr d => uptoBulk d + 1
  | .slice elems spare => uptoBulkAll elems + uptoBulkAll spare + 1
  | .agg parts => uptoBulkAll parts + 1
  | .iface _ d => uptoBulk d + 1
  | .map entries => uptoBulkEntries entries + 1
  | .held _ => 1
def uptoBulkAll {H : Type} : List (DataW H) → Nat
  | [] => 0
  | d :: r => uptoBulk d + uptoBulkAll r
def uptoBulkEntries {H : Type} : List (Lit × DataW H) → Nat
  | [] => 0
  | x :: r => uptoBulkEntry x + uptoBulkEntries r
def uptoBulkEntry {H : Type} : Lit × DataW H → Nat
  | (.string bytes, d) => bytes.length + uptoBulk d + 1
  | (_, d) => uptoBulk d + 1
 end
def uptoSmall : (H : Type) → List (DataW H) → Bool := fun _ ds => decide (uptoBulkAll ds ≤ 1048576)
def OpenSpec.upto (s : _root_.Go.ChangeSpec) : _root_.Go.OpenSpec := { _root_.Go.OpenSpec.ofChange s with cond := some uptoSmall }

/-- 'portreevelaw03.PhysPlays', WHERE WHAT IT READS IS OF BULK AT MOST 1048576: true; the input reads as it did. -/
def physPlaysUptoRow : OpenClaim := { program := "ytiedlkhbbnjkbaa", sum := "a0c585c80134998fab3b2c12af34b70dfce763b815b29b3274a6680723d58721", func := "portreeve/portreevelaw03.PhysPlays", spec := "physPlays", unfollowed := true, recurses := true, apart := false, narrowed := true }
def PhysPlaysUptoSaid : Prop := physPlaysUptoRow.holds Try.pinned (OpenSpec.upto physPlaysSpec)

/-- 'portreevelaw03.PhysSame', WHERE WHAT IT READS IS OF BULK AT MOST 1048576: true; the input reads as it did. -/
def physSameUptoRow : OpenClaim := { program := "ytiedlkhbbnjkbaa", sum := "a0c585c80134998fab3b2c12af34b70dfce763b815b29b3274a6680723d58721", func := "portreeve/portreevelaw03.PhysSame", spec := "physSame", apart := false, narrowed := true }
def PhysSameUptoSaid : Prop := physSameUptoRow.holds Try.pinned (OpenSpec.upto physSameSpec)

/-- 'portreevelaw03.PhysClears', WHERE WHAT IT READS IS OF BULK AT MOST 1048576: true; the input reads as it did. -/
def physClearsUptoRow : OpenClaim := { program := "ytiedlkhbbnjkbaa", sum := "a0c585c80134998fab3b2c12af34b70dfce763b815b29b3274a6680723d58721", func := "portreeve/portreevelaw03.PhysClears", spec := "physClears", apart := false, narrowed := true }
def PhysClearsUptoSaid : Prop := physClearsUptoRow.holds Try.pinned (OpenSpec.upto physClearsSpec)

/-- 'portreevelaw03.PhysDiffers', WHERE WHAT IT READS IS OF BULK AT MOST 1048576: true; the input reads as it did. -/
def physDiffersUptoRow : OpenClaim := { program := "ytiedlkhbbnjkbaa", sum := "a0c585c80134998fab3b2c12af34b70dfce763b815b29b3274a6680723d58721", func := "portreeve/portreevelaw03.PhysDiffers", spec := "physDiffers", recurses := true, apart := false, narrowed := true }
def PhysDiffersUptoSaid : Prop := physDiffersUptoRow.holds Try.pinned (OpenSpec.upto physDiffersSpec)

/-- 'portreevelaw03.PhysFinds', WHERE WHAT IT READS IS OF BULK AT MOST 1048576: true; the input reads as it did. -/
def physFindsUptoRow : OpenClaim := { program := "ytiedlkhbbnjkbaa", sum := "a0c585c80134998fab3b2c12af34b70dfce763b815b29b3274a6680723d58721", func := "portreeve/portreevelaw03.PhysFinds", spec := "physFinds", apart := false, narrowed := true }
def PhysFindsUptoSaid : Prop := physFindsUptoRow.holds Try.pinned (OpenSpec.upto physFindsSpec)

end Rows
end Go.Proofs.Ytiedlkhbbnjkbaa
