/-
  NARROWER THAN 'FOR EVERY INPUT', by the rows' own cells (each row's printed sentence says how): CapWords: laid · CapReads: laid · CapSizes: laid · CapObjects: laid · CapNames: laid · CapCovers: laid · CapShows: laid.
  DERIVED. THE GIVEN ROWS OF THIS SEAT. 7 by the template 'for every input the law returns true; each argument reads behind the call as it read before'; 0 by the template 'total and deterministic' (their statements: YtkedoajkdobjdaaDoorTotals.lean).
  GIVEN WITH THE SEED: the statements are not yours to turn. If you find one false, say at which input.
  Laid BY PROGRAM, IN A SANDBOX (cutbox-rows.mjs): the forced cells as the released guide's own fill.sh prints them over the translation 79433514f5ead8dc… (all of the seat's roots in one cut). By AI agents, Wed Nov 11 2026. No macro, syntax, notation, axiom, sorry.
-/
import Derived.Test.YtkedoajkdobjdaaDoorChecked
import GoSem.Claim
import GoSem.ClaimJoined
import GoSem.ClaimMapViews
import Derived.JoinedTies
import Derived.KernelRfl
namespace Go.Proofs.YtkedoajkdobjdaaDoor
/- THE CELL 'sum', in the pinned program and in every row, IS THE sha256 OF THE DUMP (.gsa) THAT YtkedoajkdobjdaaDoorProg.lean LOADS. Nothing in Lean hashes anything: it is a label: what it is worth is what the hold of that sum in a sandbox is worth. -/
noncomputable def Tryd.pinned : Pinned := { name := "ytkedoajkdobjdaadoor", sum := "79433514f5ead8dc231ed7c0a86bd51f279bd922ee051ef28dc42e82f067f0d9", checked := Tryd.checked }
namespace Rows
def none {H : Type} : Left H := { results := [], args := [] }

/- WHAT THE LISTED PACKAGE-LEVEL VARIABLES READ AS WHEN THE CALL BEGINS. Each datum BY PROGRAM (the guide's laid-datum.mjs) off the statement by which the dump's own 'gosem.cut.vars' lays the variable. In a bare row this is a premise. The card (YtkedoajkdobjdaaDoorCards.lean) ties it to the program's text. -/
def laid_portreeve_cap_kindPart {H : Type} : DataW H := .agg [.agg [.lit (.int .i64 0), .lit (.int .i64 4)], .lit (.int .i64 0)]
def laid_portreeve_cap_bitsPart {H : Type} : DataW H := .agg [.agg [.lit (.int .i64 4), .lit (.int .i64 6)], .lit (.int .i64 0)]
def laid_portreeve_cap_rightsPart {H : Type} : DataW H := .agg [.agg [.lit (.int .i64 10), .lit (.int .i64 3)], .lit (.int .i64 0)]
def laid_portreeve_cap_guardPart {H : Type} : DataW H := .agg [.agg [.lit (.int .i64 13), .lit (.int .i64 6)], .lit (.int .i64 0)]
def laid_portreeve_cap_asidPart {H : Type} : DataW H := .agg [.agg [.lit (.int .i64 19), .lit (.int .i64 16)], .lit (.int .i64 0)]
def laid_portreeve_cap_atPart {H : Type} : DataW H := .agg [.agg [.lit (.int .i64 35), .lit (.int .i64 27)], .lit (.int .i64 5)]
def laid_portreeve_cap_names {H : Type} : DataW H := .agg [.lit (.string [110, 117, 108, 108]), .lit (.string [117, 110, 116, 121, 112, 101, 100]), .lit (.string [110, 111, 100, 101]), .lit (.string [102, 114, 97, 109, 101]), .lit (.string [116, 97, 98, 108, 101]), .lit (.string [115, 112, 97, 99, 101]), .lit (.string [99, 111, 110, 116, 114, 111, 108]), .lit (.string [112, 111, 111, 108]), .lit (.string [116, 104, 114, 101, 97, 100]), .lit (.string [110, 111, 116, 101]), .lit (.string [122, 111, 109, 98, 105, 101])]
def laid_math_bits_deBruijn32tab {H : Type} : DataW H := .agg [.lit (.int .u8 0), .lit (.int .u8 1), .lit (.int .u8 28), .lit (.int .u8 2), .lit (.int .u8 29), .lit (.int .u8 14), .lit (.int .u8 24), .lit (.int .u8 3), .lit (.int .u8 30), .lit (.int .u8 22), .lit (.int .u8 20), .lit (.int .u8 15), .lit (.int .u8 25), .lit (.int .u8 17), .lit (.int .u8 4), .lit (.int .u8 8), .lit (.int .u8 31), .lit (.int .u8 27), .lit (.int .u8 13), .lit (.int .u8 23), .lit (.int .u8 21), .lit (.int .u8 19), .lit (.int .u8 16), .lit (.int .u8 7), .lit (.int .u8 26), .lit (.int .u8 12), .lit (.int .u8 18), .lit (.int .u8 6), .lit (.int .u8 11), .lit (.int .u8 5), .lit (.int .u8 10), .lit (.int .u8 9)]
def laid_math_bits_deBruijn64tab {H : Type} : DataW H := .agg [.lit (.int .u8 0), .lit (.int .u8 1), .lit (.int .u8 56), .lit (.int .u8 2), .lit (.int .u8 57), .lit (.int .u8 49), .lit (.int .u8 28), .lit (.int .u8 3), .lit (.int .u8 61), .lit (.int .u8 58), .lit (.int .u8 42), .lit (.int .u8 50), .lit (.int .u8 38), .lit (.int .u8 29), .lit (.int .u8 17), .lit (.int .u8 4), .lit (.int .u8 62), .lit (.int .u8 47), .lit (.int .u8 59), .lit (.int .u8 36), .lit (.int .u8 45), .lit (.int .u8 43), .lit (.int .u8 51), .lit (.int .u8 22), .lit (.int .u8 53), .lit (.int .u8 39), .lit (.int .u8 33), .lit (.int .u8 30), .lit (.int .u8 24), .lit (.int .u8 18), .lit (.int .u8 12), .lit (.int .u8 5), .lit (.int .u8 63), .lit (.int .u8 55), .lit (.int .u8 48), .lit (.int .u8 27), .lit (.int .u8 60), .lit (.int .u8 41), .lit (.int .u8 37), .lit (.int .u8 16), .lit (.int .u8 46), .lit (.int .u8 35), .lit (.int .u8 44), .lit (.int .u8 21), .lit (.int .u8 52), .lit (.int .u8 32), .lit (.int .u8 23), .lit (.int .u8 11), .lit (.int .u8 54), .lit (.int .u8 26), .lit (.int .u8 40), .lit (.int .u8 15), .lit (.int .u8 34), .lit (.int .u8 20), .lit (.int .u8 31), .lit (.int .u8 10), .lit (.int .u8 25), .lit (.int .u8 14), .lit (.int .u8 19), .lit (.int .u8 9), .lit (.int .u8 13), .lit (.int .u8 8), .lit (.int .u8 7), .lit (.int .u8 6)]
def laid_internal_strconv_uint64pow10 {H : Type} : DataW H := .agg [.lit (.int .u64 1), .lit (.int .u64 10), .lit (.int .u64 100), .lit (.int .u64 1000), .lit (.int .u64 10000), .lit (.int .u64 100000), .lit (.int .u64 1000000), .lit (.int .u64 10000000), .lit (.int .u64 100000000), .lit (.int .u64 1000000000), .lit (.int .u64 10000000000), .lit (.int .u64 100000000000), .lit (.int .u64 1000000000000), .lit (.int .u64 10000000000000), .lit (.int .u64 100000000000000), .lit (.int .u64 1000000000000000), .lit (.int .u64 10000000000000000), .lit (.int .u64 100000000000000000), .lit (.int .u64 1000000000000000000), .lit (.int .u64 10000000000000000000)]

/-- 'portreevelaw11.CapWords': WHATEVER THE INPUT: true; the input reads as it did. -/
def capWordsSpec : ChangeSpec := { name := "capWords", fn := fun _ => fun
  | [d] => { results := [.lit (.bool true)], args := [d] }
  | _ => none }
def capWordsRow : OpenClaim := { program := "ytkedoajkdobjdaadoor", sum := "79433514f5ead8dc231ed7c0a86bd51f279bd922ee051ef28dc42e82f067f0d9", func := "portreeve/portreevelaw11.CapWords", spec := "capWords", named := ["portreeve/cap.kindPart", "portreeve/cap.bitsPart", "portreeve/cap.rightsPart", "portreeve/cap.guardPart", "portreeve/cap.asidPart", "portreeve/cap.atPart"], apart := false, laid := [("portreeve/cap.kindPart", laid_portreeve_cap_kindPart), ("portreeve/cap.bitsPart", laid_portreeve_cap_bitsPart), ("portreeve/cap.rightsPart", laid_portreeve_cap_rightsPart), ("portreeve/cap.guardPart", laid_portreeve_cap_guardPart), ("portreeve/cap.asidPart", laid_portreeve_cap_asidPart), ("portreeve/cap.atPart", laid_portreeve_cap_atPart)] }
def CapWordsSaid : Prop := capWordsRow.holds Tryd.pinned (OpenSpec.ofChange capWordsSpec)

/-- ITS FALSE NEIGHBOUR: 'it returns false'. Refute it at one input. -/
def capWordsWrong : ChangeSpec := { name := "capWords", fn := fun _ => fun
  | [d] => { results := [.lit (.bool false)], args := [d] }
  | _ => none }
def CapWordsWrongFalsely : Prop := capWordsRow.holds Tryd.pinned (OpenSpec.ofChange capWordsWrong)

/-- 'portreevelaw11.CapReads': WHATEVER THE INPUT: true; the input reads as it did. -/
def capReadsSpec : ChangeSpec := { name := "capReads", fn := fun _ => fun
  | [d1, d2] => { results := [.lit (.bool true)], args := [d1, d2] }
  | _ => none }
def capReadsRow : OpenClaim := { program := "ytkedoajkdobjdaadoor", sum := "79433514f5ead8dc231ed7c0a86bd51f279bd922ee051ef28dc42e82f067f0d9", func := "portreeve/portreevelaw11.CapReads", spec := "capReads", named := ["portreeve/cap.kindPart", "portreeve/cap.bitsPart", "portreeve/cap.rightsPart", "portreeve/cap.guardPart", "portreeve/cap.asidPart", "portreeve/cap.atPart"], apart := false, laid := [("portreeve/cap.kindPart", laid_portreeve_cap_kindPart), ("portreeve/cap.bitsPart", laid_portreeve_cap_bitsPart), ("portreeve/cap.rightsPart", laid_portreeve_cap_rightsPart), ("portreeve/cap.guardPart", laid_portreeve_cap_guardPart), ("portreeve/cap.asidPart", laid_portreeve_cap_asidPart), ("portreeve/cap.atPart", laid_portreeve_cap_atPart)] }
def CapReadsSaid : Prop := capReadsRow.holds Tryd.pinned (OpenSpec.ofChange capReadsSpec)

/-- ITS FALSE NEIGHBOUR: 'it returns false'. Refute it at one input. -/
def capReadsWrong : ChangeSpec := { name := "capReads", fn := fun _ => fun
  | [d1, d2] => { results := [.lit (.bool false)], args := [d1, d2] }
  | _ => none }
def CapReadsWrongFalsely : Prop := capReadsRow.holds Tryd.pinned (OpenSpec.ofChange capReadsWrong)

/-- 'portreevelaw11.CapSizes': WHATEVER THE INPUT: true; the input reads as it did. -/
def capSizesSpec : ChangeSpec := { name := "capSizes", fn := fun _ => fun
  | [d] => { results := [.lit (.bool true)], args := [d] }
  | _ => none }
def capSizesRow : OpenClaim := { program := "ytkedoajkdobjdaadoor", sum := "79433514f5ead8dc231ed7c0a86bd51f279bd922ee051ef28dc42e82f067f0d9", func := "portreeve/portreevelaw11.CapSizes", spec := "capSizes", named := ["portreeve/cap.kindPart", "portreeve/cap.bitsPart", "portreeve/cap.rightsPart", "portreeve/cap.guardPart", "portreeve/cap.asidPart", "portreeve/cap.atPart"], apart := false, laid := [("portreeve/cap.kindPart", laid_portreeve_cap_kindPart), ("portreeve/cap.bitsPart", laid_portreeve_cap_bitsPart), ("portreeve/cap.rightsPart", laid_portreeve_cap_rightsPart), ("portreeve/cap.guardPart", laid_portreeve_cap_guardPart), ("portreeve/cap.asidPart", laid_portreeve_cap_asidPart), ("portreeve/cap.atPart", laid_portreeve_cap_atPart)] }
def CapSizesSaid : Prop := capSizesRow.holds Tryd.pinned (OpenSpec.ofChange capSizesSpec)

/-- ITS FALSE NEIGHBOUR: 'it returns false'. Refute it at one input. -/
def capSizesWrong : ChangeSpec := { name := "capSizes", fn := fun _ => fun
  | [d] => { results := [.lit (.bool false)], args := [d] }
  | _ => none }
def CapSizesWrongFalsely : Prop := capSizesRow.holds Tryd.pinned (OpenSpec.ofChange capSizesWrong)

/-- 'portreevelaw11.CapObjects': WHATEVER THE INPUT: true; the input reads as it did. -/
def capObjectsSpec : ChangeSpec := { name := "capObjects", fn := fun _ => fun
  | [d] => { results := [.lit (.bool true)], args := [d] }
  | _ => none }
def capObjectsRow : OpenClaim := { program := "ytkedoajkdobjdaadoor", sum := "79433514f5ead8dc231ed7c0a86bd51f279bd922ee051ef28dc42e82f067f0d9", func := "portreeve/portreevelaw11.CapObjects", spec := "capObjects", named := ["portreeve/cap.kindPart", "portreeve/cap.bitsPart", "portreeve/cap.rightsPart", "portreeve/cap.guardPart", "portreeve/cap.asidPart", "portreeve/cap.atPart"], apart := false, laid := [("portreeve/cap.kindPart", laid_portreeve_cap_kindPart), ("portreeve/cap.bitsPart", laid_portreeve_cap_bitsPart), ("portreeve/cap.rightsPart", laid_portreeve_cap_rightsPart), ("portreeve/cap.guardPart", laid_portreeve_cap_guardPart), ("portreeve/cap.asidPart", laid_portreeve_cap_asidPart), ("portreeve/cap.atPart", laid_portreeve_cap_atPart)] }
def CapObjectsSaid : Prop := capObjectsRow.holds Tryd.pinned (OpenSpec.ofChange capObjectsSpec)

/-- ITS FALSE NEIGHBOUR: 'it returns false'. Refute it at one input. -/
def capObjectsWrong : ChangeSpec := { name := "capObjects", fn := fun _ => fun
  | [d] => { results := [.lit (.bool false)], args := [d] }
  | _ => none }
def CapObjectsWrongFalsely : Prop := capObjectsRow.holds Tryd.pinned (OpenSpec.ofChange capObjectsWrong)

/-- 'portreevelaw11.CapNames': WHATEVER THE INPUT: true; the input reads as it did. -/
def capNamesSpec : ChangeSpec := { name := "capNames", fn := fun _ => fun
  | [d1, d2] => { results := [.lit (.bool true)], args := [d1, d2] }
  | _ => none }
def capNamesRow : OpenClaim := { program := "ytkedoajkdobjdaadoor", sum := "79433514f5ead8dc231ed7c0a86bd51f279bd922ee051ef28dc42e82f067f0d9", func := "portreeve/portreevelaw11.CapNames", spec := "capNames", named := ["portreeve/cap.kindPart", "portreeve/cap.bitsPart", "portreeve/cap.rightsPart", "portreeve/cap.guardPart", "portreeve/cap.asidPart", "portreeve/cap.atPart", "portreeve/cap.names"], apart := false, laid := [("portreeve/cap.names", laid_portreeve_cap_names), ("portreeve/cap.kindPart", laid_portreeve_cap_kindPart), ("portreeve/cap.bitsPart", laid_portreeve_cap_bitsPart), ("portreeve/cap.rightsPart", laid_portreeve_cap_rightsPart), ("portreeve/cap.guardPart", laid_portreeve_cap_guardPart), ("portreeve/cap.asidPart", laid_portreeve_cap_asidPart), ("portreeve/cap.atPart", laid_portreeve_cap_atPart)] }
def CapNamesSaid : Prop := capNamesRow.holds Tryd.pinned (OpenSpec.ofChange capNamesSpec)

/-- ITS FALSE NEIGHBOUR: 'it returns false'. Refute it at one input. -/
def capNamesWrong : ChangeSpec := { name := "capNames", fn := fun _ => fun
  | [d1, d2] => { results := [.lit (.bool false)], args := [d1, d2] }
  | _ => none }
def CapNamesWrongFalsely : Prop := capNamesRow.holds Tryd.pinned (OpenSpec.ofChange capNamesWrong)

/-- 'portreevelaw11.CapCovers': WHATEVER THE INPUT: true; the input reads as it did. -/
def capCoversSpec : ChangeSpec := { name := "capCovers", fn := fun _ => fun
  | [d1, d2] => { results := [.lit (.bool true)], args := [d1, d2] }
  | _ => none }
def capCoversRow : OpenClaim := { program := "ytkedoajkdobjdaadoor", sum := "79433514f5ead8dc231ed7c0a86bd51f279bd922ee051ef28dc42e82f067f0d9", func := "portreeve/portreevelaw11.CapCovers", spec := "capCovers", named := ["portreeve/cap.kindPart", "portreeve/cap.bitsPart", "portreeve/cap.rightsPart", "portreeve/cap.guardPart", "portreeve/cap.asidPart", "portreeve/cap.atPart"], apart := false, laid := [("portreeve/cap.kindPart", laid_portreeve_cap_kindPart), ("portreeve/cap.bitsPart", laid_portreeve_cap_bitsPart), ("portreeve/cap.rightsPart", laid_portreeve_cap_rightsPart), ("portreeve/cap.guardPart", laid_portreeve_cap_guardPart), ("portreeve/cap.asidPart", laid_portreeve_cap_asidPart), ("portreeve/cap.atPart", laid_portreeve_cap_atPart)] }
def CapCoversSaid : Prop := capCoversRow.holds Tryd.pinned (OpenSpec.ofChange capCoversSpec)

/-- ITS FALSE NEIGHBOUR: 'it returns false'. Refute it at one input. -/
def capCoversWrong : ChangeSpec := { name := "capCovers", fn := fun _ => fun
  | [d1, d2] => { results := [.lit (.bool false)], args := [d1, d2] }
  | _ => none }
def CapCoversWrongFalsely : Prop := capCoversRow.holds Tryd.pinned (OpenSpec.ofChange capCoversWrong)

/-- 'portreevelaw11.CapShows': WHATEVER THE INPUT: true; the input reads as it did. -/
def capShowsSpec : ChangeSpec := { name := "capShows", fn := fun _ => fun
  | [d] => { results := [.lit (.bool true)], args := [d] }
  | _ => none }
def capShowsRow : OpenClaim := { program := "ytkedoajkdobjdaadoor", sum := "79433514f5ead8dc231ed7c0a86bd51f279bd922ee051ef28dc42e82f067f0d9", func := "portreeve/portreevelaw11.CapShows", spec := "capShows", inPlace := ["internal/abi.NoEscape"], named := ["portreeve/cap.kindPart", "portreeve/cap.bitsPart", "portreeve/cap.rightsPart", "portreeve/cap.guardPart", "portreeve/cap.asidPart", "portreeve/cap.atPart", "portreeve/cap.names", "internal/strconv.uint64pow10", "math/bits.deBruijn32tab", "math/bits.deBruijn64tab"], apart := false, laid := [("math/bits.deBruijn32tab", laid_math_bits_deBruijn32tab), ("math/bits.deBruijn64tab", laid_math_bits_deBruijn64tab), ("internal/strconv.uint64pow10", laid_internal_strconv_uint64pow10), ("portreeve/cap.names", laid_portreeve_cap_names), ("portreeve/cap.kindPart", laid_portreeve_cap_kindPart), ("portreeve/cap.bitsPart", laid_portreeve_cap_bitsPart), ("portreeve/cap.rightsPart", laid_portreeve_cap_rightsPart), ("portreeve/cap.guardPart", laid_portreeve_cap_guardPart), ("portreeve/cap.asidPart", laid_portreeve_cap_asidPart), ("portreeve/cap.atPart", laid_portreeve_cap_atPart)] }
def CapShowsSaid : Prop := capShowsRow.holds Tryd.pinned (OpenSpec.ofChange capShowsSpec)

/-- ITS FALSE NEIGHBOUR: 'it returns false'. Refute it at one input. -/
def capShowsWrong : ChangeSpec := { name := "capShows", fn := fun _ => fun
  | [d] => { results := [.lit (.bool false)], args := [d] }
  | _ => none }
def CapShowsWrongFalsely : Prop := capShowsRow.holds Tryd.pinned (OpenSpec.ofChange capShowsWrong)

/- THE SECOND FORM. 'bulk': how many values and letters a reading holds, each counted each time it is reached (what is shared counts as often as it is met; a slice's spare places count too). A statement '..UptoSaid' is the law's where the arguments, and the package variables that the reading takes, are together of bulk at most 1048576: NARROWER than '..Said'. Prove '..Said' where nothing that the law and all that it calls make is longer than what came in: it says more and counts as full. Else prove '..UptoSaid'. A law counts once. -/
mutual
def uptoBulk {H : Type} : DataW H → Nat
  | .lit (.string bytes) => bytes.length + 1
  | .lit _ => 1
  | .nil => 1
  | .ptr d => uptoBulk d + 1
  | .slice elems spare => uptoBulkAll elems + uptoBulkAll spare + 1
  | .agg parts => uptoBulkAll parts + 1
  | .iface _ d => uptoBulk d + 1
  | .map entries => uptoBulkEntries entries + 1
  | .held _ => 1
def uptoBulkAll {H : Type} : List (DataW H) → Nat
  | [] => 0
  | d :: r => uptoBulk d + uptoBulkAll r
def uptoBulkEntries {H : Type} : List (Lit × DataW H) → Nat
  | [] => 0
  | x :: r => uptoBulkEntry x + uptoBulkEntries r
def uptoBulkEntry {H : Type} : Lit × DataW H → Nat
  | (.string bytes, d) => bytes.length + uptoBulk d + 1
  | (_, d) => uptoBulk d + 1
 end
def uptoSmall : (H : Type) → List (DataW H) → Bool := fun _ ds => decide (uptoBulkAll ds ≤ 1048576)
def OpenSpec.upto (s : _root_.Go.ChangeSpec) : _root_.Go.OpenSpec := { _root_.Go.OpenSpec.ofChange s with cond := some uptoSmall }

/-- 'portreevelaw11.CapWords', WHERE WHAT IT READS IS OF BULK AT MOST 1048576: true; the input reads as it did. -/
def capWordsUptoRow : OpenClaim := { program := "ytkedoajkdobjdaadoor", sum := "79433514f5ead8dc231ed7c0a86bd51f279bd922ee051ef28dc42e82f067f0d9", func := "portreeve/portreevelaw11.CapWords", spec := "capWords", named := ["portreeve/cap.kindPart", "portreeve/cap.bitsPart", "portreeve/cap.rightsPart", "portreeve/cap.guardPart", "portreeve/cap.asidPart", "portreeve/cap.atPart"], apart := false, laid := [("portreeve/cap.kindPart", laid_portreeve_cap_kindPart), ("portreeve/cap.bitsPart", laid_portreeve_cap_bitsPart), ("portreeve/cap.rightsPart", laid_portreeve_cap_rightsPart), ("portreeve/cap.guardPart", laid_portreeve_cap_guardPart), ("portreeve/cap.asidPart", laid_portreeve_cap_asidPart), ("portreeve/cap.atPart", laid_portreeve_cap_atPart)], narrowed := true }
def CapWordsUptoSaid : Prop := capWordsUptoRow.holds Tryd.pinned (OpenSpec.upto capWordsSpec)

/-- 'portreevelaw11.CapReads', WHERE WHAT IT READS IS OF BULK AT MOST 1048576: true; the input reads as it did. -/
def capReadsUptoRow : OpenClaim := { program := "ytkedoajkdobjdaadoor", sum := "79433514f5ead8dc231ed7c0a86bd51f279bd922ee051ef28dc42e82f067f0d9", func := "portreeve/portreevelaw11.CapReads", spec := "capReads", named := ["portreeve/cap.kindPart", "portreeve/cap.bitsPart", "portreeve/cap.rightsPart", "portreeve/cap.guardPart", "portreeve/cap.asidPart", "portreeve/cap.atPart"], apart := false, laid := [("portreeve/cap.kindPart", laid_portreeve_cap_kindPart), ("portreeve/cap.bitsPart", laid_portreeve_cap_bitsPart), ("portreeve/cap.rightsPart", laid_portreeve_cap_rightsPart), ("portreeve/cap.guardPart", laid_portreeve_cap_guardPart), ("portreeve/cap.asidPart", laid_portreeve_cap_asidPart), ("portreeve/cap.atPart", laid_portreeve_cap_atPart)], narrowed := true }
def CapReadsUptoSaid : Prop := capReadsUptoRow.holds Tryd.pinned (OpenSpec.upto capReadsSpec)

/-- 'portreevelaw11.CapSizes', WHERE WHAT IT READS IS OF BULK AT MOST 1048576: true; the input reads as it did. -/
def capSizesUptoRow : OpenClaim := { program := "ytkedoajkdobjdaadoor", sum := "79433514f5ead8dc231ed7c0a86bd51f279bd922ee051ef28dc42e82f067f0d9", func := "portreeve/portreevelaw11.CapSizes", spec := "capSizes", named := ["portreeve/cap.kindPart", "portreeve/cap.bitsPart", "portreeve/cap.rightsPart", "portreeve/cap.guardPart", "portreeve/cap.asidPart", "portreeve/cap.atPart"], apart := false, laid := [("portreeve/cap.kindPart", laid_portreeve_cap_kindPart), ("portreeve/cap.bitsPart", laid_portreeve_cap_bitsPart), ("portreeve/cap.rightsPart", laid_portreeve_cap_rightsPart), ("portreeve/cap.guardPart", laid_portreeve_cap_guardPart), ("portreeve/cap.asidPart", laid_portreeve_cap_asidPart), ("portreeve/cap.atPart", laid_portreeve_cap_atPart)], narrowed := true }
def CapSizesUptoSaid : Prop := capSizesUptoRow.holds Tryd.pinned (OpenSpec.upto capSizesSpec)

/-- 'portreevelaw11.CapObjects', WHERE WHAT IT READS IS OF BULK AT MOST 1048576: true; the input reads as it did. -/
def capObjectsUptoRow : OpenClaim := { program := "ytkedoajkdobjdaadoor", sum := "79433514f5ead8dc231ed7c0a86bd51f279bd922ee051ef28dc42e82f067f0d9", func := "portreeve/portreevelaw11.CapObjects", spec := "capObjects", named := ["portreeve/cap.kindPart", "portreeve/cap.bitsPart", "portreeve/cap.rightsPart", "portreeve/cap.guardPart", "portreeve/cap.asidPart", "portreeve/cap.atPart"], apart := false, laid := [("portreeve/cap.kindPart", laid_portreeve_cap_kindPart), ("portreeve/cap.bitsPart", laid_portreeve_cap_bitsPart), ("portreeve/cap.rightsPart", laid_portreeve_cap_rightsPart), ("portreeve/cap.guardPart", laid_portreeve_cap_guardPart), ("portreeve/cap.asidPart", laid_portreeve_cap_asidPart), ("portreeve/cap.atPart", laid_portreeve_cap_atPart)], narrowed := true }
def CapObjectsUptoSaid : Prop := capObjectsUptoRow.holds Tryd.pinned (OpenSpec.upto capObjectsSpec)

/-- 'portreevelaw11.CapNames', WHERE WHAT IT READS IS OF BULK AT MOST 1048576: true; the input reads as it did. -/
def capNamesUptoRow : OpenClaim := { program := "ytkedoajkdobjdaadoor", sum := "79433514f5ead8dc231ed7c0a86bd51f279bd922ee051ef28dc42e82f067f0d9", func := "portreeve/portreevelaw11.CapNames", spec := "capNames", named := ["portreeve/cap.kindPart", "portreeve/cap.bitsPart", "portreeve/cap.rightsPart", "portreeve/cap.guardPart", "portreeve/cap.asidPart", "portreeve/cap.atPart", "portreeve/cap.names"], apart := false, laid := [("portreeve/cap.names", laid_portreeve_cap_names), ("portreeve/cap.kindPart", laid_portreeve_cap_kindPart), ("portreeve/cap.bitsPart", laid_portreeve_cap_bitsPart), ("portreeve/cap.rightsPart", laid_portreeve_cap_rightsPart), ("portreeve/cap.guardPart", laid_portreeve_cap_guardPart), ("portreeve/cap.asidPart", laid_portreeve_cap_asidPart), ("portreeve/cap.atPart", laid_portreeve_cap_atPart)], narrowed := true }
def CapNamesUptoSaid : Prop := capNamesUptoRow.holds Tryd.pinned (OpenSpec.upto capNamesSpec)

/-- 'portreevelaw11.CapCovers', WHERE WHAT IT READS IS OF BULK AT MOST 1048576: true; the input reads as it did. -/
def capCoversUptoRow : OpenClaim := { program := "ytkedoajkdobjdaadoor", sum := "79433514f5ead8dc231ed7c0a86bd51f279bd922ee051ef28dc42e82f067f0d9", func := "portreeve/portreevelaw11.CapCovers", spec := "capCovers", named := ["portreeve/cap.kindPart", "portreeve/cap.bitsPart", "portreeve/cap.rightsPart", "portreeve/cap.guardPart", "portreeve/cap.asidPart", "portreeve/cap.atPart"], apart := false, laid := [("portreeve/cap.kindPart", laid_portreeve_cap_kindPart), ("portreeve/cap.bitsPart", laid_portreeve_cap_bitsPart), ("portreeve/cap.rightsPart", laid_portreeve_cap_rightsPart), ("portreeve/cap.guardPart", laid_portreeve_cap_guardPart), ("portreeve/cap.asidPart", laid_portreeve_cap_asidPart), ("portreeve/cap.atPart", laid_portreeve_cap_atPart)], narrowed := true }
def CapCoversUptoSaid : Prop := capCoversUptoRow.holds Tryd.pinned (OpenSpec.upto capCoversSpec)

/-- 'portreevelaw11.CapShows', WHERE WHAT IT READS IS OF BULK AT MOST 1048576: true; the input reads as it did. -/
def capShowsUptoRow : OpenClaim := { program := "ytkedoajkdobjdaadoor", sum := "79433514f5ead8dc231ed7c0a86bd51f279bd922ee051ef28dc42e82f067f0d9", func := "portreeve/portreevelaw11.CapShows", spec := "capShows", inPlace := ["internal/abi.NoEscape"], named := ["portreeve/cap.kindPart", "portreeve/cap.bitsPart", "portreeve/cap.rightsPart", "portreeve/cap.guardPart", "portreeve/cap.asidPart", "portreeve/cap.atPart", "portreeve/cap.names", "internal/strconv.uint64pow10", "math/bits.deBruijn32tab", "math/bits.deBruijn64tab"], apart := false, laid := [("math/bits.deBruijn32tab", laid_math_bits_deBruijn32tab), ("math/bits.deBruijn64tab", laid_math_bits_deBruijn64tab), ("internal/strconv.uint64pow10", laid_internal_strconv_uint64pow10), ("portreeve/cap.names", laid_portreeve_cap_names), ("portreeve/cap.kindPart", laid_portreeve_cap_kindPart), ("portreeve/cap.bitsPart", laid_portreeve_cap_bitsPart), ("portreeve/cap.rightsPart", laid_portreeve_cap_rightsPart), ("portreeve/cap.guardPart", laid_portreeve_cap_guardPart), ("portreeve/cap.asidPart", laid_portreeve_cap_asidPart), ("portreeve/cap.atPart", laid_portreeve_cap_atPart)], narrowed := true }
def CapShowsUptoSaid : Prop := capShowsUptoRow.holds Tryd.pinned (OpenSpec.upto capShowsSpec)

end Rows
end Go.Proofs.YtkedoajkdobjdaaDoor
