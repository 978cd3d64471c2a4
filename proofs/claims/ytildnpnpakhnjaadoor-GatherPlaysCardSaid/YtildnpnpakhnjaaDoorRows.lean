/-
  NARROWER THAN 'FOR EVERY INPUT', by the rows' own cells (each row's printed sentence says how): PairsPrints: laid · PairsParses: laid · PairsJoins: laid · PairsCut: laid · GatherSplits: laid · GatherTwice: laid · GatherParts: laid · GatherFull: laid · GatherSplit: laid · GatherMany: laid · GatherPlays: laid.
  DERIVED. THE GIVEN ROWS OF THIS SEAT. 11 by the template 'for every input the law returns true; each argument reads behind the call as it read before'; 0 by the template 'total and deterministic' (their statements: YtildnpnpakhnjaaDoorTotals.lean).
  GIVEN WITH THE SEED: the statements are not yours to turn. If you find one false, say at which input.
  Laid BY PROGRAM, IN A SANDBOX (cutbox-rows.mjs): the forced cells as the released guide's own fill.sh prints them over the translation 6cf2625c9d93c4da… (all of the seat's roots in one cut). By AI agents, Wed Nov 11 2026. No macro, syntax, notation, axiom, sorry.
-/
import Derived.Test.YtildnpnpakhnjaaDoorChecked
import GoSem.PinnedTables
import GoSem.Claim
import GoSem.ClaimJoined
import GoSem.ClaimMapViews
import Derived.JoinedTies
import Derived.KernelRfl
namespace Go.Proofs.YtildnpnpakhnjaaDoor
/- THE CELL 'sum', in the pinned program and in every row, IS THE sha256 OF THE DUMP (.gsa) THAT YtildnpnpakhnjaaDoorProg.lean LOADS. Nothing in Lean hashes anything: it is a label: what it is worth is what the hold of that sum in a sandbox is worth. -/
noncomputable def Tryd.pinned : Pinned := { name := "ytildnpnpakhnjaadoor", sum := "6cf2625c9d93c4dae70a67da71214b664d86a235cd40caea112693437c9eb66b", checked := Tryd.checked }
namespace Rows
def none {H : Type} : Left H := { results := [], args := [] }

/- WHAT THE LISTED PACKAGE-LEVEL VARIABLES READ AS WHEN THE CALL BEGINS. Each datum BY PROGRAM (the guide's laid-datum.mjs) off the statement by which the dump's own 'gosem.cut.vars' lays the variable. In a bare row this is a premise. The card (YtildnpnpakhnjaaDoorCards.lean) ties it to the program's text. -/
def laid_unicode_utf8_acceptRanges {H : Type} : DataW H := .agg [.agg [.lit (.int .u8 128), .lit (.int .u8 191)], .agg [.lit (.int .u8 160), .lit (.int .u8 191)], .agg [.lit (.int .u8 128), .lit (.int .u8 159)], .agg [.lit (.int .u8 144), .lit (.int .u8 191)], .agg [.lit (.int .u8 128), .lit (.int .u8 143)], .agg [.lit (.int .u8 0), .lit (.int .u8 0)], .agg [.lit (.int .u8 0), .lit (.int .u8 0)], .agg [.lit (.int .u8 0), .lit (.int .u8 0)], .agg [.lit (.int .u8 0), .lit (.int .u8 0)], .agg [.lit (.int .u8 0), .lit (.int .u8 0)], .agg [.lit (.int .u8 0), .lit (.int .u8 0)], .agg [.lit (.int .u8 0), .lit (.int .u8 0)], .agg [.lit (.int .u8 0), .lit (.int .u8 0)], .agg [.lit (.int .u8 0), .lit (.int .u8 0)], .agg [.lit (.int .u8 0), .lit (.int .u8 0)], .agg [.lit (.int .u8 0), .lit (.int .u8 0)]]
def laid_errors_errorType {H : Type} : DataW H := .iface "internal/reflectlite.rtype" (.agg [.ptr (.lit (.string [101, 114, 114, 111, 114]))])
/-- One of Go's own tables, pinned by name: the form's constant. -/
def laid_unicode_CaseRanges : DataW Unit := Go.Pinned.caseRanges
/-- One of Go's own tables, pinned by name: the form's constant. -/
def laid_unicode_utf8_first : DataW Unit := Go.Pinned.utf8First

/-- 'quaymasterlaw.PairsPrints': WHATEVER THE INPUT: true; the input reads as it did. -/
def pairsPrintsSpec : ChangeSpec := { name := "pairsPrints", fn := fun _ => fun
  | [d1, d2] => { results := [.lit (.bool true)], args := [d1, d2] }
  | _ => none }
def pairsPrintsRow : OpenClaim := { program := "ytildnpnpakhnjaadoor", sum := "6cf2625c9d93c4dae70a67da71214b664d86a235cd40caea112693437c9eb66b", func := "quaymaster/quaymasterlaw.PairsPrints", spec := "pairsPrints", inPlace := ["internal/abi.NoEscape", "internal/bytealg.MakeNoZero", "internal/bytealg.IndexByteString", "internal/reflectlite.ValueOf", "(internal/reflectlite.Value).Type", "(internal/reflectlite.Value).IsNil", "internal/reflectlite.TypeOf", "(internal/reflectlite.Value).Elem", "(internal/reflectlite.Value).Set"], unfollowed := true, recurses := true, named := ["unicode/utf8.first", "unicode/utf8.acceptRanges", "unicode.CaseRanges", "errors.errorType"], apart := false, laid := [("unicode/utf8.acceptRanges", laid_unicode_utf8_acceptRanges), ("errors.errorType", laid_errors_errorType), ("unicode.CaseRanges", laid_unicode_CaseRanges), ("unicode/utf8.first", laid_unicode_utf8_first)] }
def PairsPrintsSaid : Prop := pairsPrintsRow.holds Tryd.pinned (OpenSpec.ofChange pairsPrintsSpec)

/-- ITS FALSE NEIGHBOUR: 'it returns false'. Refute it at one input. -/
def pairsPrintsWrong : ChangeSpec := { name := "pairsPrints", fn := fun _ => fun
  | [d1, d2] => { results := [.lit (.bool false)], args := [d1, d2] }
  | _ => none }
def PairsPrintsWrongFalsely : Prop := pairsPrintsRow.holds Tryd.pinned (OpenSpec.ofChange pairsPrintsWrong)

/-- 'quaymasterlaw.PairsParses': WHATEVER THE INPUT: true; the input reads as it did. -/
def pairsParsesSpec : ChangeSpec := { name := "pairsParses", fn := fun _ => fun
  | [d] => { results := [.lit (.bool true)], args := [d] }
  | _ => none }
def pairsParsesRow : OpenClaim := { program := "ytildnpnpakhnjaadoor", sum := "6cf2625c9d93c4dae70a67da71214b664d86a235cd40caea112693437c9eb66b", func := "quaymaster/quaymasterlaw.PairsParses", spec := "pairsParses", inPlace := ["internal/bytealg.CountString", "internal/bytealg.IndexByteString", "internal/bytealg.IndexString", "internal/abi.NoEscape", "internal/bytealg.MakeNoZero", "internal/reflectlite.ValueOf", "(internal/reflectlite.Value).Type", "(internal/reflectlite.Value).IsNil", "internal/reflectlite.TypeOf", "(internal/reflectlite.Value).Elem", "(internal/reflectlite.Value).Set"], unfollowed := true, recurses := true, named := ["unicode/utf8.first", "unicode/utf8.acceptRanges", "internal/bytealg.MaxLen", "unicode.CaseRanges", "errors.errorType"], apart := false, laid := [("unicode/utf8.acceptRanges", laid_unicode_utf8_acceptRanges), ("errors.errorType", laid_errors_errorType), ("unicode.CaseRanges", laid_unicode_CaseRanges), ("unicode/utf8.first", laid_unicode_utf8_first)] }
def PairsParsesSaid : Prop := pairsParsesRow.holds Tryd.pinned (OpenSpec.ofChange pairsParsesSpec)

/-- ITS FALSE NEIGHBOUR: 'it returns false'. Refute it at one input. -/
def pairsParsesWrong : ChangeSpec := { name := "pairsParses", fn := fun _ => fun
  | [d] => { results := [.lit (.bool false)], args := [d] }
  | _ => none }
def PairsParsesWrongFalsely : Prop := pairsParsesRow.holds Tryd.pinned (OpenSpec.ofChange pairsParsesWrong)

/-- 'quaymasterkeep.PairsJoins': WHATEVER THE INPUT: true; the input reads as it did. -/
def pairsJoinsSpec : ChangeSpec := { name := "pairsJoins", fn := fun _ => fun
  | [d1, d2] => { results := [.lit (.bool true)], args := [d1, d2] }
  | _ => none }
def pairsJoinsRow : OpenClaim := { program := "ytildnpnpakhnjaadoor", sum := "6cf2625c9d93c4dae70a67da71214b664d86a235cd40caea112693437c9eb66b", func := "quaymaster/quaymasterkeep.PairsJoins", spec := "pairsJoins", inPlace := ["internal/bytealg.IndexByteString", "internal/abi.NoEscape", "internal/bytealg.IndexString", "internal/reflectlite.ValueOf", "(internal/reflectlite.Value).Type", "(internal/reflectlite.Value).IsNil", "internal/reflectlite.TypeOf", "(internal/reflectlite.Value).Elem", "(internal/reflectlite.Value).Set"], unfollowed := true, recurses := true, named := ["internal/bytealg.MaxLen", "errors.errorType"], apart := false, laid := [("errors.errorType", laid_errors_errorType)] }
def PairsJoinsSaid : Prop := pairsJoinsRow.holds Tryd.pinned (OpenSpec.ofChange pairsJoinsSpec)

/-- ITS FALSE NEIGHBOUR: 'it returns false'. Refute it at one input. -/
def pairsJoinsWrong : ChangeSpec := { name := "pairsJoins", fn := fun _ => fun
  | [d1, d2] => { results := [.lit (.bool false)], args := [d1, d2] }
  | _ => none }
def PairsJoinsWrongFalsely : Prop := pairsJoinsRow.holds Tryd.pinned (OpenSpec.ofChange pairsJoinsWrong)

/-- 'quaymasterkeep.PairsCut': WHATEVER THE INPUT: true; the input reads as it did. -/
def pairsCutSpec : ChangeSpec := { name := "pairsCut", fn := fun _ => fun
  | [d] => { results := [.lit (.bool true)], args := [d] }
  | _ => none }
def pairsCutRow : OpenClaim := { program := "ytildnpnpakhnjaadoor", sum := "6cf2625c9d93c4dae70a67da71214b664d86a235cd40caea112693437c9eb66b", func := "quaymaster/quaymasterkeep.PairsCut", spec := "pairsCut", inPlace := ["internal/bytealg.IndexByteString", "internal/abi.NoEscape", "internal/bytealg.IndexString", "internal/reflectlite.ValueOf", "(internal/reflectlite.Value).Type", "(internal/reflectlite.Value).IsNil", "internal/reflectlite.TypeOf", "(internal/reflectlite.Value).Elem", "(internal/reflectlite.Value).Set"], unfollowed := true, recurses := true, named := ["internal/bytealg.MaxLen", "errors.errorType"], apart := false, laid := [("errors.errorType", laid_errors_errorType)] }
def PairsCutSaid : Prop := pairsCutRow.holds Tryd.pinned (OpenSpec.ofChange pairsCutSpec)

/-- ITS FALSE NEIGHBOUR: 'it returns false'. Refute it at one input. -/
def pairsCutWrong : ChangeSpec := { name := "pairsCut", fn := fun _ => fun
  | [d] => { results := [.lit (.bool false)], args := [d] }
  | _ => none }
def PairsCutWrongFalsely : Prop := pairsCutRow.holds Tryd.pinned (OpenSpec.ofChange pairsCutWrong)

/-- 'quaymasterlaw.GatherSplits': WHATEVER THE INPUT: true; the input reads as it did. -/
def gatherSplitsSpec : ChangeSpec := { name := "gatherSplits", fn := fun _ => fun
  | [d1, d2] => { results := [.lit (.bool true)], args := [d1, d2] }
  | _ => none }
def gatherSplitsRow : OpenClaim := { program := "ytildnpnpakhnjaadoor", sum := "6cf2625c9d93c4dae70a67da71214b664d86a235cd40caea112693437c9eb66b", func := "quaymaster/quaymasterlaw.GatherSplits", spec := "gatherSplits", inPlace := ["internal/reflectlite.ValueOf", "(internal/reflectlite.Value).Type", "(internal/reflectlite.Value).IsNil", "internal/reflectlite.TypeOf", "(internal/reflectlite.Value).Elem", "(internal/reflectlite.Value).Set"], unfollowed := true, recurses := true, named := ["errors.errorType"], apart := false, laid := [("errors.errorType", laid_errors_errorType)] }
def GatherSplitsSaid : Prop := gatherSplitsRow.holds Tryd.pinned (OpenSpec.ofChange gatherSplitsSpec)

/-- ITS FALSE NEIGHBOUR: 'it returns false'. Refute it at one input. -/
def gatherSplitsWrong : ChangeSpec := { name := "gatherSplits", fn := fun _ => fun
  | [d1, d2] => { results := [.lit (.bool false)], args := [d1, d2] }
  | _ => none }
def GatherSplitsWrongFalsely : Prop := gatherSplitsRow.holds Tryd.pinned (OpenSpec.ofChange gatherSplitsWrong)

/-- 'quaymasterkeep.GatherTwice': WHATEVER THE INPUT: true; the input reads as it did. -/
def gatherTwiceSpec : ChangeSpec := { name := "gatherTwice", fn := fun _ => fun
  | [d1, d2] => { results := [.lit (.bool true)], args := [d1, d2] }
  | _ => none }
def gatherTwiceRow : OpenClaim := { program := "ytildnpnpakhnjaadoor", sum := "6cf2625c9d93c4dae70a67da71214b664d86a235cd40caea112693437c9eb66b", func := "quaymaster/quaymasterkeep.GatherTwice", spec := "gatherTwice", inPlace := ["internal/bytealg.IndexByteString", "internal/bytealg.IndexString", "internal/reflectlite.ValueOf", "(internal/reflectlite.Value).Type", "(internal/reflectlite.Value).IsNil", "internal/reflectlite.TypeOf", "(internal/reflectlite.Value).Elem", "(internal/reflectlite.Value).Set", "internal/abi.NoEscape"], unfollowed := true, recurses := true, named := ["internal/bytealg.MaxLen", "errors.errorType"], apart := false, laid := [("errors.errorType", laid_errors_errorType)] }
def GatherTwiceSaid : Prop := gatherTwiceRow.holds Tryd.pinned (OpenSpec.ofChange gatherTwiceSpec)

/-- ITS FALSE NEIGHBOUR: 'it returns false'. Refute it at one input. -/
def gatherTwiceWrong : ChangeSpec := { name := "gatherTwice", fn := fun _ => fun
  | [d1, d2] => { results := [.lit (.bool false)], args := [d1, d2] }
  | _ => none }
def GatherTwiceWrongFalsely : Prop := gatherTwiceRow.holds Tryd.pinned (OpenSpec.ofChange gatherTwiceWrong)

/-- 'quaymasterkeep.GatherParts': WHATEVER THE INPUT: true; the input reads as it did. -/
def gatherPartsSpec : ChangeSpec := { name := "gatherParts", fn := fun _ => fun
  | [d1, d2] => { results := [.lit (.bool true)], args := [d1, d2] }
  | _ => none }
def gatherPartsRow : OpenClaim := { program := "ytildnpnpakhnjaadoor", sum := "6cf2625c9d93c4dae70a67da71214b664d86a235cd40caea112693437c9eb66b", func := "quaymaster/quaymasterkeep.GatherParts", spec := "gatherParts", inPlace := ["internal/bytealg.IndexByteString", "internal/bytealg.IndexString", "internal/reflectlite.ValueOf", "(internal/reflectlite.Value).Type", "(internal/reflectlite.Value).IsNil", "internal/reflectlite.TypeOf", "(internal/reflectlite.Value).Elem", "(internal/reflectlite.Value).Set", "internal/abi.NoEscape"], unfollowed := true, recurses := true, named := ["internal/bytealg.MaxLen", "errors.errorType"], apart := false, laid := [("errors.errorType", laid_errors_errorType)] }
def GatherPartsSaid : Prop := gatherPartsRow.holds Tryd.pinned (OpenSpec.ofChange gatherPartsSpec)

/-- ITS FALSE NEIGHBOUR: 'it returns false'. Refute it at one input. -/
def gatherPartsWrong : ChangeSpec := { name := "gatherParts", fn := fun _ => fun
  | [d1, d2] => { results := [.lit (.bool false)], args := [d1, d2] }
  | _ => none }
def GatherPartsWrongFalsely : Prop := gatherPartsRow.holds Tryd.pinned (OpenSpec.ofChange gatherPartsWrong)

/-- 'quaymasterkeep.GatherFull': WHATEVER THE INPUT: true; the input reads as it did. -/
def gatherFullSpec : ChangeSpec := { name := "gatherFull", fn := fun _ => fun
  | [d1, d2, d3] => { results := [.lit (.bool true)], args := [d1, d2, d3] }
  | _ => none }
def gatherFullRow : OpenClaim := { program := "ytildnpnpakhnjaadoor", sum := "6cf2625c9d93c4dae70a67da71214b664d86a235cd40caea112693437c9eb66b", func := "quaymaster/quaymasterkeep.GatherFull", spec := "gatherFull", inPlace := ["internal/bytealg.IndexByteString", "internal/bytealg.IndexString", "internal/reflectlite.ValueOf", "(internal/reflectlite.Value).Type", "(internal/reflectlite.Value).IsNil", "internal/reflectlite.TypeOf", "(internal/reflectlite.Value).Elem", "(internal/reflectlite.Value).Set"], unfollowed := true, recurses := true, named := ["internal/bytealg.MaxLen", "errors.errorType"], apart := false, laid := [("errors.errorType", laid_errors_errorType)] }
def GatherFullSaid : Prop := gatherFullRow.holds Tryd.pinned (OpenSpec.ofChange gatherFullSpec)

/-- ITS FALSE NEIGHBOUR: 'it returns false'. Refute it at one input. -/
def gatherFullWrong : ChangeSpec := { name := "gatherFull", fn := fun _ => fun
  | [d1, d2, d3] => { results := [.lit (.bool false)], args := [d1, d2, d3] }
  | _ => none }
def GatherFullWrongFalsely : Prop := gatherFullRow.holds Tryd.pinned (OpenSpec.ofChange gatherFullWrong)

/-- 'quaymasterkeep.GatherSplit': WHATEVER THE INPUT: true; the input reads as it did. -/
def gatherSplitSpec : ChangeSpec := { name := "gatherSplit", fn := fun _ => fun
  | [d1, d2] => { results := [.lit (.bool true)], args := [d1, d2] }
  | _ => none }
def gatherSplitRow : OpenClaim := { program := "ytildnpnpakhnjaadoor", sum := "6cf2625c9d93c4dae70a67da71214b664d86a235cd40caea112693437c9eb66b", func := "quaymaster/quaymasterkeep.GatherSplit", spec := "gatherSplit", inPlace := ["internal/bytealg.IndexByteString", "internal/bytealg.IndexString", "internal/reflectlite.ValueOf", "(internal/reflectlite.Value).Type", "(internal/reflectlite.Value).IsNil", "internal/reflectlite.TypeOf", "(internal/reflectlite.Value).Elem", "(internal/reflectlite.Value).Set", "internal/abi.NoEscape", "internal/bytealg.MakeNoZero"], unfollowed := true, recurses := true, named := ["internal/bytealg.MaxLen", "errors.errorType"], apart := false, laid := [("errors.errorType", laid_errors_errorType)] }
def GatherSplitSaid : Prop := gatherSplitRow.holds Tryd.pinned (OpenSpec.ofChange gatherSplitSpec)

/-- ITS FALSE NEIGHBOUR: 'it returns false'. Refute it at one input. -/
def gatherSplitWrong : ChangeSpec := { name := "gatherSplit", fn := fun _ => fun
  | [d1, d2] => { results := [.lit (.bool false)], args := [d1, d2] }
  | _ => none }
def GatherSplitWrongFalsely : Prop := gatherSplitRow.holds Tryd.pinned (OpenSpec.ofChange gatherSplitWrong)

/-- 'quaymasterkeep.GatherMany': WHATEVER THE INPUT: true; the input reads as it did. -/
def gatherManySpec : ChangeSpec := { name := "gatherMany", fn := fun _ => fun
  | [d1, d2, d3] => { results := [.lit (.bool true)], args := [d1, d2, d3] }
  | _ => none }
def gatherManyRow : OpenClaim := { program := "ytildnpnpakhnjaadoor", sum := "6cf2625c9d93c4dae70a67da71214b664d86a235cd40caea112693437c9eb66b", func := "quaymaster/quaymasterkeep.GatherMany", spec := "gatherMany", inPlace := ["internal/bytealg.IndexByteString", "internal/bytealg.IndexString", "internal/reflectlite.ValueOf", "(internal/reflectlite.Value).Type", "(internal/reflectlite.Value).IsNil", "internal/reflectlite.TypeOf", "(internal/reflectlite.Value).Elem", "(internal/reflectlite.Value).Set"], unfollowed := true, recurses := true, named := ["internal/bytealg.MaxLen", "errors.errorType"], apart := false, laid := [("errors.errorType", laid_errors_errorType)] }
def GatherManySaid : Prop := gatherManyRow.holds Tryd.pinned (OpenSpec.ofChange gatherManySpec)

/-- ITS FALSE NEIGHBOUR: 'it returns false'. Refute it at one input. -/
def gatherManyWrong : ChangeSpec := { name := "gatherMany", fn := fun _ => fun
  | [d1, d2, d3] => { results := [.lit (.bool false)], args := [d1, d2, d3] }
  | _ => none }
def GatherManyWrongFalsely : Prop := gatherManyRow.holds Tryd.pinned (OpenSpec.ofChange gatherManyWrong)

/-- 'quaymasterlaw.GatherPlays': WHATEVER THE INPUT: true; the input reads as it did. -/
def gatherPlaysSpec : ChangeSpec := { name := "gatherPlays", fn := fun _ => fun
  | [d1, d2] => { results := [.lit (.bool true)], args := [d1, d2] }
  | _ => none }
def gatherPlaysRow : OpenClaim := { program := "ytildnpnpakhnjaadoor", sum := "6cf2625c9d93c4dae70a67da71214b664d86a235cd40caea112693437c9eb66b", func := "quaymaster/quaymasterlaw.GatherPlays", spec := "gatherPlays", inPlace := ["internal/reflectlite.ValueOf", "(internal/reflectlite.Value).Type", "(internal/reflectlite.Value).IsNil", "internal/reflectlite.TypeOf", "(internal/reflectlite.Value).Elem", "(internal/reflectlite.Value).Set", "internal/bytealg.CountString", "internal/bytealg.IndexByteString", "internal/bytealg.IndexString", "internal/abi.NoEscape", "internal/bytealg.MakeNoZero"], unfollowed := true, recurses := true, named := ["errors.errorType", "unicode/utf8.first", "unicode/utf8.acceptRanges", "internal/bytealg.MaxLen", "unicode.CaseRanges"], apart := false, laid := [("unicode/utf8.acceptRanges", laid_unicode_utf8_acceptRanges), ("errors.errorType", laid_errors_errorType), ("unicode.CaseRanges", laid_unicode_CaseRanges), ("unicode/utf8.first", laid_unicode_utf8_first)] }
def GatherPlaysSaid : Prop := gatherPlaysRow.holds Tryd.pinned (OpenSpec.ofChange gatherPlaysSpec)

/-- ITS FALSE NEIGHBOUR: 'it returns false'. Refute it at one input. -/
def gatherPlaysWrong : ChangeSpec := { name := "gatherPlays", fn := fun _ => fun
  | [d1, d2] => { results := [.lit (.bool false)], args := [d1, d2] }
  | _ => none }
def GatherPlaysWrongFalsely : Prop := gatherPlaysRow.holds Tryd.pinned (OpenSpec.ofChange gatherPlaysWrong)

/- THE SECOND FORM. 'bulk': how many values and letters a reading holds, each counted each time it is reached (what is shared counts as often as it is met; a slice's spare places count too). A statement '..UptoSaid' is the law's where the arguments, and the package variables that the reading takes, are together of bulk at most 1048576: NARROWER than '..Said'. Prove '..Said' where nothing that the law and all that it calls make is longer than what came in: it says more and counts as full. Else prove '..UptoSaid'. A law counts once. -/
mutual
def uptoBulk {H : Type} : DataW H → Nat
  | .lit (.string bytes) => bytes.length + 1
  | .lit _ => 1
  | .nil => 1
  | .ptr d => uptoBulk d + 1
  | .slice elems spare => uptoBulkAll elems + uptoBulkAll spare + 1
  | .agg parts => uptoBulkAll parts + 1
  | .iface _ d => uptoBulk d + 1
  | .map entries => uptoBulkEntries entries + 1
  | .held _ => 1
def uptoBulkAll {H : Type} : List (DataW H) → Nat
  | [] => 0
  | d :: r => uptoBulk d + uptoBulkAll r
def uptoBulkEntries {H : Type} : List (Lit × DataW H) → Nat
  | [] => 0
  | x :: r => uptoBulkEntry x + uptoBulkEntries r
def uptoBulkEntry {H : Type} : Lit × DataW H → Nat
  | (.string bytes, d) => bytes.length + uptoBulk d + 1
  | (_, d) => uptoBulk d + 1
 end
def uptoSmall : (H : Type) → List (DataW H) → Bool := fun _ ds => decide (uptoBulkAll ds ≤ 1048576)
def OpenSpec.upto (s : _root_.Go.ChangeSpec) : _root_.Go.OpenSpec := { _root_.Go.OpenSpec.ofChange s with cond := some uptoSmall }

/-- 'quaymasterlaw.PairsPrints', WHERE WHAT IT READS IS OF BULK AT MOST 1048576: true; the input reads as it did. -/
def pairsPrintsUptoRow : OpenClaim := { program := "ytildnpnpakhnjaadoor", sum := "6cf2625c9d93c4dae70a67da71214b664d86a235cd40caea112693437c9eb66b", func := "quaymaster/quaymasterlaw.PairsPrints", spec := "pairsPrints", inPlace := ["internal/abi.NoEscape", "internal/bytealg.MakeNoZero", "internal/bytealg.IndexByteString", "internal/reflectlite.ValueOf", "(internal/reflectlite.Value).Type", "(internal/reflectlite.Value).IsNil", "internal/reflectlite.TypeOf", "(internal/reflectlite.Value).Elem", "(internal/reflectlite.Value).Set"], unfollowed := true, recurses := true, named := ["unicode/utf8.first", "unicode/utf8.acceptRanges", "unicode.CaseRanges", "errors.errorType"], apart := false, laid := [("unicode/utf8.acceptRanges", laid_unicode_utf8_acceptRanges), ("errors.errorType", laid_errors_errorType), ("unicode.CaseRanges", laid_unicode_CaseRanges), ("unicode/utf8.first", laid_unicode_utf8_first)], narrowed := true }
def PairsPrintsUptoSaid : Prop := pairsPrintsUptoRow.holds Tryd.pinned (OpenSpec.upto pairsPrintsSpec)

/-- 'quaymasterlaw.PairsParses', WHERE WHAT IT READS IS OF BULK AT MOST 1048576: true; the input reads as it did. -/
def pairsParsesUptoRow : OpenClaim := { program := "ytildnpnpakhnjaadoor", sum := "6cf2625c9d93c4dae70a67da71214b664d86a235cd40caea112693437c9eb66b", func := "quaymaster/quaymasterlaw.PairsParses", spec := "pairsParses", inPlace := ["internal/bytealg.CountString", "internal/bytealg.IndexByteString", "internal/bytealg.IndexString", "internal/abi.NoEscape", "internal/bytealg.MakeNoZero", "internal/reflectlite.ValueOf", "(internal/reflectlite.Value).Type", "(internal/reflectlite.Value).IsNil", "internal/reflectlite.TypeOf", "(internal/reflectlite.Value).Elem", "(internal/reflectlite.Value).Set"], unfollowed := true, recurses := true, named := ["unicode/utf8.first", "unicode/utf8.acceptRanges", "internal/bytealg.MaxLen", "unicode.CaseRanges", "errors.errorType"], apart := false, laid := [("unicode/utf8.acceptRanges", laid_unicode_utf8_acceptRanges), ("errors.errorType", laid_errors_errorType), ("unicode.CaseRanges", laid_unicode_CaseRanges), ("unicode/utf8.first", laid_unicode_utf8_first)], narrowed := true }
def PairsParsesUptoSaid : Prop := pairsParsesUptoRow.holds Tryd.pinned (OpenSpec.upto pairsParsesSpec)

/-- 'quaymasterkeep.PairsJoins', WHERE WHAT IT READS IS OF BULK AT MOST 1048576: true; the input reads as it did. -/
def pairsJoinsUptoRow : OpenClaim := { program := "ytildnpnpakhnjaadoor", sum := "6cf2625c9d93c4dae70a67da71214b664d86a235cd40caea112693437c9eb66b", func := "quaymaster/quaymasterkeep.PairsJoins", spec := "pairsJoins", inPlace := ["internal/bytealg.IndexByteString", "internal/abi.NoEscape", "internal/bytealg.IndexString", "internal/reflectlite.ValueOf", "(internal/reflectlite.Value).Type", "(internal/reflectlite.Value).IsNil", "internal/reflectlite.TypeOf", "(internal/reflectlite.Value).Elem", "(internal/reflectlite.Value).Set"], unfollowed := true, recurses := true, named := ["internal/bytealg.MaxLen", "errors.errorType"], apart := false, laid := [("errors.errorType", laid_errors_errorType)], narrowed := true }
def PairsJoinsUptoSaid : Prop := pairsJoinsUptoRow.holds Tryd.pinned (OpenSpec.upto pairsJoinsSpec)

/-- 'quaymasterkeep.PairsCut', WHERE WHAT IT READS IS OF BULK AT MOST 1048576: true; the input reads as it did. -/
def pairsCutUptoRow : OpenClaim := { program := "ytildnpnpakhnjaadoor", sum := "6cf2625c9d93c4dae70a67da71214b664d86a235cd40caea112693437c9eb66b", func := "quaymaster/quaymasterkeep.PairsCut", spec := "pairsCut", inPlace := ["internal/bytealg.IndexByteString", "internal/abi.NoEscape", "internal/bytealg.IndexString", "internal/reflectlite.ValueOf", "(internal/reflectlite.Value).Type", "(internal/reflectlite.Value).IsNil", "internal/reflectlite.TypeOf", "(internal/reflectlite.Value).Elem", "(internal/reflectlite.Value).Set"], unfollowed := true, recurses := true, named := ["internal/bytealg.MaxLen", "errors.errorType"], apart := false, laid := [("errors.errorType", laid_errors_errorType)], narrowed := true }
def PairsCutUptoSaid : Prop := pairsCutUptoRow.holds Tryd.pinned (OpenSpec.upto pairsCutSpec)

/-- 'quaymasterlaw.GatherSplits', WHERE WHAT IT READS IS OF BULK AT MOST 1048576: true; the input reads as it did. -/
def gatherSplitsUptoRow : OpenClaim := { program := "ytildnpnpakhnjaadoor", sum := "6cf2625c9d93c4dae70a67da71214b664d86a235cd40caea112693437c9eb66b", func := "quaymaster/quaymasterlaw.GatherSplits", spec := "gatherSplits", inPlace := ["internal/reflectlite.ValueOf", "(internal/reflectlite.Value).Type", "(internal/reflectlite.Value).IsNil", "internal/reflectlite.TypeOf", "(internal/reflectlite.Value).Elem", "(internal/reflectlite.Value).Set"], unfollowed := true, recurses := true, named := ["errors.errorType"], apart := false, laid := [("errors.errorType", laid_errors_errorType)], narrowed := true }
def GatherSplitsUptoSaid : Prop := gatherSplitsUptoRow.holds Tryd.pinned (OpenSpec.upto gatherSplitsSpec)

/-- 'quaymasterkeep.GatherTwice', WHERE WHAT IT READS IS OF BULK AT MOST 1048576: true; the input reads as it did. -/
def gatherTwiceUptoRow : OpenClaim := { program := "ytildnpnpakhnjaadoor", sum := "6cf2625c9d93c4dae70a67da71214b664d86a235cd40caea112693437c9eb66b", func := "quaymaster/quaymasterkeep.GatherTwice", spec := "gatherTwice", inPlace := ["internal/bytealg.IndexByteString", "internal/bytealg.IndexString", "internal/reflectlite.ValueOf", "(internal/reflectlite.Value).Type", "(internal/reflectlite.Value).IsNil", "internal/reflectlite.TypeOf", "(internal/reflectlite.Value).Elem", "(internal/reflectlite.Value).Set", "internal/abi.NoEscape"], unfollowed := true, recurses := true, named := ["internal/bytealg.MaxLen", "errors.errorType"], apart := false, laid := [("errors.errorType", laid_errors_errorType)], narrowed := true }
def GatherTwiceUptoSaid : Prop := gatherTwiceUptoRow.holds Tryd.pinned (OpenSpec.upto gatherTwiceSpec)

/-- 'quaymasterkeep.GatherParts', WHERE WHAT IT READS IS OF BULK AT MOST 1048576: true; the input reads as it did. -/
def gatherPartsUptoRow : OpenClaim := { program := "ytildnpnpakhnjaadoor", sum := "6cf2625c9d93c4dae70a67da71214b664d86a235cd40caea112693437c9eb66b", func := "quaymaster/quaymasterkeep.GatherParts", spec := "gatherParts", inPlace := ["internal/bytealg.IndexByteString", "internal/bytealg.IndexString", "internal/reflectlite.ValueOf", "(internal/reflectlite.Value).Type", "(internal/reflectlite.Value).IsNil", "internal/reflectlite.TypeOf", "(internal/reflectlite.Value).Elem", "(internal/reflectlite.Value).Set", "internal/abi.NoEscape"], unfollowed := true, recurses := true, named := ["internal/bytealg.MaxLen", "errors.errorType"], apart := false, laid := [("errors.errorType", laid_errors_errorType)], narrowed := true }
def GatherPartsUptoSaid : Prop := gatherPartsUptoRow.holds Tryd.pinned (OpenSpec.upto gatherPartsSpec)

/-- 'quaymasterkeep.GatherFull', WHERE WHAT IT READS IS OF BULK AT MOST 1048576: true; the input reads as it did. -/
def gatherFullUptoRow : OpenClaim := { program := "ytildnpnpakhnjaadoor", sum := "6cf2625c9d93c4dae70a67da71214b664d86a235cd40caea112693437c9eb66b", func := "quaymaster/quaymasterkeep.GatherFull", spec := "gatherFull", inPlace := ["internal/bytealg.IndexByteString", "internal/bytealg.IndexString", "internal/reflectlite.ValueOf", "(internal/reflectlite.Value).Type", "(internal/reflectlite.Value).IsNil", "internal/reflectlite.TypeOf", "(internal/reflectlite.Value).Elem", "(internal/reflectlite.Value).Set"], unfollowed := true, recurses := true, named := ["internal/bytealg.MaxLen", "errors.errorType"], apart := false, laid := [("errors.errorType", laid_errors_errorType)], narrowed := true }
def GatherFullUptoSaid : Prop := gatherFullUptoRow.holds Tryd.pinned (OpenSpec.upto gatherFullSpec)

/-- 'quaymasterkeep.GatherSplit', WHERE WHAT IT READS IS OF BULK AT MOST 1048576: true; the input reads as it did. -/
def gatherSplitUptoRow : OpenClaim := { program := "ytildnpnpakhnjaadoor", sum := "6cf2625c9d93c4dae70a67da71214b664d86a235cd40caea112693437c9eb66b", func := "quaymaster/quaymasterkeep.GatherSplit", spec := "gatherSplit", inPlace := ["internal/bytealg.IndexByteString", "internal/bytealg.IndexString", "internal/reflectlite.ValueOf", "(internal/reflectlite.Value).Type", "(internal/reflectlite.Value).IsNil", "internal/reflectlite.TypeOf", "(internal/reflectlite.Value).Elem", "(internal/reflectlite.Value).Set", "internal/abi.NoEscape", "internal/bytealg.MakeNoZero"], unfollowed := true, recurses := true, named := ["internal/bytealg.MaxLen", "errors.errorType"], apart := false, laid := [("errors.errorType", laid_errors_errorType)], narrowed := true }
def GatherSplitUptoSaid : Prop := gatherSplitUptoRow.holds Tryd.pinned (OpenSpec.upto gatherSplitSpec)

/-- 'quaymasterkeep.GatherMany', WHERE WHAT IT READS IS OF BULK AT MOST 1048576: true; the input reads as it did. -/
def gatherManyUptoRow : OpenClaim := { program := "ytildnpnpakhnjaadoor", sum := "6cf2625c9d93c4dae70a67da71214b664d86a235cd40caea112693437c9eb66b", func := "quaymaster/quaymasterkeep.GatherMany", spec := "gatherMany", inPlace := ["internal/bytealg.IndexByteString", "internal/bytealg.IndexString", "internal/reflectlite.ValueOf", "(internal/reflectlite.Value).Type", "(internal/reflectlite.Value).IsNil", "internal/reflectlite.TypeOf", "(internal/reflectlite.Value).Elem", "(internal/reflectlite.Value).Set"], unfollowed := true, recurses := true, named := ["internal/bytealg.MaxLen", "errors.errorType"], apart := false, laid := [("errors.errorType", laid_errors_errorType)], narrowed := true }
def GatherManyUptoSaid : Prop := gatherManyUptoRow.holds Tryd.pinned (OpenSpec.upto gatherManySpec)

/-- 'quaymasterlaw.GatherPlays', WHERE WHAT IT READS IS OF BULK AT MOST 1048576: true; the input reads as it did. -/
def gatherPlaysUptoRow : OpenClaim := { program := "ytildnpnpakhnjaadoor", sum := "6cf2625c9d93c4dae70a67da71214b664d86a235cd40caea112693437c9eb66b", func := "quaymaster/quaymasterlaw.GatherPlays", spec := "gatherPlays", inPlace := ["internal/reflectlite.ValueOf", "(internal/reflectlite.Value).Type", "(internal/reflectlite.Value).IsNil", "internal/reflectlite.TypeOf", "(internal/reflectlite.Value).Elem", "(internal/reflectlite.Value).Set", "internal/bytealg.CountString", "internal/bytealg.IndexByteString", "internal/bytealg.IndexString", "internal/abi.NoEscape", "internal/bytealg.MakeNoZero"], unfollowed := true, recurses := true, named := ["errors.errorType", "unicode/utf8.first", "unicode/utf8.acceptRanges", "internal/bytealg.MaxLen", "unicode.CaseRanges"], apart := false, laid := [("unicode/utf8.acceptRanges", laid_unicode_utf8_acceptRanges), ("errors.errorType", laid_errors_errorType), ("unicode.CaseRanges", laid_unicode_CaseRanges), ("unicode/utf8.first", laid_unicode_utf8_first)], narrowed := true }
def GatherPlaysUptoSaid : Prop := gatherPlaysUptoRow.holds Tryd.pinned (OpenSpec.upto gatherPlaysSpec)

end Rows
end Go.Proofs.YtildnpnpakhnjaaDoor
