/-
  No cell of these rows narrows 'for every input' (looked for: loops, veiled, ifaces, maps, wideKeys, modest, calm, conditions, laid).
  DERIVED. THE GIVEN ROWS OF THIS SEAT. 5 by the template 'for every input the law returns true; each argument reads behind the call as it read before'; 0 by the template 'total and deterministic' (their statements: YtildnpnpakhnjaaTotals.lean).
  GIVEN WITH THE SEED: the statements are not yours to turn. If you find one false, say at which input.
  Laid BY PROGRAM, IN A SANDBOX (cutbox-rows.mjs): the forced cells as the released guide's own fill.sh prints them over the translation 5b29478104404bd2… (all of the seat's roots in one cut). By AI agents, Wed Nov 11 2026. No macro, syntax, notation, axiom, sorry.
-/
import Derived.Test.YtildnpnpakhnjaaChecked
import GoSem.Claim
import GoSem.ClaimJoined
import GoSem.ClaimMapViews
import Derived.JoinedTies
import Derived.KernelRfl
namespace Go.Proofs.Ytildnpnpakhnjaa
/- THE CELL 'sum', in the pinned program and in every row, IS THE sha256 OF THE DUMP (.gsa) THAT YtildnpnpakhnjaaProg.lean LOADS. Nothing in Lean hashes anything: it is a label: what it is worth is what the hold of that sum in a sandbox is worth. -/
noncomputable def Try.pinned : Pinned := { name := "ytildnpnpakhnjaa", sum := "5b29478104404bd20688f12b53eda2dfe74517f8c0c095c7c523238770b43281", checked := Try.checked }
namespace Rows
def none {H : Type} : Left H := { results := [], args := [] }

/-- 'quaymasterkeep.PairsBack': WHATEVER THE INPUT: true; the input reads as it did. -/
def pairsBackSpec : ChangeSpec := { name := "pairsBack", fn := fun _ => fun
  | [d] => { results := [.lit (.bool true)], args := [d] }
  | _ => none }
def pairsBackRow : OpenClaim := { program := "ytildnpnpakhnjaa", sum := "5b29478104404bd20688f12b53eda2dfe74517f8c0c095c7c523238770b43281", func := "quaymaster/quaymasterkeep.PairsBack", spec := "pairsBack", inPlace := ["internal/bytealg.IndexByteString", "internal/abi.NoEscape", "internal/bytealg.IndexString", "internal/bytealg.CountString"], named := ["internal/bytealg.MaxLen"], apart := false }
def PairsBackSaid : Prop := pairsBackRow.holds Try.pinned (OpenSpec.ofChange pairsBackSpec)

/-- ITS FALSE NEIGHBOUR: 'it returns false'. Refute it at one input. -/
def pairsBackWrong : ChangeSpec := { name := "pairsBack", fn := fun _ => fun
  | [d] => { results := [.lit (.bool false)], args := [d] }
  | _ => none }
def PairsBackWrongFalsely : Prop := pairsBackRow.holds Try.pinned (OpenSpec.ofChange pairsBackWrong)

/-- 'quaymasterkeep.PairsOnly': WHATEVER THE INPUT: true; the input reads as it did. -/
def pairsOnlySpec : ChangeSpec := { name := "pairsOnly", fn := fun _ => fun
  | [d] => { results := [.lit (.bool true)], args := [d] }
  | _ => none }
def pairsOnlyRow : OpenClaim := { program := "ytildnpnpakhnjaa", sum := "5b29478104404bd20688f12b53eda2dfe74517f8c0c095c7c523238770b43281", func := "quaymaster/quaymasterkeep.PairsOnly", spec := "pairsOnly", inPlace := ["internal/bytealg.IndexByteString", "internal/abi.NoEscape", "internal/bytealg.IndexString"], named := ["internal/bytealg.MaxLen"], apart := false }
def PairsOnlySaid : Prop := pairsOnlyRow.holds Try.pinned (OpenSpec.ofChange pairsOnlySpec)

/-- ITS FALSE NEIGHBOUR: 'it returns false'. Refute it at one input. -/
def pairsOnlyWrong : ChangeSpec := { name := "pairsOnly", fn := fun _ => fun
  | [d] => { results := [.lit (.bool false)], args := [d] }
  | _ => none }
def PairsOnlyWrongFalsely : Prop := pairsOnlyRow.holds Try.pinned (OpenSpec.ofChange pairsOnlyWrong)

/-- 'quaymasterkeep.PairsFind': WHATEVER THE INPUT: true; the input reads as it did. -/
def pairsFindSpec : ChangeSpec := { name := "pairsFind", fn := fun _ => fun
  | [d1, d2] => { results := [.lit (.bool true)], args := [d1, d2] }
  | _ => none }
def pairsFindRow : OpenClaim := { program := "ytildnpnpakhnjaa", sum := "5b29478104404bd20688f12b53eda2dfe74517f8c0c095c7c523238770b43281", func := "quaymaster/quaymasterkeep.PairsFind", spec := "pairsFind", inPlace := ["internal/bytealg.IndexByteString", "internal/abi.NoEscape", "internal/bytealg.IndexString"], unfollowed := true, recurses := true, named := ["internal/bytealg.MaxLen"], apart := false }
def PairsFindSaid : Prop := pairsFindRow.holds Try.pinned (OpenSpec.ofChange pairsFindSpec)

/-- ITS FALSE NEIGHBOUR: 'it returns false'. Refute it at one input. -/
def pairsFindWrong : ChangeSpec := { name := "pairsFind", fn := fun _ => fun
  | [d1, d2] => { results := [.lit (.bool false)], args := [d1, d2] }
  | _ => none }
def PairsFindWrongFalsely : Prop := pairsFindRow.holds Try.pinned (OpenSpec.ofChange pairsFindWrong)

/-- 'quaymasterkeep.PairsLetters': WHATEVER THE INPUT: true; the input reads as it did. -/
def pairsLettersSpec : ChangeSpec := { name := "pairsLetters", fn := fun _ => fun
  | [d1, d2] => { results := [.lit (.bool true)], args := [d1, d2] }
  | _ => none }
def pairsLettersRow : OpenClaim := { program := "ytildnpnpakhnjaa", sum := "5b29478104404bd20688f12b53eda2dfe74517f8c0c095c7c523238770b43281", func := "quaymaster/quaymasterkeep.PairsLetters", spec := "pairsLetters", inPlace := ["internal/bytealg.IndexByteString", "internal/abi.NoEscape", "internal/bytealg.IndexString"], named := ["internal/bytealg.MaxLen"], apart := false }
def PairsLettersSaid : Prop := pairsLettersRow.holds Try.pinned (OpenSpec.ofChange pairsLettersSpec)

/-- ITS FALSE NEIGHBOUR: 'it returns false'. Refute it at one input. -/
def pairsLettersWrong : ChangeSpec := { name := "pairsLetters", fn := fun _ => fun
  | [d1, d2] => { results := [.lit (.bool false)], args := [d1, d2] }
  | _ => none }
def PairsLettersWrongFalsely : Prop := pairsLettersRow.holds Try.pinned (OpenSpec.ofChange pairsLettersWrong)

/-- 'quaymasterkeep.PairsLong': WHATEVER THE INPUT: true; the input reads as it did. -/
def pairsLongSpec : ChangeSpec := { name := "pairsLong", fn := fun _ => fun
  | [d] => { results := [.lit (.bool true)], args := [d] }
  | _ => none }
def pairsLongRow : OpenClaim := { program := "ytildnpnpakhnjaa", sum := "5b29478104404bd20688f12b53eda2dfe74517f8c0c095c7c523238770b43281", func := "quaymaster/quaymasterkeep.PairsLong", spec := "pairsLong", inPlace := ["internal/bytealg.IndexByteString", "internal/abi.NoEscape", "internal/bytealg.IndexString"], named := ["internal/bytealg.MaxLen"], apart := false }
def PairsLongSaid : Prop := pairsLongRow.holds Try.pinned (OpenSpec.ofChange pairsLongSpec)

/-- ITS FALSE NEIGHBOUR: 'it returns false'. Refute it at one input. -/
def pairsLongWrong : ChangeSpec := { name := "pairsLong", fn := fun _ => fun
  | [d] => { results := [.lit (.bool false)], args := [d] }
  | _ => none }
def PairsLongWrongFalsely : Prop := pairsLongRow.holds Try.pinned (OpenSpec.ofChange pairsLongWrong)

/- THE SECOND FORM. 'bulk': how many values and letters a reading holds, each counted each time it is reached (what is shared counts as often as it is met; a slice's spare places count too). A statement '..UptoSaid' is the law's where the arguments, and the package variables that the reading takes, are together of bulk at most 1048576: NARROWER than '..Said'. Prove '..Said' where nothing that the law and all that it calls make is longer than what came in: it says more and counts as full. Else prove '..UptoSaid'. A law counts once. -/
mutual
def uptoBulk {H : Type} : DataW H → Nat
  | .lit (.string bytes) => bytes.length + 1
  | .lit _ => 1
  | .nil => 1
  | .ptr d => uptoBulk d + 1
  | .slice elems spare => uptoBulkAll elems + uptoBulkAll spare + 1
  | .agg parts => uptoBulkAll parts + 1
  | .iface _ d => uptoBulk d + 1
  | .map entries => uptoBulkEntries entries + 1
  | .held _ => 1
def uptoBulkAll {H : Type} : List (DataW H) → Nat
  | [] => 0
  | d :: r => uptoBulk d + uptoBulkAll r
def uptoBulkEntries {H : Type} : List (Lit × DataW H) → Nat
  | [] => 0
  | x :: r => uptoBulkEntry x + uptoBulkEntries r
def uptoBulkEntry {H : Type} : Lit × DataW H → Nat
  | (.string bytes, d) => bytes.length + uptoBulk d + 1
  | (_, d) => uptoBulk d + 1
 end
def uptoSmall : (H : Type) → List (DataW H) → Bool := fun _ ds => decide (uptoBulkAll ds ≤ 1048576)
def OpenSpec.upto (s : _root_.Go.ChangeSpec) : _root_.Go.OpenSpec := { _root_.Go.OpenSpec.ofChange s with cond := some uptoSmall }

/-- 'quaymasterkeep.PairsBack', WHERE WHAT IT READS IS OF BULK AT MOST 1048576: true; the input reads as it did. -/
def pairsBackUptoRow : OpenClaim := { program := "ytildnpnpakhnjaa", sum := "5b29478104404bd20688f12b53eda2dfe74517f8c0c095c7c523238770b43281", func := "quaymaster/quaymasterkeep.PairsBack", spec := "pairsBack", inPlace := ["internal/bytealg.IndexByteString", "internal/abi.NoEscape", "internal/bytealg.IndexString", "internal/bytealg.CountString"], named := ["internal/bytealg.MaxLen"], apart := false, narrowed := true }
def PairsBackUptoSaid : Prop := pairsBackUptoRow.holds Try.pinned (OpenSpec.upto pairsBackSpec)

/-- 'quaymasterkeep.PairsOnly', WHERE WHAT IT READS IS OF BULK AT MOST 1048576: true; the input reads as it did. -/
def pairsOnlyUptoRow : OpenClaim := { program := "ytildnpnpakhnjaa", sum := "5b29478104404bd20688f12b53eda2dfe74517f8c0c095c7c523238770b43281", func := "quaymaster/quaymasterkeep.PairsOnly", spec := "pairsOnly", inPlace := ["internal/bytealg.IndexByteString", "internal/abi.NoEscape", "internal/bytealg.IndexString"], named := ["internal/bytealg.MaxLen"], apart := false, narrowed := true }
def PairsOnlyUptoSaid : Prop := pairsOnlyUptoRow.holds Try.pinned (OpenSpec.upto pairsOnlySpec)

/-- 'quaymasterkeep.PairsFind', WHERE WHAT IT READS IS OF BULK AT MOST 1048576: true; the input reads as it did. -/
def pairsFindUptoRow : OpenClaim := { program := "ytildnpnpakhnjaa", sum := "5b29478104404bd20688f12b53eda2dfe74517f8c0c095c7c523238770b43281", func := "quaymaster/quaymasterkeep.PairsFind", spec := "pairsFind", inPlace := ["internal/bytealg.IndexByteString", "internal/abi.NoEscape", "internal/bytealg.IndexString"], unfollowed := true, recurses := true, named := ["internal/bytealg.MaxLen"], apart := false, narrowed := true }
def PairsFindUptoSaid : Prop := pairsFindUptoRow.holds Try.pinned (OpenSpec.upto pairsFindSpec)

/-- 'quaymasterkeep.PairsLetters', WHERE WHAT IT READS IS OF BULK AT MOST 1048576: true; the input reads as it did. -/
def pairsLettersUptoRow : OpenClaim := { program := "ytildnpnpakhnjaa", sum := "5b29478104404bd20688f12b53eda2dfe74517f8c0c095c7c523238770b43281", func := "quaymaster/quaymasterkeep.PairsLetters", spec := "pairsLetters", inPlace := ["internal/bytealg.IndexByteString", "internal/abi.NoEscape", "internal/bytealg.IndexString"], named := ["internal/bytealg.MaxLen"], apart := false, narrowed := true }
def PairsLettersUptoSaid : Prop := pairsLettersUptoRow.holds Try.pinned (OpenSpec.upto pairsLettersSpec)

/-- 'quaymasterkeep.PairsLong', WHERE WHAT IT READS IS OF BULK AT MOST 1048576: true; the input reads as it did. -/
def pairsLongUptoRow : OpenClaim := { program := "ytildnpnpakhnjaa", sum := "5b29478104404bd20688f12b53eda2dfe74517f8c0c095c7c523238770b43281", func := "quaymaster/quaymasterkeep.PairsLong", spec := "pairsLong", inPlace := ["internal/bytealg.IndexByteString", "internal/abi.NoEscape", "internal/bytealg.IndexString"], named := ["internal/bytealg.MaxLen"], apart := false, narrowed := true }
def PairsLongUptoSaid : Prop := pairsLongUptoRow.holds Try.pinned (OpenSpec.upto pairsLongSpec)

end Rows
end Go.Proofs.Ytildnpnpakhnjaa
