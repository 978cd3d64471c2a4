/-
  DERIVED. GIVEN WITH THE SEED: THE CARDS: each row of YtoheabcohfjknaaDoorRows.lean that lists a variable, with what it lists TIED to the program's text (the seventh form; the later family's looks); each row that meets fmt, with fmt's text TOLD by the authors' own Lean function (tested against real Go, not proved from fmt's source: count such statements apart). THE CARD IS WHAT COUNTS. Prove the row's statement (the work); the ties are given (YtoheabcohfjknaaDoorTie.lean); close each card by the builder's one call (the guide's Derived/Test/ToyasCard.lean, 'card_holds'). Laid BY PROGRAM, IN A SANDBOX (cutbox-door.mjs). By AI agents, Wed Nov 11 2026. No macro, syntax, notation, axiom, sorry.
-/
import Derived.Test.YtoheabcohfjknaaDoorRows
import GoSem.ClaimSeven
namespace Go.Proofs.YtoheabcohfjknaaDoor
namespace Rows

/-- THE TIED CARD OF 'quaymasterlaw.Md5Sums'. -/
def md5SumsCard : Claim7 := { stood := { row := md5SumsRow, standIns := [], harness := (true, "f0d42dc09770fca0d6ed3b58479ea41e1aee23467ef19d36ce6e217376a01487"), looks := true }, kinds := [], alts := [], laidByText := true, laidKinds := [.data, .data, .data, .sentinel, .sentinel, .data, .data], laidTests := true, laidLooks := .later }
def Md5SumsCardSaid : Prop := Claim7.holds Tryd.pinned (.plain (OpenSpec.ofChange md5SumsSpec)) md5SumsCard

/-- THE TIED CARD OF 'quaymasterkeep.Md5Known'. -/
def md5KnownCard : Claim7 := { stood := { row := md5KnownRow, standIns := [], harness := (true, "f0d42dc09770fca0d6ed3b58479ea41e1aee23467ef19d36ce6e217376a01487"), looks := true }, kinds := [], alts := [], laidByText := true, laidKinds := [.data, .data], laidTests := true, laidLooks := .later }
def Md5KnownCardSaid : Prop := Claim7.holds Tryd.pinned (.plain (OpenSpec.ofChange md5KnownSpec)) md5KnownCard

/-- THE TIED CARD OF 'quaymasterkeep.BinaryBack'. -/
def binaryBackCard : Claim7 := { stood := { row := binaryBackRow, standIns := [], harness := (true, "f0d42dc09770fca0d6ed3b58479ea41e1aee23467ef19d36ce6e217376a01487"), looks := true }, kinds := [], alts := [], laidByText := true, laidKinds := [.handle], laidTests := true, laidLooks := .later }
def BinaryBackCardSaid : Prop := Claim7.holds Tryd.pinned (.plain (OpenSpec.ofChange binaryBackSpec)) binaryBackCard

/-- THE TIED CARD OF 'quaymasterkeep.BinaryOnly'. -/
def binaryOnlyCard : Claim7 := { stood := { row := binaryOnlyRow, standIns := [], harness := (true, "f0d42dc09770fca0d6ed3b58479ea41e1aee23467ef19d36ce6e217376a01487"), looks := true }, kinds := [], alts := [], laidByText := true, laidKinds := [.data, .handle, .data, .data, .pinned, .pinned], laidTests := true, laidLooks := .later }
def BinaryOnlyCardSaid : Prop := Claim7.holds Tryd.pinned (.plain (OpenSpec.ofChange binaryOnlySpec)) binaryOnlyCard

/-- THE TIED CARD OF 'quaymasterkeep.BinaryJoins'. -/
def binaryJoinsCard : Claim7 := { stood := { row := binaryJoinsRow, standIns := [], harness := (true, "f0d42dc09770fca0d6ed3b58479ea41e1aee23467ef19d36ce6e217376a01487"), looks := true }, kinds := [], alts := [], laidByText := true, laidKinds := [.handle], laidTests := true, laidLooks := .later }
def BinaryJoinsCardSaid : Prop := Claim7.holds Tryd.pinned (.plain (OpenSpec.ofChange binaryJoinsSpec)) binaryJoinsCard

/-- THE TIED CARD OF 'quaymasterkeep.BinaryCases'. -/
def binaryCasesCard : Claim7 := { stood := { row := binaryCasesRow, standIns := [], harness := (true, "f0d42dc09770fca0d6ed3b58479ea41e1aee23467ef19d36ce6e217376a01487"), looks := true }, kinds := [], alts := [], laidByText := true, laidKinds := [.data, .handle, .pinned, .pinned], laidTests := true, laidLooks := .later }
def BinaryCasesCardSaid : Prop := Claim7.holds Tryd.pinned (.plain (OpenSpec.ofChange binaryCasesSpec)) binaryCasesCard

/-- THE TIED CARD OF 'quaymasterkeep.BinaryCut'. -/
def binaryCutCard : Claim7 := { stood := { row := binaryCutRow, standIns := [], harness := (true, "f0d42dc09770fca0d6ed3b58479ea41e1aee23467ef19d36ce6e217376a01487"), looks := true }, kinds := [], alts := [], laidByText := true, laidKinds := [.handle], laidTests := true, laidLooks := .later }
def BinaryCutCardSaid : Prop := Claim7.holds Tryd.pinned (.plain (OpenSpec.ofChange binaryCutSpec)) binaryCutCard

/-- THE SECOND FORM's CARD OF 'quaymasterlaw.Md5Sums'. -/
def md5SumsUptoCard : Claim7 := { stood := { row := md5SumsUptoRow, standIns := [], harness := (true, "f0d42dc09770fca0d6ed3b58479ea41e1aee23467ef19d36ce6e217376a01487"), looks := true }, kinds := [], alts := [], laidByText := true, laidKinds := [.data, .data, .data, .sentinel, .sentinel, .data, .data], laidTests := true, laidLooks := .later }
def Md5SumsUptoCardSaid : Prop := Claim7.holds Tryd.pinned (.plain (OpenSpec.upto md5SumsSpec)) md5SumsUptoCard

/-- THE SECOND FORM's CARD OF 'quaymasterkeep.Md5Known'. -/
def md5KnownUptoCard : Claim7 := { stood := { row := md5KnownUptoRow, standIns := [], harness := (true, "f0d42dc09770fca0d6ed3b58479ea41e1aee23467ef19d36ce6e217376a01487"), looks := true }, kinds := [], alts := [], laidByText := true, laidKinds := [.data, .data], laidTests := true, laidLooks := .later }
def Md5KnownUptoCardSaid : Prop := Claim7.holds Tryd.pinned (.plain (OpenSpec.upto md5KnownSpec)) md5KnownUptoCard

/-- THE SECOND FORM's CARD OF 'quaymasterkeep.BinaryBack'. -/
def binaryBackUptoCard : Claim7 := { stood := { row := binaryBackUptoRow, standIns := [], harness := (true, "f0d42dc09770fca0d6ed3b58479ea41e1aee23467ef19d36ce6e217376a01487"), looks := true }, kinds := [], alts := [], laidByText := true, laidKinds := [.handle], laidTests := true, laidLooks := .later }
def BinaryBackUptoCardSaid : Prop := Claim7.holds Tryd.pinned (.plain (OpenSpec.upto binaryBackSpec)) binaryBackUptoCard

/-- THE SECOND FORM's CARD OF 'quaymasterkeep.BinaryOnly'. -/
def binaryOnlyUptoCard : Claim7 := { stood := { row := binaryOnlyUptoRow, standIns := [], harness := (true, "f0d42dc09770fca0d6ed3b58479ea41e1aee23467ef19d36ce6e217376a01487"), looks := true }, kinds := [], alts := [], laidByText := true, laidKinds := [.data, .handle, .data, .data, .pinned, .pinned], laidTests := true, laidLooks := .later }
def BinaryOnlyUptoCardSaid : Prop := Claim7.holds Tryd.pinned (.plain (OpenSpec.upto binaryOnlySpec)) binaryOnlyUptoCard

/-- THE SECOND FORM's CARD OF 'quaymasterkeep.BinaryJoins'. -/
def binaryJoinsUptoCard : Claim7 := { stood := { row := binaryJoinsUptoRow, standIns := [], harness := (true, "f0d42dc09770fca0d6ed3b58479ea41e1aee23467ef19d36ce6e217376a01487"), looks := true }, kinds := [], alts := [], laidByText := true, laidKinds := [.handle], laidTests := true, laidLooks := .later }
def BinaryJoinsUptoCardSaid : Prop := Claim7.holds Tryd.pinned (.plain (OpenSpec.upto binaryJoinsSpec)) binaryJoinsUptoCard

/-- THE SECOND FORM's CARD OF 'quaymasterkeep.BinaryCases'. -/
def binaryCasesUptoCard : Claim7 := { stood := { row := binaryCasesUptoRow, standIns := [], harness := (true, "f0d42dc09770fca0d6ed3b58479ea41e1aee23467ef19d36ce6e217376a01487"), looks := true }, kinds := [], alts := [], laidByText := true, laidKinds := [.data, .handle, .pinned, .pinned], laidTests := true, laidLooks := .later }
def BinaryCasesUptoCardSaid : Prop := Claim7.holds Tryd.pinned (.plain (OpenSpec.upto binaryCasesSpec)) binaryCasesUptoCard

/-- THE SECOND FORM's CARD OF 'quaymasterkeep.BinaryCut'. -/
def binaryCutUptoCard : Claim7 := { stood := { row := binaryCutUptoRow, standIns := [], harness := (true, "f0d42dc09770fca0d6ed3b58479ea41e1aee23467ef19d36ce6e217376a01487"), looks := true }, kinds := [], alts := [], laidByText := true, laidKinds := [.handle], laidTests := true, laidLooks := .later }
def BinaryCutUptoCardSaid : Prop := Claim7.holds Tryd.pinned (.plain (OpenSpec.upto binaryCutSpec)) binaryCutUptoCard
end Rows
end Go.Proofs.YtoheabcohfjknaaDoor
