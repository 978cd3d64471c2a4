/-
  DERIVED. GIVEN WITH THE SEED: THE CARDS: each row of YtbllnelnajfjgaaDoorRows.lean that lists a variable, with what it lists TIED to the program's text (the seventh form; the later family's looks); each row that meets fmt, with fmt's text TOLD by the authors' own Lean function (tested against real Go, not proved from fmt's source: count such statements apart). THE CARD IS WHAT COUNTS. Prove the row's statement (the work); the ties are given (YtbllnelnajfjgaaDoorTie.lean); close each card by the builder's one call (the guide's Derived/Test/ToyasCard.lean, 'card_holds'). Laid BY PROGRAM, IN A SANDBOX (cutbox-door.mjs). By AI agents, Wed Nov 11 2026. No macro, syntax, notation, axiom, sorry.
-/
import Derived.Test.YtbllnelnajfjgaaDoorRows
import GoSem.ClaimSeven
namespace Go.Proofs.YtbllnelnajfjgaaDoor
namespace Rows

/-- THE TIED CARD OF 'quaymasterlaw.KeysKnow'. -/
def keysKnowCard : Claim7 := { stood := { row := keysKnowRow, standIns := [], harness := (true, "1166e72ba9d4b1c6a34211b9029b3f8414bc01c0e1bd6a3f0ed26c1dc979ad78"), looks := true }, kinds := [], alts := [], laidByText := true, laidKinds := [.handle], laidTests := true, laidLooks := .later }
def KeysKnowCardSaid : Prop := Claim7.holds Tryd.pinned (.plain (OpenSpec.ofChange keysKnowSpec)) keysKnowCard

/-- THE TIED CARD OF 'quaymasterkeep.KeysTold'. -/
def keysToldCard : Claim7 := { stood := { row := keysToldRow, standIns := [], harness := (true, "1166e72ba9d4b1c6a34211b9029b3f8414bc01c0e1bd6a3f0ed26c1dc979ad78"), looks := true }, kinds := [], alts := [], laidByText := true, laidKinds := [.data, .data, .data, .data, .handle, .sentinel, .sentinel, .pinned], laidTests := true, laidLooks := .later }
def KeysToldCardSaid : Prop := Claim7.holds Tryd.pinned (.plain (OpenSpec.ofChange keysToldSpec)) keysToldCard

/-- THE TIED CARD OF 'quaymasterkeep.KeysBoth'. -/
def keysBothCard : Claim7 := { stood := { row := keysBothRow, standIns := [], harness := (true, "1166e72ba9d4b1c6a34211b9029b3f8414bc01c0e1bd6a3f0ed26c1dc979ad78"), looks := true }, kinds := [], alts := [], laidByText := true, laidKinds := [.data, .data, .data, .data, .handle, .sentinel, .sentinel, .pinned], laidTests := true, laidLooks := .later }
def KeysBothCardSaid : Prop := Claim7.holds Tryd.pinned (.plain (OpenSpec.ofChange keysBothSpec)) keysBothCard

/-- THE TIED CARD OF 'quaymasterkeep.KeysAgain'. -/
def keysAgainCard : Claim7 := { stood := { row := keysAgainRow, standIns := [], harness := (true, "1166e72ba9d4b1c6a34211b9029b3f8414bc01c0e1bd6a3f0ed26c1dc979ad78"), looks := true }, kinds := [], alts := [], laidByText := true, laidKinds := [.data, .data, .data, .data, .handle, .sentinel, .sentinel, .pinned], laidTests := true, laidLooks := .later }
def KeysAgainCardSaid : Prop := Claim7.holds Tryd.pinned (.plain (OpenSpec.ofChange keysAgainSpec)) keysAgainCard

/-- THE TIED CARD OF 'quaymasterkeep.KeysFirst'. -/
def keysFirstCard : Claim7 := { stood := { row := keysFirstRow, standIns := [], harness := (true, "1166e72ba9d4b1c6a34211b9029b3f8414bc01c0e1bd6a3f0ed26c1dc979ad78"), looks := true }, kinds := [], alts := [], laidByText := true, laidKinds := [.data, .data, .data, .data, .handle, .sentinel, .sentinel, .pinned], laidTests := true, laidLooks := .later }
def KeysFirstCardSaid : Prop := Claim7.holds Tryd.pinned (.plain (OpenSpec.ofChange keysFirstSpec)) keysFirstCard

/-- THE TIED CARD OF 'quaymasterkeep.KeysLists'. -/
def keysListsCard : Claim7 := { stood := { row := keysListsRow, standIns := [], harness := (true, "1166e72ba9d4b1c6a34211b9029b3f8414bc01c0e1bd6a3f0ed26c1dc979ad78"), looks := true }, kinds := [], alts := [], laidByText := true, laidKinds := [.data, .data, .data, .data, .handle, .sentinel, .sentinel, .pinned], laidTests := true, laidLooks := .later }
def KeysListsCardSaid : Prop := Claim7.holds Tryd.pinned (.plain (OpenSpec.ofChange keysListsSpec)) keysListsCard

/-- THE TIED CARD OF 'quaymasterkeep.KeysBetween'. -/
def keysBetweenCard : Claim7 := { stood := { row := keysBetweenRow, standIns := [], harness := (true, "1166e72ba9d4b1c6a34211b9029b3f8414bc01c0e1bd6a3f0ed26c1dc979ad78"), looks := true }, kinds := [], alts := [], laidByText := true, laidKinds := [.data, .data, .data, .data, .handle, .sentinel, .sentinel, .pinned], laidTests := true, laidLooks := .later }
def KeysBetweenCardSaid : Prop := Claim7.holds Tryd.pinned (.plain (OpenSpec.ofChange keysBetweenSpec)) keysBetweenCard

/-- THE TIED CARD OF 'quaymasterkeep.KeysYes'. -/
def keysYesCard : Claim7 := { stood := { row := keysYesRow, standIns := [], harness := (true, "1166e72ba9d4b1c6a34211b9029b3f8414bc01c0e1bd6a3f0ed26c1dc979ad78"), looks := true }, kinds := [], alts := [], laidByText := true, laidKinds := [.data, .data, .data, .data, .handle, .sentinel, .sentinel, .pinned], laidTests := true, laidLooks := .later }
def KeysYesCardSaid : Prop := Claim7.holds Tryd.pinned (.plain (OpenSpec.ofChange keysYesSpec)) keysYesCard

/-- THE SECOND FORM's CARD OF 'quaymasterlaw.KeysKnow'. -/
def keysKnowUptoCard : Claim7 := { stood := { row := keysKnowUptoRow, standIns := [], harness := (true, "1166e72ba9d4b1c6a34211b9029b3f8414bc01c0e1bd6a3f0ed26c1dc979ad78"), looks := true }, kinds := [], alts := [], laidByText := true, laidKinds := [.handle], laidTests := true, laidLooks := .later }
def KeysKnowUptoCardSaid : Prop := Claim7.holds Tryd.pinned (.plain (OpenSpec.upto keysKnowSpec)) keysKnowUptoCard

/-- THE SECOND FORM's CARD OF 'quaymasterkeep.KeysTold'. -/
def keysToldUptoCard : Claim7 := { stood := { row := keysToldUptoRow, standIns := [], harness := (true, "1166e72ba9d4b1c6a34211b9029b3f8414bc01c0e1bd6a3f0ed26c1dc979ad78"), looks := true }, kinds := [], alts := [], laidByText := true, laidKinds := [.data, .data, .data, .data, .handle, .sentinel, .sentinel, .pinned], laidTests := true, laidLooks := .later }
def KeysToldUptoCardSaid : Prop := Claim7.holds Tryd.pinned (.plain (OpenSpec.upto keysToldSpec)) keysToldUptoCard

/-- THE SECOND FORM's CARD OF 'quaymasterkeep.KeysBoth'. -/
def keysBothUptoCard : Claim7 := { stood := { row := keysBothUptoRow, standIns := [], harness := (true, "1166e72ba9d4b1c6a34211b9029b3f8414bc01c0e1bd6a3f0ed26c1dc979ad78"), looks := true }, kinds := [], alts := [], laidByText := true, laidKinds := [.data, .data, .data, .data, .handle, .sentinel, .sentinel, .pinned], laidTests := true, laidLooks := .later }
def KeysBothUptoCardSaid : Prop := Claim7.holds Tryd.pinned (.plain (OpenSpec.upto keysBothSpec)) keysBothUptoCard

/-- THE SECOND FORM's CARD OF 'quaymasterkeep.KeysAgain'. -/
def keysAgainUptoCard : Claim7 := { stood := { row := keysAgainUptoRow, standIns := [], harness := (true, "1166e72ba9d4b1c6a34211b9029b3f8414bc01c0e1bd6a3f0ed26c1dc979ad78"), looks := true }, kinds := [], alts := [], laidByText := true, laidKinds := [.data, .data, .data, .data, .handle, .sentinel, .sentinel, .pinned], laidTests := true, laidLooks := .later }
def KeysAgainUptoCardSaid : Prop := Claim7.holds Tryd.pinned (.plain (OpenSpec.upto keysAgainSpec)) keysAgainUptoCard

/-- THE SECOND FORM's CARD OF 'quaymasterkeep.KeysFirst'. -/
def keysFirstUptoCard : Claim7 := { stood := { row := keysFirstUptoRow, standIns := [], harness := (true, "1166e72ba9d4b1c6a34211b9029b3f8414bc01c0e1bd6a3f0ed26c1dc979ad78"), looks := true }, kinds := [], alts := [], laidByText := true, laidKinds := [.data, .data, .data, .data, .handle, .sentinel, .sentinel, .pinned], laidTests := true, laidLooks := .later }
def KeysFirstUptoCardSaid : Prop := Claim7.holds Tryd.pinned (.plain (OpenSpec.upto keysFirstSpec)) keysFirstUptoCard

/-- THE SECOND FORM's CARD OF 'quaymasterkeep.KeysLists'. -/
def keysListsUptoCard : Claim7 := { stood := { row := keysListsUptoRow, standIns := [], harness := (true, "1166e72ba9d4b1c6a34211b9029b3f8414bc01c0e1bd6a3f0ed26c1dc979ad78"), looks := true }, kinds := [], alts := [], laidByText := true, laidKinds := [.data, .data, .data, .data, .handle, .sentinel, .sentinel, .pinned], laidTests := true, laidLooks := .later }
def KeysListsUptoCardSaid : Prop := Claim7.holds Tryd.pinned (.plain (OpenSpec.upto keysListsSpec)) keysListsUptoCard

/-- THE SECOND FORM's CARD OF 'quaymasterkeep.KeysBetween'. -/
def keysBetweenUptoCard : Claim7 := { stood := { row := keysBetweenUptoRow, standIns := [], harness := (true, "1166e72ba9d4b1c6a34211b9029b3f8414bc01c0e1bd6a3f0ed26c1dc979ad78"), looks := true }, kinds := [], alts := [], laidByText := true, laidKinds := [.data, .data, .data, .data, .handle, .sentinel, .sentinel, .pinned], laidTests := true, laidLooks := .later }
def KeysBetweenUptoCardSaid : Prop := Claim7.holds Tryd.pinned (.plain (OpenSpec.upto keysBetweenSpec)) keysBetweenUptoCard

/-- THE SECOND FORM's CARD OF 'quaymasterkeep.KeysYes'. -/
def keysYesUptoCard : Claim7 := { stood := { row := keysYesUptoRow, standIns := [], harness := (true, "1166e72ba9d4b1c6a34211b9029b3f8414bc01c0e1bd6a3f0ed26c1dc979ad78"), looks := true }, kinds := [], alts := [], laidByText := true, laidKinds := [.data, .data, .data, .data, .handle, .sentinel, .sentinel, .pinned], laidTests := true, laidLooks := .later }
def KeysYesUptoCardSaid : Prop := Claim7.holds Tryd.pinned (.plain (OpenSpec.upto keysYesSpec)) keysYesUptoCard
end Rows
end Go.Proofs.YtbllnelnajfjgaaDoor
