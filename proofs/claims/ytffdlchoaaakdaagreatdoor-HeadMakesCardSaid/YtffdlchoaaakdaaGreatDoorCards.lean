/-
  DERIVED. GIVEN WITH THE SEED: THE CARDS: each row of YtffdlchoaaakdaaGreatDoorRows.lean that lists a variable, with what it lists TIED to the program's text (the seventh form; the later family's looks); each row that meets fmt, with fmt's text TOLD by the authors' own Lean function (tested against real Go, not proved from fmt's source: count such statements apart). THE CARD IS WHAT COUNTS. Prove the row's statement (the work); the ties are given (YtffdlchoaaakdaaGreatDoorTie.lean); close each card by the builder's one call (the guide's Derived/Test/ToyasCard.lean, 'card_holds'). Laid BY PROGRAM, IN A SANDBOX (cutbox-door.mjs). By AI agents, Wed Nov 11 2026. No macro, syntax, notation, axiom, sorry.
-/
import Derived.Test.YtffdlchoaaakdaaGreatDoorRows
import GoSem.ClaimSeven
namespace Go.Proofs.YtffdlchoaaakdaaGreatDoor
namespace Rows

/-- THE TIED CARD OF 'quaymasterlaw.HeadKnows'. -/
def headKnowsCard : Claim7 := { stood := { row := headKnowsRow, standIns := [], harness := (true, "c1ddb4db21e35bcd89e97b924cdbdd5c4fa7ca049bcc2cd69942ac6ec097b04d"), looks := true }, kinds := [], alts := [], laidByText := true, laidKinds := [.data, .data, .data, .data, .handle, .sentinel, .sentinel, .pinned], laidTests := true, laidLooks := .later }
def HeadKnowsCardSaid : Prop := Claim7.holds Tryz.pinned (.plain (OpenSpec.ofChange headKnowsSpec)) headKnowsCard

/-- THE TIED CARD OF 'quaymasterlaw.HeadMakes'. -/
def headMakesCard : Claim7 := { stood := { row := headMakesRow, standIns := [], harness := (true, "c1ddb4db21e35bcd89e97b924cdbdd5c4fa7ca049bcc2cd69942ac6ec097b04d"), looks := true }, kinds := [], alts := [], laidByText := true, laidKinds := [.data, .data, .data, .data, .handle, .sentinel, .sentinel, .pinned], laidTests := true, laidLooks := .later }
def HeadMakesCardSaid : Prop := Claim7.holds Tryz.pinned (.plain (OpenSpec.ofChange headMakesSpec)) headMakesCard

/-- THE TIED CARD OF 'quaymasterlaw.HeadWrites'. -/
def headWritesCard : Claim7 := { stood := { row := headWritesRow, standIns := [], harness := (true, "c1ddb4db21e35bcd89e97b924cdbdd5c4fa7ca049bcc2cd69942ac6ec097b04d"), looks := true }, kinds := [], alts := [], laidByText := true, laidKinds := [.data, .data, .data, .data, .handle, .sentinel, .sentinel, .pinned], laidTests := true, laidLooks := .later }
def HeadWritesCardSaid : Prop := Claim7.holds Tryz.pinned (.plain (OpenSpec.ofChange headWritesSpec)) headWritesCard

/-- THE SECOND FORM's CARD OF 'quaymasterlaw.HeadKnows'. -/
def headKnowsUptoCard : Claim7 := { stood := { row := headKnowsUptoRow, standIns := [], harness := (true, "c1ddb4db21e35bcd89e97b924cdbdd5c4fa7ca049bcc2cd69942ac6ec097b04d"), looks := true }, kinds := [], alts := [], laidByText := true, laidKinds := [.data, .data, .data, .data, .handle, .sentinel, .sentinel, .pinned], laidTests := true, laidLooks := .later }
def HeadKnowsUptoCardSaid : Prop := Claim7.holds Tryz.pinned (.plain (OpenSpec.upto headKnowsSpec)) headKnowsUptoCard

/-- THE SECOND FORM's CARD OF 'quaymasterlaw.HeadMakes'. -/
def headMakesUptoCard : Claim7 := { stood := { row := headMakesUptoRow, standIns := [], harness := (true, "c1ddb4db21e35bcd89e97b924cdbdd5c4fa7ca049bcc2cd69942ac6ec097b04d"), looks := true }, kinds := [], alts := [], laidByText := true, laidKinds := [.data, .data, .data, .data, .handle, .sentinel, .sentinel, .pinned], laidTests := true, laidLooks := .later }
def HeadMakesUptoCardSaid : Prop := Claim7.holds Tryz.pinned (.plain (OpenSpec.upto headMakesSpec)) headMakesUptoCard

/-- THE SECOND FORM's CARD OF 'quaymasterlaw.HeadWrites'. -/
def headWritesUptoCard : Claim7 := { stood := { row := headWritesUptoRow, standIns := [], harness := (true, "c1ddb4db21e35bcd89e97b924cdbdd5c4fa7ca049bcc2cd69942ac6ec097b04d"), looks := true }, kinds := [], alts := [], laidByText := true, laidKinds := [.data, .data, .data, .data, .handle, .sentinel, .sentinel, .pinned], laidTests := true, laidLooks := .later }
def HeadWritesUptoCardSaid : Prop := Claim7.holds Tryz.pinned (.plain (OpenSpec.upto headWritesSpec)) headWritesUptoCard
end Rows
end Go.Proofs.YtffdlchoaaakdaaGreatDoor
