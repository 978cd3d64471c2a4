/-
  DERIVED. GIVEN WITH THE SEED: THE CARDS: each row of YtoddgekeopejgaaGreatDoorRows.lean that lists a variable, with what it lists TIED to the program's text (the seventh form; the later family's looks); each row that meets fmt, with fmt's text TOLD by the authors' own Lean function (tested against real Go, not proved from fmt's source: count such statements apart). THE CARD IS WHAT COUNTS. Prove the row's statement (the work); the ties are given (YtoddgekeopejgaaGreatDoorTie.lean); close each card by the builder's one call (the guide's Derived/Test/ToyasCard.lean, 'card_holds'). Laid BY PROGRAM, IN A SANDBOX (cutbox-door.mjs). By AI agents, Wed Nov 11 2026. No macro, syntax, notation, axiom, sorry.
-/
import Derived.Test.YtoddgekeopejgaaGreatDoorRows
import GoSem.ClaimSeven
namespace Go.Proofs.YtoddgekeopejgaaGreatDoor
namespace Rows

/-- THE TIED CARD OF 'quaymasterlaw.PduWrites'. -/
def pduWritesCard : Claim7 := { stood := { row := pduWritesRow, standIns := [], harness := (true, "59f5fe8fe0bc28c22dc529a2dba2cf512e24161ffeed4fa843b2da92f94a4f57"), looks := true }, kinds := [], alts := [], laidByText := true, laidKinds := [.data, .data, .data, .data, .handle, .sentinel, .sentinel, .pinned], laidTests := true, laidLooks := .later }
def PduWritesCardSaid : Prop := Claim7.holds Tryz.pinned (.plain (OpenSpec.ofChange pduWritesSpec)) pduWritesCard

/-- THE TIED CARD OF 'quaymasterlaw.PduReads'. -/
def pduReadsCard : Claim7 := { stood := { row := pduReadsRow, standIns := [], harness := (true, "59f5fe8fe0bc28c22dc529a2dba2cf512e24161ffeed4fa843b2da92f94a4f57"), looks := true }, kinds := [], alts := [], laidByText := true, laidKinds := [.data, .data, .data, .data, .handle, .sentinel, .sentinel, .pinned], laidTests := true, laidLooks := .later }
def PduReadsCardSaid : Prop := Claim7.holds Tryz.pinned (.plain (OpenSpec.ofChange pduReadsSpec)) pduReadsCard

/-- THE TIED CARD OF 'quaymasterkeep.PduBack'. -/
def pduBackCard : Claim7 := { stood := { row := pduBackRow, standIns := [], harness := (true, "59f5fe8fe0bc28c22dc529a2dba2cf512e24161ffeed4fa843b2da92f94a4f57"), looks := true }, kinds := [], alts := [], laidByText := true, laidKinds := [.data, .data, .data, .data, .handle, .sentinel, .sentinel, .pinned], laidTests := true, laidLooks := .later }
def PduBackCardSaid : Prop := Claim7.holds Tryz.pinned (.plain (OpenSpec.ofChange pduBackSpec)) pduBackCard

/-- THE TIED CARD OF 'quaymasterkeep.PduOnly'. -/
def pduOnlyCard : Claim7 := { stood := { row := pduOnlyRow, standIns := [], harness := (true, "59f5fe8fe0bc28c22dc529a2dba2cf512e24161ffeed4fa843b2da92f94a4f57"), looks := true }, kinds := [], alts := [], laidByText := true, laidKinds := [.data, .data, .data, .data, .handle, .sentinel, .sentinel, .pinned], laidTests := true, laidLooks := .later }
def PduOnlyCardSaid : Prop := Claim7.holds Tryz.pinned (.plain (OpenSpec.ofChange pduOnlySpec)) pduOnlyCard

/-- THE TIED CARD OF 'quaymasterkeep.PduCut'. -/
def pduCutCard : Claim7 := { stood := { row := pduCutRow, standIns := [], harness := (true, "59f5fe8fe0bc28c22dc529a2dba2cf512e24161ffeed4fa843b2da92f94a4f57"), looks := true }, kinds := [], alts := [], laidByText := true, laidKinds := [.data, .data, .data, .data, .handle, .sentinel, .sentinel, .pinned], laidTests := true, laidLooks := .later }
def PduCutCardSaid : Prop := Claim7.holds Tryz.pinned (.plain (OpenSpec.ofChange pduCutSpec)) pduCutCard

/-- THE TIED CARD OF 'quaymasterkeep.PduTurned'. -/
def pduTurnedCard : Claim7 := { stood := { row := pduTurnedRow, standIns := [], harness := (true, "59f5fe8fe0bc28c22dc529a2dba2cf512e24161ffeed4fa843b2da92f94a4f57"), looks := true }, kinds := [], alts := [], laidByText := true, laidKinds := [.data, .data, .data, .data, .handle, .sentinel, .sentinel, .pinned], laidTests := true, laidLooks := .later }
def PduTurnedCardSaid : Prop := Claim7.holds Tryz.pinned (.plain (OpenSpec.ofChange pduTurnedSpec)) pduTurnedCard

/-- THE TIED CARD OF 'quaymasterkeep.PduLong'. -/
def pduLongCard : Claim7 := { stood := { row := pduLongRow, standIns := [], harness := (true, "59f5fe8fe0bc28c22dc529a2dba2cf512e24161ffeed4fa843b2da92f94a4f57"), looks := true }, kinds := [], alts := [], laidByText := true, laidKinds := [.data, .data, .data, .data, .handle, .sentinel, .sentinel, .pinned], laidTests := true, laidLooks := .later }
def PduLongCardSaid : Prop := Claim7.holds Tryz.pinned (.plain (OpenSpec.ofChange pduLongSpec)) pduLongCard

/-- THE TIED CARD OF 'quaymasterkeep.PduHead'. -/
def pduHeadCard : Claim7 := { stood := { row := pduHeadRow, standIns := [], harness := (true, "59f5fe8fe0bc28c22dc529a2dba2cf512e24161ffeed4fa843b2da92f94a4f57"), looks := true }, kinds := [], alts := [], laidByText := true, laidKinds := [.data, .data, .data, .data, .handle, .sentinel, .sentinel, .pinned], laidTests := true, laidLooks := .later }
def PduHeadCardSaid : Prop := Claim7.holds Tryz.pinned (.plain (OpenSpec.ofChange pduHeadSpec)) pduHeadCard

/-- THE SECOND FORM's CARD OF 'quaymasterlaw.PduWrites'. -/
def pduWritesUptoCard : Claim7 := { stood := { row := pduWritesUptoRow, standIns := [], harness := (true, "59f5fe8fe0bc28c22dc529a2dba2cf512e24161ffeed4fa843b2da92f94a4f57"), looks := true }, kinds := [], alts := [], laidByText := true, laidKinds := [.data, .data, .data, .data, .handle, .sentinel, .sentinel, .pinned], laidTests := true, laidLooks := .later }
def PduWritesUptoCardSaid : Prop := Claim7.holds Tryz.pinned (.plain (OpenSpec.upto pduWritesSpec)) pduWritesUptoCard

/-- THE SECOND FORM's CARD OF 'quaymasterlaw.PduReads'. -/
def pduReadsUptoCard : Claim7 := { stood := { row := pduReadsUptoRow, standIns := [], harness := (true, "59f5fe8fe0bc28c22dc529a2dba2cf512e24161ffeed4fa843b2da92f94a4f57"), looks := true }, kinds := [], alts := [], laidByText := true, laidKinds := [.data, .data, .data, .data, .handle, .sentinel, .sentinel, .pinned], laidTests := true, laidLooks := .later }
def PduReadsUptoCardSaid : Prop := Claim7.holds Tryz.pinned (.plain (OpenSpec.upto pduReadsSpec)) pduReadsUptoCard

/-- THE SECOND FORM's CARD OF 'quaymasterkeep.PduBack'. -/
def pduBackUptoCard : Claim7 := { stood := { row := pduBackUptoRow, standIns := [], harness := (true, "59f5fe8fe0bc28c22dc529a2dba2cf512e24161ffeed4fa843b2da92f94a4f57"), looks := true }, kinds := [], alts := [], laidByText := true, laidKinds := [.data, .data, .data, .data, .handle, .sentinel, .sentinel, .pinned], laidTests := true, laidLooks := .later }
def PduBackUptoCardSaid : Prop := Claim7.holds Tryz.pinned (.plain (OpenSpec.upto pduBackSpec)) pduBackUptoCard

/-- THE SECOND FORM's CARD OF 'quaymasterkeep.PduOnly'. -/
def pduOnlyUptoCard : Claim7 := { stood := { row := pduOnlyUptoRow, standIns := [], harness := (true, "59f5fe8fe0bc28c22dc529a2dba2cf512e24161ffeed4fa843b2da92f94a4f57"), looks := true }, kinds := [], alts := [], laidByText := true, laidKinds := [.data, .data, .data, .data, .handle, .sentinel, .sentinel, .pinned], laidTests := true, laidLooks := .later }
def PduOnlyUptoCardSaid : Prop := Claim7.holds Tryz.pinned (.plain (OpenSpec.upto pduOnlySpec)) pduOnlyUptoCard

/-- THE SECOND FORM's CARD OF 'quaymasterkeep.PduCut'. -/
def pduCutUptoCard : Claim7 := { stood := { row := pduCutUptoRow, standIns := [], harness := (true, "59f5fe8fe0bc28c22dc529a2dba2cf512e24161ffeed4fa843b2da92f94a4f57"), looks := true }, kinds := [], alts := [], laidByText := true, laidKinds := [.data, .data, .data, .data, .handle, .sentinel, .sentinel, .pinned], laidTests := true, laidLooks := .later }
def PduCutUptoCardSaid : Prop := Claim7.holds Tryz.pinned (.plain (OpenSpec.upto pduCutSpec)) pduCutUptoCard

/-- THE SECOND FORM's CARD OF 'quaymasterkeep.PduTurned'. -/
def pduTurnedUptoCard : Claim7 := { stood := { row := pduTurnedUptoRow, standIns := [], harness := (true, "59f5fe8fe0bc28c22dc529a2dba2cf512e24161ffeed4fa843b2da92f94a4f57"), looks := true }, kinds := [], alts := [], laidByText := true, laidKinds := [.data, .data, .data, .data, .handle, .sentinel, .sentinel, .pinned], laidTests := true, laidLooks := .later }
def PduTurnedUptoCardSaid : Prop := Claim7.holds Tryz.pinned (.plain (OpenSpec.upto pduTurnedSpec)) pduTurnedUptoCard

/-- THE SECOND FORM's CARD OF 'quaymasterkeep.PduLong'. -/
def pduLongUptoCard : Claim7 := { stood := { row := pduLongUptoRow, standIns := [], harness := (true, "59f5fe8fe0bc28c22dc529a2dba2cf512e24161ffeed4fa843b2da92f94a4f57"), looks := true }, kinds := [], alts := [], laidByText := true, laidKinds := [.data, .data, .data, .data, .handle, .sentinel, .sentinel, .pinned], laidTests := true, laidLooks := .later }
def PduLongUptoCardSaid : Prop := Claim7.holds Tryz.pinned (.plain (OpenSpec.upto pduLongSpec)) pduLongUptoCard

/-- THE SECOND FORM's CARD OF 'quaymasterkeep.PduHead'. -/
def pduHeadUptoCard : Claim7 := { stood := { row := pduHeadUptoRow, standIns := [], harness := (true, "59f5fe8fe0bc28c22dc529a2dba2cf512e24161ffeed4fa843b2da92f94a4f57"), looks := true }, kinds := [], alts := [], laidByText := true, laidKinds := [.data, .data, .data, .data, .handle, .sentinel, .sentinel, .pinned], laidTests := true, laidLooks := .later }
def PduHeadUptoCardSaid : Prop := Claim7.holds Tryz.pinned (.plain (OpenSpec.upto pduHeadSpec)) pduHeadUptoCard
end Rows
end Go.Proofs.YtoddgekeopejgaaGreatDoor
