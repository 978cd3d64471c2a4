/-
  DERIVED. GIVEN WITH THE SEED: THE CARDS: each row of YtbllnelnajfjgaaGreatDoorRows.lean that lists a variable, with what it lists TIED to the program's text (the seventh form; the later family's looks); each row that meets fmt, with fmt's text TOLD by the authors' own Lean function (tested against real Go, not proved from fmt's source: count such statements apart). THE CARD IS WHAT COUNTS. Prove the row's statement (the work); the ties are given (YtbllnelnajfjgaaGreatDoorTie.lean); close each card by the builder's one call (the guide's Derived/Test/ToyasCard.lean, 'card_holds'). Laid BY PROGRAM, IN A SANDBOX (cutbox-door.mjs). By AI agents, Wed Nov 11 2026. No macro, syntax, notation, axiom, sorry.
-/
import Derived.Test.YtbllnelnajfjgaaGreatDoorRows
import GoSem.ClaimSeven
namespace Go.Proofs.YtbllnelnajfjgaaGreatDoor
namespace Rows

/-- THE TIED CARD OF 'quaymasterlaw.KeysReads'. -/
def keysReadsCard : Claim7 := { stood := { row := keysReadsRow, standIns := [], harness := (true, "24c78866893e312d1ef18b5c7092b7bcd6b1b2d19d9a0202a99d114b698dc292"), looks := true }, kinds := [], alts := [], laidByText := true, laidKinds := [.data, .data, .data, .data, .handle, .sentinel, .sentinel, .pinned, .pinned], laidTests := true, laidLooks := .later }
def KeysReadsCardSaid : Prop := Claim7.holds Tryz.pinned (.plain (OpenSpec.ofChange keysReadsSpec)) keysReadsCard

/-- THE TIED CARD OF 'quaymasterlaw.KeysResults'. -/
def keysResultsCard : Claim7 := { stood := { row := keysResultsRow, standIns := [], harness := (true, "24c78866893e312d1ef18b5c7092b7bcd6b1b2d19d9a0202a99d114b698dc292"), looks := true }, kinds := [], alts := [], laidByText := true, laidKinds := [.data, .data, .data, .data, .handle, .sentinel, .sentinel, .pinned, .pinned], laidTests := true, laidLooks := .later }
def KeysResultsCardSaid : Prop := Claim7.holds Tryz.pinned (.plain (OpenSpec.ofChange keysResultsSpec)) keysResultsCard

/-- THE TIED CARD OF 'quaymasterkeep.KeysNumbers'. -/
def keysNumbersCard : Claim7 := { stood := { row := keysNumbersRow, standIns := [], harness := (true, "24c78866893e312d1ef18b5c7092b7bcd6b1b2d19d9a0202a99d114b698dc292"), looks := true }, kinds := [], alts := [], laidByText := true, laidKinds := [.data, .data, .data, .data, .handle, .sentinel, .sentinel, .pinned, .pinned], laidTests := true, laidLooks := .later }
def KeysNumbersCardSaid : Prop := Claim7.holds Tryz.pinned (.plain (OpenSpec.ofChange keysNumbersSpec)) keysNumbersCard

/-- THE TIED CARD OF 'quaymasterkeep.KeysDefaults'. -/
def keysDefaultsCard : Claim7 := { stood := { row := keysDefaultsRow, standIns := [], harness := (true, "24c78866893e312d1ef18b5c7092b7bcd6b1b2d19d9a0202a99d114b698dc292"), looks := true }, kinds := [], alts := [], laidByText := true, laidKinds := [.data, .data, .data, .data, .handle, .sentinel, .sentinel, .pinned], laidTests := true, laidLooks := .later }
def KeysDefaultsCardSaid : Prop := Claim7.holds Tryz.pinned (.plain (OpenSpec.ofChange keysDefaultsSpec)) keysDefaultsCard

/-- THE SECOND FORM's CARD OF 'quaymasterlaw.KeysReads'. -/
def keysReadsUptoCard : Claim7 := { stood := { row := keysReadsUptoRow, standIns := [], harness := (true, "24c78866893e312d1ef18b5c7092b7bcd6b1b2d19d9a0202a99d114b698dc292"), looks := true }, kinds := [], alts := [], laidByText := true, laidKinds := [.data, .data, .data, .data, .handle, .sentinel, .sentinel, .pinned, .pinned], laidTests := true, laidLooks := .later }
def KeysReadsUptoCardSaid : Prop := Claim7.holds Tryz.pinned (.plain (OpenSpec.upto keysReadsSpec)) keysReadsUptoCard

/-- THE SECOND FORM's CARD OF 'quaymasterlaw.KeysResults'. -/
def keysResultsUptoCard : Claim7 := { stood := { row := keysResultsUptoRow, standIns := [], harness := (true, "24c78866893e312d1ef18b5c7092b7bcd6b1b2d19d9a0202a99d114b698dc292"), looks := true }, kinds := [], alts := [], laidByText := true, laidKinds := [.data, .data, .data, .data, .handle, .sentinel, .sentinel, .pinned, .pinned], laidTests := true, laidLooks := .later }
def KeysResultsUptoCardSaid : Prop := Claim7.holds Tryz.pinned (.plain (OpenSpec.upto keysResultsSpec)) keysResultsUptoCard

/-- THE SECOND FORM's CARD OF 'quaymasterkeep.KeysNumbers'. -/
def keysNumbersUptoCard : Claim7 := { stood := { row := keysNumbersUptoRow, standIns := [], harness := (true, "24c78866893e312d1ef18b5c7092b7bcd6b1b2d19d9a0202a99d114b698dc292"), looks := true }, kinds := [], alts := [], laidByText := true, laidKinds := [.data, .data, .data, .data, .handle, .sentinel, .sentinel, .pinned, .pinned], laidTests := true, laidLooks := .later }
def KeysNumbersUptoCardSaid : Prop := Claim7.holds Tryz.pinned (.plain (OpenSpec.upto keysNumbersSpec)) keysNumbersUptoCard

/-- THE SECOND FORM's CARD OF 'quaymasterkeep.KeysDefaults'. -/
def keysDefaultsUptoCard : Claim7 := { stood := { row := keysDefaultsUptoRow, standIns := [], harness := (true, "24c78866893e312d1ef18b5c7092b7bcd6b1b2d19d9a0202a99d114b698dc292"), looks := true }, kinds := [], alts := [], laidByText := true, laidKinds := [.data, .data, .data, .data, .handle, .sentinel, .sentinel, .pinned], laidTests := true, laidLooks := .later }
def KeysDefaultsUptoCardSaid : Prop := Claim7.holds Tryz.pinned (.plain (OpenSpec.upto keysDefaultsSpec)) keysDefaultsUptoCard
end Rows
end Go.Proofs.YtbllnelnajfjgaaGreatDoor
