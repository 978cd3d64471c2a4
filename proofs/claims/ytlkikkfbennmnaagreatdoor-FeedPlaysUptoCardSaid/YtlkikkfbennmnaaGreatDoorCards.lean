/-
  DERIVED. GIVEN WITH THE SEED: THE CARDS: each row of YtlkikkfbennmnaaGreatDoorRows.lean that lists a variable, with what it lists TIED to the program's text (the seventh form; the later family's looks); each row that meets fmt, with fmt's text TOLD by the authors' own Lean function (tested against real Go, not proved from fmt's source: count such statements apart). THE CARD IS WHAT COUNTS. Prove the row's statement (the work); the ties are given (YtlkikkfbennmnaaGreatDoorTie.lean); close each card by the builder's one call (the guide's Derived/Test/ToyasCard.lean, 'card_holds'). Laid BY PROGRAM, IN A SANDBOX (cutbox-door.mjs). By AI agents, Wed Nov 11 2026. No macro, syntax, notation, axiom, sorry.
-/
import Derived.Test.YtlkikkfbennmnaaGreatDoorRows
import GoSem.ClaimSeven
namespace Go.Proofs.YtlkikkfbennmnaaGreatDoor
namespace Rows

/-- THE TIED CARD OF 'quaymasterkeep.FeedBack'. -/
def feedBackCard : Claim7 := { stood := { row := feedBackRow, standIns := [], harness := (true, "54ceca9d0d30d4a16dd4a056009487f35242ee7d9bad7b3ab4c7fe0d36f61e3c"), looks := true }, kinds := [], alts := [], laidByText := true, laidKinds := [.data, .data, .data, .data, .handle, .sentinel, .sentinel, .pinned], laidTests := true, laidLooks := .later }
def FeedBackCardSaid : Prop := Claim7.holds Tryz.pinned (.plain (OpenSpec.ofChange feedBackSpec)) feedBackCard

/-- THE TIED CARD OF 'quaymasterkeep.FeedCuts'. -/
def feedCutsCard : Claim7 := { stood := { row := feedCutsRow, standIns := [], harness := (true, "54ceca9d0d30d4a16dd4a056009487f35242ee7d9bad7b3ab4c7fe0d36f61e3c"), looks := true }, kinds := [], alts := [], laidByText := true, laidKinds := [.data, .data, .data, .data, .handle, .sentinel, .sentinel, .pinned], laidTests := true, laidLooks := .later }
def FeedCutsCardSaid : Prop := Claim7.holds Tryz.pinned (.plain (OpenSpec.ofChange feedCutsSpec)) feedCutsCard

/-- THE TIED CARD OF 'quaymasterkeep.FeedStops'. -/
def feedStopsCard : Claim7 := { stood := { row := feedStopsRow, standIns := [], harness := (true, "54ceca9d0d30d4a16dd4a056009487f35242ee7d9bad7b3ab4c7fe0d36f61e3c"), looks := true }, kinds := [], alts := [], laidByText := true, laidKinds := [.data, .data, .data, .data, .handle, .sentinel, .sentinel, .pinned], laidTests := true, laidLooks := .later }
def FeedStopsCardSaid : Prop := Claim7.holds Tryz.pinned (.plain (OpenSpec.ofChange feedStopsSpec)) feedStopsCard

/-- THE TIED CARD OF 'quaymasterkeep.FeedSpoilt'. -/
def feedSpoiltCard : Claim7 := { stood := { row := feedSpoiltRow, standIns := [], harness := (true, "54ceca9d0d30d4a16dd4a056009487f35242ee7d9bad7b3ab4c7fe0d36f61e3c"), looks := true }, kinds := [], alts := [], laidByText := true, laidKinds := [.data, .data, .data, .data, .handle, .sentinel, .sentinel, .pinned], laidTests := true, laidLooks := .later }
def FeedSpoiltCardSaid : Prop := Claim7.holds Tryz.pinned (.plain (OpenSpec.ofChange feedSpoiltSpec)) feedSpoiltCard

/-- THE TIED CARD OF 'quaymasterkeep.FeedOne'. -/
def feedOneCard : Claim7 := { stood := { row := feedOneRow, standIns := [], harness := (true, "54ceca9d0d30d4a16dd4a056009487f35242ee7d9bad7b3ab4c7fe0d36f61e3c"), looks := true }, kinds := [], alts := [], laidByText := true, laidKinds := [.data, .data, .data, .data, .handle, .sentinel, .sentinel, .pinned], laidTests := true, laidLooks := .later }
def FeedOneCardSaid : Prop := Claim7.holds Tryz.pinned (.plain (OpenSpec.ofChange feedOneSpec)) feedOneCard

/-- THE TIED CARD OF 'quaymasterkeep.FeedLimit'. -/
def feedLimitCard : Claim7 := { stood := { row := feedLimitRow, standIns := [], harness := (true, "54ceca9d0d30d4a16dd4a056009487f35242ee7d9bad7b3ab4c7fe0d36f61e3c"), looks := true }, kinds := [], alts := [], laidByText := true, laidKinds := [.data, .data, .data, .data, .handle, .sentinel, .sentinel, .pinned], laidTests := true, laidLooks := .later }
def FeedLimitCardSaid : Prop := Claim7.holds Tryz.pinned (.plain (OpenSpec.ofChange feedLimitSpec)) feedLimitCard

/-- THE TIED CARD OF 'quaymasterlaw.FeedPlays'. -/
def feedPlaysCard : Claim7 := { stood := { row := feedPlaysRow, standIns := [], harness := (true, "54ceca9d0d30d4a16dd4a056009487f35242ee7d9bad7b3ab4c7fe0d36f61e3c"), looks := true }, kinds := [], alts := [], laidByText := true, laidKinds := [.data, .data, .data, .data, .handle, .sentinel, .sentinel, .pinned], laidTests := true, laidLooks := .later }
def FeedPlaysCardSaid : Prop := Claim7.holds Tryz.pinned (.plain (OpenSpec.ofChange feedPlaysSpec)) feedPlaysCard

/-- THE SECOND FORM's CARD OF 'quaymasterkeep.FeedBack'. -/
def feedBackUptoCard : Claim7 := { stood := { row := feedBackUptoRow, standIns := [], harness := (true, "54ceca9d0d30d4a16dd4a056009487f35242ee7d9bad7b3ab4c7fe0d36f61e3c"), looks := true }, kinds := [], alts := [], laidByText := true, laidKinds := [.data, .data, .data, .data, .handle, .sentinel, .sentinel, .pinned], laidTests := true, laidLooks := .later }
def FeedBackUptoCardSaid : Prop := Claim7.holds Tryz.pinned (.plain (OpenSpec.upto feedBackSpec)) feedBackUptoCard

/-- THE SECOND FORM's CARD OF 'quaymasterkeep.FeedCuts'. -/
def feedCutsUptoCard : Claim7 := { stood := { row := feedCutsUptoRow, standIns := [], harness := (true, "54ceca9d0d30d4a16dd4a056009487f35242ee7d9bad7b3ab4c7fe0d36f61e3c"), looks := true }, kinds := [], alts := [], laidByText := true, laidKinds := [.data, .data, .data, .data, .handle, .sentinel, .sentinel, .pinned], laidTests := true, laidLooks := .later }
def FeedCutsUptoCardSaid : Prop := Claim7.holds Tryz.pinned (.plain (OpenSpec.upto feedCutsSpec)) feedCutsUptoCard

/-- THE SECOND FORM's CARD OF 'quaymasterkeep.FeedStops'. -/
def feedStopsUptoCard : Claim7 := { stood := { row := feedStopsUptoRow, standIns := [], harness := (true, "54ceca9d0d30d4a16dd4a056009487f35242ee7d9bad7b3ab4c7fe0d36f61e3c"), looks := true }, kinds := [], alts := [], laidByText := true, laidKinds := [.data, .data, .data, .data, .handle, .sentinel, .sentinel, .pinned], laidTests := true, laidLooks := .later }
def FeedStopsUptoCardSaid : Prop := Claim7.holds Tryz.pinned (.plain (OpenSpec.upto feedStopsSpec)) feedStopsUptoCard

/-- THE SECOND FORM's CARD OF 'quaymasterkeep.FeedSpoilt'. -/
def feedSpoiltUptoCard : Claim7 := { stood := { row := feedSpoiltUptoRow, standIns := [], harness := (true, "54ceca9d0d30d4a16dd4a056009487f35242ee7d9bad7b3ab4c7fe0d36f61e3c"), looks := true }, kinds := [], alts := [], laidByText := true, laidKinds := [.data, .data, .data, .data, .handle, .sentinel, .sentinel, .pinned], laidTests := true, laidLooks := .later }
def FeedSpoiltUptoCardSaid : Prop := Claim7.holds Tryz.pinned (.plain (OpenSpec.upto feedSpoiltSpec)) feedSpoiltUptoCard

/-- THE SECOND FORM's CARD OF 'quaymasterkeep.FeedOne'. -/
def feedOneUptoCard : Claim7 := { stood := { row := feedOneUptoRow, standIns := [], harness := (true, "54ceca9d0d30d4a16dd4a056009487f35242ee7d9bad7b3ab4c7fe0d36f61e3c"), looks := true }, kinds := [], alts := [], laidByText := true, laidKinds := [.data, .data, .data, .data, .handle, .sentinel, .sentinel, .pinned], laidTests := true, laidLooks := .later }
def FeedOneUptoCardSaid : Prop := Claim7.holds Tryz.pinned (.plain (OpenSpec.upto feedOneSpec)) feedOneUptoCard

/-- THE SECOND FORM's CARD OF 'quaymasterkeep.FeedLimit'. -/
def feedLimitUptoCard : Claim7 := { stood := { row := feedLimitUptoRow, standIns := [], harness := (true, "54ceca9d0d30d4a16dd4a056009487f35242ee7d9bad7b3ab4c7fe0d36f61e3c"), looks := true }, kinds := [], alts := [], laidByText := true, laidKinds := [.data, .data, .data, .data, .handle, .sentinel, .sentinel, .pinned], laidTests := true, laidLooks := .later }
def FeedLimitUptoCardSaid : Prop := Claim7.holds Tryz.pinned (.plain (OpenSpec.upto feedLimitSpec)) feedLimitUptoCard

/-- THE SECOND FORM's CARD OF 'quaymasterlaw.FeedPlays'. -/
def feedPlaysUptoCard : Claim7 := { stood := { row := feedPlaysUptoRow, standIns := [], harness := (true, "54ceca9d0d30d4a16dd4a056009487f35242ee7d9bad7b3ab4c7fe0d36f61e3c"), looks := true }, kinds := [], alts := [], laidByText := true, laidKinds := [.data, .data, .data, .data, .handle, .sentinel, .sentinel, .pinned], laidTests := true, laidLooks := .later }
def FeedPlaysUptoCardSaid : Prop := Claim7.holds Tryz.pinned (.plain (OpenSpec.upto feedPlaysSpec)) feedPlaysUptoCard
end Rows
end Go.Proofs.YtlkikkfbennmnaaGreatDoor
