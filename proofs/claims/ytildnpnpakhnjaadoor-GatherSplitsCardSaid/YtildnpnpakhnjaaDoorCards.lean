/-
  DERIVED. GIVEN WITH THE SEED: THE CARDS: each row of YtildnpnpakhnjaaDoorRows.lean that lists a variable, with what it lists TIED to the program's text (the seventh form; the later family's looks); each row that meets fmt, with fmt's text TOLD by the authors' own Lean function (tested against real Go, not proved from fmt's source: count such statements apart). THE CARD IS WHAT COUNTS. Prove the row's statement (the work); the ties are given (YtildnpnpakhnjaaDoorTie.lean); close each card by the builder's one call (the guide's Derived/Test/ToyasCard.lean, 'card_holds'). Laid BY PROGRAM, IN A SANDBOX (cutbox-door.mjs). By AI agents, Wed Nov 11 2026. No macro, syntax, notation, axiom, sorry.
-/
import Derived.Test.YtildnpnpakhnjaaDoorRows
import GoSem.ClaimSeven
namespace Go.Proofs.YtildnpnpakhnjaaDoor
namespace Rows

/-- THE TIED CARD OF 'quaymasterlaw.PairsPrints'. -/
def pairsPrintsCard : Claim7 := { stood := { row := pairsPrintsRow, standIns := [], harness := (true, "c0556568eab63abdfdfa382b885139d5dc107133996eec8505cf9aea61ed0c68"), looks := true }, kinds := [], alts := [], laidByText := true, laidKinds := [.data, .handle, .pinned, .pinned], laidTests := true, laidLooks := .later }
def PairsPrintsCardSaid : Prop := Claim7.holds Tryd.pinned (.plain (OpenSpec.ofChange pairsPrintsSpec)) pairsPrintsCard

/-- THE TIED CARD OF 'quaymasterlaw.PairsParses'. -/
def pairsParsesCard : Claim7 := { stood := { row := pairsParsesRow, standIns := [], harness := (true, "c0556568eab63abdfdfa382b885139d5dc107133996eec8505cf9aea61ed0c68"), looks := true }, kinds := [], alts := [], laidByText := true, laidKinds := [.data, .handle, .pinned, .pinned], laidTests := true, laidLooks := .later }
def PairsParsesCardSaid : Prop := Claim7.holds Tryd.pinned (.plain (OpenSpec.ofChange pairsParsesSpec)) pairsParsesCard

/-- THE TIED CARD OF 'quaymasterkeep.PairsJoins'. -/
def pairsJoinsCard : Claim7 := { stood := { row := pairsJoinsRow, standIns := [], harness := (true, "c0556568eab63abdfdfa382b885139d5dc107133996eec8505cf9aea61ed0c68"), looks := true }, kinds := [], alts := [], laidByText := true, laidKinds := [.handle], laidTests := true, laidLooks := .later }
def PairsJoinsCardSaid : Prop := Claim7.holds Tryd.pinned (.plain (OpenSpec.ofChange pairsJoinsSpec)) pairsJoinsCard

/-- THE TIED CARD OF 'quaymasterkeep.PairsCut'. -/
def pairsCutCard : Claim7 := { stood := { row := pairsCutRow, standIns := [], harness := (true, "c0556568eab63abdfdfa382b885139d5dc107133996eec8505cf9aea61ed0c68"), looks := true }, kinds := [], alts := [], laidByText := true, laidKinds := [.handle], laidTests := true, laidLooks := .later }
def PairsCutCardSaid : Prop := Claim7.holds Tryd.pinned (.plain (OpenSpec.ofChange pairsCutSpec)) pairsCutCard

/-- THE TIED CARD OF 'quaymasterlaw.GatherSplits'. -/
def gatherSplitsCard : Claim7 := { stood := { row := gatherSplitsRow, standIns := [], harness := (true, "c0556568eab63abdfdfa382b885139d5dc107133996eec8505cf9aea61ed0c68"), looks := true }, kinds := [], alts := [], laidByText := true, laidKinds := [.handle], laidTests := true, laidLooks := .later }
def GatherSplitsCardSaid : Prop := Claim7.holds Tryd.pinned (.plain (OpenSpec.ofChange gatherSplitsSpec)) gatherSplitsCard

/-- THE TIED CARD OF 'quaymasterkeep.GatherTwice'. -/
def gatherTwiceCard : Claim7 := { stood := { row := gatherTwiceRow, standIns := [], harness := (true, "c0556568eab63abdfdfa382b885139d5dc107133996eec8505cf9aea61ed0c68"), looks := true }, kinds := [], alts := [], laidByText := true, laidKinds := [.handle], laidTests := true, laidLooks := .later }
def GatherTwiceCardSaid : Prop := Claim7.holds Tryd.pinned (.plain (OpenSpec.ofChange gatherTwiceSpec)) gatherTwiceCard

/-- THE TIED CARD OF 'quaymasterkeep.GatherParts'. -/
def gatherPartsCard : Claim7 := { stood := { row := gatherPartsRow, standIns := [], harness := (true, "c0556568eab63abdfdfa382b885139d5dc107133996eec8505cf9aea61ed0c68"), looks := true }, kinds := [], alts := [], laidByText := true, laidKinds := [.handle], laidTests := true, laidLooks := .later }
def GatherPartsCardSaid : Prop := Claim7.holds Tryd.pinned (.plain (OpenSpec.ofChange gatherPartsSpec)) gatherPartsCard

/-- THE TIED CARD OF 'quaymasterkeep.GatherFull'. -/
def gatherFullCard : Claim7 := { stood := { row := gatherFullRow, standIns := [], harness := (true, "c0556568eab63abdfdfa382b885139d5dc107133996eec8505cf9aea61ed0c68"), looks := true }, kinds := [], alts := [], laidByText := true, laidKinds := [.handle], laidTests := true, laidLooks := .later }
def GatherFullCardSaid : Prop := Claim7.holds Tryd.pinned (.plain (OpenSpec.ofChange gatherFullSpec)) gatherFullCard

/-- THE TIED CARD OF 'quaymasterkeep.GatherSplit'. -/
def gatherSplitCard : Claim7 := { stood := { row := gatherSplitRow, standIns := [], harness := (true, "c0556568eab63abdfdfa382b885139d5dc107133996eec8505cf9aea61ed0c68"), looks := true }, kinds := [], alts := [], laidByText := true, laidKinds := [.handle], laidTests := true, laidLooks := .later }
def GatherSplitCardSaid : Prop := Claim7.holds Tryd.pinned (.plain (OpenSpec.ofChange gatherSplitSpec)) gatherSplitCard

/-- THE TIED CARD OF 'quaymasterkeep.GatherMany'. -/
def gatherManyCard : Claim7 := { stood := { row := gatherManyRow, standIns := [], harness := (true, "c0556568eab63abdfdfa382b885139d5dc107133996eec8505cf9aea61ed0c68"), looks := true }, kinds := [], alts := [], laidByText := true, laidKinds := [.handle], laidTests := true, laidLooks := .later }
def GatherManyCardSaid : Prop := Claim7.holds Tryd.pinned (.plain (OpenSpec.ofChange gatherManySpec)) gatherManyCard

/-- THE TIED CARD OF 'quaymasterlaw.GatherPlays'. -/
def gatherPlaysCard : Claim7 := { stood := { row := gatherPlaysRow, standIns := [], harness := (true, "c0556568eab63abdfdfa382b885139d5dc107133996eec8505cf9aea61ed0c68"), looks := true }, kinds := [], alts := [], laidByText := true, laidKinds := [.data, .handle, .pinned, .pinned], laidTests := true, laidLooks := .later }
def GatherPlaysCardSaid : Prop := Claim7.holds Tryd.pinned (.plain (OpenSpec.ofChange gatherPlaysSpec)) gatherPlaysCard

/-- THE SECOND FORM's CARD OF 'quaymasterlaw.PairsPrints'. -/
def pairsPrintsUptoCard : Claim7 := { stood := { row := pairsPrintsUptoRow, standIns := [], harness := (true, "c0556568eab63abdfdfa382b885139d5dc107133996eec8505cf9aea61ed0c68"), looks := true }, kinds := [], alts := [], laidByText := true, laidKinds := [.data, .handle, .pinned, .pinned], laidTests := true, laidLooks := .later }
def PairsPrintsUptoCardSaid : Prop := Claim7.holds Tryd.pinned (.plain (OpenSpec.upto pairsPrintsSpec)) pairsPrintsUptoCard

/-- THE SECOND FORM's CARD OF 'quaymasterlaw.PairsParses'. -/
def pairsParsesUptoCard : Claim7 := { stood := { row := pairsParsesUptoRow, standIns := [], harness := (true, "c0556568eab63abdfdfa382b885139d5dc107133996eec8505cf9aea61ed0c68"), looks := true }, kinds := [], alts := [], laidByText := true, laidKinds := [.data, .handle, .pinned, .pinned], laidTests := true, laidLooks := .later }
def PairsParsesUptoCardSaid : Prop := Claim7.holds Tryd.pinned (.plain (OpenSpec.upto pairsParsesSpec)) pairsParsesUptoCard

/-- THE SECOND FORM's CARD OF 'quaymasterkeep.PairsJoins'. -/
def pairsJoinsUptoCard : Claim7 := { stood := { row := pairsJoinsUptoRow, standIns := [], harness := (true, "c0556568eab63abdfdfa382b885139d5dc107133996eec8505cf9aea61ed0c68"), looks := true }, kinds := [], alts := [], laidByText := true, laidKinds := [.handle], laidTests := true, laidLooks := .later }
def PairsJoinsUptoCardSaid : Prop := Claim7.holds Tryd.pinned (.plain (OpenSpec.upto pairsJoinsSpec)) pairsJoinsUptoCard

/-- THE SECOND FORM's CARD OF 'quaymasterkeep.PairsCut'. -/
def pairsCutUptoCard : Claim7 := { stood := { row := pairsCutUptoRow, standIns := [], harness := (true, "c0556568eab63abdfdfa382b885139d5dc107133996eec8505cf9aea61ed0c68"), looks := true }, kinds := [], alts := [], laidByText := true, laidKinds := [.handle], laidTests := true, laidLooks := .later }
def PairsCutUptoCardSaid : Prop := Claim7.holds Tryd.pinned (.plain (OpenSpec.upto pairsCutSpec)) pairsCutUptoCard

/-- THE SECOND FORM's CARD OF 'quaymasterlaw.GatherSplits'. -/
def gatherSplitsUptoCard : Claim7 := { stood := { row := gatherSplitsUptoRow, standIns := [], harness := (true, "c0556568eab63abdfdfa382b885139d5dc107133996eec8505cf9aea61ed0c68"), looks := true }, kinds := [], alts := [], laidByText := true, laidKinds := [.handle], laidTests := true, laidLooks := .later }
def GatherSplitsUptoCardSaid : Prop := Claim7.holds Tryd.pinned (.plain (OpenSpec.upto gatherSplitsSpec)) gatherSplitsUptoCard

/-- THE SECOND FORM's CARD OF 'quaymasterkeep.GatherTwice'. -/
def gatherTwiceUptoCard : Claim7 := { stood := { row := gatherTwiceUptoRow, standIns := [], harness := (true, "c0556568eab63abdfdfa382b885139d5dc107133996eec8505cf9aea61ed0c68"), looks := true }, kinds := [], alts := [], laidByText := true, laidKinds := [.handle], laidTests := true, laidLooks := .later }
def GatherTwiceUptoCardSaid : Prop := Claim7.holds Tryd.pinned (.plain (OpenSpec.upto gatherTwiceSpec)) gatherTwiceUptoCard

/-- THE SECOND FORM's CARD OF 'quaymasterkeep.GatherParts'. -/
def gatherPartsUptoCard : Claim7 := { stood := { row := gatherPartsUptoRow, standIns := [], harness := (true, "c0556568eab63abdfdfa382b885139d5dc107133996eec8505cf9aea61ed0c68"), looks := true }, kinds := [], alts := [], laidByText := true, laidKinds := [.handle], laidTests := true, laidLooks := .later }
def GatherPartsUptoCardSaid : Prop := Claim7.holds Tryd.pinned (.plain (OpenSpec.upto gatherPartsSpec)) gatherPartsUptoCard

/-- THE SECOND FORM's CARD OF 'quaymasterkeep.GatherFull'. -/
def gatherFullUptoCard : Claim7 := { stood := { row := gatherFullUptoRow, standIns := [], harness := (true, "c0556568eab63abdfdfa382b885139d5dc107133996eec8505cf9aea61ed0c68"), looks := true }, kinds := [], alts := [], laidByText := true, laidKinds := [.handle], laidTests := true, laidLooks := .later }
def GatherFullUptoCardSaid : Prop := Claim7.holds Tryd.pinned (.plain (OpenSpec.upto gatherFullSpec)) gatherFullUptoCard

/-- THE SECOND FORM's CARD OF 'quaymasterkeep.GatherSplit'. -/
def gatherSplitUptoCard : Claim7 := { stood := { row := gatherSplitUptoRow, standIns := [], harness := (true, "c0556568eab63abdfdfa382b885139d5dc107133996eec8505cf9aea61ed0c68"), looks := true }, kinds := [], alts := [], laidByText := true, laidKinds := [.handle], laidTests := true, laidLooks := .later }
def GatherSplitUptoCardSaid : Prop := Claim7.holds Tryd.pinned (.plain (OpenSpec.upto gatherSplitSpec)) gatherSplitUptoCard

/-- THE SECOND FORM's CARD OF 'quaymasterkeep.GatherMany'. -/
def gatherManyUptoCard : Claim7 := { stood := { row := gatherManyUptoRow, standIns := [], harness := (true, "c0556568eab63abdfdfa382b885139d5dc107133996eec8505cf9aea61ed0c68"), looks := true }, kinds := [], alts := [], laidByText := true, laidKinds := [.handle], laidTests := true, laidLooks := .later }
def GatherManyUptoCardSaid : Prop := Claim7.holds Tryd.pinned (.plain (OpenSpec.upto gatherManySpec)) gatherManyUptoCard

/-- THE SECOND FORM's CARD OF 'quaymasterlaw.GatherPlays'. -/
def gatherPlaysUptoCard : Claim7 := { stood := { row := gatherPlaysUptoRow, standIns := [], harness := (true, "c0556568eab63abdfdfa382b885139d5dc107133996eec8505cf9aea61ed0c68"), looks := true }, kinds := [], alts := [], laidByText := true, laidKinds := [.data, .handle, .pinned, .pinned], laidTests := true, laidLooks := .later }
def GatherPlaysUptoCardSaid : Prop := Claim7.holds Tryd.pinned (.plain (OpenSpec.upto gatherPlaysSpec)) gatherPlaysUptoCard
end Rows
end Go.Proofs.YtildnpnpakhnjaaDoor
