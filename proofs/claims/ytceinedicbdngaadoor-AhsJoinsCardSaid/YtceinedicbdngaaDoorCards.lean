/-
  DERIVED. GIVEN WITH THE SEED: THE CARDS: each row of YtceinedicbdngaaDoorRows.lean that lists a variable, with what it lists TIED to the program's text (the seventh form; the later family's looks); each row that meets fmt, with fmt's text TOLD by the authors' own Lean function (tested against real Go, not proved from fmt's source: count such statements apart). THE CARD IS WHAT COUNTS. Prove the row's statement (the work); the ties are given (YtceinedicbdngaaDoorTie.lean); close each card by the builder's one call (the guide's Derived/Test/ToyasCard.lean, 'card_holds'). Laid BY PROGRAM, IN A SANDBOX (cutbox-door.mjs). By AI agents, Wed Nov 11 2026. No macro, syntax, notation, axiom, sorry.
-/
import Derived.Test.YtceinedicbdngaaDoorRows
import GoSem.ClaimSeven
namespace Go.Proofs.YtceinedicbdngaaDoor
namespace Rows

/-- THE TIED CARD OF 'quaymasterlaw.AhsWrites'. -/
def ahsWritesCard : Claim7 := { stood := { row := ahsWritesRow, standIns := [], harness := (true, "03552e37c10aa2b9b8af41dc63f03e8c422991ba71df07cb8135860c08b2bb7c"), looks := true }, kinds := [], alts := [], laidByText := true, laidKinds := [.handle], laidTests := true, laidLooks := .later }
def AhsWritesCardSaid : Prop := Claim7.holds Tryd.pinned (.plain (OpenSpec.ofChange ahsWritesSpec)) ahsWritesCard

/-- THE TIED CARD OF 'quaymasterlaw.AhsReads'. -/
def ahsReadsCard : Claim7 := { stood := { row := ahsReadsRow, standIns := [], harness := (true, "03552e37c10aa2b9b8af41dc63f03e8c422991ba71df07cb8135860c08b2bb7c"), looks := true }, kinds := [], alts := [], laidByText := true, laidKinds := [.handle], laidTests := true, laidLooks := .later }
def AhsReadsCardSaid : Prop := Claim7.holds Tryd.pinned (.plain (OpenSpec.ofChange ahsReadsSpec)) ahsReadsCard

/-- THE TIED CARD OF 'quaymasterkeep.AhsBack'. -/
def ahsBackCard : Claim7 := { stood := { row := ahsBackRow, standIns := [], harness := (true, "03552e37c10aa2b9b8af41dc63f03e8c422991ba71df07cb8135860c08b2bb7c"), looks := true }, kinds := [], alts := [], laidByText := true, laidKinds := [.handle], laidTests := true, laidLooks := .later }
def AhsBackCardSaid : Prop := Claim7.holds Tryd.pinned (.plain (OpenSpec.ofChange ahsBackSpec)) ahsBackCard

/-- THE TIED CARD OF 'quaymasterkeep.AhsOnly'. -/
def ahsOnlyCard : Claim7 := { stood := { row := ahsOnlyRow, standIns := [], harness := (true, "03552e37c10aa2b9b8af41dc63f03e8c422991ba71df07cb8135860c08b2bb7c"), looks := true }, kinds := [], alts := [], laidByText := true, laidKinds := [.handle], laidTests := true, laidLooks := .later }
def AhsOnlyCardSaid : Prop := Claim7.holds Tryd.pinned (.plain (OpenSpec.ofChange ahsOnlySpec)) ahsOnlyCard

/-- THE TIED CARD OF 'quaymasterkeep.AhsJoins'. -/
def ahsJoinsCard : Claim7 := { stood := { row := ahsJoinsRow, standIns := [], harness := (true, "03552e37c10aa2b9b8af41dc63f03e8c422991ba71df07cb8135860c08b2bb7c"), looks := true }, kinds := [], alts := [], laidByText := true, laidKinds := [.handle], laidTests := true, laidLooks := .later }
def AhsJoinsCardSaid : Prop := Claim7.holds Tryd.pinned (.plain (OpenSpec.ofChange ahsJoinsSpec)) ahsJoinsCard

/-- THE TIED CARD OF 'quaymasterkeep.AhsCut'. -/
def ahsCutCard : Claim7 := { stood := { row := ahsCutRow, standIns := [], harness := (true, "03552e37c10aa2b9b8af41dc63f03e8c422991ba71df07cb8135860c08b2bb7c"), looks := true }, kinds := [], alts := [], laidByText := true, laidKinds := [.handle], laidTests := true, laidLooks := .later }
def AhsCutCardSaid : Prop := Claim7.holds Tryd.pinned (.plain (OpenSpec.ofChange ahsCutSpec)) ahsCutCard

/-- THE TIED CARD OF 'quaymasterkeep.AhsRoom'. -/
def ahsRoomCard : Claim7 := { stood := { row := ahsRoomRow, standIns := [], harness := (true, "03552e37c10aa2b9b8af41dc63f03e8c422991ba71df07cb8135860c08b2bb7c"), looks := true }, kinds := [], alts := [], laidByText := true, laidKinds := [.handle], laidTests := true, laidLooks := .later }
def AhsRoomCardSaid : Prop := Claim7.holds Tryd.pinned (.plain (OpenSpec.ofChange ahsRoomSpec)) ahsRoomCard

/-- THE SECOND FORM's CARD OF 'quaymasterlaw.AhsWrites'. -/
def ahsWritesUptoCard : Claim7 := { stood := { row := ahsWritesUptoRow, standIns := [], harness := (true, "03552e37c10aa2b9b8af41dc63f03e8c422991ba71df07cb8135860c08b2bb7c"), looks := true }, kinds := [], alts := [], laidByText := true, laidKinds := [.handle], laidTests := true, laidLooks := .later }
def AhsWritesUptoCardSaid : Prop := Claim7.holds Tryd.pinned (.plain (OpenSpec.upto ahsWritesSpec)) ahsWritesUptoCard

/-- THE SECOND FORM's CARD OF 'quaymasterlaw.AhsReads'. -/
def ahsReadsUptoCard : Claim7 := { stood := { row := ahsReadsUptoRow, standIns := [], harness := (true, "03552e37c10aa2b9b8af41dc63f03e8c422991ba71df07cb8135860c08b2bb7c"), looks := true }, kinds := [], alts := [], laidByText := true, laidKinds := [.handle], laidTests := true, laidLooks := .later }
def AhsReadsUptoCardSaid : Prop := Claim7.holds Tryd.pinned (.plain (OpenSpec.upto ahsReadsSpec)) ahsReadsUptoCard

/-- THE SECOND FORM's CARD OF 'quaymasterkeep.AhsBack'. -/
def ahsBackUptoCard : Claim7 := { stood := { row := ahsBackUptoRow, standIns := [], harness := (true, "03552e37c10aa2b9b8af41dc63f03e8c422991ba71df07cb8135860c08b2bb7c"), looks := true }, kinds := [], alts := [], laidByText := true, laidKinds := [.handle], laidTests := true, laidLooks := .later }
def AhsBackUptoCardSaid : Prop := Claim7.holds Tryd.pinned (.plain (OpenSpec.upto ahsBackSpec)) ahsBackUptoCard

/-- THE SECOND FORM's CARD OF 'quaymasterkeep.AhsOnly'. -/
def ahsOnlyUptoCard : Claim7 := { stood := { row := ahsOnlyUptoRow, standIns := [], harness := (true, "03552e37c10aa2b9b8af41dc63f03e8c422991ba71df07cb8135860c08b2bb7c"), looks := true }, kinds := [], alts := [], laidByText := true, laidKinds := [.handle], laidTests := true, laidLooks := .later }
def AhsOnlyUptoCardSaid : Prop := Claim7.holds Tryd.pinned (.plain (OpenSpec.upto ahsOnlySpec)) ahsOnlyUptoCard

/-- THE SECOND FORM's CARD OF 'quaymasterkeep.AhsJoins'. -/
def ahsJoinsUptoCard : Claim7 := { stood := { row := ahsJoinsUptoRow, standIns := [], harness := (true, "03552e37c10aa2b9b8af41dc63f03e8c422991ba71df07cb8135860c08b2bb7c"), looks := true }, kinds := [], alts := [], laidByText := true, laidKinds := [.handle], laidTests := true, laidLooks := .later }
def AhsJoinsUptoCardSaid : Prop := Claim7.holds Tryd.pinned (.plain (OpenSpec.upto ahsJoinsSpec)) ahsJoinsUptoCard

/-- THE SECOND FORM's CARD OF 'quaymasterkeep.AhsCut'. -/
def ahsCutUptoCard : Claim7 := { stood := { row := ahsCutUptoRow, standIns := [], harness := (true, "03552e37c10aa2b9b8af41dc63f03e8c422991ba71df07cb8135860c08b2bb7c"), looks := true }, kinds := [], alts := [], laidByText := true, laidKinds := [.handle], laidTests := true, laidLooks := .later }
def AhsCutUptoCardSaid : Prop := Claim7.holds Tryd.pinned (.plain (OpenSpec.upto ahsCutSpec)) ahsCutUptoCard

/-- THE SECOND FORM's CARD OF 'quaymasterkeep.AhsRoom'. -/
def ahsRoomUptoCard : Claim7 := { stood := { row := ahsRoomUptoRow, standIns := [], harness := (true, "03552e37c10aa2b9b8af41dc63f03e8c422991ba71df07cb8135860c08b2bb7c"), looks := true }, kinds := [], alts := [], laidByText := true, laidKinds := [.handle], laidTests := true, laidLooks := .later }
def AhsRoomUptoCardSaid : Prop := Claim7.holds Tryd.pinned (.plain (OpenSpec.upto ahsRoomSpec)) ahsRoomUptoCard
end Rows
end Go.Proofs.YtceinedicbdngaaDoor
