/-
  DERIVED. GIVEN WITH THE SEED: THE CARDS: each row of YtmkebjdmkkjloaaGreatDoorRows.lean that lists a variable, with what it lists TIED to the program's text (the seventh form; the later family's looks); each row that meets fmt, with fmt's text TOLD by the authors' own Lean function (tested against real Go, not proved from fmt's source: count such statements apart). THE CARD IS WHAT COUNTS. Prove the row's statement (the work); the ties are given (YtmkebjdmkkjloaaGreatDoorTie.lean); close each card by the builder's one call (the guide's Derived/Test/ToyasCard.lean, 'card_holds'). Laid BY PROGRAM, IN A SANDBOX (cutbox-door.mjs). By AI agents, Wed Nov 11 2026. No macro, syntax, notation, axiom, sorry.
-/
import Derived.Test.YtmkebjdmkkjloaaGreatDoorRows
import GoSem.ClaimSeven
namespace Go.Proofs.YtmkebjdmkkjloaaGreatDoor
namespace Rows

/-- THE TIED CARD OF 'quaymasterkeep.LoginStages'. -/
def loginStagesCard : Claim7 := { stood := { row := loginStagesRow, standIns := [], harness := (true, "a691c2156401f4451fc6c9492737b93fb9b0a224e64cbeed1855bbc661afcc27"), looks := true }, kinds := [], alts := [], laidByText := true, laidKinds := [.data, .data, .data, .data, .handle, .sentinel, .sentinel, .data, .data, .pinned], laidTests := true, laidLooks := .later }
def LoginStagesCardSaid : Prop := Claim7.holds Tryz.pinned (.plain (OpenSpec.ofChange loginStagesSpec)) loginStagesCard

/-- THE TIED CARD OF 'quaymasterkeep.LoginCounts'. -/
def loginCountsCard : Claim7 := { stood := { row := loginCountsRow, standIns := [], harness := (true, "a691c2156401f4451fc6c9492737b93fb9b0a224e64cbeed1855bbc661afcc27"), looks := true }, kinds := [], alts := [], laidByText := true, laidKinds := [.data, .data, .data, .data, .handle, .sentinel, .sentinel, .data, .data, .pinned], laidTests := true, laidLooks := .later }
def LoginCountsCardSaid : Prop := Claim7.holds Tryz.pinned (.plain (OpenSpec.ofChange loginCountsSpec)) loginCountsCard

/-- THE TIED CARD OF 'quaymasterkeep.LoginNames'. -/
def loginNamesCard : Claim7 := { stood := { row := loginNamesRow, standIns := [], harness := (true, "a691c2156401f4451fc6c9492737b93fb9b0a224e64cbeed1855bbc661afcc27"), looks := true }, kinds := [], alts := [], laidByText := true, laidKinds := [.data, .data, .data, .data, .handle, .sentinel, .sentinel, .data, .data, .pinned], laidTests := true, laidLooks := .later }
def LoginNamesCardSaid : Prop := Claim7.holds Tryz.pinned (.plain (OpenSpec.ofChange loginNamesSpec)) loginNamesCard

/-- THE TIED CARD OF 'quaymasterkeep.LoginHeads'. -/
def loginHeadsCard : Claim7 := { stood := { row := loginHeadsRow, standIns := [], harness := (true, "a691c2156401f4451fc6c9492737b93fb9b0a224e64cbeed1855bbc661afcc27"), looks := true }, kinds := [], alts := [], laidByText := true, laidKinds := [.data, .data, .data, .data, .handle, .sentinel, .sentinel, .data, .data, .pinned], laidTests := true, laidLooks := .later }
def LoginHeadsCardSaid : Prop := Claim7.holds Tryz.pinned (.plain (OpenSpec.ofChange loginHeadsSpec)) loginHeadsCard

/-- THE TIED CARD OF 'quaymasterkeep.LoginOver'. -/
def loginOverCard : Claim7 := { stood := { row := loginOverRow, standIns := [], harness := (true, "a691c2156401f4451fc6c9492737b93fb9b0a224e64cbeed1855bbc661afcc27"), looks := true }, kinds := [], alts := [], laidByText := true, laidKinds := [.data, .data, .data, .data, .handle, .sentinel, .sentinel, .data, .data, .pinned], laidTests := true, laidLooks := .later }
def LoginOverCardSaid : Prop := Claim7.holds Tryz.pinned (.plain (OpenSpec.ofChange loginOverSpec)) loginOverCard

/-- THE TIED CARD OF 'quaymasterkeep.LoginTwice'. -/
def loginTwiceCard : Claim7 := { stood := { row := loginTwiceRow, standIns := [], harness := (true, "a691c2156401f4451fc6c9492737b93fb9b0a224e64cbeed1855bbc661afcc27"), looks := true }, kinds := [], alts := [], laidByText := true, laidKinds := [.data, .data, .data, .data, .handle, .sentinel, .sentinel, .data, .data, .pinned], laidTests := true, laidLooks := .later }
def LoginTwiceCardSaid : Prop := Claim7.holds Tryz.pinned (.plain (OpenSpec.ofChange loginTwiceSpec)) loginTwiceCard

/-- THE TIED CARD OF 'quaymasterkeep.LoginIds'. -/
def loginIdsCard : Claim7 := { stood := { row := loginIdsRow, standIns := [], harness := (true, "a691c2156401f4451fc6c9492737b93fb9b0a224e64cbeed1855bbc661afcc27"), looks := true }, kinds := [], alts := [], laidByText := true, laidKinds := [.data, .data, .data, .data, .handle, .sentinel, .sentinel, .data, .data, .pinned], laidTests := true, laidLooks := .later }
def LoginIdsCardSaid : Prop := Claim7.holds Tryz.pinned (.plain (OpenSpec.ofChange loginIdsSpec)) loginIdsCard

/-- THE TIED CARD OF 'quaymasterkeep.LoginMethods'. -/
def loginMethodsCard : Claim7 := { stood := { row := loginMethodsRow, standIns := [], harness := (true, "a691c2156401f4451fc6c9492737b93fb9b0a224e64cbeed1855bbc661afcc27"), looks := true }, kinds := [], alts := [], laidByText := true, laidKinds := [.data, .data, .data, .data, .handle, .sentinel, .sentinel, .data, .data, .pinned], laidTests := true, laidLooks := .later }
def LoginMethodsCardSaid : Prop := Claim7.holds Tryz.pinned (.plain (OpenSpec.ofChange loginMethodsSpec)) loginMethodsCard

/-- THE SECOND FORM's CARD OF 'quaymasterkeep.LoginStages'. -/
def loginStagesUptoCard : Claim7 := { stood := { row := loginStagesUptoRow, standIns := [], harness := (true, "a691c2156401f4451fc6c9492737b93fb9b0a224e64cbeed1855bbc661afcc27"), looks := true }, kinds := [], alts := [], laidByText := true, laidKinds := [.data, .data, .data, .data, .handle, .sentinel, .sentinel, .data, .data, .pinned], laidTests := true, laidLooks := .later }
def LoginStagesUptoCardSaid : Prop := Claim7.holds Tryz.pinned (.plain (OpenSpec.upto loginStagesSpec)) loginStagesUptoCard

/-- THE SECOND FORM's CARD OF 'quaymasterkeep.LoginCounts'. -/
def loginCountsUptoCard : Claim7 := { stood := { row := loginCountsUptoRow, standIns := [], harness := (true, "a691c2156401f4451fc6c9492737b93fb9b0a224e64cbeed1855bbc661afcc27"), looks := true }, kinds := [], alts := [], laidByText := true, laidKinds := [.data, .data, .data, .data, .handle, .sentinel, .sentinel, .data, .data, .pinned], laidTests := true, laidLooks := .later }
def LoginCountsUptoCardSaid : Prop := Claim7.holds Tryz.pinned (.plain (OpenSpec.upto loginCountsSpec)) loginCountsUptoCard

/-- THE SECOND FORM's CARD OF 'quaymasterkeep.LoginNames'. -/
def loginNamesUptoCard : Claim7 := { stood := { row := loginNamesUptoRow, standIns := [], harness := (true, "a691c2156401f4451fc6c9492737b93fb9b0a224e64cbeed1855bbc661afcc27"), looks := true }, kinds := [], alts := [], laidByText := true, laidKinds := [.data, .data, .data, .data, .handle, .sentinel, .sentinel, .data, .data, .pinned], laidTests := true, laidLooks := .later }
def LoginNamesUptoCardSaid : Prop := Claim7.holds Tryz.pinned (.plain (OpenSpec.upto loginNamesSpec)) loginNamesUptoCard

/-- THE SECOND FORM's CARD OF 'quaymasterkeep.LoginHeads'. -/
def loginHeadsUptoCard : Claim7 := { stood := { row := loginHeadsUptoRow, standIns := [], harness := (true, "a691c2156401f4451fc6c9492737b93fb9b0a224e64cbeed1855bbc661afcc27"), looks := true }, kinds := [], alts := [], laidByText := true, laidKinds := [.data, .data, .data, .data, .handle, .sentinel, .sentinel, .data, .data, .pinned], laidTests := true, laidLooks := .later }
def LoginHeadsUptoCardSaid : Prop := Claim7.holds Tryz.pinned (.plain (OpenSpec.upto loginHeadsSpec)) loginHeadsUptoCard

/-- THE SECOND FORM's CARD OF 'quaymasterkeep.LoginOver'. -/
def loginOverUptoCard : Claim7 := { stood := { row := loginOverUptoRow, standIns := [], harness := (true, "a691c2156401f4451fc6c9492737b93fb9b0a224e64cbeed1855bbc661afcc27"), looks := true }, kinds := [], alts := [], laidByText := true, laidKinds := [.data, .data, .data, .data, .handle, .sentinel, .sentinel, .data, .data, .pinned], laidTests := true, laidLooks := .later }
def LoginOverUptoCardSaid : Prop := Claim7.holds Tryz.pinned (.plain (OpenSpec.upto loginOverSpec)) loginOverUptoCard

/-- THE SECOND FORM's CARD OF 'quaymasterkeep.LoginTwice'. -/
def loginTwiceUptoCard : Claim7 := { stood := { row := loginTwiceUptoRow, standIns := [], harness := (true, "a691c2156401f4451fc6c9492737b93fb9b0a224e64cbeed1855bbc661afcc27"), looks := true }, kinds := [], alts := [], laidByText := true, laidKinds := [.data, .data, .data, .data, .handle, .sentinel, .sentinel, .data, .data, .pinned], laidTests := true, laidLooks := .later }
def LoginTwiceUptoCardSaid : Prop := Claim7.holds Tryz.pinned (.plain (OpenSpec.upto loginTwiceSpec)) loginTwiceUptoCard

/-- THE SECOND FORM's CARD OF 'quaymasterkeep.LoginIds'. -/
def loginIdsUptoCard : Claim7 := { stood := { row := loginIdsUptoRow, standIns := [], harness := (true, "a691c2156401f4451fc6c9492737b93fb9b0a224e64cbeed1855bbc661afcc27"), looks := true }, kinds := [], alts := [], laidByText := true, laidKinds := [.data, .data, .data, .data, .handle, .sentinel, .sentinel, .data, .data, .pinned], laidTests := true, laidLooks := .later }
def LoginIdsUptoCardSaid : Prop := Claim7.holds Tryz.pinned (.plain (OpenSpec.upto loginIdsSpec)) loginIdsUptoCard

/-- THE SECOND FORM's CARD OF 'quaymasterkeep.LoginMethods'. -/
def loginMethodsUptoCard : Claim7 := { stood := { row := loginMethodsUptoRow, standIns := [], harness := (true, "a691c2156401f4451fc6c9492737b93fb9b0a224e64cbeed1855bbc661afcc27"), looks := true }, kinds := [], alts := [], laidByText := true, laidKinds := [.data, .data, .data, .data, .handle, .sentinel, .sentinel, .data, .data, .pinned], laidTests := true, laidLooks := .later }
def LoginMethodsUptoCardSaid : Prop := Claim7.holds Tryz.pinned (.plain (OpenSpec.upto loginMethodsSpec)) loginMethodsUptoCard
end Rows
end Go.Proofs.YtmkebjdmkkjloaaGreatDoor
