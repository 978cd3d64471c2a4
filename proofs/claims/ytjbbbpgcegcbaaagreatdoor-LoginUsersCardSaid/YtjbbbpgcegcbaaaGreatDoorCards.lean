/-
  DERIVED. GIVEN WITH THE SEED: THE CARDS: each row of YtjbbbpgcegcbaaaGreatDoorRows.lean that lists a variable, with what it lists TIED to the program's text (the seventh form; the later family's looks); each row that meets fmt, with fmt's text TOLD by the authors' own Lean function (tested against real Go, not proved from fmt's source: count such statements apart). THE CARD IS WHAT COUNTS. Prove the row's statement (the work); the ties are given (YtjbbbpgcegcbaaaGreatDoorTie.lean); close each card by the builder's one call (the guide's Derived/Test/ToyasCard.lean, 'card_holds'). Laid BY PROGRAM, IN A SANDBOX (cutbox-door.mjs). By AI agents, Wed Nov 11 2026. No macro, syntax, notation, axiom, sorry.
-/
import Derived.Test.YtjbbbpgcegcbaaaGreatDoorRows
import GoSem.ClaimSeven
namespace Go.Proofs.YtjbbbpgcegcbaaaGreatDoor
namespace Rows

/-- THE TIED CARD OF 'quaymasterkeep.LoginKnown'. -/
def loginKnownCard : Claim7 := { stood := { row := loginKnownRow, standIns := [], harness := (true, "0b770ca6c2a8488b3136bc7007d09db965a17212a1d4491120871a55cec5ca6d"), looks := true }, kinds := [], alts := [], laidByText := true, laidKinds := [.data, .data, .data, .data, .handle, .sentinel, .sentinel, .data, .data, .pinned], laidTests := true, laidLooks := .later }
def LoginKnownCardSaid : Prop := Claim7.holds Tryz.pinned (.plain (OpenSpec.ofChange loginKnownSpec)) loginKnownCard

/-- THE TIED CARD OF 'quaymasterkeep.LoginUsers'. -/
def loginUsersCard : Claim7 := { stood := { row := loginUsersRow, standIns := [], harness := (true, "0b770ca6c2a8488b3136bc7007d09db965a17212a1d4491120871a55cec5ca6d"), looks := true }, kinds := [], alts := [], laidByText := true, laidKinds := [.data, .data, .data, .data, .handle, .sentinel, .sentinel, .data, .data, .pinned], laidTests := true, laidLooks := .later }
def LoginUsersCardSaid : Prop := Claim7.holds Tryz.pinned (.plain (OpenSpec.ofChange loginUsersSpec)) loginUsersCard

/-- THE TIED CARD OF 'quaymasterkeep.LoginSays'. -/
def loginSaysCard : Claim7 := { stood := { row := loginSaysRow, standIns := [], harness := (true, "0b770ca6c2a8488b3136bc7007d09db965a17212a1d4491120871a55cec5ca6d"), looks := true }, kinds := [], alts := [], laidByText := true, laidKinds := [.data, .data, .data, .data, .handle, .sentinel, .sentinel, .data, .data, .pinned], laidTests := true, laidLooks := .later }
def LoginSaysCardSaid : Prop := Claim7.holds Tryz.pinned (.plain (OpenSpec.ofChange loginSaysSpec)) loginSaysCard

/-- THE TIED CARD OF 'quaymasterkeep.LoginParts'. -/
def loginPartsCard : Claim7 := { stood := { row := loginPartsRow, standIns := [], harness := (true, "0b770ca6c2a8488b3136bc7007d09db965a17212a1d4491120871a55cec5ca6d"), looks := true }, kinds := [], alts := [], laidByText := true, laidKinds := [.data, .data, .data, .data, .handle, .sentinel, .sentinel, .data, .data, .pinned], laidTests := true, laidLooks := .later }
def LoginPartsCardSaid : Prop := Claim7.holds Tryz.pinned (.plain (OpenSpec.ofChange loginPartsSpec)) loginPartsCard

/-- THE TIED CARD OF 'quaymasterkeep.LoginSettles'. -/
def loginSettlesCard : Claim7 := { stood := { row := loginSettlesRow, standIns := [], harness := (true, "0b770ca6c2a8488b3136bc7007d09db965a17212a1d4491120871a55cec5ca6d"), looks := true }, kinds := [], alts := [], laidByText := true, laidKinds := [.data, .data, .data, .data, .handle, .sentinel, .sentinel, .data, .data, .pinned], laidTests := true, laidLooks := .later }
def LoginSettlesCardSaid : Prop := Claim7.holds Tryz.pinned (.plain (OpenSpec.ofChange loginSettlesSpec)) loginSettlesCard

/-- THE TIED CARD OF 'quaymasterkeep.LoginMutual'. -/
def loginMutualCard : Claim7 := { stood := { row := loginMutualRow, standIns := [], harness := (true, "0b770ca6c2a8488b3136bc7007d09db965a17212a1d4491120871a55cec5ca6d"), looks := true }, kinds := [], alts := [], laidByText := true, laidKinds := [.data, .data, .data, .data, .handle, .sentinel, .sentinel, .data, .data, .pinned], laidTests := true, laidLooks := .later }
def LoginMutualCardSaid : Prop := Claim7.holds Tryz.pinned (.plain (OpenSpec.ofChange loginMutualSpec)) loginMutualCard

/-- THE SECOND FORM's CARD OF 'quaymasterkeep.LoginKnown'. -/
def loginKnownUptoCard : Claim7 := { stood := { row := loginKnownUptoRow, standIns := [], harness := (true, "0b770ca6c2a8488b3136bc7007d09db965a17212a1d4491120871a55cec5ca6d"), looks := true }, kinds := [], alts := [], laidByText := true, laidKinds := [.data, .data, .data, .data, .handle, .sentinel, .sentinel, .data, .data, .pinned], laidTests := true, laidLooks := .later }
def LoginKnownUptoCardSaid : Prop := Claim7.holds Tryz.pinned (.plain (OpenSpec.upto loginKnownSpec)) loginKnownUptoCard

/-- THE SECOND FORM's CARD OF 'quaymasterkeep.LoginUsers'. -/
def loginUsersUptoCard : Claim7 := { stood := { row := loginUsersUptoRow, standIns := [], harness := (true, "0b770ca6c2a8488b3136bc7007d09db965a17212a1d4491120871a55cec5ca6d"), looks := true }, kinds := [], alts := [], laidByText := true, laidKinds := [.data, .data, .data, .data, .handle, .sentinel, .sentinel, .data, .data, .pinned], laidTests := true, laidLooks := .later }
def LoginUsersUptoCardSaid : Prop := Claim7.holds Tryz.pinned (.plain (OpenSpec.upto loginUsersSpec)) loginUsersUptoCard

/-- THE SECOND FORM's CARD OF 'quaymasterkeep.LoginSays'. -/
def loginSaysUptoCard : Claim7 := { stood := { row := loginSaysUptoRow, standIns := [], harness := (true, "0b770ca6c2a8488b3136bc7007d09db965a17212a1d4491120871a55cec5ca6d"), looks := true }, kinds := [], alts := [], laidByText := true, laidKinds := [.data, .data, .data, .data, .handle, .sentinel, .sentinel, .data, .data, .pinned], laidTests := true, laidLooks := .later }
def LoginSaysUptoCardSaid : Prop := Claim7.holds Tryz.pinned (.plain (OpenSpec.upto loginSaysSpec)) loginSaysUptoCard

/-- THE SECOND FORM's CARD OF 'quaymasterkeep.LoginParts'. -/
def loginPartsUptoCard : Claim7 := { stood := { row := loginPartsUptoRow, standIns := [], harness := (true, "0b770ca6c2a8488b3136bc7007d09db965a17212a1d4491120871a55cec5ca6d"), looks := true }, kinds := [], alts := [], laidByText := true, laidKinds := [.data, .data, .data, .data, .handle, .sentinel, .sentinel, .data, .data, .pinned], laidTests := true, laidLooks := .later }
def LoginPartsUptoCardSaid : Prop := Claim7.holds Tryz.pinned (.plain (OpenSpec.upto loginPartsSpec)) loginPartsUptoCard

/-- THE SECOND FORM's CARD OF 'quaymasterkeep.LoginSettles'. -/
def loginSettlesUptoCard : Claim7 := { stood := { row := loginSettlesUptoRow, standIns := [], harness := (true, "0b770ca6c2a8488b3136bc7007d09db965a17212a1d4491120871a55cec5ca6d"), looks := true }, kinds := [], alts := [], laidByText := true, laidKinds := [.data, .data, .data, .data, .handle, .sentinel, .sentinel, .data, .data, .pinned], laidTests := true, laidLooks := .later }
def LoginSettlesUptoCardSaid : Prop := Claim7.holds Tryz.pinned (.plain (OpenSpec.upto loginSettlesSpec)) loginSettlesUptoCard

/-- THE SECOND FORM's CARD OF 'quaymasterkeep.LoginMutual'. -/
def loginMutualUptoCard : Claim7 := { stood := { row := loginMutualUptoRow, standIns := [], harness := (true, "0b770ca6c2a8488b3136bc7007d09db965a17212a1d4491120871a55cec5ca6d"), looks := true }, kinds := [], alts := [], laidByText := true, laidKinds := [.data, .data, .data, .data, .handle, .sentinel, .sentinel, .data, .data, .pinned], laidTests := true, laidLooks := .later }
def LoginMutualUptoCardSaid : Prop := Claim7.holds Tryz.pinned (.plain (OpenSpec.upto loginMutualSpec)) loginMutualUptoCard
end Rows
end Go.Proofs.YtjbbbpgcegcbaaaGreatDoor
