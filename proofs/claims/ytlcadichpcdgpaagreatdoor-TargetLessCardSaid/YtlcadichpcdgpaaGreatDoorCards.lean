/-
  DERIVED. GIVEN WITH THE SEED: THE CARDS: each row of YtlcadichpcdgpaaGreatDoorRows.lean that lists a variable, with what it lists TIED to the program's text (the seventh form; the later family's looks); each row that meets fmt, with fmt's text TOLD by the authors' own Lean function (tested against real Go, not proved from fmt's source: count such statements apart). THE CARD IS WHAT COUNTS. Prove the row's statement (the work); the ties are given (YtlcadichpcdgpaaGreatDoorTie.lean); close each card by the builder's one call (the guide's Derived/Test/ToyasCard.lean, 'card_holds'). Laid BY PROGRAM, IN A SANDBOX (cutbox-door.mjs). By AI agents, Wed Nov 11 2026. No macro, syntax, notation, axiom, sorry.
-/
import Derived.Test.YtlcadichpcdgpaaGreatDoorRows
import GoSem.ClaimSeven
namespace Go.Proofs.YtlcadichpcdgpaaGreatDoor
namespace Rows

/-- THE TIED CARD OF 'quaymasterkeep.TargetAll'. -/
def targetAllCard : Claim7 := { stood := { row := targetAllRow, standIns := [], harness := (true, "b79ecfe8189e5678e93202553858e117b3ae4aa5fac680866989a8cedc8e35d7"), looks := true }, kinds := [], alts := [], laidByText := true, laidKinds := [.data, .data, .data, .data, .handle, .sentinel, .sentinel, .pinned], laidTests := true, laidLooks := .later }
def TargetAllCardSaid : Prop := Claim7.holds Tryz.pinned (.plain (OpenSpec.ofChange targetAllSpec)) targetAllCard

/-- THE TIED CARD OF 'quaymasterkeep.TargetNone'. -/
def targetNoneCard : Claim7 := { stood := { row := targetNoneRow, standIns := [], harness := (true, "b79ecfe8189e5678e93202553858e117b3ae4aa5fac680866989a8cedc8e35d7"), looks := true }, kinds := [], alts := [], laidByText := true, laidKinds := [.data, .data, .data, .data, .handle, .sentinel, .sentinel, .pinned], laidTests := true, laidLooks := .later }
def TargetNoneCardSaid : Prop := Claim7.holds Tryz.pinned (.plain (OpenSpec.ofChange targetNoneSpec)) targetNoneCard

/-- THE TIED CARD OF 'quaymasterkeep.TargetLess'. -/
def targetLessCard : Claim7 := { stood := { row := targetLessRow, standIns := [], harness := (true, "b79ecfe8189e5678e93202553858e117b3ae4aa5fac680866989a8cedc8e35d7"), looks := true }, kinds := [], alts := [], laidByText := true, laidKinds := [.data, .data, .data, .data, .handle, .sentinel, .sentinel, .pinned], laidTests := true, laidLooks := .later }
def TargetLessCardSaid : Prop := Claim7.holds Tryz.pinned (.plain (OpenSpec.ofChange targetLessSpec)) targetLessCard

/-- THE TIED CARD OF 'quaymasterkeep.TargetHas'. -/
def targetHasCard : Claim7 := { stood := { row := targetHasRow, standIns := [], harness := (true, "b79ecfe8189e5678e93202553858e117b3ae4aa5fac680866989a8cedc8e35d7"), looks := true }, kinds := [], alts := [], laidByText := true, laidKinds := [.data, .data, .data, .data, .handle, .sentinel, .sentinel, .pinned], laidTests := true, laidLooks := .later }
def TargetHasCardSaid : Prop := Claim7.holds Tryz.pinned (.plain (OpenSpec.ofChange targetHasSpec)) targetHasCard

/-- THE SECOND FORM's CARD OF 'quaymasterkeep.TargetAll'. -/
def targetAllUptoCard : Claim7 := { stood := { row := targetAllUptoRow, standIns := [], harness := (true, "b79ecfe8189e5678e93202553858e117b3ae4aa5fac680866989a8cedc8e35d7"), looks := true }, kinds := [], alts := [], laidByText := true, laidKinds := [.data, .data, .data, .data, .handle, .sentinel, .sentinel, .pinned], laidTests := true, laidLooks := .later }
def TargetAllUptoCardSaid : Prop := Claim7.holds Tryz.pinned (.plain (OpenSpec.upto targetAllSpec)) targetAllUptoCard

/-- THE SECOND FORM's CARD OF 'quaymasterkeep.TargetNone'. -/
def targetNoneUptoCard : Claim7 := { stood := { row := targetNoneUptoRow, standIns := [], harness := (true, "b79ecfe8189e5678e93202553858e117b3ae4aa5fac680866989a8cedc8e35d7"), looks := true }, kinds := [], alts := [], laidByText := true, laidKinds := [.data, .data, .data, .data, .handle, .sentinel, .sentinel, .pinned], laidTests := true, laidLooks := .later }
def TargetNoneUptoCardSaid : Prop := Claim7.holds Tryz.pinned (.plain (OpenSpec.upto targetNoneSpec)) targetNoneUptoCard

/-- THE SECOND FORM's CARD OF 'quaymasterkeep.TargetLess'. -/
def targetLessUptoCard : Claim7 := { stood := { row := targetLessUptoRow, standIns := [], harness := (true, "b79ecfe8189e5678e93202553858e117b3ae4aa5fac680866989a8cedc8e35d7"), looks := true }, kinds := [], alts := [], laidByText := true, laidKinds := [.data, .data, .data, .data, .handle, .sentinel, .sentinel, .pinned], laidTests := true, laidLooks := .later }
def TargetLessUptoCardSaid : Prop := Claim7.holds Tryz.pinned (.plain (OpenSpec.upto targetLessSpec)) targetLessUptoCard

/-- THE SECOND FORM's CARD OF 'quaymasterkeep.TargetHas'. -/
def targetHasUptoCard : Claim7 := { stood := { row := targetHasUptoRow, standIns := [], harness := (true, "b79ecfe8189e5678e93202553858e117b3ae4aa5fac680866989a8cedc8e35d7"), looks := true }, kinds := [], alts := [], laidByText := true, laidKinds := [.data, .data, .data, .data, .handle, .sentinel, .sentinel, .pinned], laidTests := true, laidLooks := .later }
def TargetHasUptoCardSaid : Prop := Claim7.holds Tryz.pinned (.plain (OpenSpec.upto targetHasSpec)) targetHasUptoCard
end Rows
end Go.Proofs.YtlcadichpcdgpaaGreatDoor
