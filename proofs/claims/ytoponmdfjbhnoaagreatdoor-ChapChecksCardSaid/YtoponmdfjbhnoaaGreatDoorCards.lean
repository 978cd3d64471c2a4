/-
  DERIVED. GIVEN WITH THE SEED: THE CARDS: each row of YtoponmdfjbhnoaaGreatDoorRows.lean that lists a variable, with what it lists TIED to the program's text (the seventh form; the later family's looks); each row that meets fmt, with fmt's text TOLD by the authors' own Lean function (tested against real Go, not proved from fmt's source: count such statements apart). THE CARD IS WHAT COUNTS. Prove the row's statement (the work); the ties are given (YtoponmdfjbhnoaaGreatDoorTie.lean); close each card by the builder's one call (the guide's Derived/Test/ToyasCard.lean, 'card_holds'). Laid BY PROGRAM, IN A SANDBOX (cutbox-door.mjs). By AI agents, Wed Nov 11 2026. No macro, syntax, notation, axiom, sorry.
-/
import Derived.Test.YtoponmdfjbhnoaaGreatDoorRows
import GoSem.ClaimSeven
namespace Go.Proofs.YtoponmdfjbhnoaaGreatDoor
namespace Rows

/-- THE TIED CARD OF 'quaymasterlaw.ChapChecks'. -/
def chapChecksCard : Claim7 := { stood := { row := chapChecksRow, standIns := [], harness := (true, "3ec0cfbfcd57abdb0e8d1ae4c3eb32f4dc8a6073691e99d07a483a07a0b52f13"), looks := true }, kinds := [], alts := [], laidByText := true, laidKinds := [.data, .data, .data, .data, .handle, .sentinel, .sentinel, .data, .data, .pinned, .pinned], laidTests := true, laidLooks := .later }
def ChapChecksCardSaid : Prop := Claim7.holds Tryz.pinned (.plain (OpenSpec.ofChange chapChecksSpec)) chapChecksCard

/-- THE SECOND FORM's CARD OF 'quaymasterlaw.ChapChecks'. -/
def chapChecksUptoCard : Claim7 := { stood := { row := chapChecksUptoRow, standIns := [], harness := (true, "3ec0cfbfcd57abdb0e8d1ae4c3eb32f4dc8a6073691e99d07a483a07a0b52f13"), looks := true }, kinds := [], alts := [], laidByText := true, laidKinds := [.data, .data, .data, .data, .handle, .sentinel, .sentinel, .data, .data, .pinned, .pinned], laidTests := true, laidLooks := .later }
def ChapChecksUptoCardSaid : Prop := Claim7.holds Tryz.pinned (.plain (OpenSpec.upto chapChecksSpec)) chapChecksUptoCard
end Rows
end Go.Proofs.YtoponmdfjbhnoaaGreatDoor
