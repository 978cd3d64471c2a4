/-
  DERIVED. GIVEN WITH THE SEED: THE CARDS: each row of YtoponmdfjbhnoaaDoorRows.lean that lists a variable, with what it lists TIED to the program's text (the seventh form; the later family's looks); each row that meets fmt, with fmt's text TOLD by the authors' own Lean function (tested against real Go, not proved from fmt's source: count such statements apart). THE CARD IS WHAT COUNTS. Prove the row's statement (the work); the ties are given (YtoponmdfjbhnoaaDoorTie.lean); close each card by the builder's one call (the guide's Derived/Test/ToyasCard.lean, 'card_holds'). Laid BY PROGRAM, IN A SANDBOX (cutbox-door.mjs). By AI agents, Wed Nov 11 2026. No macro, syntax, notation, axiom, sorry.
-/
import Derived.Test.YtoponmdfjbhnoaaDoorRows
import GoSem.ClaimSeven
namespace Go.Proofs.YtoponmdfjbhnoaaDoor
namespace Rows

/-- THE TIED CARD OF 'quaymasterkeep.ChapRight'. -/
def chapRightCard : Claim7 := { stood := { row := chapRightRow, standIns := [], harness := (true, "23ed144a1dddc4b7d81626fa7261a0f322b707d1fe690c99c94759d825db6563"), looks := true }, kinds := [], alts := [], laidByText := true, laidKinds := [.handle, .data, .data], laidTests := true, laidLooks := .later }
def ChapRightCardSaid : Prop := Claim7.holds Tryd.pinned (.plain (OpenSpec.ofChange chapRightSpec)) chapRightCard

/-- THE TIED CARD OF 'quaymasterkeep.ChapUsers'. -/
def chapUsersCard : Claim7 := { stood := { row := chapUsersRow, standIns := [], harness := (true, "23ed144a1dddc4b7d81626fa7261a0f322b707d1fe690c99c94759d825db6563"), looks := true }, kinds := [], alts := [], laidByText := true, laidKinds := [.handle, .data, .data], laidTests := true, laidLooks := .later }
def ChapUsersCardSaid : Prop := Claim7.holds Tryd.pinned (.plain (OpenSpec.ofChange chapUsersSpec)) chapUsersCard

/-- THE TIED CARD OF 'quaymasterkeep.ChapLong'. -/
def chapLongCard : Claim7 := { stood := { row := chapLongRow, standIns := [], harness := (true, "23ed144a1dddc4b7d81626fa7261a0f322b707d1fe690c99c94759d825db6563"), looks := true }, kinds := [], alts := [], laidByText := true, laidKinds := [.handle, .data, .data], laidTests := true, laidLooks := .later }
def ChapLongCardSaid : Prop := Claim7.holds Tryd.pinned (.plain (OpenSpec.ofChange chapLongSpec)) chapLongCard

/-- THE SECOND FORM's CARD OF 'quaymasterkeep.ChapRight'. -/
def chapRightUptoCard : Claim7 := { stood := { row := chapRightUptoRow, standIns := [], harness := (true, "23ed144a1dddc4b7d81626fa7261a0f322b707d1fe690c99c94759d825db6563"), looks := true }, kinds := [], alts := [], laidByText := true, laidKinds := [.handle, .data, .data], laidTests := true, laidLooks := .later }
def ChapRightUptoCardSaid : Prop := Claim7.holds Tryd.pinned (.plain (OpenSpec.upto chapRightSpec)) chapRightUptoCard

/-- THE SECOND FORM's CARD OF 'quaymasterkeep.ChapUsers'. -/
def chapUsersUptoCard : Claim7 := { stood := { row := chapUsersUptoRow, standIns := [], harness := (true, "23ed144a1dddc4b7d81626fa7261a0f322b707d1fe690c99c94759d825db6563"), looks := true }, kinds := [], alts := [], laidByText := true, laidKinds := [.handle, .data, .data], laidTests := true, laidLooks := .later }
def ChapUsersUptoCardSaid : Prop := Claim7.holds Tryd.pinned (.plain (OpenSpec.upto chapUsersSpec)) chapUsersUptoCard

/-- THE SECOND FORM's CARD OF 'quaymasterkeep.ChapLong'. -/
def chapLongUptoCard : Claim7 := { stood := { row := chapLongUptoRow, standIns := [], harness := (true, "23ed144a1dddc4b7d81626fa7261a0f322b707d1fe690c99c94759d825db6563"), looks := true }, kinds := [], alts := [], laidByText := true, laidKinds := [.handle, .data, .data], laidTests := true, laidLooks := .later }
def ChapLongUptoCardSaid : Prop := Claim7.holds Tryd.pinned (.plain (OpenSpec.upto chapLongSpec)) chapLongUptoCard
end Rows
end Go.Proofs.YtoponmdfjbhnoaaDoor
