/-
  DERIVED. GIVEN WITH THE SEED: THE CARDS: each row of YtikcgnalcchlpaaDoorRows.lean that lists a variable, with what it lists TIED to the program's text (the seventh form; the later family's looks); each row that meets fmt, with fmt's text TOLD by the authors' own Lean function (tested against real Go, not proved from fmt's source: count such statements apart). THE CARD IS WHAT COUNTS. Prove the row's statement (the work); the ties are given (YtikcgnalcchlpaaDoorTie.lean); close each card by the builder's one call (the guide's Derived/Test/ToyasCard.lean, 'card_holds'). Laid BY PROGRAM, IN A SANDBOX (cutbox-door.mjs). By AI agents, Wed Nov 11 2026. No macro, syntax, notation, axiom, sorry.
-/
import Derived.Test.YtikcgnalcchlpaaDoorRows
import GoSem.ClaimSeven
namespace Go.Proofs.YtikcgnalcchlpaaDoor
namespace Rows

/-- THE TIED CARD OF 'quaymasterlaw.KeysKnow'. -/
def keysKnowCard : Claim7 := { stood := { row := keysKnowRow, standIns := [], harness := (true, "04ef40bde6efe0e1f7ef5f7d1f78e7bdd7e2ee5deb1dec5331e52c7930d09ebc"), looks := true }, kinds := [], alts := [], laidByText := true, laidKinds := [.handle], laidTests := true, laidLooks := .later }
def KeysKnowCardSaid : Prop := Claim7.holds Tryd.pinned (.plain (OpenSpec.ofChange keysKnowSpec)) keysKnowCard

/-- THE SECOND FORM's CARD OF 'quaymasterlaw.KeysKnow'. -/
def keysKnowUptoCard : Claim7 := { stood := { row := keysKnowUptoRow, standIns := [], harness := (true, "04ef40bde6efe0e1f7ef5f7d1f78e7bdd7e2ee5deb1dec5331e52c7930d09ebc"), looks := true }, kinds := [], alts := [], laidByText := true, laidKinds := [.handle], laidTests := true, laidLooks := .later }
def KeysKnowUptoCardSaid : Prop := Claim7.holds Tryd.pinned (.plain (OpenSpec.upto keysKnowSpec)) keysKnowUptoCard
end Rows
end Go.Proofs.YtikcgnalcchlpaaDoor
