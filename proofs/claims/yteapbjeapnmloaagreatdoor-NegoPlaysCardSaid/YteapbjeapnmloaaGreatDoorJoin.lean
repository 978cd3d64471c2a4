/- What each law's claim asks of the whole program, fact by fact. -/
import Derived.Test.YteapbjeapnmloaaGreatDoorCards
import Derived.Test.YteapbjeapnmloaaGreatDoorTie
import Derived.ProofKit
import Derived.SevenTiedAt
import Derived.JoinedCond
namespace Go.Proofs.YteapbjeapnmloaaGreatDoor
open Go.ChangeShapes Go.WideShapes Go.ChangeAt Go.RowKit
set_option linter.unusedVariables false
theorem jo1 : (laidOutB Tryz.pinned.checked.prog) = true := by kernel_rfl
theorem jo2 : (mapsRowed Tryz.pinned.checked.prog) = true := by kernel_rfl
theorem jo6 : ((Tryz.pinned.checked.prog.stops == [])) = true := by kernel_rfl
theorem jo8 : ((Tryz.pinned.checked.prog.stopKnobs == [])) = true := by kernel_rfl
theorem jo24 : (Tryz.pinned.checked.prog.stopsHeard) = true := by kernel_rfl
theorem jo25 : (Tryz.pinned.checked.prog.mayEnter) = true := by kernel_rfl
theorem jo22 : (Rows.negoDigestsRow.plainKeys == Tryz.pinned.checked.prog.plainKeys) = true := by kernel_rfl
theorem jo26 : (Rows.negoDigestsRow.lifted == Tryz.pinned.checked.prog.liftsFinal) = true := by kernel_rfl
theorem jo27 : (Tryz.pinned.checked.prog.make == some Rows.negoDigestsRow.make) = true := by kernel_rfl
theorem and_mk {a b : Bool} (h : a = true) (k : b = true) : (a && b) = true := by rw [h, k]; rfl
end Go.Proofs.YteapbjeapnmloaaGreatDoor
