/- keys.Names, name by name. -/
import Derived.Test.YteapbjeapnmloaaGreatDoorKNames
import Derived.Test.YteapbjeapnmloaaGreatDoorGJ
namespace Go.Proofs.YteapbjeapnmloaaGreatDoor
open Go.RowKit
set_option linter.unusedVariables false
def nameAt (i : Nat) : List UInt8 := keNames.getD i []
/-- the eighteen names lie at b, o -/
def NmAt (W : World) (b o : Nat) : Prop := ∀ i, i < 18 → W.cell? ⟨b, o + i, none⟩ = some (.string (S (nameAt i)))
theorem NmAt.later {W W' : World} {b o : Nat} (h : NmAt W b o) (hb : Below W.heap.size W W') : NmAt W' b o := fun i hi => ((bcell hb).1 b (o + i) (block_lt_of_cell (w := W) (a := ⟨b, o + i, none⟩) (h i hi))).trans (h i hi)
theorem name_mem {i : Nat} (hi : i < 18) : nameAt i ∈ keNames := by
  have h := names_18
  unfold nameAt
  rw [List.getD_eq_getElem?_getD, List.getElem?_eq_getElem (by omega)]
  exact List.getElem_mem _
theorem name_row {i : Nat} (hi : i < 18) : ∃ k, rowOf (nameAt i) = some k := Option.isSome_iff_exists.1 (names_row _ (name_mem hi))
theorem names18_any (w : World) : Calls Tryz.prog 29 #[] w fun e w' => ∃ b o c, e = .returned (.slice (some ⟨b, o, none⟩) 18 c) ∧ NmAt w' b o ∧ Below w.heap.size w w' := by
  refine (names_any w).mono ?_
  rintro e w' ⟨v, rfl, hb, hlow⟩
  obtain ⟨p, c, hv, hc⟩ := hb.strs
  have h := names_18
  obtain ⟨b, o, rfl, hcell⟩ := hc (by omega)
  refine ⟨b, o, c, by rw [hv, h], fun i hi => ?_, hlow⟩
  have := hcell i (by omega)
  unfold nameAt
  rw [List.getD_eq_getElem?_getD, List.getElem?_eq_getElem (by omega)]
  exact this
end Go.Proofs.YteapbjeapnmloaaGreatDoor
