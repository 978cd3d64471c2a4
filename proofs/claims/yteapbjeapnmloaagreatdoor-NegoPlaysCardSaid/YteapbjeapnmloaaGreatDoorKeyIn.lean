/- Texts as a map's keys. No program stands in it. -/
import Derived.Test.YteapbjeapnmloaaGreatDoorGA
namespace Go.Proofs.YteapbjeapnmloaaGreatDoor
open Go Go.RowKit Go.Maps
/-- the keys of these pairs, as a map has them -/
def keyIn (l : List (List UInt8)) (x : Lit) : Prop := ∃ y ∈ l, x = .string y
theorem keyIn_iff {l : List (List UInt8)} {k : List UInt8} : keyIn l (.string k) ↔ k ∈ l := ⟨fun ⟨y, hy, e⟩ => by cases e; exact hy, fun h => ⟨k, h, rfl⟩⟩
theorem keyIn_snoc {l : List (List UInt8)} {k : List UInt8} (x : Lit) : (x = .string k ∨ keyIn l x) ↔ keyIn (l ++ [k]) x := by
  constructor
  · rintro (rfl | ⟨y, hy, rfl⟩)
    · exact ⟨k, by simp, rfl⟩
    · exact ⟨y, List.mem_append_left _ hy, rfl⟩
  · rintro ⟨y, hy, rfl⟩
    rcases List.mem_append.1 hy with hy | hy
    · exact .inr ⟨y, hy, rfl⟩
    · rw [List.mem_singleton.1 hy]; exact .inl rfl
end Go.Proofs.YteapbjeapnmloaaGreatDoor
