/- The table of keys as cells of a block. No function of the program is walked here. -/
import Derived.Test.YtikcgnalcchlpaaDoorKeyTab
import Derived.Test.YtikcgnalcchlpaaDoorBlk
namespace Go.Proofs.YtikcgnalcchlpaaDoor
open Go.RowKit
theorem flatK_get : ∀ (ks : List Ke) (j : Nat) (hj : j < ks.length) (i : Nat), i < 7 → (ks.flatMap keC).toArray[j * 7 + i]? = (keC ks[j])[i]?
  | [], j, hj, _, _ => by simp at hj
  | k :: ks, j, hj, i, hi => by
    simp only [List.flatMap_cons, List.getElem?_toArray]
    cases j with
    | zero => rw [List.getElem?_append_left (by simp [keC]; omega)]; simp
    | succ j =>
      rw [List.getElem?_append_right (by simp [keC]; omega)]
      have h := flatK_get ks j (by simpa using hj) i hi
      simp only [List.getElem?_toArray] at h
      rw [show (j + 1) * 7 + i - (keC k).length = j * 7 + i from by simp [keC]; omega, h]
      simp
theorem keRows_len : keRows.length = 18 := by kernel_rfl
/-- a block that holds the rows -/
structure KeB (w : World) (b : Nat) (W : World) : Prop where
  blk : Blk W b keRowsC 23
  low : Below w.heap.size w W
theorem KeB.later {w W W' : World} {b : Nat} (h : KeB w b W) (hb : Below W.heap.size W W') : KeB w b W' := ⟨h.blk.later hb, below_then h.low hb⟩
theorem KeB.get {w W : World} {b : Nat} (h : KeB w b W) (j : Nat) (hj : j < keRows.length) :
    W.cell? ⟨b, j * 7, none⟩ = some (.string (S keRows[j].nm)) ∧ W.cell? ⟨b, j * 7 + 1, none⟩ = some (.int .i64 (keRows[j].kd : Int)) ∧ W.cell? ⟨b, j * 7 + 2, none⟩ = some (.int .i64 (keRows[j].lo : Int)) ∧
    W.cell? ⟨b, j * 7 + 3, none⟩ = some (.int .i64 (keRows[j].hi : Int)) ∧ W.cell? ⟨b, j * 7 + 4, none⟩ = some (.string (S keRows[j].df)) ∧ W.cell? ⟨b, j * 7 + 5, none⟩ = some (.bool keRows[j].no) ∧ W.cell? ⟨b, j * 7 + 6, none⟩ = some (.bool keRows[j].lg) := by
  have g := fun i hi => (h.blk.cell (j * 7 + i)).trans (flatK_get keRows j hj i hi)
  exact ⟨g 0 (by decide), g 1 (by decide), g 2 (by decide), g 3 (by decide), g 4 (by decide), g 5 (by decide), g 6 (by decide)⟩
theorem rowOf_at {s : List UInt8} {j : Nat} (hj : j < keRows.length) (hq : ∀ i (hi : i < j), keRows[i].nm ≠ s) (hk : keRows[j].nm = s) : rowOf s = some keRows[j] := by
  refine rowOf_prefix (q := keRows.take j) (k := keRows[j]) ?_ ?_ hk
  · rw [← List.take_succ_eq_append_getElem hj]; exact List.take_prefix _ _
  · intro k hm
    obtain ⟨i, hi, rfl⟩ := List.mem_iff_getElem.1 hm
    rw [List.getElem_take]
    exact hq i (by simp at hi; omega)
theorem rowOf_no {s : List UInt8} (hq : ∀ i (hi : i < keRows.length), keRows[i].nm ≠ s) : rowOf s = none :=
  rowOf_none (fun k hm => by
    obtain ⟨i, hi, rfl⟩ := List.mem_iff_getElem.1 hm
    exact hq i hi)
/-- what ref.KeyOf returns -/
def keyT (s : List UInt8) : Value := match rowOf s with
  | some k => .tuple #[.agg (keC k).toArray, .int .i64 0]
  | none => .tuple #[.agg #[.string (S []), .int .i64 0, .int .i64 0, .int .i64 0, .string (S []), .bool false, .bool false], .int .i64 5]
end Go.Proofs.YtikcgnalcchlpaaDoor
