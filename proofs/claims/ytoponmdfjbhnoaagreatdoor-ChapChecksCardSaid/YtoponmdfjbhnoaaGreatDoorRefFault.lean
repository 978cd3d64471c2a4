/- ref.Bare, ref.Good, Fault.Is; a fault's two cells. -/
import Derived.Test.YtoponmdfjbhnoaaGreatDoorRows
import Derived.Test.YtoponmdfjbhnoaaGreatDoorGA
import Derived.Laws.Rows
namespace Go.Proofs.YtoponmdfjbhnoaaGreatDoor
open Go.RowKit
def faultV (e p : Int) : Value := .agg #[.int .i64 e, .int .i64 p]
/-- the bytes and the fault that the reference returns -/
def RetSF (w : World) (r : List UInt8 × Int × Int) (e : Ending) (w' : World) : Prop := e = .returned (.tuple #[.string (S r.1), .agg #[.int .i64 r.2.1, .int .i64 r.2.2]]) ∧ Below w.heap.size w w'
theorem bareF (x : Int) (w : World) : Calls Tryz.prog 27 #[.int .i64 x] w fun e w' => e = .returned (.agg #[.int .i64 x, .int .i64 (-1)]) ∧ Below w.heap.size w w' := by
  go_enter Tryz.func27, Tryz.ntmps27
  go_wp2_with fail
  refine bodyPost_ret (v := .agg #[.int .i64 x, .int .i64 (-1)]) (by simp [results, Tryz.results27, go_sem]) rfl ⟨rfl, (Below.refl _ _).alloc (Nat.le_refl _) _⟩
theorem goodF (w : World) : Calls Tryz.prog 31 #[] w fun e w' => e = .returned (.agg #[.int .i64 0, .int .i64 (-1)]) ∧ Below w.heap.size w w' := by
  go_enter Tryz.func31, Tryz.ntmps31
  go_wp2_with fail
  refine bodyPost_ret (v := .agg #[.int .i64 0, .int .i64 (-1)]) (by simp [results, Tryz.results31, go_sem]) rfl ⟨rfl, (Below.refl _ _).alloc (Nat.le_refl _) _⟩
/-- in world W block b holds these two, in a row of the fault's own type -/
def Cell2 (W : World) (b : Nat) (x y : Int) : Prop := W.heap[b]? = some (.cells #[.int .i64 x, .int .i64 y] 50 (0, 0))
theorem Cell2.cells {W : World} {b : Nat} {x y : Int} (h : Cell2 W b x y) : W.cell? ⟨b, 0, none⟩ = some (.int .i64 x) ∧ W.cell? ⟨b, 1, none⟩ = some (.int .i64 y) := by
  refine ⟨?_, ?_⟩ <;> (rw [cell_of_row W b _ _ _ _ h]; rfl)
theorem Cell2.frozen {W : World} {b : Nat} {x y : Int} (h : Cell2 W b x y) : ∀ j, W.frozen? ⟨b, j, none⟩ = false := fun j => by
  unfold World.frozen?
  rw [h]
  simp
theorem Cell2.later {W W' : World} {b : Nat} {x y : Int} (h : Cell2 W b x y) (hb : Below W.heap.size W W') : Cell2 W' b x y := by
  have hlt : b < W.heap.size := block_lt_of_cell h.cells.1
  unfold Cell2 at *
  rw [hb.block b hlt]; exact h
theorem cell2_new (w : World) : Cell2 (w.alloc (.cells #[.int .i64 0, .int .i64 0] 50)) w.heap.size 0 0 := heap_alloc_new w _
end Go.Proofs.YtoponmdfjbhnoaaGreatDoor
