/- plain.Place of whatever error. -/
import Derived.Test.YteapbjeapnmloaaGreatDoorPlace
import Derived.Test.YteapbjeapnmloaaGreatDoorGC
import Derived.BigRegion
namespace Go.Proofs.YteapbjeapnmloaaGreatDoor
open Go.RowKit
theorem hasAt (v : Value) (xT : TypeId) (w : World) : (Instr.typeAssert (.iface 94 v) xT 94 true).run Tryz.prog w = .ok (.tuple #[v, .bool true]) w := by kernel_rfl
theorem place_at (b : Nat) (n p : Int) (w : World) (hg : ErrCell w) (h0 : w.cell? ⟨b, 0, none⟩ = some (.int .i64 n)) (h1 : w.cell? ⟨b, 1, none⟩ = some (.int .i64 p)) :
    Calls Tryz.prog 44 #[.iface 94 (.pointer (some ⟨b, 0, none⟩))] w fun e w' => e = .returned (.tuple #[.int .i64 n, .int .i64 p]) ∧ Below w.heap.size w w' := by
  have C := Lib.hid (tell_at b n w hg h0)
  have H1 := Lib.hid h1
  have hat := hasAt
  clear hg h0 h1
  go_enter Tryz.func44, Tryz.ntmps44
  go_wp2_with fail
  refine C.out.mono ?_
  rintro e w1 ⟨rfl, hb1⟩
  have h1 : w1.cell? ⟨b, 1, none⟩ = some (.int .i64 p) := by rw [hb1.cell (block_lt_of_cell H1.out)]; exact H1.out
  go_wp2_with fail
  refine wp_loop_rounds 1 ?_
  rw [rounds_succ]
  go_wp2_with fail
  go_region
  try go_wp2_with fail
  go_ret2
  exact ⟨rfl, hb1.drew⟩
theorem place_is {w : World} {v : Value} {n p : Int} (h : ErrIs w v n p) (hg : ErrCell w) :
    Calls Tryz.prog 44 #[v] w fun e w' => e = .returned (.tuple #[.int .i64 n, .int .i64 p]) ∧ Below w.heap.size w w' := by
  cases h with
  | good => exact (place_nil w).mono fun _ _ ⟨h1, h2⟩ => ⟨h1, by rw [← h2]; exact Below.refl _ _⟩
  | bare => exact place_err n w hg
  | placed b _ _ _ h0 h1 => exact place_at b n p w hg h0 h1
end Go.Proofs.YteapbjeapnmloaaGreatDoor
