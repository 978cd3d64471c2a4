/- slices.Equal of two slices of the same pairs. -/
import Derived.Test.YtildnpnpakhnjaaDoorPrs
import Derived.Laws.StructEq
import Derived.BigRegion
import Derived.Deep.QuietTactic
import Derived.BigQuiet
namespace Go.Proofs.YtildnpnpakhnjaaDoor
open Go.RowKit
theorem pr_same (w : World) (k d : List UInt8) : (binOp .neq 46 (.agg #[.string (S k), .string (S d)]) (.agg #[.string (S k), .string (S d)])).run Tryd.prog w = .ok (.bool false) w := by
  have hS : Tryd.prog.underlying 46 = some (.struct (Tryd.prog.fieldsOf 46)) := by kernel_rfl
  have hp : Tryd.prog.stoodInHeld 46 = false := by kernel_rfl
  rw [run_neq_struct, show (10000 : Nat) = 9999 + 1 from rfl, run_equalIn_agg w 9999 46 _ _ hS hp]
  simp only [Program.fieldsOf, Tryd.underlying46]
  go_simp
set_option maxRecDepth 100000 in
theorem equalP_same (l : List Pr) (v v' : Value) (w : World) (hl : l.length ≤ 140737488355328) (hv : PrsV w v l) (hv' : PrsV w v' l) :
    Calls Tryd.prog 28 #[v, v'] w fun e w' => e = .returned (.bool true) ∧ Below w.heap.size w w' := by
  obtain ⟨p, c, rfl, _, hc⟩ := hv
  obtain ⟨p', c', rfl, _, hc'⟩ := hv'
  have hne : ((l.length : Int) != (l.length : Int)) = false := by simp
  have Hc := Lib.hid hc
  have Hc' := Lib.hid hc'
  clear hc hc'
  go_enter Tryd.func28, Tryd.ntmps28
  go_wp2_with fail
  go_loopw [13] (fun i wr => ∃ j : Nat, j ≤ l.length ∧ i = .int .i64 j ∧ Below w.heap.size w wr) (fun i _ => l.length - (intOf i).toNat)
  case atStart => exact ⟨0, by omega, rfl, Below.refl _ _⟩
  case round =>
    obtain ⟨j, hj, rfl, hb⟩ := hrel
    have Hb := Lib.hid hb
    by_cases hlt : j < l.length
    · obtain ⟨b, o, rfl, hcl⟩ := Hc.out (by omega)
      obtain ⟨b', o', rfl, hcl'⟩ := Hc'.out (by omega)
      obtain ⟨q0, q1⟩ := hcl j hlt
      obtain ⟨r0, r1⟩ := hcl' j hlt
      rw [← (bcell hb).1 b (o + j * 2) (block_lt_of_cell (w := w) (a := ⟨b, o + j * 2, none⟩) q0)] at q0
      rw [← (bcell hb).1 b (o + j * 2 + 1) (block_lt_of_cell (w := w) (a := ⟨b, o + j * 2 + 1, none⟩) q1)] at q1
      rw [← (bcell hb).1 b' (o' + j * 2) (block_lt_of_cell (w := w) (a := ⟨b', o' + j * 2, none⟩) r0)] at r0
      rw [← (bcell hb).1 b' (o' + j * 2 + 1) (block_lt_of_cell (w := w) (a := ⟨b', o' + j * 2 + 1, none⟩) r1)] at r1
      obtain ⟨⟨k, d⟩, ha⟩ : ∃ a, l[j] = a := ⟨_, rfl⟩
      rw [ha] at q0 q1 r0 r1
      simp only at q0 q1 r0 r1
      have hj0 : (0 : Int) ≤ (j : Int) := by omega
      have E2 := fun w => pr_same w k d
      clear hb hcl hcl' ha
      go_wp2_with fail
      go_quiet (fail)
      go_wp2_with fail
      go_roundw
      case rel => exact ⟨j + 1, by omega, by go_num, below_drewN Hb.out _⟩
      case measure => simp [intOf]; omega
    · clear hb
      go_wp2_with fail
      go_ret
      exact ⟨rfl, Hb.out⟩
end Go.Proofs.YtildnpnpakhnjaaDoor
