/- slices.Equal of two slices of the same texts. -/
import Derived.Test.YtikcgnalcchlpaaGreatDoorStrV
import Derived.BigRegion
import Derived.Deep.QuietTactic
import Derived.BigQuiet
namespace Go.Proofs.YtikcgnalcchlpaaGreatDoor
open Go.RowKit
set_option maxRecDepth 100000 in
theorem equalS_same (l : List (List UInt8)) (v v' : Value) (w : World) (hl : l.length ≤ 140737488355328) (hv : StrV w v l) (hv' : StrV w v' l) :
    Calls Tryz.prog 10 #[v, v'] w fun e w' => e = .returned (.bool true) ∧ Below w.heap.size w w' := by
  obtain ⟨p, c, rfl, hc⟩ := hv
  obtain ⟨p', c', rfl, hc'⟩ := hv'
  have hne : ((l.length : Int) != (l.length : Int)) = false := by simp
  have Hc := Lib.hid hc
  have Hc' := Lib.hid hc'
  clear hc hc'
  go_enter Tryz.func10, Tryz.ntmps10
  go_wp2_with fail
  go_loopw [13] (fun i wr => ∃ j : Nat, j ≤ l.length ∧ i = .int .i64 j ∧ Below w.heap.size w wr) (fun i _ => l.length - (intOf i).toNat)
  case atStart => exact ⟨0, by omega, rfl, Below.refl _ _⟩
  case round =>
    obtain ⟨j, hj, rfl, hb⟩ := hrel
    have Hb := Lib.hid hb
    by_cases hlt : j < l.length
    · obtain ⟨b, o, rfl, hcl⟩ := Hc.out (by omega)
      obtain ⟨b', o', rfl, hcl'⟩ := Hc'.out (by omega)
      have q0 := hcl j hlt
      have r0 := hcl' j hlt
      rw [← (bcell hb).1 b (o + j) (block_lt_of_cell (w := w) (a := ⟨b, o + j, none⟩) q0)] at q0
      rw [← (bcell hb).1 b' (o' + j) (block_lt_of_cell (w := w) (a := ⟨b', o' + j, none⟩) r0)] at r0
      obtain ⟨x, hx⟩ : ∃ x, l[j] = x := ⟨_, rfl⟩
      rw [hx] at q0 r0
      have hj0 : (0 : Int) ≤ (j : Int) := by omega
      have e1 : (x != x) = false := by simp
      clear hb hcl hcl' hx
      go_wp2_with fail
      go_quiet (fail)
      go_wp2_with fail
      go_roundw
      case rel => exact ⟨j + 1, by omega, by go_num, below_drewN Hb.out _⟩
      case measure => simp [intOf]; omega
    · clear hb
      go_wp2_with fail
      go_ret
      exact ⟨rfl, Hb.out⟩
end Go.Proofs.YtikcgnalcchlpaaGreatDoor
