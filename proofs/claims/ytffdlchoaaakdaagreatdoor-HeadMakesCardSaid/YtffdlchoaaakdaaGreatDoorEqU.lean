/- slices.Equal of two slices of the same numbers. -/
import Derived.Test.YtffdlchoaaakdaaGreatDoorRight
import Derived.BigRegion
namespace Go.Proofs.YtffdlchoaaakdaaGreatDoor
open Go.RowKit
set_option maxRecDepth 100000 in
theorem equalU_same (l : List Nat) (v v' : Value) (w : World) (hv : Vals w v l) (hv' : Vals w v' l) (hl : l.length ≤ 140737488355328) :
    Calls Tryz.prog 31 #[v, v'] w fun e w' => e = .returned (.bool true) ∧ Below w.heap.size w w' := by
  obtain ⟨p, c, rfl, _, hc⟩ := hv
  obtain ⟨p', c', rfl, _, hc'⟩ := hv'
  have hne : ((l.length : Int) != (l.length : Int)) = false := by simp
  have Hc := Lib.hid hc
  have Hc' := Lib.hid hc'
  clear hc hc'
  go_enter Tryz.func31, Tryz.ntmps31
  go_wp2_with fail
  go_loopw [13] (fun i wr => ∃ j : Nat, j ≤ l.length ∧ i = .int .i64 j ∧ Below w.heap.size w wr) (fun i _ => l.length - (intOf i).toNat)
  case atStart => exact ⟨0, by omega, rfl, Below.refl _ _⟩
  case round =>
    obtain ⟨j, hj, rfl, hb⟩ := hrel
    have Hb := Lib.hid hb
    by_cases hlt : j < l.length
    · obtain ⟨b, o, rfl, hcl⟩ := Hc.out (by omega)
      obtain ⟨b', o', rfl, hcl'⟩ := Hc'.out (by omega)
      have h1 : wr.cell? ⟨b, o + j, none⟩ = some (.int .u64 (l[j] : Int)) := by
        rw [(bcell hb).1 b (o + j) (block_lt_of_cell (w := w) (a := ⟨b, o + j, none⟩) (hcl j hlt))]; exact hcl j hlt
      have h2 : wr.cell? ⟨b', o' + j, none⟩ = some (.int .u64 (l[j] : Int)) := by
        rw [(bcell hb).1 b' (o' + j) (block_lt_of_cell (w := w) (a := ⟨b', o' + j, none⟩) (hcl' j hlt))]; exact hcl' j hlt
      obtain ⟨x, hx⟩ : ∃ x, l[j] = x := ⟨_, rfl⟩
      rw [hx] at h1 h2
      have hj0 : (0 : Int) ≤ (j : Int) := by omega
      have hxx : ((x : Int) != (x : Int)) = false := by simp
      clear hb hcl hcl' hx
      go_wp2_with fail
      go_quiet (fail)
      go_wp2_with fail
      go_roundw
      case rel => exact ⟨j + 1, by omega, by go_num, below_drewN Hb.out _⟩
      case measure => simp [intOf]; omega
    · clear hb
      go_wp2_with fail
      go_ret
      exact ⟨rfl, Hb.out⟩
end Go.Proofs.YtffdlchoaaakdaaGreatDoor
