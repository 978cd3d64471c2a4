/- thick (quaymasterlaw's): it answers one of both; what it makes is new. -/
import Derived.Test.YteapbjeapnmloaaGreatDoorGB
import Derived.Test.YteapbjeapnmloaaGreatDoorGJ
namespace Go.Proofs.YteapbjeapnmloaaGreatDoor
open Go.RowKit
set_option maxRecDepth 100000 in
theorem thickL_any (l : List Pr) (v : Value) (w : World) (hv : PrsV w v l) (hl47 : l.length ≤ 140737488355328) :
    Calls Tryz.prog 45 #[v] w (RetBool w) := by
  obtain ⟨p, c, rfl, _, hc⟩ := hv
  have Hc := Lib.hid hc
  clear hc
  go_enter Tryz.func45, Tryz.ntmps45
  go_wp2_with fail
  go_loopw [3, 10] (fun x i wr => ∃ (j : Nat) (n : Int), j ≤ l.length ∧ i = .int .i64 j ∧ x = .int .i64 n ∧ Below w.heap.size w wr) (fun _ i _ => l.length - (intOf i).toNat)
  case atStart => exact ⟨0, _, by omega, rfl, rfl, Below.refl _ _⟩
  case round =>
    obtain ⟨j, n, hj, rfl, rfl, hb⟩ := hrel
    have Hb := Lib.hid hb
    by_cases hlt : j < l.length
    · obtain ⟨b, o, rfl, hcl⟩ := Hc.out (by omega)
      obtain ⟨h1, h2⟩ := hcl j hlt
      rw [← (bcell hb).1 b (o + j * 2) (block_lt_of_cell (w := w) (a := ⟨b, o + j * 2, none⟩) h1)] at h1
      rw [← (bcell hb).1 b (o + j * 2 + 1) (block_lt_of_cell (w := w) (a := ⟨b, o + j * 2 + 1, none⟩) h2)] at h2
      obtain ⟨⟨k, d⟩, ha⟩ : ∃ a, l[j] = a := ⟨_, rfl⟩
      rw [ha] at h1 h2
      simp only at h1 h2
      have Hb1 := Lib.hid (hb.alloc hb.size (.cells #[.string (S k), .string (S d)] 35))
      clear hcl hb ha
      go_wp2_with fail
      go_roundw
      case rel => exact ⟨j + 1, _, by omega, by go_num, rfl, Hb1.out⟩
      case measure => simp [intOf]; omega
    · clear hb
      go_wp2_with fail
      go_ret
      exact ⟨_, rfl, Hb.out⟩
end Go.Proofs.YteapbjeapnmloaaGreatDoor
