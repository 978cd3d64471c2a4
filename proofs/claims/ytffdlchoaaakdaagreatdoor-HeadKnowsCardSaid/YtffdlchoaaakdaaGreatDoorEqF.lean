/- slices.Equal of two slices of the same fields. -/
import Derived.Test.YtffdlchoaaakdaaGreatDoorFdEq
import Derived.Test.YtffdlchoaaakdaaGreatDoorList
import Derived.BigRegion
import Derived.Deep.QuietTactic
import Derived.BigQuiet
namespace Go.Proofs.YtffdlchoaaakdaaGreatDoor
open Go.RowKit
/-- the slice value v reads as these fields -/
def FV (W : World) (v : Value) (fs : List Fd) : Prop := ∃ p, v = .slice p fs.length fs.length ∧ (0 < fs.length → ∃ b, p = some ⟨b, 0, none⟩ ∧ Flds W b fs)
theorem FV.later {W W' : World} {v : Value} {fs : List Fd} (h : FV W v fs) (hb : Below W.heap.size W W') : FV W' v fs := by
  obtain ⟨p, e, hc⟩ := h
  exact ⟨p, e, fun h0 => by obtain ⟨b, hp, hF⟩ := hc h0; exact ⟨b, hp, Blk.later hF hb⟩⟩
theorem FV.of {W : World} {b : Nat} {fs : List Fd} (h : Flds W b fs) : FV W (.slice (some ⟨b, 0, none⟩) fs.length fs.length) fs := ⟨_, rfl, fun _ => ⟨b, rfl, h⟩⟩
theorem FV.nil (W : World) : FV W (.slice none 0 0) [] := ⟨none, rfl, fun h => absurd h (by decide)⟩
set_option maxRecDepth 100000 in
theorem equalF_same (fs : List Fd) (v v' : Value) (w : World) (hl : fs.length ≤ 100) (hv : FV w v fs) (hv' : FV w v' fs) :
    Calls Tryz.prog 13 #[v, v'] w fun e w' => e = .returned (.bool true) ∧ Below w.heap.size w w' := by
  obtain ⟨p, rfl, hc⟩ := hv
  obtain ⟨p', rfl, hc'⟩ := hv'
  have hne : ((fs.length : Int) != (fs.length : Int)) = false := by simp
  have Hc := Lib.hid hc
  have Hc' := Lib.hid hc'
  clear hc hc'
  go_enter Tryz.func13, Tryz.ntmps13
  go_wp2_with fail
  go_loopw [13] (fun i wr => ∃ j : Nat, j ≤ fs.length ∧ i = .int .i64 j ∧ Below w.heap.size w wr) (fun i _ => fs.length - (intOf i).toNat)
  case atStart => exact ⟨0, by omega, rfl, Below.refl _ _⟩
  case round =>
    obtain ⟨j, hj, rfl, hb⟩ := hrel
    have Hb := Lib.hid hb
    by_cases hlt : j < fs.length
    · obtain ⟨b, rfl, hF⟩ := Hc.out (by omega)
      obtain ⟨b', rfl, hF'⟩ := Hc'.out (by omega)
      obtain ⟨q0, q1, q2⟩ := Flds.get (Blk.later hF hb) j hlt
      obtain ⟨r0, r1, r2⟩ := Flds.get (Blk.later hF' hb) j hlt
      obtain ⟨f, hf⟩ : ∃ f, fs[j] = f := ⟨_, rfl⟩
      rw [hf] at q0 q1 q2 r0 r1 r2
      have hj0 : (0 : Int) ≤ (j : Int) := by omega
      have E2 := fun w => fd_same' w f.nm f.pos f.sz
      clear hb hF hF' hf
      go_wp2_with fail
      go_quiet (fail)
      go_wp2_with fail
      go_roundw
      case rel => exact ⟨j + 1, by omega, by go_num, below_drewN Hb.out _⟩
      case measure => simp [intOf]; omega
    · clear hb
      go_wp2_with fail
      go_ret
      exact ⟨rfl, Hb.out⟩
end Go.Proofs.YtffdlchoaaakdaaGreatDoor
