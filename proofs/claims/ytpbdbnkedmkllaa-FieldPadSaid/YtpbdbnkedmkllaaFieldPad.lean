/- FieldPad: for all texts s and more, the law's function returns true. -/
import Derived.Test.YtpbdbnkedmkllaaField
namespace Go.Proofs.Ytpbdbnkedmkllaa
open Go.RowKit
theorem padded_len (l : List UInt8) : (padded l).length = l.length + pad l.length := by simp [padded, zs]
theorem padded_mod (l : List UInt8) : (padded l).length % 4 = 0 := by rw [padded_len]; unfold pad; omega
theorem pad_mod (n : Nat) (h : n % 4 = 0) : pad n = 0 := by unfold pad; omega
theorem padded_again (l : List UInt8) : padded (padded l) = padded l := by
  have h := pad_mod _ (padded_mod l)
  show padded l ++ zs (pad (padded l).length) = padded l
  rw [h]; simp [zs]
theorem unpads (l m : List UInt8) : ((((padded l) ++ m).drop l.length).take (pad l.length) == zs (pad l.length)) = true := by
  simp [padded, zs]

theorem fieldPad_long (l m : List UInt8) (w : World) (hl : l.length ≤ 140737488351232) (hm : m.length ≤ 140737488351232) (h : 300 < l.length + m.length) :
    Calls Try.prog 4 #[.string (S l), .string (S m)] w fun e w' => e = .returned (.bool true) ∧ Below w.heap.size w w' := by
  go_enter Try.func4, Try.ntmps4
  go_wp2_with fail
  refine (put_fact _).mono ?_
  rintro e w1 ⟨rfl, hb1⟩
  go_wp2_with fail
  go_ret
  exact ⟨rfl, hb1⟩
theorem fieldPad_short (l m : List UInt8) (w : World) (h : l.length + m.length ≤ 300) :
    Calls Try.prog 4 #[.string (S l), .string (S m)] w fun e w' => e = .returned (.bool true) ∧ Below w.heap.size w w' := by
  have h3 := pad_le l.length
  have hlen := padded_len l
  have hmod := padded_mod l
  have hagain := padded_again l
  have hu := unpads l m
  have htk : (padded l ++ m).take l.length = l := by simp [padded]
  have hp0 := pad_mod _ hmod
  rw [hlen] at hmod hp0
  have hmodI : ((l.length : Int) + (pad l.length : Int)) % 4 = 0 := by omega
  have hp0I : padI ((l.length : Int) + (pad l.length : Int)) = 0 := by
    have := padI_pad (l.length + pad l.length)
    rw [hp0] at this
    simpa using this
  have Hp0I := Lib.hid hp0I
  have Htk := Lib.hid htk
  have Hagain := Lib.hid hagain
  clear hagain htk hmod hp0 hp0I
  go_enter Try.func4, Try.ntmps4
  go_wp2_with fail
  refine (put_fact _).mono ?_
  rintro e w1 ⟨rfl, hb1⟩
  go_wp2_with fail
  refine (pad_any _ _).mono ?_
  rintro e w2 ⟨rfl, rfl⟩
  rw [padI_pad]
  go_wp2_with fail
  refine (padded_any _ _ (by omega)).mono ?_
  rintro e w2 ⟨rfl, rfl⟩
  go_wp2_with fail
  refine (unpad_ok _ _ _ (by simp; omega) (by simp; omega) hu).mono ?_
  rintro e w2 ⟨rfl, n, rfl⟩
  rw [Htk.out]
  go_wp2_with fail
  refine (pad_any _ _).mono ?_
  rintro e w2 ⟨rfl, rfl⟩
  rw [Hp0I.out]
  go_wp2_with fail
  refine (padded_any _ _ (by omega)).mono ?_
  rintro e w2 ⟨rfl, rfl⟩
  rw [Hagain.out]
  go_wp2_with fail
  go_ret
  exact ⟨rfl, below_drewN hb1 n⟩

theorem fieldPad_any (l m : List UInt8) (w : World) (hl : l.length ≤ 140737488351232) (hm : m.length ≤ 140737488351232) :
    Calls Try.prog 4 #[.string (S l), .string (S m)] w fun e w' => e = .returned (.bool true) ∧ Below w.heap.size w w' := by
  by_cases h : l.length + m.length ≤ 300
  · exact fieldPad_short l m w h
  · exact fieldPad_long l m w hl hm (by omega)
end Go.Proofs.Ytpbdbnkedmkllaa
