/- quaymasterkeep.paired. -/
import Derived.Test.YtbllnelnajfjgaaGreatDoorPairParse
import Derived.Test.YtbllnelnajfjgaaGreatDoorPairPrint
namespace Go.Proofs.YtbllnelnajfjgaaGreatDoor
open Go.RowKit
def pairL : List Pr := [⟨[65], [120, 61, 121]⟩, ⟨[66], []⟩]
def pairT : List UInt8 := [65, 61, 120, 61, 121, 0, 66, 61, 0]
theorem pairL_print : prPrint pairL = (pairT, 0, -1) := by kernel_rfl
theorem pairT_parse : prParse pairT = (pairL, 0, -1) := by kernel_rfl
theorem pairL_find : findR (prFind pairL [65]) = .tuple #[.string (S [120, 61, 121]), .bool true] := by kernel_rfl
set_option maxRecDepth 100000 in
theorem paired_any (w : World) (hm : MaxCell w) : Calls Tryz.prog 22 #[] w fun e w' => e = .returned (.bool true) ∧ Below w.heap.size w w' := by
  have hb0 := (Below.refl w.heap.size w).alloc (Nat.le_refl _) (.cells #[.string (S [65]), .string (S [120, 61, 121]), .string (S [66]), .string (S [])] 90)
  have hv0 : PrsV (w.alloc (.cells #[.string (S [65]), .string (S [120, 61, 121]), .string (S [66]), .string (S [])] 90)) (.slice (some ⟨w.heap.size, 0, none⟩) 2 2) pairL := prs_new w pairL 90
  have P := print_prs pairL _ _ hv0 ⟨by decide, fun p hp => by
    have : p = ⟨[65], [120, 61, 121]⟩ ∨ p = ⟨[66], []⟩ := by simpa [pairL] using hp
    rcases this with rfl | rfl <;> exact ⟨by decide, by decide⟩⟩
  rw [pairL_print] at P
  have P := Lib.hid P
  have Hb0 := Lib.hid hb0
  have Hm := Lib.hid hm
  have K1 := fun w => Lib.hid (key_any [88, 45, 97] w (by decide))
  have K2 := fun w => Lib.hid (key_any [97] w (by decide))
  have V1 := fun w => Lib.hid (value_any2 [0] w (by decide))
  simp only [show isKey [88, 45, 97] = true by decide] at K1
  simp only [show isKey [97] = false by decide] at K2
  simp only [show isVal [0] = false by decide] at V1
  clear hb0 hv0 hm
  go_enter Tryz.func22, Tryz.ntmps22
  go_wp2_with fail
  refine P.out.mono ?_
  rintro e w1 ⟨ev, rfl, he, hb1⟩
  obtain rfl := he.zero
  have Hb1 := Lib.hid (below_then Hb0.out hb1)
  have Q := parse_any pairT w1 (by decide) (Hm.out.later Hb1.out)
  rw [pairT_parse] at Q
  have Q := Lib.hid Q
  clear he hb1 P
  go_wp2_with fail
  refine Q.out.mono ?_
  rintro e w2 ⟨v, ev, rfl, hv, he, hb2⟩
  obtain rfl := he.zero
  have Hb2 := Lib.hid (below_then Hb1.out hb2)
  have F := find_prs pairL [65] v w2 hv (by decide)
  rw [pairL_find] at F
  have F := Lib.hid F
  obtain ⟨p, c, rfl⟩ := hv.form
  rw [show pairL.length = 2 from rfl] at F
  clear he hb2 Q hv
  go_wp2_with fail
  refine F.out.mono ?_
  rintro e w3 ⟨rfl, hb3⟩
  have Hb3 := Lib.hid (below_then Hb2.out hb3)
  clear hb3 F
  unfold pairT
  go_wp2_with fail
  refine (K1 _).out.mono ?_
  rintro e w4 ⟨rfl, rfl⟩
  go_wp2_with fail
  refine (K2 _).out.mono ?_
  rintro e w4 ⟨rfl, rfl⟩
  go_wp2_with fail
  refine (V1 _).out.mono ?_
  rintro e w4 ⟨rfl, rfl⟩
  go_wp2_with fail
  go_ret
  exact ⟨rfl, Hb3.out⟩
end Go.Proofs.YtbllnelnajfjgaaGreatDoor
