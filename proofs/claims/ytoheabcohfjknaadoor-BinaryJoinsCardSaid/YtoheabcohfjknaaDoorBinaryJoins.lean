/- BinaryJoins: one behind the other. -/
import Derived.Test.YtoheabcohfjknaaDoorBinaryPlain
import Derived.Deep.RegionHeld3
namespace Go.Proofs.YtoheabcohfjknaaDoor
open Go.RowKit
set_option maxRecDepth 100000 in
theorem binaryJoins_any (a b : List UInt8) (w : World) (ha : a.length ≤ 140737488351232) (hb : b.length ≤ 140737488351232) (hg : ErrCell w) :
    Calls Tryd.prog 7 #[.string (S a), .string (S b)] w fun e w' => e = .returned (.bool true) ∧ Below w.heap.size w w' := by
  have Hg := Lib.hid hg
  clear hg
  by_cases h3 : 300 < a.length + b.length
  · have h3i : (300 : Int) < (a.length : Int) + (b.length : Int) := by omega
    go_enter Tryd.func7, Tryd.ntmps7
    go_wp2_with fail
    refine (valued_fact _ Hg.out).mono ?_
    rintro e w1 ⟨rfl, hb1⟩
    go_wp2_with fail
    go_ret
    exact ⟨rfl, hb1⟩
  · have h3i : (a.length : Int) + (b.length : Int) ≤ 300 := by omega
    have hal : a.length ≤ 300 := by omega
    have hbl : b.length ≤ 300 := by omega
    obtain ⟨c, hc⟩ : ∃ c, a.take (a.length / 3 * 3) = c := ⟨_, rfl⟩
    have hcl : c.length ≤ 300 := by rw [← hc, List.length_take]; omega
    have hc3 : c.length % 3 = 0 := by rw [← hc, List.length_take]; omega
    have k1 := fun W => hex_any b W (by omega)
    have k2 := fun W => base64_any b W (by omega)
    have k3 := fun W => hex_any (a ++ b) W (by rw [List.length_append]; omega)
    have k4 := fun W => hex_any a W (by omega)
    have k5 := fun W => base64_any (c ++ b) W (by rw [List.length_append]; omega)
    have k6 := fun W => base64_any c W (by omega)
    have e3 : hexL (a ++ b) = hexL a ++ hexOf b := by unfold hexL; rw [hexOf_app]; rfl
    have e5 : b64L (c ++ b) = b64L c ++ lettersOf b := by unfold b64L; rw [lettersOf_three c b hc3]; rfl
    have l1 := hexOf_len b
    have l2 := lettersOf_len b
    have l3 := hexL_len a
    have l4 := b64L_len c
    rw [e3] at k3
    rw [e5] at k5
    rw [show hexL b = 48 :: 120 :: hexOf b from rfl] at k1
    rw [show b64L b = 48 :: 98 :: lettersOf b from rfl] at k2
    generalize hexL a = x at k3 k4 l3
    generalize b64L c = y at k5 k6 l4
    generalize hexOf b = z at k1 k3 l1
    generalize lettersOf b = q at k2 k5 l2
    have C1 := Lib.hid k1
    have C2 := Lib.hid k2
    have C3 := Lib.hid k3
    have C4 := Lib.hid k4
    have C5 := Lib.hid k5
    have C6 := Lib.hid k6
    have b1 : z.length ≤ 602 := by omega
    have b2 : q.length ≤ 602 := by omega
    have b3 : x.length ≤ 602 := by omega
    have b4 : y.length ≤ 602 := by omega
    clear k1 k2 k3 k4 k5 k6 e3 e5 l1 l2 l3 l4 hc3
    go_enter Tryd.func7, Tryd.ntmps7
    go_wp2_with fail
    refine (valued_fact _ Hg.out).mono ?_
    rintro e w1 ⟨rfl, hb1⟩
    go_wp2_with fail
    refine (C1.out _).mono ?_
    rintro e w2 ⟨rfl, hb2⟩
    go_wp2_with fail
    refine (C2.out _).mono ?_
    rintro e w3 ⟨rfl, hb3⟩
    go_wp2_with fail
    have Hb13 := Lib.hid (below_then hb1 (below_then hb2 hb3))
    clear hb1 hb2 hb3
    have n1 : ¬ 9223372036854775807 < a.length + b.length := by omega
    have n2 : ¬ 9223372036854775807 < x.length + z.length := by omega
    have n3 : ¬ 9223372036854775807 < c.length + b.length := by omega
    have n4 : ¬ 9223372036854775807 < y.length + q.length := by omega
    go_region_held3 (fun w' => Below w3.heap.size w3 w') (first | exact Below.refl _ _ | assumption | (refine below_then ?_ hb'; assumption) | exact below_drewN (Below.refl _ _) _ | (refine Below.drew ?_; first | assumption | exact Below.refl _ _)) (first | ((with_reducible refine (C3.out _).mono ?_); rintro e w' ⟨rfl, hb'⟩) | ((with_reducible refine (C4.out _).mono ?_); rintro e w' ⟨rfl, hb'⟩) | ((with_reducible refine (C5.out _).mono ?_); rintro e w' ⟨rfl, hb'⟩) | ((with_reducible refine (C6.out _).mono ?_); rintro e w' ⟨rfl, hb'⟩))
    all_goals
      go_wp2_with fail
      go_ret
      refine ⟨rfl, below_then Hb13.out ?_⟩
      assumption
end Go.Proofs.YtoheabcohfjknaaDoor
