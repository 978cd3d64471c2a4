/- GatherFull: what is too much is forgotten, with what came ahead. -/
import Derived.Test.YtildnpnpakhnjaaDoorGathered
import Derived.Test.YtildnpnpakhnjaaDoorPick
namespace Go.Proofs.YtildnpnpakhnjaaDoor
open Go.RowKit
set_option linter.unusedVariables false
set_option maxRecDepth 100000 in
set_option maxHeartbeats 2000000 in
theorem gatherFull_any (most : Int) (a b : List UInt8) (w : World) (_hwf : (Lit.int .i64 most).wf = true) (ha : a.length ≤ 140737488351232) (hb : b.length ≤ 140737488351232) (hm : MaxCell w) (hg : ErrCell w) :
    Calls Tryd.prog 10 #[.int .i64 most, .string (S a), .string (S b)] w fun e w' => e = .returned (.bool true) ∧ Below w.heap.size w w' := by
  have M := Lib.hid (gathered_any w hm hg)
  have K : ∀ W, Hid (Calls Tryd.prog 41 #[.int .i64 most, .int .i64 300] W fun e w' => e = .returned (.int .i64 (pickI most 300 : Nat)) ∧ W = w') := fun W => Lib.hid (pick_any most 300 W (by decide) (by decide))
  have hk := pickI_lt most 300 (by decide)
  generalize pickI most 300 = n at K hk
  have Hm := Lib.hid hm
  have Hg := Lib.hid hg
  have Ha := Lib.hid ha
  have Hb := Lib.hid hb
  clear hm hg
  go_enter Tryd.func10, Tryd.ntmps10
  go_wp2_with fail
  refine M.out.mono ?_
  rintro e w1 ⟨rfl, hb1⟩
  have Hb1 := Lib.hid hb1
  clear hb1 M
  by_cases h10 : 1000 < a.length + b.length
  · have i1 : (1000 : Int) < (a.length : Int) + (b.length : Int) := by omega
    go_wp2_with fail
    go_ret
    exact ⟨rfl, Hb1.out⟩
  have i1 : (a.length : Int) + (b.length : Int) ≤ 1000 := by omega
  clear h10 ha hb
  go_wp2_with fail
  refine (K _).out.mono ?_
  rintro e w1' ⟨rfl, rfl⟩
  have N := Lib.hid (new_gs n (by omega) Hb1.out Hm.out Hg.out)
  clear K Hb1
  go_wp2_with fail
  refine N.out.mono ?_
  rintro e w2 ⟨gb, H, rfl, hs, _⟩
  clear N
  by_cases h1 : n < a.length
  · have i2 : (n : Int) < (a.length : Int) := by omega
    have A := Lib.hid (add_gs a true Ha.out (addG_full true (by simpa using h1)) hs)
    clear hs h1
    go_wp2_with fail
    refine A.out.mono ?_
    rintro e w3 ⟨v1, ev1, H1, rfl, hv1, he1, hs1, _⟩
    have T := Lib.hid (tell_is he1.off hs1.ec)
    have HS1 := Lib.hid hs1
    clear hv1 he1 hs1 A
    go_wp2_with fail
    refine T.out.mono ?_
    rintro e w4 ⟨rfl, hb4⟩
    have HS2 := Lib.hid (HS1.out.later hb4)
    have Z := Lib.hid (size_gs HS2.out)
    clear hb4 T HS1
    go_wp2_with fail
    refine Z.out.mono ?_
    rintro e w5 ⟨rfl, rfl⟩
    go_wp2_with fail
    go_ret
    exact ⟨rfl, HS2.out.low⟩
  have i2 : (a.length : Int) ≤ (n : Int) := by omega
  have A := Lib.hid (add_gs a true Ha.out (addG_more (by simp; omega)) hs)
  clear hs h1
  go_wp2_with fail
  refine A.out.mono ?_
  rintro e w3 ⟨v1, ev1, H1, rfl, hv1, he1, hs1, _⟩
  obtain rfl := he1.zero
  rw [List.nil_append] at hs1
  clear hv1 he1 A
  by_cases h2 : n < a.length + b.length
  · have i3 : (n : Int) < (a.length : Int) + (b.length : Int) := by omega
    have A := Lib.hid (add_gs b true Hb.out (addG_full true (by simpa using h2)) hs1)
    clear hs1 h2
    go_wp2_with fail
    refine A.out.mono ?_
    rintro e w4 ⟨v2, ev2, H2, rfl, hv2, he2, hs2, _⟩
    have T := Lib.hid (tell_is he2.off hs2.ec)
    have HS1 := Lib.hid hs2
    clear hv2 he2 hs2 A
    go_wp2_with fail
    refine T.out.mono ?_
    rintro e w5 ⟨rfl, hb5⟩
    have HS2 := Lib.hid (HS1.out.later hb5)
    have Z := Lib.hid (size_gs HS2.out)
    clear hb5 T HS1
    go_wp2_with fail
    refine Z.out.mono ?_
    rintro e w6 ⟨rfl, rfl⟩
    go_wp2_with fail
    go_ret
    exact ⟨rfl, HS2.out.low⟩
  have i3 : (a.length : Int) + (b.length : Int) ≤ (n : Int) := by omega
  have A := Lib.hid (add_gs b true Hb.out (addG_more (by simp; omega)) hs1)
  clear hs1 h2
  go_wp2_with fail
  refine A.out.mono ?_
  rintro e w4 ⟨v2, ev2, H2, rfl, hv2, he2, hs2, _⟩
  obtain rfl := he2.zero
  have HS2 := Lib.hid hs2
  have Z := Lib.hid (size_gs hs2)
  clear hv2 he2 hs2 A
  go_wp2_with fail
  refine Z.out.mono ?_
  rintro e w6 ⟨rfl, rfl⟩
  have e1 : ((a ++ b).length : Int) = (a.length : Int) + (b.length : Int) := by simp
  go_wp2_with fail
  go_ret
  exact ⟨rfl, HS2.out.low⟩
end Go.Proofs.YtildnpnpakhnjaaDoor
