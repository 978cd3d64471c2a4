/- quaymasterkeep.valued: values as they are told. -/
import Derived.Test.YtoponmdfjbhnoaaDoorRead
import Derived.Test.YtoponmdfjbhnoaaDoorHex
namespace Go.Proofs.YtoponmdfjbhnoaaDoor
open Go.RowKit
theorem valued_fact (w : World) (hg : ErrCell w) : Calls Tryd.prog 7 #[] w fun e w' => e = .returned (.bool true) ∧ Below w.heap.size w w' := by
  have h1 : readV [48, 98, 84, 87, 69, 61] = ([77, 97], 0, -1) := by decide +kernel
  have h2 : readV [48, 88, 97, 48, 70, 102] = ([160, 255], 0, -1) := by decide +kernel
  have h3 : readV [48, 98, 84, 87, 70, 61] = ([], 3, 4) := by decide +kernel
  have h4 : hexL [160] = [48, 120, 97, 48] := by decide +kernel
  have c1 := fun W => read_any [48, 98, 84, 87, 69, 61] W (by decide)
  have c2 := fun W => read_any [48, 88, 97, 48, 70, 102] W (by decide)
  have c3 := fun W => read_any [48, 98, 84, 87, 70, 61] W (by decide)
  have c4 := fun W => hex_any [160] W (by decide)
  rw [h1] at c1
  rw [h2] at c2
  rw [h3] at c3
  rw [h4] at c4
  have C1 := Lib.hid c1
  have C2 := Lib.hid c2
  have C3 := Lib.hid c3
  have C4 := Lib.hid c4
  have Hg := Lib.hid hg
  clear h1 h2 h3 h4 c1 c2 c3 c4 hg
  go_enter Tryd.func7, Tryd.ntmps7
  go_wp2_with fail
  refine (C1.out _).mono ?_
  rintro e w1 ⟨v1, rfl, he1, hb1⟩
  rw [he1.zero]
  clear he1
  go_wp2_with fail
  refine (C2.out _).mono ?_
  rintro e w2 ⟨v2, rfl, he2, hb2⟩
  rw [he2.zero]
  clear he2
  go_wp2_with fail
  refine (C3.out _).mono ?_
  rintro e w3 ⟨v3, rfl, he3, hb3⟩
  have He3 := Lib.hid he3
  have hb13 := below_then hb1 (below_then hb2 hb3)
  have Hg3 := Lib.hid (Hg.out.later hb13)
  clear he3
  go_wp2_with fail
  refine (tell_is He3.out Hg3.out).mono ?_
  rintro e w4 ⟨rfl, hb4⟩
  go_wp2_with fail
  refine (C4.out _).mono ?_
  rintro e w5 ⟨rfl, hb5⟩
  go_wp2_with fail
  go_ret
  exact ⟨rfl, below_then hb13 (below_then hb4 hb5)⟩
end Go.Proofs.YtoponmdfjbhnoaaDoor
