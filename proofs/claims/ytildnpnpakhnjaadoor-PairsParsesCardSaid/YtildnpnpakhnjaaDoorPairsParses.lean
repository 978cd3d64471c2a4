/- PairsParses: the pairs that any text is are the document's. -/
import Derived.Test.YtildnpnpakhnjaaDoorRefUnpairs
import Derived.Test.YtildnpnpakhnjaaDoorPlaced
import Derived.Test.YtildnpnpakhnjaaDoorEqP
namespace Go.Proofs.YtildnpnpakhnjaaDoor
open Go.RowKit
set_option linter.unusedVariables false
set_option maxRecDepth 100000 in
set_option maxHeartbeats 2000000 in
theorem pairsParses_any (s : List UInt8) (w : World) (hl : s.length ≤ 140737488351232) (hm : MaxCell w) (hg : ErrCell w) :
    Calls Tryd.prog 4 #[.string (S s)] w fun e w' => e = .returned (.bool true) ∧ Below w.heap.size w w' := by
  by_cases h30 : 3000 < s.length
  · have i1 : (3000 : Int) < (s.length : Int) := by omega
    go_enter Tryd.func4, Tryd.ntmps4
    go_wp2_with fail
    go_ret
    exact ⟨rfl, Below.refl _ _⟩
  have i1 : (s.length : Int) ≤ 3000 := by omega
  have A1 := refUnpairs_any s w (by omega) hm
  have A2 := fun w hm => parse_any s w (by omega) hm
  have hlen := parse_len s
  obtain ⟨⟨l, n, q⟩, hp⟩ : ∃ r, prParse s = r := ⟨_, rfl⟩
  simp only [hp] at A1 A2 hlen
  have A1 := Lib.hid A1
  have A2 := Lib.hid A2
  have Hm := Lib.hid hm
  have Hg := Lib.hid hg
  have Hlen := Lib.hid hlen
  clear hm hg hp hlen h30
  go_enter Tryd.func4, Tryd.ntmps4
  go_wp2_with fail
  refine A1.out.mono ?_
  rintro e w2 ⟨v1, rfl, hv1, hb2⟩
  have hb2n := (Below.refl w2.heap.size w2).alloc (Nat.le_refl _) (.cells #[.int .i64 n, .int .i64 q] 26)
  have HF := Lib.hid (show Cell2 (w2.alloc (.cells #[.int .i64 n, .int .i64 q] 26)) w2.heap.size n q from heap_alloc_new w2 _)
  have Hb2 := Lib.hid (below_then hb2 hb2n)
  have HV1 := Lib.hid (hv1.later hb2n)
  obtain ⟨p1, c1, rfl⟩ := hv1.form
  have P2 := Lib.hid (A2.out _ (Hm.out.later Hb2.out))
  clear hv1 hb2 hb2n A1 A2
  go_wp2_with fail
  refine P2.out.mono ?_
  rintro e w3 ⟨v2, ev, rfl, hv2, he, hb3⟩
  have HF3 := Lib.hid (HF.out.later hb3)
  have Hb3 := Lib.hid (below_then Hb2.out hb3)
  have HV1b := Lib.hid (HV1.out.later hb3)
  have HV2 := Lib.hid hv2
  obtain ⟨p2, c2, rfl⟩ := hv2.form
  have P := Lib.hid (placed_same he (Hg.out.later Hb3.out))
  obtain ⟨x0, x1⟩ := HF3.out.cells
  clear hb3 hv2 he P2 Hb2 HF HV1
  go_wp2_with fail
  refine P.out.mono ?_
  rintro e w4 ⟨rfl, hb4⟩
  have Hb4 := Lib.hid (below_then Hb3.out hb4)
  have E := Lib.hid (equalP_same l _ _ _ (by have := Hlen.out; omega) (HV1b.out.later hb4) (HV2.out.later hb4))
  clear hb4 x0 x1 P Hb3 HV1b HV2 HF3
  go_wp2_with fail
  refine E.out.mono ?_
  rintro e w5 ⟨rfl, hb5⟩
  have Hb5 := Lib.hid (below_then Hb4.out hb5)
  clear hb5 E
  go_wp2_with fail
  go_ret
  exact ⟨rfl, Hb5.out⟩
end Go.Proofs.YtildnpnpakhnjaaDoor
