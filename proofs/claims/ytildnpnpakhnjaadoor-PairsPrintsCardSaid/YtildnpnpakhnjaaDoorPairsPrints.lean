/- PairsPrints: any pairs as text, and what any key has, is the document's. -/
import Derived.Test.YtildnpnpakhnjaaDoorRefPairs
import Derived.Test.YtildnpnpakhnjaaDoorPlaced
import Derived.Test.YtildnpnpakhnjaaDoorThickL
import Derived.Test.YtildnpnpakhnjaaDoorOpenPrs
namespace Go.Proofs.YtildnpnpakhnjaaDoor
open Go.RowKit
set_option linter.unusedVariables false
theorem findR_form (r : Option (List UInt8)) : ∃ v b, findR r = .tuple #[.string (S v), .bool b] := by
  cases r with
  | none => exact ⟨_, _, rfl⟩
  | some v => exact ⟨_, _, rfl⟩
set_option maxRecDepth 100000 in
set_option maxHeartbeats 2000000 in
theorem pairsPrints_any (l : List Pr) (v : Value) (key : List UInt8) (w : World) (hv : PrsV w v l) (hf : WideP l) (hkl : key.length ≤ 140737488351232) (hg : ErrCell w) :
    Calls Tryd.prog 3 #[v, .string (S key)] w fun e w' => e = .returned (.bool true) ∧ Below w.heap.size w w' := by
  obtain ⟨p, c, rfl⟩ := hv.form
  have T := Lib.hid (thickL_any l _ w hv hf.1.1)
  have HV := Lib.hid hv
  have Hf := Lib.hid hf
  have Hg := Lib.hid hg
  have Hkl := Lib.hid hkl
  clear hv hf hg hkl
  go_enter Tryd.func3, Tryd.ntmps3
  go_wp2_with fail
  refine T.out.mono ?_
  rintro e w1 ⟨b, rfl, hb1⟩
  have Hb1 := Lib.hid hb1
  clear hb1 T
  cases b with
  | true =>
    go_wp2_with fail
    go_ret
    exact ⟨rfl, Hb1.out⟩
  | false =>
    by_cases h300 : 300 < key.length
    · have i1 : (300 : Int) < (key.length : Int) := by omega
      go_wp2_with fail
      go_ret
      exact ⟨rfl, Hb1.out⟩
    have i1 : (key.length : Int) ≤ 300 := by omega
    clear h300
    have A1 := refPairs_any l _ w1 (HV.out.later Hb1.out) Hf.out.1
    have A2 := fun w hv => print_prs l (.slice p l.length c) w hv Hf.out.1
    have A3 := fun w hv => refFind_any l key (.slice p l.length c) w hv Hf.out.1.1
    have A4 := fun w hv => find_prs l key (.slice p l.length c) w hv Hf.out.1.1
    have A5 := fun w hv => right_prs l (.slice p l.length c) w hv Hf.out.1
    have A6 := fun w hv => refPRight_any l (.slice p l.length c) w hv Hf.out.1
    have A7 := fun w => Lib.hid (key_any key w (by have := Hkl.out; omega))
    have A8 := fun w => Lib.hid (refKey_any key w (by have := Hkl.out; omega))
    have A9 := fun w => Lib.hid (value_any2 key w (by have := Hkl.out; omega))
    have A10 := fun w => Lib.hid (refVal_any key w (by have := Hkl.out; omega))
    obtain ⟨⟨s, n, q⟩, hp⟩ : ∃ r, prPrint l = r := ⟨_, rfl⟩
    obtain ⟨⟨n2, q2⟩, hr⟩ : ∃ r, prRight l = r := ⟨_, rfl⟩
    obtain ⟨fv, fb, hfd⟩ := findR_form (prFind l key)
    simp only [hp] at A1 A2
    simp only [hr] at A5 A6
    simp only [hfd] at A3 A4
    generalize isKey key = kb at A7 A8
    generalize isVal key = vb at A9 A10
    have e1 : (kb == kb) = true := by cases kb <;> rfl
    have e2 : (vb == vb) = true := by cases vb <;> rfl
    have e3 : (fb == fb) = true := by cases fb <;> rfl
    have e4 : (s == s) = true := by simp
    have e5 : (fv == fv) = true := by simp
    have A1 := Lib.hid A1
    have A2 := Lib.hid A2
    have A3 := Lib.hid A3
    have A4 := Lib.hid A4
    have A5 := Lib.hid A5
    have A6 := Lib.hid A6
    clear hp hr hfd
    go_wp2_with fail
    refine A1.out.mono ?_
    rintro e w2 ⟨rfl, hb2⟩
    have hb2n := (Below.refl w2.heap.size w2).alloc (Nat.le_refl _) (.cells #[.int .i64 n, .int .i64 q] 26)
    have HF := Lib.hid (show Cell2 (w2.alloc (.cells #[.int .i64 n, .int .i64 q] 26)) w2.heap.size n q from heap_alloc_new w2 _)
    have Hb2 := Lib.hid (below_then (below_then Hb1.out hb2) hb2n)
    have P2 := Lib.hid (A2.out _ (HV.out.later Hb2.out))
    clear hb2 hb2n A1 A2 Hb1
    go_wp2_with fail
    refine P2.out.mono ?_
    rintro e w3 ⟨ev, rfl, he, hb3⟩
    have HF3 := Lib.hid (HF.out.later hb3)
    have Hb3 := Lib.hid (below_then Hb2.out hb3)
    have He := Lib.hid he
    have P3 := Lib.hid (A3.out _ (HV.out.later Hb3.out))
    have P4 := Lib.hid (A4.out _ (HV.out.later Hb3.out))
    clear he hb3 HF P2 Hb2 A3 A4
    go_wp2_with fail
    refine P3.out.mono ?_
    rintro e w4 ⟨rfl, rfl⟩
    go_wp2_with fail
    refine P4.out.mono ?_
    rintro e w4 ⟨rfl, hb4⟩
    have HF4 := Lib.hid (HF3.out.later hb4)
    have Hb4 := Lib.hid (below_then Hb3.out hb4)
    have P := Lib.hid (placed_same (He.out.later hb4) (Hg.out.later Hb4.out))
    obtain ⟨x0, x1⟩ := HF4.out.cells
    clear hb4 HF3 Hb3 P3 P4 He
    go_wp2_with fail
    refine P.out.mono ?_
    rintro e w5 ⟨rfl, hb5⟩
    have Hb5 := Lib.hid (below_then Hb4.out hb5)
    have R1 := Lib.hid (A5.out _ (HV.out.later Hb5.out))
    clear hb5 x0 x1 P Hb4 HF4 A5
    go_wp2_with fail
    refine R1.out.mono ?_
    rintro e w6 ⟨ev2, rfl, he2, hb6⟩
    have Hb6 := Lib.hid (below_then Hb5.out hb6)
    have He := Lib.hid he2
    have R2 := Lib.hid (A6.out _ (HV.out.later Hb6.out))
    clear hb6 he2 R1 A6 Hb5
    go_wp2_with fail
    refine R2.out.mono ?_
    rintro e w7 ⟨rfl, hb7⟩
    have Hb7 := Lib.hid (below_then Hb6.out hb7)
    have P := Lib.hid (placed_same (He.out.later hb7) (Hg.out.later Hb7.out))
    clear hb7 He Hb6 R2
    go_wp2_with fail
    refine P.out.mono ?_
    rintro e w8 ⟨rfl, hb8⟩
    have Hb8 := Lib.hid (below_then Hb7.out hb8)
    clear hb8 P Hb7
    go_wp2_with fail
    refine (A7 _).out.mono ?_
    rintro e w9 ⟨rfl, rfl⟩
    go_wp2_with fail
    refine (A8 _).out.mono ?_
    rintro e w9 ⟨rfl, hb9⟩
    have Hb9 := Lib.hid (below_then Hb8.out hb9)
    clear hb9 Hb8
    go_wp2_with fail
    refine (A9 _).out.mono ?_
    rintro e w10 ⟨rfl, rfl⟩
    go_wp2_with fail
    refine (A10 _).out.mono ?_
    rintro e w10 ⟨rfl, hb10⟩
    have Hb10 := Lib.hid (below_then Hb9.out hb10)
    clear hb10 Hb9
    go_wp2_with fail
    go_ret
    exact ⟨rfl, Hb10.out⟩
end Go.Proofs.YtildnpnpakhnjaaDoor
