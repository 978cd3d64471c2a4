/- KeysReads: the number, and the list, that any value is, is the document's. -/
import Derived.Test.YtikcgnalcchlpaaGreatDoorRNumeral
import Derived.Test.YtikcgnalcchlpaaGreatDoorRList
import Derived.Test.YtikcgnalcchlpaaGreatDoorBare
import Derived.Test.YtikcgnalcchlpaaGreatDoorEqS
namespace Go.Proofs.YtikcgnalcchlpaaGreatDoor
open Go.RowKit
set_option linter.unusedVariables false
set_option maxRecDepth 100000 in
set_option maxHeartbeats 1000000 in
theorem keysReads_any (s : List UInt8) (lo hi : Int) (w : World) (h1 : s.length ≤ 140737488351232) (wf1 : (Lit.int .i64 lo).wf = true) (wf2 : (Lit.int .i64 hi).wf = true) (hE : Env w) (hg : ErrCell w) :
    Calls Tryz.prog 3 #[.string (S s), .int .i64 lo, .int .i64 hi] w fun e w' => e = .returned (.bool true) ∧ Below w.heap.size w w' := by
  by_cases hbig : 300 < s.length
  · have hbig' : (300 : Int) < (s.length : Int) := by omega
    clear hE hg
    go_enter Tryz.func3, Tryz.ntmps3
    go_wp2_with fail
    go_ret
    exact ⟨rfl, Below.refl _ _⟩
  have hbig' : (s.length : Int) ≤ 300 := by omega
  have N1 := Lib.hid (refNumeral_any s lo hi w (by omega))
  have N2 := Lib.hid (fun W (h : Below w.heap.size w W) => numeral_any s lo hi W (by omega) (hE.later h))
  have L1 := Lib.hid (fun W (h : Below w.heap.size w W) => refList_any s W (by omega) (hE.later h).mc)
  have L2 := Lib.hid (fun W (h : Below w.heap.size w W) => list_any s W (by omega) (hE.later h).mc)
  have BA := Lib.hid (fun (n : Int) W (h : Below w.heap.size w W) => bare_any n W (hg.later h))
  have hlen : ((listR s).getD []).length ≤ 140737488355328 := by
    have := (split1_sum 44 s.length s (Nat.le_refl _)).2
    unfold listR
    split
    · simp only [Option.getD_some]; omega
    · simp
  obtain ⟨r, hr⟩ : ∃ r, listR s = r := ⟨_, rfl⟩
  rw [hr] at L1 L2 hlen
  have EQ := Lib.hid (fun (v v' : Value) W (h1 : StrV W v (r.getD [])) (h2 : StrV W v' (r.getD [])) => equalS_same (r.getD []) v v' W hlen h1 h2)
  obtain ⟨⟨a, b⟩, hab⟩ : ∃ q, numE s lo hi = q := ⟨_, rfl⟩
  unfold RetNI at N2
  rw [hab] at N1 N2
  simp only at N1 N2
  clear hE hg hbig hr hab hlen
  obtain ⟨k, hk⟩ : ∃ k, listN r = k := ⟨_, rfl⟩
  have hk2 : listI r = k := hk
  unfold RetRL at L1
  unfold RetLE1 at L2
  rw [hk2] at L1
  rw [hk] at L2
  clear hk hk2
  have e1 : (a == a) = true := by simp
  go_enter Tryz.func3, Tryz.ntmps3
  go_wp2_with fail
  refine N1.out.mono ?_
  rintro e w1 ⟨rfl, hb1⟩
  have Hb1 := Lib.hid hb1
  clear hb1
  go_wp2_with fail
  refine (N2.out w1 Hb1.out).mono ?_
  rintro e w2 ⟨rfl, hb2⟩
  have Hb2 := Lib.hid (below_then Hb1.out hb2)
  clear hb2
  go_wp2_with fail
  refine (L1.out w2 Hb2.out).mono ?_
  rintro e w3 ⟨v1, rfl, hv1, hb3⟩
  have Hb3 := Lib.hid (below_then Hb2.out hb3)
  have V1 := Lib.hid hv1
  obtain ⟨p1, c1, rfl⟩ := hv1.form
  clear hb3 hv1
  go_wp2_with fail
  refine (L2.out w3 Hb3.out).mono ?_
  rintro e w4 ⟨v2, rfl, hv2, hb4⟩
  have Hb4 := Lib.hid (below_then Hb3.out hb4)
  have V1b := Lib.hid (V1.out.later hb4)
  have V2 := Lib.hid hv2.strs
  obtain ⟨p2, c2, rfl⟩ := hv2.form
  have B1 := Lib.hid (BA.out b w4 Hb4.out)
  clear hb4 hv2 V1
  obtain ⟨eb, heb⟩ : ∃ eb, errV b = eb := ⟨_, rfl⟩
  obtain ⟨ek, hek⟩ : ∃ ek, errV k = ek := ⟨_, rfl⟩
  have BK := Lib.hid (fun W (h : Below w.heap.size w W) => BA.out k W h)
  rw [heb] at B1 ⊢
  rw [hek] at BK ⊢
  clear heb hek
  go_wp2_with fail
  refine B1.out.mono ?_
  rintro e w5 ⟨rfl, hb5⟩
  have Hb5 := Lib.hid (below_then Hb4.out hb5)
  have V1c := Lib.hid (V1b.out.later hb5)
  have V2c := Lib.hid (V2.out.later hb5)
  have B2 := Lib.hid (BK.out w5 Hb5.out)
  clear hb5 V1b V2
  go_wp2_with fail
  refine B2.out.mono ?_
  rintro e w6 ⟨rfl, hb6⟩
  have Hb6 := Lib.hid (below_then Hb5.out hb6)
  have E6 := Lib.hid (EQ.out _ _ w6 (V1c.out.later hb6) (V2c.out.later hb6))
  clear hb6 V1c V2c
  go_wp2_with fail
  refine E6.out.mono ?_
  rintro e w7 ⟨rfl, hb7⟩
  have Hb7 := Lib.hid (below_then Hb6.out hb7)
  clear hb7
  go_wp2_with fail
  go_ret
  exact ⟨rfl, Hb7.out⟩
end Go.Proofs.YtikcgnalcchlpaaGreatDoor
