/- NegoFresh: before anything was offered each key is what it is where nobody says so. -/
import Derived.Test.YteapbjeapnmloaaGreatDoorGJ
import Derived.Test.YteapbjeapnmloaaGreatDoorNames18
import Derived.Test.YteapbjeapnmloaaGreatDoorOpenPrs
import Derived.Test.YteapbjeapnmloaaGreatDoorPick
namespace Go.Proofs.YteapbjeapnmloaaGreatDoor
open Go.RowKit
set_option linter.unusedVariables false
set_option maxRecDepth 100000 in
set_option maxHeartbeats 2000000 in
theorem negoFresh_any (l : List Pr) (v : Value) (which : Int) (w : World) (hv : PrsV w v l) (hf : WideP l) (hw : (Lit.int .i64 which).wf = true) (hE : Env w) (hg : ErrCell w) :
    Calls Tryz.prog 13 #[v, .int .i64 which] w fun e w' => e = .returned (.bool true) ∧ Below w.heap.size w w' := by
  have HV := Lib.hid hv
  have HF := Lib.hid hf.1
  have HE := Lib.hid hE
  have Hg := Lib.hid hg
  obtain ⟨p, c, rfl⟩ := hv.form
  have F := Lib.hid (settled_any w hE hg)
  have PK := Lib.hid (fun W => pick_any which 18 W (by decide) (by decide))
  have hil := pickI_lt which 18 (by decide)
  obtain ⟨i, hi⟩ : ∃ i, pickI which 18 = i := ⟨_, rfl⟩
  rw [hi] at PK hil
  obtain ⟨ke, hrow⟩ := name_row hil
  have hst := row_strange _ (name_mem hil)
  obtain ⟨kk, hkk⟩ : ∃ kk, nameAt i = kk := ⟨_, rfl⟩
  rw [hkk] at hrow hst
  have hok := rowOf_ok hrow
  rw [(rowOf_isKey hrow).2] at hok
  have hkl : kk.length ≤ 63 := hok.2.2.2.2.1
  obtain ⟨kn, kd, lo, hi2, df, no, lg⟩ := ke
  have hvn := valN_nil hrow
  simp only at hvn
  have Hvn := Lib.hid hvn
  have Hvs := Lib.hid (valN_no (rec := []) hst)
  have OF := Lib.hid (fun W => of_row (s := kk) W hrow)
  have Hkk := Lib.hid hkk
  have i0 : (0 : Int) ≤ (i : Int) := by omega
  have i18 : (i : Int) < 18 := by omega
  have hcat : ¬ 9223372036854775807 < 2 + kk.length := by omega
  have hcat2 : ¬ (9223372036854775807 : Int) < 2 + (kk.length : Int) := by omega
  clear hv hE hg hi hrow hkk hvn hst hok
  go_enter Tryz.func13, Tryz.ntmps13
  go_wp2_with fail
  refine F.out.mono ?_
  rintro e w0 ⟨rfl, hb0⟩
  have Hb0 := Lib.hid hb0
  clear hb0 F
  have KY := Lib.hid (keyed_any w0 (HE.out.later Hb0.out) (Hg.out.later Hb0.out))
  go_wp2_with fail
  refine KY.out.mono ?_
  rintro e w0k ⟨rfl, hbk⟩
  have Hb0 := Lib.hid (below_then Hb0.out hbk)
  clear hbk KY
  have M := Lib.hid (made_any (w := w0k) l _ Hb0.out HV.out HF.out HE.out Hg.out)
  go_wp2_with fail
  refine M.out.mono ?_
  rintro e w1 hM
  clear M
  rcases hM with ⟨rfl, hb1⟩ | ⟨nb, mv, rfl, hS1, hbf1, hge1, hb1⟩
  · have Hb1 := Lib.hid (below_then Hb0.out hb1)
    clear hb1
    have NM := Lib.hid (names18_any w1)
    go_wp2_with fail
    refine NM.out.mono ?_
    rintro e wn ⟨bn, on, cn, rfl, hnm, hbn⟩
    have Hb2 := Lib.hid (below_then Hb1.out hbn)
    clear hnm hbn NM
    go_wp2_with fail
    go_ret
    exact ⟨rfl, Hb2.out⟩
  have HS1 := Lib.hid hS1
  clear hS1 hbf1 hge1 hb1
  have NM := Lib.hid (names18_any w1)
  go_wp2_with fail
  refine NM.out.mono ?_
  rintro e w1n ⟨bn, on, cn, rfl, hnm, hbn⟩
  have HSn := Lib.hid (HS1.out.later hbn)
  have HNM := Lib.hid hnm
  clear hnm hbn NM HS1
  have q0 := HNM.out i hil
  rw [Hkk.out] at q0
  have OF1 := Lib.hid (OF.out w1n)
  go_wp2_with fail
  refine (PK.out _).mono ?_
  rintro e w' ⟨rfl, rfl⟩
  go_wp2_with fail
  refine OF1.out.mono ?_
  rintro e w6 ⟨rfl, hb6⟩
  obtain ⟨w7, hw7⟩ : ∃ w7, w6.alloc (.cells #[.string (S kn), .int .i64 (kd : Int), .int .i64 (lo : Int), .int .i64 (hi2 : Int), .string (S df), .bool no, .bool lg] 48) = w7 := ⟨_, rfl⟩
  have hb7 : Below w6.heap.size w6 w7 := by rw [← hw7]; exact (Below.refl _ _).alloc (Nat.le_refl _) _
  have bK : Blk w7 w6.heap.size #[.string (S kn), .int .i64 (kd : Int), .int .i64 (lo : Int), .int .i64 (hi2 : Int), .string (S df), .bool no, .bool lg] 48 := by rw [← hw7]; exact Blk.new w6 _ _
  obtain ⟨kb, hkb⟩ : ∃ kb, w6.heap.size = kb := ⟨_, rfl⟩
  rw [hkb] at bK
  have HS7 := Lib.hid ((HSn.out.later hb6).later hb7)
  have HK7 := Lib.hid bK
  have V1 := Lib.hid (val_at (ev := .nilIface) Hvn.out rfl HS7.out)
  clear hb6 hb7 bK OF OF1 HSn HNM q0
  go_wp2_with fail
  refine V1.out.mono ?_
  rintro e w8 ⟨rfl, hb8⟩
  have HS8 := Lib.hid (HS7.out.later hb8)
  have HK8 := Lib.hid (HK7.out.later hb8)
  have V2 := Lib.hid (val_at (ev := .iface 38 (.int .i64 5)) Hvs.out rfl HS8.out)
  clear hb8 V1 HS7 HK7
  go_wp2_with fail
  refine V2.out.mono ?_
  rintro e w9 ⟨rfl, hb9⟩
  have HS9 := Lib.hid (HS8.out.later hb9)
  obtain ⟨d0, d1, d2, d3, d4, d5, d6⟩ := (HK8.out.later hb9).seven
  have T := Lib.hid (tell_err 5 w9 (HS9.out.err Hg.out))
  have e1 : (df == df) = true := by simp
  clear hb9 V2 HS8 HK8
  go_wp2_with fail
  refine T.out.mono ?_
  rintro e w10 ⟨rfl, hb10⟩
  have HS10 := Lib.hid (HS9.out.later hb10)
  have R := Lib.hid (rec_ns HS10.out)
  clear hb10 T HS9
  go_wp2_with fail
  refine R.out.mono ?_
  rintro e w11 ⟨v11, rfl, hbuf, hb11⟩
  obtain ⟨p11, c11, rfl⟩ := hbuf.form
  have HS11 := Lib.hid (HS10.out.later hb11)
  have D := dig_ns HS11.out
  rw [digN_nil] at D
  have D := Lib.hid D
  clear hb11 hbuf R HS10
  simp only [List.length_nil]
  go_wp2_with fail
  refine D.out.mono ?_
  rintro e w12 ⟨rfl, hb12⟩
  have Hb12 := Lib.hid (HS11.out.later hb12).low
  clear hb12 D
  go_wp2_with fail
  go_ret
  exact ⟨rfl, Hb12.out⟩
end Go.Proofs.YteapbjeapnmloaaGreatDoor
