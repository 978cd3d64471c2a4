/- NegoTwice: what was recorded in a login can't be offered again in it, and then nothing changes. -/
import Derived.Test.YteapbjeapnmloaaGreatDoorGJ
import Derived.Test.YteapbjeapnmloaaGreatDoorOpenPrs
import Derived.Test.YteapbjeapnmloaaGreatDoorPick
namespace Go.Proofs.YteapbjeapnmloaaGreatDoor
open Go.RowKit
set_option linter.unusedVariables false
set_option maxRecDepth 100000 in
set_option maxHeartbeats 2000000 in
theorem negoTwice_any (l : List Pr) (v : Value) (m : List Pr) (u : Value) (which : Int) (w : World) (hv : PrsV w v l) (hf : WideP l) (hu : PrsV w u m) (hfu : WideP m) (hw : (Lit.int .i64 which).wf = true) (hE : Env w) (hg : ErrCell w) :
    Calls Tryz.prog 4 #[v, u, .int .i64 which] w fun e w' => e = .returned (.bool true) ∧ Below w.heap.size w w' := by
  have HV := Lib.hid hv
  have HU := Lib.hid hu
  have HF := Lib.hid hf.1
  have HFU := Lib.hid hfu.1
  have HE := Lib.hid hE
  have Hg := Lib.hid hg
  obtain ⟨p, c, rfl⟩ := hv.form
  obtain ⟨pu, cu, rfl⟩ := hu.form
  have F := Lib.hid (settled_any w hE hg)
  clear hv hu hE hg
  go_enter Tryz.func4, Tryz.ntmps4
  go_wp2_with fail
  refine F.out.mono ?_
  rintro e w0 ⟨rfl, hb0⟩
  have Hb0 := Lib.hid hb0
  clear hb0 F
  have M := Lib.hid (made_any (w := w0) l _ Hb0.out HV.out HF.out HE.out Hg.out)
  go_wp2_with fail
  refine M.out.mono ?_
  rintro e w1 hM
  clear M
  rcases hM with ⟨rfl, hb1⟩ | ⟨nb, mv, rfl, hS1, hbf1, hge1, hb1⟩
  · have Hb1 := Lib.hid (below_then Hb0.out hb1)
    clear hb1
    go_wp2_with fail
    go_ret
    exact ⟨rfl, Hb1.out⟩
  have HS1 := Lib.hid hS1
  clear hS1 hbf1 hge1 hb1
  have T := Lib.hid (thickK_any m _ w1 (HU.out.later HS1.out.low) HFU.out.1)
  go_wp2_with fail
  refine T.out.mono ?_
  rintro e w2 ⟨b, rfl, hb2⟩
  have HS2 := Lib.hid (HS1.out.later hb2)
  clear hb2 T HS1
  rcases b_cases b with rfl | rfl
  · go_wp2_with fail
    go_ret
    exact ⟨rfl, HS2.out.low⟩
  obtain ⟨⟨⟨s, n, q⟩, r⟩, hr⟩ : ∃ x, ansN l [] m true false = x := ⟨_, rfl⟩
  have A := Lib.hid (ans_ns hr HS2.out (HS2.out.args HU.out) HFU.out HE.out)
  clear hr
  go_wp2_with fail
  refine A.out.mono ?_
  rintro e w3 ⟨v3, ev3, H3, rfl, hb3, he3, hS3, hk3⟩
  have HS3 := Lib.hid hS3
  by_cases hn : n = 0
  case neg =>
    obtain ⟨te, xe, rfl⟩ := he3.iface hn
    clear hb3 he3 hS3 hk3 A HS2
    go_wp2_with fail
    go_ret
    exact ⟨rfl, HS3.out.low⟩
  subst hn
  obtain rfl := he3.zero
  have R := Lib.hid (rec_ns hS3)
  clear hb3 he3 hS3 hk3 A HS2
  go_wp2_with fail
  refine R.out.mono ?_
  rintro e w4 ⟨v4, rfl, hb4, hlow4⟩
  obtain ⟨p4, c4, rfl⟩ := hb4.form
  have HS4 := Lib.hid (HS3.out.later hlow4)
  have HB4 := Lib.hid (clone_off HS3.out hb4)
  clear R hlow4 HS3
  by_cases h0 : r.length = 0
  · have e0 : ((r.length : Int) == 0) = true := by simp [h0]
    have h0' : (r.length : Int) = 0 := by omega
    clear hb4
    go_wp2_with fail
    go_ret
    exact ⟨rfl, HS4.out.low⟩
  have e0 : ((r.length : Int) == 0) = false := by rw [beq_eq_false_iff_ne]; omega
  have hr18 := HS4.out.rok.few
  have PK := Lib.hid (pick_any which r.length w4 (by omega) (by omega))
  have hil := pickI_lt which r.length (by omega)
  obtain ⟨i, hi⟩ : ∃ i, pickI which r.length = i := ⟨_, rfl⟩
  rw [hi] at PK hil
  obtain ⟨b, o, rfl, q0, q1⟩ := hb4.prs.cell hil
  have hmem := List.getElem_mem hil
  obtain ⟨_, _, _, hwr, _⟩ := HS4.out.rok.each r[i] hmem
  obtain ⟨⟨k, d⟩, hx⟩ : ∃ x, r[i] = x := ⟨_, rfl⟩
  rw [hx] at q0 q1 hmem hwr
  simp only at q0 q1
  obtain ⟨w5, hw5⟩ : ∃ w5, w4.alloc (.cells #[.string (S k), .string (S d)] 35) = w5 := ⟨_, rfl⟩
  have hb5 : Below w4.heap.size w4 w5 := by rw [← hw5]; exact (Below.refl _ _).alloc (Nat.le_refl _) _
  have hlit := lit_one HS4.out ⟨k, d⟩
  simp only at hlit
  rw [hw5] at hlit
  have A := Lib.hid (ans_ns (ans_again (mine := l) (dc := false) HS4.out.rok hmem) (HS4.out.later hb5) hlit (fit_one hwr) HE.out)
  have HB5 := Lib.hid (HB4.out.bl hb5)
  have hi0 : (0 : Int) ≤ (i : Int) := by omega
  have hiI : (i : Int) < (r.length : Int) := by omega
  clear hb4 hi hx hmem hwr hlit hb5 HB4 HS4
  go_wp2_with fail
  refine PK.out.mono ?_
  rintro e w' ⟨rfl, rfl⟩
  go_wp2_with fail
  refine A.out.mono ?_
  rintro e w6 ⟨v6, ev6, H6, rfl, hb6, he6, hS6, hk6⟩
  obtain ⟨p6, c6, rfl⟩ := hb6.form
  have HS6 := Lib.hid hS6
  have HB6 := Lib.hid (HB5.out.kp hk6)
  have T := Lib.hid (tell_is he6.off (hS6.err Hg.out))
  clear hb6 he6 hS6 hk6 A PK HB5 q0 q1
  simp only [List.length_nil]
  go_wp2_with fail
  refine T.out.mono ?_
  rintro e w7 ⟨rfl, hb7⟩
  have HS7 := Lib.hid (HS6.out.later hb7)
  have HB7 := Lib.hid (HB6.out.bl hb7)
  have R := Lib.hid (rec_ns HS7.out)
  clear hb7 T HS6 HB6
  go_wp2_with fail
  refine R.out.mono ?_
  rintro e w8 ⟨v8, rfl, hb8, hlow8⟩
  obtain ⟨p8, c8, rfl⟩ := hb8.form
  have HS8 := Lib.hid (HS7.out.later hlow8)
  have E := Lib.hid (equalP_same r _ _ w8 (by omega) (HB7.out.bl hlow8).prs.off hb8.prs)
  clear hb8 hlow8 R HS7 HB7
  go_wp2_with fail
  refine E.out.mono ?_
  rintro e w9 ⟨rfl, hb9⟩
  have Hb9 := Lib.hid (HS8.out.later hb9).low
  clear hb9 E
  go_wp2_with fail
  go_ret
  exact ⟨rfl, Hb9.out⟩
end Go.Proofs.YteapbjeapnmloaaGreatDoor
