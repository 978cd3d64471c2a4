/- PduTurned: bits that are turned within thirty-two are seen. -/
import Derived.Test.YtoddgekeopejgaaGreatDoorPduBack
import Derived.Test.YtoddgekeopejgaaGreatDoorTurned
namespace Go.Proofs.YtoddgekeopejgaaGreatDoor
open Go.RowKit
set_option linter.unusedVariables false
set_option maxRecDepth 100000 in
theorem pduTurned_any (p : Pd) (vv va : Value) (a x : Int) (w : World) (hp : PduAt w p vv va) (hf : FitP p) (_ha : (Lit.int .i64 a).wf = true) (hx : (Lit.int .u32 x).wf = true) (hg : ErrCell w) (hm : MaxCell w) :
    Calls Tryz.prog 8 #[pduV p vv va, .int .i64 a, .int .u32 x] w fun e w' => e = .returned (.bool true) ∧ Below w.heap.size w w' := by
  obtain ⟨v, rfl, hv⟩ := wf_u32 hx
  have hb0 := (Below.refl w.heap.size w).alloc (Nat.le_refl _) (.cells (cells6 p vv va) 27)
  have hk := Blk.new w (cells6 p vv va) 27
  have M := Lib.hid (wrapped_any _ (hm.later hb0) (hg.later hb0))
  have L := fun W (h : PduAt W p vv va) => Lib.hid (large_any p vv va W h hf)
  have Rt := fun W (h : PduAt W p vv va) hc hg => Lib.hid (rightP_any p vv va W h hf hc hg)
  have HP := Lib.hid (hp.later hb0)
  have Hb0 := Lib.hid hb0
  have HK := Lib.hid hk
  have Hg := Lib.hid hg
  have Hm := Lib.hid hm
  by_cases hr : rightP p = 0
  · have Wr := fun W (h : PduAt W p vv va) hc hg => Lib.hid (writeP_any p vv va 3 W (by unfold I64; decide) h hf hc hg)
    have RP := rightP_is hr
    have hW : writeP p 3 = (bytesP p 3, 0) := by unfold writeP; rw [if_neg (by decide), if_neg (by simp [hr])]; rfl
    have hge := bytesP_ge RP 3
    have hd := RP.d
    have hlt := pickI_lt a (8 * (bytesP p 3).length) (by omega)
    have K2 := fun W => Lib.hid (pick_any a (8 * (bytesP p 3).length) W (by omega) (by omega))
    have Tn := fun W => Lib.hid (turned_any (bytesP p 3) (pickI a (8 * (bytesP p 3).length)) v W (by omega) (by omega) hv)
    have hseen := fun hc => turned_seen hr (first := pickI a (8 * (bytesP p 3).length)) hv hc
    have hself : readP (bytesP p 3) 3 = (p, (bytesP p 3).length, 0) := by
      have := readP_bytes hr (m := 3) (by decide) []
      rw [List.append_nil] at this
      exact this
    have hul := tn_len (bytesP p 3) (pickI a (8 * (bytesP p 3).length)) v 32
    rw [hW] at Wr
    rw [hr] at Rt
    simp only [Int.natCast_mul] at K2
    generalize bytesP p 3 = s at *
    generalize pickI a (8 * s.length) = k at *
    generalize tn s k v 32 = u at *
    have Rd := fun W hc hg => Lib.hid (readP_any u 3 W (by unfold I64; decide) (by omega) hc hg)
    have hemp : s.isEmpty = false := by cases s with | nil => simp at hge | cons => rfl
    have i1 : (8 : Int) ≤ (s.length : Int) := by omega
    have i2 : (s.length : Int) ≤ 200000 := by omega
    have hmul : (8 : Int) * (s.length : Int) = ((8 : Nat) : Int) * (s.length : Int) := rfl
    obtain ⟨r, hrd⟩ : ∃ r, readP u 3 = r := ⟨_, rfl⟩
    obtain ⟨⟨⟨op', now', fl', vs'⟩, al', d'⟩, n', er⟩ := r
    rw [hrd] at Rd hseen
    have hiff : (cutB u 4 4 = cutB s 4 4) → (er = 0 ∧ u = s) ∨ (er ≠ 0 ∧ u ≠ s) := fun hc => by
      by_cases h0 : er = 0
      · exact .inl ⟨h0, hseen hc h0⟩
      · refine .inr ⟨h0, fun e => h0 ?_⟩
        have := congrArg (fun x => x.2.2) hrd
        rw [e, hself] at this
        exact this.symm
    unfold cutB at hiff
    have Hiff := Lib.hid hiff
    have Hul := Lib.hid hul
    obtain ⟨⟨op, now, fl, vs⟩, al, d⟩ := p
    obtain ⟨pv, cv, rfl⟩ : ∃ p c, vv = .slice p vs.length c := by obtain ⟨p, c, h, _⟩ := hp.v; exact ⟨p, c, h⟩
    obtain ⟨pa, ca, rfl⟩ := hp.a.form
    unfold cells6 at HK Hb0 M HP
    unfold pduV at L Rt Wr ⊢
    simp only at HK Hb0 M HP L Rt Wr ⊢
    clear hb0 hk hW RP hr hp hf hg hm hge hd hv hx hlt hmul hrd hseen hself hiff
    by_cases hc : (u.drop 4).take 4 = (s.drop 4).take 4
    · have hcb : ((u.drop 4).take 4 == (s.drop 4).take 4) = true := by simp [hc]
      have Hc4 := Lib.hid hc
      clear hc
      go_enter Tryz.func8, Tryz.ntmps8
      go_wp2_with fail
      refine M.out.mono ?_
      rintro e w1 ⟨rfl, hb1⟩
      have HK1 := Lib.hid (HK.out.later hb1)
      have HP1 := Lib.hid (HP.out.later hb1)
      have Hb1 := Lib.hid (below_then Hb0.out hb1)
      clear hb1 HK HP Hb0 M
      obtain ⟨q0, q1, q2, q3, q4, q5⟩ := HK1.out.six
      go_wp2_with fail
      refine (L _ HP1.out).out.mono ?_
      rintro e w2 ⟨bb, rfl, hlg, hb2⟩
      have HK2 := Lib.hid (HK1.out.later hb2)
      have HP2 := Lib.hid (HP1.out.later hb2)
      have Hb2 := Lib.hid (below_then Hb1.out hb2)
      clear q0 q1 q2 q3 q4 q5 hb2 HK1 HP1 Hb1 L
      obtain ⟨q0, q1, q2, q3, q4, q5⟩ := HK2.out.six
      cases bb with
      | true =>
        go_wp2_with fail
        go_ret
        exact ⟨rfl, Hb2.out⟩
      | false =>
        go_wp2_with fail
        refine (Rt _ HP2.out (Hm.out.later Hb2.out) (Hg.out.later Hb2.out)).out.mono ?_
        rintro e w3 ⟨ev, rfl, he, hb3⟩
        have HK3 := Lib.hid (HK2.out.later hb3)
        have HP3 := Lib.hid (HP2.out.later hb3)
        have Hb3 := Lib.hid (below_then Hb2.out hb3)
        clear q0 q1 q2 q3 q4 q5 hb3 HK2 HP2 Hb2 Rt
        obtain rfl := he.zero
        obtain ⟨q0, q1, q2, q3, q4, q5⟩ := HK3.out.six
        go_wp2_with fail
        refine (Wr _ HP3.out (Hm.out.later Hb3.out) (Hg.out.later Hb3.out)).out.mono ?_
        rintro e w4 ⟨ev, rfl, he4, hb4⟩
        obtain rfl := he4.zero
        have Hb4 := Lib.hid (below_then Hb3.out hb4)
        clear q0 q1 q2 q3 q4 q5 he4 hb4 HK3 HP3 Hb3
        go_wp2_with fail
        refine (K2 _).out.mono ?_
        rintro e w5 ⟨rfl, rfl⟩
        go_wp2_with fail
        refine (Tn _).out.mono ?_
        rintro e w5 ⟨rfl, hb5⟩
        have hul := Hul.out
        have Hb5 := Lib.hid (below_then Hb4.out hb5)
        clear hb5 Hb4 Tn K2
        go_wp2_with fail
        go_region
        all_goals
          go_wp2_with fail
          refine (Rd _ (Hm.out.later (below_drewN Hb5.out _)) (Hg.out.later (below_drewN Hb5.out _))).out.mono ?_
          rintro e w6 ⟨vv', va', ev, rfl, hP6, hE6, hb6⟩
          obtain ⟨pv', cv', rfl⟩ : ∃ p c, vv' = .slice p vs'.length c := by obtain ⟨p, c, h, _⟩ := hP6.v; exact ⟨p, c, h⟩
          obtain ⟨pa', ca', rfl⟩ := hP6.a.form
          have hbn := (Below.refl w6.heap.size w6).alloc (Nat.le_refl _) (.cells #[.int .i64 op', .bool now', .int .i64 fl', .slice pv' vs'.length cv', .slice pa' al'.length ca', .string (S d')] 27)
          have Hb6 := Lib.hid (below_then (below_drewN Hb5.out _) (below_then hb6 hbn))
          clear hP6 hb6 hbn Rd
          unfold pduV
          simp only
          rcases Hiff.out Hc4.out with ⟨h0, h1⟩ | ⟨h0, h1⟩
          · subst h0 h1
            obtain rfl := hE6.zero
            go_wp2_with fail
            go_ret
            exact ⟨by go_simp, Hb6.out⟩
          · obtain rfl := hE6.iface h0
            have hb : (s == u) = false := by simp [Ne.symm h1]
            clear h0 h1 hE6
            go_wp2_with fail
            go_ret
            exact ⟨by go_simp, Hb6.out⟩
    · have hcb : ((u.drop 4).take 4 == (s.drop 4).take 4) = false := by simp [hc]
      clear hc Rd Hiff
      go_enter Tryz.func8, Tryz.ntmps8
      go_wp2_with fail
      refine M.out.mono ?_
      rintro e w1 ⟨rfl, hb1⟩
      have HK1 := Lib.hid (HK.out.later hb1)
      have HP1 := Lib.hid (HP.out.later hb1)
      have Hb1 := Lib.hid (below_then Hb0.out hb1)
      clear hb1 HK HP Hb0 M
      obtain ⟨q0, q1, q2, q3, q4, q5⟩ := HK1.out.six
      go_wp2_with fail
      refine (L _ HP1.out).out.mono ?_
      rintro e w2 ⟨bb, rfl, hlg, hb2⟩
      have HK2 := Lib.hid (HK1.out.later hb2)
      have HP2 := Lib.hid (HP1.out.later hb2)
      have Hb2 := Lib.hid (below_then Hb1.out hb2)
      clear q0 q1 q2 q3 q4 q5 hb2 HK1 HP1 Hb1 L
      obtain ⟨q0, q1, q2, q3, q4, q5⟩ := HK2.out.six
      cases bb with
      | true =>
        go_wp2_with fail
        go_ret
        exact ⟨rfl, Hb2.out⟩
      | false =>
        go_wp2_with fail
        refine (Rt _ HP2.out (Hm.out.later Hb2.out) (Hg.out.later Hb2.out)).out.mono ?_
        rintro e w3 ⟨ev, rfl, he, hb3⟩
        have HK3 := Lib.hid (HK2.out.later hb3)
        have HP3 := Lib.hid (HP2.out.later hb3)
        have Hb3 := Lib.hid (below_then Hb2.out hb3)
        clear q0 q1 q2 q3 q4 q5 hb3 HK2 HP2 Hb2 Rt
        obtain rfl := he.zero
        obtain ⟨q0, q1, q2, q3, q4, q5⟩ := HK3.out.six
        go_wp2_with fail
        refine (Wr _ HP3.out (Hm.out.later Hb3.out) (Hg.out.later Hb3.out)).out.mono ?_
        rintro e w4 ⟨ev, rfl, he4, hb4⟩
        obtain rfl := he4.zero
        have Hb4 := Lib.hid (below_then Hb3.out hb4)
        clear q0 q1 q2 q3 q4 q5 he4 hb4 HK3 HP3 Hb3
        go_wp2_with fail
        refine (K2 _).out.mono ?_
        rintro e w5 ⟨rfl, rfl⟩
        go_wp2_with fail
        refine (Tn _).out.mono ?_
        rintro e w5 ⟨rfl, hb5⟩
        have hul := Hul.out
        have Hb5 := Lib.hid (below_then Hb4.out hb5)
        clear hb5 Hb4 Tn K2
        go_wp2_with fail
        go_region
        all_goals
          go_wp2_with fail
          go_ret
          exact ⟨rfl, Hb5.out.drew⟩
  · have Hr := Lib.hid hr
    obtain ⟨⟨op, now, fl, vs⟩, al, d⟩ := p
    obtain ⟨pv, cv, rfl⟩ : ∃ p c, vv = .slice p vs.length c := by obtain ⟨p, c, h, _⟩ := hp.v; exact ⟨p, c, h⟩
    obtain ⟨pa, ca, rfl⟩ := hp.a.form
    unfold cells6 at HK Hb0 M HP
    unfold pduV at L Rt ⊢
    simp only at HK Hb0 M HP L Rt ⊢
    clear hb0 hk hr hp hf hg hm
    go_enter Tryz.func8, Tryz.ntmps8
    go_wp2_with fail
    refine M.out.mono ?_
    rintro e w1 ⟨rfl, hb1⟩
    have HK1 := Lib.hid (HK.out.later hb1)
    have HP1 := Lib.hid (HP.out.later hb1)
    have Hb1 := Lib.hid (below_then Hb0.out hb1)
    clear hb1 HK HP Hb0 M
    obtain ⟨q0, q1, q2, q3, q4, q5⟩ := HK1.out.six
    go_wp2_with fail
    refine (L _ HP1.out).out.mono ?_
    rintro e w2 ⟨bb, rfl, hlg, hb2⟩
    have HK2 := Lib.hid (HK1.out.later hb2)
    have HP2 := Lib.hid (HP1.out.later hb2)
    have Hb2 := Lib.hid (below_then Hb1.out hb2)
    clear q0 q1 q2 q3 q4 q5 hb2 HK1 HP1 Hb1 L
    obtain ⟨q0, q1, q2, q3, q4, q5⟩ := HK2.out.six
    cases bb with
    | true =>
      go_wp2_with fail
      go_ret
      exact ⟨rfl, Hb2.out⟩
    | false =>
      go_wp2_with fail
      refine (Rt _ HP2.out (Hm.out.later Hb2.out) (Hg.out.later Hb2.out)).out.mono ?_
      rintro e w3 ⟨ev, rfl, he, hb3⟩
      have HK3 := Lib.hid (HK2.out.later hb3)
      have HP3 := Lib.hid (HP2.out.later hb3)
      have Hb3 := Lib.hid (below_then Hb2.out hb3)
      clear q0 q1 q2 q3 q4 q5 hb3 HK2 HP2 Hb2 Rt
      obtain ⟨t, x, rfl⟩ := he.iface Hr.out
      go_wp2_with fail
      go_ret
      exact ⟨rfl, Hb3.out⟩
end Go.Proofs.YtoddgekeopejgaaGreatDoor
