/- AhsOnly: what is read is right, and is written so. -/
import Derived.Test.YtceinedicbdngaaDoorMore
namespace Go.Proofs.YtceinedicbdngaaDoor
open Go.RowKit
theorem len_le_wrL : ∀ l : List Ah, l.length ≤ (wrL l).length
  | [] => Nat.le_refl _
  | a :: l => by
    have := len_le_wrL l
    have := sizeA_pos a
    rw [wrL_cons, List.length_append, wrA_len, List.length_cons]; omega
theorem fitA_of {l : List Ah} (h : (wrL l).length ≤ 1020) : fitA l :=
  ⟨by have := len_le_wrL l; omega, fun a ha => by have := data_lt h a ha; omega⟩
set_option maxRecDepth 100000 in
theorem ahsOnly_any (s : List UInt8) (w : World) (hl : s.length ≤ 140737488351232) (hg : ErrCell w) :
    Calls Tryd.prog 6 #[.string (S s)] w fun e w' => e = .returned (.bool true) ∧ Below w.heap.size w w' := by
  have M := Lib.hid (more_fact w hg)
  have Hg := Lib.hid hg
  clear hg
  by_cases hbig : 1100 < s.length
  · go_enter Tryd.func6, Tryd.ntmps6
    go_wp2_with fail
    refine M.out.mono ?_
    rintro e w1 ⟨rfl, hb1⟩
    have Hb1 := Lib.hid hb1
    clear hb1
    go_wp2_with fail
    go_ret
    exact ⟨rfl, Hb1.out⟩
  · have R := fun w hg => Lib.hid (read_ahs s w hg (by omega))
    by_cases h0 : (readA s).2.1 = 0
    · obtain ⟨l, hr, hk, hws, hsz⟩ := write_read h0
      have Wr := fun v w hv => Lib.hid (write_ahs l v w hv (fitA_of hsz))
      have Rt := fun v w hv => Lib.hid (right_ahs l v w hv (fitA_of hsz))
      rw [writeA_ok hk hsz, hws] at Wr
      rw [rightA_ok hk hsz] at Rt
      rw [hr] at R
      clear h0 hr hk hws hsz
      go_enter Tryd.func6, Tryd.ntmps6
      go_wp2_with fail
      refine M.out.mono ?_
      rintro e w1 ⟨rfl, hb1⟩
      have R1 := R _ (Hg.out.later hb1)
      have Hb1 := Lib.hid hb1
      clear hb1 R M
      go_wp2_with fail
      refine R1.out.mono ?_
      rintro e w2 ⟨v, ev, rfl, hv, he, hb2⟩
      obtain rfl := he.zero
      have Wr2 := Wr v w2 hv
      have HV := Lib.hid hv
      have Hb2 := Lib.hid (below_then Hb1.out hb2)
      clear hv he hb2 R1 Wr
      go_wp2_with fail
      refine Wr2.out.mono ?_
      rintro e w3 ⟨ev, rfl, he, hb3⟩
      obtain rfl := he.zero
      have Rt3 := Rt v w3 (HV.out.later hb3)
      have Hb3 := Lib.hid (below_then Hb2.out hb3)
      clear he hb3 Wr2 Rt
      go_wp2_with fail
      refine Rt3.out.mono ?_
      rintro e w4 ⟨ev, rfl, he, hb4⟩
      obtain rfl := he.zero
      have Hb4 := Lib.hid (below_then Hb3.out hb4)
      clear he hb4
      go_wp2_with fail
      go_ret
      exact ⟨rfl, Hb4.out⟩
    · have hn := readA_bad h0
      obtain ⟨⟨l, n, q⟩, hr⟩ : ∃ r, readA s = r := ⟨_, rfl⟩
      rw [hr] at h0 hn
      obtain rfl : l = [] := hn
      rw [hr] at R
      have Hn := Lib.hid h0
      clear h0 hr
      go_enter Tryd.func6, Tryd.ntmps6
      go_wp2_with fail
      refine M.out.mono ?_
      rintro e w1 ⟨rfl, hb1⟩
      have R1 := R _ (Hg.out.later hb1)
      have Hb1 := Lib.hid hb1
      clear hb1 R M
      go_wp2_with fail
      refine R1.out.mono ?_
      rintro e w2 ⟨v, ev, rfl, hv, he, hb2⟩
      obtain ⟨t, x, rfl⟩ := he.iface Hn.out
      obtain ⟨p, c, rfl⟩ := hv.form
      have Hb2 := Lib.hid (below_then Hb1.out hb2)
      clear hv he hb2 R1
      go_wp2_with fail
      go_ret
      exact ⟨rfl, Hb2.out⟩
end Go.Proofs.YtceinedicbdngaaDoor
