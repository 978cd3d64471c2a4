/- HeadOnly: what is read is right, and is written so. -/
import Derived.Test.YtffdlchoaaakdaaDoorHeadBack
namespace Go.Proofs.YtffdlchoaaakdaaDoor
open Go.RowKit
theorem readR_cases (s : List UInt8) : (∃ e, e ≠ 0 ∧ readR s = (hd0, 0, 0, e)) ∨ (∃ h w n, readR s = (h, w, n, 0) ∧ writeR h w n = (s, 0, -1) ∧ rightR h = (0, -1)) := by
  unfold readR
  by_cases h1 : s.length ≠ 48
  · rw [if_pos h1]; exact .inl ⟨7, by decide, rfl⟩
  · rw [if_neg h1]
    by_cases h2 : 128 ≤ (s.getD 0 0).toNat
    · rw [if_pos h2]; exact .inl ⟨3, by decide, rfl⟩
    · rw [if_neg h2]
      cases hk : kindOf (((s.getD 0 0).toNat % 64 : Nat) : Int) with
      | none => exact .inl ⟨1, by decide, rfl⟩
      | some k =>
        simp only
        by_cases h3 : writeR (readH k s) (readW s) (readD s) = (s, 0, -1)
        · rw [if_pos h3]
          refine .inr ⟨_, _, _, rfl, h3, rightR_0 (Decidable.byContradiction fun hn => ?_)⟩
          rw [writeR_bad hn] at h3
          exact hn (congrArg (fun x => x.2.1) h3)
        · rw [if_neg h3]; exact .inl ⟨3, by decide, rfl⟩
theorem right_facts {h : Hd} (hr : rightR h = (0, -1)) : I64 h.fl ∧ h.vs.length ≤ 10 := by
  obtain ⟨k, hk, _, hok, hlen, _⟩ := rightR_good hr
  have F := kindFacts hk
  have hb := flOk_bd F.fl hok
  have hl := F.len
  exact ⟨⟨by omega, by omega⟩, by omega⟩
set_option maxRecDepth 100000 in
set_option maxHeartbeats 1000000 in
theorem headOnly_any (s : List UInt8) (w : World) (hl : s.length ≤ 140737488351232) (hm : MaxCell w) :
    Calls Tryd.prog 5 #[.string (S s)] w fun e w' => e = .returned (.bool true) ∧ Below w.heap.size w w' := by
  have H := Lib.hid (headed_any w hm)
  have Hm := Lib.hid hm
  clear hm
  by_cases h100 : 100 < s.length
  · go_enter Tryd.func5, Tryd.ntmps5
    go_wp2_with fail
    refine H.out.mono ?_
    rintro e w1 ⟨rfl, hb1⟩
    have Hb1 := Lib.hid hb1
    clear hb1
    go_wp2_with fail
    go_ret
    exact ⟨rfl, Hb1.out⟩
  · have RD := fun w1 hm => read_any s w1 hl hm
    rcases readR_cases s with ⟨e, he, hr⟩ | ⟨h, x, y, hr, hw, hrr⟩
    · rw [hr] at RD
      have RD2 := fun w1 hm => Lib.hid (RD w1 hm)
      have He := Lib.hid he
      clear RD hr he
      go_enter Tryd.func5, Tryd.ntmps5
      go_wp2_with fail
      refine H.out.mono ?_
      rintro e w1 ⟨rfl, hb1⟩
      have Hb1 := Lib.hid hb1
      clear hb1
      go_wp2_with fail
      refine (RD2 w1 (Hm.out.later Hb1.out)).out.mono ?_
      rintro e w2 ⟨v2, ev2, rfl, hv2, he2, hb2⟩
      obtain ⟨t2, x2, rfl⟩ := he2.iface He.out
      obtain ⟨p2, c2, rfl⟩ := hv2.form
      have hbx := (Below.refl w2.heap.size w2).alloc (Nat.le_refl _) (.cells #[.int .i64 0, .bool false, .int .i64 0, .slice p2 0 c2] 24)
      have SK := Lib.hid (sameK_same hd0 (.slice p2 0 c2) (.slice none 0 0) _ (hv2.later hbx) (vals_nil _) (by decide))
      have Hb2 := Lib.hid (below_then Hb1.out (below_then hb2 hbx))
      clear hb2 he2 hv2 hbx
      unfold headV hd0 at SK ⊢
      go_wp2_with fail
      refine SK.out.mono ?_
      rintro e w3 ⟨rfl, hb3⟩
      have Hb3 := Lib.hid (below_then Hb2.out hb3)
      clear hb3
      go_wp2_with fail
      go_ret
      exact ⟨rfl, Hb3.out⟩
    · rw [hr] at RD
      have RD2 := fun w1 hm => Lib.hid (RD w1 hm)
      obtain ⟨hfl, hvl⟩ := right_facts hrr
      have W := fun v w1 hm hv => write_any h v (x : Int) (y : Int) w1 hfl hm hv (by omega)
      have R := fun v w1 hm hv => right_any h v w1 hfl hm hv (by omega)
      rw [hw] at W
      rw [hrr] at R
      have WW := fun v w1 hm hv => Lib.hid (W v w1 hm hv)
      have RR := fun v w1 hm hv => Lib.hid (R v w1 hm hv)
      clear RD hr hfl W R hw hrr
      unfold headV at WW RR
      go_enter Tryd.func5, Tryd.ntmps5
      go_wp2_with fail
      refine H.out.mono ?_
      rintro e w1 ⟨rfl, hb1⟩
      have Hb1 := Lib.hid hb1
      clear hb1
      go_wp2_with fail
      refine (RD2 w1 (Hm.out.later Hb1.out)).out.mono ?_
      rintro e w2 ⟨v2, ev2, rfl, hv2, he2, hb2⟩
      obtain rfl := he2.zero
      obtain ⟨p2, c2, rfl⟩ := hv2.form
      have hbx := (Below.refl w2.heap.size w2).alloc (Nat.le_refl _) (.cells #[.int .i64 h.op, .bool h.now, .int .i64 h.fl, .slice p2 h.vs.length c2] 24)
      have Hb2 := Lib.hid (below_then Hb1.out (below_then hb2 hbx))
      have Hk2 := Lib.hid (Blk.new w2 #[.int .i64 h.op, .bool h.now, .int .i64 h.fl, .slice p2 h.vs.length c2] 24)
      have Hv2 := Lib.hid (hv2.later hbx)
      clear hb2 he2 hv2 hbx
      unfold headV
      simp only
      go_wp2_with fail
      refine (WW _ _ (Hm.out.later Hb2.out) Hv2.out).out.mono ?_
      rintro e w3 ⟨ev3, rfl, he3, hb3⟩
      obtain rfl := he3.zero
      have hk3 := Hk2.out.later hb3
      obtain ⟨q0, q1, q2, q3⟩ := hk3.four
      have Hb3 := Lib.hid (below_then Hb2.out hb3)
      have Hv3 := Lib.hid (Hv2.out.later hb3)
      clear hb3 hk3 he3
      simp only
      go_wp2_with fail
      refine (RR _ _ (Hm.out.later Hb3.out) Hv3.out).out.mono ?_
      rintro e w4 ⟨ev4, rfl, he4, hb4⟩
      obtain rfl := he4.zero
      have Hb4 := Lib.hid (below_then Hb3.out hb4)
      clear hb4 he4 q0 q1 q2 q3
      go_wp2_with fail
      go_ret
      exact ⟨rfl, Hb4.out⟩
end Go.Proofs.YtffdlchoaaakdaaDoor
