/- HeadBack: what is written is read; just what is right can be written. -/
import Derived.Test.YtffdlchoaaakdaaDoorHeaded
import Derived.Test.YtffdlchoaaakdaaDoorPick
namespace Go.Proofs.YtffdlchoaaakdaaDoor
open Go.RowKit
theorem ErrIs.iface {W : World} {v : Value} {n p : Int} (h : ErrIs W v n p) (hn : n ≠ 0) : ∃ t x, v = .iface t x := by
  cases h with
  | good => exact absurd rfl hn
  | bare => exact ⟨_, _, rfl⟩
  | placed => exact ⟨_, _, rfl⟩
theorem readR_write {h : Hd} {words data : Nat} (hr : rightR h = (0, -1)) (hw : words ≤ 255) (hd : data ≤ 16777215) : writeR h words data = (headB h words data, 0, -1) ∧ readR (headB h words data) = (h, words, data, 0) := by
  refine ⟨?_, read_write hr hw hd⟩
  unfold writeR
  simp only [hr]
  rw [if_neg (by simp), if_neg (by omega)]
  simp
set_option maxRecDepth 100000 in
set_option maxHeartbeats 1000000 in
theorem headBack_any (h : Hd) (v : Value) (words data : Int) (w : World) (hfl : I64 h.fl) (hv : Vals w v h.vs) (hl : h.vs.length ≤ 9223372036854775807) (_hw : (Lit.int .i64 words).wf = true) (_hd : (Lit.int .i64 data).wf = true) (hm : MaxCell w) :
    Calls Tryd.prog 4 #[headV h v, .int .i64 words, .int .i64 data] w fun e w' => e = .returned (.bool true) ∧ Below w.heap.size w w' := by
  obtain ⟨p, c, hve⟩ := hv.form
  subst hve
  have hb0 := (Below.refl w.heap.size w).alloc (Nat.le_refl _) (.cells #[.int .i64 h.op, .bool h.now, .int .i64 h.fl, .slice p h.vs.length c] 24)
  have H := Lib.hid (headed_any _ (hm.later hb0))
  have Hv := Lib.hid hv
  have Hm := Lib.hid hm
  have Hb0 := Lib.hid hb0
  have hfl' := hfl
  clear hv hm hb0
  by_cases h50 : 50 < h.vs.length
  · clear hfl hfl'
    unfold headV
    go_enter Tryd.func4, Tryd.ntmps4
    go_wp2_with fail
    refine H.out.mono ?_
    rintro e w1 ⟨rfl, hb1⟩
    obtain ⟨q0, q1, q2, q3⟩ := ((Blk.new w #[.int .i64 h.op, .bool h.now, .int .i64 h.fl, .slice p h.vs.length c] 24).later hb1).four
    have Hb1 := Lib.hid (below_then Hb0.out hb1)
    clear hb1
    go_wp2_with fail
    go_ret
    exact ⟨rfl, Hb1.out⟩
  · have P1 := fun w => Lib.hid (pick_any words 256 w (by decide) (by decide))
    have P2 := fun w => Lib.hid (pick_any data 16777216 w (by decide) (by decide))
    have hp1 := pickI_lt words 256 (by decide)
    have hp2 := pickI_lt data 16777216 (by decide)
    obtain ⟨x, hx⟩ : ∃ x, pickI words 256 = x := ⟨_, rfl⟩
    obtain ⟨y, hy⟩ : ∃ y, pickI data 16777216 = y := ⟨_, rfl⟩
    rw [hx] at P1 hp1
    rw [hy] at P2 hp2
    clear hx hy
    obtain ⟨r, hr⟩ : ∃ r, rightR h = r := ⟨_, rfl⟩
    have W := fun w1 hm hv => write_any h (.slice p h.vs.length c) (x : Int) (y : Int) w1 hfl hm hv (by omega)
    have R := fun w1 hm hv => right_any h (.slice p h.vs.length c) w1 hfl hm hv (by omega)
    rw [hr] at R
    by_cases h0 : r.1 = 0
    · have hr0 : rightR h = (0, -1) := rightR_0 (by rw [hr]; exact h0)
      obtain ⟨ew, er⟩ := readR_write hr0 (words := x) (data := y) (by omega) (by omega)
      have hlen48 : (headB h x y).length = 48 := by
        obtain ⟨k, hk, _⟩ := rightR_good hr0
        exact headB_len hk x y
      obtain ⟨l, hll⟩ : ∃ l, headB h x y = l := ⟨_, rfl⟩
      rw [hll] at ew er hlen48
      rw [ew] at W
      rw [hr.symm.trans hr0] at R
      have WW := fun w1 hm hv => Lib.hid (W w1 hm hv)
      have RR := fun w1 hm hv => Lib.hid (R w1 hm hv)
      have RD := fun w1 hm => read_any l w1 (by rw [hlen48]; decide) hm
      rw [er] at RD
      have RD2 := fun w1 hm => Lib.hid (RD w1 hm)
      clear hfl hfl' W R hr h0 ew er hr0 hlen48 hll RD
      unfold headV at WW RR ⊢
      go_enter Tryd.func4, Tryd.ntmps4
      go_wp2_with fail
      refine H.out.mono ?_
      rintro e w1 ⟨rfl, hb1⟩
      have hk1 := (Blk.new w #[.int .i64 h.op, .bool h.now, .int .i64 h.fl, .slice p h.vs.length c] 24).later hb1
      have Hk1 := Lib.hid hk1
      obtain ⟨q0, q1, q2, q3⟩ := hk1.four
      have Hb1 := Lib.hid (below_then Hb0.out hb1)
      clear hb1 hk1
      go_wp2_with fail
      refine (P1 _).out.mono ?_
      rintro e w1' ⟨rfl, rfl⟩
      go_wp2_with fail
      refine (P2 _).out.mono ?_
      rintro e w1' ⟨rfl, rfl⟩
      go_wp2_with fail
      refine (WW w1 (Hm.out.later Hb1.out) (Hv.out.later Hb1.out)).out.mono ?_
      rintro e w2 ⟨ev, rfl, he, hb2⟩
      obtain rfl := he.zero
      clear q0 q1 q2 q3 he
      have hk2 := Hk1.out.later hb2
      have Hk2 := Lib.hid hk2
      obtain ⟨q0, q1, q2, q3⟩ := hk2.four
      have Hb2 := Lib.hid (below_then Hb1.out hb2)
      clear hb2 hk2
      go_wp2_with fail
      refine (RR w2 (Hm.out.later Hb2.out) (Hv.out.later Hb2.out)).out.mono ?_
      rintro e w3 ⟨ev3, rfl, he3, hb3⟩
      obtain rfl := he3.zero
      clear q0 q1 q2 q3 he3
      have hk3 := Hk2.out.later hb3
      have Hk3 := Lib.hid hk3
      have Hb3 := Lib.hid (below_then Hb2.out hb3)
      clear hb3 hk3
      go_wp2_with fail
      refine (RD2 w3 (Hm.out.later Hb3.out)).out.mono ?_
      rintro e w4 ⟨v4, ev4, rfl, hv4, he4, hb4⟩
      obtain rfl := he4.zero
      obtain ⟨p4, c4, rfl⟩ := hv4.form
      have hk4 := Hk3.out.later hb4
      obtain ⟨q0, q1, q2, q3⟩ := hk4.four
      have hz4 : w.heap.size < w4.heap.size := hk4.lt
      have Hb4 := Lib.hid (below_then Hb3.out hb4)
      have hbx := (Below.refl w4.heap.size w4).alloc (Nat.le_refl _) (.cells #[.int .i64 h.op, .bool h.now, .int .i64 h.fl, .slice p4 h.vs.length c4] 24)
      have SK := Lib.hid (sameK_same h (.slice p h.vs.length c) (.slice p4 h.vs.length c4) _ ((Hv.out.later Hb4.out).later hbx) (hv4.later hbx) (by omega))
      have Hbx := Lib.hid hbx
      clear hb4 hk4 he4 hv4 hbx
      unfold headV at SK ⊢
      go_wp2_with fail
      refine SK.out.mono ?_
      rintro e w5 ⟨rfl, hb5⟩
      have Hb5 := Lib.hid (below_then Hb4.out (below_then Hbx.out hb5))
      clear hb5 q0 q1 q2 q3
      go_wp2_with fail
      go_ret
      exact ⟨rfl, Hb5.out⟩
    · have e : writeR h x y = ([], r) := by rw [← hr]; exact writeR_bad (by rw [hr]; exact h0)
      rw [e] at W
      have WW := fun w1 hm hv => Lib.hid (W w1 hm hv)
      have RR := fun w1 hm hv => Lib.hid (R w1 hm hv)
      have H0 := Lib.hid h0
      clear hfl hfl' W R hr h0 e
      unfold headV at WW RR ⊢
      go_enter Tryd.func4, Tryd.ntmps4
      go_wp2_with fail
      refine H.out.mono ?_
      rintro e w1 ⟨rfl, hb1⟩
      have hk1 := (Blk.new w #[.int .i64 h.op, .bool h.now, .int .i64 h.fl, .slice p h.vs.length c] 24).later hb1
      have Hk1 := Lib.hid hk1
      obtain ⟨q0, q1, q2, q3⟩ := hk1.four
      have Hb1 := Lib.hid (below_then Hb0.out hb1)
      clear hb1 hk1
      go_wp2_with fail
      refine (P1 _).out.mono ?_
      rintro e w1' ⟨rfl, rfl⟩
      go_wp2_with fail
      refine (P2 _).out.mono ?_
      rintro e w1' ⟨rfl, rfl⟩
      go_wp2_with fail
      refine (WW w1 (Hm.out.later Hb1.out) (Hv.out.later Hb1.out)).out.mono ?_
      rintro e w2 ⟨ev, rfl, he, hb2⟩
      clear q0 q1 q2 q3
      have hk2 := Hk1.out.later hb2
      obtain ⟨q0, q1, q2, q3⟩ := hk2.four
      have Hb2 := Lib.hid (below_then Hb1.out hb2)
      clear hb2 hk2
      go_wp2_with fail
      refine (RR w2 (Hm.out.later Hb2.out) (Hv.out.later Hb2.out)).out.mono ?_
      rintro e w3 ⟨ev3, rfl, he3, hb3⟩
      have Hb3 := Lib.hid (below_then Hb2.out hb3)
      obtain ⟨t2, x2, rfl⟩ := he.iface H0.out
      obtain ⟨t3, x3, rfl⟩ := he3.iface H0.out
      clear hb3 q0 q1 q2 q3 he he3
      go_wp2_with fail
      go_ret
      exact ⟨rfl, Hb3.out⟩
end Go.Proofs.YtffdlchoaaakdaaDoor
