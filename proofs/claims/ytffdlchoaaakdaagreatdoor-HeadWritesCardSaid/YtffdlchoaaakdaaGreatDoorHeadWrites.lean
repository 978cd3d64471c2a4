/- HeadWrites: any head in 48 bytes is the document's. -/
import Derived.Test.YtffdlchoaaakdaaGreatDoorRefWrite3
import Derived.Test.YtffdlchoaaakdaaGreatDoorRefWrite4
import Derived.Test.YtffdlchoaaakdaaGreatDoorWrite
import Derived.Test.YtffdlchoaaakdaaGreatDoorPlaced
import Derived.BigRegion
namespace Go.Proofs.YtffdlchoaaakdaaGreatDoor
open Go.RowKit
theorem refWrite_any (h : Hd) (v : Value) (words data : Int) (w : World) (hfl : I64 h.fl) (hv : Vals w v h.vs) (hll : h.vs.length ≤ 9223372036854775807) :
    Calls Tryz.prog 20 #[headV h v, .int .i64 words, .int .i64 data] w (RetSF w (writeR h words data)) := by
  by_cases hr : (rightR h).1 ≠ 0
  · rw [writeR_bad hr]
    exact refWrite_bad h v words data w hfl hv hll hr
  · have hr0 := rightR_0 (by simpa using hr)
    by_cases hl : words < 0 ∨ 255 < words ∨ data < 0 ∨ 16777215 < data
    · have e : writeR h words data = ([], 4, -1) := by unfold writeR; simp only [hr0]; rw [if_neg (by simp), if_pos hl]
      rw [e]
      exact refWrite_limit h v words data w hfl hv hll hr0 hl
    · have e : writeR h words data = (headB h words.toNat data.toNat, 0, -1) := by unfold writeR; simp only [hr0]; rw [if_neg (by simp), if_neg hl]
      rw [e]
      obtain ⟨wn, rfl⟩ := Int.eq_ofNat_of_zero_le (show 0 ≤ words by omega)
      obtain ⟨dn, rfl⟩ := Int.eq_ofNat_of_zero_le (show 0 ≤ data by omega)
      obtain ⟨k, hk, _⟩ := rightR_good hr0
      obtain ⟨op, now, fl, vs⟩ := h
      cases now with
      | true => exact refWrite_now op fl vs v wn dn k w hk hfl hv hll hr0 (by omega) (by omega)
      | false => exact refWrite_later op fl vs v wn dn k w hk hfl hv hll hr0 (by omega) (by omega)
set_option maxRecDepth 100000 in
set_option maxHeartbeats 1000000 in
theorem headWrites_any (h : Hd) (v : Value) (words data : Int) (w : World) (hfl : I64 h.fl) (hv : Vals w v h.vs) (hll : h.vs.length ≤ 9223372036854775807) (_h1 : (Lit.int .i64 words).wf = true) (_h2 : (Lit.int .i64 data).wf = true) (hg : ErrCell w) (hm : MaxCell w) :
    Calls Tryz.prog 5 #[headV h v, .int .i64 words, .int .i64 data] w fun e w' => e = .returned (.bool true) ∧ Below w.heap.size w w' := by
  have A : ∀ W, Vals W v h.vs → Calls Tryz.prog 20 #[headV h v, .int .i64 words, .int .i64 data] W (RetSF W (writeR h words data)) := fun W hv => refWrite_any h v words data W hfl hv hll
  have B : ∀ W, MaxCell W → Vals W v h.vs → Calls Tryz.prog 21 #[headV h v, .int .i64 words, .int .i64 data] W (RetSE W (writeR h words data)) := fun W hm hv => write_any h v words data W hfl hm hv hll
  obtain ⟨⟨s, r1, r2⟩, hr⟩ : ∃ r, writeR h words data = r := ⟨_, rfl⟩
  rw [hr] at A B
  clear hr
  obtain ⟨op, now, fl, vs⟩ := h
  unfold headV at *
  simp only at *
  obtain ⟨p, c, rfl, hx64, hcell⟩ := id hv
  have hb0 := (Below.refl w.heap.size w).alloc (Nat.le_refl _) (.cells #[.int .i64 op, .bool now, .int .i64 fl, .slice p vs.length c] 24)
  have HH0 := Lib.hid (Blk.new w #[.int .i64 op, .bool now, .int .i64 fl, .slice p vs.length c] 24)
  have Hb0 := Lib.hid hb0
  by_cases hvl : 50 < vs.length
  · have hvl' : (50 : Int) < (vs.length : Int) := by omega
    clear A B hv hb0 hx64 hcell hg hm hvl
    go_enter Tryz.func5, Tryz.ntmps5
    go_wp2_with fail
    go_ret
    exact ⟨rfl, Hb0.out⟩
  have hvl' : (vs.length : Int) ≤ 50 := by omega
  have HA := Lib.hid A
  have HB := Lib.hid B
  have HV := Lib.hid (hv.later hb0)
  have Hg := Lib.hid (hg.later hb0)
  have Hm := Lib.hid (hm.later hb0)
  clear A B hv hb0 hx64 hcell hg hm hvl
  go_enter Tryz.func5, Tryz.ntmps5
  go_wp2_with fail
  refine (HA.out _ HV.out).mono ?_
  rintro e w1 ⟨rfl, hb1⟩
  have hN : Cell2 (w1.alloc (.cells #[.int .i64 r1, .int .i64 r2] 49)) w1.heap.size r1 r2 := heap_alloc_new w1 _
  have hbn := (Below.refl w1.heap.size w1).alloc (Nat.le_refl _) (.cells #[.int .i64 r1, .int .i64 r2] 49)
  have Hb1 := Lib.hid (below_then hb1 hbn)
  have HN := Lib.hid hN
  obtain ⟨q0, q1, q2, q3⟩ := ((HH0.out.later hb1).later hbn).four
  clear hb1 hN hbn
  go_wp2_with fail
  refine (HB.out _ (Hm.out.later Hb1.out) (HV.out.later Hb1.out)).mono ?_
  rintro e w2 ⟨ev, rfl, hE, hb2⟩
  obtain ⟨d0, d1⟩ := (HN.out.later hb2).cells
  have Hb2 := Lib.hid (below_then Hb1.out hb2)
  have HE := Lib.hid hE
  clear hb2 hE q0 q1 q2 q3
  go_wp2_with fail
  refine (placed_same HE.out (Hg.out.later Hb2.out)).mono ?_
  rintro e w3 ⟨rfl, hb3⟩
  have Hb3 := Lib.hid (below_then Hb2.out hb3)
  clear hb3 d0 d1
  go_wp2_with fail
  go_ret
  exact ⟨rfl, below_then Hb0.out Hb3.out⟩
end Go.Proofs.YtffdlchoaaakdaaGreatDoor
