/- HeadReads: the head that any bytes are is the document's. -/
import Derived.Test.YtffdlchoaaakdaaDoorRefRead3
import Derived.Test.YtffdlchoaaakdaaDoorSameL
import Derived.Test.YtffdlchoaaakdaaDoorPlaceAt
namespace Go.Proofs.YtffdlchoaaakdaaDoor
open Go.RowKit
theorem sameL_agg (op fl : Int) (now : Bool) (vs : List Nat) (v v' : Value) (w : World) (hv : Vals w v vs) (hv' : Vals w v' vs) (hl : vs.length ≤ 140737488355328) :
    Calls Tryd.prog 16 #[.agg #[.int .i64 op, .bool now, .int .i64 fl, v], .agg #[.int .i64 op, .bool now, .int .i64 fl, v']] w fun e w' => e = .returned (.bool true) ∧ Below w.heap.size w w' := sameL_same ⟨op, now, fl, vs⟩ v v' w hv hv' hl
theorem readR_vs (s : List UInt8) : (readR s).1.vs.length ≤ 10 := by
  unfold readR
  split
  · decide
  · split
    · decide
    · split
      · decide
      · rename_i k hk
        split
        · simp [readH, readVs_len]; exact (kindFacts hk).len
        · decide
set_option maxRecDepth 100000 in
set_option maxHeartbeats 1000000 in
theorem headReads_any (s : List UInt8) (w : World) (hl : s.length ≤ 140737488351232) (hg : ErrCell w) (hm : MaxCell w) :
    Calls Tryd.prog 3 #[.string (S s)] w fun e w' => e = .returned (.bool true) ∧ Below w.heap.size w w' := by
  by_cases h100 : 100 < s.length
  · have h100' : (100 : Int) < (s.length : Int) := by omega
    clear hg hm h100
    go_enter Tryd.func3, Tryd.ntmps3
    go_wp2_with fail
    go_ret
    exact ⟨rfl, Below.refl _ _⟩
  have h100' : (s.length : Int) ≤ 100 := by omega
  have A : ∀ W, Calls Tryd.prog 13 #[.string (S s)] W (RetRR W (readR s)) := fun W => refRead_any s W hl
  have B : ∀ W, MaxCell W → Calls Tryd.prog 14 #[.string (S s)] W (RetRead W (readR s)) := fun W hm => read_any s W hl hm
  have hvl := readR_vs s
  obtain ⟨⟨⟨op, now, fl, vs⟩, x, y, er⟩, hr⟩ : ∃ r, readR s = r := ⟨_, rfl⟩
  rw [hr] at A B hvl
  have HA := Lib.hid A
  have HB := Lib.hid B
  have Hg := Lib.hid hg
  have Hm := Lib.hid hm
  have Hvl := Lib.hid hvl
  clear A B hvl hr hg hm h100 hl
  go_enter Tryd.func3, Tryd.ntmps3
  go_wp2_with fail
  refine (HA.out w).mono ?_
  rintro e w1 ⟨v1, rfl, hv1, hb1⟩
  obtain ⟨p1, c1, rfl⟩ : ∃ p c, v1 = .slice p vs.length c := by obtain ⟨p, c, h, _⟩ := hv1; exact ⟨p, c, h⟩
  have hbn := (Below.refl w1.heap.size w1).alloc (Nat.le_refl _) (.cells #[.int .i64 op, .bool now, .int .i64 fl, .slice p1 vs.length c1] 24)
  have Hb1 := Lib.hid (below_then hb1 hbn)
  have Hv1 := Lib.hid (hv1.later hbn)
  have HK1 := Lib.hid (Blk.new w1 #[.int .i64 op, .bool now, .int .i64 fl, .slice p1 vs.length c1] 24)
  clear hb1 hv1 hbn
  unfold headV
  simp only
  go_wp2_with fail
  refine (HB.out _ (Hm.out.later Hb1.out)).mono ?_
  rintro e w2 ⟨v2, ev, rfl, hv2, hE, hb2⟩
  obtain ⟨p2, c2, rfl⟩ : ∃ p c, v2 = .slice p vs.length c := by obtain ⟨p, c, h, _⟩ := hv2; exact ⟨p, c, h⟩
  have hbn := (Below.refl w2.heap.size w2).alloc (Nat.le_refl _) (.cells #[.int .i64 op, .bool now, .int .i64 fl, .slice p2 vs.length c2] 24)
  have Hb2 := Lib.hid (below_then (below_then Hb1.out hb2) hbn)
  have Hv2 := Lib.hid (hv2.later hbn)
  have Hv12 := Lib.hid ((Hv1.out.later hb2).later hbn)
  have HK2 := Lib.hid (Blk.new w2 #[.int .i64 op, .bool now, .int .i64 fl, .slice p2 vs.length c2] 24)
  have HK12 := Lib.hid ((HK1.out.later hb2).later hbn)
  have HE := Lib.hid (hE.later hbn)
  clear hb2 hv2 hbn hE
  unfold headV
  simp only
  go_wp2_with fail
  refine (place_is HE.out (Hg.out.later Hb2.out)).mono ?_
  rintro e w3 ⟨rfl, hb3⟩
  obtain ⟨q0, q1, q2, q3⟩ := (HK12.out.later hb3).four
  obtain ⟨r0, r1, r2, r3⟩ := (HK2.out.later hb3).four
  have Hb3 := Lib.hid (below_then Hb2.out hb3)
  have Hva := Lib.hid (Hv12.out.later hb3)
  have Hvb := Lib.hid (Hv2.out.later hb3)
  clear hb3
  go_wp2_with fail
  refine (sameL_agg op fl now vs _ _ _ Hva.out Hvb.out (by have : vs.length ≤ 10 := Hvl.out; omega)).mono ?_
  rintro e w4 ⟨rfl, hb4⟩
  have Hb4 := Lib.hid (below_then Hb3.out hb4)
  clear hb4 q0 q1 q2 q3 r0 r1 r2 r3
  go_wp2_with fail
  go_ret
  exact ⟨rfl, Hb4.out⟩
end Go.Proofs.YtffdlchoaaakdaaDoor
