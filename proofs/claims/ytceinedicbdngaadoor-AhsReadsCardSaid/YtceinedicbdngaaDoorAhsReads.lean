/- AhsReads: the additional headers that any bytes are are the document's. -/
import Derived.Test.YtceinedicbdngaaDoorRefAhsR
import Derived.Test.YtceinedicbdngaaDoorEqA
import Derived.Test.YtceinedicbdngaaDoorPlaced
namespace Go.Proofs.YtceinedicbdngaaDoor
open Go.RowKit
set_option maxRecDepth 100000 in
theorem ahsReads_any (s : List UInt8) (w : World) (hl : s.length ≤ 140737488351232) (hg : ErrCell w) :
    Calls Tryd.prog 4 #[.string (S s)] w fun e w' => e = .returned (.bool true) ∧ Below w.heap.size w w' := by
  by_cases hbig : 1100 < s.length
  · clear hg
    go_enter Tryd.func4, Tryd.ntmps4
    go_wp2_with fail
    go_ret
    exact ⟨rfl, Below.refl _ _⟩
  · have A := fun w => Lib.hid (refRead_ahs s w (by omega))
    have B := fun w hg => Lib.hid (read_ahs s w hg (by omega))
    have hll : (readA s).1.length ≤ 140737488355328 := by
      by_cases h : (readA s).2.1 = 0
      · obtain ⟨l, e, _, _, h2⟩ := write_read h
        rw [e]
        simp only
        have : ∀ l : List Ah, l.length ≤ (wrL l).length := fun l => by
          induction l with
          | nil => exact Nat.le_refl _
          | cons a l ih => rw [wrL_cons, List.length_append, wrA_len, List.length_cons]; have := sizeA_pos a; omega
        have := this l
        omega
      · rw [readA_bad h]; decide
    obtain ⟨⟨l, n, q⟩, hr⟩ : ∃ r, readA s = r := ⟨_, rfl⟩
    rw [hr] at hll
    simp only [hr] at A B hll
    have Hg := Lib.hid hg
    clear hg hr
    go_enter Tryd.func4, Tryd.ntmps4
    go_wp2_with fail
    refine (A _).out.mono ?_
    rintro e w1 ⟨v1, rfl, hv1, hb1⟩
    have hba := (Below.refl w1.heap.size w1).alloc (Nat.le_refl _) (.cells #[.int .i64 n, .int .i64 q] 26)
    have HV1 := Lib.hid (hv1.later hba)
    have Hlow1 := Lib.hid (below_then hb1 hba)
    have HK1 := Lib.hid (Blk.new w1 #[.int .i64 n, .int .i64 q] 26)
    have B1 := B _ (Hg.out.later Hlow1.out)
    have hz1 : w.heap.size ≤ w1.heap.size := hb1.size
    clear hv1 hb1 hba A B
    go_wp2_with fail
    refine B1.out.mono ?_
    rintro e w2 ⟨v2, ev, rfl, hv2, he, hb2⟩
    have HK2 := Lib.hid (HK1.out.later hb2)
    have HV12 := Lib.hid (HV1.out.later hb2)
    have Hlow2 := Lib.hid (below_then Hlow1.out hb2)
    have HV2 := Lib.hid hv2
    have P := Lib.hid (placed_same he (Hg.out.later Hlow2.out))
    obtain ⟨q0, q1⟩ := HK2.out.two
    clear hv2 hb2 he B1
    go_wp2_with fail
    refine P.out.mono ?_
    rintro e w3 ⟨rfl, hb3⟩
    have Q := Lib.hid (equalA_same l v1 v2 w3 hll (HV12.out.later hb3) (HV2.out.later hb3))
    have Hlow3 := Lib.hid (below_then Hlow2.out hb3)
    clear hb3 q0 q1
    go_wp2_with fail
    refine Q.out.mono ?_
    rintro e w4 ⟨rfl, hb4⟩
    have Hlow4 := Lib.hid (below_then Hlow3.out hb4)
    clear hb4
    go_wp2_with fail
    go_ret
    exact ⟨rfl, Hlow4.out⟩
end Go.Proofs.YtceinedicbdngaaDoor
