/- The laws' fact wrapped. -/
import Derived.Test.YtlkikkfbennmnaaGreatDoorPduWrite
import Derived.Test.YtlkikkfbennmnaaGreatDoorPduRead
import Derived.Test.YtlkikkfbennmnaaGreatDoorPduSame
import Derived.Test.YtlkikkfbennmnaaGreatDoorNop
namespace Go.Proofs.YtlkikkfbennmnaaGreatDoor
open Go.RowKit
set_option linter.unusedVariables false
def pdW : Pd := ⟨nopH, [], [104, 101, 108, 108, 111]⟩
theorem pdW_right : RightP pdW := ⟨nop_right, fun a h => absurd h List.not_mem_nil, by decide, rfl, by decide⟩
theorem pdW_fit : FitP pdW := ⟨by unfold pdW nopH I64; decide, by decide, ⟨by decide, fun a h => absurd h List.not_mem_nil⟩, by decide⟩
set_option maxRecDepth 100000 in
theorem wrapped_any (w : World) (hm : MaxCell w) (hg : ErrCell w) : Calls Tryz.prog 25 #[] w fun e w' => e = .returned (.bool true) ∧ Below w.heap.size w w' := by
  have hlen : (bytesP pdW 3).length = 64 := by rw [bytesP_len pdW_right]; rfl
  have hr0 := rightP_mk pdW_right
  have hW : writeP pdW 3 = (bytesP pdW 3, 0) := by unfold writeP; rw [if_neg (by decide), if_neg (by simp [hr0])]; rfl
  have hR : readP (bytesP pdW 3 ++ [120]) 3 = (pdW, 64, 0) := by
    have := readP_bytes hr0 (m := 3) (by decide) [120]
    rw [← hlen]; exact this
  obtain ⟨s, hs⟩ : ∃ s, bytesP pdW 3 = s := ⟨_, rfl⟩
  rw [hs] at hlen hW hR
  have Wr := fun vv va W h hc hg => Lib.hid (writeP_any pdW vv va 3 W (by unfold I64; decide) h pdW_fit hc hg)
  rw [hW] at Wr
  have Rd := fun W hc hg => Lib.hid (readP_any (s ++ [120]) 3 W (by unfold I64; decide) (by simp [hlen]) hc hg)
  rw [hR] at Rd
  have Hm := Lib.hid hm
  have Hg := Lib.hid hg
  have hl64 : (s.length : Int) = 64 := by omega
  clear hm hg hs hW hR hr0 hlen
  go_enter Tryz.func25, Tryz.ntmps25
  go_wp2_with fail
  refine (nop_any _).mono ?_
  rintro e w1 ⟨v1, rfl, hv1, hb1⟩
  obtain ⟨p1, c1, rfl⟩ := hv1.form
  have hbn := (Below.refl w1.heap.size w1).alloc (Nat.le_refl _) (.cells #[.int .i64 0, .bool true, .int .i64 128, .slice p1 nopH.vs.length c1, .slice none 0 0, .string (S [104, 101, 108, 108, 111])] 45)
  have HK1 := Lib.hid (Blk.new w1 #[.int .i64 0, .bool true, .int .i64 128, .slice p1 nopH.vs.length c1, .slice none 0 0, .string (S [104, 101, 108, 108, 111])] 45)
  have hP1 : PduAt (w1.alloc (.cells #[.int .i64 0, .bool true, .int .i64 128, .slice p1 nopH.vs.length c1, .slice none 0 0, .string (S [104, 101, 108, 108, 111])] 45)) pdW (.slice p1 nopH.vs.length c1) (.slice none 0 0) := ⟨hv1.later hbn, AhsV.nil _⟩
  have Hb1 := Lib.hid (below_then hb1 hbn)
  have W1 := Wr _ _ _ hP1 (Hm.out.later Hb1.out) (Hg.out.later Hb1.out)
  have HP1 := Lib.hid hP1
  unfold pduV pdW nopH at W1
  unfold headV nopH
  simp only at W1 ⊢
  unfold nopH at HK1 HP1 Hb1
  simp only at HK1 HP1 Hb1
  clear hb1 hbn hv1 hP1 Wr
  go_wp2_with fail
  refine W1.out.mono ?_
  rintro e w2 ⟨ev, rfl, he, hb2⟩
  obtain rfl := he.zero
  have HK2 := Lib.hid (HK1.out.later hb2)
  have HP2 := Lib.hid (HP1.out.later hb2)
  have Hb2 := Lib.hid (below_then Hb1.out hb2)
  have R2 := Rd w2 (Hm.out.later Hb2.out) (Hg.out.later Hb2.out)
  clear he hb2 HK1 HP1 Hb1 W1 Rd
  go_wp2_with fail
  refine R2.out.mono ?_
  rintro e w3 ⟨vv, va, ev, rfl, hP3, he, hb3⟩
  obtain rfl := he.zero
  obtain ⟨p3, c3, rfl⟩ := hP3.v.form
  obtain ⟨p4, c4, rfl⟩ := hP3.a.form
  have hbn := (Below.refl w3.heap.size w3).alloc (Nat.le_refl _) (.cells #[.int .i64 0, .bool true, .int .i64 128, .slice p3 5 c3, .slice p4 0 c4, .string (S [104, 101, 108, 108, 111])] 45)
  have HK3 := Lib.hid (HK2.out.later (below_then hb3 hbn))
  have HKn := Lib.hid (Blk.new w3 #[.int .i64 0, .bool true, .int .i64 128, .slice p3 5 c3, .slice p4 0 c4, .string (S [104, 101, 108, 108, 111])] 45)
  have Hb3 := Lib.hid (below_then Hb2.out (below_then hb3 hbn))
  have C := Lib.hid (same_same pdW _ _ _ _ _ (HP2.out.later (below_then hb3 hbn)) (hP3.later hbn) (by decide) (by decide))
  obtain ⟨q0, q1, q2, q3, q4, q5⟩ := HK3.out.six
  obtain ⟨r0, r1, r2, r3, r4, r5⟩ := HKn.out.six
  unfold pduV pdW nopH at C ⊢
  simp only [List.length_cons, List.length_nil, Nat.zero_add, Nat.reduceAdd] at C q3 ⊢
  clear he hb3 hbn hP3 HK2 HP2 Hb2 R2
  go_wp2_with fail
  refine C.out.mono ?_
  rintro e w4 ⟨rfl, hb4⟩
  have Hb4 := Lib.hid (below_then Hb3.out hb4)
  clear q0 q1 q2 q3 q4 q5 r0 r1 r2 r3 r4 r5 hb4
  go_wp2_with fail
  go_ret
  exact ⟨rfl, Hb4.out⟩
end Go.Proofs.YtlkikkfbennmnaaGreatDoor
