/- HeadMakes: any head of any names and numbers is the document's. -/
import Derived.Test.YtffdlchoaaakdaaGreatDoorRefMake2
import Derived.Test.YtffdlchoaaakdaaGreatDoorSameL
import Derived.Test.YtffdlchoaaakdaaGreatDoorPlaced
import Derived.Test.YtffdlchoaaakdaaGreatDoorOpenMore
namespace Go.Proofs.YtffdlchoaaakdaaGreatDoor
open Go.RowKit
theorem sameL_agg (op fl : Int) (now : Bool) (vs : List Nat) (v v' : Value) (w : World) (hv : Vals w v vs) (hv' : Vals w v' vs) (hl : vs.length ≤ 140737488355328) :
    Calls Tryz.prog 19 #[.agg #[.int .i64 op, .bool now, .int .i64 fl, v], .agg #[.int .i64 op, .bool now, .int .i64 fl, v']] w fun e w' => e = .returned (.bool true) ∧ Below w.heap.size w w' := sameL_same ⟨op, now, fl, vs⟩ v v' w hv hv' hl
theorem fill_len {fs : List Fd} : ∀ (ns : List (List UInt8)) (vs acc : List Nat), (fill fs ns vs acc).1.length = acc.length
  | [], vs, acc => by cases vs <;> rfl
  | n :: ns, vs, acc => by
    unfold fill
    split
    · rfl
    · cases vs with
      | nil => rfl
      | cons v vs => simp only; rw [fill_len ns vs]; simp
theorem makeR_vs (op fl : Int) (ns : List (List UInt8)) (vs : List Nat) : (makeR op fl ns vs).1.vs.length ≤ 10 := by
  unfold makeR
  split
  · exact Nat.zero_le _
  · rename_i k hk
    simp only
    split
    · exact Nat.zero_le _
    · split
      · exact Nat.zero_le _
      · simp only [fill_len, List.length_replicate]
        exact (kindFacts hk).len
set_option maxRecDepth 100000 in
set_option maxHeartbeats 1000000 in
theorem headMakes_any (op fl : Int) (ns : List (List UInt8)) (vs : List Nat) (vn vv : Value) (w : World) (_h0 : (Lit.int .i64 op).wf = true) (hflw : (Lit.int .i64 fl).wf = true) (hn : StrV w vn ns) (hnl : ns.length ≤ 9223372036854775807) (hv : Vals w vv vs) (hvl : vs.length ≤ 9223372036854775807) (hg : ErrCell w) (hm : MaxCell w)
    (hsum : ns.length + vs.length ≤ 9223372036854775807) :
    Calls Tryz.prog 4 #[.int .i64 op, .int .i64 fl, vn, vv] w fun e w' => e = .returned (.bool true) ∧ Below w.heap.size w w' := by
  have hfl : I64 fl := by simp [Lit.wf, IntKind.min, IntKind.max, IntKind.signed, IntKind.bits] at hflw; unfold I64; omega
  obtain ⟨pn, cn, rfl, hnc⟩ := id hn
  obtain ⟨pv, cv, rfl, hx64, hvc⟩ := id hv
  by_cases h60 : 60 < ns.length + vs.length
  · have h60' : (60 : Int) < (ns.length : Int) + (vs.length : Int) := by omega
    have hs' : (ns.length : Int) + (vs.length : Int) ≤ 9223372036854775807 := by omega
    clear hn hv hg hm hnc hvc hx64 h60 hflw hfl
    go_enter Tryz.func4, Tryz.ntmps4
    go_wp2_with fail
    go_ret
    exact ⟨rfl, Below.refl _ _⟩
  have h60' : (ns.length : Int) + (vs.length : Int) ≤ 60 := by omega
  have A := fun W hn hv => refMake_any op fl ns vs (.slice pn ns.length cn) (.slice pv vs.length cv) W hfl hn hv (by omega) (by omega)
  have B := fun W hm hn hv => make_any op fl ns vs (.slice pn ns.length cn) (.slice pv vs.length cv) W hfl hm hn hv (by omega) (by omega)
  have hl10 := makeR_vs op fl ns vs
  obtain ⟨⟨⟨ho, hnow, hf, hvs⟩, r1, r2⟩, hr⟩ : ∃ r, makeR op fl ns vs = r := ⟨_, rfl⟩
  rw [hr] at A B hl10
  have HA := Lib.hid A
  have HB := Lib.hid B
  have Hn := Lib.hid hn
  have Hv := Lib.hid hv
  have Hg := Lib.hid hg
  have Hm := Lib.hid hm
  have Hl10 := Lib.hid hl10
  clear A B hl10 hr hn hv hg hm hnc hvc hx64 h60 hflw hfl
  go_enter Tryz.func4, Tryz.ntmps4
  go_wp2_with fail
  refine (HA.out w Hn.out Hv.out).mono ?_
  rintro e w1 ⟨v1, rfl, hv1, hb1⟩
  obtain ⟨p1, c1, rfl⟩ : ∃ p c, v1 = .slice p hvs.length c := by obtain ⟨p, c, h, _⟩ := hv1; exact ⟨p, c, h⟩
  have hbh := (Below.refl w1.heap.size w1).alloc (Nat.le_refl _) (.cells #[.int .i64 ho, .bool hnow, .int .i64 hf, .slice p1 hvs.length c1] 24)
  have hbf := hbh.alloc (by simp) (.cells #[.int .i64 r1, .int .i64 r2] 49)
  have hK1 := (Blk.new w1 #[.int .i64 ho, .bool hnow, .int .i64 hf, .slice p1 hvs.length c1] 24).alloc (.cells #[.int .i64 r1, .int .i64 r2] 49)
  have hF1 : Blk ((w1.alloc (.cells #[.int .i64 ho, .bool hnow, .int .i64 hf, .slice p1 hvs.length c1] 24)).alloc (.cells #[.int .i64 r1, .int .i64 r2] 49)) (w1.heap.size + 1) #[.int .i64 r1, .int .i64 r2] 49 := by
    have := Blk.new (w1.alloc (.cells #[.int .i64 ho, .bool hnow, .int .i64 hf, .slice p1 hvs.length c1] 24)) #[.int .i64 r1, .int .i64 r2] 49
    rw [World.size_alloc] at this
    exact this
  have HK1 := Lib.hid hK1
  have HF1 := Lib.hid hF1
  have Hb1 := Lib.hid (below_then hb1 hbf)
  have Hv1 := Lib.hid (hv1.later hbf)
  clear hb1 hv1 hbh hbf hK1 hF1
  unfold headV
  simp only
  go_wp2_with fail
  refine (HB.out _ (Hm.out.later Hb1.out) (Hn.out.later Hb1.out) (Hv.out.later Hb1.out)).mono ?_
  rintro e w2 ⟨v2, ev, rfl, hv2, hE, hb2⟩
  obtain ⟨p2, c2, rfl⟩ : ∃ p c, v2 = .slice p hvs.length c := by obtain ⟨p, c, h, _⟩ := hv2; exact ⟨p, c, h⟩
  have hbn := (Below.refl w2.heap.size w2).alloc (Nat.le_refl _) (.cells #[.int .i64 ho, .bool hnow, .int .i64 hf, .slice p2 hvs.length c2] 24)
  have Hb2 := Lib.hid (below_then (below_then Hb1.out hb2) hbn)
  have Hv2 := Lib.hid (hv2.later hbn)
  have Hv12 := Lib.hid ((Hv1.out.later hb2).later hbn)
  have HK2 := Lib.hid (Blk.new w2 #[.int .i64 ho, .bool hnow, .int .i64 hf, .slice p2 hvs.length c2] 24)
  have HK12 := Lib.hid ((HK1.out.later hb2).later hbn)
  have HF12 := Lib.hid ((HF1.out.later hb2).later hbn)
  have HE := Lib.hid (hE.later hbn)
  obtain ⟨f0, f1⟩ := HF12.out.two
  clear hb2 hv2 hbn hE
  unfold headV
  simp only
  go_wp2_with fail
  refine (placed_same HE.out (Hg.out.later Hb2.out)).mono ?_
  rintro e w3 ⟨rfl, hb3⟩
  obtain ⟨q0, q1, q2, q3⟩ := (HK12.out.later hb3).four
  obtain ⟨s0, s1, s2, s3⟩ := (HK2.out.later hb3).four
  have Hb3 := Lib.hid (below_then Hb2.out hb3)
  have Hva := Lib.hid (Hv12.out.later hb3)
  have Hvb := Lib.hid (Hv2.out.later hb3)
  clear hb3 f0 f1
  go_wp2_with fail
  refine (sameL_agg ho hf hnow hvs _ _ _ Hva.out Hvb.out (by have : hvs.length ≤ 10 := Hl10.out; omega)).mono ?_
  rintro e w4 ⟨rfl, hb4⟩
  have Hb4 := Lib.hid (below_then Hb3.out hb4)
  clear hb4 q0 q1 q2 q3 s0 s1 s2 s3
  go_wp2_with fail
  go_ret
  exact ⟨rfl, Hb4.out⟩
theorem headMakes_all (op fl : Int) (ns : List (List UInt8)) (vn : Value) (vs : List Nat) (vv : Value) (w : World) (h0 : (Lit.int .i64 op).wf = true) (h1 : (Lit.int .i64 fl).wf = true) (hn : StrV w vn ns) (hnl : ns.length ≤ 140737488355328) (hv : Vals w vv vs) (hvl : vs.length ≤ 140737488355328) (hg : ErrCell w) (hm : MaxCell w) :
    Calls Tryz.prog 4 #[.int .i64 op, .int .i64 fl, vn, vv] w fun e w' => e = .returned (.bool true) ∧ Below w.heap.size w w' :=
  headMakes_any op fl ns vs vn vv w h0 h1 hn (by omega) hv (by omega) hg hm (by omega)
end Go.Proofs.YtffdlchoaaakdaaGreatDoor
