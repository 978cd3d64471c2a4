/- HeadFlags: a head with any of its flags is right, with any other it isn't. -/
import Derived.Test.YtffdlchoaaakdaaDoorHeaded
import Derived.Test.YtffdlchoaaakdaaDoorHeadBack
namespace Go.Proofs.YtffdlchoaaakdaaDoor
open Go.RowKit
theorem badVal_zeros (fs : List Fd) : badVal fs (List.replicate fs.length 0) = none := by
  induction fs with
  | nil => rfl
  | cons f fs ih => rw [List.length_cons, List.replicate_succ]; unfold badVal; rw [if_pos (Nat.zero_div _), ih]; rfl
/-- a head of whatever op and flags, its values all 0 -/
theorem make_zero {op fl : Int} {k : Kd} (hk : kindOf op = some k) : makeR op fl [] [] = if flOk fl k.fl = true then (⟨op, false, fl, List.replicate k.fs.length 0⟩, 0, -1) else (hd0, 3, -1) := by
  have hr : rightR ⟨op, false, fl, List.replicate k.fs.length 0⟩ = if flOk fl k.fl = true then (0, -1) else (3, -1) := by
    unfold rightR
    simp only
    rw [hk]
    by_cases h : flOk fl k.fl = true
    · simp [rightK, h, badVal_zeros]
    · have h' : flOk fl k.fl = false := by simpa using h
      simp [rightK, h']
  rw [makeR_some [] [] hk (acc := List.replicate k.fs.length 0) (e := 0) rfl, if_neg (by decide), hr]
  by_cases h : flOk fl k.fl = true
  · simp [h]
  · simp [h]
theorem make_noOp {op fl : Int} (ns : List (List UInt8)) (vs : List Nat) (hk : kindOf op = none) : makeR op fl ns vs = (hd0, 1, -1) := by unfold makeR; rw [hk]
theorem flOk_neg {fl : Int} {m : Nat} (h : fl < 0) : flOk fl m = false := by unfold flOk; simp; omega
set_option maxRecDepth 100000 in
set_option maxHeartbeats 1000000 in
theorem headFlags_any (op fl : Int) (w : World) (_ha : (Lit.int .i64 op).wf = true) (hfw : (Lit.int .i64 fl).wf = true) (hg : ErrCell w) (hm : MaxCell w) :
    Calls Tryd.prog 11 #[.int .i64 op, .int .i64 fl] w fun e w' => e = .returned (.bool true) ∧ Below w.heap.size w w' := by
  have hfl : I64 fl := by simp [Lit.wf, IntKind.min, IntKind.max, IntKind.signed, IntKind.bits] at hfw; unfold I64; omega
  have H := Lib.hid (headed_any w hm)
  have Hm := Lib.hid hm
  have Hg := Lib.hid hg
  have M := fun w hm => make_any op fl [] [] (.slice none 0 0) (.slice none 0 0) w hfl hm (strV_nil w) (vals_nil w) (by decide) (by decide)
  cases hk : kindOf op with
  | none =>
    rw [make_noOp [] [] hk] at M
    have M2 := fun w hm => Lib.hid (M w hm)
    have F := fun w => Lib.hid (flags_none hk w)
    clear hk M hm hg hfl hfw
    go_enter Tryd.func11, Tryd.ntmps11
    go_wp2_with fail
    refine H.out.mono ?_
    rintro e w1 ⟨rfl, hb1⟩
    have Hb1 := Lib.hid hb1
    clear hb1 H
    go_wp2_with fail
    refine (F _).out.mono ?_
    rintro e w2 ⟨rfl, hb2⟩
    have Hb2 := Lib.hid (below_then Hb1.out hb2)
    clear hb2
    go_wp2_with fail
    refine (M2 _ (Hm.out.later Hb2.out)).out.mono ?_
    rintro e w3 ⟨v3, ev3, rfl, hv3, he3, hb3⟩
    obtain ⟨p3, c3, rfl⟩ := hv3.form
    have hbx := (Below.refl w3.heap.size w3).alloc (Nat.le_refl _) (.cells #[.int .i64 0, .bool false, .int .i64 0, .slice p3 0 c3] 24)
    have Hb3 := Lib.hid (below_then Hb2.out (below_then hb3 hbx))
    have T := Lib.hid (tell_is (he3.later hbx) (Hg.out.later Hb3.out))
    clear hb3 hv3 hbx he3
    unfold headV hd0
    simp only
    go_wp2_with fail
    refine T.out.mono ?_
    rintro e w4 ⟨rfl, hb4⟩
    have Hb4 := Lib.hid (below_then Hb3.out hb4)
    clear hb4
    go_wp2_with fail
    go_ret
    exact ⟨rfl, Hb4.out⟩
  | some k =>
    have F := fun w => Lib.hid (flags_some hk w)
    have K := kindFacts hk
    have k0 := K.fl0
    have k1 := K.fl
    rw [make_zero hk] at M
    by_cases hok : flOk fl k.fl = true
    · rw [if_pos hok] at M
      have M2 := fun w hm => Lib.hid (M w hm)
      have hA := andNot_yes fl k.fl k1 hfl.1 hfl.2 hok
      have hpos := (flOk_bd k1 hok).1
      clear hk M hm hg hfl hfw hok K
      go_enter Tryd.func11, Tryd.ntmps11
      go_wp2_with fail
      refine H.out.mono ?_
      rintro e w1 ⟨rfl, hb1⟩
      have Hb1 := Lib.hid hb1
      clear hb1 H
      go_wp2_with fail
      refine (F _).out.mono ?_
      rintro e w2 ⟨rfl, hb2⟩
      have Hb2 := Lib.hid (below_then Hb1.out hb2)
      clear hb2
      go_wp2_with fail
      refine (M2 _ (Hm.out.later Hb2.out)).out.mono ?_
      rintro e w3 ⟨v3, ev3, rfl, hv3, he3, hb3⟩
      obtain rfl := he3.zero
      obtain ⟨p3, c3, rfl⟩ := hv3.form
      have Hb3 := Lib.hid ((below_then Hb2.out hb3).alloc (below_then Hb2.out hb3).size (.cells #[.int .i64 op, .bool false, .int .i64 fl, .slice p3 k.fs.length c3] 24))
      clear hb3 hv3 he3
      unfold headV
      simp only
      go_wp2_with fail
      go_ret
      exact ⟨rfl, Hb3.out⟩
    · have hok' : flOk fl k.fl = false := by simpa using hok
      rw [if_neg hok] at M
      have M2 := fun w hm => Lib.hid (M w hm)
      have hA : 0 ≤ fl → (bits .andNot .i64 fl (k.fl : Int) == 0) = false := fun _ => by
        have h := andNot_no fl k.fl k1 hfl.1 hfl.2 hok'
        simpa using h
      clear hk M hm hg hfl hfw hok hok' K
      by_cases hneg : 0 ≤ fl
      · have hA2 := hA hneg
        clear hA
        go_enter Tryd.func11, Tryd.ntmps11
        go_wp2_with fail
        refine H.out.mono ?_
        rintro e w1 ⟨rfl, hb1⟩
        have Hb1 := Lib.hid hb1
        clear hb1 H
        go_wp2_with fail
        refine (F _).out.mono ?_
        rintro e w2 ⟨rfl, hb2⟩
        have Hb2 := Lib.hid (below_then Hb1.out hb2)
        clear hb2
        go_wp2_with fail
        refine (M2 _ (Hm.out.later Hb2.out)).out.mono ?_
        rintro e w3 ⟨v3, ev3, rfl, hv3, he3, hb3⟩
        obtain ⟨t3, x3, rfl⟩ := he3.iface (by decide)
        obtain ⟨p3, c3, rfl⟩ := hv3.form
        have Hb3 := Lib.hid ((below_then Hb2.out hb3).alloc (below_then Hb2.out hb3).size (.cells #[.int .i64 0, .bool false, .int .i64 0, .slice p3 0 c3] 24))
        clear hb3 hv3 he3
        unfold headV hd0
        simp only
        go_wp2_with fail
        go_ret
        exact ⟨rfl, Hb3.out⟩
      · clear hA
        go_enter Tryd.func11, Tryd.ntmps11
        go_wp2_with fail
        refine H.out.mono ?_
        rintro e w1 ⟨rfl, hb1⟩
        have Hb1 := Lib.hid hb1
        clear hb1 H
        go_wp2_with fail
        refine (F _).out.mono ?_
        rintro e w2 ⟨rfl, hb2⟩
        have Hb2 := Lib.hid (below_then Hb1.out hb2)
        clear hb2
        go_wp2_with fail
        refine (M2 _ (Hm.out.later Hb2.out)).out.mono ?_
        rintro e w3 ⟨v3, ev3, rfl, hv3, he3, hb3⟩
        obtain ⟨t3, x3, rfl⟩ := he3.iface (by decide)
        obtain ⟨p3, c3, rfl⟩ := hv3.form
        have Hb3 := Lib.hid ((below_then Hb2.out hb3).alloc (below_then Hb2.out hb3).size (.cells #[.int .i64 0, .bool false, .int .i64 0, .slice p3 0 c3] 24))
        clear hb3 hv3 he3
        unfold headV hd0
        simp only
        go_wp2_with fail
        go_ret
        exact ⟨rfl, Hb3.out⟩
end Go.Proofs.YtffdlchoaaakdaaDoor
