/- NegoParts: offers in two parts come to what they come to at once. -/
import Derived.Test.YteapbjeapnmloaaGreatDoorGJ
import Derived.Test.YteapbjeapnmloaaGreatDoorConcatP
import Derived.Test.YteapbjeapnmloaaGreatDoorPrsDrop
import Derived.Test.YteapbjeapnmloaaGreatDoorOpenPrs
import Derived.Test.YteapbjeapnmloaaGreatDoorPick
namespace Go.Proofs.YteapbjeapnmloaaGreatDoor
open Go.RowKit
set_option linter.unusedVariables false
theorem goN_len (f : Pr → Option (List UInt8) × Option (List UInt8)) : ∀ l rec : List Pr, (goN f l rec).1.length ≤ l.length
  | [], _ => Nat.le_refl _
  | p :: l, rec => by
    rw [goN_cons]
    have h1 := goN_len f l (recN rec p.k (f p).2)
    have h2 : (asP p.k (f p).1).length ≤ 1 := by cases (f p).1 <;> simp [asP]
    simp only [List.length_append, List.length_cons]
    omega
theorem said_len {mine rec l s r : List Pr} {n q : Int} {lg dc : Bool} (h : ansN mine rec l lg dc = ((s, n, q), r)) : s.length ≤ 60 := by
  by_cases hn : n = 0
  · obtain ⟨_, h2, _, _, he⟩ := ansN_good (mine := mine) (rec := rec) (l := l) (lg := lg) (dc := dc) (by rw [h]; exact hn)
    rw [h] at he
    have hs : s = (goN (oneN mine lg dc) l rec).1 := congrArg (fun x => x.1.1) he
    rw [hs]
    exact Nat.le_trans (goN_len _ _ _) h2
  · have he := (ansN_err (mine := mine) (rec := rec) (l := l) (lg := lg) (dc := dc) (by rw [h]; exact hn)).1
    rw [h] at he
    simp only at he
    rw [he]
    simp
set_option maxRecDepth 100000 in
set_option maxHeartbeats 4000000 in
theorem negoParts_1 (l : List Pr) (v : Value) (m : List Pr) (pu : Option Addr) (cu : Nat) (at_ : Int) (dc : Bool) (w : World) (hv : PrsV w v l) (hf : WideP l) (hu : PrsV w (.slice pu m.length cu) m) (hfu : WideP m) (i : Nat) (hi : pickI at_ (m.length + 1) = i) (hil : i ≤ m.length) (hc : m = [] ∧ pu = none) (hE : Env w) (hg : ErrCell w) :
    Calls Tryz.prog 3 #[v, .slice pu m.length cu, .int .i64 at_, .bool dc] w fun e w' => e = .returned (.bool true) ∧ Below w.heap.size w w' := by
  have HV := Lib.hid hv
  have HU := Lib.hid hu
  have HF := Lib.hid hf.1
  have HFU := Lib.hid hfu.1
  have HE := Lib.hid hE
  have Hg := Lib.hid hg
  have hml := hfu.1.1
  obtain ⟨p, c, rfl⟩ := hv.form
  have hmc : m.length ≤ cu := by
    obtain ⟨p0, c0, hv0, hlc, _⟩ := hu
    obtain ⟨_, rfl⟩ : _ ∧ cu = c0 := by simpa using hv0
    exact hlc
  have F := Lib.hid (settled_any w hE hg)
  have PK := Lib.hid (fun W => pick_any at_ (m.length + 1) W (by omega) (by omega))
  rw [hi] at PK
  have i0 : (0 : Int) ≤ (i : Int) := by omega
  have iI : (i : Int) ≤ (m.length : Int) := by omega
  have iC : (i : Int) ≤ (cu : Int) := by omega
  have mC : (m.length : Int) ≤ (cu : Int) := by omega
  have mI : (m.length : Int) ≤ 140737488355328 := by omega
  simp only [Int.natCast_add, Int.natCast_one] at PK
  clear hv hu hE hg hi
  obtain ⟨rfl, rfl⟩ := hc
  obtain rfl : i = 0 := by simp only [List.length_nil] at hil; omega
  go_enter Tryz.func3, Tryz.ntmps3
  go_wp2_with fail
  refine F.out.mono ?_
  rintro e w0 ⟨rfl, hb0⟩
  have Hb0 := Lib.hid hb0
  clear hb0 F
  have M := Lib.hid (made_any (w := w0) l _ Hb0.out HV.out HF.out HE.out Hg.out)
  go_wp2_with fail
  refine M.out.mono ?_
  rintro e w1 hM
  clear M
  rcases hM with ⟨rfl, hb1⟩ | ⟨nb, mv, rfl, hS1, hbf1, hge1, hb1⟩
  · have Hb1 := Lib.hid (below_then Hb0.out hb1)
    clear hb1
    have M := Lib.hid (made_any (w := w1) l _ Hb1.out HV.out HF.out HE.out Hg.out)
    go_wp2_with fail
    refine M.out.mono ?_
    rintro e w1b hM
    clear M
    rcases hM with ⟨rfl, hb2⟩ | ⟨nc, mc, rfl, _, _, _, hb2⟩
    all_goals
      have Hb2 := Lib.hid (below_then Hb1.out hb2)
      clear hb2
      go_wp2_with fail
      go_ret
      exact ⟨rfl, Hb2.out⟩
  have HS0 := Lib.hid hS1
  have HB0 := Lib.hid hbf1
  have HG0 := Lib.hid hge1
  have Hb1 := Lib.hid (below_then Hb0.out hb1)
  have M := Lib.hid (made_any (w := w1) l _ Hb1.out HV.out HF.out HE.out Hg.out)
  clear hS1 hbf1 hge1 hb1
  go_wp2_with fail
  refine M.out.mono ?_
  rintro e w1b hM
  clear M
  rcases hM with ⟨rfl, hb2⟩ | ⟨nc, mc, rfl, hS2, hbf2, hge2, hb2⟩
  · have Hb2 := Lib.hid (below_then Hb1.out hb2)
    clear hb2
    go_wp2_with fail
    go_ret
    exact ⟨rfl, Hb2.out⟩
  have HT1 := Lib.hid (NT.mk' HS0.out hb2 hS2 hbf2 hge2)
  clear hS2 hbf2 hge2 hb2 HS0 HB0 HG0
  have T := Lib.hid (thickK_any ([] : List Pr) _ w1b (HU.out.later HT1.out.low) HFU.out.1)
  go_wp2_with fail
  refine T.out.mono ?_
  rintro e w2 ⟨b, rfl, hb2⟩
  have HT2 := Lib.hid (HT1.out.later hb2)
  clear hb2 T HT1
  rcases b_cases b with rfl | rfl
  · go_wp2_with fail
    go_ret
    exact ⟨rfl, HT2.out.low⟩
  obtain ⟨⟨⟨s, n, q⟩, r⟩, hr⟩ : ∃ x, ansN l [] ([] : List Pr) true dc = x := ⟨_, rfl⟩
  have A := Lib.hid (ans_left hr HT2.out (HT2.out.args HU.out) HFU.out HE.out)
  have hr0 := Lib.hid hr
  clear hr
  go_wp2_with fail
  refine (PK.out _).mono ?_
  rintro e w' ⟨rfl, rfl⟩
  go_wp2_with fail
  refine A.out.mono ?_
  rintro e w3 ⟨v3, ev3, H3, rfl, hb3, he3, hT3, hk3⟩
  obtain ⟨p3, c3, rfl⟩ := hb3.form
  have HT3 := Lib.hid hT3
  by_cases hn : n = 0
  case neg =>
    have her := ansN_err (mine := l) (rec := []) (l := ([] : List Pr)) (lg := true) (dc := dc) (by rw [hr0.out]; exact hn)
    rw [hr0.out] at her
    obtain ⟨rfl, rfl⟩ := her
    obtain ⟨te, xe, rfl⟩ := he3.iface hn
    have R := Lib.hid (rec_left hT3)
    clear hb3 he3 hT3 hk3 A HT2 hr0
    simp only [List.length_nil]
    go_wp2_with fail
    refine R.out.mono ?_
    rintro e w4 ⟨v4, rfl, hb4, hlow4⟩
    obtain ⟨p4, c4, rfl⟩ := hb4.form
    have Hb4 := Lib.hid (HT3.out.later hlow4).low
    clear hb4 hlow4 R
    simp only [List.length_nil]
    go_wp2_with fail
    go_ret
    exact ⟨rfl, Hb4.out⟩
  subst hn
  obtain rfl := he3.zero
  obtain ⟨g1, g2, g3, g4⟩ := ans_parts (mine := l) (l := ([] : List Pr)) (dc := dc) 0 (by rw [hr0.out])
  rw [hr0.out] at g3 g4
  obtain ⟨⟨⟨s1, n1, q1⟩, r1⟩, hr1⟩ : ∃ x, ansN l [] (([] : List Pr).take 0) true dc = x := ⟨_, rfl⟩
  rw [hr1] at g1 g2 g3 g4
  simp only at g1 g2 g3 g4
  subst g1
  obtain ⟨⟨⟨s2, n2, q2⟩, r2⟩, hr2⟩ : ∃ x, ansN l r1 (([] : List Pr).drop 0) true dc = x := ⟨_, rfl⟩
  rw [hr2] at g2 g3 g4
  simp only at g2 g3 g4
  subst g2 g4
  have Hs := Lib.hid g3
  clear g3
  have HB3 := Lib.hid hb3
  have HL1 := Lib.hid (said_len hr1)
  have HL2 := Lib.hid (said_len hr2)
  have A1 := Lib.hid (ans_right hr1 hT3 (PrsV.none_ none cu) ⟨by rw [List.length_take]; omega, fun p hp => HFU.out.2 p (List.mem_of_mem_take hp)⟩ HE.out)
  clear hb3 he3 hT3 hk3 A HT2 hr0 hr1
  go_wp2_with fail
  refine A1.out.mono ?_
  rintro e w4 ⟨v4, ev4, K4, rfl, hb4, he4, hT4, hk4⟩
  obtain rfl := he4.zero
  obtain ⟨p4, c4, rfl⟩ := hb4.form
  have HT4 := Lib.hid hT4
  have HB3 := Lib.hid (HB3.out.kp hk4)
  have HB4 := Lib.hid hb4
  have hdv := (PrsV.none_ (W := offW (U H3 K4) w4) none cu)
  have A2 := Lib.hid (ans_right hr2 hT4 hdv ⟨by rw [List.length_drop]; omega, fun p hp => HFU.out.2 p (List.mem_of_mem_drop hp)⟩ HE.out)
  clear hb4 he4 hT4 hk4 A1 hr2 hdv HT3
  go_wp2_with fail
  refine A2.out.mono ?_
  rintro e w5 ⟨v5, ev5, K5, rfl, hb5, he5, hT5, hk5⟩
  obtain rfl := he5.zero
  obtain ⟨p5, c5, rfl⟩ := hb5.form
  have HT5 := Lib.hid hT5
  have hB3 := (HB3.out.kp hk5).prs.off
  have hB4 := (HB4.out.kp hk5).prs.off
  have hB5 := hb5.prs.off
  obtain ⟨w6, hw6⟩ : ∃ w6, w5.alloc (.cells #[.slice p4 s1.length c4, .slice p5 s2.length c5] 22) = w6 := ⟨_, rfl⟩
  have hb6 : Below w5.heap.size w5 w6 := by rw [← hw6]; exact (Below.refl _ _).alloc (Nat.le_refl _) _
  have bK : Blk w6 w5.heap.size #[.slice p4 s1.length c4, .slice p5 s2.length c5] 22 := by rw [← hw6]; exact Blk.new w5 _ _
  have HT6 := Lib.hid (hT5.later hb6)
  have HB6 := Lib.hid (hB3.later hb6)
  have hlen : s1.length ≤ 1000 ∧ s2.length ≤ 1000 := by
    have h1 := HL1.out
    have h2 := HL2.out
    omega
  have CC0 := concatP_any s1 s2 _ _ w5.heap.size w6 (hB4.later hb6) (hB5.later hb6) bK.two.1 bK.two.2 hlen.1 hlen.2
  rw [← Hs.out] at CC0
  have CC := Lib.hid CC0
  have Hlen := Lib.hid hlen
  clear hb5 he5 hT5 hk5 A2 HB3 HB4 hB3 hB4 hB5 hb6 bK HT4 hlen CC0
  go_wp2_with fail
  refine CC.out.mono ?_
  rintro e w7 ⟨v7, rfl, hb7, hlow7⟩
  obtain ⟨p7, c7, rfl⟩ := hb7.form
  have HT7 := Lib.hid (HT6.out.later hlow7)
  have E := Lib.hid (equalP_same s _ _ w7 (by rw [Hs.out, List.length_append]; have := Hlen.out; omega) (HB6.out.later hlow7) hb7.prs)
  clear hb7 hlow7 CC HT6 HB6
  go_wp2_with fail
  refine E.out.mono ?_
  rintro e w8 ⟨rfl, hb8⟩
  have HT8 := Lib.hid (HT7.out.later hb8)
  have RA := Lib.hid (rec_left HT8.out)
  clear hb8 E HT7
  go_wp2_with fail
  refine RA.out.mono ?_
  rintro e w9 ⟨v9, rfl, hb9, hlow9⟩
  obtain ⟨p9, c9, rfl⟩ := hb9.form
  have HT9 := Lib.hid (HT8.out.later hlow9)
  have HB9 := Lib.hid hb9
  have RB := Lib.hid (rec_right HT9.out)
  clear hb9 hlow9 RA HT8
  go_wp2_with fail
  refine RB.out.mono ?_
  rintro e w10 ⟨v10, rfl, hb10, hlow10⟩
  obtain ⟨p10, c10, rfl⟩ := hb10.form
  have HT10 := Lib.hid (HT9.out.later hlow10)
  have hr18 := HT10.out.ra.few
  have E := Lib.hid (equalP_same r _ _ w10 (by omega) (HB9.out.prs.later hlow10) hb10.prs)
  clear hb10 hlow10 RB HT9 HB9 hr18
  go_wp2_with fail
  refine E.out.mono ?_
  rintro e w11 ⟨rfl, hb11⟩
  have Hb11 := Lib.hid (HT10.out.later hb11).low
  clear hb11 E
  go_wp2_with fail
  go_ret
  exact ⟨rfl, Hb11.out⟩
set_option maxRecDepth 100000 in
set_option maxHeartbeats 4000000 in
theorem negoParts_2 (l : List Pr) (v : Value) (m : List Pr) (pu : Option Addr) (cu : Nat) (at_ : Int) (dc : Bool) (w : World) (hv : PrsV w v l) (hf : WideP l) (hu : PrsV w (.slice pu m.length cu) m) (hfu : WideP m) (i : Nat) (hi : pickI at_ (m.length + 1) = i) (hil : i ≤ m.length) (hc : m = [] ∧ ∃ a, pu = some a) (hE : Env w) (hg : ErrCell w) :
    Calls Tryz.prog 3 #[v, .slice pu m.length cu, .int .i64 at_, .bool dc] w fun e w' => e = .returned (.bool true) ∧ Below w.heap.size w w' := by
  have HV := Lib.hid hv
  have HU := Lib.hid hu
  have HF := Lib.hid hf.1
  have HFU := Lib.hid hfu.1
  have HE := Lib.hid hE
  have Hg := Lib.hid hg
  have hml := hfu.1.1
  obtain ⟨p, c, rfl⟩ := hv.form
  have hmc : m.length ≤ cu := by
    obtain ⟨p0, c0, hv0, hlc, _⟩ := hu
    obtain ⟨_, rfl⟩ : _ ∧ cu = c0 := by simpa using hv0
    exact hlc
  have F := Lib.hid (settled_any w hE hg)
  have PK := Lib.hid (fun W => pick_any at_ (m.length + 1) W (by omega) (by omega))
  rw [hi] at PK
  have i0 : (0 : Int) ≤ (i : Int) := by omega
  have iI : (i : Int) ≤ (m.length : Int) := by omega
  have iC : (i : Int) ≤ (cu : Int) := by omega
  have mC : (m.length : Int) ≤ (cu : Int) := by omega
  have mI : (m.length : Int) ≤ 140737488355328 := by omega
  simp only [Int.natCast_add, Int.natCast_one] at PK
  clear hv hu hE hg hi
  obtain ⟨rfl, a, rfl⟩ := hc
  obtain rfl : i = 0 := by simp only [List.length_nil] at hil; omega
  go_enter Tryz.func3, Tryz.ntmps3
  go_wp2_with fail
  refine F.out.mono ?_
  rintro e w0 ⟨rfl, hb0⟩
  have Hb0 := Lib.hid hb0
  clear hb0 F
  have M := Lib.hid (made_any (w := w0) l _ Hb0.out HV.out HF.out HE.out Hg.out)
  go_wp2_with fail
  refine M.out.mono ?_
  rintro e w1 hM
  clear M
  rcases hM with ⟨rfl, hb1⟩ | ⟨nb, mv, rfl, hS1, hbf1, hge1, hb1⟩
  · have Hb1 := Lib.hid (below_then Hb0.out hb1)
    clear hb1
    have M := Lib.hid (made_any (w := w1) l _ Hb1.out HV.out HF.out HE.out Hg.out)
    go_wp2_with fail
    refine M.out.mono ?_
    rintro e w1b hM
    clear M
    rcases hM with ⟨rfl, hb2⟩ | ⟨nc, mc, rfl, _, _, _, hb2⟩
    all_goals
      have Hb2 := Lib.hid (below_then Hb1.out hb2)
      clear hb2
      go_wp2_with fail
      go_ret
      exact ⟨rfl, Hb2.out⟩
  have HS0 := Lib.hid hS1
  have HB0 := Lib.hid hbf1
  have HG0 := Lib.hid hge1
  have Hb1 := Lib.hid (below_then Hb0.out hb1)
  have M := Lib.hid (made_any (w := w1) l _ Hb1.out HV.out HF.out HE.out Hg.out)
  clear hS1 hbf1 hge1 hb1
  go_wp2_with fail
  refine M.out.mono ?_
  rintro e w1b hM
  clear M
  rcases hM with ⟨rfl, hb2⟩ | ⟨nc, mc, rfl, hS2, hbf2, hge2, hb2⟩
  · have Hb2 := Lib.hid (below_then Hb1.out hb2)
    clear hb2
    go_wp2_with fail
    go_ret
    exact ⟨rfl, Hb2.out⟩
  have HT1 := Lib.hid (NT.mk' HS0.out hb2 hS2 hbf2 hge2)
  clear hS2 hbf2 hge2 hb2 HS0 HB0 HG0
  have T := Lib.hid (thickK_any ([] : List Pr) _ w1b (HU.out.later HT1.out.low) HFU.out.1)
  go_wp2_with fail
  refine T.out.mono ?_
  rintro e w2 ⟨b, rfl, hb2⟩
  have HT2 := Lib.hid (HT1.out.later hb2)
  clear hb2 T HT1
  rcases b_cases b with rfl | rfl
  · go_wp2_with fail
    go_ret
    exact ⟨rfl, HT2.out.low⟩
  obtain ⟨⟨⟨s, n, q⟩, r⟩, hr⟩ : ∃ x, ansN l [] ([] : List Pr) true dc = x := ⟨_, rfl⟩
  have A := Lib.hid (ans_left hr HT2.out (HT2.out.args HU.out) HFU.out HE.out)
  have hr0 := Lib.hid hr
  clear hr
  go_wp2_with fail
  refine (PK.out _).mono ?_
  rintro e w' ⟨rfl, rfl⟩
  go_wp2_with fail
  refine A.out.mono ?_
  rintro e w3 ⟨v3, ev3, H3, rfl, hb3, he3, hT3, hk3⟩
  obtain ⟨p3, c3, rfl⟩ := hb3.form
  have HT3 := Lib.hid hT3
  by_cases hn : n = 0
  case neg =>
    have her := ansN_err (mine := l) (rec := []) (l := ([] : List Pr)) (lg := true) (dc := dc) (by rw [hr0.out]; exact hn)
    rw [hr0.out] at her
    obtain ⟨rfl, rfl⟩ := her
    obtain ⟨te, xe, rfl⟩ := he3.iface hn
    have R := Lib.hid (rec_left hT3)
    clear hb3 he3 hT3 hk3 A HT2 hr0
    simp only [List.length_nil]
    go_wp2_with fail
    refine R.out.mono ?_
    rintro e w4 ⟨v4, rfl, hb4, hlow4⟩
    obtain ⟨p4, c4, rfl⟩ := hb4.form
    have Hb4 := Lib.hid (HT3.out.later hlow4).low
    clear hb4 hlow4 R
    simp only [List.length_nil]
    go_wp2_with fail
    go_ret
    exact ⟨rfl, Hb4.out⟩
  subst hn
  obtain rfl := he3.zero
  obtain ⟨g1, g2, g3, g4⟩ := ans_parts (mine := l) (l := ([] : List Pr)) (dc := dc) 0 (by rw [hr0.out])
  rw [hr0.out] at g3 g4
  obtain ⟨⟨⟨s1, n1, q1⟩, r1⟩, hr1⟩ : ∃ x, ansN l [] (([] : List Pr).take 0) true dc = x := ⟨_, rfl⟩
  rw [hr1] at g1 g2 g3 g4
  simp only at g1 g2 g3 g4
  subst g1
  obtain ⟨⟨⟨s2, n2, q2⟩, r2⟩, hr2⟩ : ∃ x, ansN l r1 (([] : List Pr).drop 0) true dc = x := ⟨_, rfl⟩
  rw [hr2] at g2 g3 g4
  simp only at g2 g3 g4
  subst g2 g4
  have Hs := Lib.hid g3
  clear g3
  have HB3 := Lib.hid hb3
  have HL1 := Lib.hid (said_len hr1)
  have HL2 := Lib.hid (said_len hr2)
  have A1 := Lib.hid (ans_right hr1 hT3 (PrsV.none_ (some a) cu) ⟨by rw [List.length_take]; omega, fun p hp => HFU.out.2 p (List.mem_of_mem_take hp)⟩ HE.out)
  clear hb3 he3 hT3 hk3 A HT2 hr0 hr1
  go_wp2_with fail
  refine A1.out.mono ?_
  rintro e w4 ⟨v4, ev4, K4, rfl, hb4, he4, hT4, hk4⟩
  obtain rfl := he4.zero
  obtain ⟨p4, c4, rfl⟩ := hb4.form
  have HT4 := Lib.hid hT4
  have HB3 := Lib.hid (HB3.out.kp hk4)
  have HB4 := Lib.hid hb4
  have hdv := (PrsV.none_ (W := offW (U H3 K4) w4) (some a) cu)
  have A2 := Lib.hid (ans_right hr2 hT4 hdv ⟨by rw [List.length_drop]; omega, fun p hp => HFU.out.2 p (List.mem_of_mem_drop hp)⟩ HE.out)
  clear hb4 he4 hT4 hk4 A1 hr2 hdv HT3
  go_wp2_with fail
  refine A2.out.mono ?_
  rintro e w5 ⟨v5, ev5, K5, rfl, hb5, he5, hT5, hk5⟩
  obtain rfl := he5.zero
  obtain ⟨p5, c5, rfl⟩ := hb5.form
  have HT5 := Lib.hid hT5
  have hB3 := (HB3.out.kp hk5).prs.off
  have hB4 := (HB4.out.kp hk5).prs.off
  have hB5 := hb5.prs.off
  obtain ⟨w6, hw6⟩ : ∃ w6, w5.alloc (.cells #[.slice p4 s1.length c4, .slice p5 s2.length c5] 22) = w6 := ⟨_, rfl⟩
  have hb6 : Below w5.heap.size w5 w6 := by rw [← hw6]; exact (Below.refl _ _).alloc (Nat.le_refl _) _
  have bK : Blk w6 w5.heap.size #[.slice p4 s1.length c4, .slice p5 s2.length c5] 22 := by rw [← hw6]; exact Blk.new w5 _ _
  have HT6 := Lib.hid (hT5.later hb6)
  have HB6 := Lib.hid (hB3.later hb6)
  have hlen : s1.length ≤ 1000 ∧ s2.length ≤ 1000 := by
    have h1 := HL1.out
    have h2 := HL2.out
    omega
  have CC0 := concatP_any s1 s2 _ _ w5.heap.size w6 (hB4.later hb6) (hB5.later hb6) bK.two.1 bK.two.2 hlen.1 hlen.2
  rw [← Hs.out] at CC0
  have CC := Lib.hid CC0
  have Hlen := Lib.hid hlen
  clear hb5 he5 hT5 hk5 A2 HB3 HB4 hB3 hB4 hB5 hb6 bK HT4 hlen CC0
  go_wp2_with fail
  refine CC.out.mono ?_
  rintro e w7 ⟨v7, rfl, hb7, hlow7⟩
  obtain ⟨p7, c7, rfl⟩ := hb7.form
  have HT7 := Lib.hid (HT6.out.later hlow7)
  have E := Lib.hid (equalP_same s _ _ w7 (by rw [Hs.out, List.length_append]; have := Hlen.out; omega) (HB6.out.later hlow7) hb7.prs)
  clear hb7 hlow7 CC HT6 HB6
  go_wp2_with fail
  refine E.out.mono ?_
  rintro e w8 ⟨rfl, hb8⟩
  have HT8 := Lib.hid (HT7.out.later hb8)
  have RA := Lib.hid (rec_left HT8.out)
  clear hb8 E HT7
  go_wp2_with fail
  refine RA.out.mono ?_
  rintro e w9 ⟨v9, rfl, hb9, hlow9⟩
  obtain ⟨p9, c9, rfl⟩ := hb9.form
  have HT9 := Lib.hid (HT8.out.later hlow9)
  have HB9 := Lib.hid hb9
  have RB := Lib.hid (rec_right HT9.out)
  clear hb9 hlow9 RA HT8
  go_wp2_with fail
  refine RB.out.mono ?_
  rintro e w10 ⟨v10, rfl, hb10, hlow10⟩
  obtain ⟨p10, c10, rfl⟩ := hb10.form
  have HT10 := Lib.hid (HT9.out.later hlow10)
  have hr18 := HT10.out.ra.few
  have E := Lib.hid (equalP_same r _ _ w10 (by omega) (HB9.out.prs.later hlow10) hb10.prs)
  clear hb10 hlow10 RB HT9 HB9 hr18
  go_wp2_with fail
  refine E.out.mono ?_
  rintro e w11 ⟨rfl, hb11⟩
  have Hb11 := Lib.hid (HT10.out.later hb11).low
  clear hb11 E
  go_wp2_with fail
  go_ret
  exact ⟨rfl, Hb11.out⟩
set_option maxRecDepth 100000 in
set_option maxHeartbeats 4000000 in
theorem negoParts_3 (l : List Pr) (v : Value) (m : List Pr) (pu : Option Addr) (cu : Nat) (at_ : Int) (dc : Bool) (w : World) (hv : PrsV w v l) (hf : WideP l) (hu : PrsV w (.slice pu m.length cu) m) (hfu : WideP m) (i : Nat) (hi : pickI at_ (m.length + 1) = i) (hil : i ≤ m.length) (hc : cu = i ∧ ∃ b o, pu = some ⟨b, o, none⟩) (hE : Env w) (hg : ErrCell w) :
    Calls Tryz.prog 3 #[v, .slice pu m.length cu, .int .i64 at_, .bool dc] w fun e w' => e = .returned (.bool true) ∧ Below w.heap.size w w' := by
  have HV := Lib.hid hv
  have HU := Lib.hid hu
  have HF := Lib.hid hf.1
  have HFU := Lib.hid hfu.1
  have HE := Lib.hid hE
  have Hg := Lib.hid hg
  have hml := hfu.1.1
  obtain ⟨p, c, rfl⟩ := hv.form
  have hmc : m.length ≤ cu := by
    obtain ⟨p0, c0, hv0, hlc, _⟩ := hu
    obtain ⟨_, rfl⟩ : _ ∧ cu = c0 := by simpa using hv0
    exact hlc
  have F := Lib.hid (settled_any w hE hg)
  have PK := Lib.hid (fun W => pick_any at_ (m.length + 1) W (by omega) (by omega))
  rw [hi] at PK
  have i0 : (0 : Int) ≤ (i : Int) := by omega
  have iI : (i : Int) ≤ (m.length : Int) := by omega
  have iC : (i : Int) ≤ (cu : Int) := by omega
  have mC : (m.length : Int) ≤ (cu : Int) := by omega
  have mI : (m.length : Int) ≤ 140737488355328 := by omega
  simp only [Int.natCast_add, Int.natCast_one] at PK
  clear hv hu hE hg hi
  obtain ⟨rfl, b, o, rfl⟩ := hc
  obtain hcm : cu = m.length := by omega
  subst hcm
  go_enter Tryz.func3, Tryz.ntmps3
  go_wp2_with fail
  refine F.out.mono ?_
  rintro e w0 ⟨rfl, hb0⟩
  have Hb0 := Lib.hid hb0
  clear hb0 F
  have M := Lib.hid (made_any (w := w0) l _ Hb0.out HV.out HF.out HE.out Hg.out)
  go_wp2_with fail
  refine M.out.mono ?_
  rintro e w1 hM
  clear M
  rcases hM with ⟨rfl, hb1⟩ | ⟨nb, mv, rfl, hS1, hbf1, hge1, hb1⟩
  · have Hb1 := Lib.hid (below_then Hb0.out hb1)
    clear hb1
    have M := Lib.hid (made_any (w := w1) l _ Hb1.out HV.out HF.out HE.out Hg.out)
    go_wp2_with fail
    refine M.out.mono ?_
    rintro e w1b hM
    clear M
    rcases hM with ⟨rfl, hb2⟩ | ⟨nc, mc, rfl, _, _, _, hb2⟩
    all_goals
      have Hb2 := Lib.hid (below_then Hb1.out hb2)
      clear hb2
      go_wp2_with fail
      go_ret
      exact ⟨rfl, Hb2.out⟩
  have HS0 := Lib.hid hS1
  have HB0 := Lib.hid hbf1
  have HG0 := Lib.hid hge1
  have Hb1 := Lib.hid (below_then Hb0.out hb1)
  have M := Lib.hid (made_any (w := w1) l _ Hb1.out HV.out HF.out HE.out Hg.out)
  clear hS1 hbf1 hge1 hb1
  go_wp2_with fail
  refine M.out.mono ?_
  rintro e w1b hM
  clear M
  rcases hM with ⟨rfl, hb2⟩ | ⟨nc, mc, rfl, hS2, hbf2, hge2, hb2⟩
  · have Hb2 := Lib.hid (below_then Hb1.out hb2)
    clear hb2
    go_wp2_with fail
    go_ret
    exact ⟨rfl, Hb2.out⟩
  have HT1 := Lib.hid (NT.mk' HS0.out hb2 hS2 hbf2 hge2)
  clear hS2 hbf2 hge2 hb2 HS0 HB0 HG0
  have T := Lib.hid (thickK_any m _ w1b (HU.out.later HT1.out.low) HFU.out.1)
  go_wp2_with fail
  refine T.out.mono ?_
  rintro e w2 ⟨b, rfl, hb2⟩
  have HT2 := Lib.hid (HT1.out.later hb2)
  clear hb2 T HT1
  rcases b_cases b with rfl | rfl
  · go_wp2_with fail
    go_ret
    exact ⟨rfl, HT2.out.low⟩
  obtain ⟨⟨⟨s, n, q⟩, r⟩, hr⟩ : ∃ x, ansN l [] m true dc = x := ⟨_, rfl⟩
  have A := Lib.hid (ans_left hr HT2.out (HT2.out.args HU.out) HFU.out HE.out)
  have hr0 := Lib.hid hr
  clear hr
  go_wp2_with fail
  refine (PK.out _).mono ?_
  rintro e w' ⟨rfl, rfl⟩
  go_wp2_with fail
  refine A.out.mono ?_
  rintro e w3 ⟨v3, ev3, H3, rfl, hb3, he3, hT3, hk3⟩
  obtain ⟨p3, c3, rfl⟩ := hb3.form
  have HT3 := Lib.hid hT3
  by_cases hn : n = 0
  case neg =>
    have her := ansN_err (mine := l) (rec := []) (l := m) (lg := true) (dc := dc) (by rw [hr0.out]; exact hn)
    rw [hr0.out] at her
    obtain ⟨rfl, rfl⟩ := her
    obtain ⟨te, xe, rfl⟩ := he3.iface hn
    have R := Lib.hid (rec_left hT3)
    clear hb3 he3 hT3 hk3 A HT2 hr0
    simp only [List.length_nil]
    go_wp2_with fail
    refine R.out.mono ?_
    rintro e w4 ⟨v4, rfl, hb4, hlow4⟩
    obtain ⟨p4, c4, rfl⟩ := hb4.form
    have Hb4 := Lib.hid (HT3.out.later hlow4).low
    clear hb4 hlow4 R
    simp only [List.length_nil]
    go_wp2_with fail
    go_ret
    exact ⟨rfl, Hb4.out⟩
  subst hn
  obtain rfl := he3.zero
  obtain ⟨g1, g2, g3, g4⟩ := ans_parts (mine := l) (l := m) (dc := dc) m.length (by rw [hr0.out])
  rw [hr0.out] at g3 g4
  obtain ⟨⟨⟨s1, n1, q1⟩, r1⟩, hr1⟩ : ∃ x, ansN l [] (m.take m.length) true dc = x := ⟨_, rfl⟩
  rw [hr1] at g1 g2 g3 g4
  simp only at g1 g2 g3 g4
  subst g1
  obtain ⟨⟨⟨s2, n2, q2⟩, r2⟩, hr2⟩ : ∃ x, ansN l r1 (m.drop m.length) true dc = x := ⟨_, rfl⟩
  rw [hr2] at g2 g3 g4
  simp only at g2 g3 g4
  subst g2 g4
  have Hs := Lib.hid g3
  clear g3
  have HB3 := Lib.hid hb3
  have HL1 := Lib.hid (said_len hr1)
  have HL2 := Lib.hid (said_len hr2)
  have A1 := Lib.hid (ans_right hr1 hT3 ((hT3.args HU.out).take (Nat.le_refl _)) ⟨by rw [List.length_take]; omega, fun p hp => HFU.out.2 p (List.mem_of_mem_take hp)⟩ HE.out)
  clear hb3 he3 hT3 hk3 A HT2 hr0 hr1
  go_wp2_with fail
  refine A1.out.mono ?_
  rintro e w4 ⟨v4, ev4, K4, rfl, hb4, he4, hT4, hk4⟩
  obtain rfl := he4.zero
  obtain ⟨p4, c4, rfl⟩ := hb4.form
  have HT4 := Lib.hid hT4
  have HB3 := Lib.hid (HB3.out.kp hk4)
  have HB4 := Lib.hid hb4
  have hdv := (show PrsV (offW (U H3 K4) w4) (.slice (some ⟨b, o, none⟩) 0 0) (m.drop m.length) by rw [List.drop_length]; exact PrsV.none_ _ _)
  have A2 := Lib.hid (ans_right hr2 hT4 hdv ⟨by rw [List.length_drop]; omega, fun p hp => HFU.out.2 p (List.mem_of_mem_drop hp)⟩ HE.out)
  clear hb4 he4 hT4 hk4 A1 hr2 hdv HT3
  go_wp2_with fail
  refine A2.out.mono ?_
  rintro e w5 ⟨v5, ev5, K5, rfl, hb5, he5, hT5, hk5⟩
  obtain rfl := he5.zero
  obtain ⟨p5, c5, rfl⟩ := hb5.form
  have HT5 := Lib.hid hT5
  have hB3 := (HB3.out.kp hk5).prs.off
  have hB4 := (HB4.out.kp hk5).prs.off
  have hB5 := hb5.prs.off
  obtain ⟨w6, hw6⟩ : ∃ w6, w5.alloc (.cells #[.slice p4 s1.length c4, .slice p5 s2.length c5] 22) = w6 := ⟨_, rfl⟩
  have hb6 : Below w5.heap.size w5 w6 := by rw [← hw6]; exact (Below.refl _ _).alloc (Nat.le_refl _) _
  have bK : Blk w6 w5.heap.size #[.slice p4 s1.length c4, .slice p5 s2.length c5] 22 := by rw [← hw6]; exact Blk.new w5 _ _
  have HT6 := Lib.hid (hT5.later hb6)
  have HB6 := Lib.hid (hB3.later hb6)
  have hlen : s1.length ≤ 1000 ∧ s2.length ≤ 1000 := by
    have h1 := HL1.out
    have h2 := HL2.out
    omega
  have CC0 := concatP_any s1 s2 _ _ w5.heap.size w6 (hB4.later hb6) (hB5.later hb6) bK.two.1 bK.two.2 hlen.1 hlen.2
  rw [← Hs.out] at CC0
  have CC := Lib.hid CC0
  have Hlen := Lib.hid hlen
  clear hb5 he5 hT5 hk5 A2 HB3 HB4 hB3 hB4 hB5 hb6 bK HT4 hlen CC0
  go_wp2_with fail
  refine CC.out.mono ?_
  rintro e w7 ⟨v7, rfl, hb7, hlow7⟩
  obtain ⟨p7, c7, rfl⟩ := hb7.form
  have HT7 := Lib.hid (HT6.out.later hlow7)
  have E := Lib.hid (equalP_same s _ _ w7 (by rw [Hs.out, List.length_append]; have := Hlen.out; omega) (HB6.out.later hlow7) hb7.prs)
  clear hb7 hlow7 CC HT6 HB6
  go_wp2_with fail
  refine E.out.mono ?_
  rintro e w8 ⟨rfl, hb8⟩
  have HT8 := Lib.hid (HT7.out.later hb8)
  have RA := Lib.hid (rec_left HT8.out)
  clear hb8 E HT7
  go_wp2_with fail
  refine RA.out.mono ?_
  rintro e w9 ⟨v9, rfl, hb9, hlow9⟩
  obtain ⟨p9, c9, rfl⟩ := hb9.form
  have HT9 := Lib.hid (HT8.out.later hlow9)
  have HB9 := Lib.hid hb9
  have RB := Lib.hid (rec_right HT9.out)
  clear hb9 hlow9 RA HT8
  go_wp2_with fail
  refine RB.out.mono ?_
  rintro e w10 ⟨v10, rfl, hb10, hlow10⟩
  obtain ⟨p10, c10, rfl⟩ := hb10.form
  have HT10 := Lib.hid (HT9.out.later hlow10)
  have hr18 := HT10.out.ra.few
  have E := Lib.hid (equalP_same r _ _ w10 (by omega) (HB9.out.prs.later hlow10) hb10.prs)
  clear hb10 hlow10 RB HT9 HB9 hr18
  go_wp2_with fail
  refine E.out.mono ?_
  rintro e w11 ⟨rfl, hb11⟩
  have Hb11 := Lib.hid (HT10.out.later hb11).low
  clear hb11 E
  go_wp2_with fail
  go_ret
  exact ⟨rfl, Hb11.out⟩
set_option maxRecDepth 100000 in
set_option maxHeartbeats 4000000 in
theorem negoParts_4 (l : List Pr) (v : Value) (m : List Pr) (pu : Option Addr) (cu : Nat) (at_ : Int) (dc : Bool) (w : World) (hv : PrsV w v l) (hf : WideP l) (hu : PrsV w (.slice pu m.length cu) m) (hfu : WideP m) (i : Nat) (hi : pickI at_ (m.length + 1) = i) (hil : i ≤ m.length) (hc : ¬ cu = i ∧ ∃ b o, pu = some ⟨b, o, none⟩) (hE : Env w) (hg : ErrCell w) :
    Calls Tryz.prog 3 #[v, .slice pu m.length cu, .int .i64 at_, .bool dc] w fun e w' => e = .returned (.bool true) ∧ Below w.heap.size w w' := by
  have HV := Lib.hid hv
  have HU := Lib.hid hu
  have HF := Lib.hid hf.1
  have HFU := Lib.hid hfu.1
  have HE := Lib.hid hE
  have Hg := Lib.hid hg
  have hml := hfu.1.1
  obtain ⟨p, c, rfl⟩ := hv.form
  have hmc : m.length ≤ cu := by
    obtain ⟨p0, c0, hv0, hlc, _⟩ := hu
    obtain ⟨_, rfl⟩ : _ ∧ cu = c0 := by simpa using hv0
    exact hlc
  have F := Lib.hid (settled_any w hE hg)
  have PK := Lib.hid (fun W => pick_any at_ (m.length + 1) W (by omega) (by omega))
  rw [hi] at PK
  have i0 : (0 : Int) ≤ (i : Int) := by omega
  have iI : (i : Int) ≤ (m.length : Int) := by omega
  have iC : (i : Int) ≤ (cu : Int) := by omega
  have mC : (m.length : Int) ≤ (cu : Int) := by omega
  have mI : (m.length : Int) ≤ 140737488355328 := by omega
  simp only [Int.natCast_add, Int.natCast_one] at PK
  clear hv hu hE hg hi
  obtain ⟨hci, b, o, rfl⟩ := hc
  have hci1 : ¬ i = cu := by omega
  have hci2 : i < cu := by omega
  have hci3 : ¬ cu - i = 0 := by omega
  have hci4 : ¬ cu ≤ i := by omega
  go_enter Tryz.func3, Tryz.ntmps3
  go_wp2_with fail
  refine F.out.mono ?_
  rintro e w0 ⟨rfl, hb0⟩
  have Hb0 := Lib.hid hb0
  clear hb0 F
  have M := Lib.hid (made_any (w := w0) l _ Hb0.out HV.out HF.out HE.out Hg.out)
  go_wp2_with fail
  refine M.out.mono ?_
  rintro e w1 hM
  clear M
  rcases hM with ⟨rfl, hb1⟩ | ⟨nb, mv, rfl, hS1, hbf1, hge1, hb1⟩
  · have Hb1 := Lib.hid (below_then Hb0.out hb1)
    clear hb1
    have M := Lib.hid (made_any (w := w1) l _ Hb1.out HV.out HF.out HE.out Hg.out)
    go_wp2_with fail
    refine M.out.mono ?_
    rintro e w1b hM
    clear M
    rcases hM with ⟨rfl, hb2⟩ | ⟨nc, mc, rfl, _, _, _, hb2⟩
    all_goals
      have Hb2 := Lib.hid (below_then Hb1.out hb2)
      clear hb2
      go_wp2_with fail
      go_ret
      exact ⟨rfl, Hb2.out⟩
  have HS0 := Lib.hid hS1
  have HB0 := Lib.hid hbf1
  have HG0 := Lib.hid hge1
  have Hb1 := Lib.hid (below_then Hb0.out hb1)
  have M := Lib.hid (made_any (w := w1) l _ Hb1.out HV.out HF.out HE.out Hg.out)
  clear hS1 hbf1 hge1 hb1
  go_wp2_with fail
  refine M.out.mono ?_
  rintro e w1b hM
  clear M
  rcases hM with ⟨rfl, hb2⟩ | ⟨nc, mc, rfl, hS2, hbf2, hge2, hb2⟩
  · have Hb2 := Lib.hid (below_then Hb1.out hb2)
    clear hb2
    go_wp2_with fail
    go_ret
    exact ⟨rfl, Hb2.out⟩
  have HT1 := Lib.hid (NT.mk' HS0.out hb2 hS2 hbf2 hge2)
  clear hS2 hbf2 hge2 hb2 HS0 HB0 HG0
  have T := Lib.hid (thickK_any m _ w1b (HU.out.later HT1.out.low) HFU.out.1)
  go_wp2_with fail
  refine T.out.mono ?_
  rintro e w2 ⟨b, rfl, hb2⟩
  have HT2 := Lib.hid (HT1.out.later hb2)
  clear hb2 T HT1
  rcases b_cases b with rfl | rfl
  · go_wp2_with fail
    go_ret
    exact ⟨rfl, HT2.out.low⟩
  obtain ⟨⟨⟨s, n, q⟩, r⟩, hr⟩ : ∃ x, ansN l [] m true dc = x := ⟨_, rfl⟩
  have A := Lib.hid (ans_left hr HT2.out (HT2.out.args HU.out) HFU.out HE.out)
  have hr0 := Lib.hid hr
  clear hr
  go_wp2_with fail
  refine (PK.out _).mono ?_
  rintro e w' ⟨rfl, rfl⟩
  go_wp2_with fail
  refine A.out.mono ?_
  rintro e w3 ⟨v3, ev3, H3, rfl, hb3, he3, hT3, hk3⟩
  obtain ⟨p3, c3, rfl⟩ := hb3.form
  have HT3 := Lib.hid hT3
  by_cases hn : n = 0
  case neg =>
    have her := ansN_err (mine := l) (rec := []) (l := m) (lg := true) (dc := dc) (by rw [hr0.out]; exact hn)
    rw [hr0.out] at her
    obtain ⟨rfl, rfl⟩ := her
    obtain ⟨te, xe, rfl⟩ := he3.iface hn
    have R := Lib.hid (rec_left hT3)
    clear hb3 he3 hT3 hk3 A HT2 hr0
    simp only [List.length_nil]
    go_wp2_with fail
    refine R.out.mono ?_
    rintro e w4 ⟨v4, rfl, hb4, hlow4⟩
    obtain ⟨p4, c4, rfl⟩ := hb4.form
    have Hb4 := Lib.hid (HT3.out.later hlow4).low
    clear hb4 hlow4 R
    simp only [List.length_nil]
    go_wp2_with fail
    go_ret
    exact ⟨rfl, Hb4.out⟩
  subst hn
  obtain rfl := he3.zero
  obtain ⟨g1, g2, g3, g4⟩ := ans_parts (mine := l) (l := m) (dc := dc) i (by rw [hr0.out])
  rw [hr0.out] at g3 g4
  obtain ⟨⟨⟨s1, n1, q1⟩, r1⟩, hr1⟩ : ∃ x, ansN l [] (m.take i) true dc = x := ⟨_, rfl⟩
  rw [hr1] at g1 g2 g3 g4
  simp only at g1 g2 g3 g4
  subst g1
  obtain ⟨⟨⟨s2, n2, q2⟩, r2⟩, hr2⟩ : ∃ x, ansN l r1 (m.drop i) true dc = x := ⟨_, rfl⟩
  rw [hr2] at g2 g3 g4
  simp only at g2 g3 g4
  subst g2 g4
  have Hs := Lib.hid g3
  clear g3
  have HB3 := Lib.hid hb3
  have HL1 := Lib.hid (said_len hr1)
  have HL2 := Lib.hid (said_len hr2)
  have A1 := Lib.hid (ans_right hr1 hT3 ((hT3.args HU.out).take hil) ⟨by rw [List.length_take]; omega, fun p hp => HFU.out.2 p (List.mem_of_mem_take hp)⟩ HE.out)
  clear hb3 he3 hT3 hk3 A HT2 hr0 hr1
  go_wp2_with fail
  refine A1.out.mono ?_
  rintro e w4 ⟨v4, ev4, K4, rfl, hb4, he4, hT4, hk4⟩
  obtain rfl := he4.zero
  obtain ⟨p4, c4, rfl⟩ := hb4.form
  have HT4 := Lib.hid hT4
  have HB3 := Lib.hid (HB3.out.kp hk4)
  have HB4 := Lib.hid hb4
  have hdv := ((hT4.args HU.out).dropS hil)
  have A2 := Lib.hid (ans_right hr2 hT4 hdv ⟨by rw [List.length_drop]; omega, fun p hp => HFU.out.2 p (List.mem_of_mem_drop hp)⟩ HE.out)
  clear hb4 he4 hT4 hk4 A1 hr2 hdv HT3
  go_wp2_with fail
  refine A2.out.mono ?_
  rintro e w5 ⟨v5, ev5, K5, rfl, hb5, he5, hT5, hk5⟩
  obtain rfl := he5.zero
  obtain ⟨p5, c5, rfl⟩ := hb5.form
  have HT5 := Lib.hid hT5
  have hB3 := (HB3.out.kp hk5).prs.off
  have hB4 := (HB4.out.kp hk5).prs.off
  have hB5 := hb5.prs.off
  obtain ⟨w6, hw6⟩ : ∃ w6, w5.alloc (.cells #[.slice p4 s1.length c4, .slice p5 s2.length c5] 22) = w6 := ⟨_, rfl⟩
  have hb6 : Below w5.heap.size w5 w6 := by rw [← hw6]; exact (Below.refl _ _).alloc (Nat.le_refl _) _
  have bK : Blk w6 w5.heap.size #[.slice p4 s1.length c4, .slice p5 s2.length c5] 22 := by rw [← hw6]; exact Blk.new w5 _ _
  have HT6 := Lib.hid (hT5.later hb6)
  have HB6 := Lib.hid (hB3.later hb6)
  have hlen : s1.length ≤ 1000 ∧ s2.length ≤ 1000 := by
    have h1 := HL1.out
    have h2 := HL2.out
    omega
  have CC0 := concatP_any s1 s2 _ _ w5.heap.size w6 (hB4.later hb6) (hB5.later hb6) bK.two.1 bK.two.2 hlen.1 hlen.2
  rw [← Hs.out] at CC0
  have CC := Lib.hid CC0
  have Hlen := Lib.hid hlen
  clear hb5 he5 hT5 hk5 A2 HB3 HB4 hB3 hB4 hB5 hb6 bK HT4 hlen CC0
  go_wp2_with fail
  refine CC.out.mono ?_
  rintro e w7 ⟨v7, rfl, hb7, hlow7⟩
  obtain ⟨p7, c7, rfl⟩ := hb7.form
  have HT7 := Lib.hid (HT6.out.later hlow7)
  have E := Lib.hid (equalP_same s _ _ w7 (by rw [Hs.out, List.length_append]; have := Hlen.out; omega) (HB6.out.later hlow7) hb7.prs)
  clear hb7 hlow7 CC HT6 HB6
  go_wp2_with fail
  refine E.out.mono ?_
  rintro e w8 ⟨rfl, hb8⟩
  have HT8 := Lib.hid (HT7.out.later hb8)
  have RA := Lib.hid (rec_left HT8.out)
  clear hb8 E HT7
  go_wp2_with fail
  refine RA.out.mono ?_
  rintro e w9 ⟨v9, rfl, hb9, hlow9⟩
  obtain ⟨p9, c9, rfl⟩ := hb9.form
  have HT9 := Lib.hid (HT8.out.later hlow9)
  have HB9 := Lib.hid hb9
  have RB := Lib.hid (rec_right HT9.out)
  clear hb9 hlow9 RA HT8
  go_wp2_with fail
  refine RB.out.mono ?_
  rintro e w10 ⟨v10, rfl, hb10, hlow10⟩
  obtain ⟨p10, c10, rfl⟩ := hb10.form
  have HT10 := Lib.hid (HT9.out.later hlow10)
  have hr18 := HT10.out.ra.few
  have E := Lib.hid (equalP_same r _ _ w10 (by omega) (HB9.out.prs.later hlow10) hb10.prs)
  clear hb10 hlow10 RB HT9 HB9 hr18
  go_wp2_with fail
  refine E.out.mono ?_
  rintro e w11 ⟨rfl, hb11⟩
  have Hb11 := Lib.hid (HT10.out.later hb11).low
  clear hb11 E
  go_wp2_with fail
  go_ret
  exact ⟨rfl, Hb11.out⟩
theorem negoParts_any (l : List Pr) (v : Value) (m : List Pr) (u : Value) (at_ : Int) (dc : Bool) (w : World) (hv : PrsV w v l) (hf : WideP l) (hu : PrsV w u m) (hfu : WideP m) (hw : (Lit.int .i64 at_).wf = true) (hE : Env w) (hg : ErrCell w) :
    Calls Tryz.prog 3 #[v, u, .int .i64 at_, .bool dc] w fun e w' => e = .returned (.bool true) ∧ Below w.heap.size w w' := by
  obtain ⟨pu, cu, rfl⟩ := hu.form
  have hil := pickI_lt at_ (m.length + 1) (by omega)
  obtain ⟨i, hi⟩ : ∃ i, pickI at_ (m.length + 1) = i := ⟨_, rfl⟩
  rw [hi] at hil
  by_cases h0 : 0 < m.length
  · obtain ⟨b, o, hp, _⟩ := hu.cell h0
    by_cases hci : cu = i
    · exact negoParts_3 l v m pu cu at_ dc w hv hf hu hfu i hi (by omega) ⟨hci, b, o, hp⟩ hE hg
    · exact negoParts_4 l v m pu cu at_ dc w hv hf hu hfu i hi (by omega) ⟨hci, b, o, hp⟩ hE hg
  · obtain rfl := List.eq_nil_of_length_eq_zero (show m.length = 0 by omega)
    cases pu with
    | none => exact negoParts_1 l v [] none cu at_ dc w hv hf hu hfu i hi (by omega) ⟨rfl, rfl⟩ hE hg
    | some a => exact negoParts_2 l v [] (some a) cu at_ dc w hv hf hu hfu i hi (by omega) ⟨rfl, a, rfl⟩ hE hg
end Go.Proofs.YteapbjeapnmloaaGreatDoor
