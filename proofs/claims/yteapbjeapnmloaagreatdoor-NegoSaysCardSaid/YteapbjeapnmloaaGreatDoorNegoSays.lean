/- NegoSays: what is said is said to what was offered, in order; to what is told nothing. -/
import Derived.Test.YteapbjeapnmloaaGreatDoorGJ
import Derived.Test.YteapbjeapnmloaaGreatDoorOpenPrs
import Derived.Deep.Cut
import Derived.Deep.CutBlock
import Derived.Deep.CutRange
namespace Go.Proofs.YteapbjeapnmloaaGreatDoor
open Go.RowKit
set_option linter.unusedVariables false
theorem saids_take {f : Pr → Option (List UInt8) × Option (List UInt8)} {l : List Pr} {j : Nat} (hj : j < l.length) : saids f (l.take (j + 1)) = saids f (l.take j) ++ asP l[j].k (f l[j]).1 := by
  rw [← List.take_append_getElem hj]
  unfold saids
  rw [List.flatMap_append]
  simp
theorem saids_at {f : Pr → Option (List UInt8) × Option (List UInt8)} {l : List Pr} {j : Nat} {y : List UInt8} (hj : j < l.length) (hy : (f l[j]).1 = some y) : ∃ h : (saids f (l.take j)).length < (saids f l).length, (saids f l)[(saids f (l.take j)).length] = ⟨l[j].k, y⟩ := by
  have e : saids f l = saids f (l.take (j + 1)) ++ saids f (l.drop (j + 1)) := by
    unfold saids
    rw [← List.flatMap_append, List.take_append_drop]
  have e2 : saids f l = saids f (l.take j) ++ ⟨l[j].k, y⟩ :: saids f (l.drop (j + 1)) := by
    rw [e, saids_take hj, hy]
    simp [asP]
  have hlen : (saids f (l.take j)).length < (saids f l).length := by rw [e2]; simp
  refine ⟨hlen, ?_⟩
  have h1 : (saids f l)[(saids f (l.take j)).length]? = some ⟨l[j].k, y⟩ := by
    rw [e2, List.getElem?_append_right (Nat.le_refl _), Nat.sub_self]
    rfl
  rw [List.getElem?_eq_getElem hlen] at h1
  exact Option.some.inj h1
set_option maxRecDepth 100000 in
set_option maxHeartbeats 4000000 in
theorem negoSays_any (l : List Pr) (v : Value) (m : List Pr) (u : Value) (lg dc : Bool) (w : World) (hv : PrsV w v l) (hf : WideP l) (hu : PrsV w u m) (hfu : WideP m) (hE : Env w) (hg : ErrCell w) :
    Calls Tryz.prog 6 #[v, u, .bool lg, .bool dc] w fun e w' => e = .returned (.bool true) ∧ Below w.heap.size w w' := by
  have HV := Lib.hid hv
  have HU := Lib.hid hu
  have HF := Lib.hid hf.1
  have HFU := Lib.hid hfu.1
  have HE := Lib.hid hE
  have Hg := Lib.hid hg
  obtain ⟨p, c, rfl⟩ := hv.form
  obtain ⟨pu, cu, rfl⟩ := hu.form
  have F := Lib.hid (settled_any w hE hg)
  clear hv hu hE hg
  go_enter Tryz.func6, Tryz.ntmps6
  go_wp2_with fail
  refine F.out.mono ?_
  rintro e w0 ⟨rfl, hb0⟩
  have Hb0 := Lib.hid hb0
  clear hb0 F
  have KY := Lib.hid (keyed_any w0 (HE.out.later Hb0.out) (Hg.out.later Hb0.out))
  go_wp2_with fail
  refine KY.out.mono ?_
  rintro e w0k ⟨rfl, hbk⟩
  have Hb0 := Lib.hid (below_then Hb0.out hbk)
  clear hbk KY
  have M := Lib.hid (made_any (w := w0k) l _ Hb0.out HV.out HF.out HE.out Hg.out)
  go_wp2_with fail
  refine M.out.mono ?_
  rintro e w1 hM
  clear M
  rcases hM with ⟨rfl, hb1⟩ | ⟨nb, mv, rfl, hS1, hbf1, hge1, hb1⟩
  · have Hb1 := Lib.hid (below_then Hb0.out hb1)
    clear hb1
    go_wp2_with fail
    go_ret
    exact ⟨rfl, Hb1.out⟩
  have HS1 := Lib.hid hS1
  clear hS1 hbf1 hge1 hb1
  have T := Lib.hid (thickK_any m _ w1 (HU.out.later HS1.out.low) HFU.out.1)
  go_wp2_with fail
  refine T.out.mono ?_
  rintro e w2 ⟨b, rfl, hb2⟩
  have HS2 := Lib.hid (HS1.out.later hb2)
  clear hb2 T HS1
  rcases b_cases b with rfl | rfl
  · go_wp2_with fail
    go_ret
    exact ⟨rfl, HS2.out.low⟩
  obtain ⟨⟨⟨s, n, q⟩, r⟩, hr⟩ : ∃ x, ansN l [] m lg dc = x := ⟨_, rfl⟩
  have A := Lib.hid (ans_ns hr HS2.out (HS2.out.args HU.out) HFU.out HE.out)
  have Hr := Lib.hid hr
  clear hr
  go_wp2_with fail
  refine A.out.mono ?_
  rintro e w3 ⟨v3, ev3, H3, rfl, hb3, he3, hS3, hk3⟩
  obtain ⟨p3, c3, rfl⟩ := hb3.form
  have HS3 := Lib.hid hS3
  by_cases hn : n = 0
  case neg =>
    have her := (ansN_err (mine := l) (rec := []) (l := m) (lg := lg) (dc := dc) (by rw [Hr.out]; exact hn)).1
    rw [Hr.out] at her
    simp only at her
    subst her
    obtain ⟨te, xe, rfl⟩ := he3.iface hn
    clear hb3 he3 hS3 hk3 A HS2 Hr
    simp only [List.length_nil]
    go_wp2_with fail
    go_ret
    exact ⟨rfl, HS3.out.low⟩
  subst hn
  obtain rfl := he3.zero
  obtain ⟨hok, hfew, _, _, hgood⟩ := ansN_good (mine := l) (rec := []) (l := m) (lg := lg) (dc := dc) (by rw [Hr.out])
  rw [Hr.out, goN_said] at hgood
  have hsd : s = saids (oneN l lg dc) m := congrArg (fun x => x.1.1) hgood
  have Hsd := Lib.hid hsd
  have Hok := Lib.hid hok
  have HB3 := Lib.hid hb3.prs.off
  have hs60 : s.length ≤ 60 := by
    rw [hsd, ← goN_said (oneN l lg dc) m []]
    have hgl : ∀ (f : Pr → Option (List UInt8) × Option (List UInt8)) (l rec : List Pr), (goN f l rec).1.length ≤ l.length := fun f l => by
      induction l with
      | nil => exact fun _ => Nat.le_refl _
      | cons p l ih =>
        intro rec
        rw [goN_cons]
        have h1 := ih (recN rec p.k (f p).2)
        have h2 : (asP p.k (f p).1).length ≤ 1 := by cases (f p).1 <;> simp [asP]
        simp only [List.length_append, List.length_cons]
        omega
    exact Nat.le_trans (hgl _ _ _) hfew
  have hm60 : (m.length : Int) ≤ 60 := by omega
  clear hb3 he3 hS3 hk3 A HS2 Hr hgood hsd hok
  go_wp2_with fail
  go_loopw [12, 48] (fun a i wr => ∃ j k : Nat, j ≤ m.length ∧ i = .int .i64 j ∧ a = .int .i64 k ∧ k ≤ 60 ∧ Hid (k = (saids (oneN l lg dc) (m.take j)).length) ∧ Below w3.heap.size w3 wr) (fun _ i _ => m.length - (intOf i).toNat)
  case atStart => exact ⟨0, 0, by omega, rfl, rfl, by omega, Lib.hid (by simp [saids]), Below.refl _ _⟩
  case round =>
    obtain ⟨j, k, hj, rfl, rfl, hk60, Hk, hb⟩ := hrel
    have Hb := Lib.hid hb
    by_cases hlt : j < m.length
    · obtain ⟨b, o, rfl, h1, h2⟩ := (HU.out.later (HS3.out.later hb).low).cell hlt
      have hwp := Hok.out m[j] (List.getElem_mem hlt)
      have hka := thick_okP hwp
      have hstep := saids_take (f := oneN l lg dc) hlt
      have hat := fun y hy => saids_at (f := oneN l lg dc) (y := y) hlt hy
      have hqt := oneN_quiet (mine := l) (lg := lg) (dc := dc) (p := m[j])
      rw [← Hk.out, ← Hsd.out] at hat
      obtain ⟨⟨kk, d⟩, hx⟩ : ∃ x, m[j] = x := ⟨_, rfl⟩
      rw [hx] at h1 h2 hka hstep hat hqt
      simp only at h1 h2 hka hstep hat
      obtain ⟨w4, hw4⟩ : ∃ w4, wr.alloc (.cells #[.string (S kk), .string (S d)] 35) = w4 := ⟨_, rfl⟩
      have hb4 : Below wr.heap.size wr w4 := by rw [← hw4]; exact (Below.refl _ _).alloc (Nat.le_refl _) _
      have hP4 : Blk w4 wr.heap.size #[.string (S kk), .string (S d)] 35 := by rw [← hw4]; exact Blk.new wr _ _
      obtain ⟨xb, hxb⟩ : ∃ xb, wr.heap.size = xb := ⟨_, rfl⟩
      rw [hxb] at hP4
      have HP4 := Lib.hid hP4
      have hb5 := below_then hb hb4
      have Hb4 := Lib.hid hb5
      obtain ⟨qv, hqv⟩ : ∃ x, quietN lg dc ⟨kk, d⟩ = x := ⟨_, rfl⟩
      rw [hqv] at hqt
      have Hqv := Lib.hid hqv
      have hjI : (j : Int) < (m.length : Int) := by omega
      have Hstep := Lib.hid hstep
      have Hat := Lib.hid hat
      have Hqt := Lib.hid hqt
      obtain ⟨x0, x1⟩ := HP4.out.two
      clear hb hb4 hP4 hx hstep hat hqt hb5 hwp hqv
      cases hrow : rowOf kk with
      | none =>
        have hq0 : qv = false := by rw [← Hqv.out]; unfold quietN; simp only [hrow]
        subst hq0
        have hone : (oneN l lg dc ⟨kk, d⟩).1 = some notL := by rw [oneN_no (p := ⟨kk, d⟩) hrow]
        obtain ⟨hkl, hks⟩ := Hat.out _ hone
        have hst := Hstep.out
        rw [hone] at hst
        have Hk2 := Lib.hid (show k + 1 = (saids (oneN l lg dc) (m.take (j + 1))).length by rw [hst, List.length_append, ← Hk.out]; rfl)
        have C := Lib.hid (of_no w4 hrow)
        unfold notL at hks
        have Hks := Lib.hid hks
        have hkI : (k : Int) < (s.length : Int) := by omega
        have hkd : decide ((s.length : Int) ≤ (k : Int)) = false := decide_eq_false (by omega)
        clear hrow hone hst hks
        go_wp2_with fail
        refine C.out.mono ?_
        rintro e w5 ⟨rfl, hb5⟩
        obtain ⟨w6, hw6⟩ : ∃ w6, w5.alloc (.cells #[.string (S []), .int .i64 0, .int .i64 0, .int .i64 0, .string (S []), .bool false, .bool false] 48) = w6 := ⟨_, rfl⟩
        have hb6 : Below w4.heap.size w4 w6 := by rw [← hw6]; exact hb5.alloc hb5.size _
        have hb7 := below_then Hb4.out hb6
        have Hb7 := Lib.hid hb7
        obtain ⟨y0, y1⟩ := (HP4.out.later hb6).two
        obtain ⟨b3, o3, rfl, g1, g2⟩ := (HB3.out.later hb7).cell hkl
        rw [Hks.out] at g1 g2
        simp only at g1 g2
        have e1 : (kk == kk) = true := by simp
        have e2 : (kk != kk) = false := by simp
        subst hw6
        clear hb5 hb6 hb7 C x0 x1
        go_wp2_with fail
        go_quiet (fail)
        go_wp2_with fail
        go_roundw
        case rel => exact ⟨j + 1, k + 1, by omega, by go_num, by go_num, by have := hs60; omega, Hk2, below_drewN Hb7.out _⟩
        case measure => simp [intOf]; omega
      | some ke =>
        have hqq : qv = (decide (ke.kd = 6 ∨ ke.kd = 7) && decide (fitK ke d = 0) && (lg || !ke.lg) && (!dc || !ke.no)) := by rw [← Hqv.out]; unfold quietN; simp only [hrow]
        have KF := Lib.hid (fun (q : Nat) (ev : Value) (hq : fitK ke d = q) (he : errV (q : Int) = ev) W (hW : Below w3.heap.size w3 W) => fits_at (nm := kk) (v := d) (n := q) (ev := ev) W (by rw [keyFits_of hrow]; exact hq) he (by omega) (HE.out.later (HS3.out.later hW).low))
        obtain ⟨kn, kd, lo, hi2, df, no, klg⟩ := ke
        have C0 := of_row w4 hrow
        obtain ⟨K, hKd⟩ : ∃ K : Int, (kd : Int) = K := ⟨_, rfl⟩
        rw [hKd] at C0
        have C := Lib.hid C0
        simp only at hqq
        obtain ⟨kq, hkq⟩ : ∃ x, decide (kd = 6 ∨ kd = 7) = x := ⟨_, rfl⟩
        rw [hkq] at hqq
        have hK6 : (kq = true ∧ (K = 6 ∨ K = 7)) ∨ (kq = false ∧ ¬ K = 6 ∧ ¬ K = 7) := by
          by_cases h : kd = 6 ∨ kd = 7
          · rw [decide_eq_true h] at hkq
            exact .inl ⟨hkq.symm, by omega⟩
          · rw [decide_eq_false h] at hkq
            exact .inr ⟨hkq.symm, by omega, by omega⟩
        have Hqq := Lib.hid hqq
        clear hrow C0 hKd hkq hqq
        go_wp2_with fail
        refine C.out.mono ?_
        rintro e w5 ⟨rfl, hb5⟩
        obtain ⟨w6, hw6⟩ : ∃ w6, w5.alloc (.cells #[.string (S kn), .int .i64 K, .int .i64 (lo : Int), .int .i64 (hi2 : Int), .string (S df), .bool no, .bool klg] 48) = w6 := ⟨_, rfl⟩
        have hb6 : Below w4.heap.size w4 w6 := by rw [← hw6]; exact hb5.alloc hb5.size _
        have hK6b : Blk w6 w5.heap.size #[.string (S kn), .int .i64 K, .int .i64 (lo : Int), .int .i64 (hi2 : Int), .string (S df), .bool no, .bool klg] 48 := by rw [← hw6]; exact Blk.new w5 _ _
        obtain ⟨kb, hkb⟩ : ∃ kb, w5.heap.size = kb := ⟨_, rfl⟩
        rw [hkb] at hK6b
        have HK6 := Lib.hid hK6b
        have HP6 := Lib.hid (HP4.out.later hb6)
        have hb7 := below_then Hb4.out hb6
        have Hb7 := Lib.hid hb7
        obtain ⟨y0, y1⟩ := HP6.out.two
        obtain ⟨c0, c1, c2, c3', c4, c5, c6⟩ := HK6.out.seven
        clear hb5 hb6 hb7 hK6b C x0 x1
        go_upto_region 14 with (fail)
        clear hw6
        go_cut [17] from 58 to 94 (fun q W => q = .bool qv ∧ Below w6.heap.size w6 W)
        case first =>
          rcases hK6 with ⟨rfl, hk67⟩ | ⟨rfl, hk6, hk7⟩
          · by_cases hf0 : fitK ⟨kn, kd, lo, hi2, df, no, klg⟩ d = 0
            · have hq2 := Hqq.out
              rw [decide_eq_true hf0] at hq2
              have K3 := Lib.hid (KF.out 0 .nilIface hf0 rfl w6 Hb7.out)
              clear KF hf0
              rcases hk67 with rfl | rfl <;> cases lg <;> cases klg <;> cases dc <;> cases no
              all_goals
                simp only [Bool.and_true, Bool.not_true, Bool.not_false, Bool.and_false, Bool.or_true, Bool.or_false] at hq2
                subst hq2
                go_wp2_with fail
                refine K3.out.mono ?_
                rintro e w8 ⟨rfl, hb8⟩
                obtain ⟨d0, d1, d2, d3, d4, d5, d6⟩ := (HK6.out.later hb8).seven
                have Hb8 := Lib.hid hb8
                clear hb8
                go_wp2_with fail
                go_meet
                exact ⟨rfl, Hb8.out⟩
            · have hq2 := Hqq.out
              rw [decide_eq_false hf0] at hq2
              simp only [Bool.and_false, Bool.false_and] at hq2
              subst hq2
              have K3 := Lib.hid (KF.out _ _ rfl (errV_pos _ (by omega)) w6 Hb7.out)
              clear KF hf0
              rcases hk67 with rfl | rfl
              all_goals
                go_wp2_with fail
                refine K3.out.mono ?_
                rintro e w8 ⟨rfl, hb8⟩
                have Hb8 := Lib.hid hb8
                clear hb8
                go_wp2_with fail
                go_meet
                exact ⟨rfl, Hb8.out⟩
          · have hq2 := Hqq.out
            simp only [Bool.false_and] at hq2
            subst hq2
            have hk6b : (K == 6) = false := by simpa using hk6
            have hk7b : (K == 7) = false := by simpa using hk7
            clear KF
            go_wp2_with fail
            go_meet
            exact ⟨rfl, Below.refl _ _⟩
        case rest =>
          obtain ⟨rfl, hb8⟩ := hcut
          have hb9 := below_then Hb7.out hb8
          have Hb9 := Lib.hid hb9
          obtain ⟨z0, z1⟩ := (HP6.out.later hb8).two
          rcases b_cases qv with rfl | rfl
          · have hone : (oneN l lg dc ⟨kk, d⟩).1 = none := Hqt.out.2 rfl
            have hst := Hstep.out
            rw [hone] at hst
            have Hk2 := Lib.hid (show k = (saids (oneN l lg dc) (m.take (j + 1))).length by rw [hst]; simp only [asP, List.append_nil]; exact Hk.out)
            clear hb8 hb9 hone hst y0 y1
            go_wp2_with fail
            go_roundw
            case rel => exact ⟨j + 1, k, by omega, by go_num, rfl, hk60, Hk2, Hb9.out⟩
            case measure => simp [intOf]; omega
          · obtain ⟨y, hone⟩ : ∃ y, (oneN l lg dc ⟨kk, d⟩).1 = some y := by
              cases h : (oneN l lg dc ⟨kk, d⟩).1 with
              | none => have := Hqt.out.1 h; cases this
              | some y => exact ⟨y, rfl⟩
            obtain ⟨hkl, hks⟩ := Hat.out _ hone
            have hst := Hstep.out
            rw [hone] at hst
            have Hk2 := Lib.hid (show k + 1 = (saids (oneN l lg dc) (m.take (j + 1))).length by rw [hst, List.length_append, ← Hk.out]; rfl)
            have hkI : (k : Int) < (s.length : Int) := by omega
            have hkd : decide ((s.length : Int) ≤ (k : Int)) = false := decide_eq_false (by omega)
            obtain ⟨b3, o3, rfl, g1, g2⟩ := (HB3.out.later hb9).cell hkl
            rw [hks] at g1 g2
            simp only at g1 g2
            have e1 : (kk == kk) = true := by simp
            have e2 : (kk != kk) = false := by simp
            clear hb8 hb9 hone hst hks y0 y1
            go_wp2_with fail
            go_quiet (fail)
            go_wp2_with fail
            go_roundw
            case rel => exact ⟨j + 1, k + 1, by omega, by go_num, by go_num, by have := hs60; omega, Hk2, below_drewN Hb9.out _⟩
            case measure => simp [intOf]; omega
    · obtain rfl : j = m.length := by omega
      have hk := Hk.out
      rw [List.take_length, ← Hsd.out] at hk
      subst hk
      have Hl := Lib.hid (HS3.out.later hb).low
      clear hb hlt
      go_wp2_with fail
      go_ret
      exact ⟨by simp, Hl.out⟩
end Go.Proofs.YteapbjeapnmloaaGreatDoor
