/- NegoLater: behind a login nothing of a login alone is taken; what is told again is the newest. -/
import Derived.Test.YteapbjeapnmloaaGreatDoorGJ
import Derived.Test.YteapbjeapnmloaaGreatDoorOpenPrs
import Derived.Test.YteapbjeapnmloaaGreatDoorGI
namespace Go.Proofs.YteapbjeapnmloaaGreatDoor
open Go.RowKit
set_option linter.unusedVariables false
theorem alias_ok {a : List UInt8} (h : isVal a = true) : wrongP ⟨aliasL, a⟩ = 0 := by unfold wrongP; simp only; rw [if_pos alias_key, if_pos h]
theorem ans_alias' (mine rec : List Pr) (a : List UInt8) (ha : isVal a = true) : ∃ s q, ansN mine rec [⟨aliasL, a⟩] false false = ((s, 0, q), recN rec aliasL (if a = [] then none else some a)) := by
  obtain ⟨h1, h2⟩ := ans_alias mine rec a ha
  obtain ⟨⟨⟨s, n, q⟩, r⟩, hr⟩ : ∃ x, ansN mine rec [⟨aliasL, a⟩] false false = x := ⟨_, rfl⟩
  rw [hr] at h1 h2
  simp only at h1 h2
  subst h1 h2
  exact ⟨s, q, hr⟩
set_option maxRecDepth 100000 in
set_option maxHeartbeats 4000000 in
theorem negoLater_any (l : List Pr) (v : Value) (m : List Pr) (u : Value) (a b : List UInt8) (w : World) (hv : PrsV w v l) (hf : WideP l) (hu : PrsV w u m) (hfu : WideP m) (ha : a.length ≤ 140737488351232) (hb : b.length ≤ 140737488351232) (hE : Env w) (hg : ErrCell w) :
    Calls Tryz.prog 8 #[v, u, .string (S a), .string (S b)] w fun e w' => e = .returned (.bool true) ∧ Below w.heap.size w w' := by
  have HV := Lib.hid hv
  have HU := Lib.hid hu
  have HF := Lib.hid hf.1
  have HFU := Lib.hid hfu.1
  have HE := Lib.hid hE
  have Hg := Lib.hid hg
  have VA := Lib.hid (fun W => value_any2 a W (by omega))
  have VB := Lib.hid (fun W => value_any2 b W (by omega))
  obtain ⟨p, c, rfl⟩ := hv.form
  obtain ⟨pu, cu, rfl⟩ := hu.form
  have F := Lib.hid (settled_any w hE hg)
  obtain ⟨va, hva⟩ : ∃ x, isVal a = x := ⟨_, rfl⟩
  obtain ⟨vb, hvb⟩ : ∃ x, isVal b = x := ⟨_, rfl⟩
  rw [hva] at VA
  rw [hvb] at VB
  have Hva := Lib.hid hva
  have Hvb := Lib.hid hvb
  clear hv hu hE hg ha hb hva hvb
  go_enter Tryz.func8, Tryz.ntmps8
  go_wp2_with fail
  refine F.out.mono ?_
  rintro e w0 ⟨rfl, hb0⟩
  have Hb0 := Lib.hid hb0
  clear hb0 F
  have KY := Lib.hid (keyed_any w0 (HE.out.later Hb0.out) (Hg.out.later Hb0.out))
  go_wp2_with fail
  refine KY.out.mono ?_
  rintro e w0k ⟨rfl, hbk⟩
  have Hb0 := Lib.hid (below_then Hb0.out hbk)
  clear hbk KY
  have M := Lib.hid (made_any (w := w0k) l _ Hb0.out HV.out HF.out HE.out Hg.out)
  go_wp2_with fail
  refine M.out.mono ?_
  rintro e w1 hM
  clear M
  rcases hM with ⟨rfl, hb1⟩ | ⟨nb, mv, rfl, hS1, hbf1, hge1, hb1⟩
  · have Hb1 := Lib.hid (below_then Hb0.out hb1)
    clear hb1
    go_wp2_with fail
    go_ret
    exact ⟨rfl, Hb1.out⟩
  have HS1 := Lib.hid hS1
  clear hS1 hbf1 hge1 hb1
  have T := Lib.hid (thickK_any m _ w1 (HU.out.later HS1.out.low) HFU.out.1)
  go_wp2_with fail
  refine T.out.mono ?_
  rintro e w2 ⟨b, rfl, hb2⟩
  have HS2 := Lib.hid (HS1.out.later hb2)
  clear hb2 T HS1
  rcases b_cases b with rfl | rfl
  · go_wp2_with fail
    go_ret
    exact ⟨rfl, HS2.out.low⟩
  go_wp2_with fail
  refine (VA.out w2).mono ?_
  rintro e w' ⟨rfl, rfl⟩
  rcases b_cases va with rfl | rfl
  case inr =>
    go_wp2_with fail
    go_ret
    exact ⟨rfl, HS2.out.low⟩
  go_wp2_with fail
  refine (VB.out w2).mono ?_
  rintro e w' ⟨rfl, rfl⟩
  rcases b_cases vb with rfl | rfl
  case inr =>
    go_wp2_with fail
    go_ret
    exact ⟨rfl, HS2.out.low⟩
  obtain ⟨⟨⟨s, n, q⟩, r⟩, hr⟩ : ∃ x, ansN l [] m false false = x := ⟨_, rfl⟩
  have hlater := ans_later l m false
  rw [hr] at hlater
  have Hlater := Lib.hid hlater
  have A := Lib.hid (ans_ns hr HS2.out (HS2.out.args HU.out) HFU.out HE.out)
  clear hr hlater VA VB
  go_wp2_with fail
  refine A.out.mono ?_
  rintro e w3 ⟨v3, ev3, H3, rfl, hb3, he3, hS3, hk3⟩
  have HS3 := Lib.hid hS3
  have R := Lib.hid (rec_ns hS3)
  clear hb3 he3 hS3 hk3 A HS2
  go_wp2_with fail
  refine R.out.mono ?_
  rintro e w4 ⟨v4, rfl, hb4, hlow4⟩
  obtain ⟨p4, c4, rfl⟩ := hb4.form
  have HS4 := Lib.hid (HS3.out.later hlow4)
  have HB4 := Lib.hid hb4
  have hr18 : r.length ≤ 18 := HS4.out.rok.few
  clear R hlow4 HS3 hb4
  go_wp2_with fail
  go_loopw [53] (fun i wr => ∃ j : Nat, j ≤ r.length ∧ i = .int .i64 j ∧ Below w4.heap.size w4 wr) (fun i _ => r.length - (intOf i).toNat)
  case atStart => exact ⟨0, by omega, rfl, Below.refl _ _⟩
  case round =>
    obtain ⟨j, hj, rfl, hb⟩ := hrel
    have Hbq := Lib.hid hb
    by_cases hlt : j < r.length
    · obtain ⟨bb, o, rfl, h1, h2⟩ := (HB4.out.prs.later hb).cell hlt
      obtain ⟨k, hrow, hlg⟩ := Hlater.out r[j] (List.getElem_mem hlt)
      obtain ⟨⟨kk, d⟩, hx⟩ : ∃ x, r[j] = x := ⟨_, rfl⟩
      rw [hx] at h1 h2 hrow
      simp only at h1 h2 hrow
      obtain ⟨kn, kd, lo, hi, df, no, lg⟩ := k
      simp only at hlg
      subst hlg
      obtain ⟨w5, hw5⟩ : ∃ w5, wr.alloc (.cells #[.string (S kk), .string (S d)] 35) = w5 := ⟨_, rfl⟩
      have hb5 : Below wr.heap.size wr w5 := by rw [← hw5]; exact (Below.refl _ _).alloc (Nat.le_refl _) _
      have hP5 : Blk w5 wr.heap.size #[.string (S kk), .string (S d)] 35 := by rw [← hw5]; exact Blk.new wr _ _
      have Hb5 := Lib.hid (below_then hb hb5)
      have C := of_row w5 hrow
      obtain ⟨K, hKd⟩ : ∃ K : Int, (kd : Int) = K := ⟨_, rfl⟩
      rw [hKd] at C
      have C := Lib.hid C
      obtain ⟨x0, x1⟩ := hP5.two
      have hjI : (j : Int) < (r.length : Int) := by omega
      clear hb hb5 hP5 hx hrow hKd
      go_wp2_with fail
      refine C.out.mono ?_
      rintro e w6 ⟨rfl, hb6⟩
      have hb7 := below_then Hb5.out hb6
      have Hb7 := Lib.hid (fun o => hb7.alloc hb7.size o)
      clear hb6 hb7 C
      go_wp2_with fail
      go_roundw
      case rel => exact ⟨j + 1, by omega, by go_num, Hb7.out _⟩
      case measure => simp [intOf]; omega
    · obtain rfl : j = r.length := by omega
      have HS5 := Lib.hid (HS4.out.later hb)
      obtain ⟨s1, q1, hA1⟩ := ans_alias' l r a Hva.out
      obtain ⟨w5, hw5⟩ : ∃ w5, wr.alloc (.cells #[.string (S [73, 110, 105, 116, 105, 97, 116, 111, 114, 65, 108, 105, 97, 115]), .string (S a)] 35) = w5 := ⟨_, rfl⟩
      have hb5 : Below wr.heap.size wr w5 := by rw [← hw5]; exact (Below.refl _ _).alloc (Nat.le_refl _) _
      have hlit := lit_one HS5.out ⟨aliasL, a⟩
      simp only [aliasL] at hlit
      rw [hw5] at hlit
      have A1 := Lib.hid (ans_ns hA1 (HS5.out.later hb5) hlit (fit_one (alias_ok Hva.out)) HE.out)
      clear hb hb5 hlit hA1 hlt HS5
      go_wp2_with fail
      refine A1.out.mono ?_
      rintro e w6 ⟨v6, ev6, H6, rfl, hb6, he6, hS6, hk6⟩
      obtain rfl := he6.zero
      have HS6 := Lib.hid hS6
      obtain ⟨r6, hr6⟩ : ∃ x, recN r aliasL (if a = [] then none else some a) = x := ⟨_, rfl⟩
      rw [hr6] at HS6
      obtain ⟨s2, q2, hA2⟩ := ans_alias' l r6 b Hvb.out
      obtain ⟨w7, hw7⟩ : ∃ w7, w6.alloc (.cells #[.string (S [73, 110, 105, 116, 105, 97, 116, 111, 114, 65, 108, 105, 97, 115]), .string (S b)] 35) = w7 := ⟨_, rfl⟩
      have hb7 : Below w6.heap.size w6 w7 := by rw [← hw7]; exact (Below.refl _ _).alloc (Nat.le_refl _) _
      have hlit := lit_one HS6.out ⟨aliasL, b⟩
      simp only [aliasL] at hlit
      rw [hw7] at hlit
      have A2 := Lib.hid (ans_ns hA2 (HS6.out.later hb7) hlit (fit_one (alias_ok Hvb.out)) HE.out)
      clear hb6 he6 hS6 hk6 hb7 hlit hA2 hr6 HS6 A1
      go_wp2_with fail
      refine A2.out.mono ?_
      rintro e w8 ⟨v8, ev8, H8, rfl, hb8, he8, hS8, hk8⟩
      obtain rfl := he8.zero
      have HS8 := Lib.hid hS8
      clear hb8 he8 hS8 hk8 A2
      by_cases hb0 : b = []
      · subst hb0
        obtain ⟨x, hx⟩ := val_known (recd := recN r6 aliasL (if ([] : List UInt8) = [] then none else some [])) alias_row
        unfold aliasL at hx
        have V := Lib.hid (val_at (ev := .nilIface) hx rfl HS8.out)
        clear hx
        go_wp2_with fail
        refine V.out.mono ?_
        rintro e w9 ⟨rfl, hb9⟩
        have Hb9 := Lib.hid (HS8.out.later hb9).low
        clear hb9 V
        go_wp2_with fail
        go_ret
        exact ⟨rfl, Hb9.out⟩
      · have hs8 := HS8.out
        rw [if_neg hb0] at hs8
        have hx := val_alias r6 b hb0
        unfold aliasL at hx hs8
        have V := Lib.hid (val_at (ev := .nilIface) hx rfl hs8)
        have e0 : (b == []) = false := by simpa using hb0
        have e1 : (b == b) = true := by simp
        clear hx hs8 hb0
        go_wp2_with fail
        refine V.out.mono ?_
        rintro e w9 ⟨rfl, hb9⟩
        have Hb9 := Lib.hid (HS8.out.later hb9).low
        clear hb9 V
        go_wp2_with fail
        go_ret
        exact ⟨rfl, Hb9.out⟩
end Go.Proofs.YteapbjeapnmloaaGreatDoor
