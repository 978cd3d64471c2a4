/- LA28: several texts in one. -/
import Derived.Deep.Cut
import Derived.Test.YtjbbbpgcegcbaaaGreatDoorLA21
import Derived.Test.YtjbbbpgcegcbaaaGreatDoorLA25
import Derived.Test.YtjbbbpgcegcbaaaGreatDoorLA27
namespace Go.Proofs.YtjbbbpgcegcbaaaGreatDoor
open Go Go.RowKit
set_option linter.unusedVariables false
def RetTake (w : World) (B : Nat) (H : Nat → Prop) (nb : Nat) (mv : Value) (mine m : List Pr) (s : List UInt8) (e : Ending) (w' : World) : Prop := ∃ H', e = .returned (.string (S s)) ∧ NegAt w' B H' nb mv mine m ∧ Keeps w.heap.size w w' H H'
set_option maxRecDepth 100000 in
set_option maxHeartbeats 8000000 in
theorem take_any {w : World} {B : Nat} {H : Nat → Prop} {nb : Nat} {mv : Value} {mine recd : List Pr} (k d : List UInt8) (lg dc : Bool) (h : NegAt w B H nb mv mine recd) (hl : recd.length ≤ 900) (hM : MineOk mine) (hp : wrongP ⟨k, d⟩ = 0) (hE : Env (offW H w)) :
  Calls Tryz.prog 80 #[.pointer (some ⟨nb, 0, none⟩), .agg #[.string (S k), .string (S d)], .bool lg, .bool dc] w (RetTake w B H nb mv mine (recN recd k (oneN mine lg dc ⟨k, d⟩).2) ((oneN mine lg dc ⟨k, d⟩).1.getD [])) := by
 have HN := Lib.hid h
 have hka := thick_okP hp
 simp only at hka
 obtain ⟨wp, hwp⟩ : ∃ wp, w.alloc (.cells #[.string (S k), .string (S d)] 60) = wp := ⟨_, rfl⟩
 have hbp : Below w.heap.size w wp := by rw [← hwp]; exact (Below.refl _ _).alloc (Nat.le_refl _) _
 have hPp : Blk wp w.heap.size #[.string (S k), .string (S d)] 60 := by rw [← hwp]; exact Blk.new w _ _
 obtain ⟨pb, hpb⟩ : ∃ pb, w.heap.size = pb := ⟨_, rfl⟩
 rw [hpb] at hPp
 have HPp := Lib.hid hPp
 have Hbp := Lib.hid hbp
 have Hnp := Lib.hid (show nb < pb by rw [← hpb]; exact (h.base nb h.own).2)
 obtain ⟨x0, x1⟩ := HPp.out.two
 clear h hbp hPp
 cases hr : rowOf k with
 | none =>
  rw [oneN_no (p := ⟨k, d⟩) hr]
  have C := Lib.hid (of_no wp hr)
  show Calls Tryz.prog _ _ w (RetTake w B H nb mv mine recd notL)
  unfold notL
  clear hr hE hM hp
  go_enter Tryz.func80, Tryz.ntmps80
  go_wp2_with fail
  refine C.out.mono ?_
  rintro e w1 ⟨rfl, hb1⟩
  have Hb1 := Lib.hid ((below_then Hbp.out hb1).alloc (below_then Hbp.out hb1).size (.cells #[.string (S []), .int .i64 0, .int .i64 0, .int .i64 0, .string (S []), .bool false, .bool false] 202))
  clear hb1
  go_wp2_with fail
  go_ret
  exact ⟨H, rfl, HN.out.later Hb1.out, Keeps.of Hb1.out H⟩
 | some ke =>
  have hkk := rowOf_ok hr
  have hnm := (rowOf_isKey hr).2
  rw [oneN_row (p := ⟨k, d⟩) hr]
  have ways := oneK_ways mine ke d lg dc
  obtain ⟨x, hx⟩ : ∃ x, ownV mine ke = x := ⟨_, rfl⟩
  have hlx : x.length ≤ 255 := by rw [← hx]; exact ownV_len hM hkk.2.2.2.2.2.1
  rw [hx] at ways
  have OW := Lib.hid (fun W (hb : Below w.heap.size w W) => show Calls Tryz.prog 117 #[.pointer (some ⟨nb, 0, none⟩), .string (S k)] W (RetVE W (x, 0)) from by
   have := ownN_any k (HN.out.later hb) (by have := hM.few; omega)
   rwa [valN_own hr, hx] at this)
  have KF := Lib.hid (fun (q : Nat) (ev : Value) (hq : fitK ke d = q) (he : errV (q : Int) = ev) W (hb : Below w.heap.size w W) => fits_at (nm := k) (v := d) (n := q) (ev := ev) W (by rw [keyFits_of hr]; exact hq) he (by omega) (hE.off.later hb))
  have RS := Lib.hid (fun (y : List UInt8) (q : Nat) (ev : Value) (hq : resK ke d x = (y, q)) (he : errV (q : Int) = ev) W (hb : Below w.heap.size w W) => res_at (nm := k) (a := d) (b := x) (x := y) (n := q) (ev := ev) W (by rw [keyRes_of hr]; exact hq) he (by omega) (by omega) (hE.off.later hb))
  have PT := Lib.hid (fun (y : List UInt8) W (hb : Below w.heap.size w W) => put_any k y (HN.out.later hb) hl)
  obtain ⟨⟨y, yn⟩, hq⟩ : ∃ q, resK ke d x = q := ⟨_, rfl⟩
  rw [hq] at ways
  simp only at ways
  have Hq := Lib.hid hq
  obtain ⟨kn, kd, lo, hi, df, no, kg⟩ := ke
  simp only at hnm
  subst hnm
  have C0 := of_row wp hr
  obtain ⟨K, hKd⟩ : ∃ K : Int, (kd : Int) = K := ⟨_, rfl⟩
  rw [hKd] at C0
  have C := Lib.hid C0
  have HK := Lib.hid hKd
  have hA' : ¬ (kg = true ∧ lg = false) → kg = false ∨ (kg = true ∧ lg = true) := by cases kg <;> cases lg <;> simp
  have hB' : ¬ (no = true ∧ dc = true) → no = false ∨ (no = true ∧ dc = false) := by cases no <;> cases dc <;> simp
  obtain ⟨R, hR⟩ : ∃ R, RetTake w B H nb mv mine (recN recd kn (oneK mine ⟨kn, kd, lo, hi, df, no, kg⟩ d lg dc).2) ((oneK mine ⟨kn, kd, lo, hi, df, no, kg⟩ d lg dc).1.getD []) = R := ⟨_, rfl⟩
  rw [hR]
  have HR := Lib.hid hR
  clear hr hkk hx hlx hq hE hM hp hka C0 hKd hl hR
  go_enter Tryz.func80, Tryz.ntmps80
  go_wp2_with fail
  refine C.out.mono ?_
  rintro e w1 ⟨rfl, hb1⟩
  obtain ⟨w6, hw6⟩ : ∃ w6, w1.alloc (.cells #[.string (S kn), .int .i64 K, .int .i64 lo, .int .i64 hi, .string (S df), .bool no, .bool kg] 202) = w6 := ⟨_, rfl⟩
  have hb6 : Below wp.heap.size wp w6 := by rw [← hw6]; exact hb1.alloc hb1.size _
  have hK6 : Blk w6 w1.heap.size #[.string (S kn), .int .i64 K, .int .i64 lo, .int .i64 hi, .string (S df), .bool no, .bool kg] 202 := by rw [← hw6]; exact Blk.new w1 _ _
  obtain ⟨kb, hkb⟩ : ∃ kb, w1.heap.size = kb := ⟨_, rfl⟩
  rw [hkb] at hK6
  have HK6 := Lib.hid hK6
  have HP6 := Lib.hid (HPp.out.later hb6)
  have Hb6 := Lib.hid (below_then Hbp.out hb6)
  clear hb1 hb6 hK6 x0 x1 C
  obtain ⟨x0, x1⟩ := HP6.out.two
  obtain ⟨c0, c1, c2, c3, c4, c5, c6⟩ := HK6.out.seven
  go_upto_region 2 with (fail)
  clear hw6
  rcases ways with ⟨hA, e⟩ | ⟨hA, hB, e⟩ | ⟨hA, hB, h3, e⟩ | ⟨hA, hB, h3, h4, e⟩ | ⟨hA, hB, h3, h4, h5, e⟩ | ⟨hA, hB, h3, h4, h5, e⟩
  all_goals try simp only at hA
  all_goals have He := Lib.hid e
  all_goals clear e
  ·obtain ⟨rfl, rfl⟩ := hA
   clear hA' hB' KF RS PT OW Hq
   go_wp2_with fail
   rw [← HR.out, He.out]
   exact ⟨H, rfl, HN.out.later Hb6.out, Keeps.of Hb6.out H⟩
  ·try simp only at hB
   obtain ⟨rfl, rfl⟩ := hB
   have hA2 := hA' hA
   clear hA hA' hB' KF RS PT OW Hq
   rcases hA2 with rfl | ⟨rfl, rfl⟩
   all_goals
    go_wp2_with fail
    rw [← HR.out, He.out]
    exact ⟨H, rfl, HN.out.later Hb6.out, Keeps.of Hb6.out H⟩
  ·try simp only at hB
   have K3 := Lib.hid (KF.out _ _ rfl (errV_pos _ (by omega)) w6 Hb6.out)
   have hA2 := hA' hA
   have hB2 := hB' hB
   clear hA hB hA' hB' KF RS PT OW Hq h3
   rcases hA2 with rfl | ⟨rfl, rfl⟩ <;> rcases hB2 with rfl | ⟨rfl, rfl⟩
   all_goals
    go_wp2_with fail
    refine K3.out.mono ?_
    rintro e w8 ⟨rfl, hb8⟩
    have Hb8 := Lib.hid (below_then Hb6.out hb8)
    clear hb8
    go_wp2_with fail
    rw [← HR.out, He.out]
    exact ⟨H, rfl, HN.out.later Hb8.out, Keeps.of Hb8.out H⟩
  ·try simp only at hB h4
   have K3 := Lib.hid (KF.out 0 .nilIface h3 rfl w6 Hb6.out)
   have hkd6 : K = 6 ∨ K = 7 := by have := HK.out; omega
   have hA2 := hA' hA
   have hB2 := hB' hB
   clear hA hB hA' hB' KF RS OW Hq h3 h4 HK
   rcases hkd6 with rfl | rfl <;> rcases hA2 with rfl | ⟨rfl, rfl⟩ <;> rcases hB2 with rfl | ⟨rfl, rfl⟩
   all_goals
    go_wp2_with fail
    refine K3.out.mono ?_
    rintro e w8 ⟨rfl, hb8⟩
    obtain ⟨y0, y1⟩ := (HP6.out.later hb8).two
    obtain ⟨d0, d1, d2, d3, d4, d5, d6⟩ := (HK6.out.later hb8).seven
    have hb9 := below_then Hb6.out hb8
    have P8 := Lib.hid (PT.out d w8 hb9)
    have Hb8 := Lib.hid hb9
    clear hb8 hb9
    go_wp2_with fail
    refine P8.out.mono ?_
    rintro e w9 ⟨H', rfl, hn, hk⟩
    have HN9 := Lib.hid hn
    have HK9 := Lib.hid hk
    clear hn hk
    go_wp2_with fail
    rw [← HR.out, He.out]
    exact ⟨H', rfl, HN9.out, (Keeps.of Hb8.out H).then HK9.out⟩
  ·try simp only at hB h4
   have K3 := Lib.hid (KF.out 0 .nilIface h3 rfl w6 Hb6.out)
   have R3 := Lib.hid (RS.out y yn _ Hq.out (errV_pos _ (by omega)))
   have hkd6 : ¬ K = 6 := by have := HK.out; omega
   have hkd7 : ¬ K = 7 := by have := HK.out; omega
   have hk6b : (K == 6) = false := by simpa using hkd6
   have hk7b : (K == 7) = false := by simpa using hkd7
   have hA2 := hA' hA
   have hB2 := hB' hB
   clear hA hB hA' hB' KF RS PT Hq h3 h4 h5 HK
   rcases hA2 with rfl | ⟨rfl, rfl⟩ <;> rcases hB2 with rfl | ⟨rfl, rfl⟩
   all_goals
    go_wp2_with fail
    refine K3.out.mono ?_
    rintro e w8 ⟨rfl, hb8⟩
    have hP8 := HP6.out.later hb8
    have hK8 := HK6.out.later hb8
    obtain ⟨y0, y1⟩ := hP8.two
    obtain ⟨d0, d1, d2, d3, d4, d5, d6⟩ := hK8.seven
    have hb9 := below_then Hb6.out hb8
    have O8 := OW.out w8 hb9
    unfold RetVE at O8
    simp only [errV_0] at O8
    have O8 := Lib.hid O8
    have HP8 := Lib.hid hP8
    have HK8 := Lib.hid hK8
    have Hb8 := Lib.hid hb9
    clear hb8 hb9 hP8 hK8
    go_wp2_with fail
    refine O8.out.mono ?_
    rintro e w9 ⟨rfl, hb9⟩
    obtain ⟨v0, v1⟩ := (HP8.out.later hb9).two
    obtain ⟨e0, e1, e2, e3, e4, e5, e6⟩ := (HK8.out.later hb9).seven
    have hb10 := below_then Hb8.out hb9
    have R9 := Lib.hid (R3.out w9 hb10)
    have Hb9 := Lib.hid hb10
    clear hb9 hb10
    go_wp2_with fail
    refine R9.out.mono ?_
    rintro e w10 ⟨rfl, hb10⟩
    have Hb10 := Lib.hid (below_then Hb9.out hb10)
    clear hb10
    go_wp2_with fail
    rw [← HR.out, He.out]
    exact ⟨H, rfl, HN.out.later Hb10.out, Keeps.of Hb10.out H⟩
  ·try simp only at hB h4
   subst h5
   have K3 := Lib.hid (KF.out 0 .nilIface h3 rfl w6 Hb6.out)
   have R3 := Lib.hid (RS.out y 0 .nilIface Hq.out rfl)
   have hkd6 : ¬ K = 6 := by have := HK.out; omega
   have hkd7 : ¬ K = 7 := by have := HK.out; omega
   have hk6b : (K == 6) = false := by simpa using hkd6
   have hk7b : (K == 7) = false := by simpa using hkd7
   have hA2 := hA' hA
   have hB2 := hB' hB
   clear hA hB hA' hB' KF RS Hq h3 h4 HK
   rcases hA2 with rfl | ⟨rfl, rfl⟩ <;> rcases hB2 with rfl | ⟨rfl, rfl⟩
   all_goals
    go_wp2_with fail
    refine K3.out.mono ?_
    rintro e w8 ⟨rfl, hb8⟩
    have hP8 := HP6.out.later hb8
    have hK8 := HK6.out.later hb8
    obtain ⟨y0, y1⟩ := hP8.two
    obtain ⟨d0, d1, d2, d3, d4, d5, d6⟩ := hK8.seven
    have hb9 := below_then Hb6.out hb8
    have O8 := OW.out w8 hb9
    unfold RetVE at O8
    simp only [errV_0] at O8
    have O8 := Lib.hid O8
    have HP8 := Lib.hid hP8
    have HK8 := Lib.hid hK8
    have Hb8 := Lib.hid hb9
    clear hb8 hb9 hP8 hK8
    go_wp2_with fail
    refine O8.out.mono ?_
    rintro e w9 ⟨rfl, hb9⟩
    have hK9 := HK8.out.later hb9
    obtain ⟨v0, v1⟩ := (HP8.out.later hb9).two
    obtain ⟨e0, e1, e2, e3, e4, e5, e6⟩ := hK9.seven
    have hb10 := below_then Hb8.out hb9
    have R9 := Lib.hid (R3.out w9 hb10)
    have Hb9 := Lib.hid hb10
    have HK9 := Lib.hid hK9
    clear hb9 hb10 hK9
    go_wp2_with fail
    refine R9.out.mono ?_
    rintro e w10 ⟨rfl, hb10⟩
    obtain ⟨z0, z1, z2, z3, z4, z5, z6⟩ := (HK9.out.later hb10).seven
    have hb11 := below_then Hb9.out hb10
    have P10 := Lib.hid (PT.out y w10 hb11)
    have Hb10 := Lib.hid hb11
    clear hb10 hb11
    go_wp2_with fail
    refine P10.out.mono ?_
    rintro e w11 ⟨H', rfl, hn, hk⟩
    have HN11 := Lib.hid hn
    have HK11 := Lib.hid hk
    clear hn hk
    go_wp2_with fail
    rw [← HR.out, He.out]
    exact ⟨H', rfl, HN11.out, (Keeps.of Hb10.out H).then HK11.out⟩
end Go.Proofs.YtjbbbpgcegcbaaaGreatDoor
