/- LoginOver: for every input the law's function returns true, and what came in reads as it did. -/
import Derived.Carry
import Derived.ChangeOld
import Derived.Deep.DeepHandedRow
import Derived.Deep.DeepWitnessRowRef
import Derived.Lib.LaidU8
import Derived.OpenShut
import Derived.ProofKit
import Derived.SevenTiedAt
import Derived.ShapedOpen
import Derived.ShutString
import Derived.SizedLaws
import Derived.Test.YtmkebjdmkkjloaaGreatDoorCards
import Derived.Test.YtmkebjdmkkjloaaGreatDoorTie
import GoSem.PinnedTables
import Derived.Test.YtmkebjdmkkjloaaGreatDoorLB37
import Derived.Test.YtmkebjdmkkjloaaGreatDoorLB39
import Derived.Test.YtmkebjdmkkjloaaGreatDoorLB42
import Derived.Test.YtmkebjdmkkjloaaGreatDoorLB43
namespace Go.Proofs.YtmkebjdmkkjloaaGreatDoor
open Go Go.RowKit
set_option linter.unusedVariables false
theorem failed_told {c : Cf} {d : Dw} {s : Lg} {p : Pd} (h0 : s.fld = false) (h1 : (takeL c d s p).2.fld = true) :
  (takeL c d s p).1.2 = 0 ∧ (∃ f dt, statR (takeL c d s p).1.1 = (f, 2, dt)) ∧ (takeL c d s p).1.1.d = [] ∧ (takeL c d s p).1.1.h.vs.length = 10 := by
 by_cases he : (takeL c d s p).1.2 = 0
 ·obtain ⟨_, _, _, e⟩ := take_good he
  rw [e] at h1 ⊢
  have hb : (asksL c d p s).1.2.2 ≠ -1 := fun hb => by
   obtain ⟨_, W⟩ := asks_good hb
   have hf : (replyL p (asksL c d p s)).2.fld = ((asksL c d p s).2.fld || decide ((asksL c d p s).1.2.2 ≠ -1)) := rfl
   rw [hf, W.fld, h0, hb] at h1
   exact absurd h1 (by decide)
  refine ⟨rfl, ?_, ?_, rfl⟩
  ·have hs := reply_stat p (asksL c d p s)
   rw [if_pos hb] at hs
   exact ⟨_, _, hs⟩
  ·show (if decide ((asksL c d p s).1.2.2 ≠ -1) = true then [] else _) = []
   rw [if_pos (decide_eq_true hb)]
 ·rw [(take_err he).2, h0] at h1
  exact absurd h1 (by decide)
theorem pd0_fit : FitP pd0 := ⟨by unfold I64; decide, by decide, ⟨by decide, fun _ h => absurd h List.not_mem_nil⟩, by decide⟩
set_option maxRecDepth 100000 in
set_option maxHeartbeats 8000000 in
theorem loginOver_any (c : Cf) (vt vp vu vo : Value) (d : Dw) (l : List Pd) (v : Value) (P : Pd) (vv va : Value) (w : World) (hv : ConfAt w c vt vp vu vo) (hf : FitCf c) (hd : (Lit.int .i64 d.id).wf = true ∧ d.ch.length ≤ 140737488351232) (hpl : PdusV w v l) (hfl : (∀ q ∈ l, FitP q) ∧ l.length ≤ 140737488355328) (hP : PduAt w P vv va) (hPf : FitP P) (hE : EnvL w) :
  Calls Tryz.prog 7 #[confV c vt vp vu vo, .agg #[.int .i64 d.id, .string (S d.ch)], v, pduV P vv va] w fun e w' => e = .returned (.bool true) ∧ Below w.heap.size w w' := by
 obtain ⟨pl, cl, rfl⟩ := hpl.form
 obtain ⟨pv, cv, rfl⟩ : ∃ p c, vv = .slice p P.h.vs.length c := by obtain ⟨p, c, h, _⟩ := hP.v; exact ⟨p, c, h⟩
 obtain ⟨pa, ca, rfl⟩ := hP.a.form
 obtain ⟨w0, hw0⟩ : ∃ x, w.alloc (.cells #[vt, vp, vu, .string (S c.sn), .string (S c.ss), .int .i64 c.lim, vo] 29) = x := ⟨_, rfl⟩
 obtain ⟨w1, hw1⟩ : ∃ x, w0.alloc (.cells #[.int .i64 d.id, .string (S d.ch)] 31) = x := ⟨_, rfl⟩
 obtain ⟨w2, hw2⟩ : ∃ x, w1.alloc (.cells #[.int .i64 P.h.op, .bool P.h.now, .int .i64 P.h.fl, .slice pv P.h.vs.length cv, .slice pa P.a.length ca, .string (S P.d)] 41) = x := ⟨_, rfl⟩
 have b0 : Below w.heap.size w w0 := by rw [← hw0]; exact (Below.refl _ _).alloc (Nat.le_refl _) _
 have b1 : Below w0.heap.size w0 w1 := by rw [← hw1]; exact (Below.refl _ _).alloc (Nat.le_refl _) _
 have b2 : Below w1.heap.size w1 w2 := by rw [← hw2]; exact (Below.refl _ _).alloc (Nat.le_refl _) _
 have k0 : Blk w0 w.heap.size #[vt, vp, vu, .string (S c.sn), .string (S c.ss), .int .i64 c.lim, vo] 29 := by rw [← hw0]; exact Blk.new w _ _
 have k1 : Blk w1 w0.heap.size #[.int .i64 d.id, .string (S d.ch)] 31 := by rw [← hw1]; exact Blk.new w0 _ _
 have k2 : Blk w2 w1.heap.size #[.int .i64 P.h.op, .bool P.h.now, .int .i64 P.h.fl, .slice pv P.h.vs.length cv, .slice pa P.a.length ca, .string (S P.d)] 41 := by rw [← hw2]; exact Blk.new w1 _ _
 obtain ⟨cb, hcb⟩ : ∃ x, w.heap.size = x := ⟨_, rfl⟩
 obtain ⟨db, hdb⟩ : ∃ x, w0.heap.size = x := ⟨_, rfl⟩
 obtain ⟨pb, hpb⟩ : ∃ x, w1.heap.size = x := ⟨_, rfl⟩
 have b02 := below_then (below_then b0 b1) b2
 have j0 := k0.later (below_then b1 b2)
 have j1 := k1.later b2
 rw [hcb] at j0
 rw [hdb] at j1
 rw [hpb] at k2
 have HB := Lib.hid b02
 have HK0 := Lib.hid j0
 have HK1 := Lib.hid j1
 have HK2 := Lib.hid k2
 have HV := Lib.hid (hv.later b02)
 have Hf := Lib.hid hf
 have Hd := Lib.hid hd.2
 have HPL := Lib.hid (hpl.later b02)
 have Hfl := Lib.hid hfl.1
 have Hll := Lib.hid hfl.2
 have hlI : (l.length : Int) ≤ 140737488355328 := by have := hfl.2; omega
 have HP := Lib.hid (hP.later b02)
 have HPf := Lib.hid hPf
 have HE := Lib.hid (hE.later b02)
 have EN := Lib.hid (entered_any w2 (hE.later b02))
 clear hv hf hd hpl hfl hP hPf hE b0 b1 b2 k0 k1 k2 b02 j0 j1
 unfold confV pduV
 go_enter Tryz.func7, Tryz.ntmps7
 go_wp2_with fail
 clear hw0 hw1 hw2
 refine EN.out.mono ?_
 rintro e w3 ⟨rfl, hb3⟩
 have Hb3 := Lib.hid hb3
 obtain ⟨x0, x1, x2, x3, x4, x5, x6⟩ := (HK0.out.later hb3).seven
 obtain ⟨y0, y1⟩ := (HK1.out.later hb3).two
 have HD := held_any c d vt vp vu vo l (.slice pl l.length cl) w3 (HV.out.later hb3) Hf.out Hd.out (HPL.out.later hb3) Hfl.out Hll.out (HE.out.later hb3)
 unfold confV at HD
 replace HD := Lib.hid HD
 clear hb3 EN
 go_wp2_with fail
 clear x0 x1 x2 x3 x4 x5 x6 y0 y1
 refine HD.out.mono ?_
 rintro e w4 (⟨rfl, hb4⟩ | ⟨lb, m, rfl, hnew, hL⟩)
 ·have HL := Lib.hid (below_then HB.out (below_then Hb3.out hb4))
  clear hb4 HD
  go_wp2_with fail
  go_ret
  exact ⟨rfl, HL.out⟩
 ·obtain ⟨hc, hdd, -⟩ := newL_is hnew
  have HC := Lib.hid hc
  have HDD := Lib.hid hdd
  have HS4 := Lib.hid hL
  have HE3 := Lib.hid (HE.out.later Hb3.out)
  have hlow4 := below_then Hb3.out hL.low
  obtain ⟨z0, z1, z2, z3, z4, z5⟩ := (HK2.out.later hlow4).six
  have LG := large_any P _ _ w4 (HP.out.later hlow4) HPf.out
  unfold pduV at LG
  replace LG := Lib.hid LG
  clear hc hdd hL hnew HD hlow4 HV
  go_wp2_with fail
  clear z0 z1 z2 z3 z4 z5
  refine LG.out.mono ?_
  rintro e w5 ⟨b, rfl, -, hb5⟩
  have HS5 := Lib.hid (HS4.out.later hb5)
  clear hb5 LG HS4
  cases b with
  | true =>
   go_wp2_with fail
   go_ret
   exact ⟨rfl, below_then HB.out (below_then Hb3.out HS5.out.low)⟩
  | false =>
   have hPoff : PduAt (offW (m.H lb) w5) P (.slice pv P.h.vs.length cv) (.slice pa P.a.length ca) := (HP.out.later Hb3.out).later HS5.out.mask
   have hLoff : PdusV (offW (m.H lb) w5) (.slice pl l.length cl) l := (HPL.out.later Hb3.out).later HS5.out.mask
   have hKoff : Blk (offW (m.H lb) w5) pb #[.int .i64 P.h.op, .bool P.h.now, .int .i64 P.h.fl, .slice pv P.h.vs.length cv, .slice pa P.a.length ca, .string (S P.d)] 41 := (HK2.out.later Hb3.out).later HS5.out.mask
   have HPO := Lib.hid hPoff
   have HLO := Lib.hid hLoff
   have HKO := Lib.hid hKoff
   clear hPoff hLoff hKoff
   go_wp2_with fail
   go_loopw [36] (fun i wr => ∃ (j : Nat) (m' : LgM) (q' : Lq) (s' : Lg), i = .int .i64 j ∧ j ≤ l.length ∧ s'.fld = false ∧ LS w3 wr lb m' c d q' s' ∧ Below (offW (m.H lb) w5).heap.size (offW (m.H lb) w5) (offW (m'.H lb) wr)) (fun i _ => l.length - (intOf i).toNat)
   case atStart => exact ⟨0, m, _, _, rfl, Nat.zero_le _, rfl, HS5.out, Below.refl _ _⟩
   case round =>
    obtain ⟨j, m1, q1, s1, rfl, hj, hfld, hS, hoff⟩ := hrel
    by_cases hlt : j < l.length
    ·obtain ⟨b, o, rfl, a1, d1, a2, d2, hp, e0, e1, e2, e3, e4, e5⟩ := (HLO.out.later hoff).cellsO hlt
     have hfit := Hfl.out l[j] (List.getElem_mem hlt)
     generalize hpe : l[j] = p at *
     have hb1 := (Below.refl wr.heap.size wr).alloc (Nat.le_refl _) (.cells #[.int .i64 p.h.op, .bool p.h.now, .int .i64 p.h.fl, .slice a1 p.h.vs.length d1, .slice a2 p.a.length d2, .string (S p.d)] 41)
     have hk1 := Blk.new wr #[.int .i64 p.h.op, .bool p.h.now, .int .i64 p.h.fl, .slice a1 p.h.vs.length d1, .slice a2 p.a.length d2, .string (S p.d)] 41
     generalize hW1 : wr.alloc (.cells #[.int .i64 p.h.op, .bool p.h.now, .int .i64 p.h.fl, .slice a1 p.h.vs.length d1, .slice a2 p.a.length d2, .string (S p.d)] 41) = W1 at hb1 hk1
     have hS1 := hS.later hb1
     have T := take_ls p _ _ hS1 (hp.later (Keeps.of hb1 _).off') HE3.out hfit HC.out HDD.out
     have hft := fun h => failed_told (c := c) (d := d) (s := s1) (p := p) hfld h
     obtain ⟨⟨⟨A, n⟩, s2⟩, hT⟩ : ∃ r, takeL c d s1 p = r := ⟨_, rfl⟩
     rw [hT] at T hft
     unfold RetLS pduV at T
     simp only at T hft
     replace T := Lib.hid T
     have HFT := Lib.hid hft
     have HOF := Lib.hid (below_then hoff (by have := (Keeps.of hb1 (m1.H lb)).off'; exact this) : Below (offW (m.H lb) w5).heap.size (offW (m.H lb) w5) (offW (m1.H lb) W1))
     obtain ⟨k0, k1, k2, k3, k4, k5⟩ := hk1.six
     clear hS hoff hp hfit hpe hb1 hk1 hS1 hft hT hfld
     go_wp2_with fail
     clear k0 k1 k2 k3 k4 k5 hW1 e0 e1 e2 e3 e4 e5
     refine T.out.mono ?_
     rintro e w6 ⟨m2, q2, v3, v4, ev, rfl, hPA, herr, hS6, hK6⟩
     obtain ⟨p3, c3, rfl⟩ : ∃ p c, v3 = .slice p A.h.vs.length c := by obtain ⟨p, c, h, _⟩ := hPA.v; exact ⟨p, c, h⟩
     obtain ⟨p4, c4, rfl⟩ := hPA.a.form
     obtain ⟨w7, hw7⟩ : ∃ x, w6.alloc (.cells #[.int .i64 A.h.op, .bool A.h.now, .int .i64 A.h.fl, .slice p3 A.h.vs.length c3, .slice p4 A.a.length c4, .string (S A.d)] 41) = x := ⟨_, rfl⟩
     have hb7 : Below w6.heap.size w6 w7 := by rw [← hw7]; exact (Below.refl _ _).alloc (Nat.le_refl _) _
     have hk7 : Blk w7 w6.heap.size #[.int .i64 A.h.op, .bool A.h.now, .int .i64 A.h.fl, .slice p3 A.h.vs.length c3, .slice p4 A.a.length c4, .string (S A.d)] 41 := by rw [← hw7]; exact Blk.new w6 _ _
     have hn7 : ¬ m2.H lb w6.heap.size := fun hh => by have := hS6.fresh _ hh; omega
     obtain ⟨ab, hab⟩ : ∃ x, w6.heap.size = x := ⟨_, rfl⟩
     rw [hab] at hk7 hn7
     have HS7 := Lib.hid (hS6.later hb7)
     have HOF7 := Lib.hid (below_then (below_then HOF.out hK6.off') (Keeps.of hb7 _).off')
     have HPA7 := Lib.hid (hPA.later (Keeps.of hb7 _).off')
     have HK7 := Lib.hid hk7
     have HN7 := Lib.hid hn7
     have He7 := Lib.hid (herr.later hb7)
     have OV := Lib.hid HS7.out.overS
     clear hPA herr hS6 hK6 hb7 hk7 hn7 T HOF
     go_wp2_with fail
     clear hw7
     refine OV.out.mono ?_
     rintro e w8 ⟨rfl, hb8⟩
     have HS8 := Lib.hid (HS7.out.later hb8)
     have HOF8 := Lib.hid (below_then HOF7.out (Keeps.of hb8 _).off')
     have HPA8 := Lib.hid (HPA7.out.later (Keeps.of hb8 _).off')
     have HK8 := Lib.hid (HK7.out.later hb8)
     have He8 := Lib.hid (He7.out.later hb8)
     clear hb8 OV HS7 HOF7 HPA7 HK7 He7
     cases hsf : s2.fld with
     | false =>
      have HSF := Lib.hid hsf
      clear hsf
      go_wp2_with fail
      go_roundw
      case rel => exact ⟨j + 1, m2, q2, s2, by go_num, by omega, HSF.out, HS8.out, HOF8.out⟩
      case measure => simp [intOf]; omega
     | true =>
      obtain ⟨f1, ⟨fx, dt, f2⟩, f3, f4⟩ := HFT.out hsf
      subst f1
      obtain rfl := He8.out.zero
      have ST := status_any A _ _ w8 HPA8.out.off (HE3.out.later HS8.out.low).env.mc (by rw [f4]; decide)
      rw [f2] at ST
      unfold pduV at ST
      replace ST := Lib.hid ST
      have HF3 := Lib.hid f3
      have HSF := Lib.hid hsf
      obtain ⟨k0, k1, k2, k3, k4, k5⟩ := HK8.out.six
      clear hsf f2 f3 f4 HFT
      go_wp2_with fail
      clear k0 k1 k2 k3 k4 k5
      refine ST.out.mono ?_
      rintro e w9 ⟨rfl, hb9⟩
      have HS9 := Lib.hid (HS8.out.later hb9)
      have HOF9 := Lib.hid (below_then HOF8.out (Keeps.of hb9 _).off')
      have HK9 := Lib.hid (HK8.out.later hb9)
      have SS := Lib.hid HS9.out.statS
      have hpo := HPO.out.later HOF9.out
      have hko := HKO.out.later HOF9.out
      have T2 := take_ls P _ _ HS9.out hpo HE3.out HPf.out HC.out HDD.out
      rw [takeL_over (.inr HSF.out)] at T2
      obtain ⟨Z, hZ⟩ : ∃ Z, pd0 = Z := ⟨_, rfl⟩
      have hZf : Z.h.vs.length ≤ 140737488355328 ∧ Z.a.length ≤ 140737488355328 := by rw [← hZ]; decide
      rw [hZ] at T2
      unfold RetLS pduV at T2
      simp only at T2
      replace T2 := Lib.hid T2
      have HZ := Lib.hid hZ
      have HZF := Lib.hid hZf
      have hkp : ∀ i : Nat, w9.cell? ⟨pb, i, none⟩ = (#[.int .i64 P.h.op, .bool P.h.now, .int .i64 P.h.fl, .slice pv P.h.vs.length cv, .slice pa P.a.length ca, .string (S P.d)] : Array Value)[i]? := fun i => by
       have h1 := hko.cell i
       by_cases hi : i < 6
       ·obtain ⟨x, hx⟩ : ∃ x, (#[.int .i64 P.h.op, .bool P.h.now, .int .i64 P.h.fl, .slice pv P.h.vs.length cv, .slice pa P.a.length ca, .string (S P.d)] : Array Value)[i]? = some x := ⟨_, Array.getElem?_eq_getElem (by simpa using hi)⟩
        rw [hx] at h1 ⊢
        exact off_cell h1
       ·have hnn : ¬ m2.H lb pb := fun hh => by
         have h2 := hko.cell 0
         exact off_cellout (a := ⟨pb, 0, none⟩) (v := .int .i64 P.h.op) (by rw [h2]; rfl) hh
        rw [← off_to (a := ⟨pb, i, none⟩) hnn]
        exact h1
      have z0 : w9.cell? ⟨pb, 0, none⟩ = some (.int .i64 P.h.op) := hkp 0
      have z1 : w9.cell? ⟨pb, 1, none⟩ = some (.bool P.h.now) := hkp 1
      have z2 : w9.cell? ⟨pb, 2, none⟩ = some (.int .i64 P.h.fl) := hkp 2
      have z3 : w9.cell? ⟨pb, 3, none⟩ = some (.slice pv P.h.vs.length cv) := hkp 3
      have z4 : w9.cell? ⟨pb, 4, none⟩ = some (.slice pa P.a.length ca) := hkp 4
      have z5 : w9.cell? ⟨pb, 5, none⟩ = some (.string (S P.d)) := hkp 5
      clear hb9 ST HS8 HOF8 HPA8 HK8 He8 hpo hko hkp hZ hZf
      go_wp2_with fail
      refine SS.out.mono ?_
      rintro e w' ⟨rfl, rfl⟩
      go_wp2_with fail
      clear z0 z1 z2 z3 z4 z5
      refine T2.out.mono ?_
      rintro e w10 ⟨m3, q3, v5, v6, ev6, rfl, hPZ, he6, hS10, hK10⟩
      obtain ⟨p5, c5, rfl⟩ : ∃ p c, v5 = .slice p Z.h.vs.length c := by obtain ⟨p, c, h, _⟩ := hPZ.v; exact ⟨p, c, h⟩
      obtain ⟨p6, c6, rfl⟩ := hPZ.a.form
      obtain ⟨te, xe, rfl⟩ := he6.iface (by decide)
      obtain ⟨w11, hw11⟩ : ∃ x, w10.alloc (.cells #[.int .i64 Z.h.op, .bool Z.h.now, .int .i64 Z.h.fl, .slice p5 Z.h.vs.length c5, .slice p6 Z.a.length c6, .string (S Z.d)] 41) = x := ⟨_, rfl⟩
      have hb11 : Below w10.heap.size w10 w11 := by rw [← hw11]; exact (Below.refl _ _).alloc (Nat.le_refl _) _
      have hk11 : Blk w11 w10.heap.size #[.int .i64 Z.h.op, .bool Z.h.now, .int .i64 Z.h.fl, .slice p5 Z.h.vs.length c5, .slice p6 Z.a.length c6, .string (S Z.d)] 41 := by rw [← hw11]; exact Blk.new w10 _ _
      obtain ⟨zb, hzb⟩ : ∃ x, w10.heap.size = x := ⟨_, rfl⟩
      rw [hzb] at hk11
      have HS11 := Lib.hid (hS10.later hb11)
      have hka := (HK9.out.kp hK10 HN7.out).later hb11
      rw [HF3.out] at hka
      have TL := Lib.hid (tell_is (he6.later hb11) (HE3.out.later HS11.out.low).err)
      have HPZ := Lib.hid (hPZ.later (Keeps.of hb11 _).off').off
      have HK11 := Lib.hid hk11
      have HKA := Lib.hid hka
      obtain ⟨k0, k1, k2, k3, k4, k5⟩ := hka.six
      clear hPZ he6 hS10 hK10 hb11 hk11 hka HS9 HOF9 HK9 SS T2
      go_wp2_with fail
      clear hw11 k0 k1 k2 k3 k4 k5
      refine TL.out.mono ?_
      rintro e w12 ⟨rfl, hb12⟩
      have HS12 := Lib.hid (HS11.out.later hb12)
      have hz12 := HPZ.out.later hb12
      have SM := same_same Z _ _ (.slice none 0 0) (.slice none 0 0) w12 hz12 (by rw [← HZ.out]; exact pdu0_at _) HZF.out.1 HZF.out.2
      rw [show pduV Z (.slice none 0 0) (.slice none 0 0) = .agg #[.int .i64 0, .bool false, .int .i64 0, .slice none 0 0, .slice none 0 0, .string (S [])] by rw [← HZ.out]; rfl] at SM
      unfold pduV at SM
      replace SM := Lib.hid SM
      obtain ⟨k0, k1, k2, k3, k4, k5⟩ := (HK11.out.later hb12).six
      clear hb12 hz12 TL HS11 HK11 HPZ
      go_wp2_with fail
      clear k0 k1 k2 k3 k4 k5
      refine SM.out.mono ?_
      rintro e w13 ⟨rfl, hb13⟩
      have HS13 := Lib.hid (HS12.out.later hb13)
      have SS := Lib.hid HS13.out.statS
      clear hb13 SM HS12
      go_wp2_with fail
      refine SS.out.mono ?_
      rintro e w' ⟨rfl, rfl⟩
      go_wp2_with fail
      go_ret
      exact ⟨by simp, below_then HB.out (below_then Hb3.out HS13.out.low)⟩
    ·obtain rfl : j = l.length := by omega
     have HL := Lib.hid (below_then HB.out (below_then Hb3.out hS.low))
     clear hS hoff hfld
     go_wp2_with fail
     go_ret
     exact ⟨rfl, HL.out⟩
end Go.Proofs.YtmkebjdmkkjloaaGreatDoor
namespace Go.Proofs.YtmkebjdmkkjloaaGreatDoor
open Go.RowKit
def laidLoginOver : List (String × DataW Unit) := [("math/bits.deBruijn32tab", Rows.laid_math_bits_deBruijn32tab), ("math/bits.deBruijn64tab", Rows.laid_math_bits_deBruijn64tab), ("internal/strconv.uint64pow10", Rows.laid_internal_strconv_uint64pow10), ("unicode/utf8.acceptRanges", Rows.laid_unicode_utf8_acceptRanges), ("errors.errorType", Rows.laid_errors_errorType), ("strconv.ErrRange", Rows.laid_strconv_ErrRange), ("strconv.ErrSyntax", Rows.laid_strconv_ErrSyntax), ("quaymaster/md5.numbers", Rows.laid_quaymaster_md5_numbers), ("quaymaster/md5.turns", Rows.laid_quaymaster_md5_turns), ("unicode/utf8.first", Rows.laid_unicode_utf8_first)]
def plainLoginOver : List (String × DataW Unit) := [("math/bits.deBruijn32tab", Rows.laid_math_bits_deBruijn32tab), ("math/bits.deBruijn64tab", Rows.laid_math_bits_deBruijn64tab), ("internal/strconv.uint64pow10", Rows.laid_internal_strconv_uint64pow10), ("unicode/utf8.acceptRanges", Rows.laid_unicode_utf8_acceptRanges), ("strconv.ErrRange", Rows.laid_strconv_ErrRange), ("strconv.ErrSyntax", Rows.laid_strconv_ErrSyntax), ("quaymaster/md5.numbers", Rows.laid_quaymaster_md5_numbers), ("quaymaster/md5.turns", Rows.laid_quaymaster_md5_turns), ("unicode/utf8.first", Rows.laid_unicode_utf8_first)]
noncomputable def laidWorldLoginOver (os : Os) : World := (laidWorld os).layVars Tryz.prog plainLoginOver
set_option maxRecDepth 100000 in
theorem laidWorldLoginOver_plain (os : Os) (args : Array Value) : laidMet Tryz.prog plainLoginOver ((laidWorldLoginOver os).forCall (fun _ _ => 0) ⟨#[], args, []⟩).memory := laidMet_lay (w0 := (laidWorld os)) args (by kernel_rfl) (by kernel_rfl)
set_option maxRecDepth 100000 in
theorem laidWorldLoginOver_met (os : Os) (args : Array Value) : laidMetH Tryz.prog laidLoginOver ((laidWorldLoginOver os).forCall (fun _ _ => 0) ⟨#[], args, []⟩).memory :=
 laidMetH_of_parts (laidWorldLoginOver_plain os args) (by kernel_rfl)
theorem laidWorldLoginOver_os (os : Os) : (laidWorldLoginOver os).os = os := World.layVars_os _ _ _
theorem partsLoginOver {W : World} (h : laidMetH Tryz.prog laidLoginOver W) : laidMet Tryz.prog [("math/bits.deBruijn32tab", Rows.laid_math_bits_deBruijn32tab), ("math/bits.deBruijn64tab", Rows.laid_math_bits_deBruijn64tab), ("internal/strconv.uint64pow10", Rows.laid_internal_strconv_uint64pow10), ("unicode/utf8.acceptRanges", Rows.laid_unicode_utf8_acceptRanges), ("strconv.ErrRange", Rows.laid_strconv_ErrRange), ("strconv.ErrSyntax", Rows.laid_strconv_ErrSyntax), ("quaymaster/md5.numbers", Rows.laid_quaymaster_md5_numbers), ("quaymaster/md5.turns", Rows.laid_quaymaster_md5_turns), ("unicode/utf8.first", Rows.laid_unicode_utf8_first)] W ∧ handlesMet Tryz.prog [("errors.errorType", Rows.laid_errors_errorType)] W := h
theorem errCell_LoginOver {W : World} (h : laidMetH Tryz.prog laidLoginOver W) : ErrCell W := errCell_of_handles (partsLoginOver h).2 (List.mem_singleton.2 rfl)
theorem readsLoginOver {W : World} (h : laidMetH Tryz.prog laidLoginOver W) {n : String} {d : DataW Unit} (hm : (n, d) ∈ ([("math/bits.deBruijn32tab", Rows.laid_math_bits_deBruijn32tab), ("math/bits.deBruijn64tab", Rows.laid_math_bits_deBruijn64tab), ("internal/strconv.uint64pow10", Rows.laid_internal_strconv_uint64pow10), ("unicode/utf8.acceptRanges", Rows.laid_unicode_utf8_acceptRanges), ("strconv.ErrRange", Rows.laid_strconv_ErrRange), ("strconv.ErrSyntax", Rows.laid_strconv_ErrSyntax), ("quaymaster/md5.numbers", Rows.laid_quaymaster_md5_numbers), ("quaymaster/md5.turns", Rows.laid_quaymaster_md5_turns), ("unicode/utf8.first", Rows.laid_unicode_utf8_first)] : List (String × DataW Unit))) : Go.Lib.VarReads Tryz.prog W n d := Go.Lib.laidMet.reads (partsLoginOver h).1 hm
theorem tabsLoginOver {W : World} (h : laidMetH Tryz.prog laidLoginOver W) : MdTabs W := mdTabs_of_reads (readsLoginOver h (by simp)) (readsLoginOver h (by simp))
end Go.Proofs.YtmkebjdmkkjloaaGreatDoor
namespace Go.Proofs.YtmkebjdmkkjloaaGreatDoor.loginOver
open Go.ChangeShapes Go.WideShapes Go.ChangeAt Go.RowKit
open Go.ChangeMaps (open_string shut_string)
set_option linter.unusedVariables false
theorem own : ownKnob Tryz.prog.godebug = none := by kernel_rfl
theorem laidOut : laidOutB Tryz.prog = true := by kernel_rfl
set_option maxRecDepth 100000 in
theorem contract (H : Type) (enc : TypeId × Value → H) (W : World) (base : Nat) (args : Array Value) (ds gs : List (DataW H)) (before : List MemPlace)
  (hval : ∀ (j : Nat) t v, Tryz.f7.params[j]? = some t → args[j]? = some v → Value.okWide Tryz.prog W .any base t v)
  (hW : DataW.Whole enc Tryz.prog Tryz.f7.params.toList Rows.loginOverSpec.vars false W args.toList ds gs before)
  (hsz0 : (DataW.weightsEach Tryz.prog (Tryz.f7.params.toList ++ Rows.loginOverSpec.plain.varTypes Tryz.prog) (ds ++ gs)).all (· ≤ reachBytes) = true)
  (hL : laidMetH Tryz.prog Rows.loginOverRow.laid W) (hS : W.ShapedOpen Tryz.prog)
  : Calls Tryz.prog 7 args W fun e W' => ∃ v, e = .returned v ∧ Rows.loginOverSpec.post enc Tryz.prog Tryz.f7 false true false false W args v W' := by
 have hW' := hW
 obtain ⟨p, q, hA0, hV, rfl, hfz, hnd⟩ := hW
 have hsz : (DataW.weightsEach Tryz.prog (Tryz.f7.params.toList ++ Rows.loginOverSpec.plain.varTypes Tryz.prog) (ds ++ gs)).all (· ≤ reachBytes) = true := hsz0
 have hA : DataW.TrodAll enc Tryz.prog W 0 (fun _ => true) true Tryz.f7.params.toList args.toList ds p := hA0
 rw [Tryz.params7] at hA hval hsz
 obtain ⟨v0, vs0, d0, ds0, p0, q0, hargs, rfl, rfl, h0, r0⟩ := trodAll_cons hA
 obtain ⟨v1, vs1, d1, ds1, p1, q1, rfl, rfl, rfl, h1, r1⟩ := trodAll_cons r0
 obtain ⟨v2, vs2, d2, ds2, p2, q2, rfl, rfl, rfl, h2, r2⟩ := trodAll_cons r1
 obtain ⟨v3, vs3, d3, ds3, p3, q3, rfl, rfl, rfl, h3, r3⟩ := trodAll_cons r2
 obtain ⟨rfl, rfl, rfl⟩ := trodAll_nil r3
 obtain rfl : args = #[v0, v1, v2, v3] := by cases args; simp_all
 obtain ⟨rfl, rfl⟩ := trodVars_none hV
 have hk0 := h0
 have hlt0 : ∀ x ∈ p0, x.block < W.heap.size := fun x hx => by simpa using hW'.lt x (by simp [hx])
 obtain ⟨c0, vt0, vp0, vu0, vo0, rfl, hv0, hF0, hB0⟩ := open_conf hsz (j := 0) rfl rfl (hval 0 29 v0 rfl rfl) h0
 have hk1 := h1
 have hlt1 : ∀ x ∈ p1, x.block < W.heap.size := fun x hx => by simpa using hW'.lt x (by simp [hx])
 obtain ⟨pr1, rfl, hF1⟩ := open_draw hsz (j := 1) rfl rfl (hval 1 31 v1 rfl rfl) h1
 have hk2 := h2
 have hlt2 : ∀ x ∈ p2, x.block < W.heap.size := fun x hx => by simpa using hW'.lt x (by simp [hx])
 obtain ⟨l2, hv2, hN2⟩ := open_pdus hsz (j := 2) rfl rfl (hval 2 32 v2 rfl rfl) h2
 have hk3 := h3
 have hlt3 : ∀ x ∈ p3, x.block < W.heap.size := fun x hx => by simpa using hW'.lt x (by simp [hx])
 obtain ⟨pd3, vv3, va3, rfl, hv3, hF3⟩ := open_pdu hsz (j := 3) rfl rfl (hval 3 41 v3 rfl rfl) h3
 clear hA0 hsz0
 refine (loginOver_any c0 vt0 vp0 vu0 vo0 pr1 l2 v2 pd3 vv3 va3 W hv0 hF0 hF1 hv2 hN2 hv3 hF3 (EnvL.mk (env_of hS (readsLoginOver hL (by simp)) (readsLoginOver hL (by simp)) (readsLoginOver hL (by simp))) (errCell_LoginOver hL) (tabsLoginOver hL))).mono fun e W' ⟨he, bel⟩ => ?_
 subst he
 exact ⟨_, rfl, _, _, _, [], _, [], hW', trodAll_mk1 (shut_bool Tryz.underlying4 _), trodAll_cons_mk (Below.trod laidOut (by kernel_rfl) (of_decide_eq_true (by kernel_rfl)) hk0 bel hlt0) (trodAll_cons_mk (Below.trod laidOut (by kernel_rfl) (of_decide_eq_true (by kernel_rfl)) hk1 bel hlt1) (trodAll_cons_mk (Below.trod laidOut (by kernel_rfl) (of_decide_eq_true (by kernel_rfl)) hk2 bel hlt2) (trodAll_cons_mk (Below.trod laidOut (by kernel_rfl) (of_decide_eq_true (by kernel_rfl)) hk3 bel hlt3) trodAll_mk0))), rfl, bel.frame _, fun h => by cases h⟩
theorem reads (os : Os) {H : Type} (enc : TypeId × Value → H) : ∃ places, DataW.whole enc Tryz.prog ((laidWorldLoginOver os).forCall (fun _ _ => 0) ⟨#[], #[.agg #[.slice none 0 0, .slice none 0 0, .slice none 0 0, .string ⟨#[]⟩, .string ⟨#[]⟩, .int .i64 0, .slice none 0 0], .agg #[.int .i64 0, .string ⟨#[]⟩], .slice none 0 0, .agg #[.int .i64 0, .bool false, .int .i64 0, .slice none 0 0, .slice none 0 0, .string ⟨#[]⟩]], []⟩).memory Tryz.f7.params.toList Rows.loginOverSpec.vars false (#[.agg #[.slice none 0 0, .slice none 0 0, .slice none 0 0, .string ⟨#[]⟩, .string ⟨#[]⟩, .int .i64 0, .slice none 0 0], .agg #[.int .i64 0, .string ⟨#[]⟩], .slice none 0 0, .agg #[.int .i64 0, .bool false, .int .i64 0, .slice none 0 0, .slice none 0 0, .string ⟨#[]⟩]] : Array Value).toList 8 = some ([.agg [.nil, .nil, .nil, .agg [.lit (.string []), .lit (.string [])], .lit (.int .i64 0), .nil], .agg [.lit (.int .i64 0), .lit (.string [])], .nil, .agg [.agg [.lit (.int .i64 0), .lit (.bool false), .lit (.int .i64 0), .nil], .nil, .lit (.string [])]], [], places) :=
 ⟨[], by kernel_rfl⟩
set_option maxRecDepth 100000 in
theorem lifted (os : Os) (started : os.Started) (H : Type) (enc : TypeId × Value → H) (F : Stop.Interp) :
  ReturnsInHanded {} Tryz.checked os 7 .any ((OpenSpec.ofChange Rows.loginOverSpec).preRow enc Tryz.prog Tryz.f7 Rows.loginOverRow.domain false Rows.loginOverRow.laid) (((OpenSpec.ofChange Rows.loginOverSpec).at F).post enc Tryz.prog Tryz.f7 false true false false) := by
 obtain ⟨places, hx⟩ := reads os enc
 refine returnsInHanded_of_row (C := Tryz.checked) (s := OpenSpec.ofChange Rows.loginOverSpec) own started (by kernel_rfl) Tryz.func7
  (witness_row_atRef (enc := enc) (C := Tryz.checked) false (laidWorldLoginOver os) #[.agg #[.slice none 0 0, .slice none 0 0, .slice none 0 0, .string ⟨#[]⟩, .string ⟨#[]⟩, .int .i64 0, .slice none 0 0], .agg #[.int .i64 0, .string ⟨#[]⟩], .slice none 0 0, .agg #[.int .i64 0, .bool false, .int .i64 0, .slice none 0 0, .slice none 0 0, .string ⟨#[]⟩]] (laidWorldLoginOver_os os) (by kernel_rfl) (by kernel_rfl) (by kernel_rfl)
   (OpenSpec.preRow_of_cond 8 hx (by kernel_rfl) (fun k hk => by cases hk) (by kernel_rfl) (laidWorldLoginOver_met os _))) ?_
 intro W base args ds gs before hval hW _ _ hsz hL hS _
 exact contract H enc W base args ds gs before hval hW hsz hL hS
theorem k0 : (Rows.loginOverRow.wf (OpenSpec.ofChange (Rows.loginOverSpec))) = true := by kernel_rfl
theorem k3 : (Tryz.f7.params.all (Tryz.pinned.checked.prog.readableRec ·)) = true := by kernel_rfl
theorem k4 : (namedTie Tryz.pinned.checked.prog Rows.loginOverRow.named (Rows.loginOverSpec).vars) = true := by kernel_rfl
theorem k5 : ((Rows.loginOverRow.stops == [])) = true := by kernel_rfl
theorem k7 : ((Rows.loginOverRow.knobs == [])) = true := by kernel_rfl
theorem k9 : ((Rows.loginOverRow.inPlace == Tryz.pinned.checked.prog.inPlace 7)) = true := by kernel_rfl
theorem k10 : ((Rows.loginOverRow.unfollowed == Tryz.pinned.checked.prog.unfollowed 7)) = true := by kernel_rfl
theorem k11 : ((Rows.loginOverRow.recurses == Tryz.pinned.checked.prog.recurses 7)) = true := by kernel_rfl
theorem k12 : ((Rows.loginOverRow.named == Tryz.pinned.checked.prog.varsNamed 7)) = true := by kernel_rfl
theorem k13 : ((Rows.loginOverRow.maps == (Tryz.f7.params.toList ++ (Rows.loginOverSpec).plain.varTypes Tryz.pinned.checked.prog).any (Tryz.pinned.checked.prog.mapsRec ·))) = true := by kernel_rfl
theorem k14 : ((Rows.loginOverRow.ifaces == (Tryz.f7.params.toList ++ (Rows.loginOverSpec).plain.varTypes Tryz.pinned.checked.prog).any (Tryz.pinned.checked.prog.ifacesRec ·))) = true := by kernel_rfl
theorem k15 : ((Rows.loginOverRow.mapsOut == Tryz.pinned.checked.prog.mapsAmong Tryz.f7.resultTypes.toList)) = true := by kernel_rfl
theorem k16 : ((Rows.loginOverRow.loops == (Tryz.f7.params.toList ++ (Rows.loginOverSpec).plain.varTypes Tryz.pinned.checked.prog).any (Tryz.pinned.checked.prog.loopsFrom ·))) = true := by kernel_rfl
theorem k17 : ((Rows.loginOverRow.wideKeys == (Tryz.f7.params.toList ++ (Rows.loginOverSpec).plain.varTypes Tryz.pinned.checked.prog ++ Tryz.f7.resultTypes.toList).any (Tryz.pinned.checked.prog.wideKeysFrom ·))) = true := by kernel_rfl
theorem k18 : ((Rows.loginOverSpec).vars.all (Tryz.pinned.checked.prog.varReadable ·)) = true := by kernel_rfl
theorem k19 : (Tryz.f7.resultTypes.all (fun t => Tryz.pinned.checked.prog.readableRec t && decide (t < Tryz.pinned.checked.prog.types.size))) = true := by kernel_rfl
theorem k20 : ((Rows.loginOverRow.ifacesOut == Tryz.f7.resultTypes.toList.any (Tryz.pinned.checked.prog.ifacesRec ·))) = true := by kernel_rfl
theorem k21 : ((Rows.loginOverRow.loopsOut == Tryz.f7.resultTypes.toList.any (Tryz.pinned.checked.prog.loopsFrom ·))) = true := by kernel_rfl
theorem k22 : ((Rows.loginOverRow.plainKeys == Tryz.pinned.checked.prog.plainKeys)) = true := jo22
theorem k23 : (Rows.loginOverRow.shortTexts.isNone) = true := by kernel_rfl
theorem k26 : ((Rows.loginOverRow.lifted == Tryz.pinned.checked.prog.liftsFinal)) = true := jo26
theorem k27 : ((Tryz.pinned.checked.prog.make == some Rows.loginOverRow.make)) = true := jo27
theorem k28 : ((Rows.loginOverRow.kinds == (if Rows.loginOverRow.domain.isEmpty then [] else Tryz.f7.params.toList.map fun t => match Tryz.pinned.checked.prog.underlying t with | some (.int k) => some k | _ => none))) = true := by kernel_rfl
theorem k29 : ((Rows.loginOverRow.pinned == Rows.loginOverRow.pinnedBy)) = true := by kernel_rfl
theorem k30 : ((Rows.loginOverRow.veiled == (Tryz.f7.params.toList ++ (Rows.loginOverSpec).plain.varTypes Tryz.pinned.checked.prog ++ Tryz.f7.resultTypes.toList).any (Tryz.pinned.checked.prog.veiledRec ·))) = true := by kernel_rfl
theorem k31 : (Rows.loginOverRow.veiledFits Tryz.pinned.checked.prog Tryz.f7.params.toList (Tryz.f7.params.toList ++ (Rows.loginOverSpec).plain.varTypes Tryz.pinned.checked.prog ++ Tryz.f7.resultTypes.toList)) = true := by kernel_rfl
set_option maxRecDepth 100000 in
theorem closed : joinedFacts Tryz.pinned.checked.prog 7 Tryz.f7 (OpenSpec.ofChange (Rows.loginOverSpec)).bare Rows.loginOverRow = true := and_mk (and_mk (and_mk (and_mk (and_mk (and_mk (and_mk (and_mk (and_mk (and_mk (and_mk (and_mk (and_mk (and_mk (and_mk (and_mk (and_mk (and_mk (and_mk (and_mk (and_mk (and_mk (and_mk (and_mk (and_mk (and_mk (and_mk (and_mk (and_mk (and_mk (and_mk (k0) jo1) jo2) k3) k4) k5) jo6) k7) jo8) k9) k10) k11) k12) k13) k14) k15) k16) k17) k18) k19) k20) k21) k22) k23) jo24) jo25) k26) k27) k28) k29) k30) k31
theorem said : Rows.LoginOverSaid :=
 OpenClaim.holds_of_cond 7 Tryz.f7 rfl rfl rfl rfl rfl rfl rfl ⟨rfl, rfl, rfl, rfl, rfl⟩ rfl rfl rfl rfl rfl (by kernel_rfl) Tryz.func7 closed
  (of_decide_eq_true (by kernel_rfl)) (by unfold Func.isWrapper; first | (rw [if_pos (by decide +kernel)]; kernel_rfl) | (rw [if_neg (by decide +kernel)]; exact ⟨rfl, rfl⟩))
  (fun os started H enc _ F => by rw [OpenClaim.pre_eq_preRow]; exact lifted os started H enc F)
theorem plain (f : FuncId) (fn : Func) (hf : Tryz.pinned.checked.prog.funcNamed "quaymaster/quaymasterkeep.LoginOver" = some f) (hfn : Tryz.pinned.checked.prog.funcs[f]? = some fn) :
  true = Tryz.pinned.checked.prog.looks [] ∧ ∀ (j : Nat) t, fn.params[j]? = some t → Tryz.pinned.checked.prog.wantsStandIn t = false := by
 obtain rfl : f = 7 := Option.some.inj ((show Tryz.prog.funcNamed "quaymaster/quaymasterkeep.LoginOver" = some 7 by kernel_rfl).symm.trans hf) |>.symm
 obtain rfl : fn = Tryz.f7 := (Option.some.inj (Tryz.func7.symm.trans hfn)).symm
 refine ⟨by kernel_rfl, fun j t ht => ?_⟩
 rw [Tryz.params7] at ht
 have hm : t ∈ ([29, 31, 32, 41] : List TypeId) := by
  have := Array.mem_of_getElem? ht
  simpa using this
 have hall : ([29, 31, 32, 41] : List TypeId).all (fun t => !Tryz.prog.wantsStandIn t) = true := by kernel_rfl
 have hn := List.all_eq_true.1 hall t hm
 show Tryz.prog.wantsStandIn t = false
 simpa using hn
theorem proved : Rows.LoginOverCardSaid :=
 Claim7.holds_tied_plain_at .later [] _ _ _ _ said (fun _ h => by cases h) (by kernel_rfl) (fun _ h => by cases h) loginOver_row_tie rfl ⟨rfl, rfl⟩ (by kernel_rfl) rfl plain (by kernel_rfl)
#print axioms proved
end Go.Proofs.YtmkebjdmkkjloaaGreatDoor.loginOver
