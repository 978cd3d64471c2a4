/- LoginStages: for every input the law's function returns true, and what came in reads as it did. -/
import Derived.Carry
import Derived.ChangeOld
import Derived.Deep.DeepHandedRow
import Derived.Deep.DeepWitnessRowRef
import Derived.Lib.LaidU8
import Derived.OpenShut
import Derived.ProofKit
import Derived.SevenTiedAt
import Derived.ShapedOpen
import Derived.ShutString
import Derived.SizedLaws
import Derived.Test.YtmkebjdmkkjloaaGreatDoorCards
import Derived.Test.YtmkebjdmkkjloaaGreatDoorTie
import GoSem.PinnedTables
import Derived.Test.YtmkebjdmkkjloaaGreatDoorLB37
import Derived.Test.YtmkebjdmkkjloaaGreatDoorLB39
import Derived.Test.YtmkebjdmkkjloaaGreatDoorLB42
import Derived.Test.YtmkebjdmkkjloaaGreatDoorLB43
namespace Go.Proofs.YtmkebjdmkkjloaaGreatDoor
open Go Go.RowKit
set_option linter.unusedVariables false
theorem stOk_0 (c : Cf) : StOk 0 (lg0 c) := ⟨by decide, by decide, fun _ _ => ⟨fun _ => rfl, fun h => absurd (show (false = true) from h) Bool.false_ne_true⟩⟩
set_option maxRecDepth 100000 in
set_option maxHeartbeats 8000000 in
theorem loginStages_any (c : Cf) (vt vp vu vo : Value) (d : Dw) (l : List Pd) (v : Value) (w : World) (hv : ConfAt w c vt vp vu vo) (hf : FitCf c) (hd : (Lit.int .i64 d.id).wf = true ∧ d.ch.length ≤ 140737488351232) (hpl : PdusV w v l) (hfl : (∀ q ∈ l, FitP q) ∧ l.length ≤ 140737488355328) (hE : EnvL w) :
  Calls Tryz.prog 3 #[confV c vt vp vu vo, .agg #[.int .i64 d.id, .string (S d.ch)], v] w fun e w' => e = .returned (.bool true) ∧ Below w.heap.size w w' := by
 obtain ⟨pl, cl, rfl⟩ := hpl.form
 obtain ⟨w0, hw0⟩ : ∃ x, w.alloc (.cells #[vt, vp, vu, .string (S c.sn), .string (S c.ss), .int .i64 c.lim, vo] 29) = x := ⟨_, rfl⟩
 obtain ⟨w2, hw2⟩ : ∃ x, w0.alloc (.cells #[.int .i64 d.id, .string (S d.ch)] 31) = x := ⟨_, rfl⟩
 have b0 : Below w.heap.size w w0 := by rw [← hw0]; exact (Below.refl _ _).alloc (Nat.le_refl _) _
 have b1 : Below w0.heap.size w0 w2 := by rw [← hw2]; exact (Below.refl _ _).alloc (Nat.le_refl _) _
 have k0 : Blk w0 w.heap.size #[vt, vp, vu, .string (S c.sn), .string (S c.ss), .int .i64 c.lim, vo] 29 := by rw [← hw0]; exact Blk.new w _ _
 have k1 : Blk w2 w0.heap.size #[.int .i64 d.id, .string (S d.ch)] 31 := by rw [← hw2]; exact Blk.new w0 _ _
 obtain ⟨cb, hcb⟩ : ∃ x, w.heap.size = x := ⟨_, rfl⟩
 obtain ⟨db, hdb⟩ : ∃ x, w0.heap.size = x := ⟨_, rfl⟩
 have b02 := below_then b0 b1
 have j0 := k0.later b1
 rw [hcb] at j0
 rw [hdb] at k1
 have HB := Lib.hid b02
 have HK0 := Lib.hid j0
 have HK1 := Lib.hid k1
 have HV := Lib.hid (hv.later b02)
 have Hf := Lib.hid hf
 have Hd := Lib.hid hd.2
 have HPL := Lib.hid (hpl.later b02)
 have Hfl := Lib.hid hfl.1
 have Hll := Lib.hid hfl.2
 have hlI : (l.length : Int) ≤ 140737488355328 := by have := hfl.2; omega
 have HE := Lib.hid (hE.later b02)
 have EN := Lib.hid (entered_any w2 (hE.later b02))
 clear hv hf hd hpl hfl hE b0 b1 k0 k1 b02 j0
 unfold confV
 go_enter Tryz.func3, Tryz.ntmps3
 go_wp2_with fail
 clear hw0 hw2
 refine EN.out.mono ?_
 rintro e w3 ⟨rfl, hb3⟩
 have Hb3 := Lib.hid hb3
 obtain ⟨x0, x1, x2, x3, x4, x5, x6⟩ := (HK0.out.later hb3).seven
 obtain ⟨y0, y1⟩ := (HK1.out.later hb3).two
 have HD := held_any c d vt vp vu vo l (.slice pl l.length cl) w3 (HV.out.later hb3) Hf.out Hd.out (HPL.out.later hb3) Hfl.out Hll.out (HE.out.later hb3)
 unfold confV at HD
 replace HD := Lib.hid HD
 clear hb3 EN
 go_wp2_with fail
 clear x0 x1 x2 x3 x4 x5 x6 y0 y1
 refine HD.out.mono ?_
 rintro e w4 (⟨rfl, hb4⟩ | ⟨lb, m, rfl, hnew, hL⟩)
 ·have HL := Lib.hid (below_then HB.out (below_then Hb3.out hb4))
  clear hb4 HD
  go_wp2_with fail
  go_ret
  exact ⟨rfl, HL.out⟩
 ·obtain ⟨hc, hdd, -⟩ := newL_is hnew
  have HC := Lib.hid hc
  have HDD := Lib.hid hdd
  have HS4 := Lib.hid hL
  have HE3 := Lib.hid (HE.out.later Hb3.out)
  have hlow4 := below_then Hb3.out hL.low
  have hLoff : PdusV (offW (m.H lb) w4) (.slice pl l.length cl) l := (HPL.out.later Hb3.out).later HS4.out.mask
  have HLO := Lib.hid hLoff
  clear hc hdd hL hnew HD hlow4 HV hLoff
  go_wp2_with fail
  go_loopw [8, 9, 31] (fun sv wv i wr => ∃ (j : Nat) (m' : LgM) (q' : Lq) (s' : Lg) (st : Int) (was : Bool), i = .int .i64 j ∧ sv = .int .i64 st ∧ wv = .bool was ∧ j ≤ l.length ∧ was = (s'.don || s'.fld) ∧ StOk st s' ∧ LS w3 wr lb m' c d q' s' ∧ Below (offW (m.H lb) w4).heap.size (offW (m.H lb) w4) (offW (m'.H lb) wr)) (fun _ _ i _ => l.length - (intOf i).toNat)
  case atStart => exact ⟨0, m, _, _, 0, false, rfl, rfl, rfl, Nat.zero_le _, rfl, stOk_0 c, HS4.out, Below.refl _ _⟩
  case round =>
   obtain ⟨j, m1, q1, s1, st, was, rfl, rfl, rfl, hj, hwas, hst, hS, hoff⟩ := hrel
   by_cases hlt : j < l.length
   ·obtain ⟨b, o, rfl, a1, d1, a2, d2, hp, e0, e1, e2, e3, e4, e5⟩ := (HLO.out.later hoff).cellsO hlt
    have hfit := Hfl.out l[j] (List.getElem_mem hlt)
    generalize hpe : l[j] = p at *
    have hb1 := (Below.refl wr.heap.size wr).alloc (Nat.le_refl _) (.cells #[.int .i64 p.h.op, .bool p.h.now, .int .i64 p.h.fl, .slice a1 p.h.vs.length d1, .slice a2 p.a.length d2, .string (S p.d)] 41)
    have hk1 := Blk.new wr #[.int .i64 p.h.op, .bool p.h.now, .int .i64 p.h.fl, .slice a1 p.h.vs.length d1, .slice a2 p.a.length d2, .string (S p.d)] 41
    generalize hW1 : wr.alloc (.cells #[.int .i64 p.h.op, .bool p.h.now, .int .i64 p.h.fl, .slice a1 p.h.vs.length d1, .slice a2 p.a.length d2, .string (S p.d)] 41) = W1 at hb1 hk1
    have hS1 := hS.later hb1
    have T := take_ls p _ _ hS1 (hp.later (Keeps.of hb1 _).off') HE3.out hfit HC.out HDD.out
    have hgood := fun h => stage_ways (c := c) (d := d) (s := s1) (p := p) h hst
    have hbad := fun h => take_err (c := c) (d := d) (s := s1) (p := p) h
    have hnow := fun h => take_good (c := c) (d := d) (s := s1) (p := p) h
    obtain ⟨⟨⟨A, n⟩, s2⟩, hT⟩ : ∃ r, takeL c d s1 p = r := ⟨_, rfl⟩
    rw [hT] at T hgood hbad hnow
    unfold RetLS pduV at T
    simp only at T hgood hbad hnow
    replace T := Lib.hid T
    have HG := Lib.hid hgood
    have HBD := Lib.hid hbad
    have HNOW := Lib.hid (fun h => (hnow h).1)
    have HWAS := Lib.hid hwas
    have HST := Lib.hid hst
    have HOF := Lib.hid (below_then hoff (by have := (Keeps.of hb1 (m1.H lb)).off'; exact this) : Below (offW (m.H lb) w4).heap.size (offW (m.H lb) w4) (offW (m1.H lb) W1))
    obtain ⟨k0, k1, k2, k3, k4, k5⟩ := hk1.six
    clear hS hoff hp hfit hpe hb1 hk1 hS1 hgood hbad hnow hT hwas hst
    go_wp2_with fail
    clear k0 k1 k2 k3 k4 k5 hW1 e0 e1 e2 e3 e4 e5
    refine T.out.mono ?_
    rintro e w6 ⟨m2, q2, v3, v4, ev, rfl, hPA, herr, hS6, hK6⟩
    obtain ⟨p3, c3, rfl⟩ : ∃ p c, v3 = .slice p A.h.vs.length c := by obtain ⟨p, c, h, _⟩ := hPA.v; exact ⟨p, c, h⟩
    obtain ⟨p4, c4, rfl⟩ := hPA.a.form
    obtain ⟨w7, hw7⟩ : ∃ x, w6.alloc (.cells #[.int .i64 A.h.op, .bool A.h.now, .int .i64 A.h.fl, .slice p3 A.h.vs.length c3, .slice p4 A.a.length c4, .string (S A.d)] 41) = x := ⟨_, rfl⟩
    have hb7 : Below w6.heap.size w6 w7 := by rw [← hw7]; exact (Below.refl _ _).alloc (Nat.le_refl _) _
    have hk7 : Blk w7 w6.heap.size #[.int .i64 A.h.op, .bool A.h.now, .int .i64 A.h.fl, .slice p3 A.h.vs.length c3, .slice p4 A.a.length c4, .string (S A.d)] 41 := by rw [← hw7]; exact Blk.new w6 _ _
    obtain ⟨ab, hab⟩ : ∃ x, w6.heap.size = x := ⟨_, rfl⟩
    rw [hab] at hk7
    have HS7 := Lib.hid (hS6.later hb7)
    have HOF7 := Lib.hid (below_then (below_then HOF.out hK6.off') (Keeps.of hb7 _).off')
    have HPA7 := Lib.hid (hPA.later (Keeps.of hb7 _).off')
    have HK7 := Lib.hid hk7
    have He7 := Lib.hid (herr.later hb7)
    have OV := Lib.hid HS7.out.overS
    clear hPA herr hS6 hK6 hb7 hk7 T HOF
    go_wp2_with fail
    clear hw7
    refine OV.out.mono ?_
    rintro e w8 ⟨rfl, hb8⟩
    have HS8 := Lib.hid (HS7.out.later hb8)
    have HOF8 := Lib.hid (below_then HOF7.out (Keeps.of hb8 _).off')
    have HPA8 := Lib.hid (HPA7.out.later (Keeps.of hb8 _).off')
    have HK8 := Lib.hid (HK7.out.later hb8)
    have He8 := Lib.hid (He7.out.later hb8)
    clear hb8 OV HS7 HOF7 HPA7 HK7 He7
    by_cases hn : n = 0
    ·subst hn
     obtain rfl := He8.out.zero
     obtain ⟨hdn, hfn⟩ := HNOW.out rfl
     obtain ⟨hways, hlen⟩ := HG.out rfl
     obtain rfl : was = false := by rw [HWAS.out, hdn, hfn]; rfl
     obtain ⟨fl, cs, hfl0, hcs, hcs0, WY⟩ := hways
     have ST := status_any A _ _ w8 HPA8.out.off (HE3.out.later HS8.out.low).env.mc (by rw [hlen]; decide)
     unfold pduV at ST
     replace ST := Lib.hid ST
     have hst0 := HST.out.lo
     obtain ⟨k0, k1, k2, k3, k4, k5⟩ := HK8.out.six
     clear hdn hfn hlen HG HNOW HBD HWAS HST He8
     go_wp2_with fail
     clear k0 k1 k2 k3 k4 k5
     rcases WY with ⟨dt, f1, f2, f3, f4, f5, f6⟩ | ⟨f1, f2, f3, f4, f5, f6, f7, f8⟩ | ⟨f1, f2, f3, f4, f5, f6, f7, f8⟩ | ⟨f1, f2, f3, f4, f5, f6, f7, f8⟩
     ·have ST2 := ST.out
      rw [f1] at ST2
      replace ST2 := Lib.hid ST2
      have HOK := Lib.hid f6
      have HDN := Lib.hid f4
      have HFN := Lib.hid f5
      have d1 := f4
      have d2 := f5
      clear f1 ST
      refine ST2.out.mono ?_
      rintro e w9 ⟨rfl, hb9⟩
      have HS9 := Lib.hid (HS8.out.later hb9)
      have HOF9 := Lib.hid (below_then HOF8.out (Keeps.of hb9 _).off')
      clear hb9 ST2 HS8 HOF8
      go_wp2_with fail
      go_roundw
      case rel => exact ⟨j + 1, m2, q2, s2, st, true, by go_num, rfl, rfl, by omega, by rw [HDN.out, HFN.out]; rfl, HOK.out, HS9.out, HOF9.out⟩
      case measure => simp [intOf]; omega
     ·have ST2 := ST.out
      rw [f1] at ST2
      replace ST2 := Lib.hid ST2
      have HOK := Lib.hid f8
      have HDN := Lib.hid f6
      have HFN := Lib.hid f7
      have d1 := f6
      have d2 := f7
      clear f1 ST
      refine ST2.out.mono ?_
      rintro e w9 ⟨rfl, hb9⟩
      have HS9 := Lib.hid (HS8.out.later hb9)
      have HOF9 := Lib.hid (below_then HOF8.out (Keeps.of hb9 _).off')
      clear hb9 ST2 HS8 HOF8
      go_wp2_with fail
      go_roundw
      case rel => exact ⟨j + 1, m2, q2, s2, st, false, by go_num, rfl, rfl, by omega, by rw [HDN.out, HFN.out]; rfl, HOK.out, HS9.out, HOF9.out⟩
      case measure => simp [intOf]; omega
     ·have ST2 := ST.out
      rw [f1] at ST2
      replace ST2 := Lib.hid ST2
      have HOK := Lib.hid f8
      have HDN := Lib.hid f6
      have HFN := Lib.hid f7
      have d1 := f6
      have d2 := f7
      clear f1 ST
      refine ST2.out.mono ?_
      rintro e w9 ⟨rfl, hb9⟩
      have HS9 := Lib.hid (HS8.out.later hb9)
      have HOF9 := Lib.hid (below_then HOF8.out (Keeps.of hb9 _).off')
      clear hb9 ST2 HS8 HOF8
      go_wp2_with fail
      go_roundw
      case rel => exact ⟨j + 1, m2, q2, s2, 1, false, by go_num, rfl, rfl, by omega, by rw [HDN.out, HFN.out]; rfl, HOK.out, HS9.out, HOF9.out⟩
      case measure => simp [intOf]; omega
     ·have ST2 := ST.out
      rw [f1] at ST2
      replace ST2 := Lib.hid ST2
      have HOK := Lib.hid f8
      have HDN := Lib.hid f6
      have HFN := Lib.hid f7
      have d1 := f6
      have d2 := f7
      clear f1 ST
      refine ST2.out.mono ?_
      rintro e w9 ⟨rfl, hb9⟩
      have HS9 := Lib.hid (HS8.out.later hb9)
      have HOF9 := Lib.hid (below_then HOF8.out (Keeps.of hb9 _).off')
      clear hb9 ST2 HS8 HOF8
      go_wp2_with fail
      go_roundw
      case rel => exact ⟨j + 1, m2, q2, s2, 3, true, by go_num, rfl, rfl, by omega, by rw [HDN.out, HFN.out]; rfl, HOK.out, HS9.out, HOF9.out⟩
      case measure => simp [intOf]; omega
    ·obtain ⟨te, xe, rfl⟩ := He8.out.iface hn
     obtain ⟨rfl, rfl⟩ := HBD.out hn
     obtain ⟨Z, hZ⟩ : ∃ Z, pd0 = Z := ⟨_, rfl⟩
     have hZf : Z.h.vs.length ≤ 140737488355328 ∧ Z.a.length ≤ 140737488355328 := by rw [← hZ]; decide
     have hpz := HPA8.out.off
     have hkz := HK8.out
     rw [hZ] at hpz hkz
     have SM := same_same Z _ _ (.slice none 0 0) (.slice none 0 0) w8 hpz (by rw [← hZ]; exact pdu0_at _) hZf.1 hZf.2
     rw [show pduV Z (.slice none 0 0) (.slice none 0 0) = .agg #[.int .i64 0, .bool false, .int .i64 0, .slice none 0 0, .slice none 0 0, .string (S [])] by rw [← hZ]; rfl] at SM
     unfold pduV at SM
     replace SM := Lib.hid SM
     obtain ⟨k0, k1, k2, k3, k4, k5⟩ := hkz.six
     rw [hZ]
     clear hpz hkz hZf hZ HG HNOW HBD He8 HK8 HPA8
     cases hdd : s2.don with
     | true =>
      obtain rfl : was = true := by rw [HWAS.out, hdd]; rfl
      have HDD2 := Lib.hid hdd
      go_wp2_with fail
      clear k0 k1 k2 k3 k4 k5
      refine SM.out.mono ?_
      rintro e w9 ⟨rfl, hb9⟩
      have HS9 := Lib.hid (HS8.out.later hb9)
      have HOF9 := Lib.hid (below_then HOF8.out (Keeps.of hb9 _).off')
      clear hb9 SM HS8 HOF8 hdd
      go_wp2_with fail
      go_roundw
      case rel => exact ⟨j + 1, m2, q2, s2, st, true, by go_num, rfl, rfl, by omega, by rw [HDD2.out]; rfl, HST.out, HS9.out, HOF9.out⟩
      case measure => simp [intOf]; omega
     | false =>
      cases hff : s2.fld with
      | true =>
       obtain rfl : was = true := by rw [HWAS.out, hdd, hff]; rfl
       have HDD2 := Lib.hid hdd
       have HFF2 := Lib.hid hff
       go_wp2_with fail
       clear k0 k1 k2 k3 k4 k5
       refine SM.out.mono ?_
       rintro e w9 ⟨rfl, hb9⟩
       have HS9 := Lib.hid (HS8.out.later hb9)
       have HOF9 := Lib.hid (below_then HOF8.out (Keeps.of hb9 _).off')
       clear hb9 SM HS8 HOF8 hdd hff
       go_wp2_with fail
       go_roundw
       case rel => exact ⟨j + 1, m2, q2, s2, st, true, by go_num, rfl, rfl, by omega, by rw [HDD2.out, HFF2.out]; rfl, HST.out, HS9.out, HOF9.out⟩
       case measure => simp [intOf]; omega
      | false =>
       obtain rfl : was = false := by rw [HWAS.out, hdd, hff]; rfl
       have HDD2 := Lib.hid hdd
       have HFF2 := Lib.hid hff
       go_wp2_with fail
       clear k0 k1 k2 k3 k4 k5
       refine SM.out.mono ?_
       rintro e w9 ⟨rfl, hb9⟩
       have HS9 := Lib.hid (HS8.out.later hb9)
       have HOF9 := Lib.hid (below_then HOF8.out (Keeps.of hb9 _).off')
       clear hb9 SM HS8 HOF8 hdd hff
       go_wp2_with fail
       go_roundw
       case rel => exact ⟨j + 1, m2, q2, s2, st, false, by go_num, rfl, rfl, by omega, by rw [HDD2.out, HFF2.out]; rfl, HST.out, HS9.out, HOF9.out⟩
       case measure => simp [intOf]; omega
   ·obtain rfl : j = l.length := by omega
    have HL := Lib.hid (below_then HB.out (below_then Hb3.out hS.low))
    clear hS hoff hst hwas
    go_wp2_with fail
    go_ret
    exact ⟨rfl, HL.out⟩
end Go.Proofs.YtmkebjdmkkjloaaGreatDoor
namespace Go.Proofs.YtmkebjdmkkjloaaGreatDoor
open Go.RowKit
def laidLoginStages : List (String × DataW Unit) := [("math/bits.deBruijn32tab", Rows.laid_math_bits_deBruijn32tab), ("math/bits.deBruijn64tab", Rows.laid_math_bits_deBruijn64tab), ("internal/strconv.uint64pow10", Rows.laid_internal_strconv_uint64pow10), ("unicode/utf8.acceptRanges", Rows.laid_unicode_utf8_acceptRanges), ("errors.errorType", Rows.laid_errors_errorType), ("strconv.ErrRange", Rows.laid_strconv_ErrRange), ("strconv.ErrSyntax", Rows.laid_strconv_ErrSyntax), ("quaymaster/md5.numbers", Rows.laid_quaymaster_md5_numbers), ("quaymaster/md5.turns", Rows.laid_quaymaster_md5_turns), ("unicode/utf8.first", Rows.laid_unicode_utf8_first)]
def plainLoginStages : List (String × DataW Unit) := [("math/bits.deBruijn32tab", Rows.laid_math_bits_deBruijn32tab), ("math/bits.deBruijn64tab", Rows.laid_math_bits_deBruijn64tab), ("internal/strconv.uint64pow10", Rows.laid_internal_strconv_uint64pow10), ("unicode/utf8.acceptRanges", Rows.laid_unicode_utf8_acceptRanges), ("strconv.ErrRange", Rows.laid_strconv_ErrRange), ("strconv.ErrSyntax", Rows.laid_strconv_ErrSyntax), ("quaymaster/md5.numbers", Rows.laid_quaymaster_md5_numbers), ("quaymaster/md5.turns", Rows.laid_quaymaster_md5_turns), ("unicode/utf8.first", Rows.laid_unicode_utf8_first)]
noncomputable def laidWorldLoginStages (os : Os) : World := (laidWorld os).layVars Tryz.prog plainLoginStages
set_option maxRecDepth 100000 in
theorem laidWorldLoginStages_plain (os : Os) (args : Array Value) : laidMet Tryz.prog plainLoginStages ((laidWorldLoginStages os).forCall (fun _ _ => 0) ⟨#[], args, []⟩).memory := laidMet_lay (w0 := (laidWorld os)) args (by kernel_rfl) (by kernel_rfl)
set_option maxRecDepth 100000 in
theorem laidWorldLoginStages_met (os : Os) (args : Array Value) : laidMetH Tryz.prog laidLoginStages ((laidWorldLoginStages os).forCall (fun _ _ => 0) ⟨#[], args, []⟩).memory :=
 laidMetH_of_parts (laidWorldLoginStages_plain os args) (by kernel_rfl)
theorem laidWorldLoginStages_os (os : Os) : (laidWorldLoginStages os).os = os := World.layVars_os _ _ _
theorem partsLoginStages {W : World} (h : laidMetH Tryz.prog laidLoginStages W) : laidMet Tryz.prog [("math/bits.deBruijn32tab", Rows.laid_math_bits_deBruijn32tab), ("math/bits.deBruijn64tab", Rows.laid_math_bits_deBruijn64tab), ("internal/strconv.uint64pow10", Rows.laid_internal_strconv_uint64pow10), ("unicode/utf8.acceptRanges", Rows.laid_unicode_utf8_acceptRanges), ("strconv.ErrRange", Rows.laid_strconv_ErrRange), ("strconv.ErrSyntax", Rows.laid_strconv_ErrSyntax), ("quaymaster/md5.numbers", Rows.laid_quaymaster_md5_numbers), ("quaymaster/md5.turns", Rows.laid_quaymaster_md5_turns), ("unicode/utf8.first", Rows.laid_unicode_utf8_first)] W ∧ handlesMet Tryz.prog [("errors.errorType", Rows.laid_errors_errorType)] W := h
theorem errCell_LoginStages {W : World} (h : laidMetH Tryz.prog laidLoginStages W) : ErrCell W := errCell_of_handles (partsLoginStages h).2 (List.mem_singleton.2 rfl)
theorem readsLoginStages {W : World} (h : laidMetH Tryz.prog laidLoginStages W) {n : String} {d : DataW Unit} (hm : (n, d) ∈ ([("math/bits.deBruijn32tab", Rows.laid_math_bits_deBruijn32tab), ("math/bits.deBruijn64tab", Rows.laid_math_bits_deBruijn64tab), ("internal/strconv.uint64pow10", Rows.laid_internal_strconv_uint64pow10), ("unicode/utf8.acceptRanges", Rows.laid_unicode_utf8_acceptRanges), ("strconv.ErrRange", Rows.laid_strconv_ErrRange), ("strconv.ErrSyntax", Rows.laid_strconv_ErrSyntax), ("quaymaster/md5.numbers", Rows.laid_quaymaster_md5_numbers), ("quaymaster/md5.turns", Rows.laid_quaymaster_md5_turns), ("unicode/utf8.first", Rows.laid_unicode_utf8_first)] : List (String × DataW Unit))) : Go.Lib.VarReads Tryz.prog W n d := Go.Lib.laidMet.reads (partsLoginStages h).1 hm
theorem tabsLoginStages {W : World} (h : laidMetH Tryz.prog laidLoginStages W) : MdTabs W := mdTabs_of_reads (readsLoginStages h (by simp)) (readsLoginStages h (by simp))
end Go.Proofs.YtmkebjdmkkjloaaGreatDoor
namespace Go.Proofs.YtmkebjdmkkjloaaGreatDoor.loginStages
open Go.ChangeShapes Go.WideShapes Go.ChangeAt Go.RowKit
open Go.ChangeMaps (open_string shut_string)
set_option linter.unusedVariables false
theorem own : ownKnob Tryz.prog.godebug = none := by kernel_rfl
theorem laidOut : laidOutB Tryz.prog = true := by kernel_rfl
set_option maxRecDepth 100000 in
theorem contract (H : Type) (enc : TypeId × Value → H) (W : World) (base : Nat) (args : Array Value) (ds gs : List (DataW H)) (before : List MemPlace)
  (hval : ∀ (j : Nat) t v, Tryz.f3.params[j]? = some t → args[j]? = some v → Value.okWide Tryz.prog W .any base t v)
  (hW : DataW.Whole enc Tryz.prog Tryz.f3.params.toList Rows.loginStagesSpec.vars false W args.toList ds gs before)
  (hsz0 : (DataW.weightsEach Tryz.prog (Tryz.f3.params.toList ++ Rows.loginStagesSpec.plain.varTypes Tryz.prog) (ds ++ gs)).all (· ≤ reachBytes) = true)
  (hL : laidMetH Tryz.prog Rows.loginStagesRow.laid W) (hS : W.ShapedOpen Tryz.prog)
  : Calls Tryz.prog 3 args W fun e W' => ∃ v, e = .returned v ∧ Rows.loginStagesSpec.post enc Tryz.prog Tryz.f3 false true false false W args v W' := by
 have hW' := hW
 obtain ⟨p, q, hA0, hV, rfl, hfz, hnd⟩ := hW
 have hsz : (DataW.weightsEach Tryz.prog (Tryz.f3.params.toList ++ Rows.loginStagesSpec.plain.varTypes Tryz.prog) (ds ++ gs)).all (· ≤ reachBytes) = true := hsz0
 have hA : DataW.TrodAll enc Tryz.prog W 0 (fun _ => true) true Tryz.f3.params.toList args.toList ds p := hA0
 rw [Tryz.params3] at hA hval hsz
 obtain ⟨v0, vs0, d0, ds0, p0, q0, hargs, rfl, rfl, h0, r0⟩ := trodAll_cons hA
 obtain ⟨v1, vs1, d1, ds1, p1, q1, rfl, rfl, rfl, h1, r1⟩ := trodAll_cons r0
 obtain ⟨v2, vs2, d2, ds2, p2, q2, rfl, rfl, rfl, h2, r2⟩ := trodAll_cons r1
 obtain ⟨rfl, rfl, rfl⟩ := trodAll_nil r2
 obtain rfl : args = #[v0, v1, v2] := by cases args; simp_all
 obtain ⟨rfl, rfl⟩ := trodVars_none hV
 have hk0 := h0
 have hlt0 : ∀ x ∈ p0, x.block < W.heap.size := fun x hx => by simpa using hW'.lt x (by simp [hx])
 obtain ⟨c0, vt0, vp0, vu0, vo0, rfl, hv0, hF0, hB0⟩ := open_conf hsz (j := 0) rfl rfl (hval 0 29 v0 rfl rfl) h0
 have hk1 := h1
 have hlt1 : ∀ x ∈ p1, x.block < W.heap.size := fun x hx => by simpa using hW'.lt x (by simp [hx])
 obtain ⟨pr1, rfl, hF1⟩ := open_draw hsz (j := 1) rfl rfl (hval 1 31 v1 rfl rfl) h1
 have hk2 := h2
 have hlt2 : ∀ x ∈ p2, x.block < W.heap.size := fun x hx => by simpa using hW'.lt x (by simp [hx])
 obtain ⟨l2, hv2, hN2⟩ := open_pdus hsz (j := 2) rfl rfl (hval 2 32 v2 rfl rfl) h2
 clear hA0 hsz0
 refine (loginStages_any c0 vt0 vp0 vu0 vo0 pr1 l2 v2 W hv0 hF0 hF1 hv2 hN2 (EnvL.mk (env_of hS (readsLoginStages hL (by simp)) (readsLoginStages hL (by simp)) (readsLoginStages hL (by simp))) (errCell_LoginStages hL) (tabsLoginStages hL))).mono fun e W' ⟨he, bel⟩ => ?_
 subst he
 exact ⟨_, rfl, _, _, _, [], _, [], hW', trodAll_mk1 (shut_bool Tryz.underlying4 _), trodAll_cons_mk (Below.trod laidOut (by kernel_rfl) (of_decide_eq_true (by kernel_rfl)) hk0 bel hlt0) (trodAll_cons_mk (Below.trod laidOut (by kernel_rfl) (of_decide_eq_true (by kernel_rfl)) hk1 bel hlt1) (trodAll_cons_mk (Below.trod laidOut (by kernel_rfl) (of_decide_eq_true (by kernel_rfl)) hk2 bel hlt2) trodAll_mk0)), rfl, bel.frame _, fun h => by cases h⟩
theorem reads (os : Os) {H : Type} (enc : TypeId × Value → H) : ∃ places, DataW.whole enc Tryz.prog ((laidWorldLoginStages os).forCall (fun _ _ => 0) ⟨#[], #[.agg #[.slice none 0 0, .slice none 0 0, .slice none 0 0, .string ⟨#[]⟩, .string ⟨#[]⟩, .int .i64 0, .slice none 0 0], .agg #[.int .i64 0, .string ⟨#[]⟩], .slice none 0 0], []⟩).memory Tryz.f3.params.toList Rows.loginStagesSpec.vars false (#[.agg #[.slice none 0 0, .slice none 0 0, .slice none 0 0, .string ⟨#[]⟩, .string ⟨#[]⟩, .int .i64 0, .slice none 0 0], .agg #[.int .i64 0, .string ⟨#[]⟩], .slice none 0 0] : Array Value).toList 8 = some ([.agg [.nil, .nil, .nil, .agg [.lit (.string []), .lit (.string [])], .lit (.int .i64 0), .nil], .agg [.lit (.int .i64 0), .lit (.string [])], .nil], [], places) :=
 ⟨[], by kernel_rfl⟩
set_option maxRecDepth 100000 in
theorem lifted (os : Os) (started : os.Started) (H : Type) (enc : TypeId × Value → H) (F : Stop.Interp) :
  ReturnsInHanded {} Tryz.checked os 3 .any ((OpenSpec.ofChange Rows.loginStagesSpec).preRow enc Tryz.prog Tryz.f3 Rows.loginStagesRow.domain false Rows.loginStagesRow.laid) (((OpenSpec.ofChange Rows.loginStagesSpec).at F).post enc Tryz.prog Tryz.f3 false true false false) := by
 obtain ⟨places, hx⟩ := reads os enc
 refine returnsInHanded_of_row (C := Tryz.checked) (s := OpenSpec.ofChange Rows.loginStagesSpec) own started (by kernel_rfl) Tryz.func3
  (witness_row_atRef (enc := enc) (C := Tryz.checked) false (laidWorldLoginStages os) #[.agg #[.slice none 0 0, .slice none 0 0, .slice none 0 0, .string ⟨#[]⟩, .string ⟨#[]⟩, .int .i64 0, .slice none 0 0], .agg #[.int .i64 0, .string ⟨#[]⟩], .slice none 0 0] (laidWorldLoginStages_os os) (by kernel_rfl) (by kernel_rfl) (by kernel_rfl)
   (OpenSpec.preRow_of_cond 8 hx (by kernel_rfl) (fun k hk => by cases hk) (by kernel_rfl) (laidWorldLoginStages_met os _))) ?_
 intro W base args ds gs before hval hW _ _ hsz hL hS _
 exact contract H enc W base args ds gs before hval hW hsz hL hS
theorem k0 : (Rows.loginStagesRow.wf (OpenSpec.ofChange (Rows.loginStagesSpec))) = true := by kernel_rfl
theorem k3 : (Tryz.f3.params.all (Tryz.pinned.checked.prog.readableRec ·)) = true := by kernel_rfl
theorem k4 : (namedTie Tryz.pinned.checked.prog Rows.loginStagesRow.named (Rows.loginStagesSpec).vars) = true := by kernel_rfl
theorem k5 : ((Rows.loginStagesRow.stops == [])) = true := by kernel_rfl
theorem k7 : ((Rows.loginStagesRow.knobs == [])) = true := by kernel_rfl
theorem k9 : ((Rows.loginStagesRow.inPlace == Tryz.pinned.checked.prog.inPlace 3)) = true := by kernel_rfl
theorem k10 : ((Rows.loginStagesRow.unfollowed == Tryz.pinned.checked.prog.unfollowed 3)) = true := by kernel_rfl
theorem k11 : ((Rows.loginStagesRow.recurses == Tryz.pinned.checked.prog.recurses 3)) = true := by kernel_rfl
theorem k12 : ((Rows.loginStagesRow.named == Tryz.pinned.checked.prog.varsNamed 3)) = true := by kernel_rfl
theorem k13 : ((Rows.loginStagesRow.maps == (Tryz.f3.params.toList ++ (Rows.loginStagesSpec).plain.varTypes Tryz.pinned.checked.prog).any (Tryz.pinned.checked.prog.mapsRec ·))) = true := by kernel_rfl
theorem k14 : ((Rows.loginStagesRow.ifaces == (Tryz.f3.params.toList ++ (Rows.loginStagesSpec).plain.varTypes Tryz.pinned.checked.prog).any (Tryz.pinned.checked.prog.ifacesRec ·))) = true := by kernel_rfl
theorem k15 : ((Rows.loginStagesRow.mapsOut == Tryz.pinned.checked.prog.mapsAmong Tryz.f3.resultTypes.toList)) = true := by kernel_rfl
theorem k16 : ((Rows.loginStagesRow.loops == (Tryz.f3.params.toList ++ (Rows.loginStagesSpec).plain.varTypes Tryz.pinned.checked.prog).any (Tryz.pinned.checked.prog.loopsFrom ·))) = true := by kernel_rfl
theorem k17 : ((Rows.loginStagesRow.wideKeys == (Tryz.f3.params.toList ++ (Rows.loginStagesSpec).plain.varTypes Tryz.pinned.checked.prog ++ Tryz.f3.resultTypes.toList).any (Tryz.pinned.checked.prog.wideKeysFrom ·))) = true := by kernel_rfl
theorem k18 : ((Rows.loginStagesSpec).vars.all (Tryz.pinned.checked.prog.varReadable ·)) = true := by kernel_rfl
theorem k19 : (Tryz.f3.resultTypes.all (fun t => Tryz.pinned.checked.prog.readableRec t && decide (t < Tryz.pinned.checked.prog.types.size))) = true := by kernel_rfl
theorem k20 : ((Rows.loginStagesRow.ifacesOut == Tryz.f3.resultTypes.toList.any (Tryz.pinned.checked.prog.ifacesRec ·))) = true := by kernel_rfl
theorem k21 : ((Rows.loginStagesRow.loopsOut == Tryz.f3.resultTypes.toList.any (Tryz.pinned.checked.prog.loopsFrom ·))) = true := by kernel_rfl
theorem k22 : ((Rows.loginStagesRow.plainKeys == Tryz.pinned.checked.prog.plainKeys)) = true := jo22
theorem k23 : (Rows.loginStagesRow.shortTexts.isNone) = true := by kernel_rfl
theorem k26 : ((Rows.loginStagesRow.lifted == Tryz.pinned.checked.prog.liftsFinal)) = true := jo26
theorem k27 : ((Tryz.pinned.checked.prog.make == some Rows.loginStagesRow.make)) = true := jo27
theorem k28 : ((Rows.loginStagesRow.kinds == (if Rows.loginStagesRow.domain.isEmpty then [] else Tryz.f3.params.toList.map fun t => match Tryz.pinned.checked.prog.underlying t with | some (.int k) => some k | _ => none))) = true := by kernel_rfl
theorem k29 : ((Rows.loginStagesRow.pinned == Rows.loginStagesRow.pinnedBy)) = true := by kernel_rfl
theorem k30 : ((Rows.loginStagesRow.veiled == (Tryz.f3.params.toList ++ (Rows.loginStagesSpec).plain.varTypes Tryz.pinned.checked.prog ++ Tryz.f3.resultTypes.toList).any (Tryz.pinned.checked.prog.veiledRec ·))) = true := by kernel_rfl
theorem k31 : (Rows.loginStagesRow.veiledFits Tryz.pinned.checked.prog Tryz.f3.params.toList (Tryz.f3.params.toList ++ (Rows.loginStagesSpec).plain.varTypes Tryz.pinned.checked.prog ++ Tryz.f3.resultTypes.toList)) = true := by kernel_rfl
set_option maxRecDepth 100000 in
theorem closed : joinedFacts Tryz.pinned.checked.prog 3 Tryz.f3 (OpenSpec.ofChange (Rows.loginStagesSpec)).bare Rows.loginStagesRow = true := and_mk (and_mk (and_mk (and_mk (and_mk (and_mk (and_mk (and_mk (and_mk (and_mk (and_mk (and_mk (and_mk (and_mk (and_mk (and_mk (and_mk (and_mk (and_mk (and_mk (and_mk (and_mk (and_mk (and_mk (and_mk (and_mk (and_mk (and_mk (and_mk (and_mk (and_mk (k0) jo1) jo2) k3) k4) k5) jo6) k7) jo8) k9) k10) k11) k12) k13) k14) k15) k16) k17) k18) k19) k20) k21) k22) k23) jo24) jo25) k26) k27) k28) k29) k30) k31
theorem said : Rows.LoginStagesSaid :=
 OpenClaim.holds_of_cond 3 Tryz.f3 rfl rfl rfl rfl rfl rfl rfl ⟨rfl, rfl, rfl, rfl, rfl⟩ rfl rfl rfl rfl rfl (by kernel_rfl) Tryz.func3 closed
  (of_decide_eq_true (by kernel_rfl)) (by unfold Func.isWrapper; first | (rw [if_pos (by decide +kernel)]; kernel_rfl) | (rw [if_neg (by decide +kernel)]; exact ⟨rfl, rfl⟩))
  (fun os started H enc _ F => by rw [OpenClaim.pre_eq_preRow]; exact lifted os started H enc F)
theorem plain (f : FuncId) (fn : Func) (hf : Tryz.pinned.checked.prog.funcNamed "quaymaster/quaymasterkeep.LoginStages" = some f) (hfn : Tryz.pinned.checked.prog.funcs[f]? = some fn) :
  true = Tryz.pinned.checked.prog.looks [] ∧ ∀ (j : Nat) t, fn.params[j]? = some t → Tryz.pinned.checked.prog.wantsStandIn t = false := by
 obtain rfl : f = 3 := Option.some.inj ((show Tryz.prog.funcNamed "quaymaster/quaymasterkeep.LoginStages" = some 3 by kernel_rfl).symm.trans hf) |>.symm
 obtain rfl : fn = Tryz.f3 := (Option.some.inj (Tryz.func3.symm.trans hfn)).symm
 refine ⟨by kernel_rfl, fun j t ht => ?_⟩
 rw [Tryz.params3] at ht
 have hm : t ∈ ([29, 31, 32] : List TypeId) := by
  have := Array.mem_of_getElem? ht
  simpa using this
 have hall : ([29, 31, 32] : List TypeId).all (fun t => !Tryz.prog.wantsStandIn t) = true := by kernel_rfl
 have hn := List.all_eq_true.1 hall t hm
 show Tryz.prog.wantsStandIn t = false
 simpa using hn
theorem proved : Rows.LoginStagesCardSaid :=
 Claim7.holds_tied_plain_at .later [] _ _ _ _ said (fun _ h => by cases h) (by kernel_rfl) (fun _ h => by cases h) loginStages_row_tie rfl ⟨rfl, rfl⟩ (by kernel_rfl) rfl plain (by kernel_rfl)
#print axioms proved
end Go.Proofs.YtmkebjdmkkjloaaGreatDoor.loginStages
