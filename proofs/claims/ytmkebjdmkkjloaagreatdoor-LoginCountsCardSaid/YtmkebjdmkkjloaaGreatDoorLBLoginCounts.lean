/- LoginCounts: for every input the law's function returns true, and what came in reads as it did. -/
import Derived.Carry
import Derived.ChangeOld
import Derived.Deep.DeepHandedRow
import Derived.Deep.DeepWitnessRowRef
import Derived.Lib.LaidU8
import Derived.OpenShut
import Derived.ProofKit
import Derived.SevenTiedAt
import Derived.ShapedOpen
import Derived.ShutString
import Derived.SizedLaws
import Derived.Test.YtmkebjdmkkjloaaGreatDoorCards
import Derived.Test.YtmkebjdmkkjloaaGreatDoorTie
import GoSem.PinnedTables
import Derived.Test.YtmkebjdmkkjloaaGreatDoorLB20
import Derived.Test.YtmkebjdmkkjloaaGreatDoorLB35
import Derived.Test.YtmkebjdmkkjloaaGreatDoorLB37
import Derived.Test.YtmkebjdmkkjloaaGreatDoorLB39
import Derived.Test.YtmkebjdmkkjloaaGreatDoorLB42
import Derived.Test.YtmkebjdmkkjloaaGreatDoorLB43
namespace Go.Proofs.YtmkebjdmkkjloaaGreatDoor
open Go Go.RowKit
set_option linter.unusedVariables false
theorem w_u32 (n : Int) : IntKind.u32.wrap n = n % 4294967296 := by rw [IntKind.wrap_u32]
theorem w_u64 (n : Int) (h : 0 ≤ n ∧ n < 18446744073709551616) : IntKind.u64.wrap n = n := by rw [IntKind.wrap_u64]; omega
theorem Blk.keepC {w W : World} {b : Nat} {C : Array Value} {t : TypeId} (h : Blk w b C t) (hb : Below w.heap.size w W) : Blk W b C t := h.later hb
set_option maxRecDepth 100000 in
set_option maxHeartbeats 16000000 in
theorem loginCounts_any (c : Cf) (vt vp vu vo : Value) (d : Dw) (l : List Pd) (v : Value) (w : World) (hv : ConfAt w c vt vp vu vo) (hf : FitCf c) (hd : (Lit.int .i64 d.id).wf = true ∧ d.ch.length ≤ 140737488351232) (hpl : PdusV w v l) (hfl : (∀ q ∈ l, FitP q) ∧ l.length ≤ 140737488355328) (hE : EnvL w) :
  Calls Tryz.prog 4 #[confV c vt vp vu vo, .agg #[.int .i64 d.id, .string (S d.ch)], v] w fun e w' => e = .returned (.bool true) ∧ Below w.heap.size w w' := by
 obtain ⟨pl, cl, rfl⟩ := hpl.form
 obtain ⟨w0, hw0⟩ : ∃ x, w.alloc (.cells #[vt, vp, vu, .string (S c.sn), .string (S c.ss), .int .i64 c.lim, vo] 29) = x := ⟨_, rfl⟩
 obtain ⟨w2, hw2⟩ : ∃ x, w0.alloc (.cells #[.int .i64 d.id, .string (S d.ch)] 31) = x := ⟨_, rfl⟩
 have b0 : Below w.heap.size w w0 := by rw [← hw0]; exact (Below.refl _ _).alloc (Nat.le_refl _) _
 have b1 : Below w0.heap.size w0 w2 := by rw [← hw2]; exact (Below.refl _ _).alloc (Nat.le_refl _) _
 have k0 : Blk w0 w.heap.size #[vt, vp, vu, .string (S c.sn), .string (S c.ss), .int .i64 c.lim, vo] 29 := by rw [← hw0]; exact Blk.new w _ _
 have k1 : Blk w2 w0.heap.size #[.int .i64 d.id, .string (S d.ch)] 31 := by rw [← hw2]; exact Blk.new w0 _ _
 obtain ⟨cb, hcb⟩ : ∃ x, w.heap.size = x := ⟨_, rfl⟩
 obtain ⟨db, hdb⟩ : ∃ x, w0.heap.size = x := ⟨_, rfl⟩
 have b02 := below_then b0 b1
 have j0 := k0.later b1
 rw [hcb] at j0
 rw [hdb] at k1
 have HB := Lib.hid b02
 have HK0 := Lib.hid j0
 have HK1 := Lib.hid k1
 have HV := Lib.hid (hv.later b02)
 have Hf := Lib.hid hf
 have Hd := Lib.hid hd.2
 have HPL := Lib.hid (hpl.later b02)
 have Hfl := Lib.hid hfl.1
 have Hll := Lib.hid hfl.2
 have hlI : (l.length : Int) ≤ 140737488355328 := by have := hfl.2; omega
 have HE := Lib.hid (hE.later b02)
 have EN := Lib.hid (entered_any w2 (hE.later b02))
 clear hv hf hd hpl hfl hE b0 b1 k0 k1 b02 j0
 unfold confV
 go_enter Tryz.func4, Tryz.ntmps4
 go_wp2_with fail
 clear hw0 hw2
 refine EN.out.mono ?_
 rintro e w3 ⟨rfl, hb3⟩
 have Hb3 := Lib.hid hb3
 obtain ⟨x0, x1, x2, x3, x4, x5, x6⟩ := (HK0.out.later hb3).seven
 obtain ⟨y0, y1⟩ := (HK1.out.later hb3).two
 have HD := held_any c d vt vp vu vo l (.slice pl l.length cl) w3 (HV.out.later hb3) Hf.out Hd.out (HPL.out.later hb3) Hfl.out Hll.out (HE.out.later hb3)
 unfold confV at HD
 replace HD := Lib.hid HD
 clear hb3 EN
 go_wp2_with fail
 clear x0 x1 x2 x3 x4 x5 x6 y0 y1
 refine HD.out.mono ?_
 rintro e w4 (⟨rfl, hb4⟩ | ⟨lb, m, rfl, hnew, hL⟩)
 ·have HL := Lib.hid (below_then HB.out (below_then Hb3.out hb4))
  clear hb4 HD
  go_wp2_with fail
  go_ret
  exact ⟨rfl, HL.out⟩
 ·obtain ⟨hc, hdd, -⟩ := newL_is hnew
  have HC := Lib.hid hc
  have HDD := Lib.hid hdd
  have HS4 := Lib.hid hL
  have HE3 := Lib.hid (HE.out.later Hb3.out)
  have hlow4 := below_then Hb3.out hL.low
  have hLoff : PdusV (offW (m.H lb) w4) (.slice pl l.length cl) l := (HPL.out.later Hb3.out).later HS4.out.mask
  have HLO := Lib.hid hLoff
  clear hc hdd hL hnew HD hlow4 HV hLoff
  go_wp2_with fail
  go_loopw [27] (fun i wr => ∃ (j : Nat) (m' : LgM) (q' : Lq) (s' : Lg), i = .int .i64 j ∧ j ≤ l.length ∧ LS w3 wr lb m' c d q' s' ∧ Below (offW (m.H lb) w4).heap.size (offW (m.H lb) w4) (offW (m'.H lb) wr)) (fun i _ => l.length - (intOf i).toNat)
  case atStart => exact ⟨0, m, _, _, rfl, Nat.zero_le _, HS4.out, Below.refl _ _⟩
  case round =>
   obtain ⟨j, m1, q1, s1, rfl, hj, hS, hoff⟩ := hrel
   by_cases hlt : j < l.length
   ·obtain ⟨b, o, rfl, a1, d1, a2, d2, hp, e0, e1, e2, e3, e4, e5⟩ := (HLO.out.later hoff).cellsO hlt
    have hfit := Hfl.out l[j] (List.getElem_mem hlt)
    generalize hpe : l[j] = p at *
    have hb1 := (Below.refl wr.heap.size wr).alloc (Nat.le_refl _) (.cells #[.int .i64 p.h.op, .bool p.h.now, .int .i64 p.h.fl, .slice a1 p.h.vs.length d1, .slice a2 p.a.length d2, .string (S p.d)] 41)
    have hk1 := Blk.new wr #[.int .i64 p.h.op, .bool p.h.now, .int .i64 p.h.fl, .slice a1 p.h.vs.length d1, .slice a2 p.a.length d2, .string (S p.d)] 41
    generalize hW1 : wr.alloc (.cells #[.int .i64 p.h.op, .bool p.h.now, .int .i64 p.h.fl, .slice a1 p.h.vs.length d1, .slice a2 p.a.length d2, .string (S p.d)] 41) = W1 at hb1 hk1
    have hnp : ¬ m1.H lb wr.heap.size := fun hh => by have := hS.fresh _ hh; omega
    obtain ⟨pb, hpb⟩ : ∃ x, wr.heap.size = x := ⟨_, rfl⟩
    rw [hpb] at hk1 hnp
    have hb1' : Below wr.heap.size wr W1 := by rw [hpb]; rw [hpb] at hb1; exact hb1
    have hS1 := hS.later hb1'
    have hsta : 0 ≤ s1.sta ∧ s1.sta < 4294967296 := by have h := hS.ok.sta; rw [hS.sim.same.sta] at h; exact h
    have hp1 := hp.later (Keeps.of hb1' _).off'
    have T := take_ls p _ _ hS1 hp1 HE3.out hfit HC.out HDD.out
    have hgood := fun h => counts_of (c := c) (d := d) (s := s1) (p := p) h hsta
    have hbad := fun h => take_err (c := c) (d := d) (s := s1) (p := p) h
    obtain ⟨⟨⟨A, n⟩, s2⟩, hT⟩ : ∃ r, takeL c d s1 p = r := ⟨_, rfl⟩
    rw [hT] at T hgood hbad
    unfold RetLS pduV at T
    simp only at T hgood hbad
    replace T := Lib.hid T
    have HG := Lib.hid hgood
    have HBD := Lib.hid hbad
    have HSTA := Lib.hid hsta
    have SS := Lib.hid hS1.statS
    have HOF := Lib.hid (below_then hoff (by have := (Keeps.of hb1' (m1.H lb)).off'; exact this) : Below (offW (m.H lb) w4).heap.size (offW (m.H lb) w4) (offW (m1.H lb) W1))
    have HKP := Lib.hid hk1
    have HNP := Lib.hid hnp
    have HPp := Lib.hid hp1
    have HFIT := Lib.hid hfit
    have HS1 := Lib.hid hS1
    obtain ⟨k0, k1, k2, k3, k4, k5⟩ := hk1.six
    clear hS hoff hp hp1 hfit hpe hb1 hb1' hk1 hnp hS1 hgood hbad hT hsta
    obtain ⟨n0, hn0⟩ : ∃ x, s1.sta = x := ⟨_, rfl⟩
    rw [hn0] at SS
    go_wp2_with fail
    clear hW1 e0 e1 e2 e3 e4 e5
    refine SS.out.mono ?_
    rintro e w' ⟨rfl, rfl⟩
    go_wp2_with fail
    clear k0 k1 k2 k3 k4 k5
    refine T.out.mono ?_
    rintro e w6 ⟨m2, q2, v3, v4, ev, rfl, hPA, herr, hS6, hK6⟩
    obtain ⟨p3, c3, rfl⟩ : ∃ p c, v3 = .slice p A.h.vs.length c := by obtain ⟨p, c, h, _⟩ := hPA.v; exact ⟨p, c, h⟩
    obtain ⟨p4, c4, rfl⟩ := hPA.a.form
    obtain ⟨w7, hw7⟩ : ∃ x, w6.alloc (.cells #[.int .i64 A.h.op, .bool A.h.now, .int .i64 A.h.fl, .slice p3 A.h.vs.length c3, .slice p4 A.a.length c4, .string (S A.d)] 41) = x := ⟨_, rfl⟩
    have hb7 : Below w6.heap.size w6 w7 := by rw [← hw7]; exact (Below.refl _ _).alloc (Nat.le_refl _) _
    have hk7 : Blk w7 w6.heap.size #[.int .i64 A.h.op, .bool A.h.now, .int .i64 A.h.fl, .slice p3 A.h.vs.length c3, .slice p4 A.a.length c4, .string (S A.d)] 41 := by rw [← hw7]; exact Blk.new w6 _ _
    obtain ⟨ab, hab⟩ : ∃ x, w6.heap.size = x := ⟨_, rfl⟩
    rw [hab] at hk7
    have HS7 := Lib.hid (hS6.later hb7)
    have HOF7 := Lib.hid (below_then (below_then HOF.out hK6.off') (Keeps.of hb7 _).off')
    have HPA7 := Lib.hid (hPA.later (Keeps.of hb7 _).off')
    have HPp7 := Lib.hid ((HPp.out.later hK6.off').later (Keeps.of hb7 _).off')
    have HKP7 := Lib.hid ((HKP.out.kp hK6 HNP.out).later hb7)
    have HK7 := Lib.hid hk7
    have He7 := Lib.hid (herr.later hb7)
    clear hPA herr hS6 hK6 hb7 hk7 T HOF HPp HKP HNP HS1 SS
    by_cases hn : n = 0
    ·subst hn
     obtain rfl := He7.out.zero
     have CN := HG.out rfl
     obtain ⟨k, hk⟩ : ∃ x, hv p.h nCmd = x := ⟨_, rfl⟩
     obtain ⟨K, hKe⟩ : ∃ x : Int, ((k : Nat) : Int) = x := ⟨_, rfl⟩
     have HKI := Lib.hid (show 0 ≤ K ∧ K < 4294967296 by have := CN.few; rw [hk] at this; omega)
     have HKE := Lib.hid hKe
     have HE7 := Lib.hid (HE3.out.later HS7.out.low)
     have W1 := what_any p _ _ nCmd w7 HPp7.out.off HE7.out.env.mc HFIT.out.vs
     rw [hk, hKe] at W1
     unfold pduV at W1
     replace W1 := Lib.hid W1
     have HCN := Lib.hid CN
     have HKk := Lib.hid hk
     obtain ⟨k0, k1, k2, k3, k4, k5⟩ := HKP7.out.six
     clear CN HG HBD He7 hk hKe
     go_wp2_with fail
     clear hw7 k0 k1 k2 k3 k4 k5
     refine W1.out.mono ?_
     rintro e w8 ⟨rfl, hb8⟩
     have HS8 := Lib.hid (HS7.out.later hb8)
     have HOF8 := Lib.hid (below_then HOF7.out (Keeps.of hb8 _).off')
     have HPA8 := Lib.hid (HPA7.out.later (Keeps.of hb8 _).off')
     have HPp8 := Lib.hid (HPp7.out.later (Keeps.of hb8 _).off')
     have HKP8 := Lib.hid (HKP7.out.later hb8)
     have HK8 := Lib.hid (HK7.out.later hb8)
     obtain ⟨dn, hdn⟩ : ∃ x, s2.don = x := ⟨_, rfl⟩
     have OV := HS8.out.overS
     rw [hdn] at OV
     replace OV := Lib.hid OV
     have HDN := Lib.hid hdn
     clear hdn
     clear hb8 W1 HS7 HOF7 HPA7 HPp7 HKP7 HK7 HE7
     go_wp2_with fail
     refine OV.out.mono ?_
     rintro e w9 ⟨rfl, hb9⟩
     have HS9 := Lib.hid (HS8.out.later hb9)
     have HOF9 := Lib.hid (below_then HOF8.out (Keeps.of hb9 _).off')
     have HPA9 := Lib.hid (HPA8.out.later (Keeps.of hb9 _).off').off
     have HPp9 := Lib.hid (HPp8.out.later (Keeps.of hb9 _).off').off
     have HKP9 := Lib.hid (HKP8.out.later hb9)
     have HK9 := Lib.hid (HK8.out.later hb9)
     have HE9 := Lib.hid (HE3.out.later (HS8.out.later hb9).low)
     clear hb9 OV HS8 HOF8 HPA8 HPp8 HKP8 HK8
     have hdn := HDN.out
     obtain ⟨N1, hN1⟩ : ∃ x, s2.sta = x := ⟨_, rfl⟩
     obtain ⟨x1, hx1⟩ : ∃ x, hv p.h nITT = x := ⟨_, rfl⟩
     obtain ⟨x2, hx2⟩ : ∃ x, hv p.h nISID = x := ⟨_, rfl⟩
     obtain ⟨x3, hx3⟩ : ∃ x : Int, (K + 31) % 4294967296 = x := ⟨_, rfl⟩
     have hkI := HKI.out
     have hKe := HKE.out
     have hsa := HSTA.out
     rw [hn0] at hsa
     have g1 : ((hv A.h [83, 116, 97, 116, 83, 78] : Nat) : Int) = n0 := by rw [HCN.out.sta, hn0]
     have g2 : hv A.h nITT = x1 := by rw [HCN.out.itt, hx1]
     have g3 : hv A.h nISID = x2 := by rw [HCN.out.isid, hx2]
     have g4 : ((hv A.h [69, 120, 112, 67, 109, 100, 83, 78] : Nat) : Int) = K := by rw [HCN.out.exp, HKk.out, hKe]
     have g5 : ((hv A.h [77, 97, 120, 67, 109, 100, 83, 78] : Nat) : Int) = x3 := by rw [HCN.out.mx, HKk.out, ← hx3]; omega
     have g6 : s2.cmd = K := by rw [HCN.out.cmd, HKk.out, hKe]
     have g7 : (n0 + 1) % 4294967296 = N1 := by rw [← hN1, HCN.out.nxt, hn0]
     have g8 : ((hv A.h nTSIH : Nat) : Int) = if dn = true then 1 else 0 := by rw [HCN.out.tsih, hdn]; split <;> rfl
     have ML : A.h.vs.length ≤ 9223372036854775807 := by rw [HCN.out.len]; decide
     have FA : FitP A := ⟨by have := (fl_range HCN.out.right); unfold I64; omega, ML, by rw [HCN.out.ahs]; exact ⟨Nat.zero_le _, fun _ h => absurd h List.not_mem_nil⟩, by have := (rightP_is HCN.out.right).d; omega⟩
     have HVP := Lib.hid HFIT.out.vs
     have HG7 := Lib.hid g7
     have u1 : IntKind.u32.wrap (n0 + 1) = N1 := by rw [w_u32]; exact HG7.out
     have u2 : IntKind.u64.wrap n0 = n0 := w_u64 n0 ⟨hsa.1, by omega⟩
     have u3 : IntKind.u32.wrap K = K := by rw [w_u32]; omega
     have u4 : IntKind.u64.wrap (K + 31) = K + 31 := w_u64 _ ⟨by omega, by omega⟩
     have u5 : (K + 31).tmod 4294967296 = x3 := by rw [Int.tmod_eq_emod_of_nonneg (by omega)]; exact hx3
     have C1 := fun (W : World) (hb : Below w9.heap.size w9 W) => (HS9.out.later hb).statS
     simp only [hN1] at C1
     have C2 := fun (W : World) (hb : Below w9.heap.size w9 W) => (HS9.out.later hb).commandS
     simp only [g6] at C2
     have D1 := fun (W : World) (hb : Below w9.heap.size w9 W) => what_any A (.slice p3 A.h.vs.length c3) (.slice p4 A.a.length c4) [83, 116, 97, 116, 83, 78] W (HPA9.out.later hb) (HE9.out.later hb).env.mc ML
     simp only [g1] at D1
     have D2 := fun (W : World) (hb : Below w9.heap.size w9 W) => what_any A (.slice p3 A.h.vs.length c3) (.slice p4 A.a.length c4) nITT W (HPA9.out.later hb) (HE9.out.later hb).env.mc ML
     simp only [g2] at D2
     have D3 := fun (W : World) (hb : Below w9.heap.size w9 W) => what_any A (.slice p3 A.h.vs.length c3) (.slice p4 A.a.length c4) nISID W (HPA9.out.later hb) (HE9.out.later hb).env.mc ML
     simp only [g3] at D3
     have D4 := fun (W : World) (hb : Below w9.heap.size w9 W) => what_any A (.slice p3 A.h.vs.length c3) (.slice p4 A.a.length c4) [69, 120, 112, 67, 109, 100, 83, 78] W (HPA9.out.later hb) (HE9.out.later hb).env.mc ML
     simp only [g4] at D4
     have D5 := fun (W : World) (hb : Below w9.heap.size w9 W) => what_any A (.slice p3 A.h.vs.length c3) (.slice p4 A.a.length c4) [77, 97, 120, 67, 109, 100, 83, 78] W (HPA9.out.later hb) (HE9.out.later hb).env.mc ML
     simp only [g5] at D5
     have D6 := fun (W : World) (hb : Below w9.heap.size w9 W) => what_any A (.slice p3 A.h.vs.length c3) (.slice p4 A.a.length c4) nTSIH W (HPA9.out.later hb) (HE9.out.later hb).env.mc ML
     simp only [g8] at D6
     have D7 := fun (W : World) (hb : Below w9.heap.size w9 W) => what_any p (.slice a1 p.h.vs.length d1) (.slice a2 p.a.length d2) nITT W (HPp9.out.later hb) (HE9.out.later hb).env.mc HVP.out
     simp only [hx1] at D7
     have D8 := fun (W : World) (hb : Below w9.heap.size w9 W) => what_any p (.slice a1 p.h.vs.length d1) (.slice a2 p.a.length d2) nISID W (HPp9.out.later hb) (HE9.out.later hb).env.mc HVP.out
     simp only [hx2] at D8
     have D9 := fun (W : World) (hb : Below w9.heap.size w9 W) => rightP_any A (.slice p3 A.h.vs.length c3) (.slice p4 A.a.length c4) W (HPA9.out.later hb) FA (HE9.out.later hb).env.mc (HE9.out.later hb).err
     unfold RetE at D9
     simp only [HCN.out.right] at D9
     unfold pduV at D1 D2 D3 D4 D5 D6 D7 D8 D9
     replace C1 := Lib.hid C1
     replace C2 := Lib.hid C2
     replace D1 := Lib.hid D1
     replace D2 := Lib.hid D2
     replace D3 := Lib.hid D3
     replace D4 := Lib.hid D4
     replace D5 := Lib.hid D5
     replace D7 := Lib.hid D7
     replace D8 := Lib.hid D8
     replace D9 := Lib.hid D9
     have KEEP := Lib.hid (fun (W : World) (hb : Below w9.heap.size w9 W) => (⟨hb, (HK9.out.later hb).cell 0, (HK9.out.later hb).cell 1, (HK9.out.later hb).cell 2, (HK9.out.later hb).cell 3, (HK9.out.later hb).cell 4, (HK9.out.later hb).cell 5, (HKP9.out.later hb).cell 0, (HKP9.out.later hb).cell 1, (HKP9.out.later hb).cell 2, (HKP9.out.later hb).cell 3, (HKP9.out.later hb).cell 4, (HKP9.out.later hb).cell 5⟩ : Below w9.heap.size w9 W ∧ W.cell? ⟨ab, 0, none⟩ = some (.int .i64 A.h.op) ∧ W.cell? ⟨ab, 1, none⟩ = some (.bool A.h.now) ∧ W.cell? ⟨ab, 2, none⟩ = some (.int .i64 A.h.fl) ∧ W.cell? ⟨ab, 3, none⟩ = some (.slice p3 A.h.vs.length c3) ∧ W.cell? ⟨ab, 4, none⟩ = some (.slice p4 A.a.length c4) ∧ W.cell? ⟨ab, 5, none⟩ = some (.string (S A.d)) ∧ W.cell? ⟨pb, 0, none⟩ = some (.int .i64 p.h.op) ∧ W.cell? ⟨pb, 1, none⟩ = some (.bool p.h.now) ∧ W.cell? ⟨pb, 2, none⟩ = some (.int .i64 p.h.fl) ∧ W.cell? ⟨pb, 3, none⟩ = some (.slice a1 p.h.vs.length d1) ∧ W.cell? ⟨pb, 4, none⟩ = some (.slice a2 p.a.length d2) ∧ W.cell? ⟨pb, 5, none⟩ = some (.string (S p.d))))
     have U1 := Lib.hid u1
     have U2 := Lib.hid u2
     have U3 := Lib.hid u3
     have U4 := Lib.hid u4
     have U5 := Lib.hid u5
     have U6 := Lib.hid hx3
     clear g1 g2 g3 g4 g5 g6 g7 g8 hdn hN1 hx1 hx2 hx3 hsa FA ML hn0 HCN HKk HVP HG7 HDN u1 u2 u3 u4 u5 hkI hKe
     cases dn
     all_goals
      first | simp only [if_true] at D6 | simp only [Bool.false_eq_true, if_false] at D6
      replace D6 := Lib.hid D6
      go_wp2_with fail
      refine wp_region_held (S := (fun W => Below w9.heap.size w9 W ∧ W.cell? ⟨ab, 0, none⟩ = some (.int .i64 A.h.op) ∧ W.cell? ⟨ab, 1, none⟩ = some (.bool A.h.now) ∧ W.cell? ⟨ab, 2, none⟩ = some (.int .i64 A.h.fl) ∧ W.cell? ⟨ab, 3, none⟩ = some (.slice p3 A.h.vs.length c3) ∧ W.cell? ⟨ab, 4, none⟩ = some (.slice p4 A.a.length c4) ∧ W.cell? ⟨ab, 5, none⟩ = some (.string (S A.d)) ∧ W.cell? ⟨pb, 0, none⟩ = some (.int .i64 p.h.op) ∧ W.cell? ⟨pb, 1, none⟩ = some (.bool p.h.now) ∧ W.cell? ⟨pb, 2, none⟩ = some (.int .i64 p.h.fl) ∧ W.cell? ⟨pb, 3, none⟩ = some (.slice a1 p.h.vs.length d1) ∧ W.cell? ⟨pb, 4, none⟩ = some (.slice a2 p.a.length d2) ∧ W.cell? ⟨pb, 5, none⟩ = some (.string (S p.d)))) (by kernel_rfl) ?_
      have e10 : Below w9.heap.size w9 { w9 with drawn := w9.drawn + 1 } := (Below.refl _ _).drew
      generalize ({ w9 with drawn := w9.drawn + 1 } : World) = w10 at e10 ⊢
      have hS10 := KEEP.out _ e10
      have u1 := U1.out
      have u2 := U2.out
      have u3 := U3.out
      have u4 := U4.out
      have u5 := U5.out
      have u6 := U6.out
      refine takeN _ (some 53) (i := 0) rfl rfl (by kernel_rfl) (by kernel_rfl) (by kernel_rfl) (fun _ _ _ h => h) (Or.inl ⟨by rfl, fun w' hw' => by (obtain ⟨_, y0, y1, y2, y3, y4, y5, z0, z1, z2, z3, z4, z5⟩ := hw'; go_simp <;> rfl)⟩) hS10 ?_
      simp only [Act.put, iA, iB, iC]
      refine takeN _ (some 55) (i := 2) rfl rfl (by kernel_rfl) (by kernel_rfl) (by kernel_rfl) (fun _ _ _ h => h) (Or.inl ⟨by rfl, fun w' hw' => by (obtain ⟨_, y0, y1, y2, y3, y4, y5, z0, z1, z2, z3, z4, z5⟩ := hw'; go_simp <;> rfl)⟩) hS10 ?_
      simp only [Act.put, iA, iB, iC]
      refine takeN _ (some 56) (i := 3) rfl rfl (by kernel_rfl) (by kernel_rfl) (by kernel_rfl) (fun _ _ _ h => h) (Or.inl ⟨by rfl, fun w' hw' => by (obtain ⟨_, y0, y1, y2, y3, y4, y5, z0, z1, z2, z3, z4, z5⟩ := hw'; go_simp <;> rfl)⟩) hS10 ?_
      simp only [Act.put, iA, iB, iC]
      refine wpAnyH_all (rs := [1]) (by kernel_rfl) (by simp) (fun i hi => ?_)
      obtain rfl : i = 1 := by simpa using hi
      refine wantN (i := 1) rfl (by rfl) (callN (f := 17) (some 54) rfl Tryz.func17 (by kernel_rfl) (by kernel_rfl) rfl rfl ?_)
      simp only [List.map_toArray, List.map_cons, List.map_nil]
      refine (C1.out _ e10).mono ?_
      rintro e w' ⟨rfl, rfl⟩
      refine ⟨_, rfl, hS10, ?_⟩
      try dsimp only
      simp only [Act.put, iA, iB, iC]
      refine takeN _ (some 57) (i := 4) rfl rfl (by kernel_rfl) (by kernel_rfl) (by kernel_rfl) (fun _ _ _ h => h) (Or.inl ⟨by rfl, fun w' hw' => by (obtain ⟨_, y0, y1, y2, y3, y4, y5, z0, z1, z2, z3, z4, z5⟩ := hw'; go_simp <;> rfl)⟩) hS10 ?_
      simp only [Act.put, iA, iB, iC]
      refine takeN _ (some 58) (i := 5) rfl rfl (by kernel_rfl) (by kernel_rfl) (by kernel_rfl) (fun _ _ _ h => h) (Or.inl ⟨by rfl, fun w' hw' => by (obtain ⟨_, y0, y1, y2, y3, y4, y5, z0, z1, z2, z3, z4, z5⟩ := hw'; go_simp <;> rfl)⟩) hS10 ?_
      simp only [Act.put, iA, iB, iC]
      refine takeN _ (some 59) (i := 6) rfl rfl (by kernel_rfl) (by kernel_rfl) (by kernel_rfl) (fun _ _ _ h => h) (Or.inl ⟨by rfl, fun w' hw' => by (obtain ⟨_, y0, y1, y2, y3, y4, y5, z0, z1, z2, z3, z4, z5⟩ := hw'; go_simp <;> rfl)⟩) hS10 ?_
      simp only [Act.put, iA, iB, iC]
      refine takeN _ (some 61) (i := 8) rfl rfl (by kernel_rfl) (by kernel_rfl) (by kernel_rfl) (fun _ _ _ h => h) (Or.inl ⟨by rfl, fun w' hw' => by (obtain ⟨_, y0, y1, y2, y3, y4, y5, z0, z1, z2, z3, z4, z5⟩ := hw'; go_simp <;> rfl)⟩) hS10 ?_
      simp only [Act.put, iA, iB, iC]
      refine takeN _ (some 62) (i := 9) rfl rfl (by kernel_rfl) (by kernel_rfl) (by kernel_rfl) (fun _ _ _ h => h) (Or.inl ⟨by rfl, fun w' hw' => by (obtain ⟨_, y0, y1, y2, y3, y4, y5, z0, z1, z2, z3, z4, z5⟩ := hw'; go_simp <;> rfl)⟩) hS10 ?_
      simp only [Act.put, iA, iB, iC]
      refine wpAnyH_all (rs := [7]) (by kernel_rfl) (by simp) (fun i hi => ?_)
      obtain rfl : i = 7 := by simpa using hi
      refine wantN (i := 7) rfl (by rfl) (callN (f := 18) (some 60) rfl Tryz.func18 (by kernel_rfl) (by kernel_rfl) rfl rfl ?_)
      simp only [List.map_toArray, List.map_cons, List.map_nil]
      refine (D1.out _ e10).mono ?_
      rintro e w11 ⟨rfl, hb11⟩
      have e11 := below_then e10 hb11
      have hS11 := KEEP.out _ e11
      clear hb11
      refine ⟨_, rfl, hS11, ?_⟩
      try dsimp only
      simp only [Act.put, iA, iB, iC]
      refine takeN _ (some 63) (i := 10) rfl rfl (by kernel_rfl) (by kernel_rfl) (by kernel_rfl) (fun _ _ _ h => h) (Or.inl ⟨by rfl, fun w' hw' => by (obtain ⟨_, y0, y1, y2, y3, y4, y5, z0, z1, z2, z3, z4, z5⟩ := hw'; go_simp <;> rfl)⟩) hS11 ?_
      simp only [Act.put, iA, iB, iC]
      refine takeN _ (some 64) (i := 11) rfl rfl (by kernel_rfl) (by kernel_rfl) (by kernel_rfl) (fun _ _ _ h => h) (Or.inl ⟨by rfl, fun w' hw' => by (obtain ⟨_, y0, y1, y2, y3, y4, y5, z0, z1, z2, z3, z4, z5⟩ := hw'; go_simp <;> rfl)⟩) hS11 ?_
      simp only [Act.put, iA, iB, iC]
      refine takeN _ (some 65) (i := 12) rfl rfl (by kernel_rfl) (by kernel_rfl) (by kernel_rfl) (fun _ _ _ h => h) (Or.inl ⟨by rfl, fun w' hw' => by (obtain ⟨_, y0, y1, y2, y3, y4, y5, z0, z1, z2, z3, z4, z5⟩ := hw'; go_simp <;> rfl)⟩) hS11 ?_
      simp only [Act.put, iA, iB, iC]
      refine takeN _ (some 66) (i := 13) rfl rfl (by kernel_rfl) (by kernel_rfl) (by kernel_rfl) (fun _ _ _ h => h) (Or.inl ⟨by rfl, fun w' hw' => by (obtain ⟨_, y0, y1, y2, y3, y4, y5, z0, z1, z2, z3, z4, z5⟩ := hw'; go_simp <;> rfl)⟩) hS11 ?_
      simp only [Act.put, iA, iB, iC]
      refine takeN _ (some 68) (i := 15) rfl rfl (by kernel_rfl) (by kernel_rfl) (by kernel_rfl) (fun _ _ _ h => h) (Or.inl ⟨by rfl, fun w' hw' => by (obtain ⟨_, y0, y1, y2, y3, y4, y5, z0, z1, z2, z3, z4, z5⟩ := hw'; go_simp <;> rfl)⟩) hS11 ?_
      simp only [Act.put, iA, iB, iC]
      refine wpAnyH_all (rs := [14]) (by kernel_rfl) (by simp) (fun i hi => ?_)
      obtain rfl : i = 14 := by simpa using hi
      refine wantN (i := 14) rfl (by rfl) (callN (f := 18) (some 67) rfl Tryz.func18 (by kernel_rfl) (by kernel_rfl) rfl rfl ?_)
      simp only [List.map_toArray, List.map_cons, List.map_nil]
      refine (D2.out _ e11).mono ?_
      rintro e w12 ⟨rfl, hb12⟩
      have e12 := below_then e11 hb12
      have hS12 := KEEP.out _ e12
      clear hb12
      refine ⟨_, rfl, hS12, ?_⟩
      try dsimp only
      simp only [Act.put, iA, iB, iC]
      refine wpAnyH_all (rs := [16]) (by kernel_rfl) (by simp) (fun i hi => ?_)
      obtain rfl : i = 16 := by simpa using hi
      refine wantN (i := 16) rfl (by rfl) (callN (f := 18) (some 69) rfl Tryz.func18 (by kernel_rfl) (by kernel_rfl) rfl rfl ?_)
      simp only [List.map_toArray, List.map_cons, List.map_nil]
      refine (D7.out _ e12).mono ?_
      rintro e w13 ⟨rfl, hb13⟩
      have e13 := below_then e12 hb13
      have hS13 := KEEP.out _ e13
      clear hb13
      refine ⟨_, rfl, hS13, ?_⟩
      try dsimp only
      simp only [Act.put, iA, iB, iC]
      refine takeN _ (some 70) (i := 17) rfl rfl (by kernel_rfl) (by kernel_rfl) (by kernel_rfl) (fun _ _ _ h => h) (Or.inl ⟨by rfl, fun w' hw' => by (obtain ⟨_, y0, y1, y2, y3, y4, y5, z0, z1, z2, z3, z4, z5⟩ := hw'; go_simp <;> rfl)⟩) hS13 ?_
      simp only [Act.put, iA, iB, iC]
      refine takeN _ (some 71) (i := 18) rfl rfl (by kernel_rfl) (by kernel_rfl) (by kernel_rfl) (fun _ _ _ h => h) (Or.inl ⟨by rfl, fun w' hw' => by (obtain ⟨_, y0, y1, y2, y3, y4, y5, z0, z1, z2, z3, z4, z5⟩ := hw'; go_simp <;> rfl)⟩) hS13 ?_
      simp only [Act.put, iA, iB, iC]
      refine takeN _ (some 72) (i := 19) rfl rfl (by kernel_rfl) (by kernel_rfl) (by kernel_rfl) (fun _ _ _ h => h) (Or.inl ⟨by rfl, fun w' hw' => by (obtain ⟨_, y0, y1, y2, y3, y4, y5, z0, z1, z2, z3, z4, z5⟩ := hw'; go_simp <;> rfl)⟩) hS13 ?_
      simp only [Act.put, iA, iB, iC]
      refine takeN _ (some 73) (i := 20) rfl rfl (by kernel_rfl) (by kernel_rfl) (by kernel_rfl) (fun _ _ _ h => h) (Or.inl ⟨by rfl, fun w' hw' => by (obtain ⟨_, y0, y1, y2, y3, y4, y5, z0, z1, z2, z3, z4, z5⟩ := hw'; go_simp <;> rfl)⟩) hS13 ?_
      simp only [Act.put, iA, iB, iC]
      refine takeN _ (some 75) (i := 22) rfl rfl (by kernel_rfl) (by kernel_rfl) (by kernel_rfl) (fun _ _ _ h => h) (Or.inl ⟨by rfl, fun w' hw' => by (obtain ⟨_, y0, y1, y2, y3, y4, y5, z0, z1, z2, z3, z4, z5⟩ := hw'; go_simp <;> rfl)⟩) hS13 ?_
      simp only [Act.put, iA, iB, iC]
      refine wpAnyH_all (rs := [21]) (by kernel_rfl) (by simp) (fun i hi => ?_)
      obtain rfl : i = 21 := by simpa using hi
      refine wantN (i := 21) rfl (by rfl) (callN (f := 18) (some 74) rfl Tryz.func18 (by kernel_rfl) (by kernel_rfl) rfl rfl ?_)
      simp only [List.map_toArray, List.map_cons, List.map_nil]
      refine (D3.out _ e13).mono ?_
      rintro e w14 ⟨rfl, hb14⟩
      have e14 := below_then e13 hb14
      have hS14 := KEEP.out _ e14
      clear hb14
      refine ⟨_, rfl, hS14, ?_⟩
      try dsimp only
      simp only [Act.put, iA, iB, iC]
      refine wpAnyH_all (rs := [23]) (by kernel_rfl) (by simp) (fun i hi => ?_)
      obtain rfl : i = 23 := by simpa using hi
      refine wantN (i := 23) rfl (by rfl) (callN (f := 18) (some 76) rfl Tryz.func18 (by kernel_rfl) (by kernel_rfl) rfl rfl ?_)
      simp only [List.map_toArray, List.map_cons, List.map_nil]
      refine (D8.out _ e14).mono ?_
      rintro e w15 ⟨rfl, hb15⟩
      have e15 := below_then e14 hb15
      have hS15 := KEEP.out _ e15
      clear hb15
      refine ⟨_, rfl, hS15, ?_⟩
      try dsimp only
      simp only [Act.put, iA, iB, iC]
      refine takeN _ (some 77) (i := 24) rfl rfl (by kernel_rfl) (by kernel_rfl) (by kernel_rfl) (fun _ _ _ h => h) (Or.inl ⟨by rfl, fun w' hw' => by (obtain ⟨_, y0, y1, y2, y3, y4, y5, z0, z1, z2, z3, z4, z5⟩ := hw'; go_simp <;> rfl)⟩) hS15 ?_
      simp only [Act.put, iA, iB, iC]
      refine takeN _ (some 78) (i := 25) rfl rfl (by kernel_rfl) (by kernel_rfl) (by kernel_rfl) (fun _ _ _ h => h) (Or.inl ⟨by rfl, fun w' hw' => by (obtain ⟨_, y0, y1, y2, y3, y4, y5, z0, z1, z2, z3, z4, z5⟩ := hw'; go_simp <;> rfl)⟩) hS15 ?_
      simp only [Act.put, iA, iB, iC]
      refine takeN _ (some 79) (i := 26) rfl rfl (by kernel_rfl) (by kernel_rfl) (by kernel_rfl) (fun _ _ _ h => h) (Or.inl ⟨by rfl, fun w' hw' => by (obtain ⟨_, y0, y1, y2, y3, y4, y5, z0, z1, z2, z3, z4, z5⟩ := hw'; go_simp <;> rfl)⟩) hS15 ?_
      simp only [Act.put, iA, iB, iC]
      refine takeN _ (some 80) (i := 27) rfl rfl (by kernel_rfl) (by kernel_rfl) (by kernel_rfl) (fun _ _ _ h => h) (Or.inl ⟨by rfl, fun w' hw' => by (obtain ⟨_, y0, y1, y2, y3, y4, y5, z0, z1, z2, z3, z4, z5⟩ := hw'; go_simp <;> rfl)⟩) hS15 ?_
      simp only [Act.put, iA, iB, iC]
      refine takeN _ (some 82) (i := 29) rfl rfl (by kernel_rfl) (by kernel_rfl) (by kernel_rfl) (fun _ _ _ h => h) (Or.inl ⟨by rfl, fun w' hw' => by (obtain ⟨_, y0, y1, y2, y3, y4, y5, z0, z1, z2, z3, z4, z5⟩ := hw'; go_simp <;> rfl)⟩) hS15 ?_
      simp only [Act.put, iA, iB, iC]
      refine wpAnyH_all (rs := [28]) (by kernel_rfl) (by simp) (fun i hi => ?_)
      obtain rfl : i = 28 := by simpa using hi
      refine wantN (i := 28) rfl (by rfl) (callN (f := 18) (some 81) rfl Tryz.func18 (by kernel_rfl) (by kernel_rfl) rfl rfl ?_)
      simp only [List.map_toArray, List.map_cons, List.map_nil]
      refine (D4.out _ e15).mono ?_
      rintro e w16 ⟨rfl, hb16⟩
      have e16 := below_then e15 hb16
      have hS16 := KEEP.out _ e16
      clear hb16
      refine ⟨_, rfl, hS16, ?_⟩
      try dsimp only
      simp only [Act.put, iA, iB, iC]
      refine takeN _ (some 83) (i := 30) rfl rfl (by kernel_rfl) (by kernel_rfl) (by kernel_rfl) (fun _ _ _ h => h) (Or.inl ⟨by rfl, fun w' hw' => by (obtain ⟨_, y0, y1, y2, y3, y4, y5, z0, z1, z2, z3, z4, z5⟩ := hw'; go_simp <;> rfl)⟩) hS16 ?_
      simp only [Act.put, iA, iB, iC]
      refine takeN _ (some 84) (i := 31) rfl rfl (by kernel_rfl) (by kernel_rfl) (by kernel_rfl) (fun _ _ _ h => h) (Or.inl ⟨by rfl, fun w' hw' => by (obtain ⟨_, y0, y1, y2, y3, y4, y5, z0, z1, z2, z3, z4, z5⟩ := hw'; go_simp <;> rfl)⟩) hS16 ?_
      simp only [Act.put, iA, iB, iC]
      refine takeN _ (some 85) (i := 32) rfl rfl (by kernel_rfl) (by kernel_rfl) (by kernel_rfl) (fun _ _ _ h => h) (Or.inl ⟨by rfl, fun w' hw' => by (obtain ⟨_, y0, y1, y2, y3, y4, y5, z0, z1, z2, z3, z4, z5⟩ := hw'; go_simp <;> rfl)⟩) hS16 ?_
      simp only [Act.put, iA, iB, iC]
      refine takeN _ (some 86) (i := 33) rfl rfl (by kernel_rfl) (by kernel_rfl) (by kernel_rfl) (fun _ _ _ h => h) (Or.inl ⟨by rfl, fun w' hw' => by (obtain ⟨_, y0, y1, y2, y3, y4, y5, z0, z1, z2, z3, z4, z5⟩ := hw'; go_simp <;> rfl)⟩) hS16 ?_
      simp only [Act.put, iA, iB, iC]
      refine takeN _ (some 88) (i := 35) rfl rfl (by kernel_rfl) (by kernel_rfl) (by kernel_rfl) (fun _ _ _ h => h) (Or.inl ⟨by rfl, fun w' hw' => by (obtain ⟨_, y0, y1, y2, y3, y4, y5, z0, z1, z2, z3, z4, z5⟩ := hw'; go_simp <;> rfl)⟩) hS16 ?_
      simp only [Act.put, iA, iB, iC]
      refine takeN _ (some 89) (i := 36) rfl rfl (by kernel_rfl) (by kernel_rfl) (by kernel_rfl) (fun _ _ _ h => h) (Or.inl ⟨by rfl, fun w' hw' => by (obtain ⟨_, y0, y1, y2, y3, y4, y5, z0, z1, z2, z3, z4, z5⟩ := hw'; go_simp <;> rfl)⟩) hS16 ?_
      simp only [Act.put, iA, iB, iC]
      refine takeN _ (some 90) (i := 37) rfl rfl (by kernel_rfl) (by kernel_rfl) (by kernel_rfl) (fun _ _ _ h => h) (Or.inl ⟨by rfl, fun w' hw' => by (obtain ⟨_, y0, y1, y2, y3, y4, y5, z0, z1, z2, z3, z4, z5⟩ := hw'; go_simp <;> rfl)⟩) hS16 ?_
      simp only [Act.put, iA, iB, iC]
      refine wpAnyH_all (rs := [34]) (by kernel_rfl) (by simp) (fun i hi => ?_)
      obtain rfl : i = 34 := by simpa using hi
      refine wantN (i := 34) rfl (by rfl) (callN (f := 18) (some 87) rfl Tryz.func18 (by kernel_rfl) (by kernel_rfl) rfl rfl ?_)
      simp only [List.map_toArray, List.map_cons, List.map_nil]
      refine (D5.out _ e16).mono ?_
      rintro e w17 ⟨rfl, hb17⟩
      have e17 := below_then e16 hb17
      have hS17 := KEEP.out _ e17
      clear hb17
      refine ⟨_, rfl, hS17, ?_⟩
      try dsimp only
      simp only [Act.put, iA, iB, iC]
      refine takeN _ (some 91) (i := 38) rfl rfl (by kernel_rfl) (by kernel_rfl) (by kernel_rfl) (fun _ _ _ h => h) (Or.inl ⟨by rfl, fun w' hw' => by (obtain ⟨_, y0, y1, y2, y3, y4, y5, z0, z1, z2, z3, z4, z5⟩ := hw'; go_simp <;> rfl)⟩) hS17 ?_
      simp only [Act.put, iA, iB, iC]
      refine takeN _ (some 92) (i := 39) rfl rfl (by kernel_rfl) (by kernel_rfl) (by kernel_rfl) (fun _ _ _ h => h) (Or.inl ⟨by rfl, fun w' hw' => by (obtain ⟨_, y0, y1, y2, y3, y4, y5, z0, z1, z2, z3, z4, z5⟩ := hw'; go_simp <;> rfl)⟩) hS17 ?_
      simp only [Act.put, iA, iB, iC]
      refine takeN _ (some 93) (i := 40) rfl rfl (by kernel_rfl) (by kernel_rfl) (by kernel_rfl) (fun _ _ _ h => h) (Or.inl ⟨by rfl, fun w' hw' => by (obtain ⟨_, y0, y1, y2, y3, y4, y5, z0, z1, z2, z3, z4, z5⟩ := hw'; go_simp <;> rfl)⟩) hS17 ?_
      simp only [Act.put, iA, iB, iC]
      refine takeN _ (some 94) (i := 41) rfl rfl (by kernel_rfl) (by kernel_rfl) (by kernel_rfl) (fun _ _ _ h => h) (Or.inl ⟨by rfl, fun w' hw' => by (obtain ⟨_, y0, y1, y2, y3, y4, y5, z0, z1, z2, z3, z4, z5⟩ := hw'; go_simp <;> rfl)⟩) hS17 ?_
      simp only [Act.put, iA, iB, iC]
      refine takeN _ (some 96) (i := 43) rfl rfl (by kernel_rfl) (by kernel_rfl) (by kernel_rfl) (fun _ _ _ h => h) (Or.inl ⟨by rfl, fun w' hw' => by (obtain ⟨_, y0, y1, y2, y3, y4, y5, z0, z1, z2, z3, z4, z5⟩ := hw'; go_simp <;> rfl)⟩) hS17 ?_
      simp only [Act.put, iA, iB, iC]
      refine takeN _ (some 97) (i := 44) rfl rfl (by kernel_rfl) (by kernel_rfl) (by kernel_rfl) (fun _ _ _ h => h) (Or.inl ⟨by rfl, fun w' hw' => by (obtain ⟨_, y0, y1, y2, y3, y4, y5, z0, z1, z2, z3, z4, z5⟩ := hw'; go_simp <;> rfl)⟩) hS17 ?_
      simp only [Act.put, iA, iB, iC]
      refine wpAnyH_all (rs := [42]) (by kernel_rfl) (by simp) (fun i hi => ?_)
      obtain rfl : i = 42 := by simpa using hi
      refine wantN (i := 42) rfl (by rfl) (callN (f := 19) (some 95) rfl Tryz.func19 (by kernel_rfl) (by kernel_rfl) rfl rfl ?_)
      simp only [List.map_toArray, List.map_cons, List.map_nil]
      refine (C2.out _ e17).mono ?_
      rintro e w' ⟨rfl, rfl⟩
      refine ⟨_, rfl, hS17, ?_⟩
      try dsimp only
      simp only [Act.put, iA, iB, iC]
      refine takeN _ (some 98) (i := 45) rfl rfl (by kernel_rfl) (by kernel_rfl) (by kernel_rfl) (fun _ _ _ h => h) (Or.inl ⟨by rfl, fun w' hw' => by (obtain ⟨_, y0, y1, y2, y3, y4, y5, z0, z1, z2, z3, z4, z5⟩ := hw'; go_simp <;> rfl)⟩) hS17 ?_
      simp only [Act.put, iA, iB, iC]
      refine takeN _ (some 99) (i := 46) rfl rfl (by kernel_rfl) (by kernel_rfl) (by kernel_rfl) (fun _ _ _ h => h) (Or.inl ⟨by rfl, fun w' hw' => by (obtain ⟨_, y0, y1, y2, y3, y4, y5, z0, z1, z2, z3, z4, z5⟩ := hw'; go_simp <;> rfl)⟩) hS17 ?_
      simp only [Act.put, iA, iB, iC]
      refine takeN _ (some 100) (i := 47) rfl rfl (by kernel_rfl) (by kernel_rfl) (by kernel_rfl) (fun _ _ _ h => h) (Or.inl ⟨by rfl, fun w' hw' => by (obtain ⟨_, y0, y1, y2, y3, y4, y5, z0, z1, z2, z3, z4, z5⟩ := hw'; go_simp <;> rfl)⟩) hS17 ?_
      simp only [Act.put, iA, iB, iC]
      refine takeN _ (some 101) (i := 48) rfl rfl (by kernel_rfl) (by kernel_rfl) (by kernel_rfl) (fun _ _ _ h => h) (Or.inl ⟨by rfl, fun w' hw' => by (obtain ⟨_, y0, y1, y2, y3, y4, y5, z0, z1, z2, z3, z4, z5⟩ := hw'; go_simp <;> rfl)⟩) hS17 ?_
      simp only [Act.put, iA, iB, iC]
      refine takeN _ (some 103) (i := 50) rfl rfl (by kernel_rfl) (by kernel_rfl) (by kernel_rfl) (fun _ _ _ h => h) (Or.inl ⟨by rfl, fun w' hw' => by (obtain ⟨_, y0, y1, y2, y3, y4, y5, z0, z1, z2, z3, z4, z5⟩ := hw'; go_simp <;> rfl)⟩) hS17 ?_
      simp only [Act.put, iA, iB, iC]
      refine wpAnyH_all (rs := [49]) (by kernel_rfl) (by simp) (fun i hi => ?_)
      obtain rfl : i = 49 := by simpa using hi
      refine wantN (i := 49) rfl (by rfl) (callN (f := 18) (some 102) rfl Tryz.func18 (by kernel_rfl) (by kernel_rfl) rfl rfl ?_)
      simp only [List.map_toArray, List.map_cons, List.map_nil]
      refine (D6.out _ e17).mono ?_
      rintro e w18 ⟨rfl, hb18⟩
      have e18 := below_then e17 hb18
      have hS18 := KEEP.out _ e18
      clear hb18
      refine ⟨_, rfl, hS18, ?_⟩
      try dsimp only
      simp only [Act.put, iA, iB, iC]
      refine takeN _ (some 104) (i := 51) rfl rfl (by kernel_rfl) (by kernel_rfl) (by kernel_rfl) (fun _ _ _ h => h) (Or.inl ⟨by rfl, fun w' hw' => by (obtain ⟨_, y0, y1, y2, y3, y4, y5, z0, z1, z2, z3, z4, z5⟩ := hw'; go_simp <;> rfl)⟩) hS18 ?_
      simp only [Act.put, iA, iB, iC]
      refine takeN _ (some 105) (i := 52) rfl rfl (by kernel_rfl) (by kernel_rfl) (by kernel_rfl) (fun _ _ _ h => h) (Or.inl ⟨by rfl, fun w' hw' => by (obtain ⟨_, y0, y1, y2, y3, y4, y5, z0, z1, z2, z3, z4, z5⟩ := hw'; go_simp <;> rfl)⟩) hS18 ?_
      simp only [Act.put, iA, iB, iC]
      refine takeN _ (some 106) (i := 53) rfl rfl (by kernel_rfl) (by kernel_rfl) (by kernel_rfl) (fun _ _ _ h => h) (Or.inl ⟨by rfl, fun w' hw' => by (obtain ⟨_, y0, y1, y2, y3, y4, y5, z0, z1, z2, z3, z4, z5⟩ := hw'; go_simp <;> rfl)⟩) hS18 ?_
      simp only [Act.put, iA, iB, iC]
      refine takeN _ (some 107) (i := 54) rfl rfl (by kernel_rfl) (by kernel_rfl) (by kernel_rfl) (fun _ _ _ h => h) (Or.inl ⟨by rfl, fun w' hw' => by (obtain ⟨_, y0, y1, y2, y3, y4, y5, z0, z1, z2, z3, z4, z5⟩ := hw'; go_simp <;> rfl)⟩) hS18 ?_
      simp only [Act.put, iA, iB, iC]
      refine wpAnyH_all (rs := [55]) (by kernel_rfl) (by simp) (fun i hi => ?_)
      obtain rfl : i = 55 := by simpa using hi
      refine wantN (i := 55) rfl (by rfl) (callN (f := 20) (some 108) rfl Tryz.func20 (by kernel_rfl) (by kernel_rfl) rfl rfl ?_)
      simp only [List.map_toArray, List.map_cons, List.map_nil]
      refine (D9.out _ e18).mono ?_
      rintro e w19 ⟨ev, rfl, he, hb19⟩
      obtain rfl := he.zero
      have e19 := below_then e18 hb19
      have hS19 := KEEP.out _ e19
      clear hb19
      refine ⟨_, rfl, hS19, ?_⟩
      try dsimp only
      simp only [Act.put, iA, iB, iC]
      refine takeN _ (some 109) (i := 56) rfl rfl (by kernel_rfl) (by kernel_rfl) (by kernel_rfl) (fun _ _ _ h => h) (Or.inl ⟨by rfl, fun w' hw' => by (obtain ⟨_, y0, y1, y2, y3, y4, y5, z0, z1, z2, z3, z4, z5⟩ := hw'; go_simp <;> rfl)⟩) hS19 ?_
      simp only [Act.put, iA, iB, iC]
      refine takeN _ (some 110) (i := 57) rfl rfl (by kernel_rfl) (by kernel_rfl) (by kernel_rfl) (fun _ _ _ h => h) (Or.inl ⟨by rfl, fun w' hw' => by (obtain ⟨_, y0, y1, y2, y3, y4, y5, z0, z1, z2, z3, z4, z5⟩ := hw'; go_simp <;> rfl)⟩) hS19 ?_
      simp only [Act.put, iA, iB, iC]
      refine wpAnyH_done (by kernel_rfl) ?_ _
      have HSz := Lib.hid (HS9.out.later e19)
      have HOz := Lib.hid (below_then HOF9.out (Keeps.of e19 _).off')
      clear u1 u2 u3 u4 u5 u6
      go_wp2_with fail
      go_roundw
      case rel => exact ⟨j + 1, m2, q2, s2, by go_num, by omega, HSz.out, HOz.out⟩
      case measure => simp [intOf]; omega
    ·obtain ⟨te, xe, rfl⟩ := He7.out.iface hn
     obtain ⟨-, rfl⟩ := HBD.out hn
     have SS := HS7.out.statS
     rw [hn0] at SS
     replace SS := Lib.hid SS
     clear HG HBD He7 hn0
     go_wp2_with fail
     clear hw7
     refine SS.out.mono ?_
     rintro e w' ⟨rfl, rfl⟩
     go_wp2_with fail
     go_roundw
     case rel => exact ⟨j + 1, m2, q2, s2, by go_num, by omega, HS7.out, HOF7.out⟩
     case measure => simp [intOf]; omega
   ·obtain rfl : j = l.length := by omega
    have HL := Lib.hid (below_then HB.out (below_then Hb3.out hS.low))
    clear hS hoff
    go_wp2_with fail
    go_ret
    exact ⟨rfl, HL.out⟩
end Go.Proofs.YtmkebjdmkkjloaaGreatDoor
namespace Go.Proofs.YtmkebjdmkkjloaaGreatDoor
open Go.RowKit
def laidLoginCounts : List (String × DataW Unit) := [("math/bits.deBruijn32tab", Rows.laid_math_bits_deBruijn32tab), ("math/bits.deBruijn64tab", Rows.laid_math_bits_deBruijn64tab), ("internal/strconv.uint64pow10", Rows.laid_internal_strconv_uint64pow10), ("unicode/utf8.acceptRanges", Rows.laid_unicode_utf8_acceptRanges), ("errors.errorType", Rows.laid_errors_errorType), ("strconv.ErrRange", Rows.laid_strconv_ErrRange), ("strconv.ErrSyntax", Rows.laid_strconv_ErrSyntax), ("quaymaster/md5.numbers", Rows.laid_quaymaster_md5_numbers), ("quaymaster/md5.turns", Rows.laid_quaymaster_md5_turns), ("unicode/utf8.first", Rows.laid_unicode_utf8_first)]
def plainLoginCounts : List (String × DataW Unit) := [("math/bits.deBruijn32tab", Rows.laid_math_bits_deBruijn32tab), ("math/bits.deBruijn64tab", Rows.laid_math_bits_deBruijn64tab), ("internal/strconv.uint64pow10", Rows.laid_internal_strconv_uint64pow10), ("unicode/utf8.acceptRanges", Rows.laid_unicode_utf8_acceptRanges), ("strconv.ErrRange", Rows.laid_strconv_ErrRange), ("strconv.ErrSyntax", Rows.laid_strconv_ErrSyntax), ("quaymaster/md5.numbers", Rows.laid_quaymaster_md5_numbers), ("quaymaster/md5.turns", Rows.laid_quaymaster_md5_turns), ("unicode/utf8.first", Rows.laid_unicode_utf8_first)]
noncomputable def laidWorldLoginCounts (os : Os) : World := (laidWorld os).layVars Tryz.prog plainLoginCounts
set_option maxRecDepth 100000 in
theorem laidWorldLoginCounts_plain (os : Os) (args : Array Value) : laidMet Tryz.prog plainLoginCounts ((laidWorldLoginCounts os).forCall (fun _ _ => 0) ⟨#[], args, []⟩).memory := laidMet_lay (w0 := (laidWorld os)) args (by kernel_rfl) (by kernel_rfl)
set_option maxRecDepth 100000 in
theorem laidWorldLoginCounts_met (os : Os) (args : Array Value) : laidMetH Tryz.prog laidLoginCounts ((laidWorldLoginCounts os).forCall (fun _ _ => 0) ⟨#[], args, []⟩).memory :=
 laidMetH_of_parts (laidWorldLoginCounts_plain os args) (by kernel_rfl)
theorem laidWorldLoginCounts_os (os : Os) : (laidWorldLoginCounts os).os = os := World.layVars_os _ _ _
theorem partsLoginCounts {W : World} (h : laidMetH Tryz.prog laidLoginCounts W) : laidMet Tryz.prog [("math/bits.deBruijn32tab", Rows.laid_math_bits_deBruijn32tab), ("math/bits.deBruijn64tab", Rows.laid_math_bits_deBruijn64tab), ("internal/strconv.uint64pow10", Rows.laid_internal_strconv_uint64pow10), ("unicode/utf8.acceptRanges", Rows.laid_unicode_utf8_acceptRanges), ("strconv.ErrRange", Rows.laid_strconv_ErrRange), ("strconv.ErrSyntax", Rows.laid_strconv_ErrSyntax), ("quaymaster/md5.numbers", Rows.laid_quaymaster_md5_numbers), ("quaymaster/md5.turns", Rows.laid_quaymaster_md5_turns), ("unicode/utf8.first", Rows.laid_unicode_utf8_first)] W ∧ handlesMet Tryz.prog [("errors.errorType", Rows.laid_errors_errorType)] W := h
theorem errCell_LoginCounts {W : World} (h : laidMetH Tryz.prog laidLoginCounts W) : ErrCell W := errCell_of_handles (partsLoginCounts h).2 (List.mem_singleton.2 rfl)
theorem readsLoginCounts {W : World} (h : laidMetH Tryz.prog laidLoginCounts W) {n : String} {d : DataW Unit} (hm : (n, d) ∈ ([("math/bits.deBruijn32tab", Rows.laid_math_bits_deBruijn32tab), ("math/bits.deBruijn64tab", Rows.laid_math_bits_deBruijn64tab), ("internal/strconv.uint64pow10", Rows.laid_internal_strconv_uint64pow10), ("unicode/utf8.acceptRanges", Rows.laid_unicode_utf8_acceptRanges), ("strconv.ErrRange", Rows.laid_strconv_ErrRange), ("strconv.ErrSyntax", Rows.laid_strconv_ErrSyntax), ("quaymaster/md5.numbers", Rows.laid_quaymaster_md5_numbers), ("quaymaster/md5.turns", Rows.laid_quaymaster_md5_turns), ("unicode/utf8.first", Rows.laid_unicode_utf8_first)] : List (String × DataW Unit))) : Go.Lib.VarReads Tryz.prog W n d := Go.Lib.laidMet.reads (partsLoginCounts h).1 hm
theorem tabsLoginCounts {W : World} (h : laidMetH Tryz.prog laidLoginCounts W) : MdTabs W := mdTabs_of_reads (readsLoginCounts h (by simp)) (readsLoginCounts h (by simp))
end Go.Proofs.YtmkebjdmkkjloaaGreatDoor
namespace Go.Proofs.YtmkebjdmkkjloaaGreatDoor.loginCounts
open Go.ChangeShapes Go.WideShapes Go.ChangeAt Go.RowKit
open Go.ChangeMaps (open_string shut_string)
set_option linter.unusedVariables false
theorem own : ownKnob Tryz.prog.godebug = none := by kernel_rfl
theorem laidOut : laidOutB Tryz.prog = true := by kernel_rfl
set_option maxRecDepth 100000 in
theorem contract (H : Type) (enc : TypeId × Value → H) (W : World) (base : Nat) (args : Array Value) (ds gs : List (DataW H)) (before : List MemPlace)
  (hval : ∀ (j : Nat) t v, Tryz.f4.params[j]? = some t → args[j]? = some v → Value.okWide Tryz.prog W .any base t v)
  (hW : DataW.Whole enc Tryz.prog Tryz.f4.params.toList Rows.loginCountsSpec.vars false W args.toList ds gs before)
  (hsz0 : (DataW.weightsEach Tryz.prog (Tryz.f4.params.toList ++ Rows.loginCountsSpec.plain.varTypes Tryz.prog) (ds ++ gs)).all (· ≤ reachBytes) = true)
  (hL : laidMetH Tryz.prog Rows.loginCountsRow.laid W) (hS : W.ShapedOpen Tryz.prog)
  : Calls Tryz.prog 4 args W fun e W' => ∃ v, e = .returned v ∧ Rows.loginCountsSpec.post enc Tryz.prog Tryz.f4 false true false false W args v W' := by
 have hW' := hW
 obtain ⟨p, q, hA0, hV, rfl, hfz, hnd⟩ := hW
 have hsz : (DataW.weightsEach Tryz.prog (Tryz.f4.params.toList ++ Rows.loginCountsSpec.plain.varTypes Tryz.prog) (ds ++ gs)).all (· ≤ reachBytes) = true := hsz0
 have hA : DataW.TrodAll enc Tryz.prog W 0 (fun _ => true) true Tryz.f4.params.toList args.toList ds p := hA0
 rw [Tryz.params4] at hA hval hsz
 obtain ⟨v0, vs0, d0, ds0, p0, q0, hargs, rfl, rfl, h0, r0⟩ := trodAll_cons hA
 obtain ⟨v1, vs1, d1, ds1, p1, q1, rfl, rfl, rfl, h1, r1⟩ := trodAll_cons r0
 obtain ⟨v2, vs2, d2, ds2, p2, q2, rfl, rfl, rfl, h2, r2⟩ := trodAll_cons r1
 obtain ⟨rfl, rfl, rfl⟩ := trodAll_nil r2
 obtain rfl : args = #[v0, v1, v2] := by cases args; simp_all
 obtain ⟨rfl, rfl⟩ := trodVars_none hV
 have hk0 := h0
 have hlt0 : ∀ x ∈ p0, x.block < W.heap.size := fun x hx => by simpa using hW'.lt x (by simp [hx])
 obtain ⟨c0, vt0, vp0, vu0, vo0, rfl, hv0, hF0, hB0⟩ := open_conf hsz (j := 0) rfl rfl (hval 0 29 v0 rfl rfl) h0
 have hk1 := h1
 have hlt1 : ∀ x ∈ p1, x.block < W.heap.size := fun x hx => by simpa using hW'.lt x (by simp [hx])
 obtain ⟨pr1, rfl, hF1⟩ := open_draw hsz (j := 1) rfl rfl (hval 1 31 v1 rfl rfl) h1
 have hk2 := h2
 have hlt2 : ∀ x ∈ p2, x.block < W.heap.size := fun x hx => by simpa using hW'.lt x (by simp [hx])
 obtain ⟨l2, hv2, hN2⟩ := open_pdus hsz (j := 2) rfl rfl (hval 2 32 v2 rfl rfl) h2
 clear hA0 hsz0
 refine (loginCounts_any c0 vt0 vp0 vu0 vo0 pr1 l2 v2 W hv0 hF0 hF1 hv2 hN2 (EnvL.mk (env_of hS (readsLoginCounts hL (by simp)) (readsLoginCounts hL (by simp)) (readsLoginCounts hL (by simp))) (errCell_LoginCounts hL) (tabsLoginCounts hL))).mono fun e W' ⟨he, bel⟩ => ?_
 subst he
 exact ⟨_, rfl, _, _, _, [], _, [], hW', trodAll_mk1 (shut_bool Tryz.underlying4 _), trodAll_cons_mk (Below.trod laidOut (by kernel_rfl) (of_decide_eq_true (by kernel_rfl)) hk0 bel hlt0) (trodAll_cons_mk (Below.trod laidOut (by kernel_rfl) (of_decide_eq_true (by kernel_rfl)) hk1 bel hlt1) (trodAll_cons_mk (Below.trod laidOut (by kernel_rfl) (of_decide_eq_true (by kernel_rfl)) hk2 bel hlt2) trodAll_mk0)), rfl, bel.frame _, fun h => by cases h⟩
theorem reads (os : Os) {H : Type} (enc : TypeId × Value → H) : ∃ places, DataW.whole enc Tryz.prog ((laidWorldLoginCounts os).forCall (fun _ _ => 0) ⟨#[], #[.agg #[.slice none 0 0, .slice none 0 0, .slice none 0 0, .string ⟨#[]⟩, .string ⟨#[]⟩, .int .i64 0, .slice none 0 0], .agg #[.int .i64 0, .string ⟨#[]⟩], .slice none 0 0], []⟩).memory Tryz.f4.params.toList Rows.loginCountsSpec.vars false (#[.agg #[.slice none 0 0, .slice none 0 0, .slice none 0 0, .string ⟨#[]⟩, .string ⟨#[]⟩, .int .i64 0, .slice none 0 0], .agg #[.int .i64 0, .string ⟨#[]⟩], .slice none 0 0] : Array Value).toList 8 = some ([.agg [.nil, .nil, .nil, .agg [.lit (.string []), .lit (.string [])], .lit (.int .i64 0), .nil], .agg [.lit (.int .i64 0), .lit (.string [])], .nil], [], places) :=
 ⟨[], by kernel_rfl⟩
set_option maxRecDepth 100000 in
theorem lifted (os : Os) (started : os.Started) (H : Type) (enc : TypeId × Value → H) (F : Stop.Interp) :
  ReturnsInHanded {} Tryz.checked os 4 .any ((OpenSpec.ofChange Rows.loginCountsSpec).preRow enc Tryz.prog Tryz.f4 Rows.loginCountsRow.domain false Rows.loginCountsRow.laid) (((OpenSpec.ofChange Rows.loginCountsSpec).at F).post enc Tryz.prog Tryz.f4 false true false false) := by
 obtain ⟨places, hx⟩ := reads os enc
 refine returnsInHanded_of_row (C := Tryz.checked) (s := OpenSpec.ofChange Rows.loginCountsSpec) own started (by kernel_rfl) Tryz.func4
  (witness_row_atRef (enc := enc) (C := Tryz.checked) false (laidWorldLoginCounts os) #[.agg #[.slice none 0 0, .slice none 0 0, .slice none 0 0, .string ⟨#[]⟩, .string ⟨#[]⟩, .int .i64 0, .slice none 0 0], .agg #[.int .i64 0, .string ⟨#[]⟩], .slice none 0 0] (laidWorldLoginCounts_os os) (by kernel_rfl) (by kernel_rfl) (by kernel_rfl)
   (OpenSpec.preRow_of_cond 8 hx (by kernel_rfl) (fun k hk => by cases hk) (by kernel_rfl) (laidWorldLoginCounts_met os _))) ?_
 intro W base args ds gs before hval hW _ _ hsz hL hS _
 exact contract H enc W base args ds gs before hval hW hsz hL hS
theorem k0 : (Rows.loginCountsRow.wf (OpenSpec.ofChange (Rows.loginCountsSpec))) = true := by kernel_rfl
theorem k3 : (Tryz.f4.params.all (Tryz.pinned.checked.prog.readableRec ·)) = true := by kernel_rfl
theorem k4 : (namedTie Tryz.pinned.checked.prog Rows.loginCountsRow.named (Rows.loginCountsSpec).vars) = true := by kernel_rfl
theorem k5 : ((Rows.loginCountsRow.stops == [])) = true := by kernel_rfl
theorem k7 : ((Rows.loginCountsRow.knobs == [])) = true := by kernel_rfl
theorem k9 : ((Rows.loginCountsRow.inPlace == Tryz.pinned.checked.prog.inPlace 4)) = true := by kernel_rfl
theorem k10 : ((Rows.loginCountsRow.unfollowed == Tryz.pinned.checked.prog.unfollowed 4)) = true := by kernel_rfl
theorem k11 : ((Rows.loginCountsRow.recurses == Tryz.pinned.checked.prog.recurses 4)) = true := by kernel_rfl
theorem k12 : ((Rows.loginCountsRow.named == Tryz.pinned.checked.prog.varsNamed 4)) = true := by kernel_rfl
theorem k13 : ((Rows.loginCountsRow.maps == (Tryz.f4.params.toList ++ (Rows.loginCountsSpec).plain.varTypes Tryz.pinned.checked.prog).any (Tryz.pinned.checked.prog.mapsRec ·))) = true := by kernel_rfl
theorem k14 : ((Rows.loginCountsRow.ifaces == (Tryz.f4.params.toList ++ (Rows.loginCountsSpec).plain.varTypes Tryz.pinned.checked.prog).any (Tryz.pinned.checked.prog.ifacesRec ·))) = true := by kernel_rfl
theorem k15 : ((Rows.loginCountsRow.mapsOut == Tryz.pinned.checked.prog.mapsAmong Tryz.f4.resultTypes.toList)) = true := by kernel_rfl
theorem k16 : ((Rows.loginCountsRow.loops == (Tryz.f4.params.toList ++ (Rows.loginCountsSpec).plain.varTypes Tryz.pinned.checked.prog).any (Tryz.pinned.checked.prog.loopsFrom ·))) = true := by kernel_rfl
theorem k17 : ((Rows.loginCountsRow.wideKeys == (Tryz.f4.params.toList ++ (Rows.loginCountsSpec).plain.varTypes Tryz.pinned.checked.prog ++ Tryz.f4.resultTypes.toList).any (Tryz.pinned.checked.prog.wideKeysFrom ·))) = true := by kernel_rfl
theorem k18 : ((Rows.loginCountsSpec).vars.all (Tryz.pinned.checked.prog.varReadable ·)) = true := by kernel_rfl
theorem k19 : (Tryz.f4.resultTypes.all (fun t => Tryz.pinned.checked.prog.readableRec t && decide (t < Tryz.pinned.checked.prog.types.size))) = true := by kernel_rfl
theorem k20 : ((Rows.loginCountsRow.ifacesOut == Tryz.f4.resultTypes.toList.any (Tryz.pinned.checked.prog.ifacesRec ·))) = true := by kernel_rfl
theorem k21 : ((Rows.loginCountsRow.loopsOut == Tryz.f4.resultTypes.toList.any (Tryz.pinned.checked.prog.loopsFrom ·))) = true := by kernel_rfl
theorem k22 : ((Rows.loginCountsRow.plainKeys == Tryz.pinned.checked.prog.plainKeys)) = true := jo22
theorem k23 : (Rows.loginCountsRow.shortTexts.isNone) = true := by kernel_rfl
theorem k26 : ((Rows.loginCountsRow.lifted == Tryz.pinned.checked.prog.liftsFinal)) = true := jo26
theorem k27 : ((Tryz.pinned.checked.prog.make == some Rows.loginCountsRow.make)) = true := jo27
theorem k28 : ((Rows.loginCountsRow.kinds == (if Rows.loginCountsRow.domain.isEmpty then [] else Tryz.f4.params.toList.map fun t => match Tryz.pinned.checked.prog.underlying t with | some (.int k) => some k | _ => none))) = true := by kernel_rfl
theorem k29 : ((Rows.loginCountsRow.pinned == Rows.loginCountsRow.pinnedBy)) = true := by kernel_rfl
theorem k30 : ((Rows.loginCountsRow.veiled == (Tryz.f4.params.toList ++ (Rows.loginCountsSpec).plain.varTypes Tryz.pinned.checked.prog ++ Tryz.f4.resultTypes.toList).any (Tryz.pinned.checked.prog.veiledRec ·))) = true := by kernel_rfl
theorem k31 : (Rows.loginCountsRow.veiledFits Tryz.pinned.checked.prog Tryz.f4.params.toList (Tryz.f4.params.toList ++ (Rows.loginCountsSpec).plain.varTypes Tryz.pinned.checked.prog ++ Tryz.f4.resultTypes.toList)) = true := by kernel_rfl
set_option maxRecDepth 100000 in
theorem closed : joinedFacts Tryz.pinned.checked.prog 4 Tryz.f4 (OpenSpec.ofChange (Rows.loginCountsSpec)).bare Rows.loginCountsRow = true := and_mk (and_mk (and_mk (and_mk (and_mk (and_mk (and_mk (and_mk (and_mk (and_mk (and_mk (and_mk (and_mk (and_mk (and_mk (and_mk (and_mk (and_mk (and_mk (and_mk (and_mk (and_mk (and_mk (and_mk (and_mk (and_mk (and_mk (and_mk (and_mk (and_mk (and_mk (k0) jo1) jo2) k3) k4) k5) jo6) k7) jo8) k9) k10) k11) k12) k13) k14) k15) k16) k17) k18) k19) k20) k21) k22) k23) jo24) jo25) k26) k27) k28) k29) k30) k31
theorem said : Rows.LoginCountsSaid :=
 OpenClaim.holds_of_cond 4 Tryz.f4 rfl rfl rfl rfl rfl rfl rfl ⟨rfl, rfl, rfl, rfl, rfl⟩ rfl rfl rfl rfl rfl (by kernel_rfl) Tryz.func4 closed
  (of_decide_eq_true (by kernel_rfl)) (by unfold Func.isWrapper; first | (rw [if_pos (by decide +kernel)]; kernel_rfl) | (rw [if_neg (by decide +kernel)]; exact ⟨rfl, rfl⟩))
  (fun os started H enc _ F => by rw [OpenClaim.pre_eq_preRow]; exact lifted os started H enc F)
theorem plain (f : FuncId) (fn : Func) (hf : Tryz.pinned.checked.prog.funcNamed "quaymaster/quaymasterkeep.LoginCounts" = some f) (hfn : Tryz.pinned.checked.prog.funcs[f]? = some fn) :
  true = Tryz.pinned.checked.prog.looks [] ∧ ∀ (j : Nat) t, fn.params[j]? = some t → Tryz.pinned.checked.prog.wantsStandIn t = false := by
 obtain rfl : f = 4 := Option.some.inj ((show Tryz.prog.funcNamed "quaymaster/quaymasterkeep.LoginCounts" = some 4 by kernel_rfl).symm.trans hf) |>.symm
 obtain rfl : fn = Tryz.f4 := (Option.some.inj (Tryz.func4.symm.trans hfn)).symm
 refine ⟨by kernel_rfl, fun j t ht => ?_⟩
 rw [Tryz.params4] at ht
 have hm : t ∈ ([29, 31, 32] : List TypeId) := by
  have := Array.mem_of_getElem? ht
  simpa using this
 have hall : ([29, 31, 32] : List TypeId).all (fun t => !Tryz.prog.wantsStandIn t) = true := by kernel_rfl
 have hn := List.all_eq_true.1 hall t hm
 show Tryz.prog.wantsStandIn t = false
 simpa using hn
theorem proved : Rows.LoginCountsCardSaid :=
 Claim7.holds_tied_plain_at .later [] _ _ _ _ said (fun _ h => by cases h) (by kernel_rfl) (fun _ h => by cases h) loginCounts_row_tie rfl ⟨rfl, rfl⟩ (by kernel_rfl) rfl plain (by kernel_rfl)
#print axioms proved
end Go.Proofs.YtmkebjdmkkjloaaGreatDoor.loginCounts
