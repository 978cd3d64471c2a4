/- LB42: several texts in one. -/
import Derived.ChangeSame
import Derived.ChangeSlices
import Derived.Deep.SlicePairs
import Derived.Deep.Strs
import Derived.JoinedCond
import Derived.LaidHandle
import Derived.LaidLaws
import Derived.Lay
import Derived.Lib.LaidU8
import Derived.Lib.SmallJoins
import Derived.ProofKit
import Derived.SevenTiedAt
import Derived.Shelf.Vars
import Derived.SizedLaws
import Derived.Stop.Joined
import Derived.Test.YtmkebjdmkkjloaaGreatDoorCards
import Derived.Test.YtmkebjdmkkjloaaGreatDoorTie
import Derived.WideShapes
import Derived.Test.YtmkebjdmkkjloaaGreatDoorLB02
import Derived.Test.YtmkebjdmkkjloaaGreatDoorLB03
import Derived.Test.YtmkebjdmkkjloaaGreatDoorLB08
import Derived.Test.YtmkebjdmkkjloaaGreatDoorLB11
import Derived.Test.YtmkebjdmkkjloaaGreatDoorLB12
import Derived.Test.YtmkebjdmkkjloaaGreatDoorLB37
import Derived.Test.YtmkebjdmkkjloaaGreatDoorLB39
import Derived.Test.YtmkebjdmkkjloaaGreatDoorLB40
import Derived.Test.YtmkebjdmkkjloaaGreatDoorLB41
namespace Go.Proofs.YtmkebjdmkkjloaaGreatDoor
open Go Go.RowKit
set_option linter.unusedVariables false
def kHD : List UInt8 := [72, 101, 97, 100, 101, 114, 68, 105, 103, 101, 115, 116]
def vCRC : List UInt8 := [67, 82, 67, 51, 50, 67]
def entL : List Pr := [pIni, pSes, ⟨kHD, vCRC⟩]
def entP : Pd := ⟨reqH 135 0 0 9 0 5 1 77 0, [], prBytes entL⟩
def entT : List UInt8 := [72, 101, 97, 100, 101, 114, 68, 105, 103, 101, 115, 116, 61, 82, 101, 106, 101, 99, 116, 0]
def entR : (Pd × Int) × Lg := takeL conf0 dw0 (lg0 conf0) entP
theorem ent_asks : asksR 135 entL = (entP, true) := by kernel_rfl
theorem ent_fit : FitP entP := ⟨by unfold I64; decide, by decide, ⟨by decide, fun _ h => absurd h List.not_mem_nil⟩, by decide +kernel⟩
theorem ent_take : entR.1.2 = 0 ∧ statR entR.1.1 = (135, 0, 0) ∧ entR.2.don = true ∧ entR.2.fld = false ∧ entR.2.dsc = true ∧ hv entR.1.1.h nTSIH = 1 ∧ hv entR.1.1.h nITT = 5 ∧ entR.1.1.d = entT ∧ entR.2.sta = 1 ∧ entR.2.cmd = 77 ∧ entR.1.1.h.vs.length = 10 := by
 refine ⟨?_, ?_, ?_, ?_, ?_, ?_, ?_, ?_, ?_, ?_, ?_⟩ <;> kernel_rfl
theorem Blk.kp {w w' : World} {H H' : Nat → Prop} {b : Nat} {C : Array Value} {t : TypeId} (hb : Blk w b C t) (hk : Keeps w.heap.size w w' H H') (hn : ¬ H b) : Blk w' b C t := (hk.block b hb.lt hn).trans hb
theorem PduAt.offO {H : Nat → Prop} {w W : World} {p : Pd} {vv : Value} (h : Vals W vv p.h.vs) (ha : p.a = []) (ho : OwnV w vv) (hH : ∀ k, H k → k < w.heap.size) : PduAt (offW H W) p vv (.slice none 0 0) := ⟨h.offO ho hH, by rw [ha]; exact AhsV.nil _⟩
section
variable {w0 w W : World} {lb : Nat} {m : LgM} {c : Cf} {d : Dw} {q : Lq} {s : Lg}
theorem LS.fresh (h : LS w0 w lb m c d q s) : ∀ k, m.H lb k → k < w.heap.size := fun k hk => (h.log.ge k hk).2
theorem LS.overS (h : LS w0 w lb m c d q s) : Calls Tryz.prog 14 #[.pointer (some ⟨lb, 0, none⟩)] w fun e w' => e = .returned (.tuple #[.bool s.don, .bool s.fld]) ∧ Below w.heap.size w w' := by
 have O := over_any h.log
 rw [h.sim.same.don, h.sim.same.fld] at O
 exact O
theorem LS.whoS (h : LS w0 w lb m c d q s) : Calls Tryz.prog 30 #[.pointer (some ⟨lb, 0, none⟩)] w fun e w' => e = .returned (.tuple #[.string (S s.usr), .string (S s.tgt), .bool s.dsc]) ∧ Below w.heap.size w w' := by
 have O := who_any h.log
 rw [h.sim.same.usr, h.sim.same.tgt, h.sim.same.dsc] at O
 exact O
theorem LS.statS (h : LS w0 w lb m c d q s) : Calls Tryz.prog 17 #[.pointer (some ⟨lb, 0, none⟩)] w fun e w' => e = .returned (.int .u32 s.sta) ∧ w = w' := by
 have O := stat_any h.log
 rw [h.sim.same.sta] at O
 exact O
theorem LS.commandS (h : LS w0 w lb m c d q s) : Calls Tryz.prog 19 #[.pointer (some ⟨lb, 0, none⟩)] w fun e w' => e = .returned (.int .u32 s.cmd) ∧ w = w' := by
 have O := command_any h.log
 rw [h.sim.cmd] at O
 exact O
end
set_option maxRecDepth 100000 in
set_option maxHeartbeats 8000000 in
theorem entered_any (w : World) (hE : EnvL w) : Calls Tryz.prog 11 #[] w fun e w' => e = .returned (.bool true) ∧ Below w.heap.size w w' := by
 have C := conf_any w
 unfold confV at C
 have C := Lib.hid C
 have HE := Lib.hid hE
 clear hE
 go_enter Tryz.func11, Tryz.ntmps11
 go_wp2_with fail
 refine C.out.mono ?_
 rintro e w1 ⟨vt, vp, rfl, hv, hb1⟩
 have D := Lib.hid (draw_any w1)
 have HV := Lib.hid hv
 have Hb1 := Lib.hid hb1
 clear hv hb1 C
 go_wp2_with fail
 refine D.out.mono ?_
 rintro e w2 ⟨rfl, hb2⟩
 have N := new_ls conf0 dw0 vt vp _ _ w2 (HV.out.later hb2) conf0_fit (HE.out.later (below_then Hb1.out hb2)) new_conf0
 unfold confV at N
 have N := Lib.hid N
 have Hb2 := Lib.hid (below_then Hb1.out hb2)
 clear hb2 D Hb1 HV
 go_wp2_with fail
 refine N.out.mono ?_
 rintro e w3 ⟨lb, m, rfl, hL, -⟩
 have HL3 := Lib.hid hL
 have Q1 := Lib.hid (pair_any [73, 110, 105, 116, 105, 97, 116, 111, 114, 78, 97, 109, 101] [109, 101] w3)
 clear hL N
 go_wp2_with fail
 refine Q1.out.mono ?_
 rintro e w4 ⟨rfl, hb4⟩
 have HL4 := Lib.hid (HL3.out.later hb4)
 have Q2 := Lib.hid (pair_any [83, 101, 115, 115, 105, 111, 110, 84, 121, 112, 101] [68, 105, 115, 99, 111, 118, 101, 114, 121] w4)
 clear hb4 HL3 Q1
 go_wp2_with fail
 refine Q2.out.mono ?_
 rintro e w5 ⟨rfl, hb5⟩
 have HL5 := Lib.hid (HL4.out.later hb5)
 have Q3 := Lib.hid (pair_any [72, 101, 97, 100, 101, 114, 68, 105, 103, 101, 115, 116] [67, 82, 67, 51, 50, 67] w5)
 clear hb5 HL4 Q2
 go_wp2_with fail
 refine Q3.out.mono ?_
 rintro e w6 ⟨rfl, hb6⟩
 have HL6 := Lib.hid (HL5.out.later hb6)
 obtain ⟨w7, hw7⟩ : ∃ w7, w6.alloc (.cells #[.string (S [73, 110, 105, 116, 105, 97, 116, 111, 114, 78, 97, 109, 101]), .string (S [109, 101]), .string (S [83, 101, 115, 115, 105, 111, 110, 84, 121, 112, 101]), .string (S [68, 105, 115, 99, 111, 118, 101, 114, 121]), .string (S [72, 101, 97, 100, 101, 114, 68, 105, 103, 101, 115, 116]), .string (S [67, 82, 67, 51, 50, 67])] 61) = w7 := ⟨_, rfl⟩
 have hp7 : PrsV w7 (.slice (some ⟨w6.heap.size, 0, none⟩) 3 3) entL := by rw [← hw7]; exact prs_new w6 entL _
 have hb7 : Below w6.heap.size w6 w7 := by rw [← hw7]; exact (Below.refl _ _).alloc (Nat.le_refl _) _
 have HL7 := Lib.hid (HL6.out.later hb7)
 have A := asks_any 135 entL _ w7 (by unfold I64; decide) hp7 ⟨by decide, by decide⟩ ((HE.out.later Hb2.out).env.mc.later HL7.out.low)
 rw [ent_asks] at A
 obtain ⟨P, hP⟩ : ∃ P, entP = P := ⟨_, rfl⟩
 have hPv : P.h.vs.length = 8 := by rw [← hP]; rfl
 have hPa : P.a = [] := by rw [← hP]; rfl
 have hPf : FitP P := by rw [← hP]; exact ent_fit
 obtain ⟨R, hR⟩ : ∃ R, takeL conf0 dw0 (lg0 conf0) P = R := ⟨_, rfl⟩
 have hRs := ent_take
 rw [show entR = R by rw [← hR, ← hP]; rfl] at hRs
 rw [hP] at A
 unfold RetAsks at A
 have A := Lib.hid A
 have HPv := Lib.hid hPv
 have HPa := Lib.hid hPa
 have HPf := Lib.hid hPf
 have HR := Lib.hid hR
 have HRs := Lib.hid hRs
 clear hb6 hb7 hp7 HL5 HL6 Q3 hP hPv hPa hPf hR hRs
 go_wp2_with fail
 clear hw7
 refine A.out.mono ?_
 rintro e w8 ⟨vv, rfl, hvv, hown, hb8⟩
 have hPd : PduAt (offW (m.H lb) w8) P vv (.slice none 0 0) := PduAt.offO hvv HPa.out hown HL7.out.fresh
 obtain ⟨pv, cv, rfl⟩ : ∃ p c, vv = .slice p P.h.vs.length c := by obtain ⟨p, c, h, _⟩ := hvv; exact ⟨p, c, h⟩
 have HL8 := Lib.hid (HL7.out.later hb8)
 obtain ⟨w9, hw9⟩ : ∃ w9, w8.alloc (.cells #[.int .i64 P.h.op, .bool P.h.now, .int .i64 P.h.fl, .slice pv P.h.vs.length cv, .slice none 0 0, .string (S P.d)] 41) = w9 := ⟨_, rfl⟩
 have hb9 : Below w8.heap.size w8 w9 := by rw [← hw9]; exact (Below.refl _ _).alloc (Nat.le_refl _) _
 have hk9 : Blk w9 w8.heap.size #[.int .i64 P.h.op, .bool P.h.now, .int .i64 P.h.fl, .slice pv P.h.vs.length cv, .slice none 0 0, .string (S P.d)] 41 := by rw [← hw9]; exact Blk.new w8 _ _
 have hL9 := HL8.out.later hb9
 have hPd9 := hPd.later (Keeps.of hb9 _).off'
 have hn9 : ¬ m.H lb w8.heap.size := fun hh => by have := HL8.out.fresh _ hh; omega
 obtain ⟨pb, hpb⟩ : ∃ pb, w8.heap.size = pb := ⟨_, rfl⟩
 rw [hpb] at hk9 hn9
 have T := take_ls P _ _ hL9 hPd9 (HE.out.later Hb2.out) HPf.out conf0_ok dw0_ok
 rw [HR.out] at T
 obtain ⟨⟨Q, n⟩, s1⟩ := R
 unfold RetLS at T
 simp only at T
 obtain ⟨r1, r2, r3, r4, r5, r6, r7, r8, r9, r10, r11⟩ := HRs.out
 simp only at r1 r2 r3 r4 r5 r6 r7 r8 r9 r10 r11
 subst r1
 unfold pduV at T
 unfold entT at r8
 rw [r8] at T
 have T := Lib.hid T
 have HK9 := Lib.hid hk9
 have HPd9 := Lib.hid hPd9
 have HN9 := Lib.hid hn9
 have R2 := Lib.hid r2
 have R3 := Lib.hid r3
 have R4 := Lib.hid r4
 have R5 := Lib.hid r5
 have R6 := Lib.hid r6
 have R7 := Lib.hid r7
 have R8 := Lib.hid r8
 have R9 := Lib.hid r9
 have R10 := Lib.hid r10
 have R11 := Lib.hid r11
 obtain ⟨k0, k1, k2, k3, k4, k5⟩ := hk9.six
 have T2 := Lib.hid (fun (W : World) (m' : LgM) (q' : Lq) (hl : LS w2 W lb m' conf0 dw0 q' s1) (hp : PduAt (offW (m'.H lb) W) P (.slice pv P.h.vs.length cv) (.slice none 0 0)) => take_ls P _ _ hl hp (HE.out.later Hb2.out) HPf.out conf0_ok dw0_ok)
 clear hvv hown hb8 hPd hb9 hk9 hL9 hPd9 hn9 r2 r3 r4 r5 r6 r7 r8 r9 r10 r11 A HL7 HL8 HR HRs HPf HPa
 unfold pduV
 simp only
 go_wp2_with fail
 clear hw9 k0 k1 k2 k3 k4 k5
 refine T.out.mono ?_
 rintro e w10 ⟨m1, q1, vq, va, ev, rfl, hPq, herr, hL10, hK10⟩
 obtain rfl := herr.zero
 have hPd10 := HPd9.out.later hK10.off'
 have hk10 := HK9.out.kp hK10 HN9.out
 have hn10 : ¬ m1.H lb pb := fun hh => by
  rcases hK10.old _ hh with h | h
  ·exact HN9.out h
  ·have := HK9.out.lt; omega
 obtain ⟨p3, c3, rfl⟩ : ∃ p c, vq = .slice p Q.h.vs.length c := by obtain ⟨p, c, h, _⟩ := hPq.v; exact ⟨p, c, h⟩
 obtain ⟨p4, c4, rfl⟩ := hPq.a.form
 obtain ⟨w11, hw11⟩ : ∃ w11, w10.alloc (.cells #[.int .i64 Q.h.op, .bool Q.h.now, .int .i64 Q.h.fl, .slice p3 Q.h.vs.length c3, .slice p4 Q.a.length c4, .string (S [72, 101, 97, 100, 101, 114, 68, 105, 103, 101, 115, 116, 61, 82, 101, 106, 101, 99, 116, 0])] 41) = w11 := ⟨_, rfl⟩
 have hb11 : Below w10.heap.size w10 w11 := by rw [← hw11]; exact (Below.refl _ _).alloc (Nat.le_refl _) _
 have hk11 : Blk w11 w10.heap.size #[.int .i64 Q.h.op, .bool Q.h.now, .int .i64 Q.h.fl, .slice p3 Q.h.vs.length c3, .slice p4 Q.a.length c4, .string (S [72, 101, 97, 100, 101, 114, 68, 105, 103, 101, 115, 116, 61, 82, 101, 106, 101, 99, 116, 0])] 41 := by rw [← hw11]; exact Blk.new w10 _ _
 have hnq : ¬ m1.H lb w10.heap.size := fun hh => by have := hL10.fresh _ hh; omega
 obtain ⟨qb, hqb⟩ : ∃ qb, w10.heap.size = qb := ⟨_, rfl⟩
 rw [hqb] at hk11 hnq
 have hPq11 := hPq.later (Keeps.of hb11 _).off'
 have hL11 := hL10.later hb11
 have hk9' := hk10.later hb11
 have hPd11 := hPd10.later (Keeps.of hb11 _).off'
 have HE2 := Lib.hid (HE.out.later Hb2.out)
 have ST := status_any Q _ _ w11 hPq11.off (HE2.out.later hL11.low).env.mc (by rw [R11.out]; decide)
 rw [R2.out] at ST
 unfold pduV at ST
 rw [R8.out] at ST
 have ST := Lib.hid ST
 have HL11 := Lib.hid hL11
 have HPq11 := Lib.hid hPq11
 have HPd11 := Lib.hid hPd11
 have HKp := Lib.hid hk9'
 have HKq := Lib.hid hk11
 have Hnp := Lib.hid hn10
 have Hnq := Lib.hid hnq
 obtain ⟨k0, k1, k2, k3, k4, k5⟩ := hk11.six
 clear hPq herr hL10 hK10 hPd10 hk10 hn10 hb11 hk11 hnq hPq11 hL11 hk9' hPd11 HK9 HPd9 HN9 T
 go_wp2_with fail
 clear hw11 k0 k1 k2 k3 k4 k5
 refine ST.out.mono ?_
 rintro e w12 ⟨rfl, hb12⟩
 have HL12 := Lib.hid (HL11.out.later hb12)
 have HKp12 := Lib.hid (HKp.out.later hb12)
 have HKq12 := Lib.hid (HKq.out.later hb12)
 have HPq12 := Lib.hid (HPq11.out.later (Keeps.of hb12 _).off')
 have HPd12 := Lib.hid (HPd11.out.later (Keeps.of hb12 _).off')
 have OV := HL12.out.overS
 rw [R3.out, R4.out] at OV
 have OV := Lib.hid OV
 clear hb12 ST HL11 HKp HKq HPq11 HPd11
 go_wp2_with fail
 refine OV.out.mono ?_
 rintro e w13 ⟨rfl, hb13⟩
 have HL13 := Lib.hid (HL12.out.later hb13)
 have HKp13 := Lib.hid (HKp12.out.later hb13)
 have HKq13 := Lib.hid (HKq12.out.later hb13)
 have HPq13 := Lib.hid (HPq12.out.later (Keeps.of hb13 _).off')
 have HPd13 := Lib.hid (HPd12.out.later (Keeps.of hb13 _).off')
 have WH := HL13.out.whoS
 rw [R5.out] at WH
 have WH := Lib.hid WH
 clear hb13 OV HL12 HKp12 HKq12 HPq12 HPd12
 go_wp2_with fail
 refine WH.out.mono ?_
 rintro e w14 ⟨rfl, hb14⟩
 have HL14 := Lib.hid (HL13.out.later hb14)
 have HKp14 := Lib.hid (HKp13.out.later hb14)
 have HKq14 := Lib.hid (HKq13.out.later hb14)
 have HPq14 := Lib.hid (HPq13.out.later (Keeps.of hb14 _).off')
 have HPd14 := Lib.hid (HPd13.out.later (Keeps.of hb14 _).off')
 have TT := T2.out w14 m1 q1 HL14.out HPd14.out
 rw [takeL_over (.inl R3.out)] at TT
 obtain ⟨Z, hZ⟩ : ∃ Z, pd0 = Z := ⟨_, rfl⟩
 rw [hZ] at TT
 unfold RetLS pduV at TT
 simp only at TT
 have TT := Lib.hid TT
 obtain ⟨k0, k1, k2, k3, k4, k5⟩ := HKp14.out.six
 clear hb14 WH HL13 HKp13 HKq13 HPq13 HPd13 hZ T2
 go_wp2_with fail
 clear k0 k1 k2 k3 k4 k5
 refine TT.out.mono ?_
 rintro e w15 ⟨m2, q2, v5, v6, ev6, rfl, hPz, he6, hL15, hK15⟩
 obtain ⟨p5, c5, rfl⟩ : ∃ p c, v5 = .slice p Z.h.vs.length c := by obtain ⟨p, c, h, _⟩ := hPz.v; exact ⟨p, c, h⟩
 obtain ⟨p6, c6, rfl⟩ := hPz.a.form
 obtain ⟨te, xe, rfl⟩ := he6.iface (by decide)
 obtain ⟨w16, hw16⟩ : ∃ w16, w15.alloc (.cells #[.int .i64 Z.h.op, .bool Z.h.now, .int .i64 Z.h.fl, .slice p5 Z.h.vs.length c5, .slice p6 Z.a.length c6, .string (S Z.d)] 41) = w16 := ⟨_, rfl⟩
 have hb16 : Below w15.heap.size w15 w16 := by rw [← hw16]; exact (Below.refl _ _).alloc (Nat.le_refl _) _
 have hkq := (HKq14.out.kp hK15 Hnq.out).later hb16
 have hPq16 := (HPq14.out.later hK15.off').later (Keeps.of hb16 _).off'
 have hL16 := hL15.later hb16
 have he16 := he6.later hb16
 have e1 : ((hv Q.h nTSIH : Nat) : Int) = 1 := by rw [R6.out]; rfl
 have e2 : ((hv Q.h nITT : Nat) : Int) = 5 := by rw [R7.out]; rfl
 have W1 := what_any Q _ _ nTSIH w16 hPq16.off (HE2.out.later hL16.low).env.mc (by rw [R11.out]; decide)
 have W2 := fun W hb => what_any Q _ _ nITT W (hPq16.off.later hb) ((HE2.out.later hL16.low).later hb).env.mc (by rw [R11.out]; decide)
 rw [e1] at W1
 rw [e2] at W2
 unfold pduV at W1 W2
 rw [R8.out] at W1 W2
 have W1 := Lib.hid W1
 have W2 := Lib.hid W2
 have HKq16 := Lib.hid hkq
 have HL16 := Lib.hid hL16
 have He16 := Lib.hid he16
 obtain ⟨k0, k1, k2, k3, k4, k5⟩ := hkq.six
 clear hPz he6 hL15 hK15 hb16 hkq hPq16 hL16 he16 e1 e2 TT HL14 HKp14 HKq14 HPq14 HPd14
 go_wp2_with fail
 clear hw16
 refine W1.out.mono ?_
 rintro e w17 ⟨rfl, hb17⟩
 have W2' := Lib.hid (W2.out _ hb17)
 have HKq17 := Lib.hid (HKq16.out.later hb17)
 have Hb17 := Lib.hid hb17
 clear hb17 k0 k1 k2 k3 k4 k5 W1 W2 HKq16
 obtain ⟨k0, k1, k2, k3, k4, k5⟩ := HKq17.out.six
 go_wp2_with fail
 refine W2'.out.mono ?_
 rintro e w18 ⟨rfl, hb18⟩
 have HKq18 := Lib.hid (HKq17.out.later hb18)
 have Hb18 := Lib.hid (below_then Hb17.out hb18)
 have TL := Lib.hid (tell_is (He16.out.later Hb18.out) (HE2.out.later (below_then HL16.out.low Hb18.out)).err)
 clear hb18 k0 k1 k2 k3 k4 k5 W2' HKq17 Hb17
 obtain ⟨k0, k1, k2, k3, k4, k5⟩ := HKq18.out.six
 go_wp2_with fail
 refine TL.out.mono ?_
 rintro e w19 ⟨rfl, hb19⟩
 have HL19 := Lib.hid (HL16.out.later (below_then Hb18.out hb19))
 have SS := HL19.out.statS
 have CC := HL19.out.commandS
 rw [R9.out] at SS
 rw [R10.out] at CC
 have SS := Lib.hid SS
 have CC := Lib.hid CC
 clear hb19 k0 k1 k2 k3 k4 k5 TL HKq18 Hb18 HL16
 go_wp2_with fail
 refine SS.out.mono ?_
 rintro e w' ⟨rfl, rfl⟩
 go_wp2_with fail
 refine CC.out.mono ?_
 rintro e w' ⟨rfl, rfl⟩
 go_wp2_with fail
 go_ret
 exact ⟨rfl, below_then Hb2.out HL19.out.low⟩
theorem PdusV.cellsO {H : Nat → Prop} {W : World} {p : Option Addr} {c : Nat} {l : List Pd} (h : PdusV (offW H W) (.slice p l.length c) l) {j : Nat} (hj : j < l.length) : ∃ b o, p = some ⟨b, o, none⟩ ∧ ∃ p1 c1 p2 c2, PduAt (offW H W) l[j] (.slice p1 l[j].h.vs.length c1) (.slice p2 l[j].a.length c2) ∧
  W.cell? ⟨b, o + j * 6, none⟩ = some (.int .i64 l[j].h.op) ∧ W.cell? ⟨b, o + j * 6 + 1, none⟩ = some (.bool l[j].h.now) ∧ W.cell? ⟨b, o + j * 6 + 2, none⟩ = some (.int .i64 l[j].h.fl) ∧ W.cell? ⟨b, o + j * 6 + 3, none⟩ = some (.slice p1 l[j].h.vs.length c1) ∧ W.cell? ⟨b, o + j * 6 + 4, none⟩ = some (.slice p2 l[j].a.length c2) ∧
  W.cell? ⟨b, o + j * 6 + 5, none⟩ = some (.string (S l[j].d)) := by
 obtain ⟨p0, c0, hv, hc⟩ := h
 obtain ⟨rfl, rfl⟩ : p = p0 ∧ c = c0 := by simpa using hv
 obtain ⟨b, o, rfl, hcell⟩ := hc (by omega)
 obtain ⟨vv, va, hP, e0, e1, e2, e3, e4, e5⟩ := hcell j hj
 obtain ⟨p1, c1, rfl⟩ : ∃ p c, vv = .slice p l[j].h.vs.length c := by obtain ⟨p, c, h, _⟩ := hP.v; exact ⟨p, c, h⟩
 obtain ⟨p2, c2, rfl⟩ := hP.a.form
 exact ⟨b, o, rfl, p1, c1, p2, c2, hP, off_cell e0, off_cell e1, off_cell e2, off_cell e3, off_cell e4, off_cell e5⟩
section
variable {w0 w W W' : World} {lb : Nat} {m0 m m' : LgM} {c : Cf} {d : Dw} {q0 q q' : Lq} {s s' : Lg} {ra rb : Nat} {Q : Pd} {vv va : Value}
end
section
variable {w0 w W : World} {lb : Nat} {m0 m : LgM} {c : Cf} {d : Dw} {q0 q : Lq} {s : Lg} {ra rb : Nat} {Q : Pd}
end
section
variable {w0 w : World} {lb : Nat} {m : LgM} {c : Cf} {d : Dw} {q : Lq} {s : Lg}
end
end Go.Proofs.YtmkebjdmkkjloaaGreatDoor
namespace Go.Proofs.YtmkebjdmkkjloaaGreatDoor
open Go.ChangeShapes Go.WideShapes Go.ChangeAt Go.RowKit
set_option linter.unusedVariables false
theorem jo1 : (laidOutB Tryz.pinned.checked.prog) = true := by kernel_rfl
theorem jo2 : (mapsRowed Tryz.pinned.checked.prog) = true := by kernel_rfl
theorem jo6 : ((Tryz.pinned.checked.prog.stops == [])) = true := by kernel_rfl
theorem jo8 : ((Tryz.pinned.checked.prog.stopKnobs == [])) = true := by kernel_rfl
theorem jo24 : (Tryz.pinned.checked.prog.stopsHeard) = true := by kernel_rfl
theorem jo25 : (Tryz.pinned.checked.prog.mayEnter) = true := by kernel_rfl
theorem jo22 : (Rows.loginOverRow.plainKeys == Tryz.pinned.checked.prog.plainKeys) = true := by kernel_rfl
theorem jo26 : (Rows.loginOverRow.lifted == Tryz.pinned.checked.prog.liftsFinal) = true := by kernel_rfl
theorem jo27 : (Tryz.pinned.checked.prog.make == some Rows.loginOverRow.make) = true := by kernel_rfl
theorem and_mk {a b : Bool} (h : a = true) (k : b = true) : (a && b) = true := by rw [h, k]; rfl
end Go.Proofs.YtmkebjdmkkjloaaGreatDoor
namespace Go.Proofs.YtmkebjdmkkjloaaGreatDoor
open Go.RowKit
theorem et_named : Tryz.prog.globalNamed "errors.errorType" = some 0 := by kernel_rfl
theorem et_rt : (Tryz.prog.cutTypes.find? (·.1 == "internal/reflectlite.rtype")).map (·.2) = some 222 := by kernel_rfl
theorem et_oneRow : ((List.range 345).filter fun t => Tryz.prog.rowNamed t [101, 114, 114, 111, 114]) = [43] := by kernel_rfl
theorem et_size : Tryz.prog.types.size = 345 := by kernel_rfl
theorem errCell_of_handles {L : List (String × DataW Unit)} {W : World} (h : handlesMet Tryz.prog L W) (hm : ("errors.errorType", Rows.laid_errors_errorType) ∈ L) : ErrCell W := by
 obtain ⟨name, u, ty, e1, e2, e3, e4, e5⟩ := h _ hm
 have en : name = [101, 114, 114, 111, 114] := (Option.some.inj e1).symm
 subst en
 obtain rfl := Option.some.inj (et_rt.symm.trans e2)
 have hq : ty ∈ (List.range 345).filter fun t => Tryz.prog.rowNamed t [101, 114, 114, 111, 114] := List.mem_filter.2 ⟨List.mem_range.2 (by rw [← et_size]; exact e3), e4⟩
 rw [et_oneRow] at hq
 obtain rfl := List.mem_singleton.1 hq
 have hh : typeHandle Tryz.prog 43 = .pointer (some ⟨11, 43, none⟩) := by kernel_rfl
 rw [hh] at e5
 have := World.var?_cell et_named e5 0
 unfold ErrCell
 simpa using this
noncomputable def laidWorld (os : Os) : World :=
 let w0 := World.holding Tryz.prog os ⟨#[], #[], []⟩
 { w0 with heap := w0.heap.modify 0 fun
   | .cells _ t frozen => .cells #[.iface 222 (.agg #[.pointer (some ⟨11, 43, none⟩)])] t frozen
   | o => o }
end Go.Proofs.YtmkebjdmkkjloaaGreatDoor
namespace Go.Proofs.YtmkebjdmkkjloaaGreatDoor
theorem laidMet_lay {P : Program} {w0 : World} {laid : List (String × DataW Unit)} (args : Array Value)
  (hf : w0.layFits P laid [] = true) (hi : w0.layIfaces P laid (w0.layVars P laid) = true) :
  laidMet P laid ((w0.layVars P laid).forCall (fun _ _ => 0) ⟨#[], args, []⟩).memory := by
 have e1 : (laid.filter fun x => (laid.map (·.1)).contains x.1) = laid := List.filter_eq_self.2 fun x hx => List.contains_iff_mem.2 (List.mem_map.2 ⟨x, hx, rfl⟩)
 have e2 : (laid.filter fun x => !(laid.map (·.1)).contains x.1) = [] := List.filter_eq_nil_iff.2 fun x hx => by rw [List.contains_iff_mem.2 (List.mem_map.2 ⟨x, hx, rfl⟩)]; simp
 have h : laidMet P laid (w0.layVars P laid) := laidMet_layVars (w0 := w0) (laid.map (·.1)) [] (by rw [e1]) (by rw [e1]; exact hf) (by rw [e1]; exact hi) (by rw [e2]; exact LaidIn.none)
 exact h.of_heap (by simp [World.memory, World.forCall, Input.heap])
end Go.Proofs.YtmkebjdmkkjloaaGreatDoor
namespace Go.Proofs.YtmkebjdmkkjloaaGreatDoor
open Go.RowKit
theorem mdNumbers : (Rows.laid_quaymaster_md5_numbers : DataW Unit) = Go.Lib.tabData .u32 (mK.map fun (n : Nat) => (n : Int)) := by kernel_rfl
theorem mdTurns : (Rows.laid_quaymaster_md5_turns : DataW Unit) = .agg ((List.range 4).map fun i => Go.Lib.tabData .i64 (((mSl.drop (i * 4)).take 4).map fun (n : Nat) => (n : Int))) := by kernel_rfl
theorem mK_len : mK.length = 64 := by kernel_rfl
theorem mSl_len : mSl.length = 16 := by kernel_rfl
set_option maxRecDepth 100000 in
theorem mdTabs_of_reads {W : World} (h1 : Go.Lib.VarReads Tryz.prog W "quaymaster/md5.numbers" Rows.laid_quaymaster_md5_numbers) (h2 : Go.Lib.VarReads Tryz.prog W "quaymaster/md5.turns" Rows.laid_quaymaster_md5_turns) : MdTabs W := by
 rw [mdNumbers] at h1
 rw [mdTurns] at h2
 refine ⟨fun i hi => ?_, fun j hj => ?_⟩
 ·obtain ⟨g, t, cs, fuel, p, hg, hty, hvar, hd⟩ := h1
  obtain rfl : 1 = g := Option.some.inj ((show Tryz.prog.globalNamed "quaymaster/md5.numbers" = some 1 by kernel_rfl).symm.trans hg)
  obtain rfl : 266 = t := Option.some.inj ((show (Tryz.prog.globals[1]?).map (·.type) = some 266 by kernel_rfl).symm.trans hty)
  have hcs := Go.Lib.cells_of_tab (n := 64) (e := 54) (by kernel_rfl) (by kernel_rfl) (by kernel_rfl) (by kernel_rfl) hd
  have := World.var?_cell hg hvar i
  rw [this, ← Array.getElem?_toList, hcs]
  have hl := mK_len
  rw [List.getElem?_map, List.getElem?_map, List.getElem?_eq_getElem (by omega), List.getD_eq_getElem?_getD, List.getElem?_eq_getElem (by omega)]
  rfl
 ·obtain ⟨g, t, cs, fuel, p, hg, hty, hvar, hd⟩ := h2
  obtain rfl : 2 = g := Option.some.inj ((show Tryz.prog.globalNamed "quaymaster/md5.turns" = some 2 by kernel_rfl).symm.trans hg)
  obtain rfl : 268 = t := Option.some.inj ((show (Tryz.prog.globals[2]?).map (·.type) = some 268 by kernel_rfl).symm.trans hty)
  obtain ⟨fuel', d, q, hd1, hd2⟩ := Go.Lib.array_elem (n := 4) (e := 267) (by kernel_rfl) hd (j / 4) (by omega)
  rw [show Tryz.prog.cellsOf 267 = 4 by kernel_rfl] at hd2
  rw [List.getElem?_map, List.getElem?_range (by omega)] at hd1
  obtain rfl := Option.some.inj hd1
  have hcs := Go.Lib.cells_of_tab (n := 4) (e := 3) (by kernel_rfl) (by kernel_rfl) (by kernel_rfl) (by kernel_rfl) hd2
  have := World.var?_cell hg hvar j
  have hl := mSl_len
  have e1 := congrArg (·[j % 4]?) hcs
  simp only [List.getElem?_map, List.getElem?_take, List.getElem?_drop, if_pos (show j % 4 < 4 by omega), show j / 4 * 4 + j % 4 = j by omega] at e1
  rw [this, ← Array.getElem?_toList, e1, List.getD_eq_getElem?_getD, List.getElem?_eq_getElem (by omega)]
  rfl
end Go.Proofs.YtmkebjdmkkjloaaGreatDoor
namespace Go.Proofs.YtmkebjdmkkjloaaGreatDoor
open Go.RowKit Go.ChangeShapes Go.WideShapes Go.Deep
set_option maxRecDepth 100000 in
theorem open_draw {H : Type} {enc : TypeId × Value → H} {W : World} {base : Nat} {ts : List TypeId} {ds : List (DataW H)} {v : Value} {d : DataW H} {p : List MemPlace} (hsz : (DataW.weightsEach Tryz.prog ts ds).all (· ≤ reachBytes) = true) {j : Nat} (hts : ts[j]? = some 31) (hds : ds[j]? = some d)
  (hval : Value.okWide Tryz.prog W .any base 31 v) (h : DataW.Trod enc Tryz.prog W 0 (fun _ => true) true 31 v d p) : ∃ x : Dw, v = .agg #[.int .i64 x.id, .string (S x.ch)] ∧ ((Lit.int .i64 x.id).wf = true ∧ x.ch.length ≤ 140737488351232) := by
 obtain ⟨v0, v1, y0, y1, n, rfl, rfl, rfl, h0, h1⟩ := Joins.open_agg2 Tryz.underlying31 (by kernel_rfl) (by kernel_rfl) hval h
 have hwm : ∀ (i : Nat) (t : TypeId) (y : DataW H), ([3, 9] : List TypeId)[i]? = some t → ([y0.1, y1.1] : List (DataW H))[i]? = some y → ∀ k ∈ DataW.weights Tryz.prog t y, k ≤ reachBytes := fun i t y ht hy k hk => by
  have h1 := DataW.weights_mem_each ht hy k hk
  have h2 : k ∈ DataW.weights Tryz.prog 31 (.agg [y0.1, y1.1]) := by
   simp only [DataW.weights, Tryz.underlying31]
   exact h1
  have := List.all_eq_true.1 hsz _ (DataW.weights_mem_each hts hds _ h2)
  simpa using this
 obtain ⟨a, e0, _, wa⟩ := DataW.trod_int Tryz.underlying3 h0
 obtain ⟨b1, e1, z1, _⟩ := DataW.trod_string Tryz.underlying9 h1
 obtain ⟨s1, rfl⟩ := S_of b1
 obtain rfl : v0 = .int .i64 a := by simpa using e0
 obtain rfl : v1 = .string (S s1) := by simpa using e1
 have d1 : y1.1 = .lit (.string s1) := by
  have := congrArg Prod.fst z1
  simpa [S] using this
 have l1 := hwm 1 _ _ rfl rfl s1.length (by rw [d1]; simp [DataW.weights])
 have hrb : reachBytes = 140737488351232 := rfl
 exact ⟨⟨a, s1⟩, rfl, wa, by simp only; omega⟩
end Go.Proofs.YtmkebjdmkkjloaaGreatDoor
namespace Go.Proofs.YtmkebjdmkkjloaaGreatDoor
open Go.RowKit Go.ChangeShapes
theorem I64_of_wf {n : Int} (h : (Lit.int .i64 n).wf = true) : I64 n := by
 simp [Lit.wf, IntKind.min, IntKind.max, IntKind.signed, IntKind.bits] at h
 unfold I64; omega
theorem U64_of_wf {n : Int} (h : (Lit.int .u64 n).wf = true) : 0 ≤ n ∧ n.toNat < 2 ^ 64 := by
 simp [Lit.wf, IntKind.min, IntKind.max, IntKind.signed, IntKind.bits] at h
 omega
theorem spot_none {w : World} {a : Addr} {v : Value} (h : w.cell? a = some v) : a = ⟨a.block, a.off, none⟩ := by
 obtain ⟨b, o, sp⟩ := a
 unfold World.cell? at h
 cases sp with
 | none => rfl
 | some x => simp at h; split at h <;> simp at h
theorem open_nums {H : Type} {enc : TypeId × Value → H} {W : World} {n : Nat} {c : Value} {y : DataW H × List MemPlace} (hy : DataW.trod enc Tryz.prog W 0 (fun _ => true) true n 36 [c] = some y) :
  ∃ vs : List Nat, Vals W c vs ∧ vs.length ≤ 9223372036854775807 := by
 rcases open_ints Tryz.underlying36 Tryz.underlying49 (by kernel_rfl) hy with ⟨hcs, _⟩ | ⟨a, len, cap, zs, hcs, _, hl, hm, hz, _, hcell, hwz⟩
 ·obtain rfl : c = .slice none 0 0 := by simpa using hcs
  exact ⟨[], ⟨none, 0, rfl, fun _ h => absurd h (List.not_mem_nil), fun h => absurd h (by decide)⟩, by decide⟩
 ·obtain rfl : c = .slice (some a) len cap := by simpa using hcs
  simp only [if_true] at hz
  have hlz : len ≤ zs.length := by omega
  refine ⟨(zs.take len).map Int.toNat, ⟨some a, cap, by simp [List.length_take, Nat.min_eq_left hlz], fun x hx => ?_, fun h0 => ?_⟩, ?_⟩
  ·obtain ⟨z, hz, rfl⟩ := List.mem_map.1 hx
   exact (U64_of_wf (hwz z (List.mem_of_mem_take hz))).2
  ·have hlen0 : 0 < len := by simpa [List.length_take, Nat.min_eq_left hlz] using h0
   have h1 := hcell 0 (by omega)
   rw [show a.add 0 = a from rfl] at h1
   refine ⟨a.block, a.off, by rw [← spot_none h1], fun j hj => ?_⟩
   have hj' : j < len := by simpa [List.length_take, Nat.min_eq_left hlz] using hj
   have hc := hcell j (by omega)
   have ea : a.add j = ⟨a.block, a.off + j, none⟩ := by
    unfold Addr.add
    split
    ·rename_i h; rw [h]; exact spot_none h1
    ·rfl
   rw [ea] at hc
   rw [hc]
   have hjz : j < zs.length := by omega
   have hw := (U64_of_wf (hwz (zs[j]) (List.getElem_mem hjz))).1
   have e1 : zs.getD j 0 = zs[j] := by rw [List.getD_eq_getElem?_getD, List.getElem?_eq_getElem hjz]; rfl
   have e2 : (((zs.take len).map Int.toNat)[j]'hj : Nat) = (zs[j]).toNat := by simp
   rw [e1, e2, Int.toNat_of_nonneg hw]
  ·have : ((zs.take len).map Int.toNat).length = len := by simp [List.length_take, Nat.min_eq_left hlz]
   rw [this]
   unfold maxLen at hm
   omega
end Go.Proofs.YtmkebjdmkkjloaaGreatDoor
namespace Go.Proofs.YtmkebjdmkkjloaaGreatDoor
open Go.RowKit Go.ChangeShapes Go.WideShapes Go.Deep
theorem weights_mem_all {H : Type} {P : Program} {e : TypeId} {d : DataW H} {n : Nat} : ∀ {l : List (DataW H)}, d ∈ l → n ∈ d.weights P e → n ∈ DataW.weightsAll P e l
 | x :: l, hd, hn => by
  simp only [DataW.weightsAll, List.mem_append]
  rcases List.mem_cons.1 hd with rfl | hd
  ·exact .inl hn
  ·exact .inr (weights_mem_all hd hn)
theorem list_of {α : Type} (P : Nat → α → Prop) : ∀ (n : Nat), (∀ i, i < n → ∃ a, P i a) → ∃ l : List α, l.length = n ∧ ∀ j (hj : j < l.length), P j l[j]
 | 0, _ => ⟨[], rfl, fun j hj => absurd hj (by simp)⟩
 | n + 1, h => by
  obtain ⟨l, hl, hP⟩ := list_of P n (fun i hi => h i (by omega))
  obtain ⟨a, ha⟩ := h n (by omega)
  refine ⟨l ++ [a], by simp [hl], fun j hj => ?_⟩
  by_cases hjn : j < l.length
  ·rw [List.getElem_append_left hjn]; exact hP j hjn
  ·have : j = n := by simp at hj; omega
   subst this
   rw [List.getElem_append_right (by omega)]
   simpa [hl] using ha
theorem ahs_spot {w : World} {a : Addr} {v : Value} (h : w.cell? a = some v) : a = ⟨a.block, a.off, none⟩ := by
 obtain ⟨b, o, sp⟩ := a
 unfold World.cell? at h
 cases sp with
 | none => rfl
 | some x => simp at h; split at h <;> simp at h
theorem ahs_add {w : World} {a : Addr} {v : Value} (h : w.cell? a = some v) (j : Nat) : a.add j = ⟨a.block, a.off + j, none⟩ := by
 unfold Addr.add
 split
 ·rename_i h0; rw [h0]; exact ahs_spot h
 ·rfl
theorem array6 {a : Array Value} (h : a.size = 6) : ∃ c0 c1 c2 c3 c4 c5, a = #[c0, c1, c2, c3, c4, c5] := by
 obtain ⟨l⟩ := a
 match l, h with
 | [c0, c1, c2, c3, c4, c5], _ => exact ⟨c0, c1, c2, c3, c4, c5, rfl⟩
set_option maxRecDepth 100000 in
theorem open_ahs_cell {H : Type} {enc : TypeId × Value → H} {W : World} {n : Nat} {c : Value} {d : DataW H} {p : List MemPlace} (hw : ∀ k ∈ DataW.weights Tryz.prog 39 d, k ≤ reachBytes)
  (hf : DataW.trod enc Tryz.prog W 0 (fun _ => true) true n 39 [c] = some (d, p)) : ∃ l : List Ah, AhsV W c l ∧ fitA l := by
 have hf' := hf
 rcases open_slice_pairs Tryz.underlying39 Tryz.underlying104 (by kernel_rfl) rfl rfl (by kernel_rfl) (by kernel_rfl) hf' with ⟨hcs, _⟩ | ⟨a, len, cap, m, n, V0, V1, D0, D1, P0, P1, hcs, _, hl, hm, hmm, hx, hi⟩
 ·obtain rfl : c = .slice none 0 0 := by simpa using hcs
  exact ⟨[], AhsV.nil W, ⟨by decide, fun a h => absurd h List.not_mem_nil⟩⟩
 ·obtain rfl : c = .slice (some a) len cap := by simpa using hcs
  simp only [Prod.mk.injEq] at hx
  obtain ⟨rfl, _⟩ := hx
  have hr := reachBytes_lt
  have hlm : len ≤ m := by rw [hmm]; split <;> omega
  have hs : (len + (m - len)) * 24 ≤ reachBytes := by
   refine hw _ ?_
   simp [DataW.weights, Tryz.underlying39, show Tryz.prog.bytesOf 104 = 24 by kernel_rfl]
  obtain ⟨l, hll, hP⟩ := list_of (fun i (x : Ah) => W.cell? (a.add (i * 2)) = some (.int .i64 x.k) ∧ W.cell? (a.add (i * 2 + 1)) = some (.string (S x.d)) ∧ x.d.length ≤ 140737488355328) len (fun i hil => by
   obtain ⟨c0, c1, t0, t1⟩ := hi i (by omega)
   obtain ⟨k, e0, _, _⟩ := DataW.trod_int Tryz.underlying3 t0
   obtain ⟨b, e1, y1, _⟩ := DataW.trod_string Tryz.underlying9 t1
   obtain ⟨s, rfl⟩ := S_of b
   refine ⟨⟨k, s⟩, by rw [c0]; simpa using e0, by rw [c1]; simpa using e1, ?_⟩
   have hd1 : D1 i = .lit (.string s) := by
    have := congrArg Prod.fst y1
    simpa [S] using this
   have hmem : s.length ∈ DataW.weights Tryz.prog 39 (.slice ((List.range len).map fun i => .agg [D0 i, D1 i]) ((List.range (m - len)).map fun j => .agg [D0 (len + j), D1 (len + j)])) := by
    have hw : s.length ∈ DataW.weights Tryz.prog 104 (.agg [D0 i, D1 i]) := by
     rw [hd1]
     simp [DataW.weights, Tryz.underlying104, DataW.weightsEach]
    have := weights_mem_all (P := Tryz.prog) (e := 104) (l := (List.range len).map fun i => .agg [D0 i, D1 i]) (List.mem_map.2 ⟨i, List.mem_range.2 hil, rfl⟩) hw
    simp only [DataW.weights, Tryz.underlying39, List.mem_cons, List.mem_append]
    exact .inr (.inl this)
   have h2 : s.length ≤ reachBytes := hw _ hmem
   simp only
   omega)
  refine ⟨l, ⟨some a, cap, by rw [hll], by omega, fun h0 => ?_⟩, ⟨by omega, fun x hx => ?_⟩⟩
  ·have h1 := (hP 0 h0).1
   rw [Nat.zero_mul, show a.add 0 = a from rfl] at h1
   refine ⟨a.block, a.off, by rw [← ahs_spot h1], fun i hi => ?_⟩
   obtain ⟨g0, g1, _⟩ := hP i hi
   rw [ahs_add h1] at g0 g1
   exact ⟨g0, g1⟩
  ·obtain ⟨i, hi, rfl⟩ := List.getElem_of_mem hx
   exact (hP i hi).2.2
set_option maxRecDepth 100000 in
theorem open_pdu {H : Type} {enc : TypeId × Value → H} {W : World} {base : Nat} {ts : List TypeId} {ds : List (DataW H)} {v : Value} {d : DataW H} {p : List MemPlace} (hsz : (DataW.weightsEach Tryz.prog ts ds).all (· ≤ reachBytes) = true) {j : Nat} (hts : ts[j]? = some 41) (hds : ds[j]? = some d)
  (hval : Value.okWide Tryz.prog W .any base 41 v) (h : DataW.Trod enc Tryz.prog W 0 (fun _ => true) true 41 v d p) :
  ∃ (q : Pd) (vv va : Value), v = pduV q vv va ∧ PduAt W q vv va ∧ FitP q := by
 obtain ⟨cs, rfl, hsize⟩ := okWide_struct Tryz.underlying41 hval
 obtain ⟨c0, c1, c2, c3, c4, c5, rfl⟩ := array6 (hsize.trans (by kernel_rfl))
 obtain ⟨fuel, hf⟩ := h
 obtain ⟨y0, y1, y2, n, hx, _, h0, h1, h2⟩ := trod_struct3 Tryz.underlying41 hf
 simp only [Prod.mk.injEq] at hx
 obtain ⟨rfl, rfl⟩ := hx
 have hwm : ∀ (i : Nat) (t : TypeId) (y : DataW H), ([38, 39, 9] : List TypeId)[i]? = some t → ([y0.1, y1.1, y2.1] : List (DataW H))[i]? = some y → ∀ k ∈ DataW.weights Tryz.prog t y, k ≤ reachBytes := fun i t y ht hy k hk => by
  have h1 := DataW.weights_mem_each ht hy k hk
  have h2 : k ∈ DataW.weights Tryz.prog 41 (.agg [y0.1, y1.1, y2.1]) := by
   simp only [DataW.weights, Tryz.underlying41]
   exact h1
  have := List.all_eq_true.1 hsz _ (DataW.weights_mem_each hts hds _ h2)
  simpa using this
 have h0' : DataW.trod enc Tryz.prog W 0 (fun _ => true) true n 38 [c0, c1, c2, c3] = some y0 := by
  rw [show Tryz.prog.cellsOf _ = 4 by kernel_rfl] at h0
  simpa [Value.cells] using h0
 have h1' : DataW.trod enc Tryz.prog W 0 (fun _ => true) true n 39 [c4] = some y1 := by
  rw [show Tryz.prog.cellsOf _ = 1 by kernel_rfl] at h1
  simpa [Value.cells] using h1
 have h2' : DataW.trod enc Tryz.prog W 0 (fun _ => true) true n 9 [c5] = some y2 := by
  rw [show Tryz.prog.cellsOf _ = 1 by kernel_rfl] at h2
  simpa [Value.cells] using h2
 obtain ⟨z0, z1, z2, z3, k, _, _, g0, g1, g2, g3⟩ := Joins.trod_struct4 Tryz.underlying38 h0'
 rw [show Tryz.prog.cellsOf _ = 1 by kernel_rfl] at g0 g1 g2 g3
 obtain ⟨a0, e0, _, w0⟩ := DataW.trod_int Tryz.underlying3 g0
 obtain ⟨a1, e1, _⟩ := DataW.trod_bool Tryz.underlying4 g1
 obtain ⟨a2, e2, _, w2⟩ := DataW.trod_int Tryz.underlying3 g2
 obtain ⟨vs, hv, hl⟩ := open_nums (c := c3) (by simpa using g3)
 obtain rfl : c0 = .int .i64 a0 := by simpa using e0
 obtain rfl : c1 = .bool a1 := by simpa using e1
 obtain rfl : c2 = .int .i64 a2 := by simpa using e2
 obtain ⟨l, ha, hfa⟩ := open_ahs_cell (d := y1.1) (p := y1.2) (hwm 1 _ _ rfl rfl) h1'
 obtain ⟨b, e5, y5, _⟩ := DataW.trod_string Tryz.underlying9 h2'
 obtain ⟨s, rfl⟩ := S_of b
 obtain rfl : c5 = .string (S s) := by simpa using e5
 have hds : y2.1 = .lit (.string s) := by
  have := congrArg Prod.fst y5
  simpa [S] using this
 have hsl := hwm 2 _ _ rfl rfl s.length (by rw [hds]; simp [DataW.weights])
 exact ⟨⟨⟨a0, a1, a2, vs⟩, l, s⟩, c3, c4, rfl, ⟨hv, ha⟩, ⟨I64_of_wf w2, hl, hfa, hsl⟩⟩
end Go.Proofs.YtmkebjdmkkjloaaGreatDoor
