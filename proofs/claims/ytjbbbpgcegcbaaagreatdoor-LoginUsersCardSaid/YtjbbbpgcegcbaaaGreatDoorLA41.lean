/- LA41: several texts in one. -/
import Derived.Test.YtjbbbpgcegcbaaaGreatDoorLA03
import Derived.Test.YtjbbbpgcegcbaaaGreatDoorLA39
import Derived.Test.YtjbbbpgcegcbaaaGreatDoorLA40
namespace Go.Proofs.YtjbbbpgcegcbaaaGreatDoor
open Go Go.RowKit
set_option linter.unusedVariables false
def kHD : List UInt8 := [72, 101, 97, 100, 101, 114, 68, 105, 103, 101, 115, 116]
def vCRC : List UInt8 := [67, 82, 67, 51, 50, 67]
def entL : List Pr := [pIni, pSes, ⟨kHD, vCRC⟩]
def entP : Pd := ⟨reqH 135 0 0 9 0 5 1 77 0, [], prBytes entL⟩
def entT : List UInt8 := [72, 101, 97, 100, 101, 114, 68, 105, 103, 101, 115, 116, 61, 82, 101, 106, 101, 99, 116, 0]
def entR : (Pd × Int) × Lg := takeL conf0 dw0 (lg0 conf0) entP
theorem ent_asks : asksR 135 entL = (entP, true) := by kernel_rfl
theorem ent_fit : FitP entP := ⟨by unfold I64; decide, by decide, ⟨by decide, fun _ h => absurd h List.not_mem_nil⟩, by decide +kernel⟩
theorem ent_take : entR.1.2 = 0 ∧ statR entR.1.1 = (135, 0, 0) ∧ entR.2.don = true ∧ entR.2.fld = false ∧ entR.2.dsc = true ∧ hv entR.1.1.h nTSIH = 1 ∧ hv entR.1.1.h nITT = 5 ∧ entR.1.1.d = entT ∧ entR.2.sta = 1 ∧ entR.2.cmd = 77 ∧ entR.1.1.h.vs.length = 10 := by
 refine ⟨?_, ?_, ?_, ?_, ?_, ?_, ?_, ?_, ?_, ?_, ?_⟩ <;> kernel_rfl
theorem Blk.kp {w w' : World} {H H' : Nat → Prop} {b : Nat} {C : Array Value} {t : TypeId} (hb : Blk w b C t) (hk : Keeps w.heap.size w w' H H') (hn : ¬ H b) : Blk w' b C t := (hk.block b hb.lt hn).trans hb
theorem PduAt.offO {H : Nat → Prop} {w W : World} {p : Pd} {vv : Value} (h : Vals W vv p.h.vs) (ha : p.a = []) (ho : OwnV w vv) (hH : ∀ k, H k → k < w.heap.size) : PduAt (offW H W) p vv (.slice none 0 0) := ⟨h.offO ho hH, by rw [ha]; exact AhsV.nil _⟩
section
variable {w0 w W : World} {lb : Nat} {m : LgM} {c : Cf} {d : Dw} {q : Lq} {s : Lg}
theorem LS.fresh (h : LS w0 w lb m c d q s) : ∀ k, m.H lb k → k < w.heap.size := fun k hk => (h.log.ge k hk).2
theorem LS.overS (h : LS w0 w lb m c d q s) : Calls Tryz.prog 13 #[.pointer (some ⟨lb, 0, none⟩)] w fun e w' => e = .returned (.tuple #[.bool s.don, .bool s.fld]) ∧ Below w.heap.size w w' := by
 have O := over_any h.log
 rw [h.sim.same.don, h.sim.same.fld] at O
 exact O
theorem LS.whoS (h : LS w0 w lb m c d q s) : Calls Tryz.prog 14 #[.pointer (some ⟨lb, 0, none⟩)] w fun e w' => e = .returned (.tuple #[.string (S s.usr), .string (S s.tgt), .bool s.dsc]) ∧ Below w.heap.size w w' := by
 have O := who_any h.log
 rw [h.sim.same.usr, h.sim.same.tgt, h.sim.same.dsc] at O
 exact O
theorem LS.statS (h : LS w0 w lb m c d q s) : Calls Tryz.prog 52 #[.pointer (some ⟨lb, 0, none⟩)] w fun e w' => e = .returned (.int .u32 s.sta) ∧ w = w' := by
 have O := stat_any h.log
 rw [h.sim.same.sta] at O
 exact O
theorem LS.commandS (h : LS w0 w lb m c d q s) : Calls Tryz.prog 53 #[.pointer (some ⟨lb, 0, none⟩)] w fun e w' => e = .returned (.int .u32 s.cmd) ∧ w = w' := by
 have O := command_any h.log
 rw [h.sim.cmd] at O
 exact O
end
set_option maxRecDepth 100000 in
set_option maxHeartbeats 8000000 in
theorem entered_any (w : World) (hE : EnvL w) : Calls Tryz.prog 9 #[] w fun e w' => e = .returned (.bool true) ∧ Below w.heap.size w w' := by
 have C := conf_any w
 unfold confV at C
 have C := Lib.hid C
 have HE := Lib.hid hE
 clear hE
 go_enter Tryz.func9, Tryz.ntmps9
 go_wp2_with fail
 refine C.out.mono ?_
 rintro e w1 ⟨vt, vp, rfl, hv, hb1⟩
 have D := Lib.hid (draw_any w1)
 have HV := Lib.hid hv
 have Hb1 := Lib.hid hb1
 clear hv hb1 C
 go_wp2_with fail
 refine D.out.mono ?_
 rintro e w2 ⟨rfl, hb2⟩
 have N := new_ls conf0 dw0 vt vp _ _ w2 (HV.out.later hb2) conf0_fit (HE.out.later (below_then Hb1.out hb2)) new_conf0
 unfold confV at N
 have N := Lib.hid N
 have Hb2 := Lib.hid (below_then Hb1.out hb2)
 clear hb2 D Hb1 HV
 go_wp2_with fail
 refine N.out.mono ?_
 rintro e w3 ⟨lb, m, rfl, hL, -⟩
 have HL3 := Lib.hid hL
 have Q1 := Lib.hid (pair_any [73, 110, 105, 116, 105, 97, 116, 111, 114, 78, 97, 109, 101] [109, 101] w3)
 clear hL N
 go_wp2_with fail
 refine Q1.out.mono ?_
 rintro e w4 ⟨rfl, hb4⟩
 have HL4 := Lib.hid (HL3.out.later hb4)
 have Q2 := Lib.hid (pair_any [83, 101, 115, 115, 105, 111, 110, 84, 121, 112, 101] [68, 105, 115, 99, 111, 118, 101, 114, 121] w4)
 clear hb4 HL3 Q1
 go_wp2_with fail
 refine Q2.out.mono ?_
 rintro e w5 ⟨rfl, hb5⟩
 have HL5 := Lib.hid (HL4.out.later hb5)
 have Q3 := Lib.hid (pair_any [72, 101, 97, 100, 101, 114, 68, 105, 103, 101, 115, 116] [67, 82, 67, 51, 50, 67] w5)
 clear hb5 HL4 Q2
 go_wp2_with fail
 refine Q3.out.mono ?_
 rintro e w6 ⟨rfl, hb6⟩
 have HL6 := Lib.hid (HL5.out.later hb6)
 obtain ⟨w7, hw7⟩ : ∃ w7, w6.alloc (.cells #[.string (S [73, 110, 105, 116, 105, 97, 116, 111, 114, 78, 97, 109, 101]), .string (S [109, 101]), .string (S [83, 101, 115, 115, 105, 111, 110, 84, 121, 112, 101]), .string (S [68, 105, 115, 99, 111, 118, 101, 114, 121]), .string (S [72, 101, 97, 100, 101, 114, 68, 105, 103, 101, 115, 116]), .string (S [67, 82, 67, 51, 50, 67])] 60) = w7 := ⟨_, rfl⟩
 have hp7 : PrsV w7 (.slice (some ⟨w6.heap.size, 0, none⟩) 3 3) entL := by rw [← hw7]; exact prs_new w6 entL _
 have hb7 : Below w6.heap.size w6 w7 := by rw [← hw7]; exact (Below.refl _ _).alloc (Nat.le_refl _) _
 have HL7 := Lib.hid (HL6.out.later hb7)
 have A := asks_any 135 entL _ w7 (by unfold I64; decide) hp7 ⟨by decide, by decide⟩ ((HE.out.later Hb2.out).env.mc.later HL7.out.low)
 rw [ent_asks] at A
 obtain ⟨P, hP⟩ : ∃ P, entP = P := ⟨_, rfl⟩
 have hPv : P.h.vs.length = 8 := by rw [← hP]; rfl
 have hPa : P.a = [] := by rw [← hP]; rfl
 have hPf : FitP P := by rw [← hP]; exact ent_fit
 obtain ⟨R, hR⟩ : ∃ R, takeL conf0 dw0 (lg0 conf0) P = R := ⟨_, rfl⟩
 have hRs := ent_take
 rw [show entR = R by rw [← hR, ← hP]; rfl] at hRs
 rw [hP] at A
 unfold RetAsks at A
 have A := Lib.hid A
 have HPv := Lib.hid hPv
 have HPa := Lib.hid hPa
 have HPf := Lib.hid hPf
 have HR := Lib.hid hR
 have HRs := Lib.hid hRs
 clear hb6 hb7 hp7 HL5 HL6 Q3 hP hPv hPa hPf hR hRs
 go_wp2_with fail
 clear hw7
 refine A.out.mono ?_
 rintro e w8 ⟨vv, rfl, hvv, hown, hb8⟩
 have hPd : PduAt (offW (m.H lb) w8) P vv (.slice none 0 0) := PduAt.offO hvv HPa.out hown HL7.out.fresh
 obtain ⟨pv, cv, rfl⟩ : ∃ p c, vv = .slice p P.h.vs.length c := by obtain ⟨p, c, h, _⟩ := hvv; exact ⟨p, c, h⟩
 have HL8 := Lib.hid (HL7.out.later hb8)
 obtain ⟨w9, hw9⟩ : ∃ w9, w8.alloc (.cells #[.int .i64 P.h.op, .bool P.h.now, .int .i64 P.h.fl, .slice pv P.h.vs.length cv, .slice none 0 0, .string (S P.d)] 41) = w9 := ⟨_, rfl⟩
 have hb9 : Below w8.heap.size w8 w9 := by rw [← hw9]; exact (Below.refl _ _).alloc (Nat.le_refl _) _
 have hk9 : Blk w9 w8.heap.size #[.int .i64 P.h.op, .bool P.h.now, .int .i64 P.h.fl, .slice pv P.h.vs.length cv, .slice none 0 0, .string (S P.d)] 41 := by rw [← hw9]; exact Blk.new w8 _ _
 have hL9 := HL8.out.later hb9
 have hPd9 := hPd.later (Keeps.of hb9 _).off'
 have hn9 : ¬ m.H lb w8.heap.size := fun hh => by have := HL8.out.fresh _ hh; omega
 obtain ⟨pb, hpb⟩ : ∃ pb, w8.heap.size = pb := ⟨_, rfl⟩
 rw [hpb] at hk9 hn9
 have T := take_ls P _ _ hL9 hPd9 (HE.out.later Hb2.out) HPf.out conf0_ok dw0_ok
 rw [HR.out] at T
 obtain ⟨⟨Q, n⟩, s1⟩ := R
 unfold RetLS at T
 simp only at T
 obtain ⟨r1, r2, r3, r4, r5, r6, r7, r8, r9, r10, r11⟩ := HRs.out
 simp only at r1 r2 r3 r4 r5 r6 r7 r8 r9 r10 r11
 subst r1
 unfold pduV at T
 unfold entT at r8
 rw [r8] at T
 have T := Lib.hid T
 have HK9 := Lib.hid hk9
 have HPd9 := Lib.hid hPd9
 have HN9 := Lib.hid hn9
 have R2 := Lib.hid r2
 have R3 := Lib.hid r3
 have R4 := Lib.hid r4
 have R5 := Lib.hid r5
 have R6 := Lib.hid r6
 have R7 := Lib.hid r7
 have R8 := Lib.hid r8
 have R9 := Lib.hid r9
 have R10 := Lib.hid r10
 have R11 := Lib.hid r11
 obtain ⟨k0, k1, k2, k3, k4, k5⟩ := hk9.six
 have T2 := Lib.hid (fun (W : World) (m' : LgM) (q' : Lq) (hl : LS w2 W lb m' conf0 dw0 q' s1) (hp : PduAt (offW (m'.H lb) W) P (.slice pv P.h.vs.length cv) (.slice none 0 0)) => take_ls P _ _ hl hp (HE.out.later Hb2.out) HPf.out conf0_ok dw0_ok)
 clear hvv hown hb8 hPd hb9 hk9 hL9 hPd9 hn9 r2 r3 r4 r5 r6 r7 r8 r9 r10 r11 A HL7 HL8 HR HRs HPf HPa
 unfold pduV
 simp only
 go_wp2_with fail
 clear hw9 k0 k1 k2 k3 k4 k5
 refine T.out.mono ?_
 rintro e w10 ⟨m1, q1, vq, va, ev, rfl, hPq, herr, hL10, hK10⟩
 obtain rfl := herr.zero
 have hPd10 := HPd9.out.later hK10.off'
 have hk10 := HK9.out.kp hK10 HN9.out
 have hn10 : ¬ m1.H lb pb := fun hh => by
  rcases hK10.old _ hh with h | h
  ·exact HN9.out h
  ·have := HK9.out.lt; omega
 obtain ⟨p3, c3, rfl⟩ : ∃ p c, vq = .slice p Q.h.vs.length c := by obtain ⟨p, c, h, _⟩ := hPq.v; exact ⟨p, c, h⟩
 obtain ⟨p4, c4, rfl⟩ := hPq.a.form
 obtain ⟨w11, hw11⟩ : ∃ w11, w10.alloc (.cells #[.int .i64 Q.h.op, .bool Q.h.now, .int .i64 Q.h.fl, .slice p3 Q.h.vs.length c3, .slice p4 Q.a.length c4, .string (S [72, 101, 97, 100, 101, 114, 68, 105, 103, 101, 115, 116, 61, 82, 101, 106, 101, 99, 116, 0])] 41) = w11 := ⟨_, rfl⟩
 have hb11 : Below w10.heap.size w10 w11 := by rw [← hw11]; exact (Below.refl _ _).alloc (Nat.le_refl _) _
 have hk11 : Blk w11 w10.heap.size #[.int .i64 Q.h.op, .bool Q.h.now, .int .i64 Q.h.fl, .slice p3 Q.h.vs.length c3, .slice p4 Q.a.length c4, .string (S [72, 101, 97, 100, 101, 114, 68, 105, 103, 101, 115, 116, 61, 82, 101, 106, 101, 99, 116, 0])] 41 := by rw [← hw11]; exact Blk.new w10 _ _
 have hnq : ¬ m1.H lb w10.heap.size := fun hh => by have := hL10.fresh _ hh; omega
 obtain ⟨qb, hqb⟩ : ∃ qb, w10.heap.size = qb := ⟨_, rfl⟩
 rw [hqb] at hk11 hnq
 have hPq11 := hPq.later (Keeps.of hb11 _).off'
 have hL11 := hL10.later hb11
 have hk9' := hk10.later hb11
 have hPd11 := hPd10.later (Keeps.of hb11 _).off'
 have HE2 := Lib.hid (HE.out.later Hb2.out)
 have ST := status_any Q _ _ w11 hPq11.off (HE2.out.later hL11.low).env.mc (by rw [R11.out]; decide)
 rw [R2.out] at ST
 unfold pduV at ST
 rw [R8.out] at ST
 have ST := Lib.hid ST
 have HL11 := Lib.hid hL11
 have HPq11 := Lib.hid hPq11
 have HPd11 := Lib.hid hPd11
 have HKp := Lib.hid hk9'
 have HKq := Lib.hid hk11
 have Hnp := Lib.hid hn10
 have Hnq := Lib.hid hnq
 obtain ⟨k0, k1, k2, k3, k4, k5⟩ := hk11.six
 clear hPq herr hL10 hK10 hPd10 hk10 hn10 hb11 hk11 hnq hPq11 hL11 hk9' hPd11 HK9 HPd9 HN9 T
 go_wp2_with fail
 clear hw11 k0 k1 k2 k3 k4 k5
 refine ST.out.mono ?_
 rintro e w12 ⟨rfl, hb12⟩
 have HL12 := Lib.hid (HL11.out.later hb12)
 have HKp12 := Lib.hid (HKp.out.later hb12)
 have HKq12 := Lib.hid (HKq.out.later hb12)
 have HPq12 := Lib.hid (HPq11.out.later (Keeps.of hb12 _).off')
 have HPd12 := Lib.hid (HPd11.out.later (Keeps.of hb12 _).off')
 have OV := HL12.out.overS
 rw [R3.out, R4.out] at OV
 have OV := Lib.hid OV
 clear hb12 ST HL11 HKp HKq HPq11 HPd11
 go_wp2_with fail
 refine OV.out.mono ?_
 rintro e w13 ⟨rfl, hb13⟩
 have HL13 := Lib.hid (HL12.out.later hb13)
 have HKp13 := Lib.hid (HKp12.out.later hb13)
 have HKq13 := Lib.hid (HKq12.out.later hb13)
 have HPq13 := Lib.hid (HPq12.out.later (Keeps.of hb13 _).off')
 have HPd13 := Lib.hid (HPd12.out.later (Keeps.of hb13 _).off')
 have WH := HL13.out.whoS
 rw [R5.out] at WH
 have WH := Lib.hid WH
 clear hb13 OV HL12 HKp12 HKq12 HPq12 HPd12
 go_wp2_with fail
 refine WH.out.mono ?_
 rintro e w14 ⟨rfl, hb14⟩
 have HL14 := Lib.hid (HL13.out.later hb14)
 have HKp14 := Lib.hid (HKp13.out.later hb14)
 have HKq14 := Lib.hid (HKq13.out.later hb14)
 have HPq14 := Lib.hid (HPq13.out.later (Keeps.of hb14 _).off')
 have HPd14 := Lib.hid (HPd13.out.later (Keeps.of hb14 _).off')
 have TT := T2.out w14 m1 q1 HL14.out HPd14.out
 rw [takeL_over (.inl R3.out)] at TT
 obtain ⟨Z, hZ⟩ : ∃ Z, pd0 = Z := ⟨_, rfl⟩
 rw [hZ] at TT
 unfold RetLS pduV at TT
 simp only at TT
 have TT := Lib.hid TT
 obtain ⟨k0, k1, k2, k3, k4, k5⟩ := HKp14.out.six
 clear hb14 WH HL13 HKp13 HKq13 HPq13 HPd13 hZ T2
 go_wp2_with fail
 clear k0 k1 k2 k3 k4 k5
 refine TT.out.mono ?_
 rintro e w15 ⟨m2, q2, v5, v6, ev6, rfl, hPz, he6, hL15, hK15⟩
 obtain ⟨p5, c5, rfl⟩ : ∃ p c, v5 = .slice p Z.h.vs.length c := by obtain ⟨p, c, h, _⟩ := hPz.v; exact ⟨p, c, h⟩
 obtain ⟨p6, c6, rfl⟩ := hPz.a.form
 obtain ⟨te, xe, rfl⟩ := he6.iface (by decide)
 obtain ⟨w16, hw16⟩ : ∃ w16, w15.alloc (.cells #[.int .i64 Z.h.op, .bool Z.h.now, .int .i64 Z.h.fl, .slice p5 Z.h.vs.length c5, .slice p6 Z.a.length c6, .string (S Z.d)] 41) = w16 := ⟨_, rfl⟩
 have hb16 : Below w15.heap.size w15 w16 := by rw [← hw16]; exact (Below.refl _ _).alloc (Nat.le_refl _) _
 have hkq := (HKq14.out.kp hK15 Hnq.out).later hb16
 have hPq16 := (HPq14.out.later hK15.off').later (Keeps.of hb16 _).off'
 have hL16 := hL15.later hb16
 have he16 := he6.later hb16
 have e1 : ((hv Q.h nTSIH : Nat) : Int) = 1 := by rw [R6.out]; rfl
 have e2 : ((hv Q.h nITT : Nat) : Int) = 5 := by rw [R7.out]; rfl
 have W1 := what_any Q _ _ nTSIH w16 hPq16.off (HE2.out.later hL16.low).env.mc (by rw [R11.out]; decide)
 have W2 := fun W hb => what_any Q _ _ nITT W (hPq16.off.later hb) ((HE2.out.later hL16.low).later hb).env.mc (by rw [R11.out]; decide)
 rw [e1] at W1
 rw [e2] at W2
 unfold pduV at W1 W2
 rw [R8.out] at W1 W2
 have W1 := Lib.hid W1
 have W2 := Lib.hid W2
 have HKq16 := Lib.hid hkq
 have HL16 := Lib.hid hL16
 have He16 := Lib.hid he16
 obtain ⟨k0, k1, k2, k3, k4, k5⟩ := hkq.six
 clear hPz he6 hL15 hK15 hb16 hkq hPq16 hL16 he16 e1 e2 TT HL14 HKp14 HKq14 HPq14 HPd14
 go_wp2_with fail
 clear hw16
 refine W1.out.mono ?_
 rintro e w17 ⟨rfl, hb17⟩
 have W2' := Lib.hid (W2.out _ hb17)
 have HKq17 := Lib.hid (HKq16.out.later hb17)
 have Hb17 := Lib.hid hb17
 clear hb17 k0 k1 k2 k3 k4 k5 W1 W2 HKq16
 obtain ⟨k0, k1, k2, k3, k4, k5⟩ := HKq17.out.six
 go_wp2_with fail
 refine W2'.out.mono ?_
 rintro e w18 ⟨rfl, hb18⟩
 have HKq18 := Lib.hid (HKq17.out.later hb18)
 have Hb18 := Lib.hid (below_then Hb17.out hb18)
 have TL := Lib.hid (tell_is (He16.out.later Hb18.out) (HE2.out.later (below_then HL16.out.low Hb18.out)).err)
 clear hb18 k0 k1 k2 k3 k4 k5 W2' HKq17 Hb17
 obtain ⟨k0, k1, k2, k3, k4, k5⟩ := HKq18.out.six
 go_wp2_with fail
 refine TL.out.mono ?_
 rintro e w19 ⟨rfl, hb19⟩
 have HL19 := Lib.hid (HL16.out.later (below_then Hb18.out hb19))
 have SS := HL19.out.statS
 have CC := HL19.out.commandS
 rw [R9.out] at SS
 rw [R10.out] at CC
 have SS := Lib.hid SS
 have CC := Lib.hid CC
 clear hb19 k0 k1 k2 k3 k4 k5 TL HKq18 Hb18 HL16
 go_wp2_with fail
 refine SS.out.mono ?_
 rintro e w' ⟨rfl, rfl⟩
 go_wp2_with fail
 refine CC.out.mono ?_
 rintro e w' ⟨rfl, rfl⟩
 go_wp2_with fail
 go_ret
 exact ⟨rfl, below_then Hb2.out HL19.out.low⟩
theorem PdusV.cellsO {H : Nat → Prop} {W : World} {p : Option Addr} {c : Nat} {l : List Pd} (h : PdusV (offW H W) (.slice p l.length c) l) {j : Nat} (hj : j < l.length) : ∃ b o, p = some ⟨b, o, none⟩ ∧ ∃ p1 c1 p2 c2, PduAt (offW H W) l[j] (.slice p1 l[j].h.vs.length c1) (.slice p2 l[j].a.length c2) ∧
  W.cell? ⟨b, o + j * 6, none⟩ = some (.int .i64 l[j].h.op) ∧ W.cell? ⟨b, o + j * 6 + 1, none⟩ = some (.bool l[j].h.now) ∧ W.cell? ⟨b, o + j * 6 + 2, none⟩ = some (.int .i64 l[j].h.fl) ∧ W.cell? ⟨b, o + j * 6 + 3, none⟩ = some (.slice p1 l[j].h.vs.length c1) ∧ W.cell? ⟨b, o + j * 6 + 4, none⟩ = some (.slice p2 l[j].a.length c2) ∧
  W.cell? ⟨b, o + j * 6 + 5, none⟩ = some (.string (S l[j].d)) := by
 obtain ⟨p0, c0, hv, hc⟩ := h
 obtain ⟨rfl, rfl⟩ : p = p0 ∧ c = c0 := by simpa using hv
 obtain ⟨b, o, rfl, hcell⟩ := hc (by omega)
 obtain ⟨vv, va, hP, e0, e1, e2, e3, e4, e5⟩ := hcell j hj
 obtain ⟨p1, c1, rfl⟩ : ∃ p c, vv = .slice p l[j].h.vs.length c := by obtain ⟨p, c, h, _⟩ := hP.v; exact ⟨p, c, h⟩
 obtain ⟨p2, c2, rfl⟩ := hP.a.form
 exact ⟨b, o, rfl, p1, c1, p2, c2, hP, off_cell e0, off_cell e1, off_cell e2, off_cell e3, off_cell e4, off_cell e5⟩
theorem PduAt.laid6 {H : Nat → Prop} {W W' : World} {p : Pd} {vv va : Value} (h : PduAt (offW H W) p vv va) {b : Nat} {o0 o2 : Int} {o1 : Bool} {o5 : ByteArray} {p3 p4 : Option Addr} {n3 n4 c3 c4 : Nat} {t : TypeId} (hk : Blk W b #[.int .i64 o0, .bool o1, .int .i64 o2, .slice p3 n3 c3, .slice p4 n4 c4, .string o5] t)
  (hg : ∀ k, k ≠ b → W'.heap[k]? = W.heap[k]?) : PduAt (offW H W') p vv va := by
 have hh : ∀ (b' o : Nat) (x : Value), b' ≠ b → (offW H W).cell? ⟨b', o, none⟩ = some x → (offW H W').cell? ⟨b', o, none⟩ = some x := fun b' o x hne hc => by
  have hH : ¬ H b' := off_cellout hc
  have h1 := off_cell hc
  rw [off_to (a := ⟨b', o, none⟩) hH, World.cell?_of_block (w := W) (w' := W') (a := ⟨b', o, none⟩) (hg b' hne)]
  exact h1
 obtain ⟨⟨q, c, hv, hx, hc⟩, ⟨qa, ca, ha, hla, hca⟩⟩ := h
 refine ⟨⟨q, c, hv, hx, fun hl => ?_⟩, ⟨qa, ca, ha, hla, fun hl => ?_⟩⟩
 ·obtain ⟨b', o, hq, hcell⟩ := hc hl
  have hne := six_apartV hk (off_cell (hcell 0 hl))
  exact ⟨b', o, hq, fun j hj => hh _ _ _ hne (hcell j hj)⟩
 ·obtain ⟨b', o, hq, hcell⟩ := hca hl
  obtain ⟨g0, g1⟩ := hcell 0 hl
  have hne := six_apartA hk (off_cell g0) (off_cell g1)
  exact ⟨b', o, hq, fun j hj => ⟨hh _ _ _ hne (hcell j hj).1, hh _ _ _ hne (hcell j hj).2⟩⟩
theorem six_keeps (W : World) (b : Nat) (x0 x1 x2 x3 x4 x5 : Value) : Keeps W.heap.size W ((((((W.setCell ⟨b, 0, none⟩ x0).setCell ⟨b, 1, none⟩ x1).setCell ⟨b, 2, none⟩ x2).setCell ⟨b, 3, none⟩ x3).setCell ⟨b, 4, none⟩ x4).setCell ⟨b, 5, none⟩ x5) (fun k => k = b) (fun k => k = b) :=
 (((((((Keeps.refl _ W (fun k => k = b)).putC rfl 0 _).putC rfl 1 _).putC rfl 2 _).putC rfl 3 _).putC rfl 4 _).putC rfl 5 _)
theorem six_else (W : World) (b : Nat) (x0 x1 x2 x3 x4 x5 : Value) (k : Nat) (hne : k ≠ b) : ((((((W.setCell ⟨b, 0, none⟩ x0).setCell ⟨b, 1, none⟩ x1).setCell ⟨b, 2, none⟩ x2).setCell ⟨b, 3, none⟩ x3).setCell ⟨b, 4, none⟩ x4).setCell ⟨b, 5, none⟩ x5).heap[k]? = W.heap[k]? := by
 rw [setCell_heap_other hne, setCell_heap_other hne, setCell_heap_other hne, setCell_heap_other hne, setCell_heap_other hne, setCell_heap_other hne]
structure KnIn (w0 w W : World) (lb : Nat) (m0 m : LgM) (c : Cf) (d : Dw) (q0 q : Lq) (s : Lg) (ra rb : Nat) (Q : Pd) (vv va : Value) : Prop where
 box : InB w W w0.heap.size lb m0 m c d q0 q rb (cells6 Q vv va) 41
 out : Blk W ra #[.int .i64 0, .bool false, .int .i64 0, .slice none 0 0, .slice none 0 0, .string (S [])] 41
 sepA : ¬ m.H lb ra
 newA : w.heap.size ≤ ra
 pdu : PduAt (offW (m.H lb) W) Q vv va
 low : Below w0.heap.size w0 W
 sim : SimQ c q s
 ok : QOk c q
 ne : ra ≠ rb
section
variable {w0 w W W' : World} {lb : Nat} {m0 m m' : LgM} {c : Cf} {d : Dw} {q0 q q' : Lq} {s s' : Lg} {ra rb : Nat} {Q : Pd} {vv va : Value}
theorem KnIn.later (h : KnIn w0 w W lb m0 m c d q0 q s ra rb Q vv va) (hb : Below W.heap.size W W') : KnIn w0 w W' lb m0 m c d q0 q s ra rb Q vv va :=
 ⟨h.box.later hb, h.out.later hb, h.sepA, h.newA, h.pdu.later (Keeps.of hb _).off', below_then h.low hb, h.sim, h.ok, h.ne⟩
theorem KnIn.step (h : KnIn w0 w W lb m0 m c d q0 q s ra rb Q vv va) (hl : LogIn W' w0.heap.size lb m' c d q') (hk : Keeps W.heap.size W W' (m.H lb) (m'.H lb)) (e : m'.mv = m.mv ∧ m'.vt = m.vt ∧ m'.vu = m.vu ∧ q'.mine = q.mine) (hs : SimQ c q' s') (ho : QOk c q') : KnIn w0 w W' lb m0 m' c d q0 q' s' ra rb Q vv va := by
 have hsA : ¬ m'.H lb ra := fun hh => by
  rcases hk.old ra hh with h1 | h1
  ·exact h.sepA h1
  ·have := h.out.lt; omega
 exact ⟨h.box.step hl hk e, (hk.block ra h.out.lt h.sepA).trans h.out, hsA, h.newA, h.pdu.later hk.off', Keeps.from h.low hk (fun k hh => (h.box.log.ge k hh).1), hs, ho, h.ne⟩
theorem KnIn.lay (h : KnIn w0 w W lb m0 m c d q0 q s ra rb Q vv va) {R : Pd} {p1 p2 : Option Addr} {c1 c2 : Nat} (hp : PduAt (offW (m.H lb) W) R (.slice p1 R.h.vs.length c1) (.slice p2 R.a.length c2)) :
  KnIn w0 w ((((((W.setCell ⟨rb, 0, none⟩ (.int .i64 R.h.op)).setCell ⟨rb, 1, none⟩ (.bool R.h.now)).setCell ⟨rb, 2, none⟩ (.int .i64 R.h.fl)).setCell ⟨rb, 3, none⟩ (.slice p1 R.h.vs.length c1)).setCell ⟨rb, 4, none⟩ (.slice p2 R.a.length c2)).setCell ⟨rb, 5, none⟩ (.string (S R.d))) lb m0 m c d q0 q s ra rb R (.slice p1 R.h.vs.length c1) (.slice p2 R.a.length c2) := by
 have hk := six_keeps W rb (.int .i64 R.h.op) (.bool R.h.now) (.int .i64 R.h.fl) (.slice p1 R.h.vs.length c1) (.slice p2 R.a.length c2) (.string (S R.d))
 have he := six_else W rb (.int .i64 R.h.op) (.bool R.h.now) (.int .i64 R.h.fl) (.slice p1 R.h.vs.length c1) (.slice p2 R.a.length c2) (.string (S R.d))
 obtain ⟨pv, cv, rfl⟩ : ∃ p c, vv = .slice p Q.h.vs.length c := by obtain ⟨p, c, h, _⟩ := h.pdu.v; exact ⟨p, c, h⟩
 obtain ⟨pa, ca, rfl⟩ := h.pdu.a.form
 have hB := h.box.rbk
 unfold cells6 at hB
 have hset := (((((hB.set 0 (.int .i64 R.h.op)).set 1 (.bool R.h.now)).set 2 (.int .i64 R.h.fl)).set 3 (.slice p1 R.h.vs.length c1)).set 4 (.slice p2 R.a.length c2)).set 5 (.string (S R.d))
 have hge : w0.heap.size ≤ w.heap.size := by
  have h1 := h.box.start.base.1
  have h2 := (h.box.start.blk).lt
  omega
 exact ⟨h.box.laid hk hset, (he ra h.ne).trans h.out, h.sepA, h.newA, hp.laid6 hB he, Keeps.from h.low hk (fun k e => by subst e; have := h.box.new; omega), h.sim, h.ok, h.ne⟩
end
def RetKnock (w0 w : World) (lb : Nat) (m : LgM) (c : Cf) (d : Dw) (r : (Pd × Bool) × Lg) (e : Ending) (w' : World) : Prop :=
 ∃ m' q' vv va, e = .returned (.tuple #[pduV r.1.1 vv va, .bool r.1.2]) ∧ PduAt (offW (m'.H lb) w') r.1.1 vv va ∧ LS w0 w' lb m' c d q' r.2 ∧ Keeps w.heap.size w w' (m.H lb) (m'.H lb)
def RetKnockS (w0 w : World) (lb : Nat) (m : LgM) (c : Cf) (d : Dw) (r : (Pd × Bool) × Lg) (e : Ending) (w' : World) : Prop :=
 ∃ m' q' vv va, e = .returned (.tuple #[pduV r.1.1 vv va, .bool r.1.2]) ∧ PduAt (offW (m'.H lb) w') r.1.1 vv va ∧ LS w0 w' lb m' c d q' r.2 ∧ Keeps w.heap.size w w' (m.H lb) (m'.H lb) ∧ (m'.mv = m.mv ∧ m'.vt = m.vt ∧ m'.vu = m.vu) ∧ (OwnV w vv ∧ r.1.1.a = [])
section
variable {w0 w W : World} {lb : Nat} {m0 m : LgM} {c : Cf} {d : Dw} {q0 q : Lq} {s : Lg} {ra rb : Nat} {Q : Pd}
theorem KnIn.back {p1 p2 : Option Addr} {c1 c2 : Nat} (h : KnIn w0 w W lb m0 m c d q0 q s ra rb Q (.slice p1 Q.h.vs.length c1) (.slice p2 Q.a.length c2)) (ho : OwnV w (.slice p1 Q.h.vs.length c1) ∧ Q.a = []) (b : Bool) {r : (Pd × Bool) × Lg} (hr : r = ((Q, b), s)) :
  RetKnockS w0 w lb m0 c d r (.returned (.tuple #[pduV Q (.slice p1 Q.h.vs.length c1) (.slice p2 Q.a.length c2), .bool b])) ((((((W.setCell ⟨ra, 0, none⟩ (.int .i64 Q.h.op)).setCell ⟨ra, 1, none⟩ (.bool Q.h.now)).setCell ⟨ra, 2, none⟩ (.int .i64 Q.h.fl)).setCell ⟨ra, 3, none⟩ (.slice p1 Q.h.vs.length c1)).setCell ⟨ra, 4, none⟩ (.slice p2 Q.a.length c2)).setCell ⟨ra, 5, none⟩ (.string (S Q.d))) := by
 subst hr
 have hk := six_keeps W ra (.int .i64 Q.h.op) (.bool Q.h.now) (.int .i64 Q.h.fl) (.slice p1 Q.h.vs.length c1) (.slice p2 Q.a.length c2) (.string (S Q.d))
 have he := six_else W ra (.int .i64 Q.h.op) (.bool Q.h.now) (.int .i64 Q.h.fl) (.slice p1 Q.h.vs.length c1) (.slice p2 Q.a.length c2) (.string (S Q.d))
 have hset := (((((h.out.set 0 (.int .i64 Q.h.op)).set 1 (.bool Q.h.now)).set 2 (.int .i64 Q.h.fl)).set 3 (.slice p1 Q.h.vs.length c1)).set 4 (.slice p2 Q.a.length c2)).set 5 (.string (S Q.d))
 have hA : InB w W w0.heap.size lb m0 m c d q0 q ra _ _ := ⟨h.box.start, h.out, h.box.log, h.box.keep, h.sepA, h.newA, h.box.same⟩
 have hL := hA.laid hk hset
 have hge : w0.heap.size ≤ w.heap.size := by
  have h1 := h.box.start.base.1
  have h2 := (h.box.start.blk).lt
  omega
 exact ⟨m, q, _, _, rfl, h.pdu.laid6 h.out he, ⟨Keeps.from h.low hk (fun k e => by subst e; have := h.newA; omega), hL.log, h.sim, h.ok⟩, hL.keep, ⟨h.box.same.1, h.box.same.2.1, h.box.same.2.2.1⟩, ho⟩
end
section
variable {w0 w : World} {lb : Nat} {m : LgM} {c : Cf} {d : Dw} {q : Lq} {s : Lg}
set_option maxRecDepth 100000 in
set_option maxHeartbeats 4000000 in
theorem knock_same (l : List Pd) (v : Value) (h : LS w0 w lb m c d q s) (hv : PdusV (offW (m.H lb) w) v l) (hf : ∀ p ∈ l, FitP p) (hl : l.length ≤ 140737488355328) (hE : EnvL w0) (hc : CfOk c) (hd : 0 ≤ d.id ∧ d.id ≤ 255 ∧ d.ch.length ≤ 100) :
  Calls Tryz.prog 30 #[.pointer (some ⟨lb, 0, none⟩), v] w (RetKnockS w0 w lb m c d (knockL c d s pd0 l)) := by
 obtain ⟨pl, cl, rfl⟩ := hv.form
 obtain ⟨wA, hwA⟩ : ∃ wA, w.alloc (.cells #[.int .i64 0, .bool false, .int .i64 0, .slice none 0 0, .slice none 0 0, .string (S [])] 41) = wA := ⟨_, rfl⟩
 have bA : Below w.heap.size w wA := by rw [← hwA]; exact (Below.refl _ _).alloc (Nat.le_refl _) _
 have kA : Blk wA w.heap.size #[.int .i64 0, .bool false, .int .i64 0, .slice none 0 0, .slice none 0 0, .string (S [])] 41 := by rw [← hwA]; exact Blk.new w _ _
 obtain ⟨wB, hwB⟩ : ∃ wB, wA.alloc (.cells #[.int .i64 0, .bool false, .int .i64 0, .slice none 0 0, .slice none 0 0, .string (S [])] 41) = wB := ⟨_, rfl⟩
 have bB : Below wA.heap.size wA wB := by rw [← hwB]; exact (Below.refl _ _).alloc (Nat.le_refl _) _
 have kB : Blk wB wA.heap.size #[.int .i64 0, .bool false, .int .i64 0, .slice none 0 0, .slice none 0 0, .string (S [])] 41 := by rw [← hwB]; exact Blk.new wA _ _
 have hsA : ¬ m.H lb w.heap.size := fun hh => by have := (h.log.ge _ hh).2; omega
 have hne : w.heap.size ≠ wA.heap.size := by have := kA.lt; omega
 obtain ⟨ra, hra⟩ : ∃ ra, w.heap.size = ra := ⟨_, rfl⟩
 obtain ⟨rb, hrb⟩ : ∃ rb, wA.heap.size = rb := ⟨_, rfl⟩
 have hK : KnIn w0 w wB lb m m c d q q s ra rb pd0 (.slice none 0 0) (.slice none 0 0) := by
  rw [← hra, ← hrb]
  exact ⟨InB.begin h.log (below_then bA bB) kB bA.size, kA.later bB, hsA, Nat.le_refl _, pdu0_at _, below_then h.low (below_then bA bB), h.sim, h.ok, hne⟩
 have HK := Lib.hid hK
 have HV := Lib.hid hv
 have Hf := Lib.hid hf
 have HE := Lib.hid hE
 have HC := Lib.hid hc
 have HD := Lib.hid hd
 have HM := Lib.hid ((newN_is (newN_own hc)).1)
 obtain ⟨R, hR⟩ : ∃ R, knockL c d s pd0 l = R := ⟨_, rfl⟩
 rw [hR]
 have HR := Lib.hid hR
 clear h hv hf hE hc hd bA kA bB kB hsA hne hK hR
 go_enter Tryz.func30, Tryz.ntmps30
 go_wp2_with fail
 try rw [hwA]
 go_loopw [13] (fun i wr => ∃ (j : Nat) (m' : LgM) (q' : Lq) (s' : Lg) (Q : Pd) (p1 p2 : Option Addr) (c1 c2 : Nat), i = .int .i64 j ∧ j ≤ l.length ∧ KnIn w0 w wr lb m m' c d q q' s' ra rb Q (.slice p1 Q.h.vs.length c1) (.slice p2 Q.a.length c2) ∧ knockL c d s' Q (l.drop j) = R ∧ (OwnV w (.slice p1 Q.h.vs.length c1) ∧ Q.a = [])) (fun i _ => l.length - (intOf i).toNat)
 case atStart => exact ⟨0, m, q, s, pd0, none, none, 0, 0, rfl, Nat.zero_le _, HK.out, HR.out, own_nil _, rfl⟩
 case round =>
  obtain ⟨j, m', q', s', Q, p1, p2, c1, c2, rfl, hj, hk, hR, hOQ⟩ := hrel
  have HOQ := Lib.hid hOQ
  clear hOQ
  by_cases hlt : j < l.length
  ·obtain ⟨b, o, rfl, a1, d1, a2, d2, hP, e0, e1, e2, e3, e4, e5⟩ := (HV.out.later hk.box.keep.off').cellsO hlt
   have hdrop : l.drop j = l[j] :: l.drop (j + 1) := List.drop_eq_getElem_cons hlt
   have hfit := Hf.out l[j] (List.getElem_mem hlt)
   rw [hdrop] at hR
   generalize hp : l[j] = p at *
   have hb1 := (Below.refl wr.heap.size wr).alloc (Nat.le_refl _) (.cells #[.int .i64 p.h.op, .bool p.h.now, .int .i64 p.h.fl, .slice a1 p.h.vs.length d1, .slice a2 p.a.length d2, .string (S p.d)] 41)
   have hk1 := Blk.new wr #[.int .i64 p.h.op, .bool p.h.now, .int .i64 p.h.fl, .slice a1 p.h.vs.length d1, .slice a2 p.a.length d2, .string (S p.d)] 41
   generalize hW1 : wr.alloc (.cells #[.int .i64 p.h.op, .bool p.h.now, .int .i64 p.h.fl, .slice a1 p.h.vs.length d1, .slice a2 p.a.length d2, .string (S p.d)] 41) = W1 at hb1 hk1
   have hK1 := hk.later hb1
   have hxv : ∀ x ∈ p.h.vs, x < 18446744073709551616 := by obtain ⟨_, _, _, hx, _⟩ := hP.v; exact hx
   have T := loginTake_own p _ _ hK1.box.log (hP.later (Keeps.of hb1 _).off') (HE.out.later (below_mask hK1.low (fun k hh => (hK1.box.log.ge k hh).1))) hfit HC.out HM.out hK1.ok HD.out
   obtain ⟨f1, f2⟩ := take_sim (d := d) (p := p) HC.out hK1.sim
   have hok2 := take_ok (d := d) (p := p) HC.out hxv hK1.ok
   obtain ⟨⟨⟨R1, n⟩, q2⟩, hT⟩ : ∃ r, takeQ c d q' p = r := ⟨_, rfl⟩
   rw [hT] at T f1 f2 hok2
   unfold RetLTakeO at T
   simp only at T f1 f2 hok2
   obtain ⟨⟨⟨R2, n2⟩, s2⟩, hTL⟩ : ∃ r, takeL c d s' p = r := ⟨_, rfl⟩
   rw [hTL] at f1 f2
   simp only at f2
   obtain ⟨rfl, rfl⟩ : R1 = R2 ∧ n = n2 := by simpa using f1
   have hR2 : (if n ≠ 0 then ((Q, false), s2) else knockL c d s2 R1 (l.drop (j + 1))) = R := by
    rw [← hR, knockL, hTL]
   unfold pduV at T
   have T := Lib.hid T
   have HK1 := Lib.hid hK1
   have HB1 := Lib.hid hk1
   have HR2 := Lib.hid hR2
   have HS2 := Lib.hid f2
   have HO2 := Lib.hid hok2
   obtain ⟨k0, k1, k2, k3, k4, k5⟩ := hk1.six
   clear hk hP hdrop hfit hp hb1 hk1 hK1 hxv f1 f2 hok2 hT hTL hR hR2
   go_wp2_with fail
   refine T.out.mono ?_
   rintro e w2 ⟨m2, vv2, va2, ev, rfl, hP2, herr, hL2, hK2, hsame, hown2, hna2, -⟩
   have HOWN2 := Lib.hid (show OwnV w vv2 ∧ R1.a = [] from ⟨fun k hk => Nat.le_trans HK1.out.box.keep.size (hown2 k hk), hna2⟩)
   clear hown2 hna2
   have hKn := HK1.out.step hL2 hK2 hsame HS2.out HO2.out
   obtain ⟨p3, c3, rfl⟩ : ∃ p c, vv2 = .slice p R1.h.vs.length c := by obtain ⟨p, c, h, _⟩ := hP2.v; exact ⟨p, c, h⟩
   obtain ⟨p4, c4, rfl⟩ := hP2.a.form
   have hb3 := (Below.refl w2.heap.size w2).alloc (Nat.le_refl _) (.cells #[.int .i64 R1.h.op, .bool R1.h.now, .int .i64 R1.h.fl, .slice p3 R1.h.vs.length c3, .slice p4 R1.a.length c4, .string (S R1.d)] 41)
   have hk3 := Blk.new w2 #[.int .i64 R1.h.op, .bool R1.h.now, .int .i64 R1.h.fl, .slice p3 R1.h.vs.length c3, .slice p4 R1.a.length c4, .string (S R1.d)] 41
   generalize hW3 : w2.alloc (.cells #[.int .i64 R1.h.op, .bool R1.h.now, .int .i64 R1.h.fl, .slice p3 R1.h.vs.length c3, .slice p4 R1.a.length c4, .string (S R1.d)] 41) = W3 at hb3 hk3
   have hKn3 := hKn.later hb3
   have hP3 := hP2.later (Keeps.of hb3 _).off'
   have hrbk := hKn3.box.rbk
   unfold cells6 at hrbk
   obtain ⟨r0, r1, r2, r3, r4, r5⟩ := hrbk.six
   have HKn3 := Lib.hid hKn3
   have HP3 := Lib.hid hP3
   clear k0 k1 k2 k3 k4 k5 hP2 hL2 hK2 hsame hKn hb3 hKn3 hP3 T HK1 HB1 HS2 HO2
   by_cases hn : n = 0
   ·subst hn
    obtain rfl := herr.zero
    have f0 := hrbk.frozen 0
    have f1 := hrbk.frozen 1
    have f2 := hrbk.frozen 2
    have f3 := hrbk.frozen 3
    have f4 := hrbk.frozen 4
    have f5 := hrbk.frozen 5
    obtain ⟨x0, x1, x2, x3, x4, x5⟩ := hk3.six
    have hr := HR2.out
    rw [if_neg (by simp)] at hr
    have HRR := Lib.hid hr
    clear hr hrbk hk3 herr
    go_wp2_with fail
    go_roundw
    case rel => exact ⟨j + 1, m2, q2, s2, R1, p3, p4, c3, c4, by go_num, by omega, HKn3.out.lay HP3.out, HRR.out, HOWN2.out⟩
    case measure => simp [intOf]; omega
   ·obtain ⟨te, xe, rfl⟩ := herr.iface hn
    have ho := HKn3.out.out
    have f0 := ho.frozen 0
    have f1 := ho.frozen 1
    have f2 := ho.frozen 2
    have f3 := ho.frozen 3
    have f4 := ho.frozen 4
    have f5 := ho.frozen 5
    obtain ⟨y0, y1, y2, y3, y4, y5⟩ := ho.six
    have hr := HR2.out
    rw [if_pos hn] at hr
    have HRR := Lib.hid hr
    obtain ⟨wz, hwz⟩ : ∃ wz, ((((((W3.setCell ⟨ra, 0, none⟩ (.int .i64 Q.h.op)).setCell ⟨ra, 1, none⟩ (.bool Q.h.now)).setCell ⟨ra, 2, none⟩ (.int .i64 Q.h.fl)).setCell ⟨ra, 3, none⟩ (.slice p1 Q.h.vs.length c1)).setCell ⟨ra, 4, none⟩ (.slice p2 Q.a.length c2)).setCell ⟨ra, 5, none⟩ (.string (S Q.d))) = wz := ⟨_, rfl⟩
    have hbz := (six_stored (.int .i64 Q.h.op) (.bool Q.h.now) (.int .i64 Q.h.fl) (.slice p1 Q.h.vs.length c1) (.slice p2 Q.a.length c2) (.string (S Q.d)) ho (Nat.zero_le _) (Below.refl 0 W3)).1
    have hback := HKn3.out.back HOQ.out false HRR.out.symm
    rw [hwz] at hbz hback
    obtain ⟨z0, z1, z2, z3, z4, z5⟩ := hbz.six
    have Hback := Lib.hid hback
    clear hr hrbk hk3 herr hn ho hbz hback
    go_wp2_with fail
    refine bodyPost_ret (v := .tuple #[.agg #[.int .i64 Q.h.op, .bool Q.h.now, .int .i64 Q.h.fl, .slice p1 Q.h.vs.length c1, .slice p2 Q.a.length c2, .string (S Q.d)], .bool false]) (by simp [results, Tryz.results30, go_sem, z0, z1, z2, z3, z4, z5]) rfl ?_
    exact Hback.out
  ·obtain rfl : j = l.length := by omega
   have hr := hR
   rw [List.drop_length] at hr
   have hr2 : R = ((Q, true), s') := hr.symm
   have ho := hk.out
   have hrbk := hk.box.rbk
   unfold cells6 at hrbk
   obtain ⟨r0, r1, r2, r3, r4, r5⟩ := hrbk.six
   have f0 := ho.frozen 0
   have f1 := ho.frozen 1
   have f2 := ho.frozen 2
   have f3 := ho.frozen 3
   have f4 := ho.frozen 4
   have f5 := ho.frozen 5
   obtain ⟨y0, y1, y2, y3, y4, y5⟩ := ho.six
   obtain ⟨wz, hwz⟩ : ∃ wz, ((((((wr.setCell ⟨ra, 0, none⟩ (.int .i64 Q.h.op)).setCell ⟨ra, 1, none⟩ (.bool Q.h.now)).setCell ⟨ra, 2, none⟩ (.int .i64 Q.h.fl)).setCell ⟨ra, 3, none⟩ (.slice p1 Q.h.vs.length c1)).setCell ⟨ra, 4, none⟩ (.slice p2 Q.a.length c2)).setCell ⟨ra, 5, none⟩ (.string (S Q.d))) = wz := ⟨_, rfl⟩
   have hbz := (six_stored (.int .i64 Q.h.op) (.bool Q.h.now) (.int .i64 Q.h.fl) (.slice p1 Q.h.vs.length c1) (.slice p2 Q.a.length c2) (.string (S Q.d)) ho (Nat.zero_le _) (Below.refl 0 wr)).1
   have hback := hk.back HOQ.out true hr2
   rw [hwz] at hbz hback
   obtain ⟨z0, z1, z2, z3, z4, z5⟩ := hbz.six
   have Hback := Lib.hid hback
   clear hr hr2 hR hrbk hk ho hbz hback
   go_wp2_with fail
   refine bodyPost_ret (v := .tuple #[.agg #[.int .i64 Q.h.op, .bool Q.h.now, .int .i64 Q.h.fl, .slice p1 Q.h.vs.length c1, .slice p2 Q.a.length c2, .string (S Q.d)], .bool true]) (by simp [results, Tryz.results30, go_sem, z0, z1, z2, z3, z4, z5]) rfl ?_
   exact Hback.out
theorem knock_any (l : List Pd) (v : Value) (h : LS w0 w lb m c d q s) (hv : PdusV (offW (m.H lb) w) v l) (hf : ∀ p ∈ l, FitP p) (hl : l.length ≤ 140737488355328) (hE : EnvL w0) (hc : CfOk c) (hd : 0 ≤ d.id ∧ d.id ≤ 255 ∧ d.ch.length ≤ 100) :
  Calls Tryz.prog 30 #[.pointer (some ⟨lb, 0, none⟩), v] w (RetKnock w0 w lb m c d (knockL c d s pd0 l)) := by
 refine (knock_same l v h hv hf hl hE hc hd).mono ?_
 rintro e w' ⟨m', q', vv, va, he, hp, hl, hk, -⟩
 exact ⟨m', q', vv, va, he, hp, hl, hk⟩
end
end Go.Proofs.YtjbbbpgcegcbaaaGreatDoor
