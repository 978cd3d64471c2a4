/- LoginHeads: for every input the law's function returns true, and what came in reads as it did. -/
import Derived.Carry
import Derived.ChangeOld
import Derived.Deep.DeepHandedRow
import Derived.Deep.DeepWitnessRowRef
import Derived.Lib.LaidU8
import Derived.OpenShut
import Derived.ProofKit
import Derived.SevenTiedAt
import Derived.ShapedOpen
import Derived.ShutString
import Derived.SizedLaws
import Derived.Test.YtmkebjdmkkjloaaGreatDoorCards
import Derived.Test.YtmkebjdmkkjloaaGreatDoorTie
import GoSem.PinnedTables
import Derived.Test.YtmkebjdmkkjloaaGreatDoorLP35
import Derived.Test.YtmkebjdmkkjloaaGreatDoorLP36
namespace Go.Proofs.YtmkebjdmkkjloaaGreatDoor
open Go Go.RowKit
set_option linter.unusedVariables false
def headsNames : List (List UInt8) := [[86, 101, 114, 115, 105, 111, 110, 77, 105, 110], [84, 83, 73, 72]]
theorem fill_heads (v t : Nat) : fill kd3.fs headsNames [v, t] (List.replicate kd3.fs.length 0) = ([0, v, 0, t, 0, 0, 0, 0], 0) := by
  unfold kd3 headsNames
  simp [fill, idxName]
theorem flOk_nat {n : Nat} (h : n &&& 207 = n) : flOk (n : Int) 207 = true := by
  unfold flOk
  simp [h]
theorem heads_ways {fl v t : Nat} (hfl : fl ≤ 207) {cs ns : Int} (hc : (fl : Int) / 4 % 4 = cs) (hn : (fl : Int) % 4 = ns) :
    (0 < v ∧ wantH fl v t = 5) ∨ (v = 0 ∧ 0 < t ∧ wantH fl v t = 10) ∨ (v = 0 ∧ t = 0 ∧ (128 ≤ fl ∧ 64 ≤ fl % 128) ∧ wantH fl v t = 0) ∨
    (v = 0 ∧ t = 0 ∧ ¬ (128 ≤ fl ∧ 64 ≤ fl % 128) ∧ ((1 < cs ∧ wantH fl v t = 11) ∨ (cs ≤ 1 ∧ 128 ≤ fl ∧ ns ≤ cs ∧ wantH fl v t = 11) ∨ (cs ≤ 1 ∧ 128 ≤ fl ∧ cs < ns ∧ ns = 2 ∧ wantH fl v t = 11) ∨ (cs ≤ 1 ∧ fl < 128 ∧ wantH fl v t = -1) ∨ (cs ≤ 1 ∧ 128 ≤ fl ∧ cs < ns ∧ ns ≠ 2 ∧ wantH fl v t = -1))) := by
  unfold wantH
  rw [hc, hn]
  by_cases h1 : 0 < v
  · exact .inl ⟨h1, if_pos h1⟩
  right
  have hv : v = 0 := by omega
  rw [if_neg h1]
  by_cases h2 : 0 < t
  · exact .inl ⟨hv, h2, if_pos h2⟩
  right
  have ht : t = 0 := by omega
  rw [if_neg h2]
  by_cases h3 : 128 ≤ fl ∧ 64 ≤ fl % 128
  · exact .inl ⟨hv, ht, h3, if_pos (by omega)⟩
  right
  refine ⟨hv, ht, h3, ?_⟩
  rw [if_neg (by omega)]
  by_cases h4 : 1 < cs
  · exact .inl ⟨h4, if_pos (.inl h4)⟩
  right
  by_cases h5 : 128 ≤ fl
  · by_cases h6 : ns ≤ cs
    · exact .inl ⟨by omega, h5, h6, if_pos (.inr ⟨by omega, .inl h6⟩)⟩
    right
    by_cases h7 : ns = 2
    · exact .inl ⟨by omega, h5, by omega, h7, if_pos (.inr ⟨by omega, .inr h7⟩)⟩
    right
    exact .inr ⟨by omega, h5, by omega, h7, if_neg (by omega)⟩
  · exact .inr (.inr (.inl ⟨by omega, by omega, if_neg (by omega)⟩))
set_option maxRecDepth 100000 in
set_option maxHeartbeats 8000000 in
theorem loginHeads_any (a b f : Int) (w : World) (wa : (Lit.int .u64 a).wf = true) (wb : (Lit.int .u64 b).wf = true) (wf : (Lit.int .i64 f).wf = true) (hE : EnvL w) :
    Calls Tryz.prog 6 #[.int .u64 a, .int .u64 b, .int .i64 f] w fun e w' => e = .returned (.bool true) ∧ Below w.heap.size w w' := by
  obtain ⟨na, rfl, hna⟩ := wf_u64 wa
  obtain ⟨nb, rfl, hnb⟩ := wf_u64 wb
  obtain ⟨fl, hfl, hand, hF⟩ := i64_and_207 f
  have hA : bits .and .u64 (na : Int) 255 = ((na % 2 ^ 8 : Nat) : Int) := u64_mask na 8 255 (by omega) (by decide) (by decide)
  have hB : bits .and .u64 (nb : Int) 65535 = ((nb % 2 ^ 16 : Nat) : Int) := u64_mask nb 16 65535 (by omega) (by decide) (by decide)
  obtain ⟨v, hv⟩ : ∃ v, na % 2 ^ 8 = v := ⟨_, rfl⟩
  obtain ⟨t, ht⟩ : ∃ t, nb % 2 ^ 16 = t := ⟨_, rfl⟩
  have hv2 : v < 256 := by rw [← hv]; exact Nat.mod_lt _ (by decide)
  have ht2 : t < 65536 := by rw [← ht]; exact Nat.mod_lt _ (by decide)
  rw [hv] at hA
  rw [ht] at hB
  obtain ⟨f1, f2, f3, f4⟩ := fl_207 ⟨fl, by omega⟩
  simp only at f1 f2 f3 f4
  have hok : flOk (fl : Int) 207 = true := flOk_nat hand
  have EN := Lib.hid (entered_any w hE)
  have HE := Lib.hid hE
  have HOK := Lib.hid hok
  have HV2 := Lib.hid hv2
  have HT2 := Lib.hid ht2
  have g1 : bits .and .i64 (fl : Int) 192 = ((fl &&& 192 : Nat) : Int) := i64_and_nat fl 192 (by omega) (by decide)
  have g2 : bits .and .i64 (fl : Int) 128 = ((fl &&& 128 : Nat) : Int) := i64_and_nat fl 128 (by omega) (by decide)
  have g3 : bits .and .i64 (fl : Int) 3 = ((fl &&& 3 : Nat) : Int) := i64_and_nat fl 3 (by omega) (by decide)
  have g4 : bits .and .i64 ((fl / 4 : Nat) : Int) 3 = ((fl / 4 &&& 3 : Nat) : Int) := i64_and_nat (fl / 4) 3 (by omega) (by decide)
  have F1 := Lib.hid f1
  have F2 := Lib.hid f2
  have F3 := Lib.hid f3
  have F4 := Lib.hid f4
  have G1 := Lib.hid g1
  have G2 := Lib.hid g2
  have G3 := Lib.hid g3
  have G4 := Lib.hid g4
  clear hE hok hv ht hv2 ht2 f1 f2 f3 f4 g1 g2 g3 g4 wa wb wf hna hnb
  go_enter Tryz.func6, Tryz.ntmps6
  go_wp2_with fail
  refine EN.out.mono ?_
  rintro e w1 ⟨rfl, hb1⟩
  have Hb1 := Lib.hid hb1
  obtain ⟨w2, hw2⟩ : ∃ w2, w1.alloc (.cells #[.string (S [86, 101, 114, 115, 105, 111, 110, 77, 105, 110]), .string (S [84, 83, 73, 72])] 9) = w2 := ⟨_, rfl⟩
  have b2 : Below w1.heap.size w1 w2 := by rw [← hw2]; exact (Below.refl _ _).alloc (Nat.le_refl _) _
  have k2 : Blk w2 w1.heap.size #[.string (S [86, 101, 114, 115, 105, 111, 110, 77, 105, 110]), .string (S [84, 83, 73, 72])] 9 := by rw [← hw2]; exact Blk.new w1 _ _
  obtain ⟨w3, hw3⟩ : ∃ w3, w2.alloc (.cells #[.int .u64 v, .int .u64 t] 49) = w3 := ⟨_, rfl⟩
  have b3 : Below w2.heap.size w2 w3 := by rw [← hw3]; exact (Below.refl _ _).alloc (Nat.le_refl _) _
  have k3 : Blk w3 w2.heap.size #[.int .u64 v, .int .u64 t] 49 := by rw [← hw3]; exact Blk.new w2 _ _
  have hN : StrV w3 (.slice (some ⟨w1.heap.size, 0, none⟩) 2 2) headsNames := strs_row (l := headsNames) (k2.later b3)
  have hVs : Vals w3 (.slice (some ⟨w2.heap.size, 0, none⟩) 2 2) [v, t] := vals_row (l := [v, t]) k3 (fun x hx => by
    have := HV2.out
    have := HT2.out
    rcases List.mem_cons.1 hx with rfl | hx
    · omega
    · rcases List.mem_cons.1 hx with rfl | hx
      · omega
      · exact absurd hx List.not_mem_nil)
  have hb13 := below_then (below_then hb1 b2) b3
  have MK := makeO_any 3 (fl : Int) headsNames [v, t] _ _ w3 (by unfold I64; omega) (HE.out.later hb13).env.mc hN hVs (by decide) (by simp)
  rw [make_req (b := v) (i := 0) (t := t) (k := 0) (c := 0) (m := 0) HOK.out HV2.out (by decide) HT2.out (by decide) (by decide) (by decide) (fill_heads v t)] at MK
  obtain ⟨sb, hsb⟩ : ∃ sb, w1.heap.size = sb := ⟨_, rfl⟩
  obtain ⟨vb, hvb⟩ : ∃ vb, w2.heap.size = vb := ⟨_, rfl⟩
  rw [hsb, hvb] at MK
  unfold RetHeadO headV at MK
  simp only [reqH] at MK
  replace MK := Lib.hid MK
  have Hb3 := Lib.hid hb13
  clear hb1 b2 k2 b3 k3 hN hVs hb13 EN Hb1
  go_wp2_with fail
  try simp only [hw2, hw3]
  clear hw2 hw3
  refine MK.out.mono ?_
  rintro e w4 ⟨vh, ev, rfl, ⟨hvh, hown⟩, herr, hb4⟩
  obtain rfl := herr.zero
  obtain ⟨ph, ch, rfl⟩ : ∃ p c, vh = .slice p 8 c := by obtain ⟨p, c, h, _⟩ := hvh; exact ⟨p, c, h⟩
  obtain ⟨w5, hw5⟩ : ∃ w5, w4.alloc (.cells #[.int .i64 3, .bool false, .int .i64 fl, .slice ph 8 ch] 38) = w5 := ⟨_, rfl⟩
  have b5 : Below w4.heap.size w4 w5 := by rw [← hw5]; exact (Below.refl _ _).alloc (Nat.le_refl _) _
  have k5 : Blk w5 w4.heap.size #[.int .i64 3, .bool false, .int .i64 fl, .slice ph 8 ch] 38 := by rw [← hw5]; exact Blk.new w4 _ _
  obtain ⟨hb, hhb⟩ : ∃ hb, w4.heap.size = hb := ⟨_, rfl⟩
  rw [hhb] at k5
  have HK5 := Lib.hid k5
  have HVH := Lib.hid (hvh.later b5)
  have Hb5 := Lib.hid (below_then Hb3.out (below_then hb4 b5))
  have Q1 := Lib.hid (pair_any [73, 110, 105, 116, 105, 97, 116, 111, 114, 78, 97, 109, 101] [109, 101] w5)
  clear hvh hown herr hb4 b5 k5 MK
  go_wp2_with fail
  clear hw5
  refine Q1.out.mono ?_
  rintro e w6 ⟨rfl, hb6⟩
  have Q2 := Lib.hid (pair_any [83, 101, 115, 115, 105, 111, 110, 84, 121, 112, 101] [68, 105, 115, 99, 111, 118, 101, 114, 121] w6)
  have Hb6 := Lib.hid hb6
  clear hb6 Q1
  go_wp2_with fail
  refine Q2.out.mono ?_
  rintro e w7 ⟨rfl, hb7⟩
  obtain ⟨w8, hw8⟩ : ∃ w8, w7.alloc (.cells #[.string (S [73, 110, 105, 116, 105, 97, 116, 111, 114, 78, 97, 109, 101]), .string (S [109, 101]), .string (S [83, 101, 115, 115, 105, 111, 110, 84, 121, 112, 101]), .string (S [68, 105, 115, 99, 111, 118, 101, 114, 121])] 61) = w8 := ⟨_, rfl⟩
  have hp8 : PrsV w8 (.slice (some ⟨w7.heap.size, 0, none⟩) 2 2) hello := by rw [← hw8]; exact prs_new w7 hello _
  have b8 : Below w7.heap.size w7 w8 := by rw [← hw8]; exact (Below.refl _ _).alloc (Nat.le_refl _) _
  have PR := print_prs hello _ w8 hp8 ⟨by decide, by decide⟩
  obtain ⟨X, hX⟩ : ∃ X, prBytes hello = X := ⟨_, rfl⟩
  rw [show prPrint hello = (X, 0, -1) by rw [← hX]; unfold prPrint; rw [prRight_ok ok_hello (by decide)]; rfl] at PR
  obtain ⟨pr, hpr⟩ : ∃ pr, w7.heap.size = pr := ⟨_, rfl⟩
  rw [hpr] at PR
  unfold RetSE at PR
  replace PR := Lib.hid PR
  have HX := Lib.hid hX
  have Hb8 := Lib.hid (below_then Hb6.out (below_then hb7 b8))
  clear hb7 hp8 b8 Q2 hX Hb6
  go_wp2_with fail
  clear hw8
  refine PR.out.mono ?_
  rintro e w9 ⟨ev, rfl, herr, hb9⟩
  obtain rfl := herr.zero
  have Hb9 := Lib.hid (below_then Hb8.out hb9)
  have C := conf_any w9
  unfold confV at C
  replace C := Lib.hid C
  clear herr hb9 PR Hb8
  go_wp2_with fail
  refine C.out.mono ?_
  rintro e w10 ⟨vt, vp, rfl, hvc, hb10⟩
  have D := Lib.hid (draw_any w10)
  have HVC := Lib.hid hvc
  have Hb10 := Lib.hid (below_then Hb9.out hb10)
  clear hvc hb10 C Hb9
  go_wp2_with fail
  refine D.out.mono ?_
  rintro e w11 ⟨rfl, hb11⟩
  have Hb11 := Lib.hid (below_then Hb10.out hb11)
  have HE11 := Lib.hid (HE.out.later (below_then Hb5.out Hb11.out))
  have N := new_ls conf0 dw0 vt vp _ _ w11 (HVC.out.later hb11) conf0_fit HE11.out new_conf0
  unfold confV at N
  replace N := Lib.hid N
  have HVH11 := Lib.hid (HVH.out.later Hb11.out)
  have HK11 := Lib.hid (HK5.out.later Hb11.out)
  clear hb11 D Hb10 HVC HVH HK5
  go_wp2_with fail
  refine N.out.mono ?_
  rintro e w12 ⟨lb, m, rfl, hL, -⟩
  obtain ⟨k0, k1, k2, k3⟩ := (HK11.out.later hL.low).four
  obtain ⟨P, hP⟩ : ∃ P : Pd, (⟨reqH fl 0 v 0 t 0 0 0 0, [], X⟩ : Pd) = P := ⟨_, rfl⟩
  have hpd : PduAt (offW (m.H lb) w12) P (.slice ph 8 ch) (.slice none 0 0) := by rw [← hP]; exact ⟨HVH11.out.later hL.mask, AhsV.nil _⟩
  have hn12 : ¬ m.H lb w12.heap.size := fun hh => by have := hL.fresh _ hh; omega
  have hone := pdus_one (t := 41) hpd hn12
  rw [show (.cells #[.int .i64 P.h.op, .bool P.h.now, .int .i64 P.h.fl, .slice ph 8 ch, .slice none 0 0, .string (S P.d)] 41 : Obj) = .cells #[.int .i64 3, .bool false, .int .i64 fl, .slice ph 8 ch, .slice none 0 0, .string (S X)] 41 by rw [← hP]; rfl] at hone
  obtain ⟨w13, hw13⟩ : ∃ w13, w12.alloc (.cells #[.int .i64 3, .bool false, .int .i64 fl, .slice ph 8 ch, .slice none 0 0, .string (S X)] 41) = w13 := ⟨_, rfl⟩
  rw [hw13] at hone
  have b13 : Below w12.heap.size w12 w13 := by rw [← hw13]; exact (Below.refl _ _).alloc (Nat.le_refl _) _
  obtain ⟨T, hW⟩ := heads_plain HOK.out HV2.out HT2.out
  rw [HX.out, hP] at T hW
  have hfit : ∀ p ∈ [P], FitP p := fun p hp => by
    rw [List.mem_singleton.1 hp, ← hP]
    exact ⟨by show I64 (fl : Int); unfold I64; omega, by show 8 ≤ _; decide, ⟨Nat.zero_le _, fun _ h => absurd h List.not_mem_nil⟩, by show X.length ≤ _; rw [← HX.out, bytes_hello]; decide⟩
  have KN := knock_any [P] _ (hL.later b13) hone hfit (by simp) HE11.out conf0_ok dw0_ok
  rw [knock_one T.err] at KN
  obtain ⟨qb, hqb⟩ : ∃ qb, w12.heap.size = qb := ⟨_, rfl⟩
  rw [hqb] at KN
  have hst := T.stat
  rw [hW] at hst
  obtain ⟨⟨⟨A, n⟩, s1⟩, hT⟩ : ∃ r, takeL conf0 dw0 (lg0 conf0) P = r := ⟨_, rfl⟩
  rw [hT] at hst KN
  have hlen := T.len
  rw [hT] at hlen
  unfold RetKnock pduV at KN
  simp only at hst KN hlen
  obtain ⟨fx, hfx⟩ : ∃ fx, (asksL conf0 dw0 P (lg0 conf0)).1.1 = fx := ⟨_, rfl⟩
  obtain ⟨cx, hcx⟩ : ∃ cx, 4 * csgI P.h = cx := ⟨_, rfl⟩
  rw [hfx, hcx] at hst
  replace KN := Lib.hid KN
  have HST := Lib.hid hst
  have HLEN := Lib.hid hlen
  have HL12 := Lib.hid hL.low
  clear hL hP hpd hn12 hone b13 T hW hfit hst hT hfx hcx N hlen
  obtain ⟨cs, hcs⟩ : ∃ cs, (fl : Int) / 4 % 4 = cs := ⟨_, rfl⟩
  obtain ⟨ns, hns⟩ : ∃ ns, (fl : Int) % 4 = ns := ⟨_, rfl⟩
  have e3 : bits .and .i64 (fl : Int) 3 = ns := by rw [G3.out, F3.out, ← hns]; omega
  have e4 : bits .and .i64 ((fl : Int) / 4) 3 = cs := by
    have := G4.out
    rw [F4.out] at this
    rw [show (fl : Int) / 4 = ((fl / 4 : Nat) : Int) by omega, this, ← hcs]
    omega
  have WAYS := heads_ways (v := v) (t := t) hfl hcs hns
  replace WAYS := Lib.hid WAYS
  clear hcs hns hA hB hF HE HOK HV2 HT2 F3 F4 G3 G4 hand
  go_wp2_with fail
  clear hw13 k0 k1 k2 k3
  refine KN.out.mono ?_
  rintro e w14 ⟨m2, q2, vv, va, rfl, hPA, hLS, hKK⟩
  obtain ⟨p3, c3, rfl⟩ : ∃ p c, vv = .slice p A.h.vs.length c := by obtain ⟨p, c, h, _⟩ := hPA.v; exact ⟨p, c, h⟩
  obtain ⟨p4, c4, rfl⟩ := hPA.a.form
  obtain ⟨w15, hw15⟩ : ∃ w15, w14.alloc (.cells #[.int .i64 A.h.op, .bool A.h.now, .int .i64 A.h.fl, .slice p3 A.h.vs.length c3, .slice p4 A.a.length c4, .string (S A.d)] 41) = w15 := ⟨_, rfl⟩
  have b15 : Below w14.heap.size w14 w15 := by rw [← hw15]; exact (Below.refl _ _).alloc (Nat.le_refl _) _
  have k15 : Blk w15 w14.heap.size #[.int .i64 A.h.op, .bool A.h.now, .int .i64 A.h.fl, .slice p3 A.h.vs.length c3, .slice p4 A.a.length c4, .string (S A.d)] 41 := by rw [← hw15]; exact Blk.new w14 _ _
  have hlow := below_then hLS.low b15
  have ST := status_any A _ _ w15 (hPA.off.later b15) (HE11.out.later hlow).env.mc (by rw [HLEN.out]; decide)
  unfold pduV at ST
  replace ST := Lib.hid ST
  have HB15 := Lib.hid (below_then (below_then Hb5.out Hb11.out) hlow)
  obtain ⟨k0, k1, k2, k3, k4, k5⟩ := k15.six
  clear hPA hLS hKK b15 k15 hlow KN Hb5 Hb11 HE11 HLEN HX HL12
  go_wp2_with fail
  clear hw15 k0 k1 k2 k3 k4 k5
  rcases WAYS.out with ⟨hv, hW⟩ | ⟨rfl, ht, hW⟩ | ⟨rfl, rfl, hf, hW⟩ | ⟨rfl, rfl, hf, (⟨hc, hW⟩ | ⟨hc, h8, hn, hW⟩ | ⟨hc, h8, hn, rfl, hW⟩ | ⟨hc, h8, hW⟩ | ⟨hc, h8, hn, h2, hW⟩)⟩
  case inl =>
    have hst : statR A = (cx, 2, 5) := by rw [HST.out, hW]; rfl
    have hv2 : (0 : Int) < (v : Int) := by omega
    have ST2 := ST.out
    rw [hst] at ST2
    replace ST2 := Lib.hid ST2
    clear hst hW WAYS HST G1 G2 F1 F2 ST
    refine ST2.out.mono ?_
    rintro e w16 ⟨rfl, hb16⟩
    have HB16 := Lib.hid (below_then HB15.out hb16)
    clear hb16 ST2
    go_wp2_with fail
    go_ret
    exact ⟨rfl, HB16.out⟩
  case inr.inl =>
    have hst : statR A = (cx, 2, 10) := by rw [HST.out, hW]; rfl
    have ht2 : (0 : Int) < (t : Int) := by omega
    have ST2 := ST.out
    rw [hst] at ST2
    replace ST2 := Lib.hid ST2
    clear hst hW WAYS HST G1 G2 F1 F2 ST
    refine ST2.out.mono ?_
    rintro e w16 ⟨rfl, hb16⟩
    have HB16 := Lib.hid (below_then HB15.out hb16)
    clear hb16 ST2
    go_wp2_with fail
    go_ret
    exact ⟨rfl, HB16.out⟩
  case inr.inr.inl =>
    have hst : statR A = (cx, 2, 0) := by rw [HST.out, hW]; rfl
    have e1 : bits .and .i64 (fl : Int) 192 = 192 := by rw [G1.out, F1.out.2 hf]; rfl
    have ST2 := ST.out
    rw [hst] at ST2
    replace ST2 := Lib.hid ST2
    clear hst hW WAYS HST G1 G2 F1 F2 ST
    refine ST2.out.mono ?_
    rintro e w16 ⟨rfl, hb16⟩
    have HB16 := Lib.hid (below_then HB15.out hb16)
    clear hb16 ST2
    go_wp2_with fail
    go_ret
    exact ⟨rfl, HB16.out⟩
  case inr.inr.inr.inl =>
    have hst : statR A = (cx, 2, 11) := by rw [HST.out, hW]; rfl
    have e1 : (bits .and .i64 (fl : Int) 192 == 192) = false := by rw [G1.out]; simp; intro h; exact hf (F1.out.1 (by omega))
    have ST2 := ST.out
    rw [hst] at ST2
    replace ST2 := Lib.hid ST2
    clear hst hW WAYS HST G1 G2 F1 F2 ST
    refine ST2.out.mono ?_
    rintro e w16 ⟨rfl, hb16⟩
    have HB16 := Lib.hid (below_then HB15.out hb16)
    clear hb16 ST2
    go_wp2_with fail
    go_ret
    exact ⟨rfl, HB16.out⟩
  case inr.inr.inr.inr.inl =>
    have hst : statR A = (cx, 2, 11) := by rw [HST.out, hW]; rfl
    have e1 : (bits .and .i64 (fl : Int) 192 == 192) = false := by rw [G1.out]; simp; intro h; exact hf (F1.out.1 (by omega))
    have e2 : bits .and .i64 (fl : Int) 128 = 128 := by rw [G2.out, F2.out]; omega
    have ST2 := ST.out
    rw [hst] at ST2
    replace ST2 := Lib.hid ST2
    clear hst hW WAYS HST G1 G2 F1 F2 ST
    refine ST2.out.mono ?_
    rintro e w16 ⟨rfl, hb16⟩
    have HB16 := Lib.hid (below_then HB15.out hb16)
    clear hb16 ST2
    go_wp2_with fail
    go_ret
    exact ⟨rfl, HB16.out⟩
  case inr.inr.inr.inr.inr.inl =>
    have hst : statR A = (cx, 2, 11) := by rw [HST.out, hW]; rfl
    have e1 : (bits .and .i64 (fl : Int) 192 == 192) = false := by rw [G1.out]; simp; intro h; exact hf (F1.out.1 (by omega))
    have e2 : bits .and .i64 (fl : Int) 128 = 128 := by rw [G2.out, F2.out]; omega
    have ST2 := ST.out
    rw [hst] at ST2
    replace ST2 := Lib.hid ST2
    clear hst hW WAYS HST G1 G2 F1 F2 ST
    refine ST2.out.mono ?_
    rintro e w16 ⟨rfl, hb16⟩
    have HB16 := Lib.hid (below_then HB15.out hb16)
    clear hb16 ST2
    go_wp2_with fail
    go_ret
    exact ⟨rfl, HB16.out⟩
  case inr.inr.inr.inr.inr.inr.inl =>
    have hst : statR A = (fx, 0, 0) := by rw [HST.out, hW]; rfl
    have e1 : (bits .and .i64 (fl : Int) 192 == 192) = false := by rw [G1.out]; simp; intro h; exact hf (F1.out.1 (by omega))
    have e2 : bits .and .i64 (fl : Int) 128 = 0 := by rw [G2.out, F2.out]; omega
    have ST2 := ST.out
    rw [hst] at ST2
    replace ST2 := Lib.hid ST2
    clear hst hW WAYS HST G1 G2 F1 F2 ST
    refine ST2.out.mono ?_
    rintro e w16 ⟨rfl, hb16⟩
    have HB16 := Lib.hid (below_then HB15.out hb16)
    clear hb16 ST2
    go_wp2_with fail
    go_ret
    exact ⟨rfl, HB16.out⟩
  case inr.inr.inr.inr.inr.inr.inr =>
    have hst : statR A = (fx, 0, 0) := by rw [HST.out, hW]; rfl
    have e1 : (bits .and .i64 (fl : Int) 192 == 192) = false := by rw [G1.out]; simp; intro h; exact hf (F1.out.1 (by omega))
    have e2 : bits .and .i64 (fl : Int) 128 = 128 := by rw [G2.out, F2.out]; omega
    have h22 : (ns == 2) = false := by simpa using h2
    have ST2 := ST.out
    rw [hst] at ST2
    replace ST2 := Lib.hid ST2
    clear hst hW WAYS HST G1 G2 F1 F2 ST
    refine ST2.out.mono ?_
    rintro e w16 ⟨rfl, hb16⟩
    have HB16 := Lib.hid (below_then HB15.out hb16)
    clear hb16 ST2
    go_wp2_with fail
    go_ret
    exact ⟨rfl, HB16.out⟩
end Go.Proofs.YtmkebjdmkkjloaaGreatDoor
namespace Go.Proofs.YtmkebjdmkkjloaaGreatDoor
open Go.RowKit
def laidLoginHeads : List (String × DataW Unit) := [("math/bits.deBruijn32tab", Rows.laid_math_bits_deBruijn32tab), ("math/bits.deBruijn64tab", Rows.laid_math_bits_deBruijn64tab), ("internal/strconv.uint64pow10", Rows.laid_internal_strconv_uint64pow10), ("unicode/utf8.acceptRanges", Rows.laid_unicode_utf8_acceptRanges), ("errors.errorType", Rows.laid_errors_errorType), ("strconv.ErrRange", Rows.laid_strconv_ErrRange), ("strconv.ErrSyntax", Rows.laid_strconv_ErrSyntax), ("quaymaster/md5.numbers", Rows.laid_quaymaster_md5_numbers), ("quaymaster/md5.turns", Rows.laid_quaymaster_md5_turns), ("unicode/utf8.first", Rows.laid_unicode_utf8_first)]
def plainLoginHeads : List (String × DataW Unit) := [("math/bits.deBruijn32tab", Rows.laid_math_bits_deBruijn32tab), ("math/bits.deBruijn64tab", Rows.laid_math_bits_deBruijn64tab), ("internal/strconv.uint64pow10", Rows.laid_internal_strconv_uint64pow10), ("unicode/utf8.acceptRanges", Rows.laid_unicode_utf8_acceptRanges), ("strconv.ErrRange", Rows.laid_strconv_ErrRange), ("strconv.ErrSyntax", Rows.laid_strconv_ErrSyntax), ("quaymaster/md5.numbers", Rows.laid_quaymaster_md5_numbers), ("quaymaster/md5.turns", Rows.laid_quaymaster_md5_turns), ("unicode/utf8.first", Rows.laid_unicode_utf8_first)]
noncomputable def laidWorldLoginHeads (os : Os) : World := (laidWorld os).layVars Tryz.prog plainLoginHeads
set_option maxRecDepth 100000 in
theorem laidWorldLoginHeads_plain (os : Os) (args : Array Value) : laidMet Tryz.prog plainLoginHeads ((laidWorldLoginHeads os).forCall (fun _ _ => 0) ⟨#[], args, []⟩).memory := laidMet_lay (w0 := (laidWorld os)) args (by kernel_rfl) (by kernel_rfl)
set_option maxRecDepth 100000 in
theorem laidWorldLoginHeads_met (os : Os) (args : Array Value) : laidMetH Tryz.prog laidLoginHeads ((laidWorldLoginHeads os).forCall (fun _ _ => 0) ⟨#[], args, []⟩).memory :=
  laidMetH_of_parts (laidWorldLoginHeads_plain os args) (by kernel_rfl)
theorem laidWorldLoginHeads_os (os : Os) : (laidWorldLoginHeads os).os = os := World.layVars_os _ _ _
theorem partsLoginHeads {W : World} (h : laidMetH Tryz.prog laidLoginHeads W) : laidMet Tryz.prog [("math/bits.deBruijn32tab", Rows.laid_math_bits_deBruijn32tab), ("math/bits.deBruijn64tab", Rows.laid_math_bits_deBruijn64tab), ("internal/strconv.uint64pow10", Rows.laid_internal_strconv_uint64pow10), ("unicode/utf8.acceptRanges", Rows.laid_unicode_utf8_acceptRanges), ("strconv.ErrRange", Rows.laid_strconv_ErrRange), ("strconv.ErrSyntax", Rows.laid_strconv_ErrSyntax), ("quaymaster/md5.numbers", Rows.laid_quaymaster_md5_numbers), ("quaymaster/md5.turns", Rows.laid_quaymaster_md5_turns), ("unicode/utf8.first", Rows.laid_unicode_utf8_first)] W ∧ handlesMet Tryz.prog [("errors.errorType", Rows.laid_errors_errorType)] W := h
theorem errCell_LoginHeads {W : World} (h : laidMetH Tryz.prog laidLoginHeads W) : ErrCell W := errCell_of_handles (partsLoginHeads h).2 (List.mem_singleton.2 rfl)
theorem readsLoginHeads {W : World} (h : laidMetH Tryz.prog laidLoginHeads W) {n : String} {d : DataW Unit} (hm : (n, d) ∈ ([("math/bits.deBruijn32tab", Rows.laid_math_bits_deBruijn32tab), ("math/bits.deBruijn64tab", Rows.laid_math_bits_deBruijn64tab), ("internal/strconv.uint64pow10", Rows.laid_internal_strconv_uint64pow10), ("unicode/utf8.acceptRanges", Rows.laid_unicode_utf8_acceptRanges), ("strconv.ErrRange", Rows.laid_strconv_ErrRange), ("strconv.ErrSyntax", Rows.laid_strconv_ErrSyntax), ("quaymaster/md5.numbers", Rows.laid_quaymaster_md5_numbers), ("quaymaster/md5.turns", Rows.laid_quaymaster_md5_turns), ("unicode/utf8.first", Rows.laid_unicode_utf8_first)] : List (String × DataW Unit))) : Go.Lib.VarReads Tryz.prog W n d := Go.Lib.laidMet.reads (partsLoginHeads h).1 hm
theorem tabsLoginHeads {W : World} (h : laidMetH Tryz.prog laidLoginHeads W) : MdTabs W := mdTabs_of_reads (readsLoginHeads h (by simp)) (readsLoginHeads h (by simp))
end Go.Proofs.YtmkebjdmkkjloaaGreatDoor
namespace Go.Proofs.YtmkebjdmkkjloaaGreatDoor.loginHeads
open Go.ChangeShapes Go.WideShapes Go.ChangeAt Go.RowKit
open Go.ChangeMaps (open_string shut_string)
set_option linter.unusedVariables false
theorem own : ownKnob Tryz.prog.godebug = none := by kernel_rfl
theorem laidOut : laidOutB Tryz.prog = true := by kernel_rfl
set_option maxRecDepth 100000 in
theorem contract (H : Type) (enc : TypeId × Value → H) (W : World) (base : Nat) (args : Array Value) (ds gs : List (DataW H)) (before : List MemPlace)
    (hval : ∀ (j : Nat) t v, Tryz.f6.params[j]? = some t → args[j]? = some v → Value.okWide Tryz.prog W .any base t v)
    (hW : DataW.Whole enc Tryz.prog Tryz.f6.params.toList Rows.loginHeadsSpec.vars false W args.toList ds gs before)
    (hsz0 : (DataW.weightsEach Tryz.prog (Tryz.f6.params.toList ++ Rows.loginHeadsSpec.plain.varTypes Tryz.prog) (ds ++ gs)).all (· ≤ reachBytes) = true)
    (hL : laidMetH Tryz.prog Rows.loginHeadsRow.laid W) (hS : W.ShapedOpen Tryz.prog)
    : Calls Tryz.prog 6 args W fun e W' => ∃ v, e = .returned v ∧ Rows.loginHeadsSpec.post enc Tryz.prog Tryz.f6 false true false false W args v W' := by
  have hW' := hW
  obtain ⟨p, q, hA0, hV, rfl, hfz, hnd⟩ := hW
  have hsz : (DataW.weightsEach Tryz.prog (Tryz.f6.params.toList ++ Rows.loginHeadsSpec.plain.varTypes Tryz.prog) (ds ++ gs)).all (· ≤ reachBytes) = true := hsz0
  have hA : DataW.TrodAll enc Tryz.prog W 0 (fun _ => true) true Tryz.f6.params.toList args.toList ds p := hA0
  rw [Tryz.params6] at hA hval hsz
  obtain ⟨v0, vs0, d0, ds0, p0, q0, hargs, rfl, rfl, h0, r0⟩ := trodAll_cons hA
  obtain ⟨v1, vs1, d1, ds1, p1, q1, rfl, rfl, rfl, h1, r1⟩ := trodAll_cons r0
  obtain ⟨v2, vs2, d2, ds2, p2, q2, rfl, rfl, rfl, h2, r2⟩ := trodAll_cons r1
  obtain ⟨rfl, rfl, rfl⟩ := trodAll_nil r2
  obtain rfl : args = #[v0, v1, v2] := by cases args; simp_all
  obtain ⟨rfl, rfl⟩ := trodVars_none hV
  obtain ⟨a0, rfl, rfl, rfl, wf0⟩ := open_int Tryz.underlying49 (hval 0 49 v0 rfl rfl) h0
  obtain ⟨a1, rfl, rfl, rfl, wf1⟩ := open_int Tryz.underlying49 (hval 1 49 v1 rfl rfl) h1
  obtain ⟨a2, rfl, rfl, rfl, wf2⟩ := open_int Tryz.underlying3 (hval 2 3 v2 rfl rfl) h2
  clear hA0 hsz0
  refine (loginHeads_any a0 a1 a2 W wf0 wf1 wf2 (EnvL.mk (env_of hS (readsLoginHeads hL (by simp)) (readsLoginHeads hL (by simp)) (readsLoginHeads hL (by simp))) (errCell_LoginHeads hL) (tabsLoginHeads hL))).mono fun e W' ⟨he, bel⟩ => ?_
  subst he
  exact ⟨_, rfl, _, _, _, [], _, [], hW', trodAll_mk1 (shut_bool Tryz.underlying4 _), trodAll_cons_mk (shut_int Tryz.underlying49 wf0) (trodAll_cons_mk (shut_int Tryz.underlying49 wf1) (trodAll_cons_mk (shut_int Tryz.underlying3 wf2) trodAll_mk0)), rfl, bel.frame _, fun h => by cases h⟩
theorem reads (os : Os) {H : Type} (enc : TypeId × Value → H) : ∃ places, DataW.whole enc Tryz.prog ((laidWorldLoginHeads os).forCall (fun _ _ => 0) ⟨#[], #[.int .u64 0, .int .u64 0, .int .i64 0], []⟩).memory Tryz.f6.params.toList Rows.loginHeadsSpec.vars false (#[.int .u64 0, .int .u64 0, .int .i64 0] : Array Value).toList 8 = some ([.lit (.int .u64 0), .lit (.int .u64 0), .lit (.int .i64 0)], [], places) :=
  ⟨[], by kernel_rfl⟩
set_option maxRecDepth 100000 in
theorem lifted (os : Os) (started : os.Started) (H : Type) (enc : TypeId × Value → H) (F : Stop.Interp) :
    ReturnsInHanded {} Tryz.checked os 6 .any ((OpenSpec.ofChange Rows.loginHeadsSpec).preRow enc Tryz.prog Tryz.f6 Rows.loginHeadsRow.domain false Rows.loginHeadsRow.laid) (((OpenSpec.ofChange Rows.loginHeadsSpec).at F).post enc Tryz.prog Tryz.f6 false true false false) := by
  obtain ⟨places, hx⟩ := reads os enc
  refine returnsInHanded_of_row (C := Tryz.checked) (s := OpenSpec.ofChange Rows.loginHeadsSpec) own started (by kernel_rfl) Tryz.func6
    (witness_row_atRef (enc := enc) (C := Tryz.checked) false (laidWorldLoginHeads os) #[.int .u64 0, .int .u64 0, .int .i64 0] (laidWorldLoginHeads_os os) (by kernel_rfl) (by kernel_rfl) (by kernel_rfl)
      (OpenSpec.preRow_of_cond 8 hx (by kernel_rfl) (fun k hk => by cases hk) (by kernel_rfl) (laidWorldLoginHeads_met os _))) ?_
  intro W base args ds gs before hval hW _ _ hsz hL hS _
  exact contract H enc W base args ds gs before hval hW hsz hL hS
theorem said : Rows.LoginHeadsSaid :=
  OpenClaim.holds_of_cond 6 Tryz.f6 rfl rfl rfl rfl rfl rfl rfl ⟨rfl, rfl, rfl, rfl, rfl⟩ rfl rfl rfl rfl rfl (by kernel_rfl) Tryz.func6 (by kernel_rfl)
    (of_decide_eq_true (by kernel_rfl)) (by unfold Func.isWrapper; first | (rw [if_pos (by decide +kernel)]; kernel_rfl) | (rw [if_neg (by decide +kernel)]; exact ⟨rfl, rfl⟩))
    (fun os started H enc _ F => by rw [OpenClaim.pre_eq_preRow]; exact lifted os started H enc F)
theorem plain (f : FuncId) (fn : Func) (hf : Tryz.pinned.checked.prog.funcNamed "quaymaster/quaymasterkeep.LoginHeads" = some f) (hfn : Tryz.pinned.checked.prog.funcs[f]? = some fn) :
    true = Tryz.pinned.checked.prog.looks [] ∧ ∀ (j : Nat) t, fn.params[j]? = some t → Tryz.pinned.checked.prog.wantsStandIn t = false := by
  obtain rfl : f = 6 := Option.some.inj ((show Tryz.prog.funcNamed "quaymaster/quaymasterkeep.LoginHeads" = some 6 by kernel_rfl).symm.trans hf) |>.symm
  obtain rfl : fn = Tryz.f6 := (Option.some.inj (Tryz.func6.symm.trans hfn)).symm
  refine ⟨by kernel_rfl, fun j t ht => ?_⟩
  rw [Tryz.params6] at ht
  have hm : t ∈ ([49, 49, 3] : List TypeId) := by
    have := Array.mem_of_getElem? ht
    simpa using this
  have hall : ([49, 49, 3] : List TypeId).all (fun t => !Tryz.prog.wantsStandIn t) = true := by kernel_rfl
  have hn := List.all_eq_true.1 hall t hm
  show Tryz.prog.wantsStandIn t = false
  simpa using hn
theorem proved : Rows.LoginHeadsCardSaid :=
  Claim7.holds_tied_plain_at .later [] _ _ _ _ said (fun _ h => by cases h) (by kernel_rfl) (fun _ h => by cases h) loginHeads_row_tie rfl ⟨rfl, rfl⟩ (by kernel_rfl) rfl plain (by kernel_rfl)
#print axioms proved
end Go.Proofs.YtmkebjdmkkjloaaGreatDoor.loginHeads
