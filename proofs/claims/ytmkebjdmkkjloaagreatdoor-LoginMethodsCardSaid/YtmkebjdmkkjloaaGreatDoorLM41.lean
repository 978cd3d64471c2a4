/- LM41: several texts in one. -/
import Derived.BigQuiet
import Derived.BigRegion
import Derived.Deep.QuietTactic
import Derived.Laws.StructEq
import Derived.Test.YtmkebjdmkkjloaaGreatDoorLM01
import Derived.Test.YtmkebjdmkkjloaaGreatDoorLM03
import Derived.Test.YtmkebjdmkkjloaaGreatDoorLM09
import Derived.Test.YtmkebjdmkkjloaaGreatDoorLM10
import Derived.Test.YtmkebjdmkkjloaaGreatDoorLM12
import Derived.Test.YtmkebjdmkkjloaaGreatDoorLM36
import Derived.Test.YtmkebjdmkkjloaaGreatDoorLM39
import Derived.Test.YtmkebjdmkkjloaaGreatDoorLM40
namespace Go.Proofs.YtmkebjdmkkjloaaGreatDoor
open Go.RowKit
set_option linter.unusedVariables false
def meL : List UInt8 := [109, 101]
def pIni : Pr := ⟨kIni, meL⟩
def pSes : Pr := ⟨kSes, vDis⟩
def hello : List Pr := [pIni, pSes]
def dw0 : Dw := ⟨7, chalL⟩
theorem dw0_ok : 0 ≤ dw0.id ∧ dw0.id ≤ 255 ∧ dw0.ch.length ≤ 100 := by decide
theorem new_conf0 : (newL conf0 dw0).1 = 0 := by kernel_rfl
structure Took (c : Cf) (d : Dw) (s : Lg) (p : Pd) : Prop where
 err : (takeL c d s p).1.2 = 0
 len : (takeL c d s p).1.1.h.vs.length = 10
 stat : statR (takeL c d s p).1.1 = if (asksL c d p s).1.2.2 ≠ -1 then (4 * csgI p.h, 2, (asksL c d p s).1.2.2.toNat) else ((asksL c d p s).1.1, 0, 0)
 data : (takeL c d s p).1.1.d = if (asksL c d p s).1.2.2 ≠ -1 then [] else (prPrint (asksL c d p s).1.2.1).1
 don : (takeL c d s p).2.don = (asksL c d p s).2.don
 fld : (takeL c d s p).2.fld = ((asksL c d p s).2.fld || decide ((asksL c d p s).1.2.2 ≠ -1))
 tgt : (takeL c d s p).2.tgt = (asksL c d p s).2.tgt
 dsc : (takeL c d s p).2.dsc = (asksL c d p s).2.dsc
theorem took {c : Cf} {d : Dw} {s : Lg} {h : Hd} {x : List UInt8} (hr : rightR h = (0, -1)) (ho : h.op = 3) (hx : x.length ≤ 100000) (hd : s.don = false) (hf : s.fld = false) : Took c d s ⟨h, [], x⟩ := by
 have e := req_take (c := c) (d := d) hr ho hx hd hf
 refine ⟨by rw [e], by rw [e]; rfl, by rw [e]; exact reply_stat _ _, ?_, by rw [e]; rfl, by rw [e]; rfl, by rw [e]; rfl, by rw [e]; rfl⟩
 rw [e]
 unfold replyL
 simp only
 by_cases h : (asksL c d ⟨h, [], x⟩ s).1.2.2 = -1
 ·rw [if_neg (by simp [h]), if_neg (by simp [h])]
 ·rw [if_pos (by simp [h]), if_pos h]
theorem begin_dis (c : Cf) (m : List Pr) : beginL c (pIni :: pSes :: m) = (-1, [], true) := by
 unfold beginL
 have e1 : prFind (pIni :: pSes :: m) kIni = some meL := by unfold prFind; exact if_pos rfl
 have e2 : prFind (pIni :: pSes :: m) kSes = some vDis := by
  unfold prFind
  rw [if_neg (by decide)]
  unfold prFind
  exact if_pos rfl
 rw [e1, e2, if_neg (by decide)]
 exact if_pos rfl
theorem ok_hello : okPs hello := by
 intro p hp
 rcases List.mem_cons.1 hp with rfl | hp
 ·kernel_rfl
 ·rcases List.mem_cons.1 hp with rfl | hp
  ·kernel_rfl
  ·exact absurd hp List.not_mem_nil
theorem ans_hello (c : Cf) : (ansN c.own [] hello true true).1 = ([], 0, -1) := by
 have h1 : (prRight hello).1 = 0 := by rw [prRight_ok ok_hello (by decide)]
 rw [ansN_go (mine := c.own) (rec := []) (l := hello) (lg := true) (dc := true) h1 (by kernel_rfl)]
 exact congrArg (fun (x : List Pr) => (x, (0 : Int), (-1 : Int))) (show (goN (oneN c.own true true) hello []).1 = [] by kernel_rfl)
theorem ok_cons {p : Pr} {l : List Pr} (hp : wrongP p = 0) (hl : okPs l) : okPs (p :: l) := fun q hq => by
 rcases List.mem_cons.1 hq with rfl | hq
 ·exact hp
 ·exact hl q hq
theorem ok_nil : okPs [] := fun q hq => absurd hq List.not_mem_nil
theorem six_right {k v : List UInt8} (hk : k ∈ sixK) (hv : isVal v = true) : wrongP ⟨k, v⟩ = 0 := by
 have : isKey k = true := by
  have h : ∀ k ∈ sixK, isKey k = true := by decide +kernel
  exact h k hk
 unfold wrongP
 simp [this, hv]
theorem bytes_len2 {k v : List UInt8} (hk : k.length ≤ 63) (hv : v.length ≤ 255) (l : List Pr) : (prBytes (⟨k, v⟩ :: l)).length ≤ (prBytes l).length + 320 := by
 rw [prBytes_cons]
 simp [wrP]
 omega
def confU : Cf := { conf0 with us := [⟨meL, [115]⟩] }
theorem confU_ok : CfOk confU := tgtR_ok.1 (by decide +kernel)
theorem new_confU : (newL confU dw0).1 = 0 := by kernel_rfl
theorem methods_plain {c : Cf} {v : List UInt8} (hc : c = conf0 ∨ c = confU) (hv : isVal v = true) :
  let p : Pd := ⟨reqH 0 0 0 9 0 5 1 77 0, [], prBytes [pIni, pSes, ⟨kAM, v⟩]⟩
  Took c dw0 (lg0 c) p ∧ (if holdsL v (wantL (decide (c.us ≠ []))) = false then (asksL c dw0 p (lg0 c)).1.2.2 = 1 else (asksL c dw0 p (lg0 c)).1.2.2 = -1 ∧ (asksL c dw0 p (lg0 c)).1.2.1 = [⟨kAM, wantL (decide (c.us ≠ []))⟩]) := by
 have e0 : (prBytes ([] : List Pr)).length = 0 := rfl
 have b2 := bytes_len2 (k := kAM) (by decide) (valLen hv) []
 have b3 := bytes_len2 (k := kSes) (v := vDis) (by decide) (by decide) [⟨kAM, v⟩]
 have b4 := bytes_len2 (k := kIni) (v := meL) (by decide) (by decide) [pSes, ⟨kAM, v⟩]
 have hb : (prBytes [pIni, pSes, ⟨kAM, v⟩]).length ≤ 8192 := by
  unfold pIni pSes at *
  omega
 have hok : okPs [pIni, pSes, ⟨kAM, v⟩] := ok_cons (by kernel_rfl) (ok_cons (by kernel_rfl) (ok_cons (six_right (by decide) hv) ok_nil))
 intro p
 refine ⟨took (req_right (by decide) (by decide) (by decide) (by decide) (by decide) (by decide) (by decide)) rfl (by omega) rfl rfl, ?_⟩
 have hown : c.own = [] := by rcases hc with rfl | rfl <;> rfl
 have hhd : headL (decide (c.us ≠ [])) (lg0 c) (reqH 0 0 0 9 0 5 1 77 0) = -1 := by rcases hc with rfl | rfl <;> kernel_rfl
 have hw := asks_whole (c := c) (d := dw0) (s := lg0 c) hhd (by kernel_rfl) rfl hok (by simp) hb
 have hp : p = ⟨reqH 0 0 0 9 0 5 1 77 0, [], prBytes [pIni, pSes, ⟨kAM, v⟩]⟩ := rfl
 rw [← hp] at hw
 have hb1 := begin_dis c [⟨kAM, v⟩]
 rw [text_first rfl (by rw [hb1]), text_later rfl, hb1] at hw
 obtain ⟨s, hs⟩ : ∃ s : Lg, { firstL c (reqH 0 0 0 9 0 5 1 77 0) (lg0 c) with bgn := true, tgt := [], dsc := true } = s := ⟨_, rfl⟩
 simp only at hw
 rw [hs] at hw
 have s1 : s.stg = 0 := by rw [← hs]; rfl
 have s2 : s.mth = [] := by rw [← hs]; rfl
 have s3 : s.mine = [] := by rw [← hs]; exact hown
 have s4 : s.recd = [] := by rw [← hs]; rfl
 have s5 : s.dsc = true := by rw [← hs]
 have hbad : secBad (decide (s.stg ≠ 0)) [] [pIni, pSes, ⟨kAM, v⟩] = false := by
  rw [s1]
  have h1 : pIni.k ∉ sixK := by decide
  have h2 : pSes.k ∉ sixK := by decide
  have h3 : (⟨kAM, v⟩ : Pr).k ∈ sixK := (show kAM ∈ sixK by decide)
  simp only [secBad]
  rw [if_neg h1, if_neg h2, if_pos h3, if_neg (by simp)]
 have f1 : prFind [pIni, pSes, ⟨kAM, v⟩] kAM = some v := by
  unfold prFind; rw [if_neg (by decide)]; unfold prFind; rw [if_neg (by decide)]; unfold prFind; rw [if_pos rfl]
 have f2 : ∀ k, k = kCA ∨ k = kCI ∨ k = kCC ∨ k = kCN ∨ k = kCR → prFind [pIni, pSes, ⟨kAM, v⟩] k = none := fun k hk => prFind_not fun q hq e => by
  rcases List.mem_cons.1 hq with rfl | hq
  ·rcases hk with rfl | rfl | rfl | rfl | rfl <;> revert e <;> decide
  ·rcases List.mem_cons.1 hq with rfl | hq
   ·rcases hk with rfl | rfl | rfl | rfl | rfl <;> revert e <;> decide
   ·rcases List.mem_cons.1 hq with rfl | hq
    ·simp only at e
     rcases hk with rfl | rfl | rfl | rfl | rfl <;> revert e <;> decide
    ·exact List.not_mem_nil hq
 have hsec : secL c dw0 [pIni, pSes, ⟨kAM, v⟩] s = if holdsL v (wantL (decide (c.us ≠ []))) = false then (([], 1), s) else (([⟨kAM, wantL (decide (c.us ≠ []))⟩], -1), { s with mth := wantL (decide (c.us ≠ [])) }) := by
  unfold secL
  rw [hbad, if_neg (by simp), f1, f2 kCA (by simp), f2 kCI (by simp), f2 kCC (by simp), f2 kCN (by simp), f2 kCR (by simp)]
  unfold secA
  simp only
  by_cases hh : holdsL v (wantL (decide (c.us ≠ []))) = false
  ·rw [if_pos (.inl hh), if_pos hh]
  ·rw [if_neg (fun hx => hx.elim hh (fun h2 => h2 s2)), if_neg hh]
   simp [secB, secC]
 rw [hsec] at hw
 by_cases hh : holdsL v (wantL (decide (c.us ≠ []))) = false
 ·rw [if_pos hh] at hw ⊢
  rw [hw]
  unfold doneL
  simp
 ·rw [if_neg hh] at hw ⊢
  simp only at hw
  rw [if_neg (by simp)] at hw
  have hrest : restL [pIni, pSes, ⟨kAM, v⟩] = hello := by
   unfold restL
   rw [List.filter_cons_of_pos (by decide), List.filter_cons_of_pos (by decide), List.filter_cons_of_neg (a := (⟨kAM, v⟩ : Pr)) (p := fun p => decide (p.k ∉ sixK)) (show ¬ (decide (kAM ∉ sixK)) = true by decide)]
   rfl
  have hA := ans_hello c
  rw [hrest, s3, s4, s5] at hw
  rw [hown] at hA
  cases hX : ansN [] [] hello true true with
  | mk y r =>
   rw [hX] at hA hw
   simp only at hA
   subst hA
   simp only at hw
   rw [if_neg (by simp)] at hw
   rw [hw]
   have htb : tB (reqH 0 0 0 9 0 5 1 77 0) = false := by kernel_rfl
   unfold doneL
   simp only
   rw [if_neg (by simp), if_neg (by simp [htb])]
   exact ⟨rfl, by simp⟩
end Go.Proofs.YtmkebjdmkkjloaaGreatDoor
namespace Go.Proofs.YtmkebjdmkkjloaaGreatDoor
open Go Go.RowKit
set_option linter.unusedVariables false
theorem pair_any (k d : List UInt8) (w : World) : Calls Tryz.prog 23 #[.string (S k), .string (S d)] w fun e w' => e = .returned (.agg #[.string (S k), .string (S d)]) ∧ Below w.heap.size w w' := by
 have hb0 := (Below.refl w.heap.size w).alloc (Nat.le_refl _) (.cells #[.string (S k), .string (S d)] 61)
 have hP := Blk.new w #[.string (S k), .string (S d)] 61
 obtain ⟨x0, x1⟩ := hP.two
 have Hb0 := Lib.hid hb0
 clear hb0 hP
 go_enter Tryz.func23, Tryz.ntmps23
 go_wp2_with fail
 refine bodyPost_ret (v := .agg #[.string (S k), .string (S d)]) (by simp [results, Tryz.results23, go_sem]) rfl ⟨rfl, Hb0.out⟩
end Go.Proofs.YtmkebjdmkkjloaaGreatDoor
namespace Go.Proofs.YtmkebjdmkkjloaaGreatDoor
open Go.RowKit
theorem conf0_fit : FitCf conf0 := ⟨⟨by decide, by decide⟩, ⟨by decide, by decide⟩, ⟨⟨by decide, by decide⟩, by decide⟩, by decide, by decide, by decide, ⟨⟨by decide, by decide⟩, by decide⟩, by decide⟩
end Go.Proofs.YtmkebjdmkkjloaaGreatDoor
namespace Go.Proofs.YtmkebjdmkkjloaaGreatDoor
open Go Go.RowKit
set_option linter.unusedVariables false
def kHD : List UInt8 := [72, 101, 97, 100, 101, 114, 68, 105, 103, 101, 115, 116]
def vCRC : List UInt8 := [67, 82, 67, 51, 50, 67]
def entL : List Pr := [pIni, pSes, ⟨kHD, vCRC⟩]
def entP : Pd := ⟨reqH 135 0 0 9 0 5 1 77 0, [], prBytes entL⟩
def entT : List UInt8 := [72, 101, 97, 100, 101, 114, 68, 105, 103, 101, 115, 116, 61, 82, 101, 106, 101, 99, 116, 0]
def entR : (Pd × Int) × Lg := takeL conf0 dw0 (lg0 conf0) entP
theorem ent_asks : asksR 135 entL = (entP, true) := by kernel_rfl
theorem ent_fit : FitP entP := ⟨by unfold I64; decide, by decide, ⟨by decide, fun _ h => absurd h List.not_mem_nil⟩, by decide +kernel⟩
theorem ent_take : entR.1.2 = 0 ∧ statR entR.1.1 = (135, 0, 0) ∧ entR.2.don = true ∧ entR.2.fld = false ∧ entR.2.dsc = true ∧ hv entR.1.1.h nTSIH = 1 ∧ hv entR.1.1.h nITT = 5 ∧ entR.1.1.d = entT ∧ entR.2.sta = 1 ∧ entR.2.cmd = 77 ∧ entR.1.1.h.vs.length = 10 := by
 refine ⟨?_, ?_, ?_, ?_, ?_, ?_, ?_, ?_, ?_, ?_, ?_⟩ <;> kernel_rfl
theorem Blk.kp {w w' : World} {H H' : Nat → Prop} {b : Nat} {C : Array Value} {t : TypeId} (hb : Blk w b C t) (hk : Keeps w.heap.size w w' H H') (hn : ¬ H b) : Blk w' b C t := (hk.block b hb.lt hn).trans hb
theorem PduAt.offO {H : Nat → Prop} {w W : World} {p : Pd} {vv : Value} (h : Vals W vv p.h.vs) (ha : p.a = []) (ho : OwnV w vv) (hH : ∀ k, H k → k < w.heap.size) : PduAt (offW H W) p vv (.slice none 0 0) := ⟨h.offO ho hH, by rw [ha]; exact AhsV.nil _⟩
section
variable {w0 w W : World} {lb : Nat} {m : LgM} {c : Cf} {d : Dw} {q : Lq} {s : Lg}
theorem LS.fresh (h : LS w0 w lb m c d q s) : ∀ k, m.H lb k → k < w.heap.size := fun k hk => (h.log.ge k hk).2
theorem LS.overS (h : LS w0 w lb m c d q s) : Calls Tryz.prog 14 #[.pointer (some ⟨lb, 0, none⟩)] w fun e w' => e = .returned (.tuple #[.bool s.don, .bool s.fld]) ∧ Below w.heap.size w w' := by
 have O := over_any h.log
 rw [h.sim.same.don, h.sim.same.fld] at O
 exact O
theorem LS.whoS (h : LS w0 w lb m c d q s) : Calls Tryz.prog 30 #[.pointer (some ⟨lb, 0, none⟩)] w fun e w' => e = .returned (.tuple #[.string (S s.usr), .string (S s.tgt), .bool s.dsc]) ∧ Below w.heap.size w w' := by
 have O := who_any h.log
 rw [h.sim.same.usr, h.sim.same.tgt, h.sim.same.dsc] at O
 exact O
theorem LS.statS (h : LS w0 w lb m c d q s) : Calls Tryz.prog 17 #[.pointer (some ⟨lb, 0, none⟩)] w fun e w' => e = .returned (.int .u32 s.sta) ∧ w = w' := by
 have O := stat_any h.log
 rw [h.sim.same.sta] at O
 exact O
theorem LS.commandS (h : LS w0 w lb m c d q s) : Calls Tryz.prog 19 #[.pointer (some ⟨lb, 0, none⟩)] w fun e w' => e = .returned (.int .u32 s.cmd) ∧ w = w' := by
 have O := command_any h.log
 rw [h.sim.cmd] at O
 exact O
end
set_option maxRecDepth 100000 in
set_option maxHeartbeats 8000000 in
theorem entered_any (w : World) (hE : EnvL w) : Calls Tryz.prog 11 #[] w fun e w' => e = .returned (.bool true) ∧ Below w.heap.size w w' := by
 have C := conf_any w
 unfold confV at C
 have C := Lib.hid C
 have HE := Lib.hid hE
 clear hE
 go_enter Tryz.func11, Tryz.ntmps11
 go_wp2_with fail
 refine C.out.mono ?_
 rintro e w1 ⟨vt, vp, rfl, hv, hb1⟩
 have D := Lib.hid (draw_any w1)
 have HV := Lib.hid hv
 have Hb1 := Lib.hid hb1
 clear hv hb1 C
 go_wp2_with fail
 refine D.out.mono ?_
 rintro e w2 ⟨rfl, hb2⟩
 have N := new_ls conf0 dw0 vt vp _ _ w2 (HV.out.later hb2) conf0_fit (HE.out.later (below_then Hb1.out hb2)) new_conf0
 unfold confV at N
 have N := Lib.hid N
 have Hb2 := Lib.hid (below_then Hb1.out hb2)
 clear hb2 D Hb1 HV
 go_wp2_with fail
 refine N.out.mono ?_
 rintro e w3 ⟨lb, m, rfl, hL, -⟩
 have HL3 := Lib.hid hL
 have Q1 := Lib.hid (pair_any [73, 110, 105, 116, 105, 97, 116, 111, 114, 78, 97, 109, 101] [109, 101] w3)
 clear hL N
 go_wp2_with fail
 refine Q1.out.mono ?_
 rintro e w4 ⟨rfl, hb4⟩
 have HL4 := Lib.hid (HL3.out.later hb4)
 have Q2 := Lib.hid (pair_any [83, 101, 115, 115, 105, 111, 110, 84, 121, 112, 101] [68, 105, 115, 99, 111, 118, 101, 114, 121] w4)
 clear hb4 HL3 Q1
 go_wp2_with fail
 refine Q2.out.mono ?_
 rintro e w5 ⟨rfl, hb5⟩
 have HL5 := Lib.hid (HL4.out.later hb5)
 have Q3 := Lib.hid (pair_any [72, 101, 97, 100, 101, 114, 68, 105, 103, 101, 115, 116] [67, 82, 67, 51, 50, 67] w5)
 clear hb5 HL4 Q2
 go_wp2_with fail
 refine Q3.out.mono ?_
 rintro e w6 ⟨rfl, hb6⟩
 have HL6 := Lib.hid (HL5.out.later hb6)
 obtain ⟨w7, hw7⟩ : ∃ w7, w6.alloc (.cells #[.string (S [73, 110, 105, 116, 105, 97, 116, 111, 114, 78, 97, 109, 101]), .string (S [109, 101]), .string (S [83, 101, 115, 115, 105, 111, 110, 84, 121, 112, 101]), .string (S [68, 105, 115, 99, 111, 118, 101, 114, 121]), .string (S [72, 101, 97, 100, 101, 114, 68, 105, 103, 101, 115, 116]), .string (S [67, 82, 67, 51, 50, 67])] 61) = w7 := ⟨_, rfl⟩
 have hp7 : PrsV w7 (.slice (some ⟨w6.heap.size, 0, none⟩) 3 3) entL := by rw [← hw7]; exact prs_new w6 entL _
 have hb7 : Below w6.heap.size w6 w7 := by rw [← hw7]; exact (Below.refl _ _).alloc (Nat.le_refl _) _
 have HL7 := Lib.hid (HL6.out.later hb7)
 have A := asks_any 135 entL _ w7 (by unfold I64; decide) hp7 ⟨by decide, by decide⟩ ((HE.out.later Hb2.out).env.mc.later HL7.out.low)
 rw [ent_asks] at A
 obtain ⟨P, hP⟩ : ∃ P, entP = P := ⟨_, rfl⟩
 have hPv : P.h.vs.length = 8 := by rw [← hP]; rfl
 have hPa : P.a = [] := by rw [← hP]; rfl
 have hPf : FitP P := by rw [← hP]; exact ent_fit
 obtain ⟨R, hR⟩ : ∃ R, takeL conf0 dw0 (lg0 conf0) P = R := ⟨_, rfl⟩
 have hRs := ent_take
 rw [show entR = R by rw [← hR, ← hP]; rfl] at hRs
 rw [hP] at A
 unfold RetAsks at A
 have A := Lib.hid A
 have HPv := Lib.hid hPv
 have HPa := Lib.hid hPa
 have HPf := Lib.hid hPf
 have HR := Lib.hid hR
 have HRs := Lib.hid hRs
 clear hb6 hb7 hp7 HL5 HL6 Q3 hP hPv hPa hPf hR hRs
 go_wp2_with fail
 clear hw7
 refine A.out.mono ?_
 rintro e w8 ⟨vv, rfl, hvv, hown, hb8⟩
 have hPd : PduAt (offW (m.H lb) w8) P vv (.slice none 0 0) := PduAt.offO hvv HPa.out hown HL7.out.fresh
 obtain ⟨pv, cv, rfl⟩ : ∃ p c, vv = .slice p P.h.vs.length c := by obtain ⟨p, c, h, _⟩ := hvv; exact ⟨p, c, h⟩
 have HL8 := Lib.hid (HL7.out.later hb8)
 obtain ⟨w9, hw9⟩ : ∃ w9, w8.alloc (.cells #[.int .i64 P.h.op, .bool P.h.now, .int .i64 P.h.fl, .slice pv P.h.vs.length cv, .slice none 0 0, .string (S P.d)] 41) = w9 := ⟨_, rfl⟩
 have hb9 : Below w8.heap.size w8 w9 := by rw [← hw9]; exact (Below.refl _ _).alloc (Nat.le_refl _) _
 have hk9 : Blk w9 w8.heap.size #[.int .i64 P.h.op, .bool P.h.now, .int .i64 P.h.fl, .slice pv P.h.vs.length cv, .slice none 0 0, .string (S P.d)] 41 := by rw [← hw9]; exact Blk.new w8 _ _
 have hL9 := HL8.out.later hb9
 have hPd9 := hPd.later (Keeps.of hb9 _).off'
 have hn9 : ¬ m.H lb w8.heap.size := fun hh => by have := HL8.out.fresh _ hh; omega
 obtain ⟨pb, hpb⟩ : ∃ pb, w8.heap.size = pb := ⟨_, rfl⟩
 rw [hpb] at hk9 hn9
 have T := take_ls P _ _ hL9 hPd9 (HE.out.later Hb2.out) HPf.out conf0_ok dw0_ok
 rw [HR.out] at T
 obtain ⟨⟨Q, n⟩, s1⟩ := R
 unfold RetLS at T
 simp only at T
 obtain ⟨r1, r2, r3, r4, r5, r6, r7, r8, r9, r10, r11⟩ := HRs.out
 simp only at r1 r2 r3 r4 r5 r6 r7 r8 r9 r10 r11
 subst r1
 unfold pduV at T
 unfold entT at r8
 rw [r8] at T
 have T := Lib.hid T
 have HK9 := Lib.hid hk9
 have HPd9 := Lib.hid hPd9
 have HN9 := Lib.hid hn9
 have R2 := Lib.hid r2
 have R3 := Lib.hid r3
 have R4 := Lib.hid r4
 have R5 := Lib.hid r5
 have R6 := Lib.hid r6
 have R7 := Lib.hid r7
 have R8 := Lib.hid r8
 have R9 := Lib.hid r9
 have R10 := Lib.hid r10
 have R11 := Lib.hid r11
 obtain ⟨k0, k1, k2, k3, k4, k5⟩ := hk9.six
 have T2 := Lib.hid (fun (W : World) (m' : LgM) (q' : Lq) (hl : LS w2 W lb m' conf0 dw0 q' s1) (hp : PduAt (offW (m'.H lb) W) P (.slice pv P.h.vs.length cv) (.slice none 0 0)) => take_ls P _ _ hl hp (HE.out.later Hb2.out) HPf.out conf0_ok dw0_ok)
 clear hvv hown hb8 hPd hb9 hk9 hL9 hPd9 hn9 r2 r3 r4 r5 r6 r7 r8 r9 r10 r11 A HL7 HL8 HR HRs HPf HPa
 unfold pduV
 simp only
 go_wp2_with fail
 clear hw9 k0 k1 k2 k3 k4 k5
 refine T.out.mono ?_
 rintro e w10 ⟨m1, q1, vq, va, ev, rfl, hPq, herr, hL10, hK10⟩
 obtain rfl := herr.zero
 have hPd10 := HPd9.out.later hK10.off'
 have hk10 := HK9.out.kp hK10 HN9.out
 have hn10 : ¬ m1.H lb pb := fun hh => by
  rcases hK10.old _ hh with h | h
  ·exact HN9.out h
  ·have := HK9.out.lt; omega
 obtain ⟨p3, c3, rfl⟩ : ∃ p c, vq = .slice p Q.h.vs.length c := by obtain ⟨p, c, h, _⟩ := hPq.v; exact ⟨p, c, h⟩
 obtain ⟨p4, c4, rfl⟩ := hPq.a.form
 obtain ⟨w11, hw11⟩ : ∃ w11, w10.alloc (.cells #[.int .i64 Q.h.op, .bool Q.h.now, .int .i64 Q.h.fl, .slice p3 Q.h.vs.length c3, .slice p4 Q.a.length c4, .string (S [72, 101, 97, 100, 101, 114, 68, 105, 103, 101, 115, 116, 61, 82, 101, 106, 101, 99, 116, 0])] 41) = w11 := ⟨_, rfl⟩
 have hb11 : Below w10.heap.size w10 w11 := by rw [← hw11]; exact (Below.refl _ _).alloc (Nat.le_refl _) _
 have hk11 : Blk w11 w10.heap.size #[.int .i64 Q.h.op, .bool Q.h.now, .int .i64 Q.h.fl, .slice p3 Q.h.vs.length c3, .slice p4 Q.a.length c4, .string (S [72, 101, 97, 100, 101, 114, 68, 105, 103, 101, 115, 116, 61, 82, 101, 106, 101, 99, 116, 0])] 41 := by rw [← hw11]; exact Blk.new w10 _ _
 have hnq : ¬ m1.H lb w10.heap.size := fun hh => by have := hL10.fresh _ hh; omega
 obtain ⟨qb, hqb⟩ : ∃ qb, w10.heap.size = qb := ⟨_, rfl⟩
 rw [hqb] at hk11 hnq
 have hPq11 := hPq.later (Keeps.of hb11 _).off'
 have hL11 := hL10.later hb11
 have hk9' := hk10.later hb11
 have hPd11 := hPd10.later (Keeps.of hb11 _).off'
 have HE2 := Lib.hid (HE.out.later Hb2.out)
 have ST := status_any Q _ _ w11 hPq11.off (HE2.out.later hL11.low).env.mc (by rw [R11.out]; decide)
 rw [R2.out] at ST
 unfold pduV at ST
 rw [R8.out] at ST
 have ST := Lib.hid ST
 have HL11 := Lib.hid hL11
 have HPq11 := Lib.hid hPq11
 have HPd11 := Lib.hid hPd11
 have HKp := Lib.hid hk9'
 have HKq := Lib.hid hk11
 have Hnp := Lib.hid hn10
 have Hnq := Lib.hid hnq
 obtain ⟨k0, k1, k2, k3, k4, k5⟩ := hk11.six
 clear hPq herr hL10 hK10 hPd10 hk10 hn10 hb11 hk11 hnq hPq11 hL11 hk9' hPd11 HK9 HPd9 HN9 T
 go_wp2_with fail
 clear hw11 k0 k1 k2 k3 k4 k5
 refine ST.out.mono ?_
 rintro e w12 ⟨rfl, hb12⟩
 have HL12 := Lib.hid (HL11.out.later hb12)
 have HKp12 := Lib.hid (HKp.out.later hb12)
 have HKq12 := Lib.hid (HKq.out.later hb12)
 have HPq12 := Lib.hid (HPq11.out.later (Keeps.of hb12 _).off')
 have HPd12 := Lib.hid (HPd11.out.later (Keeps.of hb12 _).off')
 have OV := HL12.out.overS
 rw [R3.out, R4.out] at OV
 have OV := Lib.hid OV
 clear hb12 ST HL11 HKp HKq HPq11 HPd11
 go_wp2_with fail
 refine OV.out.mono ?_
 rintro e w13 ⟨rfl, hb13⟩
 have HL13 := Lib.hid (HL12.out.later hb13)
 have HKp13 := Lib.hid (HKp12.out.later hb13)
 have HKq13 := Lib.hid (HKq12.out.later hb13)
 have HPq13 := Lib.hid (HPq12.out.later (Keeps.of hb13 _).off')
 have HPd13 := Lib.hid (HPd12.out.later (Keeps.of hb13 _).off')
 have WH := HL13.out.whoS
 rw [R5.out] at WH
 have WH := Lib.hid WH
 clear hb13 OV HL12 HKp12 HKq12 HPq12 HPd12
 go_wp2_with fail
 refine WH.out.mono ?_
 rintro e w14 ⟨rfl, hb14⟩
 have HL14 := Lib.hid (HL13.out.later hb14)
 have HKp14 := Lib.hid (HKp13.out.later hb14)
 have HKq14 := Lib.hid (HKq13.out.later hb14)
 have HPq14 := Lib.hid (HPq13.out.later (Keeps.of hb14 _).off')
 have HPd14 := Lib.hid (HPd13.out.later (Keeps.of hb14 _).off')
 have TT := T2.out w14 m1 q1 HL14.out HPd14.out
 rw [takeL_over (.inl R3.out)] at TT
 obtain ⟨Z, hZ⟩ : ∃ Z, pd0 = Z := ⟨_, rfl⟩
 rw [hZ] at TT
 unfold RetLS pduV at TT
 simp only at TT
 have TT := Lib.hid TT
 obtain ⟨k0, k1, k2, k3, k4, k5⟩ := HKp14.out.six
 clear hb14 WH HL13 HKp13 HKq13 HPq13 HPd13 hZ T2
 go_wp2_with fail
 clear k0 k1 k2 k3 k4 k5
 refine TT.out.mono ?_
 rintro e w15 ⟨m2, q2, v5, v6, ev6, rfl, hPz, he6, hL15, hK15⟩
 obtain ⟨p5, c5, rfl⟩ : ∃ p c, v5 = .slice p Z.h.vs.length c := by obtain ⟨p, c, h, _⟩ := hPz.v; exact ⟨p, c, h⟩
 obtain ⟨p6, c6, rfl⟩ := hPz.a.form
 obtain ⟨te, xe, rfl⟩ := he6.iface (by decide)
 obtain ⟨w16, hw16⟩ : ∃ w16, w15.alloc (.cells #[.int .i64 Z.h.op, .bool Z.h.now, .int .i64 Z.h.fl, .slice p5 Z.h.vs.length c5, .slice p6 Z.a.length c6, .string (S Z.d)] 41) = w16 := ⟨_, rfl⟩
 have hb16 : Below w15.heap.size w15 w16 := by rw [← hw16]; exact (Below.refl _ _).alloc (Nat.le_refl _) _
 have hkq := (HKq14.out.kp hK15 Hnq.out).later hb16
 have hPq16 := (HPq14.out.later hK15.off').later (Keeps.of hb16 _).off'
 have hL16 := hL15.later hb16
 have he16 := he6.later hb16
 have e1 : ((hv Q.h nTSIH : Nat) : Int) = 1 := by rw [R6.out]; rfl
 have e2 : ((hv Q.h nITT : Nat) : Int) = 5 := by rw [R7.out]; rfl
 have W1 := what_any Q _ _ nTSIH w16 hPq16.off (HE2.out.later hL16.low).env.mc (by rw [R11.out]; decide)
 have W2 := fun W hb => what_any Q _ _ nITT W (hPq16.off.later hb) ((HE2.out.later hL16.low).later hb).env.mc (by rw [R11.out]; decide)
 rw [e1] at W1
 rw [e2] at W2
 unfold pduV at W1 W2
 rw [R8.out] at W1 W2
 have W1 := Lib.hid W1
 have W2 := Lib.hid W2
 have HKq16 := Lib.hid hkq
 have HL16 := Lib.hid hL16
 have He16 := Lib.hid he16
 obtain ⟨k0, k1, k2, k3, k4, k5⟩ := hkq.six
 clear hPz he6 hL15 hK15 hb16 hkq hPq16 hL16 he16 e1 e2 TT HL14 HKp14 HKq14 HPq14 HPd14
 go_wp2_with fail
 clear hw16
 refine W1.out.mono ?_
 rintro e w17 ⟨rfl, hb17⟩
 have W2' := Lib.hid (W2.out _ hb17)
 have HKq17 := Lib.hid (HKq16.out.later hb17)
 have Hb17 := Lib.hid hb17
 clear hb17 k0 k1 k2 k3 k4 k5 W1 W2 HKq16
 obtain ⟨k0, k1, k2, k3, k4, k5⟩ := HKq17.out.six
 go_wp2_with fail
 refine W2'.out.mono ?_
 rintro e w18 ⟨rfl, hb18⟩
 have HKq18 := Lib.hid (HKq17.out.later hb18)
 have Hb18 := Lib.hid (below_then Hb17.out hb18)
 have TL := Lib.hid (tell_is (He16.out.later Hb18.out) (HE2.out.later (below_then HL16.out.low Hb18.out)).err)
 clear hb18 k0 k1 k2 k3 k4 k5 W2' HKq17 Hb17
 obtain ⟨k0, k1, k2, k3, k4, k5⟩ := HKq18.out.six
 go_wp2_with fail
 refine TL.out.mono ?_
 rintro e w19 ⟨rfl, hb19⟩
 have HL19 := Lib.hid (HL16.out.later (below_then Hb18.out hb19))
 have SS := HL19.out.statS
 have CC := HL19.out.commandS
 rw [R9.out] at SS
 rw [R10.out] at CC
 have SS := Lib.hid SS
 have CC := Lib.hid CC
 clear hb19 k0 k1 k2 k3 k4 k5 TL HKq18 Hb18 HL16
 go_wp2_with fail
 refine SS.out.mono ?_
 rintro e w' ⟨rfl, rfl⟩
 go_wp2_with fail
 refine CC.out.mono ?_
 rintro e w' ⟨rfl, rfl⟩
 go_wp2_with fail
 go_ret
 exact ⟨rfl, below_then Hb2.out HL19.out.low⟩
end Go.Proofs.YtmkebjdmkkjloaaGreatDoor
