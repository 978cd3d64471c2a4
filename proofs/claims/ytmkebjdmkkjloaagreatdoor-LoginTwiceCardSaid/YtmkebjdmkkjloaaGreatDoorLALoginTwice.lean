/- LoginTwice: for every input the law's function returns true, and what came in reads as it did. -/
import Derived.Carry
import Derived.ChangeOld
import Derived.Deep.DeepHandedRow
import Derived.Deep.DeepWitnessRowRef
import Derived.Lib.LaidU8
import Derived.OpenShut
import Derived.ProofKit
import Derived.SevenTiedAt
import Derived.ShapedOpen
import Derived.ShutString
import Derived.SizedLaws
import Derived.Test.YtmkebjdmkkjloaaGreatDoorCards
import Derived.Test.YtmkebjdmkkjloaaGreatDoorTie
import GoSem.PinnedTables
import Derived.Test.YtmkebjdmkkjloaaGreatDoorLA41
import Derived.Test.YtmkebjdmkkjloaaGreatDoorLA42
import Derived.Test.YtmkebjdmkkjloaaGreatDoorLA43
namespace Go.Proofs.YtmkebjdmkkjloaaGreatDoor
open Go Go.RowKit
set_option linter.unusedVariables false
theorem tw_fit {p : Pd} {fl : Int} {x : List UInt8} (hp : p = ⟨reqH fl 0 0 9 0 5 1 77 0, [], x⟩) (hf : 0 ≤ fl ∧ fl ≤ 207) (hx : x.length ≤ 8192) : ∀ q ∈ [p], FitP q := fun q hq => by
 rw [List.mem_singleton.1 hq, hp]
 exact ⟨by show I64 fl; unfold I64; omega, by show 8 ≤ _; decide, ⟨Nat.zero_le _, fun _ h => absurd h List.not_mem_nil⟩, by show x.length ≤ _; omega⟩
theorem prb3 {k v : List UInt8} (hk : k.length ≤ 63) (hv : v.length ≤ 255) : (prBytes [pIni, pSes, ⟨k, v⟩]).length ≤ 8192 := by
 have e0 : (prBytes ([] : List Pr)).length = 0 := rfl
 have b2 := bytes_len2 hk hv []
 have b3 := bytes_len2 (k := kSes) (v := vDis) (by decide) (by decide) [⟨k, v⟩]
 have b4 := bytes_len2 (k := kIni) (v := meL) (by decide) (by decide) [pSes, ⟨k, v⟩]
 unfold pIni pSes at *
 omega
theorem prb4 {k v u : List UInt8} (hk : k.length ≤ 63) (hv : v.length ≤ 255) (hu : u.length ≤ 255) : (prBytes [pIni, pSes, ⟨k, v⟩, ⟨k, u⟩]).length ≤ 8192 := by
 have e0 : (prBytes ([] : List Pr)).length = 0 := rfl
 have b1 := bytes_len2 hk hu []
 have b2 := bytes_len2 hk hv [⟨k, u⟩]
 have b3 := bytes_len2 (k := kSes) (v := vDis) (by decide) (by decide) [⟨k, v⟩, ⟨k, u⟩]
 have b4 := bytes_len2 (k := kIni) (v := meL) (by decide) (by decide) [pSes, ⟨k, v⟩, ⟨k, u⟩]
 unfold pIni pSes at *
 omega
theorem six_pick (n : Nat) (hn : n < 6) : ∃ k, sixK[n]? = some k ∧ k ∈ sixK ∧ k.length ≤ 63 := by
 have h : ∀ n : Fin 6, ∃ k, sixK[n.val]? = some k ∧ k ∈ sixK ∧ k.length ≤ 63 := by
  intro n
  match n with
  | 0 => exact ⟨_, rfl, by decide, by decide⟩
  | 1 => exact ⟨_, rfl, by decide, by decide⟩
  | 2 => exact ⟨_, rfl, by decide, by decide⟩
  | 3 => exact ⟨_, rfl, by decide, by decide⟩
  | 4 => exact ⟨_, rfl, by decide, by decide⟩
  | 5 => exact ⟨_, rfl, by decide, by decide⟩
 exact h ⟨n, hn⟩
set_option maxRecDepth 100000 in
set_option maxHeartbeats 8000000 in
theorem loginTwice_any (a : Int) (v u : List UInt8) (late : Bool) (w : World) (wa : (Lit.int .i64 a).wf = true) (hv : v.length ≤ 140737488351232) (hu : u.length ≤ 140737488351232) (hE : EnvL w) :
  Calls Tryz.prog 8 #[.int .i64 a, .string (S v), .string (S u), .bool late] w fun e w' => e = .returned (.bool true) ∧ Below w.heap.size w w' := by
 have L_0 := Lib.hid (Below.refl w.heap.size w)
 have hE0 := Lib.hid hE
 have E_0 := Lib.hid (hE)
 clear hE
 have HC0 := Lib.hid conf0_ok
 have HVL := Lib.hid hv
 have HUL := Lib.hid hu
 clear hv hu
 go_enter Tryz.func8, Tryz.ntmps8
 have EN := entered_any w E_0.out
 replace EN := Lib.hid EN
 go_wp2_with fail
 refine EN.out.mono ?_
 rintro e w1 ⟨rfl, hb⟩
 clear EN
 have L_1 := Lib.hid (below_then L_0.out hb)
 have E_1 := Lib.hid (E_0.out.later hb)
 clear L_0 E_0
 clear hb
 have V1 := value_any2 v w1 (by have := HVL.out; omega)
 replace V1 := Lib.hid V1
 go_wp2_with fail
 refine V1.out.mono ?_
 rintro e w' ⟨rfl, rfl⟩
 clear V1
 cases hvv : isVal v with
 | false =>
  clear hvv
  go_wp2_with fail
  go_ret
  exact ⟨rfl, L_1.out⟩
 | true =>
  have HV := Lib.hid hvv
  clear hvv
  have V2 := value_any2 u w1 (by have := HUL.out; omega)
  replace V2 := Lib.hid V2
  go_wp2_with fail
  refine V2.out.mono ?_
  rintro e w' ⟨rfl, rfl⟩
  clear V2
  cases huu : isVal u with
  | false =>
   clear huu
   go_wp2_with fail
   go_ret
   exact ⟨rfl, L_1.out⟩
  | true =>
   have HU := Lib.hid huu
   clear huu
   obtain ⟨w2, hw2⟩ : ∃ x, w1.alloc (.cells #[.string (S [65, 117, 116, 104, 77, 101, 116, 104, 111, 100]), .string (S [67, 72, 65, 80, 95, 65]), .string (S [67, 72, 65, 80, 95, 73]), .string (S [67, 72, 65, 80, 95, 67]), .string (S [67, 72, 65, 80, 95, 78]), .string (S [67, 72, 65, 80, 95, 82])] 9) = x := ⟨_, rfl⟩
   have hb : Below w1.heap.size w1 w2 := by rw [← hw2]; exact (Below.refl _ _).alloc (Nat.le_refl _) _
   have hk : Blk w2 w1.heap.size #[.string (S [65, 117, 116, 104, 77, 101, 116, 104, 111, 100]), .string (S [67, 72, 65, 80, 95, 65]), .string (S [67, 72, 65, 80, 95, 73]), .string (S [67, 72, 65, 80, 95, 67]), .string (S [67, 72, 65, 80, 95, 78]), .string (S [67, 72, 65, 80, 95, 82])] 9 := by rw [← hw2]; exact Blk.new w1 _ _
   obtain ⟨sb, hsb⟩ : ∃ x, w1.heap.size = x := ⟨_, rfl⟩
   rw [hsb] at hk
   have hck : ∀ n : Nat, n < 6 → ∃ k, sixK[n]? = some k ∧ k ∈ sixK ∧ k.length ≤ 63 ∧ w2.cell? ⟨sb, n, none⟩ = some (.string (S k)) := fun n hn => by
    obtain ⟨k, h1, h2, h3⟩ := six_pick n hn
    refine ⟨k, h1, h2, h3, ?_⟩
    rw [hk.cell n]
    have e : ∀ m, (#[.string (S [65, 117, 116, 104, 77, 101, 116, 104, 111, 100]), .string (S [67, 72, 65, 80, 95, 65]), .string (S [67, 72, 65, 80, 95, 73]), .string (S [67, 72, 65, 80, 95, 67]), .string (S [67, 72, 65, 80, 95, 78]), .string (S [67, 72, 65, 80, 95, 82])] : Array Value)[m]? = (sixK[m]?).map (fun x => Value.string (S x)) := fun m => by
     rw [← List.getElem?_map, ← List.getElem?_toArray]; rfl
    rw [e, h1]; rfl
   clear hk
   have L_2 := Lib.hid (below_then L_1.out hb)
   have E_2 := Lib.hid (E_1.out.later hb)
   clear L_1 E_1
   clear hb
   obtain ⟨pn, hpn⟩ : ∃ x, pickI a 6 = x := ⟨_, rfl⟩
   have hp6 : pn < 6 := by rw [← hpn]; exact pickI_lt a 6 (by decide)
   have PK := pick_any a 6 w2 (by decide) (by decide)
   rw [hpn] at PK
   replace PK := Lib.hid PK
   obtain ⟨k, hk1, hk2, hk3, hk4⟩ := hck pn hp6
   have HK6 := Lib.hid hk2
   have HK3 := Lib.hid hk3
   clear hck hk1 hk2 hk3 hpn
   have hp6I : (pn : Int) < 6 := by omega
   go_wp2_with fail
   clear hw2
   refine PK.out.mono ?_
   rintro e w' ⟨rfl, rfl⟩
   clear PK
   have Q1 := pair_any [73, 110, 105, 116, 105, 97, 116, 111, 114, 78, 97, 109, 101] [109, 101] w2
   replace Q1 := Lib.hid Q1
   go_wp2_with fail
   refine Q1.out.mono ?_
   rintro e w3 ⟨rfl, hb⟩
   clear Q1
   have L_3 := Lib.hid (below_then L_2.out hb)
   have E_3 := Lib.hid (E_2.out.later hb)
   clear L_2 E_2
   clear hb
   have Q2 := pair_any [83, 101, 115, 115, 105, 111, 110, 84, 121, 112, 101] [68, 105, 115, 99, 111, 118, 101, 114, 121] w3
   replace Q2 := Lib.hid Q2
   go_wp2_with fail
   refine Q2.out.mono ?_
   rintro e w4 ⟨rfl, hb⟩
   clear Q2
   have L_4 := Lib.hid (below_then L_3.out hb)
   have E_4 := Lib.hid (E_3.out.later hb)
   clear L_3 E_3
   clear hb
   clear hk4
   have Q3 := pair_any k v w4
   replace Q3 := Lib.hid Q3
   go_wp2_with fail
   refine Q3.out.mono ?_
   rintro e w5 ⟨rfl, hb⟩
   clear Q3
   have L_5 := Lib.hid (below_then L_4.out hb)
   have E_5 := Lib.hid (E_4.out.later hb)
   clear L_4 E_4
   clear hb
   obtain ⟨w6, hw6⟩ : ∃ x, w5.alloc (.cells #[.string (S [73, 110, 105, 116, 105, 97, 116, 111, 114, 78, 97, 109, 101]), .string (S [109, 101]), .string (S [83, 101, 115, 115, 105, 111, 110, 84, 121, 112, 101]), .string (S [68, 105, 115, 99, 111, 118, 101, 114, 121]), .string (S k), .string (S v)] 61) = x := ⟨_, rfl⟩
   have hb : Below w5.heap.size w5 w6 := by rw [← hw6]; exact (Below.refl _ _).alloc (Nat.le_refl _) _
   have hk : Blk w6 w5.heap.size #[.string (S [73, 110, 105, 116, 105, 97, 116, 111, 114, 78, 97, 109, 101]), .string (S [109, 101]), .string (S [83, 101, 115, 115, 105, 111, 110, 84, 121, 112, 101]), .string (S [68, 105, 115, 99, 111, 118, 101, 114, 121]), .string (S k), .string (S v)] 61 := by rw [← hw6]; exact Blk.new w5 _ _
   have hbuf : PrBuf w.heap.size w6 (.slice (some ⟨w5.heap.size, 0, none⟩) 3 3) [pIni, pSes, ⟨k, v⟩] := by rw [← hw6]; exact lit_buf [pIni, pSes, ⟨k, v⟩] _ rfl L_5.out (by simp)
   obtain ⟨lb0, hlb0⟩ : ∃ x, w5.heap.size = x := ⟨_, rfl⟩
   rw [hlb0] at hbuf
   clear hk
   have L_6 := Lib.hid (below_then L_5.out hb)
   have E_6 := Lib.hid (E_5.out.later hb)
   clear L_5 E_5
   clear hb
   cases late with
   | true =>
    have HBUF := Lib.hid hbuf
    have HOKP := Lib.hid (show okPs [pIni, pSes, ⟨k, v⟩] from ok_cons (by kernel_rfl) (ok_cons (by kernel_rfl) (ok_cons (six_right HK6.out HV.out) ok_nil)))
    have HFITP := Lib.hid (show ∀ p ∈ ([pIni, pSes, ⟨k, v⟩] : List Pr), p.k.length ≤ 140737488355328 ∧ p.v.length ≤ 140737488355328 from fun p hp => by have := ok_lens HOKP.out p hp; omega)
    have HLENP := Lib.hid (prb3 HK3.out (valLen HV.out))
    clear hbuf
    have BW_0 := Lib.hid (Below.refl w6.heap.size w6)
    have C := conf_any w6
    unfold confV at C
    replace C := Lib.hid C
    go_wp2_with fail
    clear hw6
    refine C.out.mono ?_
    rintro e w7 ⟨vt, vp, rfl, hvc, hb⟩
    clear C
    have L_7 := Lib.hid (below_then L_6.out hb)
    have E_7 := Lib.hid (E_6.out.later hb)
    have BW_1 := Lib.hid (below_then BW_0.out hb)
    clear L_6 E_6 BW_0
    clear hb
    have VC_0 := Lib.hid (hvc)
    clear hvc
    have D := draw_any w7
    replace D := Lib.hid D
    go_wp2_with fail
    refine D.out.mono ?_
    rintro e w8 ⟨rfl, hb⟩
    clear D
    have L_8 := Lib.hid (below_then L_7.out hb)
    have E_8 := Lib.hid (E_7.out.later hb)
    have BW_2 := Lib.hid (below_then BW_1.out hb)
    have VC_1 := Lib.hid (VC_0.out.later hb)
    clear L_7 E_7 BW_1 VC_0
    clear hb
    have LB_0 := Lib.hid (L_8.out)
    have EB_0 := Lib.hid (E_8.out)
    have N := new_ls conf0 dw0 vt vp _ _ w8 VC_1.out conf0_fit EB_0.out new_conf0
    unfold confV at N
    replace N := Lib.hid N
    go_wp2_with fail
    refine N.out.mono ?_
    rintro e w9 ⟨lb, m, rfl, hL, -⟩
    clear N
    have L_9 := Lib.hid (below_then L_8.out hL.low)
    have E_9 := Lib.hid (E_8.out.later hL.low)
    have BW_3 := Lib.hid (below_then BW_2.out hL.low)
    have VC_2 := Lib.hid (VC_1.out.later hL.low)
    clear L_8 E_8 BW_2 VC_1
    clear VC_2
    have S_0 := Lib.hid (hL)
    clear hL
    have hp := (HBUF.out.later BW_3.out).prs
    clear BW_3
    have A := asks_any 4 [pIni, pSes, ⟨k, v⟩] _ w9 (by unfold I64; decide) hp ⟨by simp, HFITP.out⟩ E_9.out.env.mc
    rw [asks_req (by decide) HOKP.out (by simp)] at A
    unfold RetAsks pduV at A
    simp only at A
    obtain ⟨P, hP⟩ : ∃ P : Pd, (⟨reqH 4 0 0 9 0 5 1 77 0, [], prBytes [pIni, pSes, ⟨k, v⟩]⟩ : Pd) = P := ⟨_, rfl⟩
    have hpl := late_plain HK6.out HV.out
    rw [hP] at hpl
    rw [show (reqH 4 0 0 9 0 5 1 77 0 : Hd) = P.h by rw [← hP], show prBytes [pIni, pSes, ⟨k, v⟩] = P.d by rw [← hP]] at A
    have HPa := Lib.hid (show P.a = [] by rw [← hP])
    have HPf := Lib.hid (tw_fit hP.symm (by decide) HLENP.out)
    have HT1 := Lib.hid hpl.1
    have HW := Lib.hid hpl.2
    clear hpl hP
    replace A := Lib.hid A
    clear hp
    go_wp2_with fail
    refine A.out.mono ?_
    rintro e w10 ⟨vv, rfl, hvv, hown, hb⟩
    obtain ⟨pvP, cvP, rfl⟩ : ∃ p c, vv = .slice p P.h.vs.length c := by obtain ⟨p, c, h, _⟩ := hvv; exact ⟨p, c, h⟩
    have hPd : PduAt (offW (m.H lb) w10) P (.slice pvP P.h.vs.length cvP) (.slice none 0 0) := PduAt.offO hvv HPa.out hown S_0.out.fresh
    clear hvv hown A
    have L_10 := Lib.hid (below_then L_9.out hb)
    have E_10 := Lib.hid (E_9.out.later hb)
    have S_1 := Lib.hid (S_0.out.later hb)
    clear L_9 E_9 S_0
    clear hb
    have PP_0 := Lib.hid (hPd)
    clear hPd
    have hn : ¬ m.H lb w10.heap.size := fun hh => by have := S_1.out.fresh _ hh; omega
    obtain ⟨w11, hw11⟩ : ∃ x, w10.alloc (.cells #[.int .i64 P.h.op, .bool P.h.now, .int .i64 P.h.fl, .slice pvP P.h.vs.length cvP, .slice none 0 0, .string (S P.d)] 41) = x := ⟨_, rfl⟩
    have hb : Below w10.heap.size w10 w11 := by rw [← hw11]; exact (Below.refl _ _).alloc (Nat.le_refl _) _
    have hk : Blk w11 w10.heap.size #[.int .i64 P.h.op, .bool P.h.now, .int .i64 P.h.fl, .slice pvP P.h.vs.length cvP, .slice none 0 0, .string (S P.d)] 41 := by rw [← hw11]; exact Blk.new w10 _ _
    obtain ⟨bP, hbP⟩ : ∃ x, w10.heap.size = x := ⟨_, rfl⟩
    rw [hbP] at hk hn
    have L_11 := Lib.hid (below_then L_10.out hb)
    have E_11 := Lib.hid (E_10.out.later hb)
    have S_2 := Lib.hid (S_1.out.later hb)
    have PP_1 := Lib.hid (PP_0.out.later (Keeps.of hb _).off')
    clear L_10 E_10 S_1 PP_0
    clear hb
    have KP_0 := Lib.hid (hk)
    have NP_0 := Lib.hid (hn)
    clear hk hn
    obtain ⟨cKP0, cKP1, cKP2, cKP3, cKP4, cKP5⟩ := KP_0.out.six
    have hn : ¬ m.H lb w11.heap.size := fun hh => by have := S_2.out.fresh _ hh; omega
    have hone := pdus_one (t := 41) PP_1.out hn
    obtain ⟨w12, hw12⟩ : ∃ x, w11.alloc (.cells #[.int .i64 P.h.op, .bool P.h.now, .int .i64 P.h.fl, .slice pvP P.h.vs.length cvP, .slice none 0 0, .string (S P.d)] 41) = x := ⟨_, rfl⟩
    have hb : Below w11.heap.size w11 w12 := by rw [← hw12]; exact (Below.refl _ _).alloc (Nat.le_refl _) _
    have hk : Blk w12 w11.heap.size #[.int .i64 P.h.op, .bool P.h.now, .int .i64 P.h.fl, .slice pvP P.h.vs.length cvP, .slice none 0 0, .string (S P.d)] 41 := by rw [← hw12]; exact Blk.new w11 _ _
    rw [hw12] at hone
    clear hn hk
    have L_12 := Lib.hid (below_then L_11.out hb)
    have E_12 := Lib.hid (E_11.out.later hb)
    have S_3 := Lib.hid (S_2.out.later hb)
    have PP_2 := Lib.hid (PP_1.out.later (Keeps.of hb _).off')
    have KP_1 := Lib.hid (KP_0.out.later hb)
    clear L_11 E_11 S_2 PP_1 KP_0
    clear hb
    have KN := knock_any [P] _ S_3.out hone HPf.out (by simp) EB_0.out HC0.out dw0_ok
    rw [knock_one HT1.out.err] at KN
    obtain ⟨qbA, hqbA⟩ : ∃ x, w11.heap.size = x := ⟨_, rfl⟩
    rw [hqbA] at KN
    have hst := HT1.out.stat
    have hlen := HT1.out.len
    have hdat := HT1.out.data
    have hdon := HT1.out.don
    have hfld := HT1.out.fld
    have htgt := HT1.out.tgt
    have hdsc := HT1.out.dsc
    obtain ⟨⟨⟨A, nA⟩, s1⟩, hT⟩ : ∃ r, takeL conf0 dw0 (lg0 conf0) P = r := ⟨_, rfl⟩
    rw [hT] at hst hlen hdat hdon hfld htgt hdsc KN
    unfold RetKnock pduV at KN
    simp only at hst hlen hdat hdon hfld htgt hdsc KN
    replace KN := Lib.hid KN
    have HstA := Lib.hid hst
    have HlenA := Lib.hid hlen
    have HdatA := Lib.hid hdat
    have HdonA := Lib.hid hdon
    have HfldA := Lib.hid hfld
    have HtgtA := Lib.hid htgt
    have HdscA := Lib.hid hdsc
    have HTA := Lib.hid hT
    clear hone hst hlen hdat hdon hfld htgt hdsc hT
    go_wp2_with fail
    clear hw11 hw12
    clear cKP0 cKP1 cKP2 cKP3 cKP4 cKP5
    refine KN.out.mono ?_
    rintro e w13 ⟨m', qA, vv, va, rfl, hPA, hLS, hKK⟩
    clear KN
    have PP_3 := Lib.hid (PP_2.out.later hKK.off')
    have KP_2 := Lib.hid (KP_1.out.kp hKK NP_0.out)
    have L_13 := Lib.hid (below_then LB_0.out hLS.low)
    have E_13 := Lib.hid (EB_0.out.later hLS.low)
    have S_4 := Lib.hid (hLS)
    have NP_1 := Lib.hid (fun hh => (hKK.old _ hh).elim NP_0.out (fun h => by have := KP_1.out.lt; omega))
    clear PP_2 KP_1 L_12 E_12 S_3 NP_0
    obtain ⟨p3A, c3A, rfl⟩ : ∃ p c, vv = .slice p A.h.vs.length c := by obtain ⟨p, c, h, _⟩ := hPA.v; exact ⟨p, c, h⟩
    obtain ⟨p4A, c4A, rfl⟩ := hPA.a.form
    have PA_0 := Lib.hid (hPA)
    clear hPA hLS hKK
    have hn : ¬ m'.H lb w13.heap.size := fun hh => by have := S_4.out.fresh _ hh; omega
    obtain ⟨w14, hw14⟩ : ∃ x, w13.alloc (.cells #[.int .i64 A.h.op, .bool A.h.now, .int .i64 A.h.fl, .slice p3A A.h.vs.length c3A, .slice p4A A.a.length c4A, .string (S A.d)] 41) = x := ⟨_, rfl⟩
    have hb : Below w13.heap.size w13 w14 := by rw [← hw14]; exact (Below.refl _ _).alloc (Nat.le_refl _) _
    have hk : Blk w14 w13.heap.size #[.int .i64 A.h.op, .bool A.h.now, .int .i64 A.h.fl, .slice p3A A.h.vs.length c3A, .slice p4A A.a.length c4A, .string (S A.d)] 41 := by rw [← hw14]; exact Blk.new w13 _ _
    obtain ⟨bA, hbA⟩ : ∃ x, w13.heap.size = x := ⟨_, rfl⟩
    rw [hbA] at hk hn
    have L_14 := Lib.hid (below_then L_13.out hb)
    have E_14 := Lib.hid (E_13.out.later hb)
    have S_5 := Lib.hid (S_4.out.later hb)
    have PP_4 := Lib.hid (PP_3.out.later (Keeps.of hb _).off')
    have KP_3 := Lib.hid (KP_2.out.later hb)
    have PA_1 := Lib.hid (PA_0.out.later (Keeps.of hb _).off')
    clear L_13 E_13 S_4 PP_3 KP_2 PA_0
    clear hb
    have KA_0 := Lib.hid (hk)
    have NA_0 := Lib.hid (hn)
    clear hk hn
    obtain ⟨cx, hcx⟩ : ∃ cx, 4 * csgI P.h = cx := ⟨_, rfl⟩
    have hst : statR A = (cx, 2, 0) := by rw [HstA.out, HW.out, hcx]; rfl
    clear hcx
    have ST := status_any A _ _ w14 PA_1.out.off E_14.out.env.mc (by rw [HlenA.out]; decide)
    rw [hst] at ST
    unfold pduV at ST
    replace ST := Lib.hid ST
    obtain ⟨cKP0, cKP1, cKP2, cKP3, cKP4, cKP5⟩ := KP_3.out.six
    obtain ⟨cKA0, cKA1, cKA2, cKA3, cKA4, cKA5⟩ := KA_0.out.six
    go_wp2_with fail
    clear hw14
    clear cKP0 cKP1 cKP2 cKP3 cKP4 cKP5 cKA0 cKA1 cKA2 cKA3 cKA4 cKA5
    refine ST.out.mono ?_
    rintro e w15 ⟨rfl, hb⟩
    clear ST
    have L_15 := Lib.hid (below_then L_14.out hb)
    have E_15 := Lib.hid (E_14.out.later hb)
    have S_6 := Lib.hid (S_5.out.later hb)
    have PP_5 := Lib.hid (PP_4.out.later (Keeps.of hb _).off')
    have KP_4 := Lib.hid (KP_3.out.later hb)
    have PA_2 := Lib.hid (PA_1.out.later (Keeps.of hb _).off')
    have KA_1 := Lib.hid (KA_0.out.later hb)
    clear L_14 E_14 S_5 PP_4 KP_3 PA_1 KA_0
    clear hb
    obtain ⟨cKP0, cKP1, cKP2, cKP3, cKP4, cKP5⟩ := KP_4.out.six
    obtain ⟨cKA0, cKA1, cKA2, cKA3, cKA4, cKA5⟩ := KA_1.out.six
    go_wp2_with fail
    go_ret
    exact ⟨rfl, L_15.out⟩
   | false =>
    have BF_0 := Lib.hid (Below.refl w6.heap.size w6)
    have HBF0 := Lib.hid hbuf
    clear hbuf
    have Q4 := pair_any k u w6
    replace Q4 := Lib.hid Q4
    go_wp2_with fail
    clear hw6
    refine Q4.out.mono ?_
    rintro e w7 ⟨rfl, hb⟩
    clear Q4
    have L_7 := Lib.hid (below_then L_6.out hb)
    have E_7 := Lib.hid (E_6.out.later hb)
    have BF_1 := Lib.hid (below_then BF_0.out hb)
    clear L_6 E_6 BF_0
    clear hb
    have hbuf := HBF0.out.later BF_1.out
    clear BF_1
    obtain ⟨v2, wz, hrun, hbuf2, hlow2⟩ := lit_app k u L_7.out hbuf (by simp)
    have HL2 := Lib.hid hlow2
    have HBUF := Lib.hid (show PrBuf w.heap.size wz v2 [pIni, pSes, ⟨k, v⟩, ⟨k, u⟩] from hbuf2)
    have HE2 := Lib.hid (EnvL.later hE0.out hlow2)
    obtain ⟨p2, c2, rfl⟩ : ∃ p c, v2 = .slice p 4 c := by obtain ⟨p, c, h⟩ := hbuf2.form; exact ⟨p, c, h⟩
    have Hrun := Lib.hid hrun
    clear hbuf hbuf2 hlow2 hrun
    have HOKP := Lib.hid (show okPs [pIni, pSes, ⟨k, v⟩, ⟨k, u⟩] from ok_cons (by kernel_rfl) (ok_cons (by kernel_rfl) (ok_cons (six_right HK6.out HV.out) (ok_cons (six_right HK6.out HU.out) ok_nil))))
    have HFITP := Lib.hid (show ∀ p ∈ ([pIni, pSes, ⟨k, v⟩, ⟨k, u⟩] : List Pr), p.k.length ≤ 140737488355328 ∧ p.v.length ≤ 140737488355328 from fun p hp => by have := ok_lens HOKP.out p hp; omega)
    have HLENP := Lib.hid (prb4 HK3.out (valLen HV.out) (valLen HU.out))
    obtain ⟨w8, rfl⟩ : ∃ x, x = wz := ⟨_, rfl⟩
    have L_8 := HL2
    clear HL2 L_7
    have E_8 := HE2
    clear HE2 E_7
    have BW_0 := Lib.hid (Below.refl w8.heap.size w8)
    have C := conf_any w8
    unfold confV at C
    replace C := Lib.hid C
    go_wp2_with (at_builtin; refine Lib.wpList_append_run _ rfl _ _ _ _ rfl _ _ rfl rfl _ _ Hrun.out ?_)
    refine C.out.mono ?_
    rintro e w9 ⟨vt, vp, rfl, hvc, hb⟩
    clear C
    have L_9 := Lib.hid (below_then L_8.out hb)
    have E_9 := Lib.hid (E_8.out.later hb)
    have BW_1 := Lib.hid (below_then BW_0.out hb)
    clear L_8 E_8 BW_0
    clear hb
    have VC_0 := Lib.hid (hvc)
    clear hvc
    have D := draw_any w9
    replace D := Lib.hid D
    go_wp2_with fail
    refine D.out.mono ?_
    rintro e w10 ⟨rfl, hb⟩
    clear D
    have L_10 := Lib.hid (below_then L_9.out hb)
    have E_10 := Lib.hid (E_9.out.later hb)
    have BW_2 := Lib.hid (below_then BW_1.out hb)
    have VC_1 := Lib.hid (VC_0.out.later hb)
    clear L_9 E_9 BW_1 VC_0
    clear hb
    have LB_0 := Lib.hid (L_10.out)
    have EB_0 := Lib.hid (E_10.out)
    have N := new_ls conf0 dw0 vt vp _ _ w10 VC_1.out conf0_fit EB_0.out new_conf0
    unfold confV at N
    replace N := Lib.hid N
    go_wp2_with fail
    refine N.out.mono ?_
    rintro e w11 ⟨lb, m, rfl, hL, -⟩
    clear N
    have L_11 := Lib.hid (below_then L_10.out hL.low)
    have E_11 := Lib.hid (E_10.out.later hL.low)
    have BW_3 := Lib.hid (below_then BW_2.out hL.low)
    have VC_2 := Lib.hid (VC_1.out.later hL.low)
    clear L_10 E_10 BW_2 VC_1
    clear VC_2
    have S_0 := Lib.hid (hL)
    clear hL
    have hp := (HBUF.out.later BW_3.out).prs
    clear BW_3
    have A := asks_any 0 [pIni, pSes, ⟨k, v⟩, ⟨k, u⟩] _ w11 (by unfold I64; decide) hp ⟨by simp, HFITP.out⟩ E_11.out.env.mc
    rw [asks_req (by decide) HOKP.out (by simp)] at A
    unfold RetAsks pduV at A
    simp only at A
    obtain ⟨P, hP⟩ : ∃ P : Pd, (⟨reqH 0 0 0 9 0 5 1 77 0, [], prBytes [pIni, pSes, ⟨k, v⟩, ⟨k, u⟩]⟩ : Pd) = P := ⟨_, rfl⟩
    have hpl := twice_plain HK6.out HV.out HU.out
    rw [hP] at hpl
    rw [show (reqH 0 0 0 9 0 5 1 77 0 : Hd) = P.h by rw [← hP], show prBytes [pIni, pSes, ⟨k, v⟩, ⟨k, u⟩] = P.d by rw [← hP]] at A
    have HPa := Lib.hid (show P.a = [] by rw [← hP])
    have HPf := Lib.hid (tw_fit hP.symm (by decide) HLENP.out)
    have HT1 := Lib.hid hpl.1
    have HW := Lib.hid hpl.2
    clear hpl hP
    replace A := Lib.hid A
    clear hp
    go_wp2_with fail
    refine A.out.mono ?_
    rintro e w12 ⟨vv, rfl, hvv, hown, hb⟩
    obtain ⟨pvP, cvP, rfl⟩ : ∃ p c, vv = .slice p P.h.vs.length c := by obtain ⟨p, c, h, _⟩ := hvv; exact ⟨p, c, h⟩
    have hPd : PduAt (offW (m.H lb) w12) P (.slice pvP P.h.vs.length cvP) (.slice none 0 0) := PduAt.offO hvv HPa.out hown S_0.out.fresh
    clear hvv hown A
    have L_12 := Lib.hid (below_then L_11.out hb)
    have E_12 := Lib.hid (E_11.out.later hb)
    have S_1 := Lib.hid (S_0.out.later hb)
    clear L_11 E_11 S_0
    clear hb
    have PP_0 := Lib.hid (hPd)
    clear hPd
    have hn : ¬ m.H lb w12.heap.size := fun hh => by have := S_1.out.fresh _ hh; omega
    obtain ⟨w13, hw13⟩ : ∃ x, w12.alloc (.cells #[.int .i64 P.h.op, .bool P.h.now, .int .i64 P.h.fl, .slice pvP P.h.vs.length cvP, .slice none 0 0, .string (S P.d)] 41) = x := ⟨_, rfl⟩
    have hb : Below w12.heap.size w12 w13 := by rw [← hw13]; exact (Below.refl _ _).alloc (Nat.le_refl _) _
    have hk : Blk w13 w12.heap.size #[.int .i64 P.h.op, .bool P.h.now, .int .i64 P.h.fl, .slice pvP P.h.vs.length cvP, .slice none 0 0, .string (S P.d)] 41 := by rw [← hw13]; exact Blk.new w12 _ _
    obtain ⟨bP, hbP⟩ : ∃ x, w12.heap.size = x := ⟨_, rfl⟩
    rw [hbP] at hk hn
    have L_13 := Lib.hid (below_then L_12.out hb)
    have E_13 := Lib.hid (E_12.out.later hb)
    have S_2 := Lib.hid (S_1.out.later hb)
    have PP_1 := Lib.hid (PP_0.out.later (Keeps.of hb _).off')
    clear L_12 E_12 S_1 PP_0
    clear hb
    have KP_0 := Lib.hid (hk)
    have NP_0 := Lib.hid (hn)
    clear hk hn
    obtain ⟨cKP0, cKP1, cKP2, cKP3, cKP4, cKP5⟩ := KP_0.out.six
    have hn : ¬ m.H lb w13.heap.size := fun hh => by have := S_2.out.fresh _ hh; omega
    have hone := pdus_one (t := 41) PP_1.out hn
    obtain ⟨w14, hw14⟩ : ∃ x, w13.alloc (.cells #[.int .i64 P.h.op, .bool P.h.now, .int .i64 P.h.fl, .slice pvP P.h.vs.length cvP, .slice none 0 0, .string (S P.d)] 41) = x := ⟨_, rfl⟩
    have hb : Below w13.heap.size w13 w14 := by rw [← hw14]; exact (Below.refl _ _).alloc (Nat.le_refl _) _
    have hk : Blk w14 w13.heap.size #[.int .i64 P.h.op, .bool P.h.now, .int .i64 P.h.fl, .slice pvP P.h.vs.length cvP, .slice none 0 0, .string (S P.d)] 41 := by rw [← hw14]; exact Blk.new w13 _ _
    rw [hw14] at hone
    clear hn hk
    have L_14 := Lib.hid (below_then L_13.out hb)
    have E_14 := Lib.hid (E_13.out.later hb)
    have S_3 := Lib.hid (S_2.out.later hb)
    have PP_2 := Lib.hid (PP_1.out.later (Keeps.of hb _).off')
    have KP_1 := Lib.hid (KP_0.out.later hb)
    clear L_13 E_13 S_2 PP_1 KP_0
    clear hb
    have KN := knock_any [P] _ S_3.out hone HPf.out (by simp) EB_0.out HC0.out dw0_ok
    rw [knock_one HT1.out.err] at KN
    obtain ⟨qbA, hqbA⟩ : ∃ x, w13.heap.size = x := ⟨_, rfl⟩
    rw [hqbA] at KN
    have hst := HT1.out.stat
    have hlen := HT1.out.len
    have hdat := HT1.out.data
    have hdon := HT1.out.don
    have hfld := HT1.out.fld
    have htgt := HT1.out.tgt
    have hdsc := HT1.out.dsc
    obtain ⟨⟨⟨A, nA⟩, s1⟩, hT⟩ : ∃ r, takeL conf0 dw0 (lg0 conf0) P = r := ⟨_, rfl⟩
    rw [hT] at hst hlen hdat hdon hfld htgt hdsc KN
    unfold RetKnock pduV at KN
    simp only at hst hlen hdat hdon hfld htgt hdsc KN
    replace KN := Lib.hid KN
    have HstA := Lib.hid hst
    have HlenA := Lib.hid hlen
    have HdatA := Lib.hid hdat
    have HdonA := Lib.hid hdon
    have HfldA := Lib.hid hfld
    have HtgtA := Lib.hid htgt
    have HdscA := Lib.hid hdsc
    have HTA := Lib.hid hT
    clear hone hst hlen hdat hdon hfld htgt hdsc hT
    go_wp2_with fail
    clear hw13 hw14
    clear cKP0 cKP1 cKP2 cKP3 cKP4 cKP5
    refine KN.out.mono ?_
    rintro e w15 ⟨m', qA, vv, va, rfl, hPA, hLS, hKK⟩
    clear KN
    have PP_3 := Lib.hid (PP_2.out.later hKK.off')
    have KP_2 := Lib.hid (KP_1.out.kp hKK NP_0.out)
    have L_15 := Lib.hid (below_then LB_0.out hLS.low)
    have E_15 := Lib.hid (EB_0.out.later hLS.low)
    have S_4 := Lib.hid (hLS)
    have NP_1 := Lib.hid (fun hh => (hKK.old _ hh).elim NP_0.out (fun h => by have := KP_1.out.lt; omega))
    clear PP_2 KP_1 L_14 E_14 S_3 NP_0
    obtain ⟨p3A, c3A, rfl⟩ : ∃ p c, vv = .slice p A.h.vs.length c := by obtain ⟨p, c, h, _⟩ := hPA.v; exact ⟨p, c, h⟩
    obtain ⟨p4A, c4A, rfl⟩ := hPA.a.form
    have PA_0 := Lib.hid (hPA)
    clear hPA hLS hKK
    have hn : ¬ m'.H lb w15.heap.size := fun hh => by have := S_4.out.fresh _ hh; omega
    obtain ⟨w16, hw16⟩ : ∃ x, w15.alloc (.cells #[.int .i64 A.h.op, .bool A.h.now, .int .i64 A.h.fl, .slice p3A A.h.vs.length c3A, .slice p4A A.a.length c4A, .string (S A.d)] 41) = x := ⟨_, rfl⟩
    have hb : Below w15.heap.size w15 w16 := by rw [← hw16]; exact (Below.refl _ _).alloc (Nat.le_refl _) _
    have hk : Blk w16 w15.heap.size #[.int .i64 A.h.op, .bool A.h.now, .int .i64 A.h.fl, .slice p3A A.h.vs.length c3A, .slice p4A A.a.length c4A, .string (S A.d)] 41 := by rw [← hw16]; exact Blk.new w15 _ _
    obtain ⟨bA, hbA⟩ : ∃ x, w15.heap.size = x := ⟨_, rfl⟩
    rw [hbA] at hk hn
    have L_16 := Lib.hid (below_then L_15.out hb)
    have E_16 := Lib.hid (E_15.out.later hb)
    have S_5 := Lib.hid (S_4.out.later hb)
    have PP_4 := Lib.hid (PP_3.out.later (Keeps.of hb _).off')
    have KP_3 := Lib.hid (KP_2.out.later hb)
    have PA_1 := Lib.hid (PA_0.out.later (Keeps.of hb _).off')
    clear L_15 E_15 S_4 PP_3 KP_2 PA_0
    clear hb
    have KA_0 := Lib.hid (hk)
    have NA_0 := Lib.hid (hn)
    clear hk hn
    obtain ⟨cx, hcx⟩ : ∃ cx, 4 * csgI P.h = cx := ⟨_, rfl⟩
    have hst : statR A = (cx, 2, 0) := by rw [HstA.out, HW.out, hcx]; rfl
    clear hcx
    have ST := status_any A _ _ w16 PA_1.out.off E_16.out.env.mc (by rw [HlenA.out]; decide)
    rw [hst] at ST
    unfold pduV at ST
    replace ST := Lib.hid ST
    obtain ⟨cKP0, cKP1, cKP2, cKP3, cKP4, cKP5⟩ := KP_3.out.six
    obtain ⟨cKA0, cKA1, cKA2, cKA3, cKA4, cKA5⟩ := KA_0.out.six
    go_wp2_with fail
    clear hw16
    clear cKP0 cKP1 cKP2 cKP3 cKP4 cKP5 cKA0 cKA1 cKA2 cKA3 cKA4 cKA5
    refine ST.out.mono ?_
    rintro e w17 ⟨rfl, hb⟩
    clear ST
    have L_17 := Lib.hid (below_then L_16.out hb)
    have E_17 := Lib.hid (E_16.out.later hb)
    have S_6 := Lib.hid (S_5.out.later hb)
    have PP_5 := Lib.hid (PP_4.out.later (Keeps.of hb _).off')
    have KP_4 := Lib.hid (KP_3.out.later hb)
    have PA_2 := Lib.hid (PA_1.out.later (Keeps.of hb _).off')
    have KA_1 := Lib.hid (KA_0.out.later hb)
    clear L_16 E_16 S_5 PP_4 KP_3 PA_1 KA_0
    clear hb
    obtain ⟨cKP0, cKP1, cKP2, cKP3, cKP4, cKP5⟩ := KP_4.out.six
    obtain ⟨cKA0, cKA1, cKA2, cKA3, cKA4, cKA5⟩ := KA_1.out.six
    go_wp2_with fail
    go_ret
    exact ⟨rfl, L_17.out⟩
end Go.Proofs.YtmkebjdmkkjloaaGreatDoor
namespace Go.Proofs.YtmkebjdmkkjloaaGreatDoor
open Go.RowKit
def laidLoginTwice : List (String × DataW Unit) := [("math/bits.deBruijn32tab", Rows.laid_math_bits_deBruijn32tab), ("math/bits.deBruijn64tab", Rows.laid_math_bits_deBruijn64tab), ("internal/strconv.uint64pow10", Rows.laid_internal_strconv_uint64pow10), ("unicode/utf8.acceptRanges", Rows.laid_unicode_utf8_acceptRanges), ("errors.errorType", Rows.laid_errors_errorType), ("strconv.ErrRange", Rows.laid_strconv_ErrRange), ("strconv.ErrSyntax", Rows.laid_strconv_ErrSyntax), ("quaymaster/md5.numbers", Rows.laid_quaymaster_md5_numbers), ("quaymaster/md5.turns", Rows.laid_quaymaster_md5_turns), ("unicode/utf8.first", Rows.laid_unicode_utf8_first)]
def plainLoginTwice : List (String × DataW Unit) := [("math/bits.deBruijn32tab", Rows.laid_math_bits_deBruijn32tab), ("math/bits.deBruijn64tab", Rows.laid_math_bits_deBruijn64tab), ("internal/strconv.uint64pow10", Rows.laid_internal_strconv_uint64pow10), ("unicode/utf8.acceptRanges", Rows.laid_unicode_utf8_acceptRanges), ("strconv.ErrRange", Rows.laid_strconv_ErrRange), ("strconv.ErrSyntax", Rows.laid_strconv_ErrSyntax), ("quaymaster/md5.numbers", Rows.laid_quaymaster_md5_numbers), ("quaymaster/md5.turns", Rows.laid_quaymaster_md5_turns), ("unicode/utf8.first", Rows.laid_unicode_utf8_first)]
noncomputable def laidWorldLoginTwice (os : Os) : World := (laidWorld os).layVars Tryz.prog plainLoginTwice
set_option maxRecDepth 100000 in
theorem laidWorldLoginTwice_plain (os : Os) (args : Array Value) : laidMet Tryz.prog plainLoginTwice ((laidWorldLoginTwice os).forCall (fun _ _ => 0) ⟨#[], args, []⟩).memory := laidMet_lay (w0 := (laidWorld os)) args (by kernel_rfl) (by kernel_rfl)
set_option maxRecDepth 100000 in
theorem laidWorldLoginTwice_met (os : Os) (args : Array Value) : laidMetH Tryz.prog laidLoginTwice ((laidWorldLoginTwice os).forCall (fun _ _ => 0) ⟨#[], args, []⟩).memory :=
 laidMetH_of_parts (laidWorldLoginTwice_plain os args) (by kernel_rfl)
theorem laidWorldLoginTwice_os (os : Os) : (laidWorldLoginTwice os).os = os := World.layVars_os _ _ _
theorem partsLoginTwice {W : World} (h : laidMetH Tryz.prog laidLoginTwice W) : laidMet Tryz.prog [("math/bits.deBruijn32tab", Rows.laid_math_bits_deBruijn32tab), ("math/bits.deBruijn64tab", Rows.laid_math_bits_deBruijn64tab), ("internal/strconv.uint64pow10", Rows.laid_internal_strconv_uint64pow10), ("unicode/utf8.acceptRanges", Rows.laid_unicode_utf8_acceptRanges), ("strconv.ErrRange", Rows.laid_strconv_ErrRange), ("strconv.ErrSyntax", Rows.laid_strconv_ErrSyntax), ("quaymaster/md5.numbers", Rows.laid_quaymaster_md5_numbers), ("quaymaster/md5.turns", Rows.laid_quaymaster_md5_turns), ("unicode/utf8.first", Rows.laid_unicode_utf8_first)] W ∧ handlesMet Tryz.prog [("errors.errorType", Rows.laid_errors_errorType)] W := h
theorem errCell_LoginTwice {W : World} (h : laidMetH Tryz.prog laidLoginTwice W) : ErrCell W := errCell_of_handles (partsLoginTwice h).2 (List.mem_singleton.2 rfl)
theorem readsLoginTwice {W : World} (h : laidMetH Tryz.prog laidLoginTwice W) {n : String} {d : DataW Unit} (hm : (n, d) ∈ ([("math/bits.deBruijn32tab", Rows.laid_math_bits_deBruijn32tab), ("math/bits.deBruijn64tab", Rows.laid_math_bits_deBruijn64tab), ("internal/strconv.uint64pow10", Rows.laid_internal_strconv_uint64pow10), ("unicode/utf8.acceptRanges", Rows.laid_unicode_utf8_acceptRanges), ("strconv.ErrRange", Rows.laid_strconv_ErrRange), ("strconv.ErrSyntax", Rows.laid_strconv_ErrSyntax), ("quaymaster/md5.numbers", Rows.laid_quaymaster_md5_numbers), ("quaymaster/md5.turns", Rows.laid_quaymaster_md5_turns), ("unicode/utf8.first", Rows.laid_unicode_utf8_first)] : List (String × DataW Unit))) : Go.Lib.VarReads Tryz.prog W n d := Go.Lib.laidMet.reads (partsLoginTwice h).1 hm
theorem tabsLoginTwice {W : World} (h : laidMetH Tryz.prog laidLoginTwice W) : MdTabs W := mdTabs_of_reads (readsLoginTwice h (by simp)) (readsLoginTwice h (by simp))
end Go.Proofs.YtmkebjdmkkjloaaGreatDoor
namespace Go.Proofs.YtmkebjdmkkjloaaGreatDoor.loginTwice
open Go.ChangeShapes Go.WideShapes Go.ChangeAt Go.RowKit
open Go.ChangeMaps (open_string shut_string)
set_option linter.unusedVariables false
theorem own : ownKnob Tryz.prog.godebug = none := by kernel_rfl
theorem laidOut : laidOutB Tryz.prog = true := by kernel_rfl
set_option maxRecDepth 100000 in
theorem contract (H : Type) (enc : TypeId × Value → H) (W : World) (base : Nat) (args : Array Value) (ds gs : List (DataW H)) (before : List MemPlace)
  (hval : ∀ (j : Nat) t v, Tryz.f8.params[j]? = some t → args[j]? = some v → Value.okWide Tryz.prog W .any base t v)
  (hW : DataW.Whole enc Tryz.prog Tryz.f8.params.toList Rows.loginTwiceSpec.vars false W args.toList ds gs before)
  (hsz0 : (DataW.weightsEach Tryz.prog (Tryz.f8.params.toList ++ Rows.loginTwiceSpec.plain.varTypes Tryz.prog) (ds ++ gs)).all (· ≤ reachBytes) = true)
  (hL : laidMetH Tryz.prog Rows.loginTwiceRow.laid W) (hS : W.ShapedOpen Tryz.prog)
  : Calls Tryz.prog 8 args W fun e W' => ∃ v, e = .returned v ∧ Rows.loginTwiceSpec.post enc Tryz.prog Tryz.f8 false true false false W args v W' := by
 have hW' := hW
 obtain ⟨p, q, hA0, hV, rfl, hfz, hnd⟩ := hW
 have hsz : (DataW.weightsEach Tryz.prog (Tryz.f8.params.toList ++ Rows.loginTwiceSpec.plain.varTypes Tryz.prog) (ds ++ gs)).all (· ≤ reachBytes) = true := hsz0
 have hA : DataW.TrodAll enc Tryz.prog W 0 (fun _ => true) true Tryz.f8.params.toList args.toList ds p := hA0
 rw [Tryz.params8] at hA hval hsz
 obtain ⟨v0, vs0, d0, ds0, p0, q0, hargs, rfl, rfl, h0, r0⟩ := trodAll_cons hA
 obtain ⟨v1, vs1, d1, ds1, p1, q1, rfl, rfl, rfl, h1, r1⟩ := trodAll_cons r0
 obtain ⟨v2, vs2, d2, ds2, p2, q2, rfl, rfl, rfl, h2, r2⟩ := trodAll_cons r1
 obtain ⟨v3, vs3, d3, ds3, p3, q3, rfl, rfl, rfl, h3, r3⟩ := trodAll_cons r2
 obtain ⟨rfl, rfl, rfl⟩ := trodAll_nil r3
 obtain rfl : args = #[v0, v1, v2, v3] := by cases args; simp_all
 obtain ⟨rfl, rfl⟩ := trodVars_none hV
 obtain ⟨a0, rfl, rfl, rfl, wf0⟩ := open_int Tryz.underlying3 (hval 0 3 v0 rfl rfl) h0
 obtain ⟨s1, rfl, rfl, rfl, ws1⟩ := open_string Tryz.underlying9 (hval 1 9 v1 rfl rfl) h1
 have hz1 := sized_string hsz (j := 1) rfl rfl
 obtain ⟨l1, rfl⟩ := S_of s1
 have hb1 : l1.length ≤ 140737488351232 := by simpa [S, reachBytes] using hz1
 obtain ⟨s2, rfl, rfl, rfl, ws2⟩ := open_string Tryz.underlying9 (hval 2 9 v2 rfl rfl) h2
 have hz2 := sized_string hsz (j := 2) rfl rfl
 obtain ⟨l2, rfl⟩ := S_of s2
 have hb2 : l2.length ≤ 140737488351232 := by simpa [S, reachBytes] using hz2
 obtain ⟨b3, rfl, rfl, rfl⟩ := open_bool Tryz.underlying4 (hval 3 4 v3 rfl rfl) h3
 clear hA0 hsz0
 refine (loginTwice_any a0 l1 l2 b3 W wf0 hb1 hb2 (EnvL.mk (env_of hS (readsLoginTwice hL (by simp)) (readsLoginTwice hL (by simp)) (readsLoginTwice hL (by simp))) (errCell_LoginTwice hL) (tabsLoginTwice hL))).mono fun e W' ⟨he, bel⟩ => ?_
 subst he
 exact ⟨_, rfl, _, _, _, [], _, [], hW', trodAll_mk1 (shut_bool Tryz.underlying4 _), trodAll_cons_mk (shut_int Tryz.underlying3 wf0) (trodAll_cons_mk (shut_string Tryz.underlying9 ws1) (trodAll_cons_mk (shut_string Tryz.underlying9 ws2) (trodAll_cons_mk (shut_bool Tryz.underlying4 _) trodAll_mk0))), rfl, bel.frame _, fun h => by cases h⟩
theorem reads (os : Os) {H : Type} (enc : TypeId × Value → H) : ∃ places, DataW.whole enc Tryz.prog ((laidWorldLoginTwice os).forCall (fun _ _ => 0) ⟨#[], #[.int .i64 0, .string ⟨#[]⟩, .string ⟨#[]⟩, .bool false], []⟩).memory Tryz.f8.params.toList Rows.loginTwiceSpec.vars false (#[.int .i64 0, .string ⟨#[]⟩, .string ⟨#[]⟩, .bool false] : Array Value).toList 8 = some ([.lit (.int .i64 0), .lit (.string []), .lit (.string []), .lit (.bool false)], [], places) :=
 ⟨[], by kernel_rfl⟩
set_option maxRecDepth 100000 in
theorem lifted (os : Os) (started : os.Started) (H : Type) (enc : TypeId × Value → H) (F : Stop.Interp) :
  ReturnsInHanded {} Tryz.checked os 8 .any ((OpenSpec.ofChange Rows.loginTwiceSpec).preRow enc Tryz.prog Tryz.f8 Rows.loginTwiceRow.domain false Rows.loginTwiceRow.laid) (((OpenSpec.ofChange Rows.loginTwiceSpec).at F).post enc Tryz.prog Tryz.f8 false true false false) := by
 obtain ⟨places, hx⟩ := reads os enc
 refine returnsInHanded_of_row (C := Tryz.checked) (s := OpenSpec.ofChange Rows.loginTwiceSpec) own started (by kernel_rfl) Tryz.func8
  (witness_row_atRef (enc := enc) (C := Tryz.checked) false (laidWorldLoginTwice os) #[.int .i64 0, .string ⟨#[]⟩, .string ⟨#[]⟩, .bool false] (laidWorldLoginTwice_os os) (by kernel_rfl) (by kernel_rfl) (by kernel_rfl)
   (OpenSpec.preRow_of_cond 8 hx (by kernel_rfl) (fun k hk => by cases hk) (by kernel_rfl) (laidWorldLoginTwice_met os _))) ?_
 intro W base args ds gs before hval hW _ _ hsz hL hS _
 exact contract H enc W base args ds gs before hval hW hsz hL hS
theorem said : Rows.LoginTwiceSaid :=
 OpenClaim.holds_of_cond 8 Tryz.f8 rfl rfl rfl rfl rfl rfl rfl ⟨rfl, rfl, rfl, rfl, rfl⟩ rfl rfl rfl rfl rfl (by kernel_rfl) Tryz.func8 (by kernel_rfl)
  (of_decide_eq_true (by kernel_rfl)) (by unfold Func.isWrapper; first | (rw [if_pos (by decide +kernel)]; kernel_rfl) | (rw [if_neg (by decide +kernel)]; exact ⟨rfl, rfl⟩))
  (fun os started H enc _ F => by rw [OpenClaim.pre_eq_preRow]; exact lifted os started H enc F)
theorem plain (f : FuncId) (fn : Func) (hf : Tryz.pinned.checked.prog.funcNamed "quaymaster/quaymasterkeep.LoginTwice" = some f) (hfn : Tryz.pinned.checked.prog.funcs[f]? = some fn) :
  true = Tryz.pinned.checked.prog.looks [] ∧ ∀ (j : Nat) t, fn.params[j]? = some t → Tryz.pinned.checked.prog.wantsStandIn t = false := by
 obtain rfl : f = 8 := Option.some.inj ((show Tryz.prog.funcNamed "quaymaster/quaymasterkeep.LoginTwice" = some 8 by kernel_rfl).symm.trans hf) |>.symm
 obtain rfl : fn = Tryz.f8 := (Option.some.inj (Tryz.func8.symm.trans hfn)).symm
 refine ⟨by kernel_rfl, fun j t ht => ?_⟩
 rw [Tryz.params8] at ht
 have hm : t ∈ ([3, 9, 9, 4] : List TypeId) := by
  have := Array.mem_of_getElem? ht
  simpa using this
 have hall : ([3, 9, 9, 4] : List TypeId).all (fun t => !Tryz.prog.wantsStandIn t) = true := by kernel_rfl
 have hn := List.all_eq_true.1 hall t hm
 show Tryz.prog.wantsStandIn t = false
 simpa using hn
theorem proved : Rows.LoginTwiceCardSaid :=
 Claim7.holds_tied_plain_at .later [] _ _ _ _ said (fun _ h => by cases h) (by kernel_rfl) (fun _ h => by cases h) loginTwice_row_tie rfl ⟨rfl, rfl⟩ (by kernel_rfl) rfl plain (by kernel_rfl)
#print axioms proved
end Go.Proofs.YtmkebjdmkkjloaaGreatDoor.loginTwice
