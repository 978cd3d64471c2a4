/- LA44: several texts in one. -/
import Derived.Deep.CutBlock
import Derived.Deep.CutRange
import Derived.Test.YtmkebjdmkkjloaaGreatDoorLA01
import Derived.Test.YtmkebjdmkkjloaaGreatDoorLA16
import Derived.Test.YtmkebjdmkkjloaaGreatDoorLA41
import Derived.Test.YtmkebjdmkkjloaaGreatDoorLA42
import Derived.Test.YtmkebjdmkkjloaaGreatDoorLA43
namespace Go.Proofs.YtmkebjdmkkjloaaGreatDoor
open Go Go.RowKit
set_option linter.unusedVariables false
theorem nm_fit {p : Pd} {fl : Int} {x : List UInt8} (hp : p = ⟨reqH fl 0 0 9 0 5 1 77 0, [], x⟩) (hf : 0 ≤ fl ∧ fl ≤ 207) (hx : x.length ≤ 8192) : ∀ q ∈ [p], FitP q := fun q hq => by
 rw [List.mem_singleton.1 hq, hp]
 exact ⟨by show I64 fl; unfold I64; omega, by show 8 ≤ _; decide, ⟨Nat.zero_le _, fun _ h => absurd h List.not_mem_nil⟩, by show x.length ≤ _; omega⟩
theorem has_bits (n : Nat) (hn : n < 8) : ∃ b1 b2 b3 : Bool, ((bits .and .i64 (n : Int) 1 == 0) = !b1 ∧ decide (bits .and .i64 (n : Int) 1 = 0) = !b1 ∧ (bits .and .i64 (n : Int) 1 != 0) = b1) ∧ ((bits .and .i64 (n : Int) 2 == 0) = !b2 ∧ decide (bits .and .i64 (n : Int) 2 = 0) = !b2 ∧ (bits .and .i64 (n : Int) 2 != 0) = b2) ∧ ((bits .and .i64 (n : Int) 4 == 0) = !b3 ∧ decide (bits .and .i64 (n : Int) 4 = 0) = !b3 ∧ (bits .and .i64 (n : Int) 4 != 0) = b3) := by
 have f : ∀ k : Nat, k < 256 → bits .and .i64 (n : Int) (k : Int) = ((n &&& k : Nat) : Int) := fun k hk => i64_and_nat n k (by omega) (by omega)
 have f1 : bits .and .i64 (n : Int) 1 = ((n &&& 1 : Nat) : Int) := f 1 (by decide)
 have f2 : bits .and .i64 (n : Int) 2 = ((n &&& 2 : Nat) : Int) := f 2 (by decide)
 have f4 : bits .and .i64 (n : Int) 4 = ((n &&& 4 : Nat) : Int) := f 4 (by decide)
 rw [f1, f2, f4]
 have h : ∀ n : Fin 8, ∃ b1 b2 b3 : Bool, (((((n.val &&& 1 : Nat) : Int)) == 0) = !b1 ∧ decide ((((n.val &&& 1 : Nat) : Int)) = 0) = !b1 ∧ ((((n.val &&& 1 : Nat) : Int)) != 0) = b1) ∧ (((((n.val &&& 2 : Nat) : Int)) == 0) = !b2 ∧ decide ((((n.val &&& 2 : Nat) : Int)) = 0) = !b2 ∧ ((((n.val &&& 2 : Nat) : Int)) != 0) = b2) ∧ (((((n.val &&& 4 : Nat) : Int)) == 0) = !b3 ∧ decide ((((n.val &&& 4 : Nat) : Int)) = 0) = !b3 ∧ ((((n.val &&& 4 : Nat) : Int)) != 0) = b3) := by decide +kernel
 exact h ⟨n, hn⟩
theorem names_ways (b1 b2 b3 : Bool) (name kind tgn : List UInt8) :
  (b1 = false ∧ nameW b1 b2 b3 name kind tgn = 7) ∨ (b1 = true ∧ (name = [] ∧ nameW b1 b2 b3 name kind tgn = 7 ∨ (name == []) = false ∧
   ((b2 = true ∧ ((kind == vDis) = true ∧ nameW b1 b2 b3 name kind tgn = -1 ∨ (kind == vDis) = false ∧ ((kind == vNor) = false ∧ nameW b1 b2 b3 name kind tgn = 9 ∨ (kind == vNor) = true ∧ (b3 = false ∧ nameW b1 b2 b3 name kind tgn = 7 ∨ b3 = true ∧ (tgn = [] ∧ nameW b1 b2 b3 name kind tgn = 7 ∨ (tgn == []) = false ∧ (hasT conf0.ts tgn = false ∧ nameW b1 b2 b3 name kind tgn = 3 ∨ hasT conf0.ts tgn = true ∧ nameW b1 b2 b3 name kind tgn = -1)))))) ∨
    (b2 = false ∧ (b3 = false ∧ nameW b1 b2 b3 name kind tgn = 7 ∨ b3 = true ∧ (tgn = [] ∧ nameW b1 b2 b3 name kind tgn = 7 ∨ (tgn == []) = false ∧ (hasT conf0.ts tgn = false ∧ nameW b1 b2 b3 name kind tgn = 3 ∨ hasT conf0.ts tgn = true ∧ nameW b1 b2 b3 name kind tgn = -1))))))) := by
 unfold nameW
 cases b1 with
 | false => exact .inl ⟨rfl, by simp⟩
 | true =>
  refine .inr ⟨rfl, ?_⟩
  have hne : ¬ vNor = vDis := by decide
  by_cases h1 : name = []
  ·exact .inl ⟨h1, by simp [h1]⟩
  refine .inr ⟨by simpa using h1, ?_⟩
  cases b2 with
  | true =>
   refine .inl ⟨rfl, ?_⟩
   by_cases h2 : kind = vDis
   ·exact .inl ⟨by simpa using h2, by simp [h1, h2]⟩
   refine .inr ⟨by simpa using h2, ?_⟩
   by_cases h3 : kind = vNor
   ·refine .inr ⟨by simpa using h3, ?_⟩
    cases b3 with
    | false => exact .inl ⟨rfl, by simp [h1, h3, hne]⟩
    | true =>
     refine .inr ⟨rfl, ?_⟩
     by_cases h4 : tgn = []
     ·exact .inl ⟨h4, by simp [h1, h3, h4, hne]⟩
     refine .inr ⟨by simpa using h4, ?_⟩
     cases h5 : hasT conf0.ts tgn with
     | false => exact .inl ⟨rfl, by simp [h1, h3, h4, hne]⟩
     | true => exact .inr ⟨rfl, by simp [h1, h3, h4, hne]⟩
   ·exact .inl ⟨by simpa using h3, by simp [h1, h2, h3]⟩
  | false =>
   refine .inr ⟨rfl, ?_⟩
   cases b3 with
   | false => exact .inl ⟨rfl, by simp [h1]⟩
   | true =>
    refine .inr ⟨rfl, ?_⟩
    by_cases h4 : tgn = []
    ·exact .inl ⟨h4, by simp [h1, h4]⟩
    refine .inr ⟨by simpa using h4, ?_⟩
    cases h5 : hasT conf0.ts tgn with
    | false => exact .inl ⟨rfl, by simp [h1, h4]⟩
    | true => exact .inr ⟨rfl, by simp [h1, h4]⟩
def NmBuf (w W : World) (p : Option Addr) (n c : Nat) (l : List Pr) : Prop := n = l.length ∧ PrBuf w.heap.size W (.slice p n c) l ∧ Below w.heap.size w W
theorem NmBuf.of {w W : World} {p : Option Addr} {n c : Nat} {l m : List Pr} (h : PrBuf w.heap.size W (.slice p n c) l) (hb : Below w.heap.size w W) (e : l = m) : NmBuf w W p n c m := by
 subst e
 refine ⟨?_, h, hb⟩
 obtain ⟨p', c', e⟩ := h.form
 have := Value.slice.inj e
 exact this.2.1
set_option maxRecDepth 100000 in
set_option maxHeartbeats 16000000 in
theorem loginNames_any (name kind tgn : List UInt8) (a : Int) (w : World) (hv1 : name.length ≤ 140737488351232) (hv2 : kind.length ≤ 140737488351232) (hv3 : tgn.length ≤ 140737488351232) (wa : (Lit.int .i64 a).wf = true) (hE : EnvL w) :
  Calls Tryz.prog 5 #[.string (S name), .string (S kind), .string (S tgn), .int .i64 a] w fun e w' => e = .returned (.bool true) ∧ Below w.heap.size w w' := by
 have hE0 := Lib.hid hE
 have L_0 := Lib.hid (Below.refl w.heap.size w)
 have E_0 := Lib.hid (hE)
 clear hE
 have HC0 := Lib.hid conf0_ok
 have HVL1 := Lib.hid hv1
 have HVL2 := Lib.hid hv2
 have HVL3 := Lib.hid hv3
 clear hv1 hv2 hv3
 go_enter Tryz.func5, Tryz.ntmps5
 have EN := entered_any w E_0.out
 replace EN := Lib.hid EN
 go_wp2_with fail
 refine EN.out.mono ?_
 rintro e w1 ⟨rfl, hb⟩
 clear EN
 have L_1 := Lib.hid (below_then L_0.out hb)
 have E_1 := Lib.hid (E_0.out.later hb)
 clear L_0 E_0
 clear hb
 have V1 := value_any2 name w1 (by have := HVL1.out; omega)
 replace V1 := Lib.hid V1
 go_wp2_with fail
 refine V1.out.mono ?_
 rintro e w' ⟨rfl, rfl⟩
 clear V1
 cases hvv : isVal name with
 | false =>
  clear hvv
  go_wp2_with fail
  go_ret
  exact ⟨rfl, L_1.out⟩
 | true =>
  have HV1 := Lib.hid hvv
  clear hvv
  have V1 := value_any2 kind w1 (by have := HVL2.out; omega)
  replace V1 := Lib.hid V1
  go_wp2_with fail
  refine V1.out.mono ?_
  rintro e w' ⟨rfl, rfl⟩
  clear V1
  cases hvv : isVal kind with
  | false =>
   clear hvv
   go_wp2_with fail
   go_ret
   exact ⟨rfl, L_1.out⟩
  | true =>
   have HV2 := Lib.hid hvv
   clear hvv
   have V1 := value_any2 tgn w1 (by have := HVL3.out; omega)
   replace V1 := Lib.hid V1
   go_wp2_with fail
   refine V1.out.mono ?_
   rintro e w' ⟨rfl, rfl⟩
   clear V1
   cases hvv : isVal tgn with
   | false =>
    clear hvv
    go_wp2_with fail
    go_ret
    exact ⟨rfl, L_1.out⟩
   | true =>
    have HV3 := Lib.hid hvv
    clear hvv
    obtain ⟨pn, hpn⟩ : ∃ x, pickI a 8 = x := ⟨_, rfl⟩
    have hp8 : pn < 8 := by rw [← hpn]; exact pickI_lt a 8 (by decide)
    have PK := pick_any a 8 w1 (by decide) (by decide)
    rw [hpn] at PK
    replace PK := Lib.hid PK
    obtain ⟨b1, b2, b3, ⟨e1, d1, n1⟩, ⟨e2, d2, n2⟩, ⟨e3, d3, n3⟩⟩ := has_bits pn hp8
    clear hpn hp8
    go_wp2_with fail
    refine PK.out.mono ?_
    rintro e w' ⟨rfl, rfl⟩
    clear PK
    go_upto_if 44 with (fail)
    go_cut [9] from 45 to 49 (fun v W => ∃ p n c, v = .slice p n c ∧ NmBuf w W p n c (optP b1 kIni name))
    case first =>
     cases b1 with
     | false =>
      go_wp2_with fail
      go_meet
      exact ⟨none, 0, 0, rfl, NmBuf.of (PrBuf.nil _ _) L_1.out rfl⟩
     | true =>
      have Q1 := pair_any [73, 110, 105, 116, 105, 97, 116, 111, 114, 78, 97, 109, 101] name w1
      replace Q1 := Lib.hid Q1
      go_wp2_with fail
      refine Q1.out.mono ?_
      rintro e w2 ⟨rfl, hb⟩
      clear Q1
      obtain ⟨v2, wz, hrun, hbuf2, hlow2⟩ := lit_app (l := []) [73, 110, 105, 116, 105, 97, 116, 111, 114, 78, 97, 109, 101] name (below_then L_1.out hb) (PrBuf.nil _ _) (by simp)
      have hbuf3 : PrBuf w.heap.size wz v2 (optP true kIni name) := hbuf2
      obtain ⟨p2, c2, hf2⟩ := hbuf3.form
      obtain ⟨n2, hn2⟩ : ∃ x, (optP true kIni name).length = x := ⟨_, rfl⟩
      rw [hn2] at hf2
      subst hf2
      clear hn2
      have HB3 := Lib.hid hbuf3
      have HL3 := Lib.hid hlow2
      have Hrun := Lib.hid hrun
      clear hbuf2 hbuf3 hlow2 hrun hb
      go_wp2_with (at_builtin; refine Lib.wpList_append_run _ rfl _ _ _ _ rfl _ _ rfl rfl _ _ Hrun.out ?_)
      go_meet
      exact ⟨_, _, _, rfl, NmBuf.of HB3.out HL3.out rfl⟩
    case rest =>
     obtain ⟨p1, m1, c1, rfl, hml, hbuf, hlow⟩ := hcut
     obtain ⟨w2, rfl⟩ : ∃ x, x = wc := ⟨_, rfl⟩
     have HBUF1 := Lib.hid hbuf
     have L_2 := Lib.hid (hlow)
     clear L_1
     have E_2 := Lib.hid (EnvL.later hE0.out hlow)
     clear E_1
     have HLEN1 := Lib.hid (show (optP b1 kIni name).length ≤ 1000 by unfold optP; split <;> simp)
     have HM1 := Lib.hid hml
     clear hml
     clear hbuf hlow
     go_step
     go_step
     go_upto_if 52 with (fail)
     go_cut [9] from 53 to 57 (fun v W => ∃ p n c, v = .slice p n c ∧ NmBuf w W p n c (optP b1 kIni name ++ optP b2 kSes kind))
     case first =>
      cases b2 with
      | false =>
       go_wp2_with fail
       go_meet
       exact ⟨_, _, _, rfl, NmBuf.of HBUF1.out L_2.out (by rw [show optP false kSes kind = [] from rfl, List.append_nil])⟩
      | true =>
       have Q1 := pair_any [83, 101, 115, 115, 105, 111, 110, 84, 121, 112, 101] kind w2
       replace Q1 := Lib.hid Q1
       go_wp2_with fail
       refine Q1.out.mono ?_
       rintro e w3 ⟨rfl, hb⟩
       clear Q1
       obtain ⟨v2, wz, hrun, hbuf2, hlow2⟩ := lit_app (l := optP b1 kIni name) [83, 101, 115, 115, 105, 111, 110, 84, 121, 112, 101] kind (below_then L_2.out hb) (HBUF1.out.later hb) HLEN1.out
       have hbuf3 : PrBuf w.heap.size wz v2 (optP b1 kIni name ++ optP true kSes kind) := hbuf2
       obtain ⟨p2, c2, hf2⟩ := hbuf3.form
       obtain ⟨n2, hn2⟩ : ∃ x, (optP b1 kIni name ++ optP true kSes kind).length = x := ⟨_, rfl⟩
       rw [hn2] at hf2
       subst hf2
       clear hn2
       have HB3 := Lib.hid hbuf3
       have HL3 := Lib.hid hlow2
       have Hrun := Lib.hid hrun
       clear hbuf2 hbuf3 hlow2 hrun hb
       go_wp2_with (at_builtin; refine Lib.wpList_append_run _ rfl _ _ _ _ rfl _ _ rfl rfl _ _ Hrun.out ?_)
       go_meet
       exact ⟨_, _, _, rfl, NmBuf.of HB3.out HL3.out rfl⟩
     case rest =>
      obtain ⟨p2, m2, c2, rfl, hml, hbuf, hlow⟩ := hcut
      obtain ⟨w3, rfl⟩ : ∃ x, x = wc := ⟨_, rfl⟩
      have HBUF2 := Lib.hid hbuf
      have L_3 := Lib.hid (hlow)
      clear L_2
      have E_3 := Lib.hid (EnvL.later hE0.out hlow)
      clear E_2
      have HLEN2 := Lib.hid (show (optP b1 kIni name ++ optP b2 kSes kind).length ≤ 1000 by unfold optP; split <;> simp <;> split <;> simp)
      have HM2 := Lib.hid hml
      clear hml
      clear hbuf hlow HBUF1 HLEN1
      go_step
      go_step
      go_upto_if 60 with (fail)
      go_cut [9] from 61 to 65 (fun v W => ∃ p n c, v = .slice p n c ∧ NmBuf w W p n c (optP b1 kIni name ++ optP b2 kSes kind ++ optP b3 nmK tgn))
      case first =>
       cases b3 with
       | false =>
        go_wp2_with fail
        go_meet
        exact ⟨_, _, _, rfl, NmBuf.of HBUF2.out L_3.out (by rw [show optP false nmK tgn = [] from rfl, List.append_nil])⟩
       | true =>
        have Q1 := pair_any [84, 97, 114, 103, 101, 116, 78, 97, 109, 101] tgn w3
        replace Q1 := Lib.hid Q1
        go_wp2_with fail
        refine Q1.out.mono ?_
        rintro e w4 ⟨rfl, hb⟩
        clear Q1
        obtain ⟨v2, wz, hrun, hbuf2, hlow2⟩ := lit_app (l := optP b1 kIni name ++ optP b2 kSes kind) [84, 97, 114, 103, 101, 116, 78, 97, 109, 101] tgn (below_then L_3.out hb) (HBUF2.out.later hb) HLEN2.out
        have hbuf3 : PrBuf w.heap.size wz v2 (optP b1 kIni name ++ optP b2 kSes kind ++ optP true nmK tgn) := hbuf2
        obtain ⟨p2, c2, hf2⟩ := hbuf3.form
        obtain ⟨n2, hn2⟩ : ∃ x, (optP b1 kIni name ++ optP b2 kSes kind ++ optP true nmK tgn).length = x := ⟨_, rfl⟩
        rw [hn2] at hf2
        subst hf2
        clear hn2
        have HB3 := Lib.hid hbuf3
        have HL3 := Lib.hid hlow2
        have Hrun := Lib.hid hrun
        clear hbuf2 hbuf3 hlow2 hrun hb
        go_wp2_with (at_builtin; refine Lib.wpList_append_run _ rfl _ _ _ _ rfl _ _ rfl rfl _ _ Hrun.out ?_)
        go_meet
        exact ⟨_, _, _, rfl, NmBuf.of HB3.out HL3.out rfl⟩
      case rest =>
       obtain ⟨p3, m3, c3, rfl, hml, hbuf, hlow⟩ := hcut
       obtain ⟨w4, rfl⟩ : ∃ x, x = wc := ⟨_, rfl⟩
       have HBUF3 := Lib.hid hbuf
       have L_4 := Lib.hid (hlow)
       clear L_3
       have E_4 := Lib.hid (EnvL.later hE0.out hlow)
       clear E_3
       have HLEN3 := Lib.hid (show (optP b1 kIni name ++ optP b2 kSes kind ++ optP b3 nmK tgn).length ≤ 1000 by unfold optP; split <;> simp <;> split <;> split <;> simp)
       have HM3 := Lib.hid hml
       clear hml
       clear hbuf hlow HBUF2 HLEN2
       go_step
       go_step
       have hnm : optP b1 kIni name ++ optP b2 kSes kind ++ optP b3 nmK tgn = namesP b1 b2 b3 name kind tgn := rfl
       rw [hnm] at HBUF3
       obtain ⟨lst, hlst⟩ : ∃ x, namesP b1 b2 b3 name kind tgn = x := ⟨_, rfl⟩
       obtain ⟨hok, hl3, hx⟩ := names_ok (b1 := b1) (b2 := b2) (b3 := b3) HV1.out HV2.out HV3.out
       have hpl0 := names_plain (b1 := b1) (b2 := b2) (b3 := b3) HV1.out HV2.out HV3.out
       rw [hlst] at hok hl3 hx hpl0 HBUF3
       have HOKP := Lib.hid hok
       have HLENP := Lib.hid hx
       have HL3P := Lib.hid hl3
       have HFITP := Lib.hid (show ∀ p ∈ lst, p.k.length ≤ 140737488355328 ∧ p.v.length ≤ 140737488355328 from fun p hp => by have := ok_lens HOKP.out p hp; omega)
       have HPL := Lib.hid hpl0
       have WAYS := Lib.hid (names_ways b1 b2 b3 name kind tgn)
       clear hok hl3 hx hpl0
       clear hnm hlst HLEN3
       have BW_0 := Lib.hid (Below.refl w4.heap.size w4)
       have C := conf_any w4
       unfold confV at C
       replace C := Lib.hid C
       go_wp2_with fail
       refine C.out.mono ?_
       rintro e w5 ⟨vt, vp, rfl, hvc, hb⟩
       clear C
       have L_5 := Lib.hid (below_then L_4.out hb)
       have E_5 := Lib.hid (E_4.out.later hb)
       have BW_1 := Lib.hid (below_then BW_0.out hb)
       clear L_4 E_4 BW_0
       clear hb
       have VC_0 := Lib.hid (hvc)
       clear hvc
       have D := draw_any w5
       replace D := Lib.hid D
       go_wp2_with fail
       refine D.out.mono ?_
       rintro e w6 ⟨rfl, hb⟩
       clear D
       have L_6 := Lib.hid (below_then L_5.out hb)
       have E_6 := Lib.hid (E_5.out.later hb)
       have BW_2 := Lib.hid (below_then BW_1.out hb)
       have VC_1 := Lib.hid (VC_0.out.later hb)
       clear L_5 E_5 BW_1 VC_0
       clear hb
       have LB_0 := Lib.hid (L_6.out)
       have EB_0 := Lib.hid (E_6.out)
       have N := new_ls conf0 dw0 vt vp _ _ w6 VC_1.out conf0_fit EB_0.out new_conf0
       unfold confV at N
       replace N := Lib.hid N
       go_wp2_with fail
       refine N.out.mono ?_
       rintro e w7 ⟨lb, m, rfl, hL, -⟩
       clear N
       have L_7 := Lib.hid (below_then L_6.out hL.low)
       have E_7 := Lib.hid (E_6.out.later hL.low)
       have BW_3 := Lib.hid (below_then BW_2.out hL.low)
       have VC_2 := Lib.hid (VC_1.out.later hL.low)
       clear L_6 E_6 BW_2 VC_1
       clear VC_2
       have S_0 := Lib.hid (hL)
       clear hL
       have hp0 := (HBUF3.out.later BW_3.out).prs
       clear BW_3
       have A := asks_any 135 lst _ w7 (by unfold I64; decide) hp0 ⟨by have := HL3P.out; omega, HFITP.out⟩ E_7.out.env.mc
       rw [asks_req (by decide) HOKP.out (by have := HL3P.out; omega)] at A
       unfold RetAsks pduV at A
       simp only at A
       obtain ⟨P, hP⟩ : ∃ P : Pd, (⟨reqH 135 0 0 9 0 5 1 77 0, [], prBytes lst⟩ : Pd) = P := ⟨_, rfl⟩
       have hpl := HPL.out
       rw [hP] at hpl
       try simp only at hpl
       rw [show (reqH 135 0 0 9 0 5 1 77 0 : Hd) = P.h by rw [← hP], show prBytes lst = P.d by rw [← hP]] at A
       have HPa := Lib.hid (show P.a = [] by rw [← hP])
       have HPf := Lib.hid (nm_fit hP.symm (by decide) HLENP.out)
       have HT1 := Lib.hid hpl.1
       have HW := Lib.hid hpl.2
       clear hpl hP
       replace A := Lib.hid A
       clear hp0
       go_wp2_with fail
       refine A.out.mono ?_
       rintro e w8 ⟨vv, rfl, hvv, hown, hb⟩
       obtain ⟨pvP, cvP, rfl⟩ : ∃ p c, vv = .slice p P.h.vs.length c := by obtain ⟨p, c, h, _⟩ := hvv; exact ⟨p, c, h⟩
       have hPd : PduAt (offW (m.H lb) w8) P (.slice pvP P.h.vs.length cvP) (.slice none 0 0) := PduAt.offO hvv HPa.out hown S_0.out.fresh
       clear hvv hown A
       have L_8 := Lib.hid (below_then L_7.out hb)
       have E_8 := Lib.hid (E_7.out.later hb)
       have S_1 := Lib.hid (S_0.out.later hb)
       clear L_7 E_7 S_0
       clear hb
       have PP_0 := Lib.hid (hPd)
       clear hPd
       have hn : ¬ m.H lb w8.heap.size := fun hh => by have := S_1.out.fresh _ hh; omega
       obtain ⟨w9, hw9⟩ : ∃ x, w8.alloc (.cells #[.int .i64 P.h.op, .bool P.h.now, .int .i64 P.h.fl, .slice pvP P.h.vs.length cvP, .slice none 0 0, .string (S P.d)] 41) = x := ⟨_, rfl⟩
       have hb : Below w8.heap.size w8 w9 := by rw [← hw9]; exact (Below.refl _ _).alloc (Nat.le_refl _) _
       have hk : Blk w9 w8.heap.size #[.int .i64 P.h.op, .bool P.h.now, .int .i64 P.h.fl, .slice pvP P.h.vs.length cvP, .slice none 0 0, .string (S P.d)] 41 := by rw [← hw9]; exact Blk.new w8 _ _
       obtain ⟨bP, hbP⟩ : ∃ x, w8.heap.size = x := ⟨_, rfl⟩
       rw [hbP] at hk hn
       have L_9 := Lib.hid (below_then L_8.out hb)
       have E_9 := Lib.hid (E_8.out.later hb)
       have S_2 := Lib.hid (S_1.out.later hb)
       have PP_1 := Lib.hid (PP_0.out.later (Keeps.of hb _).off')
       clear L_8 E_8 S_1 PP_0
       clear hb
       have KP_0 := Lib.hid (hk)
       have NP_0 := Lib.hid (hn)
       clear hk hn
       obtain ⟨cKP0, cKP1, cKP2, cKP3, cKP4, cKP5⟩ := KP_0.out.six
       have hn : ¬ m.H lb w9.heap.size := fun hh => by have := S_2.out.fresh _ hh; omega
       have hone := pdus_one (t := 41) PP_1.out hn
       obtain ⟨w10, hw10⟩ : ∃ x, w9.alloc (.cells #[.int .i64 P.h.op, .bool P.h.now, .int .i64 P.h.fl, .slice pvP P.h.vs.length cvP, .slice none 0 0, .string (S P.d)] 41) = x := ⟨_, rfl⟩
       have hb : Below w9.heap.size w9 w10 := by rw [← hw10]; exact (Below.refl _ _).alloc (Nat.le_refl _) _
       have hk : Blk w10 w9.heap.size #[.int .i64 P.h.op, .bool P.h.now, .int .i64 P.h.fl, .slice pvP P.h.vs.length cvP, .slice none 0 0, .string (S P.d)] 41 := by rw [← hw10]; exact Blk.new w9 _ _
       rw [hw10] at hone
       clear hn hk
       have L_10 := Lib.hid (below_then L_9.out hb)
       have E_10 := Lib.hid (E_9.out.later hb)
       have S_3 := Lib.hid (S_2.out.later hb)
       have PP_2 := Lib.hid (PP_1.out.later (Keeps.of hb _).off')
       have KP_1 := Lib.hid (KP_0.out.later hb)
       clear L_9 E_9 S_2 PP_1 KP_0
       clear hb
       have KN := knock_any [P] _ S_3.out hone HPf.out (by simp) EB_0.out HC0.out dw0_ok
       rw [knock_one HT1.out.err] at KN
       obtain ⟨qbA, hqbA⟩ : ∃ x, w9.heap.size = x := ⟨_, rfl⟩
       rw [hqbA] at KN
       have hst := HT1.out.stat
       have hlen := HT1.out.len
       have hdat := HT1.out.data
       have hdon := HT1.out.don
       have hfld := HT1.out.fld
       have htgt := HT1.out.tgt
       have hdsc := HT1.out.dsc
       obtain ⟨⟨⟨A, nA⟩, s1⟩, hT⟩ : ∃ r, takeL conf0 dw0 (lg0 conf0) P = r := ⟨_, rfl⟩
       rw [hT] at hst hlen hdat hdon hfld htgt hdsc KN
       unfold RetKnock pduV at KN
       simp only at hst hlen hdat hdon hfld htgt hdsc KN
       replace KN := Lib.hid KN
       have HstA := Lib.hid hst
       have HlenA := Lib.hid hlen
       have HdatA := Lib.hid hdat
       have HdonA := Lib.hid hdon
       have HfldA := Lib.hid hfld
       have HtgtA := Lib.hid htgt
       have HdscA := Lib.hid hdsc
       have HTA := Lib.hid hT
       clear hone hst hlen hdat hdon hfld htgt hdsc hT
       go_wp2_with fail
       clear hw9 hw10
       clear cKP0 cKP1 cKP2 cKP3 cKP4 cKP5
       refine KN.out.mono ?_
       rintro e w11 ⟨m', qA, vv, va, rfl, hPA, hLS, hKK⟩
       clear KN
       have PP_3 := Lib.hid (PP_2.out.later hKK.off')
       have KP_2 := Lib.hid (KP_1.out.kp hKK NP_0.out)
       have L_11 := Lib.hid (below_then LB_0.out hLS.low)
       have E_11 := Lib.hid (EB_0.out.later hLS.low)
       have S_4 := Lib.hid (hLS)
       have NP_1 := Lib.hid (fun hh => (hKK.old _ hh).elim NP_0.out (fun h => by have := KP_1.out.lt; omega))
       clear PP_2 KP_1 L_10 E_10 S_3 NP_0
       obtain ⟨p3A, c3A, rfl⟩ : ∃ p c, vv = .slice p A.h.vs.length c := by obtain ⟨p, c, h, _⟩ := hPA.v; exact ⟨p, c, h⟩
       obtain ⟨p4A, c4A, rfl⟩ := hPA.a.form
       have PA_0 := Lib.hid (hPA)
       clear hPA hLS hKK
       have hn : ¬ m'.H lb w11.heap.size := fun hh => by have := S_4.out.fresh _ hh; omega
       obtain ⟨w12, hw12⟩ : ∃ x, w11.alloc (.cells #[.int .i64 A.h.op, .bool A.h.now, .int .i64 A.h.fl, .slice p3A A.h.vs.length c3A, .slice p4A A.a.length c4A, .string (S A.d)] 41) = x := ⟨_, rfl⟩
       have hb : Below w11.heap.size w11 w12 := by rw [← hw12]; exact (Below.refl _ _).alloc (Nat.le_refl _) _
       have hk : Blk w12 w11.heap.size #[.int .i64 A.h.op, .bool A.h.now, .int .i64 A.h.fl, .slice p3A A.h.vs.length c3A, .slice p4A A.a.length c4A, .string (S A.d)] 41 := by rw [← hw12]; exact Blk.new w11 _ _
       obtain ⟨bA, hbA⟩ : ∃ x, w11.heap.size = x := ⟨_, rfl⟩
       rw [hbA] at hk hn
       have L_12 := Lib.hid (below_then L_11.out hb)
       have E_12 := Lib.hid (E_11.out.later hb)
       have S_5 := Lib.hid (S_4.out.later hb)
       have PP_4 := Lib.hid (PP_3.out.later (Keeps.of hb _).off')
       have KP_3 := Lib.hid (KP_2.out.later hb)
       have PA_1 := Lib.hid (PA_0.out.later (Keeps.of hb _).off')
       clear L_11 E_11 S_4 PP_3 KP_2 PA_0
       clear hb
       have KA_0 := Lib.hid (hk)
       have NA_0 := Lib.hid (hn)
       clear hk hn
       obtain ⟨cx, hcx⟩ : ∃ cx, 4 * csgI P.h = cx := ⟨_, rfl⟩
       obtain ⟨fx, hfx⟩ : ∃ fx, (asksL conf0 dw0 P (lg0 conf0)).1.1 = fx := ⟨_, rfl⟩
       obtain ⟨wn, hwn⟩ : ∃ x, nameW b1 b2 b3 name kind tgn = x := ⟨_, rfl⟩
       obtain ⟨h1, h2, h3, h4⟩ := HW.out
       have hst := HstA.out
       have hdn := HdonA.out
       have hfd := HfldA.out
       have htg := HtgtA.out
       have hds := HdscA.out
       rw [h1, hcx, hfx] at hst
       rw [h2] at hdn
       rw [h3, h1, Bool.false_or] at hfd
       rw [← htg, ← hds] at h4
       have WY := WAYS.out
       rw [hwn] at hst hdn hfd h4 WY
       have HST := Lib.hid hst
       have HDN := Lib.hid hdn
       have HFD := Lib.hid hfd
       have H4 := Lib.hid h4
       have WAYS2 := Lib.hid WY
       clear hst hdn hfd htg hds h1 h2 h3 h4 WY hwn hcx hfx WAYS HW HPL
       rcases WAYS2.out with ⟨rfl, rfl⟩ | ⟨rfl, (⟨rfl, rfl⟩ | ⟨hn, (⟨rfl, (⟨hk, rfl⟩ | ⟨hk, (⟨hk2, rfl⟩ | ⟨hk2, (⟨rfl, rfl⟩ | ⟨rfl, (⟨rfl, rfl⟩ | ⟨ht, (⟨hh, rfl⟩ | ⟨hh, rfl⟩)⟩)⟩)⟩)⟩)⟩ | ⟨rfl, (⟨rfl, rfl⟩ | ⟨rfl, (⟨rfl, rfl⟩ | ⟨ht, (⟨hh, rfl⟩ | ⟨hh, rfl⟩)⟩)⟩)⟩)⟩)⟩
       ·have hst : statR A = (cx, 2, 7) := by rw [HST.out]; rfl
        have hdn : s1.don = false := by rw [HDN.out]; rfl
        have hfd : s1.fld = true := by rw [HFD.out]; rfl
        try unfold vDis at hk
        try unfold vNor at hk2
        clear HST HDN HFD H4 WAYS2 HstA HdonA HfldA HtgtA HdscA
        have ST := status_any A _ _ w12 PA_1.out.off E_12.out.env.mc (by rw [HlenA.out]; decide)
        rw [hst] at ST
        unfold pduV at ST
        replace ST := Lib.hid ST
        obtain ⟨cKP0, cKP1, cKP2, cKP3, cKP4, cKP5⟩ := KP_3.out.six
        obtain ⟨cKA0, cKA1, cKA2, cKA3, cKA4, cKA5⟩ := KA_0.out.six
        go_wp2_with fail
        clear hw12
        clear cKP0 cKP1 cKP2 cKP3 cKP4 cKP5 cKA0 cKA1 cKA2 cKA3 cKA4 cKA5
        refine ST.out.mono ?_
        rintro e w13 ⟨rfl, hb⟩
        clear ST
        have L_13 := Lib.hid (below_then L_12.out hb)
        have E_13 := Lib.hid (E_12.out.later hb)
        have S_6 := Lib.hid (S_5.out.later hb)
        have PP_5 := Lib.hid (PP_4.out.later (Keeps.of hb _).off')
        have KP_4 := Lib.hid (KP_3.out.later hb)
        have PA_2 := Lib.hid (PA_1.out.later (Keeps.of hb _).off')
        have KA_1 := Lib.hid (KA_0.out.later hb)
        clear L_12 E_12 S_5 PP_4 KP_3 PA_1 KA_0
        clear hb
        have OV := S_6.out.overS
        rw [hdn] at OV
        rw [hfd] at OV
        replace OV := Lib.hid OV
        go_wp2_with fail
        refine OV.out.mono ?_
        rintro e w14 ⟨rfl, hb⟩
        clear OV
        have L_14 := Lib.hid (below_then L_13.out hb)
        have E_14 := Lib.hid (E_13.out.later hb)
        have S_7 := Lib.hid (S_6.out.later hb)
        have PP_6 := Lib.hid (PP_5.out.later (Keeps.of hb _).off')
        have KP_5 := Lib.hid (KP_4.out.later hb)
        have PA_3 := Lib.hid (PA_2.out.later (Keeps.of hb _).off')
        have KA_2 := Lib.hid (KA_1.out.later hb)
        clear L_13 E_13 S_6 PP_5 KP_4 PA_2 KA_1
        clear hb
        obtain ⟨cKP0, cKP1, cKP2, cKP3, cKP4, cKP5⟩ := KP_5.out.six
        obtain ⟨cKA0, cKA1, cKA2, cKA3, cKA4, cKA5⟩ := KA_2.out.six
        go_wp2_with fail
        go_ret
        exact ⟨rfl, L_14.out⟩
       ·have hst : statR A = (cx, 2, 7) := by rw [HST.out]; rfl
        have hdn : s1.don = false := by rw [HDN.out]; rfl
        have hfd : s1.fld = true := by rw [HFD.out]; rfl
        try unfold vDis at hk
        try unfold vNor at hk2
        clear HST HDN HFD H4 WAYS2 HstA HdonA HfldA HtgtA HdscA
        have ST := status_any A _ _ w12 PA_1.out.off E_12.out.env.mc (by rw [HlenA.out]; decide)
        rw [hst] at ST
        unfold pduV at ST
        replace ST := Lib.hid ST
        obtain ⟨cKP0, cKP1, cKP2, cKP3, cKP4, cKP5⟩ := KP_3.out.six
        obtain ⟨cKA0, cKA1, cKA2, cKA3, cKA4, cKA5⟩ := KA_0.out.six
        go_wp2_with fail
        clear hw12
        clear cKP0 cKP1 cKP2 cKP3 cKP4 cKP5 cKA0 cKA1 cKA2 cKA3 cKA4 cKA5
        refine ST.out.mono ?_
        rintro e w13 ⟨rfl, hb⟩
        clear ST
        have L_13 := Lib.hid (below_then L_12.out hb)
        have E_13 := Lib.hid (E_12.out.later hb)
        have S_6 := Lib.hid (S_5.out.later hb)
        have PP_5 := Lib.hid (PP_4.out.later (Keeps.of hb _).off')
        have KP_4 := Lib.hid (KP_3.out.later hb)
        have PA_2 := Lib.hid (PA_1.out.later (Keeps.of hb _).off')
        have KA_1 := Lib.hid (KA_0.out.later hb)
        clear L_12 E_12 S_5 PP_4 KP_3 PA_1 KA_0
        clear hb
        have OV := S_6.out.overS
        rw [hdn] at OV
        rw [hfd] at OV
        replace OV := Lib.hid OV
        go_wp2_with fail
        refine OV.out.mono ?_
        rintro e w14 ⟨rfl, hb⟩
        clear OV
        have L_14 := Lib.hid (below_then L_13.out hb)
        have E_14 := Lib.hid (E_13.out.later hb)
        have S_7 := Lib.hid (S_6.out.later hb)
        have PP_6 := Lib.hid (PP_5.out.later (Keeps.of hb _).off')
        have KP_5 := Lib.hid (KP_4.out.later hb)
        have PA_3 := Lib.hid (PA_2.out.later (Keeps.of hb _).off')
        have KA_2 := Lib.hid (KA_1.out.later hb)
        clear L_13 E_13 S_6 PP_5 KP_4 PA_2 KA_1
        clear hb
        obtain ⟨cKP0, cKP1, cKP2, cKP3, cKP4, cKP5⟩ := KP_5.out.six
        obtain ⟨cKA0, cKA1, cKA2, cKA3, cKA4, cKA5⟩ := KA_2.out.six
        go_wp2_with fail
        go_ret
        exact ⟨rfl, L_14.out⟩
       ·have hst : statR A = (fx, 0, 0) := by rw [HST.out]; rfl
        have hdn : s1.don = true := by rw [HDN.out]; rfl
        have hfd : s1.fld = false := by rw [HFD.out]; rfl
        have h4 := H4.out rfl
        have htg : s1.tgt = [] ∧ s1.dsc = true := by
         have e := h4
         rw [if_pos ⟨rfl, by simpa using hk⟩] at e
         exact ⟨congrArg Prod.fst e, congrArg Prod.snd e⟩
        have htg1 := htg.1
        have htg2 := htg.2
        clear h4 htg
        try unfold vDis at hk
        try unfold vNor at hk2
        clear HST HDN HFD H4 WAYS2 HstA HdonA HfldA HtgtA HdscA
        have ST := status_any A _ _ w12 PA_1.out.off E_12.out.env.mc (by rw [HlenA.out]; decide)
        rw [hst] at ST
        unfold pduV at ST
        replace ST := Lib.hid ST
        obtain ⟨cKP0, cKP1, cKP2, cKP3, cKP4, cKP5⟩ := KP_3.out.six
        obtain ⟨cKA0, cKA1, cKA2, cKA3, cKA4, cKA5⟩ := KA_0.out.six
        go_wp2_with fail
        clear hw12
        clear cKP0 cKP1 cKP2 cKP3 cKP4 cKP5 cKA0 cKA1 cKA2 cKA3 cKA4 cKA5
        refine ST.out.mono ?_
        rintro e w13 ⟨rfl, hb⟩
        clear ST
        have L_13 := Lib.hid (below_then L_12.out hb)
        have E_13 := Lib.hid (E_12.out.later hb)
        have S_6 := Lib.hid (S_5.out.later hb)
        have PP_5 := Lib.hid (PP_4.out.later (Keeps.of hb _).off')
        have KP_4 := Lib.hid (KP_3.out.later hb)
        have PA_2 := Lib.hid (PA_1.out.later (Keeps.of hb _).off')
        have KA_1 := Lib.hid (KA_0.out.later hb)
        clear L_12 E_12 S_5 PP_4 KP_3 PA_1 KA_0
        clear hb
        have OV := S_6.out.overS
        rw [hdn] at OV
        rw [hfd] at OV
        replace OV := Lib.hid OV
        go_wp2_with fail
        refine OV.out.mono ?_
        rintro e w14 ⟨rfl, hb⟩
        clear OV
        have L_14 := Lib.hid (below_then L_13.out hb)
        have E_14 := Lib.hid (E_13.out.later hb)
        have S_7 := Lib.hid (S_6.out.later hb)
        have PP_6 := Lib.hid (PP_5.out.later (Keeps.of hb _).off')
        have KP_5 := Lib.hid (KP_4.out.later hb)
        have PA_3 := Lib.hid (PA_2.out.later (Keeps.of hb _).off')
        have KA_2 := Lib.hid (KA_1.out.later hb)
        clear L_13 E_13 S_6 PP_5 KP_4 PA_2 KA_1
        clear hb
        have WH := S_7.out.whoS
        rw [htg1] at WH
        rw [htg2] at WH
        replace WH := Lib.hid WH
        go_wp2_with fail
        refine WH.out.mono ?_
        rintro e w15 ⟨rfl, hb⟩
        clear WH
        have L_15 := Lib.hid (below_then L_14.out hb)
        have E_15 := Lib.hid (E_14.out.later hb)
        have S_8 := Lib.hid (S_7.out.later hb)
        have PP_7 := Lib.hid (PP_6.out.later (Keeps.of hb _).off')
        have KP_6 := Lib.hid (KP_5.out.later hb)
        have PA_4 := Lib.hid (PA_3.out.later (Keeps.of hb _).off')
        have KA_3 := Lib.hid (KA_2.out.later hb)
        clear L_14 E_14 S_7 PP_6 KP_5 PA_3 KA_2
        clear hb
        obtain ⟨cKP0, cKP1, cKP2, cKP3, cKP4, cKP5⟩ := KP_6.out.six
        obtain ⟨cKA0, cKA1, cKA2, cKA3, cKA4, cKA5⟩ := KA_3.out.six
        go_wp2_with fail
        go_ret
        exact ⟨rfl, L_15.out⟩
       ·have hst : statR A = (cx, 2, 9) := by rw [HST.out]; rfl
        have hdn : s1.don = false := by rw [HDN.out]; rfl
        have hfd : s1.fld = true := by rw [HFD.out]; rfl
        try unfold vDis at hk
        try unfold vNor at hk2
        clear HST HDN HFD H4 WAYS2 HstA HdonA HfldA HtgtA HdscA
        have ST := status_any A _ _ w12 PA_1.out.off E_12.out.env.mc (by rw [HlenA.out]; decide)
        rw [hst] at ST
        unfold pduV at ST
        replace ST := Lib.hid ST
        obtain ⟨cKP0, cKP1, cKP2, cKP3, cKP4, cKP5⟩ := KP_3.out.six
        obtain ⟨cKA0, cKA1, cKA2, cKA3, cKA4, cKA5⟩ := KA_0.out.six
        go_wp2_with fail
        clear hw12
        clear cKP0 cKP1 cKP2 cKP3 cKP4 cKP5 cKA0 cKA1 cKA2 cKA3 cKA4 cKA5
        refine ST.out.mono ?_
        rintro e w13 ⟨rfl, hb⟩
        clear ST
        have L_13 := Lib.hid (below_then L_12.out hb)
        have E_13 := Lib.hid (E_12.out.later hb)
        have S_6 := Lib.hid (S_5.out.later hb)
        have PP_5 := Lib.hid (PP_4.out.later (Keeps.of hb _).off')
        have KP_4 := Lib.hid (KP_3.out.later hb)
        have PA_2 := Lib.hid (PA_1.out.later (Keeps.of hb _).off')
        have KA_1 := Lib.hid (KA_0.out.later hb)
        clear L_12 E_12 S_5 PP_4 KP_3 PA_1 KA_0
        clear hb
        have OV := S_6.out.overS
        rw [hdn] at OV
        rw [hfd] at OV
        replace OV := Lib.hid OV
        go_wp2_with fail
        refine OV.out.mono ?_
        rintro e w14 ⟨rfl, hb⟩
        clear OV
        have L_14 := Lib.hid (below_then L_13.out hb)
        have E_14 := Lib.hid (E_13.out.later hb)
        have S_7 := Lib.hid (S_6.out.later hb)
        have PP_6 := Lib.hid (PP_5.out.later (Keeps.of hb _).off')
        have KP_5 := Lib.hid (KP_4.out.later hb)
        have PA_3 := Lib.hid (PA_2.out.later (Keeps.of hb _).off')
        have KA_2 := Lib.hid (KA_1.out.later hb)
        clear L_13 E_13 S_6 PP_5 KP_4 PA_2 KA_1
        clear hb
        obtain ⟨cKP0, cKP1, cKP2, cKP3, cKP4, cKP5⟩ := KP_5.out.six
        obtain ⟨cKA0, cKA1, cKA2, cKA3, cKA4, cKA5⟩ := KA_2.out.six
        go_wp2_with fail
        go_ret
        exact ⟨rfl, L_14.out⟩
       ·have hst : statR A = (cx, 2, 7) := by rw [HST.out]; rfl
        have hdn : s1.don = false := by rw [HDN.out]; rfl
        have hfd : s1.fld = true := by rw [HFD.out]; rfl
        try unfold vDis at hk
        try unfold vNor at hk2
        clear HST HDN HFD H4 WAYS2 HstA HdonA HfldA HtgtA HdscA
        have ST := status_any A _ _ w12 PA_1.out.off E_12.out.env.mc (by rw [HlenA.out]; decide)
        rw [hst] at ST
        unfold pduV at ST
        replace ST := Lib.hid ST
        obtain ⟨cKP0, cKP1, cKP2, cKP3, cKP4, cKP5⟩ := KP_3.out.six
        obtain ⟨cKA0, cKA1, cKA2, cKA3, cKA4, cKA5⟩ := KA_0.out.six
        go_wp2_with fail
        clear hw12
        clear cKP0 cKP1 cKP2 cKP3 cKP4 cKP5 cKA0 cKA1 cKA2 cKA3 cKA4 cKA5
        refine ST.out.mono ?_
        rintro e w13 ⟨rfl, hb⟩
        clear ST
        have L_13 := Lib.hid (below_then L_12.out hb)
        have E_13 := Lib.hid (E_12.out.later hb)
        have S_6 := Lib.hid (S_5.out.later hb)
        have PP_5 := Lib.hid (PP_4.out.later (Keeps.of hb _).off')
        have KP_4 := Lib.hid (KP_3.out.later hb)
        have PA_2 := Lib.hid (PA_1.out.later (Keeps.of hb _).off')
        have KA_1 := Lib.hid (KA_0.out.later hb)
        clear L_12 E_12 S_5 PP_4 KP_3 PA_1 KA_0
        clear hb
        have OV := S_6.out.overS
        rw [hdn] at OV
        rw [hfd] at OV
        replace OV := Lib.hid OV
        go_wp2_with fail
        refine OV.out.mono ?_
        rintro e w14 ⟨rfl, hb⟩
        clear OV
        have L_14 := Lib.hid (below_then L_13.out hb)
        have E_14 := Lib.hid (E_13.out.later hb)
        have S_7 := Lib.hid (S_6.out.later hb)
        have PP_6 := Lib.hid (PP_5.out.later (Keeps.of hb _).off')
        have KP_5 := Lib.hid (KP_4.out.later hb)
        have PA_3 := Lib.hid (PA_2.out.later (Keeps.of hb _).off')
        have KA_2 := Lib.hid (KA_1.out.later hb)
        clear L_13 E_13 S_6 PP_5 KP_4 PA_2 KA_1
        clear hb
        obtain ⟨cKP0, cKP1, cKP2, cKP3, cKP4, cKP5⟩ := KP_5.out.six
        obtain ⟨cKA0, cKA1, cKA2, cKA3, cKA4, cKA5⟩ := KA_2.out.six
        go_wp2_with fail
        go_ret
        exact ⟨rfl, L_14.out⟩
       ·have hst : statR A = (cx, 2, 7) := by rw [HST.out]; rfl
        have hdn : s1.don = false := by rw [HDN.out]; rfl
        have hfd : s1.fld = true := by rw [HFD.out]; rfl
        try unfold vDis at hk
        try unfold vNor at hk2
        clear HST HDN HFD H4 WAYS2 HstA HdonA HfldA HtgtA HdscA
        have ST := status_any A _ _ w12 PA_1.out.off E_12.out.env.mc (by rw [HlenA.out]; decide)
        rw [hst] at ST
        unfold pduV at ST
        replace ST := Lib.hid ST
        obtain ⟨cKP0, cKP1, cKP2, cKP3, cKP4, cKP5⟩ := KP_3.out.six
        obtain ⟨cKA0, cKA1, cKA2, cKA3, cKA4, cKA5⟩ := KA_0.out.six
        go_wp2_with fail
        clear hw12
        clear cKP0 cKP1 cKP2 cKP3 cKP4 cKP5 cKA0 cKA1 cKA2 cKA3 cKA4 cKA5
        refine ST.out.mono ?_
        rintro e w13 ⟨rfl, hb⟩
        clear ST
        have L_13 := Lib.hid (below_then L_12.out hb)
        have E_13 := Lib.hid (E_12.out.later hb)
        have S_6 := Lib.hid (S_5.out.later hb)
        have PP_5 := Lib.hid (PP_4.out.later (Keeps.of hb _).off')
        have KP_4 := Lib.hid (KP_3.out.later hb)
        have PA_2 := Lib.hid (PA_1.out.later (Keeps.of hb _).off')
        have KA_1 := Lib.hid (KA_0.out.later hb)
        clear L_12 E_12 S_5 PP_4 KP_3 PA_1 KA_0
        clear hb
        have OV := S_6.out.overS
        rw [hdn] at OV
        rw [hfd] at OV
        replace OV := Lib.hid OV
        go_wp2_with fail
        refine OV.out.mono ?_
        rintro e w14 ⟨rfl, hb⟩
        clear OV
        have L_14 := Lib.hid (below_then L_13.out hb)
        have E_14 := Lib.hid (E_13.out.later hb)
        have S_7 := Lib.hid (S_6.out.later hb)
        have PP_6 := Lib.hid (PP_5.out.later (Keeps.of hb _).off')
        have KP_5 := Lib.hid (KP_4.out.later hb)
        have PA_3 := Lib.hid (PA_2.out.later (Keeps.of hb _).off')
        have KA_2 := Lib.hid (KA_1.out.later hb)
        clear L_13 E_13 S_6 PP_5 KP_4 PA_2 KA_1
        clear hb
        obtain ⟨cKP0, cKP1, cKP2, cKP3, cKP4, cKP5⟩ := KP_5.out.six
        obtain ⟨cKA0, cKA1, cKA2, cKA3, cKA4, cKA5⟩ := KA_2.out.six
        go_wp2_with fail
        go_ret
        exact ⟨rfl, L_14.out⟩
       ·have hst : statR A = (cx, 2, 3) := by rw [HST.out]; rfl
        have hdn : s1.don = false := by rw [HDN.out]; rfl
        have hfd : s1.fld = true := by rw [HFD.out]; rfl
        try unfold vDis at hk
        try unfold vNor at hk2
        clear HST HDN HFD H4 WAYS2 HstA HdonA HfldA HtgtA HdscA
        have ST := status_any A _ _ w12 PA_1.out.off E_12.out.env.mc (by rw [HlenA.out]; decide)
        rw [hst] at ST
        unfold pduV at ST
        replace ST := Lib.hid ST
        obtain ⟨cKP0, cKP1, cKP2, cKP3, cKP4, cKP5⟩ := KP_3.out.six
        obtain ⟨cKA0, cKA1, cKA2, cKA3, cKA4, cKA5⟩ := KA_0.out.six
        go_wp2_with fail
        clear hw12
        clear cKP0 cKP1 cKP2 cKP3 cKP4 cKP5 cKA0 cKA1 cKA2 cKA3 cKA4 cKA5
        refine ST.out.mono ?_
        rintro e w13 ⟨rfl, hb⟩
        clear ST
        have L_13 := Lib.hid (below_then L_12.out hb)
        have E_13 := Lib.hid (E_12.out.later hb)
        have S_6 := Lib.hid (S_5.out.later hb)
        have PP_5 := Lib.hid (PP_4.out.later (Keeps.of hb _).off')
        have KP_4 := Lib.hid (KP_3.out.later hb)
        have PA_2 := Lib.hid (PA_1.out.later (Keeps.of hb _).off')
        have KA_1 := Lib.hid (KA_0.out.later hb)
        clear L_12 E_12 S_5 PP_4 KP_3 PA_1 KA_0
        clear hb
        have C := conf_any w13
        unfold confV at C
        replace C := Lib.hid C
        go_wp2_with fail
        refine C.out.mono ?_
        rintro e w14 ⟨vt2, vp2, rfl, hvc, hb⟩
        clear C
        have L_14 := Lib.hid (below_then L_13.out hb)
        have E_14 := Lib.hid (E_13.out.later hb)
        have S_7 := Lib.hid (S_6.out.later hb)
        have PP_6 := Lib.hid (PP_5.out.later (Keeps.of hb _).off')
        have KP_5 := Lib.hid (KP_4.out.later hb)
        have PA_3 := Lib.hid (PA_2.out.later (Keeps.of hb _).off')
        have KA_2 := Lib.hid (KA_1.out.later hb)
        clear L_13 E_13 S_6 PP_5 KP_4 PA_2 KA_1
        clear hb
        have TH := thas_any conf0 vt2 vp2 (.slice none 0 0) (.slice none 0 0) tgn w14 hvc.ts (by decide)
        unfold confV at TH
        rw [hh] at TH
        replace TH := Lib.hid TH
        clear hvc
        go_wp2_with fail
        refine TH.out.mono ?_
        rintro e w15 ⟨rfl, hb⟩
        clear TH
        have L_15 := Lib.hid (below_then L_14.out hb)
        have E_15 := Lib.hid (E_14.out.later hb)
        have S_8 := Lib.hid (S_7.out.later hb)
        have PP_7 := Lib.hid (PP_6.out.later (Keeps.of hb _).off')
        have KP_6 := Lib.hid (KP_5.out.later hb)
        have PA_4 := Lib.hid (PA_3.out.later (Keeps.of hb _).off')
        have KA_3 := Lib.hid (KA_2.out.later hb)
        clear L_14 E_14 S_7 PP_6 KP_5 PA_3 KA_2
        clear hb
        have OV := S_8.out.overS
        rw [hdn] at OV
        rw [hfd] at OV
        replace OV := Lib.hid OV
        go_wp2_with fail
        refine OV.out.mono ?_
        rintro e w16 ⟨rfl, hb⟩
        clear OV
        have L_16 := Lib.hid (below_then L_15.out hb)
        have E_16 := Lib.hid (E_15.out.later hb)
        have S_9 := Lib.hid (S_8.out.later hb)
        have PP_8 := Lib.hid (PP_7.out.later (Keeps.of hb _).off')
        have KP_7 := Lib.hid (KP_6.out.later hb)
        have PA_5 := Lib.hid (PA_4.out.later (Keeps.of hb _).off')
        have KA_4 := Lib.hid (KA_3.out.later hb)
        clear L_15 E_15 S_8 PP_7 KP_6 PA_4 KA_3
        clear hb
        obtain ⟨cKP0, cKP1, cKP2, cKP3, cKP4, cKP5⟩ := KP_7.out.six
        obtain ⟨cKA0, cKA1, cKA2, cKA3, cKA4, cKA5⟩ := KA_4.out.six
        go_wp2_with fail
        go_ret
        exact ⟨rfl, L_16.out⟩
       ·have hst : statR A = (fx, 0, 0) := by rw [HST.out]; rfl
        have hdn : s1.don = true := by rw [HDN.out]; rfl
        have hfd : s1.fld = false := by rw [HFD.out]; rfl
        have h4 := H4.out rfl
        have htg : s1.tgt = tgn ∧ s1.dsc = false := by
         have e := h4
         rw [if_neg (by rintro ⟨x, y⟩; first | (exact absurd x (by decide)) | (simp [y] at hk))] at e
         exact ⟨congrArg Prod.fst e, congrArg Prod.snd e⟩
        have htg1 := htg.1
        have htg2 := htg.2
        clear h4 htg
        try unfold vDis at hk
        try unfold vNor at hk2
        clear HST HDN HFD H4 WAYS2 HstA HdonA HfldA HtgtA HdscA
        have ST := status_any A _ _ w12 PA_1.out.off E_12.out.env.mc (by rw [HlenA.out]; decide)
        rw [hst] at ST
        unfold pduV at ST
        replace ST := Lib.hid ST
        obtain ⟨cKP0, cKP1, cKP2, cKP3, cKP4, cKP5⟩ := KP_3.out.six
        obtain ⟨cKA0, cKA1, cKA2, cKA3, cKA4, cKA5⟩ := KA_0.out.six
        go_wp2_with fail
        clear hw12
        clear cKP0 cKP1 cKP2 cKP3 cKP4 cKP5 cKA0 cKA1 cKA2 cKA3 cKA4 cKA5
        refine ST.out.mono ?_
        rintro e w13 ⟨rfl, hb⟩
        clear ST
        have L_13 := Lib.hid (below_then L_12.out hb)
        have E_13 := Lib.hid (E_12.out.later hb)
        have S_6 := Lib.hid (S_5.out.later hb)
        have PP_5 := Lib.hid (PP_4.out.later (Keeps.of hb _).off')
        have KP_4 := Lib.hid (KP_3.out.later hb)
        have PA_2 := Lib.hid (PA_1.out.later (Keeps.of hb _).off')
        have KA_1 := Lib.hid (KA_0.out.later hb)
        clear L_12 E_12 S_5 PP_4 KP_3 PA_1 KA_0
        clear hb
        have C := conf_any w13
        unfold confV at C
        replace C := Lib.hid C
        go_wp2_with fail
        refine C.out.mono ?_
        rintro e w14 ⟨vt2, vp2, rfl, hvc, hb⟩
        clear C
        have L_14 := Lib.hid (below_then L_13.out hb)
        have E_14 := Lib.hid (E_13.out.later hb)
        have S_7 := Lib.hid (S_6.out.later hb)
        have PP_6 := Lib.hid (PP_5.out.later (Keeps.of hb _).off')
        have KP_5 := Lib.hid (KP_4.out.later hb)
        have PA_3 := Lib.hid (PA_2.out.later (Keeps.of hb _).off')
        have KA_2 := Lib.hid (KA_1.out.later hb)
        clear L_13 E_13 S_6 PP_5 KP_4 PA_2 KA_1
        clear hb
        have TH := thas_any conf0 vt2 vp2 (.slice none 0 0) (.slice none 0 0) tgn w14 hvc.ts (by decide)
        unfold confV at TH
        rw [hh] at TH
        replace TH := Lib.hid TH
        clear hvc
        go_wp2_with fail
        refine TH.out.mono ?_
        rintro e w15 ⟨rfl, hb⟩
        clear TH
        have L_15 := Lib.hid (below_then L_14.out hb)
        have E_15 := Lib.hid (E_14.out.later hb)
        have S_8 := Lib.hid (S_7.out.later hb)
        have PP_7 := Lib.hid (PP_6.out.later (Keeps.of hb _).off')
        have KP_6 := Lib.hid (KP_5.out.later hb)
        have PA_4 := Lib.hid (PA_3.out.later (Keeps.of hb _).off')
        have KA_3 := Lib.hid (KA_2.out.later hb)
        clear L_14 E_14 S_7 PP_6 KP_5 PA_3 KA_2
        clear hb
        have OV := S_8.out.overS
        rw [hdn] at OV
        rw [hfd] at OV
        replace OV := Lib.hid OV
        go_wp2_with fail
        refine OV.out.mono ?_
        rintro e w16 ⟨rfl, hb⟩
        clear OV
        have L_16 := Lib.hid (below_then L_15.out hb)
        have E_16 := Lib.hid (E_15.out.later hb)
        have S_9 := Lib.hid (S_8.out.later hb)
        have PP_8 := Lib.hid (PP_7.out.later (Keeps.of hb _).off')
        have KP_7 := Lib.hid (KP_6.out.later hb)
        have PA_5 := Lib.hid (PA_4.out.later (Keeps.of hb _).off')
        have KA_4 := Lib.hid (KA_3.out.later hb)
        clear L_15 E_15 S_8 PP_7 KP_6 PA_4 KA_3
        clear hb
        have WH := S_9.out.whoS
        rw [htg1] at WH
        rw [htg2] at WH
        replace WH := Lib.hid WH
        go_wp2_with fail
        refine WH.out.mono ?_
        rintro e w17 ⟨rfl, hb⟩
        clear WH
        have L_17 := Lib.hid (below_then L_16.out hb)
        have E_17 := Lib.hid (E_16.out.later hb)
        have S_10 := Lib.hid (S_9.out.later hb)
        have PP_9 := Lib.hid (PP_8.out.later (Keeps.of hb _).off')
        have KP_8 := Lib.hid (KP_7.out.later hb)
        have PA_6 := Lib.hid (PA_5.out.later (Keeps.of hb _).off')
        have KA_5 := Lib.hid (KA_4.out.later hb)
        clear L_16 E_16 S_9 PP_8 KP_7 PA_5 KA_4
        clear hb
        obtain ⟨cKP0, cKP1, cKP2, cKP3, cKP4, cKP5⟩ := KP_8.out.six
        obtain ⟨cKA0, cKA1, cKA2, cKA3, cKA4, cKA5⟩ := KA_5.out.six
        go_wp2_with fail
        go_ret
        exact ⟨rfl, L_17.out⟩
       ·have hst : statR A = (cx, 2, 7) := by rw [HST.out]; rfl
        have hdn : s1.don = false := by rw [HDN.out]; rfl
        have hfd : s1.fld = true := by rw [HFD.out]; rfl
        try unfold vDis at hk
        try unfold vNor at hk2
        clear HST HDN HFD H4 WAYS2 HstA HdonA HfldA HtgtA HdscA
        have ST := status_any A _ _ w12 PA_1.out.off E_12.out.env.mc (by rw [HlenA.out]; decide)
        rw [hst] at ST
        unfold pduV at ST
        replace ST := Lib.hid ST
        obtain ⟨cKP0, cKP1, cKP2, cKP3, cKP4, cKP5⟩ := KP_3.out.six
        obtain ⟨cKA0, cKA1, cKA2, cKA3, cKA4, cKA5⟩ := KA_0.out.six
        go_wp2_with fail
        clear hw12
        clear cKP0 cKP1 cKP2 cKP3 cKP4 cKP5 cKA0 cKA1 cKA2 cKA3 cKA4 cKA5
        refine ST.out.mono ?_
        rintro e w13 ⟨rfl, hb⟩
        clear ST
        have L_13 := Lib.hid (below_then L_12.out hb)
        have E_13 := Lib.hid (E_12.out.later hb)
        have S_6 := Lib.hid (S_5.out.later hb)
        have PP_5 := Lib.hid (PP_4.out.later (Keeps.of hb _).off')
        have KP_4 := Lib.hid (KP_3.out.later hb)
        have PA_2 := Lib.hid (PA_1.out.later (Keeps.of hb _).off')
        have KA_1 := Lib.hid (KA_0.out.later hb)
        clear L_12 E_12 S_5 PP_4 KP_3 PA_1 KA_0
        clear hb
        have OV := S_6.out.overS
        rw [hdn] at OV
        rw [hfd] at OV
        replace OV := Lib.hid OV
        go_wp2_with fail
        refine OV.out.mono ?_
        rintro e w14 ⟨rfl, hb⟩
        clear OV
        have L_14 := Lib.hid (below_then L_13.out hb)
        have E_14 := Lib.hid (E_13.out.later hb)
        have S_7 := Lib.hid (S_6.out.later hb)
        have PP_6 := Lib.hid (PP_5.out.later (Keeps.of hb _).off')
        have KP_5 := Lib.hid (KP_4.out.later hb)
        have PA_3 := Lib.hid (PA_2.out.later (Keeps.of hb _).off')
        have KA_2 := Lib.hid (KA_1.out.later hb)
        clear L_13 E_13 S_6 PP_5 KP_4 PA_2 KA_1
        clear hb
        obtain ⟨cKP0, cKP1, cKP2, cKP3, cKP4, cKP5⟩ := KP_5.out.six
        obtain ⟨cKA0, cKA1, cKA2, cKA3, cKA4, cKA5⟩ := KA_2.out.six
        go_wp2_with fail
        go_ret
        exact ⟨rfl, L_14.out⟩
       ·have hst : statR A = (cx, 2, 7) := by rw [HST.out]; rfl
        have hdn : s1.don = false := by rw [HDN.out]; rfl
        have hfd : s1.fld = true := by rw [HFD.out]; rfl
        try unfold vDis at hk
        try unfold vNor at hk2
        clear HST HDN HFD H4 WAYS2 HstA HdonA HfldA HtgtA HdscA
        have ST := status_any A _ _ w12 PA_1.out.off E_12.out.env.mc (by rw [HlenA.out]; decide)
        rw [hst] at ST
        unfold pduV at ST
        replace ST := Lib.hid ST
        obtain ⟨cKP0, cKP1, cKP2, cKP3, cKP4, cKP5⟩ := KP_3.out.six
        obtain ⟨cKA0, cKA1, cKA2, cKA3, cKA4, cKA5⟩ := KA_0.out.six
        go_wp2_with fail
        clear hw12
        clear cKP0 cKP1 cKP2 cKP3 cKP4 cKP5 cKA0 cKA1 cKA2 cKA3 cKA4 cKA5
        refine ST.out.mono ?_
        rintro e w13 ⟨rfl, hb⟩
        clear ST
        have L_13 := Lib.hid (below_then L_12.out hb)
        have E_13 := Lib.hid (E_12.out.later hb)
        have S_6 := Lib.hid (S_5.out.later hb)
        have PP_5 := Lib.hid (PP_4.out.later (Keeps.of hb _).off')
        have KP_4 := Lib.hid (KP_3.out.later hb)
        have PA_2 := Lib.hid (PA_1.out.later (Keeps.of hb _).off')
        have KA_1 := Lib.hid (KA_0.out.later hb)
        clear L_12 E_12 S_5 PP_4 KP_3 PA_1 KA_0
        clear hb
        have OV := S_6.out.overS
        rw [hdn] at OV
        rw [hfd] at OV
        replace OV := Lib.hid OV
        go_wp2_with fail
        refine OV.out.mono ?_
        rintro e w14 ⟨rfl, hb⟩
        clear OV
        have L_14 := Lib.hid (below_then L_13.out hb)
        have E_14 := Lib.hid (E_13.out.later hb)
        have S_7 := Lib.hid (S_6.out.later hb)
        have PP_6 := Lib.hid (PP_5.out.later (Keeps.of hb _).off')
        have KP_5 := Lib.hid (KP_4.out.later hb)
        have PA_3 := Lib.hid (PA_2.out.later (Keeps.of hb _).off')
        have KA_2 := Lib.hid (KA_1.out.later hb)
        clear L_13 E_13 S_6 PP_5 KP_4 PA_2 KA_1
        clear hb
        obtain ⟨cKP0, cKP1, cKP2, cKP3, cKP4, cKP5⟩ := KP_5.out.six
        obtain ⟨cKA0, cKA1, cKA2, cKA3, cKA4, cKA5⟩ := KA_2.out.six
        go_wp2_with fail
        go_ret
        exact ⟨rfl, L_14.out⟩
       ·have hst : statR A = (cx, 2, 3) := by rw [HST.out]; rfl
        have hdn : s1.don = false := by rw [HDN.out]; rfl
        have hfd : s1.fld = true := by rw [HFD.out]; rfl
        try unfold vDis at hk
        try unfold vNor at hk2
        clear HST HDN HFD H4 WAYS2 HstA HdonA HfldA HtgtA HdscA
        have ST := status_any A _ _ w12 PA_1.out.off E_12.out.env.mc (by rw [HlenA.out]; decide)
        rw [hst] at ST
        unfold pduV at ST
        replace ST := Lib.hid ST
        obtain ⟨cKP0, cKP1, cKP2, cKP3, cKP4, cKP5⟩ := KP_3.out.six
        obtain ⟨cKA0, cKA1, cKA2, cKA3, cKA4, cKA5⟩ := KA_0.out.six
        go_wp2_with fail
        clear hw12
        clear cKP0 cKP1 cKP2 cKP3 cKP4 cKP5 cKA0 cKA1 cKA2 cKA3 cKA4 cKA5
        refine ST.out.mono ?_
        rintro e w13 ⟨rfl, hb⟩
        clear ST
        have L_13 := Lib.hid (below_then L_12.out hb)
        have E_13 := Lib.hid (E_12.out.later hb)
        have S_6 := Lib.hid (S_5.out.later hb)
        have PP_5 := Lib.hid (PP_4.out.later (Keeps.of hb _).off')
        have KP_4 := Lib.hid (KP_3.out.later hb)
        have PA_2 := Lib.hid (PA_1.out.later (Keeps.of hb _).off')
        have KA_1 := Lib.hid (KA_0.out.later hb)
        clear L_12 E_12 S_5 PP_4 KP_3 PA_1 KA_0
        clear hb
        have C := conf_any w13
        unfold confV at C
        replace C := Lib.hid C
        go_wp2_with fail
        refine C.out.mono ?_
        rintro e w14 ⟨vt2, vp2, rfl, hvc, hb⟩
        clear C
        have L_14 := Lib.hid (below_then L_13.out hb)
        have E_14 := Lib.hid (E_13.out.later hb)
        have S_7 := Lib.hid (S_6.out.later hb)
        have PP_6 := Lib.hid (PP_5.out.later (Keeps.of hb _).off')
        have KP_5 := Lib.hid (KP_4.out.later hb)
        have PA_3 := Lib.hid (PA_2.out.later (Keeps.of hb _).off')
        have KA_2 := Lib.hid (KA_1.out.later hb)
        clear L_13 E_13 S_6 PP_5 KP_4 PA_2 KA_1
        clear hb
        have TH := thas_any conf0 vt2 vp2 (.slice none 0 0) (.slice none 0 0) tgn w14 hvc.ts (by decide)
        unfold confV at TH
        rw [hh] at TH
        replace TH := Lib.hid TH
        clear hvc
        go_wp2_with fail
        refine TH.out.mono ?_
        rintro e w15 ⟨rfl, hb⟩
        clear TH
        have L_15 := Lib.hid (below_then L_14.out hb)
        have E_15 := Lib.hid (E_14.out.later hb)
        have S_8 := Lib.hid (S_7.out.later hb)
        have PP_7 := Lib.hid (PP_6.out.later (Keeps.of hb _).off')
        have KP_6 := Lib.hid (KP_5.out.later hb)
        have PA_4 := Lib.hid (PA_3.out.later (Keeps.of hb _).off')
        have KA_3 := Lib.hid (KA_2.out.later hb)
        clear L_14 E_14 S_7 PP_6 KP_5 PA_3 KA_2
        clear hb
        have OV := S_8.out.overS
        rw [hdn] at OV
        rw [hfd] at OV
        replace OV := Lib.hid OV
        go_wp2_with fail
        refine OV.out.mono ?_
        rintro e w16 ⟨rfl, hb⟩
        clear OV
        have L_16 := Lib.hid (below_then L_15.out hb)
        have E_16 := Lib.hid (E_15.out.later hb)
        have S_9 := Lib.hid (S_8.out.later hb)
        have PP_8 := Lib.hid (PP_7.out.later (Keeps.of hb _).off')
        have KP_7 := Lib.hid (KP_6.out.later hb)
        have PA_5 := Lib.hid (PA_4.out.later (Keeps.of hb _).off')
        have KA_4 := Lib.hid (KA_3.out.later hb)
        clear L_15 E_15 S_8 PP_7 KP_6 PA_4 KA_3
        clear hb
        obtain ⟨cKP0, cKP1, cKP2, cKP3, cKP4, cKP5⟩ := KP_7.out.six
        obtain ⟨cKA0, cKA1, cKA2, cKA3, cKA4, cKA5⟩ := KA_4.out.six
        go_wp2_with fail
        go_ret
        exact ⟨rfl, L_16.out⟩
       ·have hst : statR A = (fx, 0, 0) := by rw [HST.out]; rfl
        have hdn : s1.don = true := by rw [HDN.out]; rfl
        have hfd : s1.fld = false := by rw [HFD.out]; rfl
        have h4 := H4.out rfl
        have htg : s1.tgt = tgn ∧ s1.dsc = false := by
         have e := h4
         rw [if_neg (by rintro ⟨x, y⟩; first | (exact absurd x (by decide)) | (simp [y] at hk))] at e
         exact ⟨congrArg Prod.fst e, congrArg Prod.snd e⟩
        have htg1 := htg.1
        have htg2 := htg.2
        clear h4 htg
        try unfold vDis at hk
        try unfold vNor at hk2
        clear HST HDN HFD H4 WAYS2 HstA HdonA HfldA HtgtA HdscA
        have ST := status_any A _ _ w12 PA_1.out.off E_12.out.env.mc (by rw [HlenA.out]; decide)
        rw [hst] at ST
        unfold pduV at ST
        replace ST := Lib.hid ST
        obtain ⟨cKP0, cKP1, cKP2, cKP3, cKP4, cKP5⟩ := KP_3.out.six
        obtain ⟨cKA0, cKA1, cKA2, cKA3, cKA4, cKA5⟩ := KA_0.out.six
        go_wp2_with fail
        clear hw12
        clear cKP0 cKP1 cKP2 cKP3 cKP4 cKP5 cKA0 cKA1 cKA2 cKA3 cKA4 cKA5
        refine ST.out.mono ?_
        rintro e w13 ⟨rfl, hb⟩
        clear ST
        have L_13 := Lib.hid (below_then L_12.out hb)
        have E_13 := Lib.hid (E_12.out.later hb)
        have S_6 := Lib.hid (S_5.out.later hb)
        have PP_5 := Lib.hid (PP_4.out.later (Keeps.of hb _).off')
        have KP_4 := Lib.hid (KP_3.out.later hb)
        have PA_2 := Lib.hid (PA_1.out.later (Keeps.of hb _).off')
        have KA_1 := Lib.hid (KA_0.out.later hb)
        clear L_12 E_12 S_5 PP_4 KP_3 PA_1 KA_0
        clear hb
        have C := conf_any w13
        unfold confV at C
        replace C := Lib.hid C
        go_wp2_with fail
        refine C.out.mono ?_
        rintro e w14 ⟨vt2, vp2, rfl, hvc, hb⟩
        clear C
        have L_14 := Lib.hid (below_then L_13.out hb)
        have E_14 := Lib.hid (E_13.out.later hb)
        have S_7 := Lib.hid (S_6.out.later hb)
        have PP_6 := Lib.hid (PP_5.out.later (Keeps.of hb _).off')
        have KP_5 := Lib.hid (KP_4.out.later hb)
        have PA_3 := Lib.hid (PA_2.out.later (Keeps.of hb _).off')
        have KA_2 := Lib.hid (KA_1.out.later hb)
        clear L_13 E_13 S_6 PP_5 KP_4 PA_2 KA_1
        clear hb
        have TH := thas_any conf0 vt2 vp2 (.slice none 0 0) (.slice none 0 0) tgn w14 hvc.ts (by decide)
        unfold confV at TH
        rw [hh] at TH
        replace TH := Lib.hid TH
        clear hvc
        go_wp2_with fail
        refine TH.out.mono ?_
        rintro e w15 ⟨rfl, hb⟩
        clear TH
        have L_15 := Lib.hid (below_then L_14.out hb)
        have E_15 := Lib.hid (E_14.out.later hb)
        have S_8 := Lib.hid (S_7.out.later hb)
        have PP_7 := Lib.hid (PP_6.out.later (Keeps.of hb _).off')
        have KP_6 := Lib.hid (KP_5.out.later hb)
        have PA_4 := Lib.hid (PA_3.out.later (Keeps.of hb _).off')
        have KA_3 := Lib.hid (KA_2.out.later hb)
        clear L_14 E_14 S_7 PP_6 KP_5 PA_3 KA_2
        clear hb
        have OV := S_8.out.overS
        rw [hdn] at OV
        rw [hfd] at OV
        replace OV := Lib.hid OV
        go_wp2_with fail
        refine OV.out.mono ?_
        rintro e w16 ⟨rfl, hb⟩
        clear OV
        have L_16 := Lib.hid (below_then L_15.out hb)
        have E_16 := Lib.hid (E_15.out.later hb)
        have S_9 := Lib.hid (S_8.out.later hb)
        have PP_8 := Lib.hid (PP_7.out.later (Keeps.of hb _).off')
        have KP_7 := Lib.hid (KP_6.out.later hb)
        have PA_5 := Lib.hid (PA_4.out.later (Keeps.of hb _).off')
        have KA_4 := Lib.hid (KA_3.out.later hb)
        clear L_15 E_15 S_8 PP_7 KP_6 PA_4 KA_3
        clear hb
        have WH := S_9.out.whoS
        rw [htg1] at WH
        rw [htg2] at WH
        replace WH := Lib.hid WH
        go_wp2_with fail
        refine WH.out.mono ?_
        rintro e w17 ⟨rfl, hb⟩
        clear WH
        have L_17 := Lib.hid (below_then L_16.out hb)
        have E_17 := Lib.hid (E_16.out.later hb)
        have S_10 := Lib.hid (S_9.out.later hb)
        have PP_9 := Lib.hid (PP_8.out.later (Keeps.of hb _).off')
        have KP_8 := Lib.hid (KP_7.out.later hb)
        have PA_6 := Lib.hid (PA_5.out.later (Keeps.of hb _).off')
        have KA_5 := Lib.hid (KA_4.out.later hb)
        clear L_16 E_16 S_9 PP_8 KP_7 PA_5 KA_4
        clear hb
        obtain ⟨cKP0, cKP1, cKP2, cKP3, cKP4, cKP5⟩ := KP_8.out.six
        obtain ⟨cKA0, cKA1, cKA2, cKA3, cKA4, cKA5⟩ := KA_5.out.six
        go_wp2_with fail
        go_ret
        exact ⟨rfl, L_17.out⟩
end Go.Proofs.YtmkebjdmkkjloaaGreatDoor
