/- ref.Base64. -/
import Derived.Test.YtoheabcohfjknaaGreatDoorRefHex
import Derived.Test.YtoheabcohfjknaaGreatDoorParseInt
import Derived.Test.YtoheabcohfjknaaGreatDoorBitsPlain
namespace Go.Proofs.YtoheabcohfjknaaGreatDoor
open Go.RowKit
theorem letter_at (v : Nat) (h : v < 64) : (letterTab.drop v).take 1 = [lett v] := by
  have : ∀ k : Fin 64, (letterTab.drop k.1).take 1 = [lett k.1] := by decide
  exact this ⟨v, h⟩
set_option maxRecDepth 100000 in
theorem refB64_any (l : List UInt8) (w : World) (hl : l.length ≤ 1000) (hT : BruijnT w) :
    Calls Tryz.prog 9 #[.string (S l)] w fun e w' => e = .returned (.string (S (b64L l))) ∧ Below w.heap.size w w' := by
  obtain ⟨cap, W, hc1, hc2, hrun, hcell, hbel⟩ := bytes_new w l (by omega)
  have Hcell := Lib.hid hcell
  have Hbel := Lib.hid hbel
  have HT := Lib.hid (hT.later hbel)
  clear hcell hbel hT
  go_enter Tryz.func9, Tryz.ntmps9
  go_wp2_with fail
  clear hrun
  go_loopg [3, 12] (l.length + 1) (fun g v c wr => ∃ k : Nat, k ≤ l.length ∧ g + k = l.length + 1 ∧ c = .int .i64 k ∧ v = .string (S (bitsOf (l.take k))) ∧ Below W.heap.size W wr)
  case atStart => exact ⟨0, by omega, by omega, rfl, rfl, Below.refl _ _⟩
  case round =>
    obtain ⟨k, hk, hg, rfl, rfl, hb⟩ := hrel
    have Hg := Lib.hid hg
    have Hb := Lib.hid hb
    clear hg hb
    by_cases hlt : k < l.length
    · have hki : (k : Int) < (l.length : Int) := by omega
      have hcell := keepcell Hb.out (Hcell.out k hlt)
      have hx := l[k].toNat_lt
      have hst : bitsOf (l.take k) ++ lowD 2 l[k].toNat 8 = bitsOf (l.take (k + 1)) := by
        rw [List.take_succ_eq_append_getElem hlt, bitsOf_snoc]
      have hln : (bitsOf (l.take k)).length ≤ 8000 := by rw [bitsOf_len, List.length_take]; omega
      have hl2 := lowD_len 2 l[k].toNat 8
      have C := Lib.hid (fun W' hT => digits2_8 l[k].toNat W' hx hT)
      have Hst := Lib.hid hst
      obtain ⟨p, hp⟩ : ∃ p, bitsOf (l.take k) = p := ⟨_, rfl⟩
      obtain ⟨x, hxe⟩ : ∃ x, l[k].toNat = x := ⟨_, rfl⟩
      obtain ⟨q, hq⟩ : ∃ q, lowD 2 l[k].toNat 8 = q := ⟨_, rfl⟩
      rw [hp, hq] at Hst
      rw [hp] at hln ⊢
      rw [hq] at hl2 C
      rw [hxe] at hcell hx C
      clear hst hp hq hxe
      go_wp2_with fail
      with_reducible refine (C.out _ (HT.out.later Hb.out)).mono ?_
      rintro e w' ⟨rfl, hb2⟩
      go_wp2_with fail
      go_roundg (gk - 1)
      case measure => have := Hg.out; omega
      case rel => exact ⟨k + 1, by omega, by have := Hg.out; omega, by go_num, by rw [Hst.out], below_then Hb.out hb2⟩
    · have hkl : k = l.length := by omega
      subst hkl
      have hbl := bitsOf_len l
      have hpl := padBits_len l
      obtain ⟨J, hJ⟩ : ∃ J, (6 - 8 * l.length % 6) % 6 = J := ⟨_, rfl⟩
      have hpd : bitsOf l ++ List.replicate J 48 = padBits l := by rw [← hJ]; rfl
      rw [hJ] at hpl
      rw [List.take_length]
      have Hpd := Lib.hid hpd
      have Hpl := Lib.hid hpl
      clear hpd
      go_wp2_with fail
      go_loopg [3] (J + 1) (fun g v wr => ∃ j : Nat, j ≤ J ∧ g + j = J + 1 ∧ v = .string (S (bitsOf l ++ List.replicate j 48)) ∧ Below W.heap.size W wr)
      case atStart => exact ⟨0, by omega, by omega, by simp, Hb.out⟩
      case round =>
        obtain ⟨j, hj, hg, rfl, hb⟩ := hrel
        have Hg2 := Lib.hid hg
        have Hb2 := Lib.hid hb
        have hql : (bitsOf l ++ List.replicate j 48).length = 8 * l.length + j := by simp [hbl]
        clear hg hb
        by_cases hlt2 : j < J
        · have hst : bitsOf l ++ List.replicate j 48 ++ [48] = bitsOf l ++ List.replicate (j + 1) 48 := by rw [List.replicate_succ', List.append_assoc]
          obtain ⟨q, hq⟩ : ∃ q, bitsOf l ++ List.replicate j 48 = q := ⟨_, rfl⟩
          rw [hq] at hst hql ⊢
          have Hst := Lib.hid hst
          have hmod : ¬ (q.length : Int) % 6 = 0 := by omega
          clear hst hq Hpl
          go_wp2_with fail
          go_roundg (gk - 1)
          case measure => have := Hg2.out; omega
          case rel => exact ⟨j + 1, by omega, by have := Hg2.out; omega, by rw [Hst.out], Hb2.out⟩
        · obtain rfl : j = J := by omega
          rw [Hpd.out] at hql ⊢
          have hsl := sixes_len (padBits l)
          have htot := sixes_letters l
          have htwo := padBits_two l
          obtain ⟨T, hTt⟩ : ∃ T, sixes (padBits l) = T := ⟨_, rfl⟩
          rw [hTt] at hsl htot
          obtain ⟨q, hq⟩ : ∃ q, padBits l = q := ⟨_, rfl⟩
          rw [hq] at hql hsl hTt htwo ⊢
          have hmod : (q.length : Int) % 6 = 0 := by omega
          have Htot := Lib.hid htot
          have Htwo := Lib.hid htwo
          have HTt := Lib.hid hTt
          clear htot htwo hTt hq Hpd
          obtain ⟨M, hM⟩ : ∃ M, q.length = 6 * M := ⟨q.length / 6, by omega⟩
          have hMb : M ≤ 1400 := by omega
          have HM := Lib.hid hM
          have Hsl := Lib.hid hsl
          have hfx : ((8 * (l.length : Int) + (j : Int)) % 6 != 0) = false := by rw [Bool.eq_false_iff, Ne, bne_iff_ne]; omega
          go_wp2_with fail
          clear hfx hJ hpl hbl hql hmod hM hsl Hpl Hg2 hlt2 hj
          go_loopg [3, 6] (M + 1) (fun g vb vo wr => ∃ (r o : List UInt8) (m : Nat), r.length = 6 * m ∧ g = m + 1 ∧ vb = .string (S r) ∧ vo = .string (S o) ∧ o ++ sixes r = T ∧ (∀ c ∈ r, isDig 2 c = true) ∧ Below W.heap.size W wr)
          case atStart => exact ⟨q, [], M, HM.out, rfl, rfl, rfl, HTt.out, Htwo.out, Hb2.out⟩
          case round =>
            obtain ⟨r, o, m, hrl, hg, rfl, rfl, hT, htwo, hb⟩ := hrel
            have Hg3 := Lib.hid hg
            have Hb3 := Lib.hid hb
            have HT3 := Lib.hid hT
            have hol : o.length ≤ 1400 := by
              have h1 := congrArg List.length hT
              have := Hsl.out
              have := HM.out
              rw [List.length_append] at h1; omega
            clear hg hb hT
            by_cases hm : 0 < m
            · have hr6 : 6 ≤ r.length := by omega
              have hemp : r.isEmpty = false := by cases r with | nil => simp at hr6 | cons _ _ => rfl
              have hstep := sixes_step r hr6
              have htl : (r.take 6).length = 6 := by simp; omega
              have hdl : (r.drop 6).length = 6 * (m - 1) := by simp; omega
              have ht6 : ∀ c ∈ r.take 6, isDig 2 c = true := fun c hc => htwo c (List.mem_of_mem_take hc)
              have Hd6 := Lib.hid (fun c hc => htwo c (List.mem_of_mem_drop hc) : ∀ c ∈ r.drop 6, isDig 2 c = true)
              have hv := valB_take_lt 2 (by decide) (r.take 6) ht6 6 (by omega)
              rw [List.take_of_length_le (by omega)] at hv
              have C := Lib.hid (fun W' => parseInt_2 (r.take 6) W' (by omega) (by omega) ht6)
              obtain ⟨v, hve⟩ : ∃ v, valB 2 (r.take 6) = v := ⟨_, rfl⟩
              rw [hve] at hv C hstep
              have hv64 : v < 64 := hv
              have hv2 : (v : Int) < 64 := by omega
              have hlet : (letterTab.drop v).take 1 = [lett v] := letter_at v hv64
              have Hstep := Lib.hid hstep
              have Hlet := Lib.hid hlet
              clear htwo hv hstep hlet ht6 hve
              go_wp2_with fail
              with_reducible refine (C.out _).mono ?_
              rintro e w' ⟨rfl, hb2⟩
              go_wp2_with fail
              have hdr : List.take (6 * m - 6) (r.drop 6) = r.drop 6 := List.take_of_length_le (by omega)
              go_roundg (gk - 1)
              case measure => have := Hg3.out; omega
              case rel => exact ⟨r.drop 6, o ++ [lett v], m - 1, hdl, by have := Hg3.out; omega, by rw [hdr], by rw [← Hlet.out]; rfl, by rw [← HT3.out, Hstep.out, List.append_assoc]; rfl, Hd6.out, below_then Hb3.out hb2⟩
            · have hm0 : m = 0 := by omega
              subst hm0
              obtain rfl : r = [] := List.eq_nil_of_length_eq_zero hrl
              have hoT : o = T := by rw [← HT3.out]; simp [sixes]
              subst hoT
              obtain ⟨p, hp⟩ : ∃ p, (4 - o.length % 4) % 4 = p := ⟨_, rfl⟩
              have hp3 : p ≤ 3 := by omega
              have hpi : (4 - (o.length : Int) % 4) % 4 = (p : Int) := by omega
              have hpi2 : (p : Int) ≤ 3 := by omega
              have hres : 48 :: 98 :: (o ++ List.take p [61, 61, 61]) = b64L l := by
                have htk : List.take p ([61, 61, 61] : List UInt8) = List.replicate p 61 := by
                  rw [show ([61, 61, 61] : List UInt8) = List.replicate 3 61 from rfl, List.take_replicate, Nat.min_eq_left hp3]
                have := Htot.out
                rw [hp] at this
                unfold b64L
                rw [htk, this]
              have Hres := Lib.hid hres
              clear hres hp htwo
              go_wp2_with fail
              go_ret
              rw [← Hres.out]
              exact ⟨rfl, below_then Hbel.out Hb3.out⟩
end Go.Proofs.YtoheabcohfjknaaGreatDoor
