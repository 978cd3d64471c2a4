/- LA16: several texts in one. -/
import Derived.Lib.Bytealg
import Derived.Test.YtjbbbpgcegcbaaaGreatDoorRows
import Derived.Test.YtjbbbpgcegcbaaaGreatDoorLA01
import Derived.Test.YtjbbbpgcegcbaaaGreatDoorLA03
import Derived.Test.YtjbbbpgcegcbaaaGreatDoorLA04
import Derived.Test.YtjbbbpgcegcbaaaGreatDoorLA08
import Derived.Test.YtjbbbpgcegcbaaaGreatDoorLA10
import Derived.Test.YtjbbbpgcegcbaaaGreatDoorLA15
namespace Go.Proofs.YtjbbbpgcegcbaaaGreatDoor
open Go.RowKit
theorem ret_bool {a b : Bool} (h : a = b) : Ending.returned (.bool a) = .returned (.bool b) := by rw [h]
theorem great_any (c : UInt8) (w : World) : Calls Tryz.prog 135 #[.int .u8 (c.toNat : Int)] w fun e w' => e = .returned (.bool (greatB c)) ∧ w = w' := by
 have hc : c.toNat < 65 ∨ (65 ≤ c.toNat ∧ c.toNat ≤ 90) ∨ 90 < c.toNat := by omega
 have hg : greatB c = decide (65 ≤ c.toNat ∧ c.toNat ≤ 90) := rfl
 have Hg := Lib.hid hg
 clear hg
 rcases hc with h | ⟨h, h2⟩ | h
 all_goals
  go_enter Tryz.func135, Tryz.ntmps135
  go_wp2_with fail
  go_ret
  rw [Hg.out]
  exact ⟨ret_bool (by rw [Bool.eq_iff_iff]; first | (simp; done) | (simp; omega)), rfl⟩
def keySigns : List UInt8 := [46, 45, 43, 64, 95]
def sgnN (c : UInt8) : Int := Lib.indexByte keySigns c
theorem sgn_has (c : UInt8) : decide (0 ≤ sgnN c) = [46, 45, 43, 64, 95].contains c := by
 have h : ∀ n : Fin 256, decide (0 ≤ sgnN (UInt8.ofNat n.1)) = [46, 45, 43, 64, 95].contains (UInt8.ofNat n.1) := by decide +kernel
 have := h ⟨c.toNat, c.toNat_lt⟩
 simpa using this
theorem signs_any (c : UInt8) (w : World) :
  Calls Tryz.prog 103 #[.string (S keySigns), .int .u8 (c.toNat : Int)] w fun e w' => e = .returned (.int .i64 (sgnN c)) ∧ w = w' := by
 refine (Tryz.strings_IndexByte (S keySigns) _ w).mono ?_
 rintro e w' ⟨rfl, hw⟩
 refine ⟨?_, hw.symm⟩
 simp [sgnN, S]
theorem may_any (c : UInt8) (w : World) : Calls Tryz.prog 136 #[.int .u8 (c.toNat : Int)] w fun e w' => e = .returned (.bool (mayB c)) ∧ w = w' := by
 have G := fun w => Lib.hid (great_any c w)
 have I := fun w => Lib.hid (signs_any c w)
 have hs := sgn_has c
 have hm : mayB c = (greatB c || decide (97 ≤ c.toNat ∧ c.toNat ≤ 122) || decide (48 ≤ c.toNat ∧ c.toNat ≤ 57) || [46, 45, 43, 64, 95].contains c) := rfl
 rw [← hs] at hm
 have Hm := Lib.hid hm
 clear hm hs
 obtain ⟨k, hk⟩ : ∃ k, sgnN c = k := ⟨_, rfl⟩
 simp only [hk] at I
 rw [hk] at Hm
 clear hk
 cases hg : greatB c with
 | true =>
  simp only [hg] at G
  rw [hg] at Hm
  clear hg
  go_enter Tryz.func136, Tryz.ntmps136
  go_wp2_with fail
  refine (G _).out.mono ?_
  rintro e w' ⟨rfl, rfl⟩
  go_wp2_with fail
  go_ret
  rw [Hm.out]
  exact ⟨by simp, rfl⟩
 | false =>
  simp only [hg] at G
  rw [hg] at Hm
  clear hg
  have hc : (97 ≤ c.toNat ∧ c.toNat ≤ 122) ∨ (48 ≤ c.toNat ∧ c.toNat ≤ 57) ∨ c.toNat < 48 ∨ (57 < c.toNat ∧ c.toNat < 97) ∨ 122 < c.toNat := by omega
  rcases hc with ⟨h, h2⟩ | ⟨h, h2⟩ | h | ⟨h, h2⟩ | h
  case inl | inr.inl =>
   go_enter Tryz.func136, Tryz.ntmps136
   go_wp2_with fail
   refine (G _).out.mono ?_
   rintro e w' ⟨rfl, rfl⟩
   go_wp2_with fail
   go_ret
   rw [Hm.out]
   exact ⟨by simp [h, h2], rfl⟩
  all_goals
   by_cases h0 : 0 ≤ k
   all_goals
    go_enter Tryz.func136, Tryz.ntmps136
    go_wp2_with fail
    refine (G _).out.mono ?_
    rintro e w' ⟨rfl, rfl⟩
    go_wp2_with fail
    refine (I _).out.mono ?_
    rintro e w' ⟨rfl, rfl⟩
    go_wp2_with fail
    go_ret
    rw [Hm.out]
    exact ⟨ret_bool (by rw [Bool.eq_iff_iff]; first | (simp; done) | (simp; omega)), rfl⟩
theorem isKey_len {s : List UInt8} (h : s.length < 1 ∨ 63 < s.length) : isKey s = false := by
 unfold isKey
 rw [show decide (1 ≤ s.length ∧ s.length ≤ 63) = false from decide_eq_false (by omega)]
 rfl
theorem isKey_head0 {s : List UInt8} (h : 1 ≤ s.length) (hg : greatB (s[0]'(by omega)) = false) : isKey s = false := by
 unfold isKey
 have e : s.getD 0 0 = s[0]'(by omega) := by rw [List.getD_eq_getElem?_getD, List.getElem?_eq_getElem (by omega)]; rfl
 rw [e, hg]
 simp
theorem isKey_all {s : List UInt8} (h : 1 ≤ s.length) (h2 : s.length ≤ 63) (hg : greatB (s[0]'(by omega)) = true) : isKey s = s.all mayB := by
 unfold isKey
 have e : s.getD 0 0 = s[0]'(by omega) := by rw [List.getD_eq_getElem?_getD, List.getElem?_eq_getElem (by omega)]; rfl
 rw [e, hg, show decide (1 ≤ s.length ∧ s.length ≤ 63) = true from decide_eq_true (by omega)]
 simp
theorem all_step {f : UInt8 → Bool} {s : List UInt8} {k : Nat} (hk : k < s.length) (h : (s.take k).all f = true) (hf : f s[k] = true) : (s.take (k + 1)).all f = true := by
 rw [List.take_succ_eq_append_getElem hk, List.all_append, h]
 simpa using hf
theorem all_not {f : UInt8 → Bool} {s : List UInt8} {k : Nat} (hk : k < s.length) (hf : f s[k] = false) : s.all f = false := by
 rw [List.all_eq_false]
 exact ⟨s[k], List.getElem_mem hk, by simp [hf]⟩
set_option maxRecDepth 100000 in
theorem key_any (s : List UInt8) (w : World) (hl : s.length ≤ 140737488355328) : Calls Tryz.prog 94 #[.string (S s)] w fun e w' => e = .returned (.bool (isKey s)) ∧ w = w' := by
 by_cases h1 : s.length < 1
 ·have E := Lib.hid (isKey_len (.inl h1))
  go_enter Tryz.func94, Tryz.ntmps94
  go_wp2_with fail
  go_ret
  rw [E.out]
  exact ⟨rfl, rfl⟩
 by_cases h2 : 63 < s.length
 ·have E := Lib.hid (isKey_len (.inr h2))
  go_enter Tryz.func94, Tryz.ntmps94
  go_wp2_with fail
  go_ret
  rw [E.out]
  exact ⟨rfl, rfl⟩
 have G := fun w => Lib.hid (great_any (s[0]'(by omega)) w)
 have h0 : 0 < s.length := by omega
 cases hg : greatB (s[0]'(by omega)) with
 | false =>
  have E := Lib.hid (isKey_head0 (by omega) hg)
  simp only [hg] at G
  clear hg
  go_enter Tryz.func94, Tryz.ntmps94
  go_wp2_with fail
  refine (G _).out.mono ?_
  rintro e w' ⟨rfl, rfl⟩
  go_wp2_with fail
  go_ret
  rw [E.out]
  exact ⟨rfl, rfl⟩
 | true =>
  have E := Lib.hid (isKey_all (by omega) (by omega) hg)
  simp only [hg] at G
  clear hg
  go_enter Tryz.func94, Tryz.ntmps94
  go_wp2_with fail
  refine (G _).out.mono ?_
  rintro e w' ⟨rfl, rfl⟩
  clear G
  go_wp2_with fail
  go_loop [20] (fun i => ∃ k : Nat, k ≤ s.length ∧ i = .int .i64 k ∧ (s.take k).all mayB = true) (fun i => s.length - (intOf i).toNat)
  case atStart => exact ⟨0, Nat.zero_le _, rfl, rfl⟩
  case round =>
   obtain ⟨k, hk, rfl, ha⟩ := hrel
   have Ha := Lib.hid ha
   clear ha
   by_cases hlt : k < s.length
   ·have M := fun w => Lib.hid (may_any s[k] w)
    cases hm : mayB s[k] with
    | true =>
     have H2 := Lib.hid (all_step hlt Ha.out hm)
     simp only [hm] at M
     clear hm
     go_wp2_with fail
     refine (M _).out.mono ?_
     rintro e w' ⟨rfl, rfl⟩
     go_wp2_with fail
     go_round
     case rel => exact ⟨k + 1, by omega, by go_num, H2.out⟩
     case measure => simp [intOf]; omega
    | false =>
     have H2 := Lib.hid (all_not hlt hm)
     simp only [hm] at M
     clear hm
     go_wp2_with fail
     refine (M _).out.mono ?_
     rintro e w' ⟨rfl, rfl⟩
     go_wp2_with fail
     go_ret
     rw [E.out, H2.out]
     exact ⟨rfl, rfl⟩
   ·obtain rfl : k = s.length := by omega
    go_wp2_with fail
    go_ret
    have h := Ha.out
    rw [List.take_length] at h
    rw [E.out, h]
    exact ⟨rfl, rfl⟩
theorem isVal_len {s : List UInt8} (h : 255 < s.length) : isVal s = false := by
 unfold isVal
 rw [show decide (s.length ≤ 255) = false from decide_eq_false (by omega)]
 rfl
theorem isVal_all {s : List UInt8} (h : s.length ≤ 255) : isVal s = s.all signB := by
 unfold isVal
 rw [show decide (s.length ≤ 255) = true from decide_eq_true h]
 rfl
set_option maxRecDepth 100000 in
theorem value_any2 (s : List UInt8) (w : World) (hl : s.length ≤ 140737488355328) : Calls Tryz.prog 95 #[.string (S s)] w fun e w' => e = .returned (.bool (isVal s)) ∧ w = w' := by
 by_cases h2 : 255 < s.length
 ·have E := Lib.hid (isVal_len h2)
  go_enter Tryz.func95, Tryz.ntmps95
  go_wp2_with fail
  go_ret
  rw [E.out]
  exact ⟨rfl, rfl⟩
 have E := Lib.hid (isVal_all (by omega : s.length ≤ 255))
 go_enter Tryz.func95, Tryz.ntmps95
 go_wp2_with fail
 go_loop [9] (fun i => ∃ k : Nat, k ≤ s.length ∧ i = .int .i64 k ∧ (s.take k).all signB = true) (fun i => s.length - (intOf i).toNat)
 case atStart => exact ⟨0, Nat.zero_le _, rfl, rfl⟩
 case round =>
  obtain ⟨k, hk, rfl, ha⟩ := hrel
  have Ha := Lib.hid ha
  clear ha
  by_cases hlt : k < s.length
  ·have hm : signB s[k] = decide (32 ≤ s[k].toNat ∧ s[k].toNat ≤ 126) := rfl
   have Hm := Lib.hid hm
   have HT := Lib.hid (fun hf => all_step (f := signB) hlt Ha.out hf)
   have HF := Lib.hid (fun hf => all_not (f := signB) hlt hf)
   clear hm
   have hc : s[k].toNat < 32 ∨ 126 < s[k].toNat ∨ (32 ≤ s[k].toNat ∧ s[k].toNat ≤ 126) := by omega
   rcases hc with h | h | ⟨h, h3⟩
   case inl | inr.inl =>
    have H2 := Lib.hid (HF.out (by rw [Hm.out]; exact decide_eq_false (by omega)))
    clear HT HF
    go_wp2_with fail
    go_ret
    rw [E.out, H2.out]
    exact ⟨rfl, rfl⟩
   ·have H2 := Lib.hid (HT.out (by rw [Hm.out]; exact decide_eq_true ⟨h, h3⟩))
    clear HT HF
    go_wp2_with fail
    go_round
    case rel => exact ⟨k + 1, by omega, by go_num, H2.out⟩
    case measure => simp [intOf]; omega
  ·obtain rfl : k = s.length := by omega
   go_wp2_with fail
   go_ret
   have h := Ha.out
   rw [List.take_length] at h
   rw [E.out, h]
   exact ⟨rfl, rfl⟩
theorem wrong_pr (p : Pr) (w : World) (hk : p.k.length ≤ 140737488355328) (hv : p.v.length ≤ 140737488355328) :
  Calls Tryz.prog 63 #[.agg #[.string (S p.k), .string (S p.v)]] w fun e w' => e = .returned (.int .i64 (wrongP p)) ∧ Below w.heap.size w w' := by
 obtain ⟨k, v⟩ := p
 simp only at hk hv
 have K := fun w => Lib.hid (key_any k w hk)
 have V := fun w => Lib.hid (value_any2 v w hv)
 have hw : wrongP ⟨k, v⟩ = if isKey k = true then if isVal v = true then 0 else 3 else 5 := rfl
 have hb0 := (Below.refl w.heap.size w).alloc (Nat.le_refl _) (.cells #[.string (S k), .string (S v)] 60)
 have Hb0 := Lib.hid hb0
 have Hw := Lib.hid hw
 clear hw hb0
 cases hk1 : isKey k with
 | false =>
  simp only [hk1] at K
  rw [hk1] at Hw
  clear hk1
  go_enter Tryz.func63, Tryz.ntmps63
  go_wp2_with fail
  refine (K _).out.mono ?_
  rintro e w' ⟨rfl, rfl⟩
  go_wp2_with fail
  go_ret
  rw [Hw.out]
  exact ⟨rfl, Hb0.out⟩
 | true =>
  simp only [hk1] at K
  rw [hk1] at Hw
  clear hk1
  cases hv1 : isVal v with
  | false =>
   simp only [hv1] at V
   rw [hv1] at Hw
   clear hv1
   go_enter Tryz.func63, Tryz.ntmps63
   go_wp2_with fail
   refine (K _).out.mono ?_
   rintro e w' ⟨rfl, rfl⟩
   go_wp2_with fail
   refine (V _).out.mono ?_
   rintro e w' ⟨rfl, rfl⟩
   go_wp2_with fail
   go_ret
   rw [Hw.out]
   exact ⟨rfl, Hb0.out⟩
  | true =>
   simp only [hv1] at V
   rw [hv1] at Hw
   clear hv1
   go_enter Tryz.func63, Tryz.ntmps63
   go_wp2_with fail
   refine (K _).out.mono ?_
   rintro e w' ⟨rfl, rfl⟩
   go_wp2_with fail
   refine (V _).out.mono ?_
   rintro e w' ⟨rfl, rfl⟩
   go_wp2_with fail
   go_ret
   rw [Hw.out]
   exact ⟨rfl, Hb0.out⟩
end Go.Proofs.YtjbbbpgcegcbaaaGreatDoor
namespace Go.Proofs.YtjbbbpgcegcbaaaGreatDoor
open Go Go.RowKit Go.Maps
def keyIn (l : List (List UInt8)) (x : Lit) : Prop := ∃ y ∈ l, x = .string y
theorem keyIn_iff {l : List (List UInt8)} {k : List UInt8} : keyIn l (.string k) ↔ k ∈ l := ⟨fun ⟨y, hy, e⟩ => by cases e; exact hy, fun h => ⟨k, h, rfl⟩⟩
theorem keyIn_snoc {l : List (List UInt8)} {k : List UInt8} (x : Lit) : (x = .string k ∨ keyIn l x) ↔ keyIn (l ++ [k]) x := by
 constructor
 ·rintro (rfl | ⟨y, hy, rfl⟩)
  ·exact ⟨k, by simp, rfl⟩
  ·exact ⟨y, List.mem_append_left _ hy, rfl⟩
 ·rintro ⟨y, hy, rfl⟩
  rcases List.mem_append.1 hy with hy | hy
  ·exact .inr ⟨y, hy, rfl⟩
  ·rw [List.mem_singleton.1 hy]; exact .inl rfl
end Go.Proofs.YtjbbbpgcegcbaaaGreatDoor
namespace Go.Proofs.YtjbbbpgcegcbaaaGreatDoor
open Go.RowKit Go.Maps
set_option linter.unusedVariables false
theorem tnamed_any (s : List UInt8) (w : World) (hl : s.length ≤ 140737488355328) : Calls Tryz.prog 107 #[.string (S s)] w fun e w' => e = .returned (.bool (nameOk s)) ∧ w = w' := by
 by_cases h0 : s = []
 ·subst h0
  go_enter Tryz.func107, Tryz.ntmps107
  go_wp2_with fail
  go_ret
  exact ⟨rfl, rfl⟩
 have h1 : 1 ≤ s.length := List.length_pos_iff.2 h0
 have hemp : s.isEmpty = false := by cases s with | nil => exact absurd rfl h0 | cons _ _ => rfl
 by_cases h2 : 100 < s.length
 ·have hN : nameOk s = false := by unfold nameOk; rw [decide_eq_false (by omega), Bool.false_and]
  rw [hN]
  have h2i : (100 : Int) < (s.length : Int) := by omega
  go_enter Tryz.func107, Tryz.ntmps107
  go_wp2_with fail
  go_ret
  exact ⟨rfl, rfl⟩
 ·have hN : nameOk s = isVal s := by unfold nameOk; rw [decide_eq_true ⟨h1, by omega⟩, Bool.true_and]
  rw [hN]
  have V := Lib.hid (fun W => value_any2 s W hl)
  have h2i : ¬ (100 : Int) < (s.length : Int) := by omega
  generalize isVal s = b at V
  clear hN
  go_enter Tryz.func107, Tryz.ntmps107
  go_wp2_with fail
  refine (V.out _).mono ?_
  rintro e w' ⟨rfl, rfl⟩
  go_wp2_with fail
  go_ret
  exact ⟨rfl, rfl⟩
def RetEnter (s : List UInt8) (mb n : Nat) (f : Lit → Prop) (w : World) (e : Ending) (w' : World) : Prop :=
 (¬ (nameOk s = false ∨ f (.string s)) ∧ e = .returned (.bool true) ∧ BMap 9 w' mb (n + 1) (fun x => x = .string s ∨ f x) ∧ w.grownBy w' (some mb)) ∨ ((nameOk s = false ∨ f (.string s)) ∧ e = .returned (.bool false) ∧ w = w')
theorem enter_any (s : List UInt8) (mb n : Nat) (f : Lit → Prop) (w : World) (hm : BMap 9 w mb n f) (hn : n < 1000000) (hl : s.length ≤ 140737488355328) :
  Calls Tryz.prog 142 #[.map (some mb), .string (S s)] w (RetEnter s mb n f w) := by
 have N := Lib.hid (tnamed_any s w hl)
 obtain ⟨R, hR⟩ : ∃ R, RetEnter s mb n f w = R := ⟨_, rfl⟩
 have HR := Lib.hid hR
 rw [hR]
 cases hq : nameOk s with
 | false =>
  rw [hq] at N
  clear hR hm
  go_enter Tryz.func142, Tryz.ntmps142
  go_wp2_with fail
  refine N.out.mono ?_
  rintro e w' ⟨rfl, rfl⟩
  go_wp2_with fail
  rw [← HR.out]
  exact .inr ⟨.inl hq, rfl, rfl⟩
 | true =>
  rw [hq] at N
  have hk := keyS s (by have := (nameOk_is hq).2.1; omega)
  by_cases hf : f (.string s)
  ·have L := (hm.look keyedS Tryz.underlying244 hk).1 hf
   clear hR hm hk
   go_enter Tryz.func142, Tryz.ntmps142
   go_wp2_with fail
   refine N.out.mono ?_
   rintro e w' ⟨rfl, rfl⟩
   go_wp2_with fail
   rw [← HR.out]
   exact .inr ⟨.inr hf, rfl, rfl⟩
  ·have L := (hm.look keyedS Tryz.underlying244 hk).2 hf
   obtain ⟨w1, hr1, hm1, hg1⟩ := hm.put keyedS Tryz.underlying244 hn hk trivial
   have HM1 := Lib.hid hm1
   have Hg1 := Lib.hid hg1
   clear hR hm hk hm1 hg1
   go_enter Tryz.func142, Tryz.ntmps142
   go_wp2_with fail
   refine N.out.mono ?_
   rintro e w' ⟨rfl, rfl⟩
   go_wp2_with fail
   rw [← HR.out]
   exact .inl ⟨by rintro (h | h); (rw [hq] at h; cases h); exact hf h, rfl, HM1.out, Hg1.out⟩
set_option maxRecDepth 100000 in
theorem thas_any (c : Cf) (vt vp vu vo : Value) (name : List UInt8) (w : World) (hv : StrV w vt c.ts) (hl : c.ts.length ≤ 140737488355328) :
  Calls Tryz.prog 165 #[confV c vt vp vu vo, .string (S name)] w fun e w' => e = .returned (.bool (hasT c.ts name)) ∧ Below w.heap.size w w' := by
 obtain ⟨ts, ps, us, sn, ss, lim, own⟩ := c
 simp only at hv hl ⊢
 have hA := (Below.refl w.heap.size w).alloc (Nat.le_refl _) (.cells #[vt, vp, vu, .string (S sn), .string (S ss), .int .i64 lim, vo] 29)
 obtain ⟨k0, k1, k2, k3, k4, k5, k6⟩ := (Blk.new w #[vt, vp, vu, .string (S sn), .string (S ss), .int .i64 lim, vo] 29).seven
 have C := Lib.hid (containsS_any ts vt name _ (hv.later hA) hl)
 have HA := Lib.hid hA
 clear hv hA
 unfold confV
 simp only
 go_enter Tryz.func165, Tryz.ntmps165
 go_wp2_with fail
 refine C.out.mono ?_
 rintro e w' ⟨rfl, rfl⟩
 go_wp2_with fail
 go_ret
 exact ⟨rfl, HA.out⟩
end Go.Proofs.YtjbbbpgcegcbaaaGreatDoor
namespace Go.Proofs.YtjbbbpgcegcbaaaGreatDoor
open Go.RowKit
set_option linter.unusedVariables false
structure SameQ (q : Lq) (s : Lg) : Prop where
 mine : q.mine = s.mine
 recd : q.recd = s.recd
 usr : q.wN.getD [] = s.usr
 tgt : q.wT.getD [] = s.tgt
 dsc : dscQ q = s.dsc
 sta : q.sta = s.sta
 don : q.don = s.don
 fld : q.fld = s.fld
structure LiveQ (c : Cf) (q : Lq) (s : Lg) : Prop extends SameQ q s where
 came : q.came = s.came
 met : q.met = s.bgn
 mth : q.mth = s.mth
 chd : q.chd = s.ask
 bgn : q.bgn = s.fst.isSome
 stg : q.stg = s.stg
 ids : ∀ h, s.fst = some h → q.isd = hv h nISID ∧ q.cid = hv h nCID
 knw : q.bgn = true → s.knw = knwQ c q
 new : q.bgn = false → q.wN = none
 new2 : q.met = false → q.wT = none ∧ q.wS = none
theorem liveQ_0 (c : Cf) : LiveQ c (lq0 c) (lg0 c) :=
 ⟨⟨rfl, rfl, rfl, rfl, rfl, rfl, rfl, rfl⟩, rfl, rfl, rfl, rfl, rfl, rfl, (fun h e => by cases e), (fun h => by cases h), (fun _ => rfl), fun _ => ⟨rfl, rfl⟩⟩
theorem adm_same {q : Lq} {s : Lg} {h : Hd} (S : SameQ q s) : SameQ (begQ h q) s := by
 unfold begQ
 split
 ·exact S
 ·exact ⟨S.mine, S.recd, S.usr, S.tgt, S.dsc, S.sta, S.don, S.fld⟩
theorem beg_live {c : Cf} {q : Lq} {s : Lg} {h : Hd} (L : LiveQ c q s) : LiveQ c (begQ h q) (firstL c h s) := by
 unfold begQ firstL
 cases hf : s.fst with
 | some h0 =>
  have hb : q.bgn = true := by rw [L.bgn, hf]; rfl
  rw [if_pos hb]
  exact L
 | none =>
  have hb : q.bgn = false := by rw [L.bgn, hf]; rfl
  rw [if_neg (by rw [hb]; decide)]
  refine ⟨⟨L.mine, L.recd, L.usr, L.tgt, L.dsc, L.sta, L.don, L.fld⟩, L.came, L.met, L.mth, L.chd, rfl, rfl, fun h1 e => ?_, fun _ => ?_, (fun e => by cases e), L.new2⟩
  ·obtain rfl := Option.some.inj e; exact ⟨rfl, rfl⟩
  ·show decide (c.us = []) = knwQ c _
   unfold knwQ grdQ
   simp only [L.new hb]
   by_cases e : c.us = []
   ·rw [decide_eq_true e]; simp [e]
   ·rw [decide_eq_false e]; simp [e]
theorem adm_head {c : Cf} {q : Lq} {s : Lg} {h : Hd} (L : LiveQ c q s) (h0 : 0 ≤ h.fl ∧ h.fl < 256) : admE c h (!q.bgn) (begQ h q) = headL (decide (c.us ≠ [])) s h := by
 have hc0 : 0 ≤ csgI h ∧ csgI h ≤ 3 := by unfold csgI; omega
 have hn0 : 0 ≤ nsgI h ∧ nsgI h ≤ 3 := by unfold nsgI; omega
 unfold admE headL begQ
 by_cases h1 : 0 < hv h nVMin
 ·rw [if_pos (by omega), if_pos h1]
 rw [if_neg (by omega), if_neg h1]
 by_cases h2 : hv h nTSIH ≠ 0
 ·rw [if_pos h2, if_pos h2]
 rw [if_neg h2, if_neg h2]
 by_cases h3 : tB h = true ∧ cB h = true
 ·rw [if_pos h3, if_pos h3]
 rw [if_neg h3, if_neg h3]
 cases hf : s.fst with
 | some h0 =>
  have hb : q.bgn = true := by rw [L.bgn, hf]; rfl
  obtain ⟨i1, i2⟩ := L.ids h0 hf
  rw [if_pos hb]
  simp only [hb, Bool.not_true, Option.isSome_some, true_and, L.stg]
  by_cases h4 : ¬ (csgI h = s.stg ∧ (csgI h = 0 ∨ csgI h = 1))
  ·rw [if_pos h4, if_pos (by omega)]
  rw [if_neg h4]
  by_cases h5 : ¬ (tB h = false ∨ (csgI h < nsgI h ∧ nsgI h ≠ 2))
  ·rw [if_pos h5]
   have ht : tB h = true := by cases hh : tB h with | true => rfl | false => exact absurd (Or.inl hh) h5
   rw [if_pos (.inr (.inr ⟨ht, by omega⟩))]
  rw [if_neg h5]
  have h6 : ¬ (1 < csgI h ∨ csgI h ≠ s.stg ∨ (tB h = true ∧ (nsgI h = 2 ∨ nsgI h ≤ csgI h))) := by
   rintro (h | h | ⟨h, h'⟩)
   ·omega
   ·omega
   ·rcases Classical.not_not.1 h5 with h7 | h7
    ·rw [h] at h7; cases h7
    ·omega
  rw [if_neg h6]
  by_cases h7 : hv h nISID ≠ hv h0 nISID ∨ hv h nCID ≠ hv h0 nCID
  ·rw [if_pos h7, if_pos (by rw [i1, i2]; omega)]
  ·rw [if_neg h7, if_neg (by rw [i1, i2]; omega), if_neg (by simp)]
 | none =>
  have hb : q.bgn = false := by rw [L.bgn, hf]; rfl
  have hb' : ¬ q.bgn = true := by rw [hb]; decide
  rw [if_neg hb']
  simp only [hb, Bool.not_false, Option.isSome_none, Bool.false_eq_true, Bool.true_eq_false, false_and, false_or, eq_self, true_and, and_self, not_true_eq_false, if_false]
  by_cases h4 : ¬ (csgI h = 0 ∨ csgI h = 1)
  ·rw [if_pos h4, if_pos (by omega)]
  rw [if_neg h4]
  by_cases h5 : ¬ (tB h = false ∨ (csgI h < nsgI h ∧ nsgI h ≠ 2))
  ·rw [if_pos h5]
   have ht : tB h = true := by cases hh : tB h with | true => rfl | false => exact absurd (Or.inl hh) h5
   rw [if_pos (.inr ⟨ht, by omega⟩)]
  rw [if_neg h5]
  have h6 : ¬ (1 < csgI h ∨ (tB h = true ∧ (nsgI h = 2 ∨ nsgI h ≤ csgI h))) := by
   rintro (h | ⟨h, h'⟩)
   ·omega
   ·rcases Classical.not_not.1 h5 with h7 | h7
    ·rw [h] at h7; cases h7
    ·omega
  rw [if_neg h6]
  unfold grdQ
  by_cases hu : c.us = []
  ·simp [hu]
  ·have h8 : csgI h = 0 ∨ csgI h = 1 := by omega
   rcases h8 with h8 | h8 <;> simp [hu, h8]
theorem meet_sim {c : Cf} {q : Lq} {s : Lg} {l : List Pr} (L : LiveQ c q s) (hm : q.met = true) (h0 : s.tgt = [] ∧ s.dsc = false) :
  (meetQ c l q).1 = (beginL c l).1 ∧ (if (beginL c l).1 = -1 then LiveQ c (meetQ c l q).2 { s with tgt := (beginL c l).2.1, dsc := (beginL c l).2.2 } else LiveQ c (meetQ c l q).2 s) := by
 unfold meetQ beginL
 by_cases h1 : (prFind l kIni).getD [] = []
 ·rw [if_pos h1, if_pos h1, if_neg (by decide)]; exact ⟨rfl, L⟩
 rw [if_neg h1, if_neg h1]
 by_cases h2 : (prFind l kSes).getD [] = vDis
 ·rw [if_pos h2, if_pos h2, if_pos rfl]
  refine ⟨rfl, ⟨⟨L.mine, L.recd, L.usr, ?_, by unfold dscQ; exact decide_eq_true rfl, L.sta, L.don, L.fld⟩, L.came, L.met, L.mth, L.chd, L.bgn, L.stg, L.ids, L.knw, L.new, (fun h => by rw [hm] at h; cases h)⟩⟩
  exact L.tgt.trans h0.1
 rw [if_neg h2, if_neg h2]
 by_cases h3 : (prFind l kSes).isSome = true ∧ (prFind l kSes).getD [] ≠ vNor
 ·rw [if_pos h3, if_pos (by rintro (h | h); (rw [h3.1] at h; cases h); exact h3.2 h), if_neg (by decide)]; exact ⟨rfl, L⟩
 rw [if_neg h3, if_neg (by
  intro h; apply h
  cases hb : (prFind l kSes).isSome with
  | false => exact .inl rfl
  | true => exact .inr (by by_cases e : (prFind l kSes).getD [] = vNor; exact e; exact absurd ⟨hb, e⟩ h3))]
 by_cases h4 : (prFind l nmK).getD [] = []
 ·rw [if_pos h4, if_pos h4, if_neg (by decide)]; exact ⟨rfl, L⟩
 rw [if_neg h4, if_neg h4]
 by_cases h5 : hasT c.ts ((prFind l nmK).getD []) = false
 ·rw [if_pos h5, if_pos h5, if_neg (by decide)]; exact ⟨rfl, L⟩
 rw [if_neg h5, if_neg h5, if_pos rfl]
 refine ⟨rfl, ⟨⟨L.mine, L.recd, L.usr, rfl, ?_, L.sta, L.don, L.fld⟩, L.came, L.met, L.mth, L.chd, L.bgn, L.stg, L.ids, L.knw, L.new, (fun h => by rw [hm] at h; cases h)⟩⟩
 have := L.dsc
 rw [h0.2] at this
 exact this
theorem usr_name {c : Cf} {d : Dw} {n r : List UInt8} (hc : CfOk c) (h : chkL c.us n r d.id d.ch = 0) : n ≠ [] := by
 intro e
 cases hf : usFind c.us n with
 | none => rw [chkL_none c.us n r d.id d.ch hf] at h; cases h
 | some u =>
  obtain ⟨h1, h2⟩ := usFind_name _ _ _ hf
  have := (nameOk_is (hc.us.1 u h2).1).1
  rw [h1, e] at this
  simp at this
theorem chs_sim {c : Cf} {q : Lq} {s : Lg} {o : Option (List UInt8)} (L : LiveQ c q s) :
  (∃ a s1, secA (decide (c.us ≠ [])) o s = some (a, s1) ∧ (chsQ c o q).1 = some a ∧ LiveQ c (chsQ c o q).2 s1 ∧ s1.stg = s.stg ∧ (chsQ c o q).2.bgn = q.bgn) ∨ (secA (decide (c.us ≠ [])) o s = none ∧ (chsQ c o q).1 = none ∧ LiveQ c (chsQ c o q).2 s) := by
 unfold secA chsQ
 cases o with
 | none => exact .inl ⟨_, _, rfl, rfl, L, rfl, rfl⟩
 | some v =>
  simp only
  have hw : wantL (grdQ c) = wantL (decide (c.us ≠ [])) := rfl
  rw [hw]
  by_cases h : holdsL v (wantL (decide (c.us ≠ []))) = false ∨ s.mth ≠ []
  ·rw [if_pos h, if_pos (by rw [L.mth]; rintro ⟨h1, h2⟩; rcases h with h | h; (rw [h1] at h; cases h); exact h h2)]
   exact .inr ⟨rfl, rfl, L⟩
  ·have h' : holdsL v (wantL (decide (c.us ≠ []))) = true ∧ q.mth = [] := by
    rw [L.mth]
    refine ⟨?_, ?_⟩
    ·cases hh : holdsL v (wantL (decide (c.us ≠ []))) with
     | true => rfl
     | false => exact absurd (Or.inl hh) h
    ·by_cases e : s.mth = []
     ·exact e
     ·exact absurd (Or.inr e) h
   rw [if_neg h, if_neg (fun hn => hn h')]
   exact .inl ⟨_, _, rfl, rfl, ⟨⟨L.mine, L.recd, L.usr, L.tgt, L.dsc, L.sta, L.don, L.fld⟩, L.came, L.met, rfl, L.chd, L.bgn, L.stg, L.ids, L.knw, L.new, L.new2⟩, rfl, rfl⟩
theorem chl_sim {c : Cf} {d : Dw} {q : Lq} {s : Lg} {o : Option (List UInt8)} (L : LiveQ c q s) :
  (∃ a s1, secB d o s = some (a, s1) ∧ (chlQ d o q).1 = some a ∧ LiveQ c (chlQ d o q).2 s1 ∧ (chlQ d o q).2.bgn = q.bgn) ∨ (secB d o s = none ∧ (chlQ d o q).1 = none ∧ LiveQ c (chlQ d o q).2 s) := by
 unfold secB chlQ
 cases o with
 | none => exact .inl ⟨_, _, rfl, rfl, L, rfl⟩
 | some v =>
  simp only
  by_cases h : holdsL v [53] = false ∨ s.mth ≠ vCH ∨ s.ask = true
  ·rw [if_pos h, if_pos (by
    rw [L.mth, L.chd]
    rintro ⟨h1, h2, h3⟩
    rcases h with h | h | h
    ·rw [h1] at h; cases h
    ·exact h h2
    ·rw [h3] at h; cases h)]
   exact .inr ⟨rfl, rfl, L⟩
  ·have h' : holdsL v [53] = true ∧ q.mth = vCH ∧ q.chd = false := by
    rw [L.mth, L.chd]
    refine ⟨?_, ?_, ?_⟩
    ·cases hh : holdsL v [53] with
     | true => rfl
     | false => exact absurd (Or.inl hh) h
    ·by_cases e : s.mth = vCH
     ·exact e
     ·exact absurd (Or.inr (Or.inl e)) h
    ·cases hh : s.ask with
     | false => rfl
     | true => exact absurd (Or.inr (Or.inr hh)) h
   rw [if_neg h, if_neg (fun hn => hn h')]
   exact .inl ⟨_, _, rfl, rfl, ⟨⟨L.mine, L.recd, L.usr, L.tgt, L.dsc, L.sta, L.don, L.fld⟩, L.came, L.met, L.mth, rfl, L.bgn, L.stg, L.ids, L.knw, L.new, L.new2⟩, rfl⟩
theorem chk_sim {c : Cf} {d : Dw} {q : Lq} {s : Lg} {n r i cc : Option (List UInt8)} (hc : CfOk c) (hb : q.bgn = true) (L : LiveQ c q s) :
  (chkQ c d n r i cc q).1 = (secC c d i cc n r s).1 ∧ LiveQ c (chkQ c d n r i cc q).2 (secC c d i cc n r s).2 := by
 have hk := L.knw hb
 have none_is : ∀ {o : Option (List UInt8)}, o.isSome = false ↔ o = none := fun {o} => by cases o <;> simp
 have live : chkL c.us (n.getD []) (r.getD []) d.id d.ch = 0 → LiveQ c { q with wN := some (n.getD []) } { s with knw := true, usr := n.getD [] } := fun h0 =>
  ⟨⟨L.mine, L.recd, rfl, L.tgt, L.dsc, L.sta, L.don, L.fld⟩, L.came, L.met, L.mth, L.chd, L.bgn, L.stg, L.ids, fun _ => by
   unfold knwQ
   have := usr_name hc h0
   simp [this], (fun e => by rw [hb] at e; cases e), L.new2⟩
 unfold chkQ secC
 by_cases h1 : i = none ∧ cc = none ∧ n = none ∧ r = none
 ·rw [if_pos h1, if_pos (by obtain ⟨rfl, rfl, rfl, rfl⟩ := h1; exact ⟨rfl, rfl, rfl, rfl⟩)]
  exact ⟨rfl, L⟩
 rw [if_neg h1, if_neg (by rintro ⟨a, b, e, f⟩; exact h1 ⟨none_is.1 e, none_is.1 f, none_is.1 a, none_is.1 b⟩)]
 by_cases h2 : n = none ∨ r = none ∨ i.isSome ≠ cc.isSome
 ·rw [if_pos (show ¬ (n.isSome = true ∧ r.isSome = true ∧ i.isSome = cc.isSome) by
   rintro ⟨a, b, e⟩
   rcases h2 with rfl | rfl | h
   ·cases a
   ·cases b
   ·exact h e), if_pos (by rcases h2 with h | h | h; exact .inl h; exact .inr (.inl h); exact .inr (.inr (.inl h)))]
  exact ⟨rfl, L⟩
 rw [if_neg (show ¬ ¬ (n.isSome = true ∧ r.isSome = true ∧ i.isSome = cc.isSome) from fun h => h ⟨by cases n with | none => exact absurd (Or.inl rfl) h2 | some _ => rfl, by cases r with | none => exact absurd (Or.inr (Or.inl rfl)) h2 | some _ => rfl, by by_cases e : i.isSome = cc.isSome; exact e; exact absurd (Or.inr (Or.inr e)) h2⟩)]
 by_cases h3 : s.ask = false ∨ s.knw = true
 ·rw [if_pos (show ¬ (q.chd = true ∧ knwQ c q = false) by
   rw [L.chd, ← hk]
   rintro ⟨a, b⟩
   rcases h3 with h | h
   ·rw [a] at h; cases h
   ·rw [b] at h; cases h), if_pos (by rcases h3 with h | h; exact .inr (.inr (.inr (.inl h))); exact .inr (.inr (.inr (.inr (.inl h)))))]
  exact ⟨rfl, L⟩
 rw [if_neg (show ¬ ¬ (q.chd = true ∧ knwQ c q = false) from fun h => h (by
  rw [L.chd, ← hk]
  exact ⟨by cases hh : s.ask with | true => rfl | false => exact absurd (Or.inl hh) h3, by cases hh : s.knw with | false => rfl | true => exact absurd (Or.inr hh) h3⟩))]
 by_cases h4 : chkL c.us (n.getD []) (r.getD []) d.id d.ch = 0
 ·rw [if_neg (show ¬ chkL c.us (n.getD []) (r.getD []) d.id d.ch ≠ 0 by simpa using h4), if_neg (show ¬ (n = none ∨ r = none ∨ i.isSome ≠ cc.isSome ∨ s.ask = false ∨ s.knw = true ∨ chkL c.us (n.getD []) (r.getD []) d.id d.ch ≠ 0) by
   rintro (h | h | h | h | h | h)
   ·exact h2 (.inl h)
   ·exact h2 (.inr (.inl h))
   ·exact h2 (.inr (.inr h))
   ·exact h3 (.inl h)
   ·exact h3 (.inr h)
   ·exact h h4)]
  by_cases h5 : i = none
  ·rw [if_pos h5, if_pos (none_is.2 h5)]
   exact ⟨rfl, live h4⟩
  ·rw [if_neg h5, if_neg (fun h => h5 (none_is.1 h))]
   exact ⟨rfl, live h4⟩
 ·rw [if_pos h4, if_pos (by exact .inr (.inr (.inr (.inr (.inr h4)))))]
  exact ⟨rfl, L⟩
end Go.Proofs.YtjbbbpgcegcbaaaGreatDoor
