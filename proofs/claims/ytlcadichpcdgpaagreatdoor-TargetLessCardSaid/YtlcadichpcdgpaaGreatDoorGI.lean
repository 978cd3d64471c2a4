/- Several texts in one: pairs.great, ofKeys, Key, Value, wrong.  | pairs.Right.  -/
import Derived.Test.YtlcadichpcdgpaaGreatDoorGA
import Derived.Test.YtlcadichpcdgpaaGreatDoorRows
import Derived.Test.YtlcadichpcdgpaaGreatDoorShByte
import Derived.Test.YtlcadichpcdgpaaGreatDoorGB
import Derived.Lib.Bytealg
import Derived.StillTailTactics
namespace Go.Proofs.YtlcadichpcdgpaaGreatDoor
open Go.RowKit
theorem ret_bool {a b : Bool} (h : a = b) : Ending.returned (.bool a) = .returned (.bool b) := by rw [h]
theorem great_any (c : UInt8) (w : World) : Calls Tryz.prog 43 #[.int .u8 (c.toNat : Int)] w fun e w' => e = .returned (.bool (greatB c)) ∧ w = w' := by
  have hc : c.toNat < 65 ∨ (65 ≤ c.toNat ∧ c.toNat ≤ 90) ∨ 90 < c.toNat := by omega
  have hg : greatB c = decide (65 ≤ c.toNat ∧ c.toNat ≤ 90) := rfl
  have Hg := Lib.hid hg
  clear hg
  rcases hc with h | ⟨h, h2⟩ | h
  all_goals
    go_enter Tryz.func43, Tryz.ntmps43
    go_wp2_with fail
    go_ret
    rw [Hg.out]
    exact ⟨ret_bool (by rw [Bool.eq_iff_iff]; first | (simp; done) | (simp; omega)), rfl⟩
def keySigns : List UInt8 := [46, 45, 43, 64, 95]
def sgnN (c : UInt8) : Int := Lib.indexByte keySigns c
theorem sgn_has (c : UInt8) : decide (0 ≤ sgnN c) = [46, 45, 43, 64, 95].contains c := by
  have h : ∀ n : Fin 256, decide (0 ≤ sgnN (UInt8.ofNat n.1)) = [46, 45, 43, 64, 95].contains (UInt8.ofNat n.1) := by decide +kernel
  have := h ⟨c.toNat, c.toNat_lt⟩
  simpa using this
theorem signs_any (c : UInt8) (w : World) :
    Calls Tryz.prog 56 #[.string (S keySigns), .int .u8 (c.toNat : Int)] w fun e w' => e = .returned (.int .i64 (sgnN c)) ∧ w = w' := by
  refine (Tryz.strings_IndexByte (S keySigns) _ w).mono ?_
  rintro e w' ⟨rfl, hw⟩
  refine ⟨?_, hw.symm⟩
  simp [sgnN, S]
theorem may_any (c : UInt8) (w : World) : Calls Tryz.prog 44 #[.int .u8 (c.toNat : Int)] w fun e w' => e = .returned (.bool (mayB c)) ∧ w = w' := by
  have G := fun w => Lib.hid (great_any c w)
  have I := fun w => Lib.hid (signs_any c w)
  have hs := sgn_has c
  have hm : mayB c = (greatB c || decide (97 ≤ c.toNat ∧ c.toNat ≤ 122) || decide (48 ≤ c.toNat ∧ c.toNat ≤ 57) || [46, 45, 43, 64, 95].contains c) := rfl
  rw [← hs] at hm
  have Hm := Lib.hid hm
  clear hm hs
  obtain ⟨k, hk⟩ : ∃ k, sgnN c = k := ⟨_, rfl⟩
  simp only [hk] at I
  rw [hk] at Hm
  clear hk
  cases hg : greatB c with
  | true =>
    simp only [hg] at G
    rw [hg] at Hm
    clear hg
    go_enter Tryz.func44, Tryz.ntmps44
    go_wp2_with fail
    refine (G _).out.mono ?_
    rintro e w' ⟨rfl, rfl⟩
    go_wp2_with fail
    go_ret
    rw [Hm.out]
    exact ⟨by simp, rfl⟩
  | false =>
    simp only [hg] at G
    rw [hg] at Hm
    clear hg
    have hc : (97 ≤ c.toNat ∧ c.toNat ≤ 122) ∨ (48 ≤ c.toNat ∧ c.toNat ≤ 57) ∨ c.toNat < 48 ∨ (57 < c.toNat ∧ c.toNat < 97) ∨ 122 < c.toNat := by omega
    rcases hc with ⟨h, h2⟩ | ⟨h, h2⟩ | h | ⟨h, h2⟩ | h
    case inl | inr.inl =>
      go_enter Tryz.func44, Tryz.ntmps44
      go_wp2_with fail
      refine (G _).out.mono ?_
      rintro e w' ⟨rfl, rfl⟩
      go_wp2_with fail
      go_ret
      rw [Hm.out]
      exact ⟨by simp [h, h2], rfl⟩
    all_goals
      by_cases h0 : 0 ≤ k
      all_goals
        go_enter Tryz.func44, Tryz.ntmps44
        go_wp2_with fail
        refine (G _).out.mono ?_
        rintro e w' ⟨rfl, rfl⟩
        go_wp2_with fail
        refine (I _).out.mono ?_
        rintro e w' ⟨rfl, rfl⟩
        go_wp2_with fail
        go_ret
        rw [Hm.out]
        exact ⟨ret_bool (by rw [Bool.eq_iff_iff]; first | (simp; done) | (simp; omega)), rfl⟩
theorem isKey_len {s : List UInt8} (h : s.length < 1 ∨ 63 < s.length) : isKey s = false := by
  unfold isKey
  rw [show decide (1 ≤ s.length ∧ s.length ≤ 63) = false from decide_eq_false (by omega)]
  rfl
theorem isKey_head0 {s : List UInt8} (h : 1 ≤ s.length) (hg : greatB (s[0]'(by omega)) = false) : isKey s = false := by
  unfold isKey
  have e : s.getD 0 0 = s[0]'(by omega) := by rw [List.getD_eq_getElem?_getD, List.getElem?_eq_getElem (by omega)]; rfl
  rw [e, hg]
  simp
theorem isKey_all {s : List UInt8} (h : 1 ≤ s.length) (h2 : s.length ≤ 63) (hg : greatB (s[0]'(by omega)) = true) : isKey s = s.all mayB := by
  unfold isKey
  have e : s.getD 0 0 = s[0]'(by omega) := by rw [List.getD_eq_getElem?_getD, List.getElem?_eq_getElem (by omega)]; rfl
  rw [e, hg, show decide (1 ≤ s.length ∧ s.length ≤ 63) = true from decide_eq_true (by omega)]
  simp
theorem all_step {f : UInt8 → Bool} {s : List UInt8} {k : Nat} (hk : k < s.length) (h : (s.take k).all f = true) (hf : f s[k] = true) : (s.take (k + 1)).all f = true := by
  rw [List.take_succ_eq_append_getElem hk, List.all_append, h]
  simpa using hf
theorem all_not {f : UInt8 → Bool} {s : List UInt8} {k : Nat} (hk : k < s.length) (hf : f s[k] = false) : s.all f = false := by
  rw [List.all_eq_false]
  exact ⟨s[k], List.getElem_mem hk, by simp [hf]⟩
set_option maxRecDepth 100000 in
theorem key_any (s : List UInt8) (w : World) (hl : s.length ≤ 140737488355328) : Calls Tryz.prog 28 #[.string (S s)] w fun e w' => e = .returned (.bool (isKey s)) ∧ w = w' := by
  by_cases h1 : s.length < 1
  · have E := Lib.hid (isKey_len (.inl h1))
    go_enter Tryz.func28, Tryz.ntmps28
    go_wp2_with fail
    go_ret
    rw [E.out]
    exact ⟨rfl, rfl⟩
  by_cases h2 : 63 < s.length
  · have E := Lib.hid (isKey_len (.inr h2))
    go_enter Tryz.func28, Tryz.ntmps28
    go_wp2_with fail
    go_ret
    rw [E.out]
    exact ⟨rfl, rfl⟩
  have G := fun w => Lib.hid (great_any (s[0]'(by omega)) w)
  have h0 : 0 < s.length := by omega
  cases hg : greatB (s[0]'(by omega)) with
  | false =>
    have E := Lib.hid (isKey_head0 (by omega) hg)
    simp only [hg] at G
    clear hg
    go_enter Tryz.func28, Tryz.ntmps28
    go_wp2_with fail
    refine (G _).out.mono ?_
    rintro e w' ⟨rfl, rfl⟩
    go_wp2_with fail
    go_ret
    rw [E.out]
    exact ⟨rfl, rfl⟩
  | true =>
    have E := Lib.hid (isKey_all (by omega) (by omega) hg)
    simp only [hg] at G
    clear hg
    go_enter Tryz.func28, Tryz.ntmps28
    go_wp2_with fail
    refine (G _).out.mono ?_
    rintro e w' ⟨rfl, rfl⟩
    clear G
    go_wp2_with fail
    go_loop [20] (fun i => ∃ k : Nat, k ≤ s.length ∧ i = .int .i64 k ∧ (s.take k).all mayB = true) (fun i => s.length - (intOf i).toNat)
    case atStart => exact ⟨0, Nat.zero_le _, rfl, rfl⟩
    case round =>
      obtain ⟨k, hk, rfl, ha⟩ := hrel
      have Ha := Lib.hid ha
      clear ha
      by_cases hlt : k < s.length
      · have M := fun w => Lib.hid (may_any s[k] w)
        cases hm : mayB s[k] with
        | true =>
          have H2 := Lib.hid (all_step hlt Ha.out hm)
          simp only [hm] at M
          clear hm
          go_wp2_with fail
          refine (M _).out.mono ?_
          rintro e w' ⟨rfl, rfl⟩
          go_wp2_with fail
          go_round
          case rel => exact ⟨k + 1, by omega, by go_num, H2.out⟩
          case measure => simp [intOf]; omega
        | false =>
          have H2 := Lib.hid (all_not hlt hm)
          simp only [hm] at M
          clear hm
          go_wp2_with fail
          refine (M _).out.mono ?_
          rintro e w' ⟨rfl, rfl⟩
          go_wp2_with fail
          go_ret
          rw [E.out, H2.out]
          exact ⟨rfl, rfl⟩
      · obtain rfl : k = s.length := by omega
        go_wp2_with fail
        go_ret
        have h := Ha.out
        rw [List.take_length] at h
        rw [E.out, h]
        exact ⟨rfl, rfl⟩
theorem isVal_len {s : List UInt8} (h : 255 < s.length) : isVal s = false := by
  unfold isVal
  rw [show decide (s.length ≤ 255) = false from decide_eq_false (by omega)]
  rfl
theorem isVal_all {s : List UInt8} (h : s.length ≤ 255) : isVal s = s.all signB := by
  unfold isVal
  rw [show decide (s.length ≤ 255) = true from decide_eq_true h]
  rfl
set_option maxRecDepth 100000 in
theorem value_any2 (s : List UInt8) (w : World) (hl : s.length ≤ 140737488355328) : Calls Tryz.prog 29 #[.string (S s)] w fun e w' => e = .returned (.bool (isVal s)) ∧ w = w' := by
  by_cases h2 : 255 < s.length
  · have E := Lib.hid (isVal_len h2)
    go_enter Tryz.func29, Tryz.ntmps29
    go_wp2_with fail
    go_ret
    rw [E.out]
    exact ⟨rfl, rfl⟩
  have E := Lib.hid (isVal_all (by omega : s.length ≤ 255))
  go_enter Tryz.func29, Tryz.ntmps29
  go_wp2_with fail
  go_loop [9] (fun i => ∃ k : Nat, k ≤ s.length ∧ i = .int .i64 k ∧ (s.take k).all signB = true) (fun i => s.length - (intOf i).toNat)
  case atStart => exact ⟨0, Nat.zero_le _, rfl, rfl⟩
  case round =>
    obtain ⟨k, hk, rfl, ha⟩ := hrel
    have Ha := Lib.hid ha
    clear ha
    by_cases hlt : k < s.length
    · have hm : signB s[k] = decide (32 ≤ s[k].toNat ∧ s[k].toNat ≤ 126) := rfl
      have Hm := Lib.hid hm
      have HT := Lib.hid (fun hf => all_step (f := signB) hlt Ha.out hf)
      have HF := Lib.hid (fun hf => all_not (f := signB) hlt hf)
      clear hm
      have hc : s[k].toNat < 32 ∨ 126 < s[k].toNat ∨ (32 ≤ s[k].toNat ∧ s[k].toNat ≤ 126) := by omega
      rcases hc with h | h | ⟨h, h3⟩
      case inl | inr.inl =>
        have H2 := Lib.hid (HF.out (by rw [Hm.out]; exact decide_eq_false (by omega)))
        clear HT HF
        go_wp2_with fail
        go_ret
        rw [E.out, H2.out]
        exact ⟨rfl, rfl⟩
      · have H2 := Lib.hid (HT.out (by rw [Hm.out]; exact decide_eq_true ⟨h, h3⟩))
        clear HT HF
        go_wp2_with fail
        go_round
        case rel => exact ⟨k + 1, by omega, by go_num, H2.out⟩
        case measure => simp [intOf]; omega
    · obtain rfl : k = s.length := by omega
      go_wp2_with fail
      go_ret
      have h := Ha.out
      rw [List.take_length] at h
      rw [E.out, h]
      exact ⟨rfl, rfl⟩
theorem wrong_pr (p : Pr) (w : World) (hk : p.k.length ≤ 140737488355328) (hv : p.v.length ≤ 140737488355328) :
    Calls Tryz.prog 37 #[.agg #[.string (S p.k), .string (S p.v)]] w fun e w' => e = .returned (.int .i64 (wrongP p)) ∧ Below w.heap.size w w' := by
  obtain ⟨k, v⟩ := p
  simp only at hk hv
  have K := fun w => Lib.hid (key_any k w hk)
  have V := fun w => Lib.hid (value_any2 v w hv)
  have hw : wrongP ⟨k, v⟩ = if isKey k = true then if isVal v = true then 0 else 3 else 5 := rfl
  have hb0 := (Below.refl w.heap.size w).alloc (Nat.le_refl _) (.cells #[.string (S k), .string (S v)] 40)
  have Hb0 := Lib.hid hb0
  have Hw := Lib.hid hw
  clear hw hb0
  cases hk1 : isKey k with
  | false =>
    simp only [hk1] at K
    rw [hk1] at Hw
    clear hk1
    go_enter Tryz.func37, Tryz.ntmps37
    go_wp2_with fail
    refine (K _).out.mono ?_
    rintro e w' ⟨rfl, rfl⟩
    go_wp2_with fail
    go_ret
    rw [Hw.out]
    exact ⟨rfl, Hb0.out⟩
  | true =>
    simp only [hk1] at K
    rw [hk1] at Hw
    clear hk1
    cases hv1 : isVal v with
    | false =>
      simp only [hv1] at V
      rw [hv1] at Hw
      clear hv1
      go_enter Tryz.func37, Tryz.ntmps37
      go_wp2_with fail
      refine (K _).out.mono ?_
      rintro e w' ⟨rfl, rfl⟩
      go_wp2_with fail
      refine (V _).out.mono ?_
      rintro e w' ⟨rfl, rfl⟩
      go_wp2_with fail
      go_ret
      rw [Hw.out]
      exact ⟨rfl, Hb0.out⟩
    | true =>
      simp only [hv1] at V
      rw [hv1] at Hw
      clear hv1
      go_enter Tryz.func37, Tryz.ntmps37
      go_wp2_with fail
      refine (K _).out.mono ?_
      rintro e w' ⟨rfl, rfl⟩
      go_wp2_with fail
      refine (V _).out.mono ?_
      rintro e w' ⟨rfl, rfl⟩
      go_wp2_with fail
      go_ret
      rw [Hw.out]
      exact ⟨rfl, Hb0.out⟩
end Go.Proofs.YtlcadichpcdgpaaGreatDoor
namespace Go.Proofs.YtlcadichpcdgpaaGreatDoor
open Go.RowKit
set_option maxRecDepth 100000 in
theorem right_prs (l : List Pr) (v : Value) (w : World) (hv : PrsV w v l) (hf : fitPs l) :
    Calls Tryz.prog 14 #[v] w (RetE w (prRight l)) := by
  obtain ⟨p, c, rfl, _, hc⟩ := hv
  have Hc := Lib.hid hc
  have Hf := Lib.hid hf
  have hl47 := hf.1
  clear hc hf
  by_cases h60 : 60 < l.length
  · have E := Lib.hid (show prRight l = (4, -1) by unfold prRight; rw [if_pos h60])
    go_enter Tryz.func14, Tryz.ntmps14
    go_wp2_with fail
    go_ret
    rw [E.out]
    exact ⟨_, rfl, .bare 4 (by decide), Below.refl _ _⟩
  have E := Lib.hid (show prRight l = prRightF 0 l by unfold prRight; rw [if_neg h60])
  go_enter Tryz.func14, Tryz.ntmps14
  go_wp2_with fail
  go_loopw [12] (fun i wr => ∃ j : Nat, j ≤ l.length ∧ i = .int .i64 j ∧ prRightF j (l.drop j) = prRight l ∧ Below w.heap.size w wr) (fun i _ => l.length - (intOf i).toNat)
  case atStart => exact ⟨0, by omega, rfl, by rw [E.out]; rfl, Below.refl _ _⟩
  case round =>
    obtain ⟨j, hj, rfl, hr, hb⟩ := hrel
    have Hb := Lib.hid hb
    by_cases hlt : j < l.length
    · obtain ⟨b, o, rfl, hcl⟩ := Hc.out (by omega)
      obtain ⟨h1, h2⟩ := hcl j hlt
      rw [← (bcell hb).1 b (o + j * 2) (block_lt_of_cell (w := w) (a := ⟨b, o + j * 2, none⟩) h1)] at h1
      rw [← (bcell hb).1 b (o + j * 2 + 1) (block_lt_of_cell (w := w) (a := ⟨b, o + j * 2 + 1, none⟩) h2)] at h2
      obtain ⟨a, ha⟩ : ∃ a, l[j] = a := ⟨_, rfl⟩
      have hda := Hf.out.2 l[j] (List.getElem_mem hlt)
      rw [List.drop_eq_getElem_cons hlt, prRightF_cons] at hr
      rw [ha] at h1 h2 hr hda
      have WW := fun W => Lib.hid (wrong_pr a W hda.1 hda.2)
      obtain ⟨n, hn⟩ : ∃ n, wrongP a = n := ⟨_, rfl⟩
      rw [hn] at hr
      simp only [hn] at WW
      obtain ⟨k, d⟩ := a
      simp only at h1 h2 WW
      have Hr := Lib.hid hr
      have Hb1 := Lib.hid (hb.alloc hb.size (.cells #[.string (S k), .string (S d)] 40))
      clear hr hcl hb ha hda hn
      by_cases h0 : n = 0
      · subst h0
        rw [if_pos rfl] at Hr
        go_wp2_with fail
        refine (WW _).out.mono ?_
        rintro e w2 ⟨rfl, hb2⟩
        have Hb2 := Lib.hid (below_then Hb1.out hb2)
        clear hb2
        go_wp2_with fail
        go_roundw
        case rel => exact ⟨j + 1, by omega, by go_num, Hr.out, Hb2.out⟩
        case measure => simp [intOf]; omega
      · rw [if_neg h0] at Hr
        have hd0 : (n != 0) = true := by simpa using h0
        go_wp2_with fail
        refine (WW _).out.mono ?_
        rintro e w2 ⟨rfl, hb2⟩
        have Hb2 := Lib.hid (below_then Hb1.out hb2)
        clear hb2
        go_wp2_with fail
        go_ret
        rw [← Hr.out]
        exact ⟨_, rfl, .placed _ n j h0 (by simp) (by simp), Hb2.out.alloc Hb2.out.size _⟩
    · obtain rfl : j = l.length := by omega
      have Hr := Lib.hid hr
      clear hr hb
      go_wp2_with fail
      go_ret
      rw [← Hr.out, List.drop_length]
      exact ⟨_, rfl, .good, Hb.out⟩
end Go.Proofs.YtlcadichpcdgpaaGreatDoor
