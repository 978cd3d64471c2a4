/- FieldPads: Pad, Padded, Unpad against the document's own answer. -/
import Derived.Test.YtpbdbnkedmkllaaDoorFieldBack
import Derived.Test.YtpbdbnkedmkllaaDoorBare
namespace Go.Proofs.YtpbdbnkedmkllaaDoor
open Go.RowKit
set_option linter.unusedVariables false
theorem refPad_any (n : Int) (w : World) : Calls Tryd.prog 16 #[.int .i64 n] w fun e w' => e = .returned (.int .i64 (padI n)) ∧ w = w' := by
  by_cases h : n ≤ 0
  · have hd : decide (n ≤ 0) = true := decide_eq_true h
    have hp : padI n = 0 := by unfold padI; split <;> omega
    have Hp := Lib.hid hp
    clear hp
    go_enter Tryd.func16, Tryd.ntmps16
    go_wp2_with fail
    go_ret
    exact ⟨ret_int Hp.out.symm, rfl⟩
  · have hd : decide (n ≤ 0) = false := decide_eq_false h
    by_cases h4 : n % 4 = 0
    · have hp : padI n = 0 := by unfold padI; split <;> omega
      have Hp := Lib.hid hp
      clear hp
      go_enter Tryd.func16, Tryd.ntmps16
      go_wp2_with fail
      go_ret
      exact ⟨ret_int Hp.out.symm, rfl⟩
    · have hp : padI n = 4 - n % 4 := by unfold padI; split <;> omega
      have hd4 : (n % 4 == 0) = false := by rw [beq_eq_false_iff_ne]; exact h4
      have h0 : 0 ≤ n := by omega
      have Hp := Lib.hid hp
      clear hp h4
      go_enter Tryd.func16, Tryd.ntmps16
      go_wp2_with fail
      go_ret
      exact ⟨ret_int Hp.out.symm, rfl⟩
theorem refPad_nat (k : Nat) (w : World) : Calls Tryd.prog 16 #[.int .i64 k] w fun e w' => e = .returned (.int .i64 (pad k : Nat)) ∧ w = w' := by
  rw [← padI_pad]; exact refPad_any _ _
theorem zs_succ (k : Nat) : zs k ++ [0] = zs (k + 1) := by simp [zs, List.replicate_succ']
theorem refPadded_any (l : List UInt8) (w : World) (hl : l.length ≤ 500) :
    Calls Tryd.prog 18 #[.string (S l)] w fun e w' => e = .returned (.string (S (padded l))) ∧ w = w' := by
  have hp := pad_le l.length
  go_enter Tryd.func18, Tryd.ntmps18
  go_wp2_with fail
  go_loopg [0] 4 (fun g s wr => ∃ k : Nat, k ≤ pad l.length ∧ g + k = 4 ∧ s = .string (S (l ++ zs k)) ∧ wr = w)
  case atStart => exact ⟨0, by omega, by omega, by simp [zs], rfl⟩
  case round =>
    obtain ⟨k, hk, hg, rfl, rfl⟩ := hrel
    have Hg := Lib.hid hg
    clear hg
    have hlen : (l ++ zs k).length = l.length + k := by simp [zs]
    by_cases hlt : k < pad l.length
    · have hm : (((l.length : Int) + (k : Int)) % 4 != 0) = true := by rw [bne_iff_ne]; unfold pad at hlt; omega
      have hz := zs_succ k
      go_wp2_with fail
      go_roundg (gk - 1)
      case measure => have := Hg.out; omega
      case rel => exact ⟨k + 1, by omega, by have := Hg.out; omega, by rw [← hz, ← List.append_assoc], rfl⟩
    · have hks : k = pad l.length := by omega
      have hm : (((l.length : Int) + (k : Int)) % 4 != 0) = false := by
        have : ((l.length : Int) + (k : Int)) % 4 = 0 := by rw [hks]; unfold pad; omega
        rw [this]; rfl
      have hpd : padded l = l ++ zs k := by rw [hks]; rfl
      have Hpd := Lib.hid hpd
      clear hpd hks
      go_wp2_with fail
      go_ret
      exact ⟨by rw [Hpd.out]; rfl, rfl⟩
/-! strings.Trim of noughts -/
def tL (l : List UInt8) : List UInt8 := l.dropWhile (· == 0)
def tR (l : List UInt8) : List UInt8 := (l.reverse.dropWhile (· == 0)).reverse
theorem tR_le (l : List UInt8) : (tR l).length ≤ l.length := by
  unfold tR; rw [List.length_reverse]
  have := (List.dropWhile_suffix (l := l.reverse) (fun x : UInt8 => x == 0)).length_le
  simpa using this
theorem tR_snoc (l : List UInt8) (b : UInt8) : tR (l ++ [b]) = if b == 0 then tR l else l ++ [b] := by
  unfold tR
  rw [List.reverse_append]
  simp only [List.reverse_cons, List.reverse_nil, List.nil_append, List.singleton_append, List.dropWhile_cons]
  split <;> simp
theorem trimRight_any (l : List UInt8) (w : World) (hl : l.length ≤ 4294967280) :
    Calls Tryd.prog 28 #[.string (S l), .int .u8 0] w fun e w' => e = .returned (.string (S (tR l))) ∧ w = w' := by
  go_enter Tryd.func28, Tryd.ntmps28
  go_wp2_with fail
  go_loopg [0] (l.length + 1) (fun g s wr => ∃ m : List UInt8, m.length < g ∧ m.length ≤ l.length ∧ s = .string (S m) ∧ tR m = tR l ∧ wr = w)
  case atStart => exact ⟨l, by omega, by omega, rfl, rfl, rfl⟩
  case round =>
    obtain ⟨m, hm, hml, rfl, ht, rfl⟩ := hrel
    have Ht := Lib.hid ht
    clear ht
    rcases List.eq_nil_or_concat m with rfl | ⟨m', b, rfl⟩
    · go_wp2_with fail
      go_ret
      exact ⟨by rw [← Ht.out]; rfl, rfl⟩
    · rw [List.concat_eq_append] at *
      have hlen : (m' ++ [b]).length = m'.length + 1 := by simp
      have hget : ∀ h : m'.length < (m' ++ [b]).length, (m' ++ [b])[m'.length]'h = b := by intro h; simp
      by_cases hb : b = 0
      · subst hb
        have htr : tR (m' ++ [0]) = tR m' := by rw [tR_snoc]; rfl
        have Htr := Lib.hid htr
        clear htr
        have htk : (m' ++ [(0 : UInt8)]).take m'.length = m' := by simp
        go_wp2_with fail
        go_roundg (gk - 1)
        case measure => omega
        case rel => exact ⟨m', by omega, by omega, rfl, by rw [← Htr.out, Ht.out], rfl⟩
      · have htr : tR (m' ++ [b]) = m' ++ [b] := by rw [tR_snoc, if_neg (by simpa using hb)]
        have Htr := Lib.hid htr
        clear htr
        have hbi : ((b.toNat : Int) == 0) = false := by
          rw [beq_eq_false_iff_ne]; intro h0; apply hb
          exact UInt8.toNat_inj.1 (by show b.toNat = 0; omega)
        go_wp2_with fail
        go_ret
        exact ⟨by rw [← Ht.out, Htr.out]; rfl, rfl⟩
theorem trimLeft_any (l : List UInt8) (w : World) (hl : l.length ≤ 4294967280) :
    Calls Tryd.prog 27 #[.string (S l), .int .u8 0] w fun e w' => e = .returned (.string (S (tL l))) ∧ w = w' := by
  go_enter Tryd.func27, Tryd.ntmps27
  go_wp2_with fail
  go_loopg [0] (l.length + 1) (fun g s wr => ∃ m : List UInt8, m.length < g ∧ m.length ≤ l.length ∧ s = .string (S m) ∧ tL m = tL l ∧ wr = w)
  case atStart => exact ⟨l, by omega, by omega, rfl, rfl, rfl⟩
  case round =>
    obtain ⟨m, hm, hml, rfl, ht, rfl⟩ := hrel
    have Ht := Lib.hid ht
    clear ht
    cases m with
    | nil =>
      go_wp2_with fail
      go_ret
      exact ⟨by rw [← Ht.out]; rfl, rfl⟩
    | cons b m' =>
      have hlen : (b :: m').length = m'.length + 1 := rfl
      by_cases hb : b = 0
      · subst hb
        have htr : tL (0 :: m') = tL m' := rfl
        have Htr := Lib.hid htr
        clear htr
        have htk : List.take m'.length m' = m' := List.take_length
        go_wp2_with fail
        go_roundg (gk - 1)
        case measure => omega
        case rel => exact ⟨m', by omega, by omega, by simp, by rw [← Htr.out, Ht.out], rfl⟩
      · have htr : tL (b :: m') = b :: m' := by unfold tL; rw [List.dropWhile_cons, if_neg (by simpa using hb)]
        have Htr := Lib.hid htr
        clear htr
        have hbi : ((b.toNat : Int) == 0) = false := by
          rw [beq_eq_false_iff_ne]; intro h0; apply hb
          exact UInt8.toNat_inj.1 (by show b.toNat = 0; omega)
        go_wp2_with fail
        go_ret
        exact ⟨by rw [← Ht.out, Htr.out]; rfl, rfl⟩
theorem trim_any (l : List UInt8) (w : World) (hl : l.length ≤ 4294967280) :
    Calls Tryd.prog 24 #[.string (S l), .string (S [0])] w fun e w' => e = .returned (.string (S (tL (tR l)))) ∧ ∃ n, w' = w.drewN n := by
  have hle := tR_le l
  cases l with
  | nil =>
    go_enter Tryd.func24, Tryd.ntmps24
    go_wp2_with fail
    go_ret
    exact ⟨rfl, 0, rfl⟩
  | cons b m =>
    have h1 : ((b :: m).isEmpty) = false := rfl
    go_enter Tryd.func24, Tryd.ntmps24
    go_wp2_with fail
    go_quiet ((first | (go_at_call 28; exact quiet_left (trimRight_any _ _ (by omega))) | (go_at_call 27; exact quiet_left (trimLeft_any _ _ (by omega)))))
    go_wp2_with fail
    go_ret
    exact ⟨rfl, _, rfl⟩
theorem dropWhile_nil (l : List UInt8) : l.dropWhile (· == 0) = [] ↔ ∀ x ∈ l, x = 0 := by
  induction l with
  | nil => simp
  | cons b l ih =>
    rw [List.dropWhile_cons]
    by_cases hb : b = 0
    · subst hb; simp [ih]
    · rw [if_neg (by simpa using hb)]; simp [hb]
theorem zs_iff (l : List UInt8) : l = zs l.length ↔ ∀ x ∈ l, x = 0 := by
  unfold zs
  rw [List.eq_replicate_iff]
  simp
theorem trim_nil (l : List UInt8) : tL (tR l) = [] ↔ l = zs l.length := by
  rw [zs_iff]
  unfold tL
  rw [dropWhile_nil]
  constructor
  · intro h
    have h2 : tR l = [] := by
      rcases List.eq_nil_or_concat (tR l) with h0 | ⟨m, b, h0⟩
      · exact h0
      · exfalso
        have hb : b = 0 := h b (by rw [h0]; simp)
        have : (l.reverse.dropWhile (· == 0)) = b :: m.reverse := by
          have := congrArg List.reverse h0
          unfold tR at this
          simpa using this
        have hd := List.head?_dropWhile_not (fun x : UInt8 => x == 0) l.reverse
        rw [this] at hd
        simp [hb] at hd
    unfold tR at h2
    have h3 : l.reverse.dropWhile (· == 0) = [] := by simpa using h2
    rw [dropWhile_nil] at h3
    intro x hx
    exact h3 x (by simpa using hx)
  · intro h x hx
    have h3 : l.reverse.dropWhile (· == 0) = [] := by
      rw [dropWhile_nil]; intro y hy; exact h y (by simpa using hy)
    unfold tR at hx
    rw [h3] at hx
    simp at hx
/-- Unpad's error, text and length -/
def unpE (l : List UInt8) (n : Int) : Int :=
  if n < 0 then 2 else if l.length < n.toNat + pad n.toNat then 7 else if ((l.drop n.toNat).take (pad n.toNat) == zs (pad n.toNat)) = true then 0 else 3
def unpS (l : List UInt8) (n : Int) : List UInt8 := if unpE l n = 0 then l.take n.toNat else []
def unpK (l : List UInt8) (n : Int) : Int := if unpE l n = 0 then ((n.toNat + pad n.toNat : Nat) : Int) else 0
theorem unpad_all (l : List UInt8) (n : Int) (w : World) (hl : l.length ≤ 4294967280) :
    Calls Tryd.prog 14 #[.string (S l), .int .i64 n] w fun e w' => e = .returned (.tuple #[.string (S (unpS l n)), .int .i64 (unpK l n), errV (unpE l n)]) ∧ Below w.heap.size w w' := by
  unfold unpS unpK
  by_cases h : n < 0
  · have he : unpE l n = 2 := by unfold unpE; rw [if_pos h]
    rw [he, errV_pos 2 (by decide)]
    exact (unpad_neg l n w h).mono fun e w' ⟨he, hw⟩ => ⟨he, hw ▸ Below.refl _ _⟩
  · obtain ⟨k, rfl⟩ := Int.eq_ofNat_of_zero_le (show 0 ≤ n by omega)
    rw [Int.toNat_natCast]
    by_cases hf : l.length < k + pad k
    · have he : unpE l k = 7 := by unfold unpE; rw [if_neg h, Int.toNat_natCast, if_pos hf]
      rw [he, errV_pos 7 (by decide)]
      exact (unpad_few l k w hl (.inr hf)).mono fun e w' ⟨he, hw⟩ => ⟨he, hw ▸ Below.refl _ _⟩
    · by_cases hz : ((l.drop k).take (pad k) == zs (pad k)) = true
      · have he : unpE l k = 0 := by unfold unpE; rw [if_neg h, Int.toNat_natCast, if_neg hf, if_pos hz]
        rw [he, errV_0]
        exact (unpad_ok l k w hl (by omega) hz).mono fun e w' ⟨he, m, hw⟩ => ⟨he, hw ▸ below_drawn m⟩
      · have he : unpE l k = 3 := by unfold unpE; rw [if_neg h, Int.toNat_natCast, if_neg hf, if_neg hz]
        rw [he, errV_pos 3 (by decide)]
        exact (unpad_bad l k w hl (by omega) (by simpa using hz)).mono fun e w' ⟨he, m, hw⟩ => ⟨he, hw ▸ below_drawn m⟩
theorem refUnpad_all (l : List UInt8) (n : Int) (w : World) (hl : l.length ≤ 500) :
    Calls Tryd.prog 13 #[.string (S l), .int .i64 n] w fun e w' => e = .returned (.tuple #[.string (S (unpS l n)), .int .i64 (unpK l n), .int .i64 (unpE l n)]) ∧ Below w.heap.size w w' := by
  by_cases h : n < 0
  · have he : unpE l n = 2 := by unfold unpE; rw [if_pos h]
    have hv : Value.tuple #[.string (S (unpS l n)), .int .i64 (unpK l n), .int .i64 (unpE l n)] = .tuple #[.string (S []), .int .i64 0, .int .i64 2] := by unfold unpS unpK; rw [he]; rfl
    rw [hv]
    clear hv he
    go_enter Tryd.func13, Tryd.ntmps13
    go_wp2_with fail
    go_ret3
    exact ⟨rfl, Below.refl _ _⟩
  · obtain ⟨k, rfl⟩ := Int.eq_ofNat_of_zero_le (show 0 ≤ n by omega)
    have hp3 := pad_le k
    by_cases hf : l.length < k + pad k
    · have he : unpE l k = 7 := by unfold unpE; rw [if_neg h, Int.toNat_natCast, if_pos hf]
      have hv : Value.tuple #[.string (S (unpS l k)), .int .i64 (unpK l k), .int .i64 (unpE l k)] = .tuple #[.string (S []), .int .i64 0, .int .i64 7] := by unfold unpS unpK; rw [he]; rfl
      rw [hv]
      clear hv he
      by_cases hk : l.length < k
      · have hd : decide (l.length < k) = true := decide_eq_true hk
        go_enter Tryd.func13, Tryd.ntmps13
        go_wp2_with fail
        go_ret3
        exact ⟨rfl, Below.refl _ _⟩
      · have hd : decide (l.length < k) = false := decide_eq_false hk
        go_enter Tryd.func13, Tryd.ntmps13
        go_wp2_with fail
        refine (refPad_any _ _).mono ?_
        rintro e w1 ⟨rfl, rfl⟩
        rw [padI_pad]
        go_wp2_with fail
        go_ret3
        exact ⟨rfl, Below.refl _ _⟩
    · have hk : ¬ l.length < k := by omega
      have hd : decide (l.length < k) = false := decide_eq_false hk
      have hsub : k + pad k - k = pad k := by omega
      have htl : ((l.drop k).take (pad k)).length = pad k := by simp; omega
      have hiff := trim_nil ((l.drop k).take (pad k))
      rw [htl] at hiff
      by_cases hz : ((l.drop k).take (pad k) == zs (pad k)) = true
      · have he : unpE l k = 0 := by unfold unpE; rw [if_neg h, Int.toNat_natCast, if_neg hf, if_pos hz]
        have hv : Value.tuple #[.string (S (unpS l k)), .int .i64 (unpK l k), .int .i64 (unpE l k)] = .tuple #[.string (S (l.take k)), .int .i64 ((k : Int) + (pad k : Int)), .int .i64 0] := by
          unfold unpS unpK; rw [he, if_pos rfl, if_pos rfl, Int.toNat_natCast, Int.natCast_add]
        have ht := hiff.2 (by simpa using hz)
        rw [hv]
        have Ht := Lib.hid ht
        clear hv he ht hz hiff
        go_enter Tryd.func13, Tryd.ntmps13
        go_wp2_with fail
        refine (refPad_any _ _).mono ?_
        rintro e w1 ⟨rfl, rfl⟩
        rw [padI_pad]
        go_wp2_with fail
        refine (refPad_any _ _).mono ?_
        rintro e w1 ⟨rfl, rfl⟩
        rw [padI_pad]
        go_wp2_with fail
        refine (trim_any _ _ (by omega)).mono ?_
        rintro e w1 ⟨rfl, n, rfl⟩
        rw [Ht.out]
        go_wp2_with fail
        go_quiet ((go_at_call 16; exact quiet_add_left (refPad_nat _ _)))
        go_wp2_with fail
        go_ret3
        exact ⟨rfl, below_drewN (below_drawn _) _⟩
      · have he : unpE l k = 3 := by unfold unpE; rw [if_neg h, Int.toNat_natCast, if_neg hf, if_neg hz]
        have hv : Value.tuple #[.string (S (unpS l k)), .int .i64 (unpK l k), .int .i64 (unpE l k)] = .tuple #[.string (S []), .int .i64 0, .int .i64 3] := by unfold unpS unpK; rw [he]; rfl
        rw [hv]
        have ht : (tL (tR ((l.drop k).take (pad k)))).isEmpty = false := by
          rw [List.isEmpty_eq_false_iff]; intro h0; exact hz (by simpa using hiff.1 h0)
        have ht2 : tL (tR ((l.drop k).take (pad k))) ≠ [] := fun h0 => hz (by simpa using hiff.1 h0)
        generalize hx : tL (tR ((l.drop k).take (pad k))) = x at ht ht2
        have Hx := Lib.hid hx
        clear hv he hz hiff hx
        go_enter Tryd.func13, Tryd.ntmps13
        go_wp2_with fail
        refine (refPad_any _ _).mono ?_
        rintro e w1 ⟨rfl, rfl⟩
        rw [padI_pad]
        go_wp2_with fail
        refine (refPad_any _ _).mono ?_
        rintro e w1 ⟨rfl, rfl⟩
        rw [padI_pad]
        go_wp2_with fail
        refine (trim_any _ _ (by omega)).mono ?_
        rintro e w1 ⟨rfl, n, rfl⟩
        rw [Hx.out]
        go_wp2_with fail
        go_ret3
        exact ⟨rfl, below_drawn _⟩
set_option maxRecDepth 100000 in
theorem fieldPads_any (l : List UInt8) (n : Int) (w : World) (hl : l.length ≤ 140737488351232) (_hn : (Lit.int .i64 n).wf = true) (hg : ErrCell w) :
    Calls Tryd.prog 4 #[.string (S l), .int .i64 n] w fun e w' => e = .returned (.bool true) ∧ Below w.heap.size w w' := by
  have Hg := Lib.hid hg
  clear hg
  by_cases h : 500 < l.length
  · go_enter Tryd.func4, Tryd.ntmps4
    go_wp2_with fail
    go_ret
    exact ⟨rfl, Below.refl _ _⟩
  · go_enter Tryd.func4, Tryd.ntmps4
    go_wp2_with fail
    refine (refUnpad_all l n _ (by omega)).mono ?_
    rintro e w1 ⟨rfl, hb1⟩
    go_wp2_with fail
    refine (unpad_all l n _ (by omega)).mono ?_
    rintro e w2 ⟨rfl, hb2⟩
    have hb := below_then hb1 hb2
    clear hb1 hb2
    go_wp2_with fail
    refine (pad_any n _).mono ?_
    rintro e w3 ⟨rfl, rfl⟩
    go_wp2_with fail
    refine (refPad_any n _).mono ?_
    rintro e w3 ⟨rfl, rfl⟩
    go_wp2_with fail
    refine (padded_any l _ (by omega)).mono ?_
    rintro e w3 ⟨rfl, rfl⟩
    go_wp2_with fail
    refine (refPadded_any l _ (by omega)).mono ?_
    rintro e w3 ⟨rfl, rfl⟩
    go_wp2_with fail
    refine (bare_any _ _ (Hg.out.later hb)).mono ?_
    rintro e w5 ⟨rfl, hb5⟩
    go_wp2_with fail
    go_ret
    exact ⟨rfl, below_then hb hb5⟩
end Go.Proofs.YtpbdbnkedmkllaaDoor
