/- FieldWide: in more bytes a number is the same, with bytes of 0 ahead. -/
import Derived.Test.YtpbdbnkedmkllaaPick
import Derived.Test.YtpbdbnkedmkllaaShelf
namespace Go.Proofs.Ytpbdbnkedmkllaa
open Go.RowKit
theorem repeat_zs (c : Nat) : Lib.repeatL [0] c = zs c := by
  induction c with
  | zero => rfl
  | succ c ih => show [0] ++ Lib.repeatL [0] c = _; rw [ih]; rfl
theorem repeat_any (c : Nat) (w : World) (hc : c ≤ 4294967280) :
    Calls Try.prog 15 #[.string (S [0]), .int .i64 c] w fun e w' => e = .returned (.string (S (zs c))) ∧ Below w.heap.size w w' := by
  have h := Try.strings_Repeat (S [0]) c w (by omega) (by rw [S_size]; simp; omega)
  have e : (S [0]).data.toList = [0] := rfl
  rw [e, repeat_zs] at h
  exact h
theorem be_wide (n k m : Nat) (hk : k ≤ m) (h : n / 2 ^ (8 * k) = 0) : be n m = zs (m - k) ++ be n k := by
  obtain ⟨d, rfl⟩ : ∃ d, m = k + d := ⟨m - k, by omega⟩
  rw [show k + d - k = d from by omega]
  clear hk
  induction d with
  | zero => simp [zs]
  | succ d ih =>
    show UInt8.ofNat (n / 2 ^ (8 * (k + d)) % 256) :: be n (k + d) = _
    have h0 : n / 2 ^ (8 * (k + d)) = 0 := by
      rw [show 8 * (k + d) = 8 * k + 8 * d from by omega, Nat.pow_add, ← Nat.div_div_eq_div_mul, h, Nat.zero_div]
    rw [h0, ih]
    rfl
theorem wide_zero (n k m : Nat) (hk : k ≤ m) (h : n / 2 ^ (8 * k) = 0) : n / 2 ^ (8 * m) = 0 := by
  obtain ⟨d, rfl⟩ : ∃ d, m = k + d := ⟨m - k, by omega⟩
  rw [show 8 * (k + d) = 8 * k + 8 * d from by omega, Nat.pow_add, ← Nat.div_div_eq_div_mul, h, Nat.zero_div]
theorem fieldWide_any (x a b : Int) (w : World) (hx : (Lit.int .u64 x).wf = true) (_ha : (Lit.int .i64 a).wf = true) (_hb : (Lit.int .i64 b).wf = true) :
    Calls Try.prog 5 #[.int .u64 x, .int .i64 a, .int .i64 b] w fun e w' => e = .returned (.bool true) ∧ Below w.heap.size w w' := by
  obtain ⟨n, rfl, hn⟩ := wf_u64 hx
  clear hx hn
  obtain ⟨p, hp⟩ : ∃ p, p = pickI a 9 := ⟨_, rfl⟩
  obtain ⟨q, hq⟩ : ∃ q, q = pickI b 9 := ⟨_, rfl⟩
  have hpl := pickI_lt a 9 (by decide)
  have hql := pickI_lt b 9 (by decide)
  rw [← hp] at hpl
  rw [← hq] at hql
  have Hp := Lib.hid hp
  have Hq := Lib.hid hq
  clear hp hq
  obtain ⟨k, m, hk, hm, hkm, hm8⟩ : ∃ k m : Nat, min (p : Int) (q : Int) = (k : Int) ∧ max (p : Int) (q : Int) = (m : Int) ∧ k ≤ m ∧ m ≤ 8 := ⟨min p q, max p q, by omega, by omega, by omega, by omega⟩
  by_cases h : n / 2 ^ (8 * k) = 0
  · have hz := wide_zero n k m hkm h
    have hw := be_wide n k m hkm h
    have hl1 := be_len n k
    have hl2 := be_len n m
    have hmin : min (m : Int) (k : Int) = (k : Int) := by omega
    have hsub : (m : Int) - (k : Int) = ((m - k : Nat) : Int) := by omega
    have Hw := Lib.hid hw
    have Hz := Lib.hid hz
    have Hh := Lib.hid h
    clear hw hz h
    go_enter Try.func5, Try.ntmps5
    go_wp2_with fail
    refine (put_fact _).mono ?_
    rintro e w1 ⟨rfl, hb1⟩
    go_wp2_with fail
    refine (pick_any _ 9 _ (by decide) (by decide)).mono ?_
    rintro e w2 ⟨rfl, rfl⟩
    rw [← Hp.out]
    go_wp2_with fail
    refine (pick_any _ 9 _ (by decide) (by decide)).mono ?_
    rintro e w2 ⟨rfl, rfl⟩
    rw [← Hq.out]
    go_wp2_with fail
    refine (put_ok n k _ (by omega) Hh.out).mono ?_
    rintro e w2 ⟨rfl, hb2⟩
    go_wp2_with fail
    refine (put_ok n m _ (by omega) Hz.out).mono ?_
    rintro e w3 ⟨rfl, hb3⟩
    go_wp2_with fail
    refine (repeat_any _ _ (by omega)).mono ?_
    rintro e w4 ⟨rfl, hb4⟩
    rw [Hw.out]
    go_wp2_with fail
    go_ret
    exact ⟨rfl, below_then hb1 (below_then hb2 (below_then hb3 hb4))⟩
  · have H := Lib.hid h
    clear h
    go_enter Try.func5, Try.ntmps5
    go_wp2_with fail
    refine (put_fact _).mono ?_
    rintro e w1 ⟨rfl, hb1⟩
    go_wp2_with fail
    refine (pick_any _ 9 _ (by decide) (by decide)).mono ?_
    rintro e w2 ⟨rfl, rfl⟩
    rw [← Hp.out]
    go_wp2_with fail
    refine (pick_any _ 9 _ (by decide) (by decide)).mono ?_
    rintro e w2 ⟨rfl, rfl⟩
    rw [← Hq.out]
    go_wp2_with fail
    refine (put_limit n k _ (by omega) H.out).mono ?_
    rintro e w2 ⟨rfl, rfl⟩
    go_wp2_with fail
    by_cases h2 : n / 2 ^ (8 * m) = 0
    · refine (put_ok n m _ (by omega) h2).mono ?_
      rintro e w3 ⟨rfl, hb3⟩
      go_wp2_with fail
      go_ret
      exact ⟨rfl, below_then hb1 hb3⟩
    · refine (put_limit n m _ (by omega) h2).mono ?_
      rintro e w3 ⟨rfl, rfl⟩
      go_wp2_with fail
      go_ret
      exact ⟨rfl, hb1⟩
end Go.Proofs.Ytpbdbnkedmkllaa
