/- FieldBack, FieldOnly: what is written is read; just one way. -/
import Derived.Test.YtpbdbnkedmkllaaDoorField
import Derived.Test.YtpbdbnkedmkllaaDoorTell
namespace Go.Proofs.YtpbdbnkedmkllaaDoor
open Go.RowKit
theorem wf_u64 {n : Int} (h : (Lit.int .u64 n).wf = true) : ∃ k : Nat, n = k ∧ k < 2 ^ 64 := by
  have h' : 0 ≤ n ∧ n ≤ 18446744073709551615 := by simpa [Lit.wf, IntKind.min, IntKind.max, IntKind.signed, IntKind.bits] using h
  exact ⟨n.toNat, by omega, by omega⟩
theorem wf_i64 {n : Int} (h : (Lit.int .i64 n).wf = true) : -9223372036854775808 ≤ n ∧ n ≤ 9223372036854775807 := by
  simpa [Lit.wf, IntKind.min, IntKind.max, IntKind.signed, IntKind.bits] using h
theorem u64_wrap (a : Int) : IntKind.u64.wrap a = a % 2 ^ 64 := by
  have s : IntKind.u64.signed = false := rfl
  unfold IntKind.wrap
  simp only [s, Bool.false_and, Bool.false_eq_true, if_false]
  rfl
/-- int(uint(a) % uint(n)) -/
def pickI (a : Int) (n : Nat) : Nat := (a % 2 ^ 64).toNat % n
theorem pickI_lt (a : Int) (n : Nat) (hn : 0 < n) : pickI a n < n := Nat.mod_lt _ hn
theorem pick_walk (a : Int) (n : Nat) (hn : 0 < n) (h : n ≤ 4294967280) : wrap64 ((IntKind.u64.wrap a).tmod (n : Int)) = ((pickI a n : Nat) : Int) := by
  have h0 : 0 ≤ a % 2 ^ 64 := Int.emod_nonneg _ (by decide)
  have e : (IntKind.u64.wrap a).tmod (n : Int) = ((pickI a n : Nat) : Int) := by
    rw [u64_wrap, Int.tmod_eq_emod_of_nonneg h0]
    unfold pickI
    generalize a % 2 ^ 64 = m at h0
    obtain ⟨k, rfl⟩ := Int.eq_ofNat_of_zero_le h0
    rw [Int.toNat_natCast, Int.natCast_emod]
  have hlt := pickI_lt a n hn
  rw [e]
  exact IntWalk.wrap64_in _ ⟨by omega, by omega⟩
theorem pick_any (a : Int) (n : Nat) (w : World) (hn : 0 < n) (h : n ≤ 4294967280) :
    Calls Tryd.prog 20 #[.int .i64 a, .int .i64 n] w fun e w' => e = .returned (.int .i64 (pickI a n : Nat)) ∧ w = w' := by
  have hp := pick_walk a n hn h
  have hn2 : (n : Int) ≠ 0 := by omega
  go_enter Tryd.func20, Tryd.ntmps20
  go_wp2_with fail
  go_ret
  exact ⟨ret_int hp, rfl⟩

theorem fieldBack_any (x y : Int) (w : World) (hx : (Lit.int .u64 x).wf = true) (_hy : (Lit.int .i64 y).wf = true) (hg : ErrCell w) :
    Calls Tryd.prog 5 #[.int .u64 x, .int .i64 y] w fun e w' => e = .returned (.bool true) ∧ Below w.heap.size w w' := by
  obtain ⟨n, rfl, hn⟩ := wf_u64 hx
  clear hx
  have hs := pickI_lt y 9 (by decide)
  have Hg := Lib.hid hg
  have Hn := Lib.hid hn
  clear hg hn
  obtain ⟨k, hk⟩ : ∃ k, k = pickI y 9 := ⟨_, rfl⟩
  rw [← hk] at hs
  have Hk := Lib.hid hk
  clear hk
  by_cases hq : n / 2 ^ (8 * k) = 0
  · have hlen := be_len n k
    have hv : val (be n k) = n := val_be n k (by rw [Nat.div_eq_zero_iff] at hq; rcases hq with h | h; exact absurd h (Nat.ne_of_gt (Nat.two_pow_pos _)); exact h)
    by_cases h8 : k < 8
    · have hd : decide ((k : Int) < 8) = true := decide_eq_true (by omega)
      have hq1 : ((n : Int) / 2 ^ (8 * k) != 0) = false := by
        have : (n : Int) / 2 ^ (8 * k) = 0 := by exact_mod_cast hq
        rw [this]; rfl
      go_enter Tryd.func5, Tryd.ntmps5
      go_wp2_with fail
      refine (put_fact _).mono ?_
      rintro e w1 ⟨rfl, hb1⟩
      go_wp2_with fail
      refine (pick_any _ 9 _ (by decide) (by decide)).mono ?_
      rintro e w2 ⟨rfl, rfl⟩
      rw [← Hk.out]
      go_wp2_with fail
      refine (put_ok n k _ (by omega) hq).mono ?_
      rintro e w2 ⟨rfl, hb2⟩
      go_wp2_with fail
      refine (get_ok _ _ (by omega)).mono ?_
      rintro e w3 ⟨rfl, rfl⟩
      rw [hv]
      go_wp2_with fail
      go_ret
      exact ⟨rfl, below_then hb1 hb2⟩
    · have hd : decide ((k : Int) < 8) = false := decide_eq_false (by omega)
      go_enter Tryd.func5, Tryd.ntmps5
      go_wp2_with fail
      refine (put_fact _).mono ?_
      rintro e w1 ⟨rfl, hb1⟩
      go_wp2_with fail
      refine (pick_any _ 9 _ (by decide) (by decide)).mono ?_
      rintro e w2 ⟨rfl, rfl⟩
      rw [← Hk.out]
      go_wp2_with fail
      refine (put_ok n k _ (by omega) hq).mono ?_
      rintro e w2 ⟨rfl, hb2⟩
      go_wp2_with fail
      refine (get_ok _ _ (by omega)).mono ?_
      rintro e w3 ⟨rfl, rfl⟩
      rw [hv]
      go_wp2_with fail
      go_ret
      exact ⟨rfl, below_then hb1 hb2⟩
  · have hk8 : k < 8 := by
      by_cases h8 : k < 8
      · exact h8
      · exfalso; apply hq
        obtain rfl : k = 8 := by omega
        exact Nat.div_eq_of_lt Hn.out
    have hd : decide ((k : Int) < 8) = true := decide_eq_true (by omega)
    have hq1 : ((n : Int) / 2 ^ (8 * k) != 0) = true := by
      rw [bne_iff_ne]; intro h0; apply hq; exact_mod_cast h0
    go_enter Tryd.func5, Tryd.ntmps5
    go_wp2_with fail
    refine (put_fact _).mono ?_
    rintro e w1 ⟨rfl, hb1⟩
    go_wp2_with fail
    refine (pick_any _ 9 _ (by decide) (by decide)).mono ?_
    rintro e w2 ⟨rfl, rfl⟩
    rw [← Hk.out]
    go_wp2_with fail
    refine (put_limit n k _ (by omega) hq).mono ?_
    rintro e w2 ⟨rfl, rfl⟩
    go_wp2_with fail
    refine (tell_err 4 _ (Hg.out.later hb1)).mono ?_
    rintro e w2 ⟨rfl, hb2⟩
    go_wp2_with fail
    go_ret
    exact ⟨rfl, below_then hb1 hb2⟩

theorem fieldOnly_any (l : List UInt8) (w : World) (hl : l.length ≤ 140737488351232) (hg : ErrCell w) :
    Calls Tryd.prog 6 #[.string (S l)] w fun e w' => e = .returned (.bool true) ∧ Below w.heap.size w w' := by
  have Hg := Lib.hid hg
  clear hg
  by_cases h50 : 50 < l.length
  · go_enter Tryd.func6, Tryd.ntmps6
    go_wp2_with fail
    refine (put_fact _).mono ?_
    rintro e w1 ⟨rfl, hb1⟩
    go_wp2_with fail
    go_ret
    exact ⟨rfl, hb1⟩
  · by_cases h8 : 8 < l.length
    · go_enter Tryd.func6, Tryd.ntmps6
      go_wp2_with fail
      refine (put_fact _).mono ?_
      rintro e w1 ⟨rfl, hb1⟩
      go_wp2_with fail
      refine (get_limit _ _ h8).mono ?_
      rintro e w2 ⟨rfl, rfl⟩
      go_wp2_with fail
      refine (tell_err 4 _ (Hg.out.later hb1)).mono ?_
      rintro e w2 ⟨rfl, hb2⟩
      go_wp2_with fail
      go_ret
      exact ⟨rfl, below_then hb1 hb2⟩
    · have hlt := val_lt l.length l rfl
      have hbe := be_val l
      have hq : val l / 2 ^ (8 * l.length) = 0 := Nat.div_eq_of_lt (by rw [Nat.pow_mul]; exact hlt)
      clear hlt
      have Hbe := Lib.hid hbe
      have Hq := Lib.hid hq
      clear hbe hq
      go_enter Tryd.func6, Tryd.ntmps6
      go_wp2_with fail
      refine (put_fact _).mono ?_
      rintro e w1 ⟨rfl, hb1⟩
      go_wp2_with fail
      refine (get_ok _ _ (by omega)).mono ?_
      rintro e w2 ⟨rfl, rfl⟩
      go_wp2_with fail
      refine (put_ok (val l) l.length _ (by omega) Hq.out).mono ?_
      rintro e w2 ⟨rfl, hb2⟩
      rw [Hbe.out]
      go_wp2_with fail
      go_ret
      exact ⟨rfl, below_then hb1 hb2⟩
end Go.Proofs.YtpbdbnkedmkllaaDoor
