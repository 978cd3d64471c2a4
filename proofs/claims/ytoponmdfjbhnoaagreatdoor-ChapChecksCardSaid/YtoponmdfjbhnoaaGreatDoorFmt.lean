/- strconv.FormatInt in the bases 2 and 16: a number below 256. -/
import Derived.Test.YtoponmdfjbhnoaaGreatDoorRows
import Derived.Test.YtoponmdfjbhnoaaGreatDoorGA
import Derived.Test.YtoponmdfjbhnoaaGreatDoorBuf
import Derived.KernelRfl
namespace Go.Proofs.YtoponmdfjbhnoaaGreatDoor
open Go.RowKit
/-- what the library's table says of 2 and 16 -/
def BruijnT (W : World) : Prop := W.cell? ⟨11, 1, none⟩ = some (.int .u8 1) ∧ W.cell? ⟨11, 15, none⟩ = some (.int .u8 4)
theorem keepP {W W' : World} {p : Addr} {v : Value} (hb : Below W.heap.size W W') (h : W.cell? p = some v) : W'.cell? p = some v := by rw [hb.cell (block_lt_of_cell h)]; exact h
theorem BruijnT.later {W W' : World} (h : BruijnT W) (hb : Below W.heap.size W W') : BruijnT W' := ⟨keepP hb h.1, keepP hb h.2⟩
theorem digs_at (m : Nat) (hm : m < 16) (h : m < ([48, 49, 50, 51, 52, 53, 54, 55, 56, 57, 97, 98, 99, 100, 101, 102, 103, 104, 105, 106, 107, 108, 109, 110, 111, 112, 113, 114, 115, 116, 117, 118, 119, 120, 121, 122] : List UInt8).length) : ([48, 49, 50, 51, 52, 53, 54, 55, 56, 57, 97, 98, 99, 100, 101, 102, 103, 104, 105, 106, 107, 108, 109, 110, 111, 112, 113, 114, 115, 116, 117, 118, 119, 120, 121, 122] : List UInt8)[m]'h = digC m := by
  have : ∀ k : Fin 16, ([48, 49, 50, 51, 52, 53, 54, 55, 56, 57, 97, 98, 99, 100, 101, 102, 103, 104, 105, 106, 107, 108, 109, 110, 111, 112, 113, 114, 115, 116, 117, 118, 119, 120, 121, 122] : List UInt8)[k.1]'(Nat.lt_of_lt_of_le k.2 (by decide)) = digC k.1 := by decide
  exact this ⟨m, hm⟩
theorem zero65 (b n : Nat) : Tryz.zeroCells180 = cells8 (fmtRow b n 0) := by kernel_rfl
theorem run_fmt (w : World) (b n k i : Nat) (hk : 1 ≤ k) (hi : i + k = 65) (t : TypeId) :
    (convert 44 9 (.slice (some ⟨w.heap.size, i, none⟩) (65 - i) (65 - i))).run Tryz.prog (w.alloc (.cells (cells8 (fmtRow b n k)) t)) = .ok (.string (S (lowD b n k))) (w.alloc (.cells (cells8 (fmtRow b n k)) t)) := by
  have hl := lowD_len b n k
  have h := run_string_at (P := Tryz.prog) 44 9 5 Tryz.underlying44 Tryz.underlying5 Tryz.underlying9 (w.alloc (.cells (cells8 (fmtRow b n k)) t)) w.heap.size i (lowD b n k) (65 - i) (fun j hj => by
    rw [World.cell?_alloc_mark, cells8_get _ _ (by rw [fmtRow_len _ _ _ (by omega)]; omega)]
    have := fmtRow_drop b n k
    rw [show 65 - k = i from by omega] at this
    simp only [← this, List.getElem_drop])
  rw [hl, show k = 65 - i from by omega] at h
  rwa [show 65 - i = k from by omega] at h ⊢
theorem low_and (n k : Nat) (hn : n < 18446744073709551616) (hk : 2 ^ k - 1 < 18446744073709551616) : bits .and .u64 (n : Int) ((2 ^ k - 1 : Nat) : Int) = ((n % 2 ^ k : Nat) : Int) := by
  rw [u64_and_nat n _ hn hk, Nat.and_two_pow_sub_one_eq_mod]

theorem trailing64_2 (w : World) (h : BruijnT w) : Calls Tryz.prog 114 #[.int .u64 2] w fun e w' => e = .returned (.int .i64 1) ∧ w = w' := by
  obtain ⟨h1, h2⟩ := h
  go_enter Tryz.func114, Tryz.ntmps114
  have g1 : IntKind.u64.wrap (-2) = 18446744073709551616 - 2 := by decide +kernel
  have g2 : bits .and .u64 2 (18446744073709551616 - 2) = 2 := by decide +kernel
  have g3 : IntKind.u64.wrap (2 * 285870213051353865) = 2 * 285870213051353865 := by decide +kernel
  simp only [Int.reduceSub, Int.reduceMul] at g1 g2 g3
  go_wp2_with fail
  go_ret
  exact ⟨rfl, rfl⟩
theorem trailing_2 (w : World) (h : BruijnT w) : Calls Tryz.prog 111 #[.int .u64 2] w fun e w' => e = .returned (.int .i64 1) ∧ w = w' := by
  go_enter Tryz.func111, Tryz.ntmps111
  go_wp2_with fail
  refine (trailing64_2 _ h).mono ?_
  rintro e w' ⟨rfl, rfl⟩
  go_wp2_with fail
  go_ret
  exact ⟨rfl, rfl⟩
theorem power_2 (w : World) : Calls Tryz.prog 110 #[.int .i64 2] w fun e w' => e = .returned (.bool true) ∧ w = w' := by
  go_enter Tryz.func110, Tryz.ntmps110
  go_wp2_with fail
  go_ret
  exact ⟨rfl, rfl⟩
set_option maxRecDepth 100000 in
theorem bits_2 (n : Nat) (w : World) (hn : n < 256) (hT : BruijnT w) :
    Calls Tryz.prog 99 #[.slice none 0 0, .int .u64 n, .int .i64 2, .bool false, .bool false] w fun e w' => (∃ k, n < 2 ^ (k + 1) ∧ (k = 0 ∨ 2 ^ k ≤ n) ∧ e = .returned (.tuple #[.slice none 0 0, .string (S (lowD 2 n (k + 1)))])) ∧ Below w.heap.size w w' := by
  have HT := Lib.hid hT
  clear hT
  go_enter Tryz.func99, Tryz.ntmps99
  go_wp2_with fail
  refine (power_2 _).mono ?_
  rintro e w' ⟨rfl, rfl⟩
  go_wp2_with fail
  refine (trailing_2 _ (HT.out.later ((Below.refl _ _).alloc (Nat.le_refl _) _))).mono ?_
  rintro e w' ⟨rfl, rfl⟩
  go_wp2_with fail
  rw [show Tryz.zeroCells180 = cells8 (fmtRow 2 n 0) from zero65 2 n]
  go_loopg [1, 13] 9 (fun g u i wr => ∃ k m : Nat, g + k = 9 ∧ u = .int .u64 m ∧ m = n / 2 ^ k ∧ i = .int .i64 (65 - k : Nat) ∧ (k = 0 ∨ 2 ^ k ≤ n) ∧ wr = w.alloc (.cells (cells8 (fmtRow 2 n k)) 180))
  case atStart => exact ⟨0, n, by omega, rfl, by simp, rfl, .inl rfl, rfl⟩
  case round =>
    obtain ⟨k, m, hg, rfl, hm, rfl, hk, rfl⟩ := hrel
    have hk9 : k < 8 := by
      apply Classical.byContradiction
      intro hx
      have h8 : 2 ^ 8 ≤ 2 ^ k := Nat.pow_le_pow_right (by decide) (by omega)
      have : (256 : Nat) ≤ 2 ^ 8 := by decide
      rcases hk with rfl | hk
      · omega
      · omega
    have hm256 : m < 256 := by rw [hm]; exact Nat.lt_of_le_of_lt (Nat.div_le_self _ _) hn
    have Hg := Lib.hid hg
    have Hk := Lib.hid hk
    obtain ⟨x, hget⟩ : ∃ x, (cells8 (fmtRow 2 n k))[64 - k]? = some x := ⟨_, cells8_get (fmtRow 2 n k) (64 - k) (by rw [fmtRow_len _ _ _ (by omega)]; omega)⟩
    have hst := cells8_set (fmtRow 2 n k) (64 - k) (digC (m % 2))
    rw [hm, fmtRow_step 2 n k (by omega), ← hm] at hst
    have Hm := Lib.hid hm
    have hand := low_and m 1 (by omega) (by decide)
    simp only [Nat.reducePow, Nat.reduceSub, Int.cast_ofNat_Int] at hand
    obtain ⟨i, hi⟩ : ∃ i, 65 - k = i + 1 := ⟨64 - k, by omega⟩
    have hi2 : 64 - k = i := by omega
    simp only [hi2] at hst hget
    rw [hi]
    clear hg hk hm
    by_cases hlt : 2 ≤ m
    · have hd := digs_at (m % 2) (by omega)
      have hbk : 2 ^ (k + 1) ≤ n := by rw [Nat.pow_succ, Nat.mul_comm]; exact (Nat.le_div_iff_mul_le (Nat.pow_pos (by decide))).1 (by rw [← Hm.out]; exact hlt)
      have Hbk := Lib.hid hbk
      have Hi := Lib.hid hi2
      clear hbk hi2
      go_wp2_with fail
      go_roundg (gk - 1)
      case measure => have := Hg.out; omega
      case rel => exact ⟨k + 1, m / 2, by have := Hg.out; omega, by go_num, by rw [Hm.out, Nat.div_div_eq_div_mul, ← Nat.pow_succ], by rw [show 65 - (k + 1) = i from by have := Hi.out; omega], .inr Hbk.out, rfl⟩
    · have hd := digs_at m (by omega)
      rw [Nat.mod_eq_of_lt (show m < 2 by omega)] at hst
      have hi65 : (i : Int) ≤ 65 := by omega
      have hne : ¬ 65 = i := by omega
      have hend : n < 2 ^ (k + 1) := by rw [Nat.pow_succ, Nat.mul_comm]; exact (Nat.div_lt_iff_lt_mul (Nat.pow_pos (n := k) (by decide : 0 < 2))).1 (show n / 2 ^ k < 2 by rw [← Hm.out]; omega)
      have hcv := run_fmt w 2 n (k + 1) i (by omega) (by omega) 180
      have Hend := Lib.hid hend
      clear hend
      go_wp2_with fail
      go_ret2
      exact ⟨⟨k, Hend.out, Hk.out, rfl⟩, (Below.refl _ _).alloc (Nat.le_refl _) _⟩
set_option maxRecDepth 100000 in
theorem fmtIn_2 (n : Nat) (w : World) (hn : n < 256) (hT : BruijnT w) :
    Calls Tryz.prog 81 #[.int .i64 n, .int .i64 2] w fun e w' => (∃ k, n < 2 ^ (k + 1) ∧ (k = 0 ∨ 2 ^ k ≤ n) ∧ e = .returned (.string (S (lowD 2 n (k + 1))))) ∧ Below w.heap.size w w' := by
  have C := Lib.hid (bits_2 n w hn hT)
  clear hT
  go_enter Tryz.func81, Tryz.ntmps81
  go_wp2_with fail
  refine C.out.mono ?_
  rintro e w' ⟨⟨k, h1, h2, rfl⟩, hb⟩
  have H := Lib.hid (⟨h1, h2⟩ : n < 2 ^ (k + 1) ∧ (k = 0 ∨ 2 ^ k ≤ n))
  clear h1 h2
  go_wp2_with fail
  go_ret
  exact ⟨⟨k, H.out.1, H.out.2, rfl⟩, hb⟩
set_option maxRecDepth 100000 in
theorem fmt_2 (n : Nat) (w : World) (hn : n < 256) (hT : BruijnT w) :
    Calls Tryz.prog 56 #[.int .i64 n, .int .i64 2] w fun e w' => (∃ k, n < 2 ^ (k + 1) ∧ (k = 0 ∨ 2 ^ k ≤ n) ∧ e = .returned (.string (S (lowD 2 n (k + 1))))) ∧ Below w.heap.size w w' := by
  go_enter Tryz.func56, Tryz.ntmps56
  go_wp2_with fail
  refine (fmtIn_2 n w hn hT).mono ?_
  rintro e w' ⟨⟨k, h1, h2, rfl⟩, hb⟩
  have H := Lib.hid (⟨h1, h2⟩ : n < 2 ^ (k + 1) ∧ (k = 0 ∨ 2 ^ k ≤ n))
  clear h1 h2
  go_wp2_with fail
  go_ret
  exact ⟨⟨k, H.out.1, H.out.2, rfl⟩, hb⟩
set_option maxRecDepth 100000 in
theorem digits_2 (n t : Nat) (w : World) (hn : n < 256) (ht0 : 1 ≤ t) (ht : t ≤ 8) (hnt : n < 2 ^ t) (hT : BruijnT w) :
    Calls Tryz.prog 33 #[.int .i64 n, .int .i64 2, .int .i64 t] w fun e w' => e = .returned (.string (S (lowD 2 n t))) ∧ Below w.heap.size w w' := by
  have Hnt := Lib.hid hnt
  clear hnt
  go_enter Tryz.func33, Tryz.ntmps33
  go_wp2_with fail
  refine (fmt_2 n w hn hT).mono ?_
  rintro e w' ⟨⟨k, h1, h2, rfl⟩, hb⟩
  have hkt : k + 1 ≤ t := by
    rcases h2 with rfl | h2
    · omega
    · have : 2 ^ k < 2 ^ t := Nat.lt_of_le_of_lt h2 Hnt.out
      exact (Nat.pow_lt_pow_iff_right (by decide)).1 this
  have H1 := Lib.hid h1
  clear h1 h2
  go_wp2_with fail
  go_loopg [7] (t - k) (fun g s wr => ∃ j : Nat, g + j = t + 1 ∧ k + 1 ≤ j ∧ j ≤ t ∧ s = .string (S (lowD 2 n j)) ∧ wr = w')
  case atStart => exact ⟨k + 1, by omega, by omega, by omega, rfl, rfl⟩
  case round =>
    obtain ⟨j, hg, hkj, hjt, rfl, rfl⟩ := hrel
    have Hg := Lib.hid hg
    clear hg
    have hlen := lowD_len 2 n j
    by_cases hlt : j < t
    · have hlti : (j : Int) < (t : Int) := by omega
      have hstep : 48 :: lowD 2 n j = lowD 2 n (j + 1) := by
        have hz : n / 2 ^ j = 0 := Nat.div_eq_of_lt (Nat.lt_of_lt_of_le H1.out (Nat.pow_le_pow_right (by decide) hkj))
        show _ = digC (n / 2 ^ j % 2) :: _
        rw [hz]
        rfl
      have Hstep := Lib.hid hstep
      clear hstep
      obtain ⟨L, hL⟩ : ∃ L, lowD 2 n j = L := ⟨_, rfl⟩
      rw [hL] at hlen ⊢
      have HL := Lib.hid hL
      clear hL
      go_wp2_with fail
      go_roundg (gk - 1)
      case measure => have := Hg.out; omega
      case rel => exact ⟨j + 1, by have := Hg.out; omega, by omega, by omega, by rw [← Hstep.out, HL.out], rfl⟩
    · obtain rfl : j = t := by omega
      have hlti : ¬ (j : Int) < (j : Int) := by omega
      obtain ⟨L, hL⟩ : ∃ L, lowD 2 n j = L := ⟨_, rfl⟩
      rw [hL] at hlen ⊢
      go_wp2_with fail
      go_ret
      exact ⟨rfl, hb⟩

theorem trailing64_16 (w : World) (h : BruijnT w) : Calls Tryz.prog 114 #[.int .u64 16] w fun e w' => e = .returned (.int .i64 4) ∧ w = w' := by
  obtain ⟨h1, h2⟩ := h
  go_enter Tryz.func114, Tryz.ntmps114
  have g1 : IntKind.u64.wrap (-16) = 18446744073709551616 - 16 := by decide +kernel
  have g2 : bits .and .u64 16 (18446744073709551616 - 16) = 16 := by decide +kernel
  have g3 : IntKind.u64.wrap (16 * 285870213051353865) = 16 * 285870213051353865 := by decide +kernel
  simp only [Int.reduceSub, Int.reduceMul] at g1 g2 g3
  go_wp2_with fail
  go_ret
  exact ⟨rfl, rfl⟩
theorem trailing_16 (w : World) (h : BruijnT w) : Calls Tryz.prog 111 #[.int .u64 16] w fun e w' => e = .returned (.int .i64 4) ∧ w = w' := by
  go_enter Tryz.func111, Tryz.ntmps111
  go_wp2_with fail
  refine (trailing64_16 _ h).mono ?_
  rintro e w' ⟨rfl, rfl⟩
  go_wp2_with fail
  go_ret
  exact ⟨rfl, rfl⟩
theorem power_16 (w : World) : Calls Tryz.prog 110 #[.int .i64 16] w fun e w' => e = .returned (.bool true) ∧ w = w' := by
  go_enter Tryz.func110, Tryz.ntmps110
  go_wp2_with fail
  go_ret
  exact ⟨rfl, rfl⟩
set_option maxRecDepth 100000 in
theorem bits_16 (n : Nat) (w : World) (hn : n < 256) (hT : BruijnT w) :
    Calls Tryz.prog 99 #[.slice none 0 0, .int .u64 n, .int .i64 16, .bool false, .bool false] w fun e w' => (∃ k, n < 16 ^ (k + 1) ∧ (k = 0 ∨ 16 ^ k ≤ n) ∧ e = .returned (.tuple #[.slice none 0 0, .string (S (lowD 16 n (k + 1)))])) ∧ Below w.heap.size w w' := by
  have HT := Lib.hid hT
  clear hT
  go_enter Tryz.func99, Tryz.ntmps99
  go_wp2_with fail
  refine (power_16 _).mono ?_
  rintro e w' ⟨rfl, rfl⟩
  go_wp2_with fail
  refine (trailing_16 _ (HT.out.later ((Below.refl _ _).alloc (Nat.le_refl _) _))).mono ?_
  rintro e w' ⟨rfl, rfl⟩
  go_wp2_with fail
  rw [show Tryz.zeroCells180 = cells8 (fmtRow 16 n 0) from zero65 16 n]
  go_loopg [1, 13] 9 (fun g u i wr => ∃ k m : Nat, g + k = 9 ∧ u = .int .u64 m ∧ m = n / 16 ^ k ∧ i = .int .i64 (65 - k : Nat) ∧ (k = 0 ∨ 16 ^ k ≤ n) ∧ wr = w.alloc (.cells (cells8 (fmtRow 16 n k)) 180))
  case atStart => exact ⟨0, n, by omega, rfl, by simp, rfl, .inl rfl, rfl⟩
  case round =>
    obtain ⟨k, m, hg, rfl, hm, rfl, hk, rfl⟩ := hrel
    have hk9 : k < 8 := by
      apply Classical.byContradiction
      intro hx
      have h8 : 16 ^ 8 ≤ 16 ^ k := Nat.pow_le_pow_right (by decide) (by omega)
      have : (256 : Nat) ≤ 16 ^ 8 := by decide
      rcases hk with rfl | hk
      · omega
      · omega
    have hm256 : m < 256 := by rw [hm]; exact Nat.lt_of_le_of_lt (Nat.div_le_self _ _) hn
    have Hg := Lib.hid hg
    have Hk := Lib.hid hk
    obtain ⟨x, hget⟩ : ∃ x, (cells8 (fmtRow 16 n k))[64 - k]? = some x := ⟨_, cells8_get (fmtRow 16 n k) (64 - k) (by rw [fmtRow_len _ _ _ (by omega)]; omega)⟩
    have hst := cells8_set (fmtRow 16 n k) (64 - k) (digC (m % 16))
    rw [hm, fmtRow_step 16 n k (by omega), ← hm] at hst
    have Hm := Lib.hid hm
    have hand := low_and m 4 (by omega) (by decide)
    simp only [Nat.reducePow, Nat.reduceSub, Int.cast_ofNat_Int] at hand
    obtain ⟨i, hi⟩ : ∃ i, 65 - k = i + 1 := ⟨64 - k, by omega⟩
    have hi2 : 64 - k = i := by omega
    simp only [hi2] at hst hget
    rw [hi]
    clear hg hk hm
    by_cases hlt : 16 ≤ m
    · have hd := digs_at (m % 16) (by omega)
      have hbk : 16 ^ (k + 1) ≤ n := by rw [Nat.pow_succ, Nat.mul_comm]; exact (Nat.le_div_iff_mul_le (Nat.pow_pos (by decide))).1 (by rw [← Hm.out]; exact hlt)
      have Hbk := Lib.hid hbk
      have Hi := Lib.hid hi2
      clear hbk hi2
      go_wp2_with fail
      go_roundg (gk - 1)
      case measure => have := Hg.out; omega
      case rel => exact ⟨k + 1, m / 16, by have := Hg.out; omega, by go_num, by rw [Hm.out, Nat.div_div_eq_div_mul, ← Nat.pow_succ], by rw [show 65 - (k + 1) = i from by have := Hi.out; omega], .inr Hbk.out, rfl⟩
    · have hd := digs_at m (by omega)
      rw [Nat.mod_eq_of_lt (show m < 16 by omega)] at hst
      have hi65 : (i : Int) ≤ 65 := by omega
      have hne : ¬ 65 = i := by omega
      have hend : n < 16 ^ (k + 1) := by rw [Nat.pow_succ, Nat.mul_comm]; exact (Nat.div_lt_iff_lt_mul (Nat.pow_pos (n := k) (by decide : 0 < 16))).1 (show n / 16 ^ k < 16 by rw [← Hm.out]; omega)
      have hcv := run_fmt w 16 n (k + 1) i (by omega) (by omega) 180
      have Hend := Lib.hid hend
      clear hend
      go_wp2_with fail
      go_ret2
      exact ⟨⟨k, Hend.out, Hk.out, rfl⟩, (Below.refl _ _).alloc (Nat.le_refl _) _⟩
set_option maxRecDepth 100000 in
theorem fmtIn_16 (n : Nat) (w : World) (hn : n < 256) (hT : BruijnT w) :
    Calls Tryz.prog 81 #[.int .i64 n, .int .i64 16] w fun e w' => (∃ k, n < 16 ^ (k + 1) ∧ (k = 0 ∨ 16 ^ k ≤ n) ∧ e = .returned (.string (S (lowD 16 n (k + 1))))) ∧ Below w.heap.size w w' := by
  have C := Lib.hid (bits_16 n w hn hT)
  clear hT
  go_enter Tryz.func81, Tryz.ntmps81
  go_wp2_with fail
  refine C.out.mono ?_
  rintro e w' ⟨⟨k, h1, h2, rfl⟩, hb⟩
  have H := Lib.hid (⟨h1, h2⟩ : n < 16 ^ (k + 1) ∧ (k = 0 ∨ 16 ^ k ≤ n))
  clear h1 h2
  go_wp2_with fail
  go_ret
  exact ⟨⟨k, H.out.1, H.out.2, rfl⟩, hb⟩
set_option maxRecDepth 100000 in
theorem fmt_16 (n : Nat) (w : World) (hn : n < 256) (hT : BruijnT w) :
    Calls Tryz.prog 56 #[.int .i64 n, .int .i64 16] w fun e w' => (∃ k, n < 16 ^ (k + 1) ∧ (k = 0 ∨ 16 ^ k ≤ n) ∧ e = .returned (.string (S (lowD 16 n (k + 1))))) ∧ Below w.heap.size w w' := by
  go_enter Tryz.func56, Tryz.ntmps56
  go_wp2_with fail
  refine (fmtIn_16 n w hn hT).mono ?_
  rintro e w' ⟨⟨k, h1, h2, rfl⟩, hb⟩
  have H := Lib.hid (⟨h1, h2⟩ : n < 16 ^ (k + 1) ∧ (k = 0 ∨ 16 ^ k ≤ n))
  clear h1 h2
  go_wp2_with fail
  go_ret
  exact ⟨⟨k, H.out.1, H.out.2, rfl⟩, hb⟩
set_option maxRecDepth 100000 in
theorem digits_16 (n t : Nat) (w : World) (hn : n < 256) (ht0 : 1 ≤ t) (ht : t ≤ 8) (hnt : n < 16 ^ t) (hT : BruijnT w) :
    Calls Tryz.prog 33 #[.int .i64 n, .int .i64 16, .int .i64 t] w fun e w' => e = .returned (.string (S (lowD 16 n t))) ∧ Below w.heap.size w w' := by
  have Hnt := Lib.hid hnt
  clear hnt
  go_enter Tryz.func33, Tryz.ntmps33
  go_wp2_with fail
  refine (fmt_16 n w hn hT).mono ?_
  rintro e w' ⟨⟨k, h1, h2, rfl⟩, hb⟩
  have hkt : k + 1 ≤ t := by
    rcases h2 with rfl | h2
    · omega
    · have : 16 ^ k < 16 ^ t := Nat.lt_of_le_of_lt h2 Hnt.out
      exact (Nat.pow_lt_pow_iff_right (by decide)).1 this
  have H1 := Lib.hid h1
  clear h1 h2
  go_wp2_with fail
  go_loopg [7] (t - k) (fun g s wr => ∃ j : Nat, g + j = t + 1 ∧ k + 1 ≤ j ∧ j ≤ t ∧ s = .string (S (lowD 16 n j)) ∧ wr = w')
  case atStart => exact ⟨k + 1, by omega, by omega, by omega, rfl, rfl⟩
  case round =>
    obtain ⟨j, hg, hkj, hjt, rfl, rfl⟩ := hrel
    have Hg := Lib.hid hg
    clear hg
    have hlen := lowD_len 16 n j
    by_cases hlt : j < t
    · have hlti : (j : Int) < (t : Int) := by omega
      have hstep : 48 :: lowD 16 n j = lowD 16 n (j + 1) := by
        have hz : n / 16 ^ j = 0 := Nat.div_eq_of_lt (Nat.lt_of_lt_of_le H1.out (Nat.pow_le_pow_right (by decide) hkj))
        show _ = digC (n / 16 ^ j % 16) :: _
        rw [hz]
        rfl
      have Hstep := Lib.hid hstep
      clear hstep
      obtain ⟨L, hL⟩ : ∃ L, lowD 16 n j = L := ⟨_, rfl⟩
      rw [hL] at hlen ⊢
      have HL := Lib.hid hL
      clear hL
      go_wp2_with fail
      go_roundg (gk - 1)
      case measure => have := Hg.out; omega
      case rel => exact ⟨j + 1, by have := Hg.out; omega, by omega, by omega, by rw [← Hstep.out, HL.out], rfl⟩
    · obtain rfl : j = t := by omega
      have hlti : ¬ (j : Int) < (j : Int) := by omega
      obtain ⟨L, hL⟩ : ∃ L, lowD 16 n j = L := ⟨_, rfl⟩
      rw [hL] at hlen ⊢
      go_wp2_with fail
      go_ret
      exact ⟨rfl, hb⟩

theorem digits16_2 (n : Nat) (w : World) (hn : n < 256) (hT : BruijnT w) :
    Calls Tryz.prog 33 #[.int .i64 n, .int .i64 16, .int .i64 2] w fun e w' => e = .returned (.string (S (lowD 16 n 2))) ∧ Below w.heap.size w w' :=
  digits_16 n 2 w (by omega) (by decide) (by decide) (by rw [show (16 : Nat) ^ 2 = 256 from by decide]; exact hn) hT
theorem digits2_8 (n : Nat) (w : World) (hn : n < 256) (hT : BruijnT w) :
    Calls Tryz.prog 33 #[.int .i64 n, .int .i64 2, .int .i64 8] w fun e w' => e = .returned (.string (S (lowD 2 n 8))) ∧ Below w.heap.size w w' :=
  digits_2 n 8 w (by omega) (by decide) (by decide) (by rw [show (2 : Nat) ^ 8 = 256 from by decide]; exact hn) hT
theorem digits2_6 (n : Nat) (w : World) (hn : n < 64) (hT : BruijnT w) :
    Calls Tryz.prog 33 #[.int .i64 n, .int .i64 2, .int .i64 6] w fun e w' => e = .returned (.string (S (lowD 2 n 6))) ∧ Below w.heap.size w w' :=
  digits_2 n 6 w (by omega) (by decide) (by decide) (by rw [show (2 : Nat) ^ 6 = 64 from by decide]; exact hn) hT
end Go.Proofs.YtoponmdfjbhnoaaGreatDoor
