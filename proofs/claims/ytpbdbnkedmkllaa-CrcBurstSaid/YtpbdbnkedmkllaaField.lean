/- Contracts of package field: Pad, zeros, Padded, Unpad. -/
import Derived.Test.YtpbdbnkedmkllaaRows
import Derived.Test.YtpbdbnkedmkllaaBase
namespace Go.Proofs.Ytpbdbnkedmkllaa
open Go.RowKit

def padI (n : Int) : Int := if n < 0 then 0 else (4 - n % 4) % 4
theorem padI_nat (n : Nat) : padI n = (((4 - n % 4) % 4 : Nat) : Int) := by unfold padI; rw [if_neg (by omega)]; omega
theorem padI_bd (n : Int) : 0 ≤ padI n ∧ padI n ≤ 3 := by unfold padI; split <;> omega
theorem pad_any (n : Int) (w : World) : Calls Try.prog 11 #[.int .i64 n] w fun e w' => e = .returned (.int .i64 (padI n)) ∧ w = w' := by
  by_cases h : n < 0
  · go_enter Try.func11, Try.ntmps11
    go_wp2
    go_ret
    exact ⟨ret_int (by unfold padI; rw [if_pos ‹n < 0›]), rfl⟩
  · have h0 : 0 ≤ n := by omega
    go_enter Try.func11, Try.ntmps11
    go_wp2
    go_ret
    exact ⟨ret_int (by unfold padI; rw [if_neg (by omega)]; omega), rfl⟩

/-- n bytes of 0 -/
def zs (n : Nat) : List UInt8 := List.replicate n 0
@[go_sem] theorem zs_len (n : Nat) : (zs n).length = n := by simp [zs]
theorem take_zs (n : Nat) (h : n ≤ 3) : List.take n [0, 0, 0] = zs n := by
  match n, h with
  | 0, _ => rfl
  | 1, _ => rfl
  | 2, _ => rfl
  | 3, _ => rfl
theorem zeros_any (n : Int) (w : World) (h0 : 0 ≤ n) (h3 : n ≤ 3) :
    Calls Try.prog 23 #[.int .i64 n] w fun e w' => e = .returned (.string (S (zs n.toNat))) ∧ w = w' := by
  have ht := take_zs n.toNat (by omega)
  go_enter Try.func23, Try.ntmps23
  go_wp2
  go_ret
  exact ⟨ret_S rfl, rfl⟩

def pad (n : Nat) : Nat := (4 - n % 4) % 4
theorem padI_pad (n : Nat) : padI n = (pad n : Int) := padI_nat n
theorem pad_le (n : Nat) : pad n ≤ 3 := by unfold pad; omega
def padded (l : List UInt8) : List UInt8 := l ++ zs (pad l.length)
theorem padded_any (l : List UInt8) (w : World) (hm : l.length ≤ 4294967280) :
    Calls Try.prog 12 #[.string (S l)] w fun e w' => e = .returned (.string (S (padded l))) ∧ w = w' := by
  have hp := pad_le l.length
  go_enter Try.func12, Try.ntmps12
  go_wp2_with fail
  refine (pad_any _ _).mono ?_
  rintro e w' ⟨rfl, rfl⟩
  rw [padI_pad]
  go_wp2_with fail
  refine (zeros_any _ _ (by omega) (by omega)).mono ?_
  rintro e w' ⟨rfl, rfl⟩
  go_wp2_with fail
  go_ret
  exact ⟨ret_S rfl, rfl⟩

theorem unpad_neg (l : List UInt8) (n : Int) (w : World) (h : n < 0) :
    Calls Try.prog 13 #[.string (S l), .int .i64 n] w fun e w' => e = .returned (.tuple #[.string (S []), .int .i64 0, .iface 46 (.int .i64 2)]) ∧ w = w' := by
  go_enter Try.func13, Try.ntmps13
  go_wp2_with fail
  go_ret3
  exact ⟨rfl, rfl⟩
theorem unpad_few (l : List UInt8) (n : Nat) (w : World) (hl : l.length ≤ 4294967280) (h : l.length < n ∨ l.length < n + pad n) :
    Calls Try.prog 13 #[.string (S l), .int .i64 n] w fun e w' => e = .returned (.tuple #[.string (S []), .int .i64 0, .iface 46 (.int .i64 7)]) ∧ w = w' := by
  have hp := pad_le n
  by_cases h1 : l.length < n
  · have hd : decide ((l.length : Int) < n) = true := by simpa using h1
    go_enter Try.func13, Try.ntmps13
    go_wp2_with fail
    refine (pad_any _ _).mono ?_
    rintro e w' ⟨rfl, rfl⟩
    rw [padI_pad]
    go_wp2_with fail
    go_ret3
    exact ⟨rfl, rfl⟩
  · have hd : decide ((l.length : Int) < n) = false := by simpa using h1
    go_enter Try.func13, Try.ntmps13
    go_wp2_with fail
    refine (pad_any _ _).mono ?_
    rintro e w' ⟨rfl, rfl⟩
    rw [padI_pad]
    go_wp2_with fail
    go_ret3
    exact ⟨rfl, rfl⟩
theorem unpad_bad (l : List UInt8) (n : Nat) (w : World) (hl : l.length ≤ 4294967280) (h : n + pad n ≤ l.length) (hb : ((l.drop n).take (pad n) == zs (pad n)) = false) :
    Calls Try.prog 13 #[.string (S l), .int .i64 n] w fun e w' => e = .returned (.tuple #[.string (S []), .int .i64 0, .iface 46 (.int .i64 3)]) ∧ ∃ m, w' = w.drewN m := by
  have hp := pad_le n
  have h1 : ¬ l.length < n := by omega
  have hd : decide ((l.length : Int) < n) = false := by simpa using h1
  go_enter Try.func13, Try.ntmps13
  go_wp2_with fail
  refine (pad_any _ _).mono ?_
  rintro e w' ⟨rfl, rfl⟩
  rw [padI_pad]
  go_wp2_with fail
  go_quiet ((go_at_call 23; exact quiet_left (zeros_any _ _ (by omega) (by omega))))
  go_wp2_with fail
  go_ret3
  exact ⟨rfl, _, rfl⟩
theorem unpad_ok (l : List UInt8) (n : Nat) (w : World) (hl : l.length ≤ 4294967280) (h : n + pad n ≤ l.length) (hb : ((l.drop n).take (pad n) == zs (pad n)) = true) :
    Calls Try.prog 13 #[.string (S l), .int .i64 n] w fun e w' => e = .returned (.tuple #[.string (S (l.take n)), .int .i64 (n + pad n : Nat), .nilIface]) ∧ ∃ m, w' = w.drewN m := by
  have hp := pad_le n
  have h1 : ¬ l.length < n := by omega
  have hd : decide ((l.length : Int) < n) = false := by simpa using h1
  go_enter Try.func13, Try.ntmps13
  go_wp2_with fail
  refine (pad_any _ _).mono ?_
  rintro e w' ⟨rfl, rfl⟩
  rw [padI_pad]
  go_wp2_with fail
  go_quiet ((go_at_call 23; exact quiet_left (zeros_any _ _ (by omega) (by omega))))
  go_wp2_with fail
  go_ret3
  exact ⟨by simp, _, rfl⟩

/-- n in so many bytes, the highest first -/
def be (n : Nat) : Nat → List UInt8
  | 0 => []
  | k + 1 => UInt8.ofNat (n / 2 ^ (8 * k) % 256) :: be n k
theorem be_len (n k : Nat) : (be n k).length = k := by induction k <;> simp [be, *]
/-- what stands in the eight bytes behind k rounds -/
def putRow (n size k : Nat) : List UInt8 := zs (size - k) ++ be n k ++ zs (8 - size)
theorem putRow_len (n size k : Nat) (hk : k ≤ size) (h : size ≤ 8) : (putRow n size k).length = 8 := by
  simp only [putRow, List.length_append, zs_len, be_len]; omega
theorem putRow_0 (n size : Nat) (h : size ≤ 8) : putRow n size 0 = zs 8 := by
  simp only [putRow, be, zs, List.append_nil, List.replicate_append_replicate]; congr 1; omega
theorem putRow_step (n size k : Nat) (hk : k < size) : (putRow n size k).set (size - 1 - k) (UInt8.ofNat (n / 2 ^ (8 * k) % 256)) = putRow n size (k + 1) := by
  unfold putRow
  obtain ⟨d, hd⟩ : ∃ d, size - k = d + 1 := ⟨size - k - 1, by omega⟩
  have e1 : size - 1 - k = d := by omega
  have e2 : size - (k + 1) = d := by omega
  rw [hd, e1, e2]
  have hz : zs (d + 1) = zs d ++ [0] := by simp [zs, List.replicate_succ']
  rw [hz, List.append_assoc, List.append_assoc, List.set_append_right _ _ (by simp [zs])]
  simp [zs, be]
theorem put_range (n size : Int) (w : World) (h : size < 0 ∨ 8 < size) :
    Calls Try.prog 10 #[.int .u64 n, .int .i64 size] w fun e w' => e = .returned (.tuple #[.string (S []), .iface 46 (.int .i64 2)]) ∧ w = w' := by
  by_cases h1 : size < 0
  · go_enter Try.func10, Try.ntmps10
    go_wp2_with fail
    go_ret2
    exact ⟨rfl, rfl⟩
  · have h2 : 8 < size := by omega
    go_enter Try.func10, Try.ntmps10
    go_wp2_with fail
    go_ret2
    exact ⟨rfl, rfl⟩
theorem put_limit (n size : Nat) (w : World) (h : size ≤ 8) (hb : n / 2 ^ (8 * size) ≠ 0) :
    Calls Try.prog 10 #[.int .u64 n, .int .i64 size] w fun e w' => e = .returned (.tuple #[.string (S []), .iface 46 (.int .i64 4)]) ∧ w = w' := by
  have hq : ((n : Int) / 2 ^ (8 * size) != 0) = true := by
    rw [bne_iff_ne]; intro h0; apply hb; exact_mod_cast h0
  go_enter Try.func10, Try.ntmps10
  go_wp2_with fail
  all_goals (go_ret2; exact ⟨rfl, rfl⟩)
theorem put_ok (n size : Nat) (w : World) (h : size ≤ 8) (hb : n / 2 ^ (8 * size) = 0) :
    Calls Try.prog 10 #[.int .u64 n, .int .i64 size] w fun e w' => e = .returned (.tuple #[.string (S (be n size)), .nilIface]) ∧ Below w.heap.size w w' := by
  have hq : ((n : Int) / 2 ^ (8 * size) != 0) = false := by
    have : (n : Int) / 2 ^ (8 * size) = 0 := by exact_mod_cast hb
    rw [this]; rfl
  have hA : (#[Value.int IntKind.u8 0, Value.int IntKind.u8 0, Value.int IntKind.u8 0, Value.int IntKind.u8 0,
          Value.int IntKind.u8 0, Value.int IntKind.u8 0, Value.int IntKind.u8 0, Value.int IntKind.u8 0] : Array Value) = cells8 (zs 8) := rfl
  go_enter Try.func10, Try.ntmps10
  go_wp2_with fail
  go_loopg [22] 9 (fun g c wr => ∃ k : Nat, k ≤ size ∧ g + k = 9 ∧ c = .int .i64 k ∧ wr = w.alloc (.cells (cells8 (putRow n size k)) 47))
  case atStart => exact ⟨0, by omega, by omega, rfl, by rw [putRow_0 n size h]⟩
  case round =>
    obtain ⟨k, hk, hg, rfl, rfl⟩ := hrel
    have hlen := putRow_len n size k hk h
    by_cases hlt : k < size
    · have Hg := Lib.hid hg
      clear hg
      have hc := cells8_get (putRow n size k) (size - 1 - k) (by omega)
      have hst : (cells8 (putRow n size k)).setIfInBounds (size - 1 - k) (.int .u8 ((n : Int) / 2 ^ (8 * k) % 256)) = cells8 (putRow n size (k + 1)) := by
        rw [← byte_cast, cells8_set, putRow_step n size k hlt]
      go_wp2
      go_roundg (gk - 1)
      case measure => have := Hg.out; omega
      case rel => exact ⟨k + 1, by omega, by have := Hg.out; omega, by go_num, rfl⟩
    · have hks : k = size := by omega
      subst hks
      have hrow : putRow n k k = be n k ++ zs (8 - k) := by simp [putRow, zs]
      have hcv := run_string_cells8 (P := Try.prog) 42 9 5 Try.underlying42 Try.underlying5 Try.underlying9 w (be n k ++ zs (8 - k)) k 8 47 (by simp [be_len])
      have htk : (be n k ++ zs (8 - k)).take k = be n k := by
        have := be_len n k
        rw [List.take_append_of_le_length (by omega), List.take_of_length_le (by omega)]
      rw [htk] at hcv
      clear htk hg
      go_wp2
      go_ret2
      exact ⟨rfl, (Below.refl _ _).alloc (Nat.le_refl _) _⟩
/-- the number that bytes are, the highest first -/
def val (l : List UInt8) : Nat := l.foldl (fun n b => n * 256 + b.toNat) 0
theorem val_snoc (l : List UInt8) (b : UInt8) : val (l ++ [b]) = val l * 256 + b.toNat := by simp [val]
theorem val_lt : ∀ (n : Nat) (l : List UInt8), l.length = n → val l < 256 ^ n
  | 0, l, h => by
    have : l = [] := List.length_eq_zero_iff.1 h
    subst this; decide
  | n + 1, l, h => by
    rcases List.eq_nil_or_concat l with rfl | ⟨m, b, rfl⟩
    · simp at h
    · rw [List.concat_eq_append, val_snoc]
      have hm : m.length = n := by simpa using h
      have := val_lt n m hm
      have hb := b.toNat_lt
      rw [Nat.pow_succ]; omega
theorem take_succ_snoc (l : List UInt8) (k : Nat) (h : k < l.length) : l.take (k + 1) = l.take k ++ [l[k]] := by
  rw [List.take_succ_eq_append_getElem h]
theorem val_cons (b : UInt8) (l : List UInt8) : val (b :: l) = b.toNat * 256 ^ l.length + val l := by
  have h : ∀ (l : List UInt8) (n : Nat), l.foldl (fun n b => n * 256 + b.toNat) n = n * 256 ^ l.length + val l := by
    intro l
    induction l with
    | nil => intro n; simp [val]
    | cons c l ih =>
      intro n
      have e : val (c :: l) = l.foldl (fun n b => n * 256 + b.toNat) (0 * 256 + c.toNat) := rfl
      rw [List.foldl_cons, ih, e, ih, List.length_cons, Nat.pow_succ]
      rw [Nat.zero_mul, Nat.zero_add, Nat.add_mul, Nat.mul_assoc, Nat.mul_comm 256, Nat.add_assoc]
  show l.foldl (fun n b => n * 256 + b.toNat) (0 * 256 + b.toNat) = _
  rw [h l (0 * 256 + b.toNat), Nat.zero_mul, Nat.zero_add]
theorem val_be' (n : Nat) : ∀ k, val (be n k) = n % 256 ^ k
  | 0 => by simp [be, val, Nat.mod_one]
  | k + 1 => by
    show val (_ :: be n k) = _
    rw [val_cons, val_be' n k, be_len, u8_mod, Nat.pow_mul, show (2 : Nat) ^ 8 = 256 from rfl, Nat.pow_succ, Nat.mod_mul, Nat.mul_comm (256 ^ k), Nat.add_comm]
theorem val_be (n k : Nat) (h : n < 2 ^ (8 * k)) : val (be n k) = n := by
  rw [val_be', Nat.mod_eq_of_lt]
  rw [Nat.pow_mul] at h; exact h
theorem be_val : ∀ (l : List UInt8), be (val l) l.length = l
  | [] => rfl
  | b :: l => by
    have hl := val_lt l.length l rfl
    have hb := b.toNat_lt
    have e1 : val (b :: l) / 2 ^ (8 * l.length) % 256 = b.toNat := by
      rw [val_cons, Nat.pow_mul, show (2 : Nat) ^ 8 = 256 from rfl, Nat.add_comm, Nat.add_mul_div_right _ _ (Nat.pow_pos (by decide)), Nat.div_eq_of_lt hl, Nat.zero_add, Nat.mod_eq_of_lt hb]
    have e2 : ∀ (k : Nat), k ≤ l.length → be (val (b :: l)) k = be (val l) k := by
      intro k
      induction k with
      | zero => intro _; rfl
      | succ k ih =>
        intro hk
        show _ :: _ = _ :: _
        rw [ih (by omega)]
        congr 2
        rw [val_cons, Nat.pow_mul, show (2 : Nat) ^ 8 = 256 from rfl]
        obtain ⟨d, hd⟩ : ∃ d, l.length = k + 1 + d := ⟨l.length - (k + 1), by omega⟩
        rw [hd, Nat.pow_add, Nat.pow_succ, show b.toNat * (256 ^ k * 256 * 256 ^ d) = (b.toNat * 256 ^ d) * 256 * 256 ^ k from by ac_rfl]
        rw [Nat.add_comm, Nat.add_mul_div_right _ _ (Nat.pow_pos (by decide)), Nat.add_mul_mod_self_right]
    show _ :: _ = _
    rw [e1, e2 l.length (Nat.le_refl _), be_val l]
    simp
theorem get_limit (l : List UInt8) (w : World) (h : 8 < l.length) :
    Calls Try.prog 22 #[.string (S l)] w fun e w' => e = .returned (.tuple #[.int .u64 0, .iface 46 (.int .i64 4)]) ∧ w = w' := by
  go_enter Try.func22, Try.ntmps22
  go_wp2_with fail
  go_ret2
  exact ⟨rfl, rfl⟩
theorem get_ok (l : List UInt8) (w : World) (h : l.length ≤ 8) :
    Calls Try.prog 22 #[.string (S l)] w fun e w' => e = .returned (.tuple #[.int .u64 (val l : Nat), .nilIface]) ∧ w = w' := by
  go_enter Try.func22, Try.ntmps22
  go_wp2_with fail
  go_loopg [4, 12] 9 (fun g v c wr => ∃ k : Nat, k ≤ l.length ∧ g + k = 9 ∧ c = .int .i64 k ∧ v = .int .u64 (val (l.take k) : Nat) ∧ wr = w)
  case atStart => exact ⟨0, by omega, by omega, rfl, rfl, rfl⟩
  case round =>
    obtain ⟨k, hk, hg, rfl, rfl, rfl⟩ := hrel
    have Hg := Lib.hid hg
    clear hg
    by_cases hlt : k < l.length
    · have hv := val_snoc (l.take k) l[k]
      rw [← take_succ_snoc l k hlt] at hv
      have hlen : (l.take (k + 1)).length = k + 1 := by simp; omega
      have hlt2 := val_lt (k + 1) (l.take (k + 1)) hlen
      have hpow : 256 ^ (k + 1) ≤ 256 ^ 8 := Nat.pow_le_pow_right (by decide) (by omega)
      have hor := shl_or8 (val (l.take k)) l[k].toNat l[k].toNat_lt (by rw [← hv]; exact Nat.lt_of_lt_of_le hlt2 hpow)
      rw [← hv] at hor
      clear hv hlen hlt2 hpow
      go_wp2
      go_roundg (gk - 1)
      case measure => have := Hg.out; omega
      case rel => exact ⟨k + 1, by omega, by have := Hg.out; omega, by go_num, rfl, rfl⟩
    · have hkl : k = l.length := by omega
      subst hkl
      go_wp2
      go_ret2
      exact ⟨by simp, rfl⟩

/-- a fact that the statements ask first -/
theorem put_fact (w : World) : Calls Try.prog 9 #[] w fun e w' => e = .returned (.bool true) ∧ Below w.heap.size w w' := by
  go_enter Try.func9, Try.ntmps9
  go_wp2_with fail
  refine (put_ok 258 3 _ (by decide) (by decide)).mono ?_
  rintro e w1 ⟨rfl, hb1⟩
  rw [show be 258 3 = [0, 1, 2] from rfl]
  go_wp2_with fail
  refine (get_ok [0, 1, 2] _ (by decide)).mono ?_
  rintro e w2 ⟨rfl, rfl⟩
  rw [show ((val [0, 1, 2] : Nat) : Int) = 258 from rfl]
  go_wp2_with fail
  refine (unpad_ok [97, 98, 99, 100, 101, 0, 0, 0, 120] 5 _ (by decide) (by decide) (by decide)).mono ?_
  rintro e w2 ⟨rfl, n, rfl⟩
  rw [show ((5 + pad 5 : Nat) : Int) = 8 from rfl, show List.take 5 ([97, 98, 99, 100, 101, 0, 0, 0, 120] : List UInt8) = [97, 98, 99, 100, 101] from rfl]
  go_wp2_with fail
  refine (pad_any _ _).mono ?_
  rintro e w2 ⟨rfl, rfl⟩
  rw [show padI 5 = 3 from rfl]
  go_wp2_with fail
  go_ret
  exact ⟨rfl, below_drewN hb1 n⟩

end Go.Proofs.Ytpbdbnkedmkllaa
