/- Numbers in bytes, the highest first. No program stands in it. -/
import Derived.Test.YtoponmdfjbhnoaaBase
namespace Go.Proofs.Ytoponmdfjbhnoaa
open Go.RowKit
/-- n bytes of 0 -/
def zs (n : Nat) : List UInt8 := List.replicate n 0
@[go_sem] theorem zs_len (n : Nat) : (zs n).length = n := by simp [zs]
theorem take_zs (n : Nat) (h : n ≤ 3) : List.take n [0, 0, 0] = zs n := by
  match n, h with
  | 0, _ => rfl
  | 1, _ => rfl
  | 2, _ => rfl
  | 3, _ => rfl
/-- n in so many bytes, the highest first -/
def be (n : Nat) : Nat → List UInt8
  | 0 => []
  | k + 1 => UInt8.ofNat (n / 2 ^ (8 * k) % 256) :: be n k
theorem be_len (n k : Nat) : (be n k).length = k := by induction k <;> simp [be, *]
/-- what stands in the eight bytes behind k rounds -/
def putRow (n size k : Nat) : List UInt8 := zs (size - k) ++ be n k ++ zs (8 - size)
theorem putRow_len (n size k : Nat) (hk : k ≤ size) (h : size ≤ 8) : (putRow n size k).length = 8 := by
  simp only [putRow, List.length_append, zs_len, be_len]; omega
theorem putRow_0 (n size : Nat) (h : size ≤ 8) : putRow n size 0 = zs 8 := by
  simp only [putRow, be, zs, List.append_nil, List.replicate_append_replicate]; congr 1; omega
theorem putRow_step (n size k : Nat) (hk : k < size) : (putRow n size k).set (size - 1 - k) (UInt8.ofNat (n / 2 ^ (8 * k) % 256)) = putRow n size (k + 1) := by
  unfold putRow
  obtain ⟨d, hd⟩ : ∃ d, size - k = d + 1 := ⟨size - k - 1, by omega⟩
  have e1 : size - 1 - k = d := by omega
  have e2 : size - (k + 1) = d := by omega
  rw [hd, e1, e2]
  have hz : zs (d + 1) = zs d ++ [0] := by simp [zs, List.replicate_succ']
  rw [hz, List.append_assoc, List.append_assoc, List.set_append_right _ _ (by simp [zs])]
  simp [zs, be]
/-- the number that bytes are, the highest first -/
def val (l : List UInt8) : Nat := l.foldl (fun n b => n * 256 + b.toNat) 0
theorem val_snoc (l : List UInt8) (b : UInt8) : val (l ++ [b]) = val l * 256 + b.toNat := by simp [val]
theorem val_lt : ∀ (n : Nat) (l : List UInt8), l.length = n → val l < 256 ^ n
  | 0, l, h => by
    have : l = [] := List.length_eq_zero_iff.1 h
    subst this; decide
  | n + 1, l, h => by
    rcases List.eq_nil_or_concat l with rfl | ⟨m, b, rfl⟩
    · simp at h
    · rw [List.concat_eq_append, val_snoc]
      have hm : m.length = n := by simpa using h
      have := val_lt n m hm
      have hb := b.toNat_lt
      rw [Nat.pow_succ]; omega
theorem take_succ_snoc (l : List UInt8) (k : Nat) (h : k < l.length) : l.take (k + 1) = l.take k ++ [l[k]] := by
  rw [List.take_succ_eq_append_getElem h]
theorem val_cons (b : UInt8) (l : List UInt8) : val (b :: l) = b.toNat * 256 ^ l.length + val l := by
  have h : ∀ (l : List UInt8) (n : Nat), l.foldl (fun n b => n * 256 + b.toNat) n = n * 256 ^ l.length + val l := by
    intro l
    induction l with
    | nil => intro n; simp [val]
    | cons c l ih =>
      intro n
      have e : val (c :: l) = l.foldl (fun n b => n * 256 + b.toNat) (0 * 256 + c.toNat) := rfl
      rw [List.foldl_cons, ih, e, ih, List.length_cons, Nat.pow_succ]
      rw [Nat.zero_mul, Nat.zero_add, Nat.add_mul, Nat.mul_assoc, Nat.mul_comm 256, Nat.add_assoc]
  show l.foldl (fun n b => n * 256 + b.toNat) (0 * 256 + b.toNat) = _
  rw [h l (0 * 256 + b.toNat), Nat.zero_mul, Nat.zero_add]
theorem val_be' (n : Nat) : ∀ k, val (be n k) = n % 256 ^ k
  | 0 => by simp [be, val, Nat.mod_one]
  | k + 1 => by
    show val (_ :: be n k) = _
    rw [val_cons, val_be' n k, be_len, u8_mod, Nat.pow_mul, show (2 : Nat) ^ 8 = 256 from rfl, Nat.pow_succ, Nat.mod_mul, Nat.mul_comm (256 ^ k), Nat.add_comm]
theorem val_be (n k : Nat) (h : n < 2 ^ (8 * k)) : val (be n k) = n := by
  rw [val_be', Nat.mod_eq_of_lt]
  rw [Nat.pow_mul] at h; exact h
theorem be_val : ∀ (l : List UInt8), be (val l) l.length = l
  | [] => rfl
  | b :: l => by
    have hl := val_lt l.length l rfl
    have hb := b.toNat_lt
    have e1 : val (b :: l) / 2 ^ (8 * l.length) % 256 = b.toNat := by
      rw [val_cons, Nat.pow_mul, show (2 : Nat) ^ 8 = 256 from rfl, Nat.add_comm, Nat.add_mul_div_right _ _ (Nat.pow_pos (by decide)), Nat.div_eq_of_lt hl, Nat.zero_add, Nat.mod_eq_of_lt hb]
    have e2 : ∀ (k : Nat), k ≤ l.length → be (val (b :: l)) k = be (val l) k := by
      intro k
      induction k with
      | zero => intro _; rfl
      | succ k ih =>
        intro hk
        show _ :: _ = _ :: _
        rw [ih (by omega)]
        congr 2
        rw [val_cons, Nat.pow_mul, show (2 : Nat) ^ 8 = 256 from rfl]
        obtain ⟨d, hd⟩ : ∃ d, l.length = k + 1 + d := ⟨l.length - (k + 1), by omega⟩
        rw [hd, Nat.pow_add, Nat.pow_succ, show b.toNat * (256 ^ k * 256 * 256 ^ d) = (b.toNat * 256 ^ d) * 256 * 256 ^ k from by ac_rfl]
        rw [Nat.add_comm, Nat.add_mul_div_right _ _ (Nat.pow_pos (by decide)), Nat.add_mul_mod_self_right]
    show _ :: _ = _
    rw [e1, e2 l.length (Nat.le_refl _), be_val l]
    simp
end Go.Proofs.Ytoponmdfjbhnoaa
