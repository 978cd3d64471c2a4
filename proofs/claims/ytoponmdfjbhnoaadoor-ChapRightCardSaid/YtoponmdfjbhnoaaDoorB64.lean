/- binary.lettersOf, binary.Base64. -/
import Derived.Test.YtoponmdfjbhnoaaDoorRows
import Derived.Test.YtoponmdfjbhnoaaDoorBinPlain
import Derived.Test.YtoponmdfjbhnoaaDoorBuf
import Derived.Test.YtoponmdfjbhnoaaDoorBits
namespace Go.Proofs.YtoponmdfjbhnoaaDoor
open Go.RowKit
theorem or_i (x y : Int) (p q m : Nat) (hx : x = p) (hy : y = q) (hp : p < 16777216) (hq : q < 16777216) (hm : p ||| q = m) : bits .or .i64 x y = m := by
  subst hx hy hm; exact i64_or_nat _ _ (by omega) (by omega)
theorem join3 (a b c p : Nat) (hc : c < 256) (h : a * 65536 + b * 256 + c = p) : (a * 65536 + b * 256) ||| c = p := by
  have e : a * 65536 + b * 256 = (a * 256 + b) * 2 ^ 8 := by
    rw [Nat.add_mul, Nat.mul_assoc]
  have hc8 : c < 2 ^ 8 := hc
  rw [e, nat_join _ 8 _ hc8, ← e]; exact h
theorem and63 (x : Int) (m q : Nat) (hx : x = m) (hm : m < 16777216) (hq : m % 64 = q) : bits .and .i64 x 63 = q := by
  subst hx hq
  have := i64_mask m 6 (by omega) (by decide)
  exact this
theorem lettAt (q : Nat) (h : q < ([65, 66, 67, 68, 69, 70, 71, 72, 73, 74, 75, 76, 77, 78, 79, 80, 81, 82, 83, 84, 85, 86, 87, 88, 89, 90, 97, 98, 99, 100, 101, 102, 103, 104, 105, 106, 107, 108, 109, 110, 111, 112, 113, 114, 115, 116, 117, 118, 119, 120, 121, 122, 48, 49, 50, 51, 52, 53, 54, 55, 56, 57, 43, 47] : List UInt8).length) :
    ([65, 66, 67, 68, 69, 70, 71, 72, 73, 74, 75, 76, 77, 78, 79, 80, 81, 82, 83, 84, 85, 86, 87, 88, 89, 90, 97, 98, 99, 100, 101, 102, 103, 104, 105, 106, 107, 108, 109, 110, 111, 112, 113, 114, 115, 116, 117, 118, 119, 120, 121, 122, 48, 49, 50, 51, 52, 53, 54, 55, 56, 57, 43, 47] : List UInt8)[q]'h = lett q := lett_at q q rfl h
theorem lettersOf_1 (a : UInt8) (w : World) :
    Calls Tryd.prog 19 #[.string (S [a])] w fun e w' => e = .returned (.agg (cells8 (four [a]))) ∧ Below w.heap.size w w' := by
  have ha : a.toNat < 256 := a.toNat_lt
  obtain ⟨n, hn⟩ : ∃ n : Nat, a.toNat * 65536 = n := ⟨_, rfl⟩
  have o1 := or_i 0 (a.toNat * 65536) 0 _ n rfl (by omega) (by decide) (by omega : a.toNat * 65536 < 16777216) (by simpa using hn)
  obtain ⟨q1, hq1⟩ : ∃ n : Nat, a.toNat / 4 = n := ⟨_, rfl⟩
  obtain ⟨q2, hq2⟩ : ∃ n : Nat, a.toNat % 4 * 16 = n := ⟨_, rfl⟩
  have b1 := and63 ((n : Int) / 262144) (n / 262144) q1 (by omega) (by omega) (by omega)
  have b2 := and63 ((n : Int) / 4096) (n / 4096) q2 (by omega) (by omega) (by omega)
  have l1 := lettAt q1
  have l2 := lettAt q2
  have c1 : (q1 : Int) < 64 := by omega
  have c2 : (q2 : Int) < 64 := by omega
  have hr : four [a] = [lett q1, lett q2, 61, 61] := by rw [← hq1, ← hq2]; rfl
  rw [hr]
  have hlast : n < 16777216 := by omega
  clear hn hq1 hq2 hr
  go_enter Tryd.func19, Tryd.ntmps19
  go_wp2_with fail
  refine wp_loop_rounds 2 ?_
  rw [rounds_succ]
  go_wp2_with fail
  rw [rounds_succ]
  go_wp2_with fail
  refine wp_loop_rounds 3 ?_
  rw [rounds_succ]
  go_wp2_with fail
  rw [rounds_succ]
  go_wp2_with fail
  rw [rounds_succ]
  go_wp2_with fail
  exact bodyPost_ret (v := .agg (cells8 [lett q1, lett q2, 61, 61])) (by simp [results, Tryd.results19, go_sem, cells8]) rfl ⟨rfl, ((Below.refl _ _).alloc (Nat.le_refl _) _).alloc (by simp) _⟩
theorem lettersOf_2 (a b : UInt8) (w : World) :
    Calls Tryd.prog 19 #[.string (S [a, b])] w fun e w' => e = .returned (.agg (cells8 (four [a, b]))) ∧ Below w.heap.size w w' := by
  have ha : a.toNat < 256 := a.toNat_lt
  have hb : b.toNat < 256 := b.toNat_lt
  obtain ⟨n, hn⟩ : ∃ n : Nat, a.toNat * 65536 = n := ⟨_, rfl⟩
  have o1 := or_i 0 (a.toNat * 65536) 0 _ n rfl (by omega) (by decide) (by omega : a.toNat * 65536 < 16777216) (by simpa using hn)
  obtain ⟨m, hm⟩ : ∃ m : Nat, a.toNat * 65536 + b.toNat * 256 = m := ⟨_, rfl⟩
  have o2 := or_i n (b.toNat * 256) n (b.toNat * 256) m rfl (by omega) (by omega) (by omega) (by rw [← hn, show a.toNat * 65536 = a.toNat * 2 ^ 16 from rfl, nat_join _ 16 _ (by omega)]; exact hm)
  obtain ⟨q1, hq1⟩ : ∃ n : Nat, a.toNat / 4 = n := ⟨_, rfl⟩
  obtain ⟨q2, hq2⟩ : ∃ n : Nat, a.toNat % 4 * 16 + b.toNat / 16 = n := ⟨_, rfl⟩
  obtain ⟨q3, hq3⟩ : ∃ n : Nat, b.toNat % 16 * 4 = n := ⟨_, rfl⟩
  have b1 := and63 ((m : Int) / 262144) (m / 262144) q1 (by omega) (by omega) (by omega)
  have b2 := and63 ((m : Int) / 4096) (m / 4096) q2 (by omega) (by omega) (by omega)
  have b3 := and63 ((m : Int) / 64) (m / 64) q3 (by omega) (by omega) (by omega)
  have l1 := lettAt q1
  have l2 := lettAt q2
  have l3 := lettAt q3
  have c1 : (q1 : Int) < 64 := by omega
  have c2 : (q2 : Int) < 64 := by omega
  have c3 : (q3 : Int) < 64 := by omega
  have hr : four [a, b] = [lett q1, lett q2, lett q3, 61] := by rw [← hq1, ← hq2, ← hq3]; rfl
  rw [hr]
  have hlast : m < 16777216 := by omega
  have hn2 : n < 16777216 := by omega
  clear hn hm hq1 hq2 hq3 hr
  go_enter Tryd.func19, Tryd.ntmps19
  go_wp2_with fail
  refine wp_loop_rounds 3 ?_
  rw [rounds_succ]
  go_wp2_with fail
  rw [rounds_succ]
  go_wp2_with fail
  rw [rounds_succ]
  go_wp2_with fail
  refine wp_loop_rounds 4 ?_
  rw [rounds_succ]
  go_wp2_with fail
  rw [rounds_succ]
  go_wp2_with fail
  rw [rounds_succ]
  go_wp2_with fail
  rw [rounds_succ]
  go_wp2_with fail
  exact bodyPost_ret (v := .agg (cells8 [lett q1, lett q2, lett q3, 61])) (by simp [results, Tryd.results19, go_sem, cells8]) rfl ⟨rfl, ((Below.refl _ _).alloc (Nat.le_refl _) _).alloc (by simp) _⟩
theorem lettersOf_3 (a b c : UInt8) (w : World) :
    Calls Tryd.prog 19 #[.string (S [a, b, c])] w fun e w' => e = .returned (.agg (cells8 (four [a, b, c]))) ∧ Below w.heap.size w w' := by
  have ha : a.toNat < 256 := a.toNat_lt
  have hb : b.toNat < 256 := b.toNat_lt
  have hc : c.toNat < 256 := c.toNat_lt
  obtain ⟨n, hn⟩ : ∃ n : Nat, a.toNat * 65536 = n := ⟨_, rfl⟩
  have o1 := or_i 0 (a.toNat * 65536) 0 _ n rfl (by omega) (by decide) (by omega : a.toNat * 65536 < 16777216) (by simpa using hn)
  obtain ⟨m, hm⟩ : ∃ m : Nat, a.toNat * 65536 + b.toNat * 256 = m := ⟨_, rfl⟩
  have o2 := or_i n (b.toNat * 256) n (b.toNat * 256) m rfl (by omega) (by omega) (by omega) (by rw [← hn, show a.toNat * 65536 = a.toNat * 2 ^ 16 from rfl, nat_join _ 16 _ (by omega)]; exact hm)
  obtain ⟨p, hp⟩ : ∃ p : Nat, a.toNat * 65536 + b.toNat * 256 + c.toNat = p := ⟨_, rfl⟩
  have o3 := or_i m c.toNat m c.toNat p rfl rfl (by omega) (by omega) (by rw [← hm]; exact join3 _ _ _ _ hc hp)
  obtain ⟨q1, hq1⟩ : ∃ n : Nat, a.toNat / 4 = n := ⟨_, rfl⟩
  obtain ⟨q2, hq2⟩ : ∃ n : Nat, a.toNat % 4 * 16 + b.toNat / 16 = n := ⟨_, rfl⟩
  obtain ⟨q3, hq3⟩ : ∃ n : Nat, b.toNat % 16 * 4 + c.toNat / 64 = n := ⟨_, rfl⟩
  obtain ⟨q4, hq4⟩ : ∃ n : Nat, c.toNat % 64 = n := ⟨_, rfl⟩
  have b1 := and63 ((p : Int) / 262144) (p / 262144) q1 (by omega) (by omega) (by omega)
  have b2 := and63 ((p : Int) / 4096) (p / 4096) q2 (by omega) (by omega) (by omega)
  have b3 := and63 ((p : Int) / 64) (p / 64) q3 (by omega) (by omega) (by omega)
  have b4 := and63 (p : Int) p q4 rfl (by omega) (by omega)
  have l1 := lettAt q1
  have l2 := lettAt q2
  have l3 := lettAt q3
  have l4 := lettAt q4
  have c1 : (q1 : Int) < 64 := by omega
  have c2 : (q2 : Int) < 64 := by omega
  have c3 : (q3 : Int) < 64 := by omega
  have c4 : (q4 : Int) < 64 := by omega
  have hr : four [a, b, c] = [lett q1, lett q2, lett q3, lett q4] := by rw [← hq1, ← hq2, ← hq3, ← hq4]; rfl
  rw [hr]
  have hlast : p < 16777216 := by omega
  have hn2 : n < 16777216 := by omega
  have hm2 : m < 16777216 := by omega
  clear hn hm hp hq1 hq2 hq3 hq4 hr
  go_enter Tryd.func19, Tryd.ntmps19
  go_wp2_with fail
  refine wp_loop_rounds 4 ?_
  rw [rounds_succ]
  go_wp2_with fail
  rw [rounds_succ]
  go_wp2_with fail
  rw [rounds_succ]
  go_wp2_with fail
  rw [rounds_succ]
  go_wp2_with fail
  refine wp_loop_rounds 5 ?_
  rw [rounds_succ]
  go_wp2_with fail
  rw [rounds_succ]
  go_wp2_with fail
  rw [rounds_succ]
  go_wp2_with fail
  rw [rounds_succ]
  go_wp2_with fail
  rw [rounds_succ]
  go_wp2_with fail
  exact bodyPost_ret (v := .agg (cells8 [lett q1, lett q2, lett q3, lett q4])) (by simp [results, Tryd.results19, go_sem, cells8]) rfl ⟨rfl, ((Below.refl _ _).alloc (Nat.le_refl _) _).alloc (by simp) _⟩
theorem lettersOf_any (l : List UInt8) (w : World) (h0 : 0 < l.length) (h3 : l.length ≤ 3) :
    Calls Tryd.prog 19 #[.string (S l)] w fun e w' => e = .returned (.agg (cells8 (four l))) ∧ Below w.heap.size w w' := by
  match l, h0, h3 with
  | [a], _, _ => exact lettersOf_1 a w
  | [a, b], _, _ => exact lettersOf_2 a b w
  | [a, b, c], _, _ => exact lettersOf_3 a b c w
  | [], h, _ => exact absurd h (by simp)
  | _ :: _ :: _ :: _ :: _, _, h => exact absurd h (by simp)
theorem four_form (l : List UInt8) (h0 : 0 < l.length) (h3 : l.length ≤ 3) : ∃ x0 x1 x2 x3, four l = [x0, x1, x2, x3] := by
  match l, h0, h3 with
  | [_], _, _ => exact ⟨_, _, _, _, rfl⟩
  | [_, _], _, _ => exact ⟨_, _, _, _, rfl⟩
  | [_, _, _], _, _ => exact ⟨_, _, _, _, rfl⟩
  | [], h, _ => exact absurd h (by simp)
  | _ :: _ :: _ :: _ :: _, _, h => exact absurd h (by simp)
end Go.Proofs.YtoponmdfjbhnoaaDoor
