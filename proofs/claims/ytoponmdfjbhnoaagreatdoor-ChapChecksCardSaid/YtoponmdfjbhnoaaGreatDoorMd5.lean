/- Contracts of package md5: mixed, RotateLeft32, wordsOf, stir. -/
import Derived.Test.YtoponmdfjbhnoaaGreatDoorRows
import Derived.Test.YtoponmdfjbhnoaaGreatDoorBuf
import Derived.Test.YtoponmdfjbhnoaaGreatDoorGA
import Derived.Laws.Rows
import Derived.Deep.WholeRow
import Derived.Laws.CopyOwn
import Derived.Deep.RegionHeld3
import Derived.BigRegion
namespace Go.Proofs.YtoponmdfjbhnoaaGreatDoor
open Go.RowKit
theorem xor_max (b : Nat) (hb : b < 4294967296) : bits .xor .u32 IntKind.u32.max (b : Int) = ((4294967295 - b : Nat) : Int) := by
  rw [show IntKind.u32.max = ((4294967295 : Nat) : Int) from rfl, u32_xor_nat _ _ (by decide) hb]
  congr 1
  have h := Nat.xor_comm 4294967295 b
  rw [h]
  have : b ^^^ (2 ^ 32 - 1) = 2 ^ 32 - 1 - b := by
    apply Nat.eq_of_testBit_eq
    intro i
    rw [Nat.testBit_xor, Nat.testBit_two_pow_sub_one, show 2 ^ 32 - 1 - b = 2 ^ 32 - (b + 1) from by omega, Nat.testBit_two_pow_sub_succ hb]
    by_cases hi : i < 32
    · simp [hi]
    · have : b.testBit i = false := Nat.testBit_lt_two_pow (Nat.lt_of_lt_of_le hb (Nat.pow_le_pow_right (n := 2) (by decide) (show 32 ≤ i by omega)))
      simp [hi, this]
  exact this
theorem and_lt (a b : Nat) (h : b < 4294967296) : a &&& b < 4294967296 := Nat.and_lt_two_pow (n := 32) _ h
theorem or_lt (a b : Nat) (ha : a < 4294967296) (hb : b < 4294967296) : a ||| b < 4294967296 := Nat.or_lt_two_pow (n := 32) ha hb
theorem mixed_any (i b c d : Nat) (w : World) (hi : i < 64) (hb : b < 4294967296) (hc : c < 4294967296) (hd : d < 4294967296) :
    Calls Tryz.prog 59 #[.int .i64 i, .int .u32 b, .int .u32 c, .int .u32 d] w fun e w' => e = .returned (.tuple #[.int .u32 ((mF i b c d : Nat) : Int), .int .i64 ((mG i : Nat) : Int)]) ∧ w = w' := by
  have hs32 : IntKind.u32.signed = false := rfl
  have hq : i / 16 = 0 ∨ i / 16 = 1 ∨ i / 16 = 2 ∨ i / 16 = 3 := by omega
  have xb := xor_max b hb
  have xd := xor_max d hd
  obtain ⟨nb, hnb⟩ : ∃ n, 4294967295 - b = n := ⟨_, rfl⟩
  obtain ⟨nd, hnd⟩ : ∃ n, 4294967295 - d = n := ⟨_, rfl⟩
  have lb : nb < 4294967296 := by omega
  have ld : nd < 4294967296 := by omega
  unfold mF mG
  rw [hnb, hnd]
  rw [hnb] at xb
  rw [hnd] at xd
  rcases hq with h | h | h | h
  · have hi2 : (i : Int) / 16 = 0 := by omega
    have b1 := u32_and_nat b c hb hc
    have b2 := u32_and_nat nb d lb hd
    have b3 := u32_or_nat (b &&& c) (nb &&& d) (and_lt _ _ hc) (and_lt _ _ hd)
    rw [if_pos h, if_pos h]
    clear h hnb hnd
    go_enter Tryz.func59, Tryz.ntmps59
    go_wp2_with fail
    go_ret2
    exact ⟨rfl, rfl⟩
  · have hi2 : (i : Int) / 16 = 1 := by omega
    have b1 := u32_and_nat b d hb hd
    have b2 := u32_andNot_nat c d hc hd
    rw [hnd] at b2
    have b3 := u32_or_nat (b &&& d) (c &&& nd) (and_lt _ _ hd) (and_lt _ _ ld)
    rw [if_neg (by omega), if_pos h, if_neg (by omega), if_pos h]
    clear h hnb hnd
    go_enter Tryz.func59, Tryz.ntmps59
    go_wp2_with fail
    go_ret2
    exact ⟨rfl, rfl⟩
  · have hi2 : (i : Int) / 16 = 2 := by omega
    have b1 := u32_xor_nat b c hb hc
    have b2 := u32_xor_nat (b ^^^ c) d (Nat.xor_lt_two_pow (n := 32) hb hc) hd
    rw [if_neg (by omega), if_neg (by omega), if_pos h, if_neg (by omega), if_neg (by omega), if_pos h]
    clear h hnb hnd
    go_enter Tryz.func59, Tryz.ntmps59
    go_wp2_with fail
    go_ret2
    exact ⟨rfl, rfl⟩
  · have hi2 : (i : Int) / 16 = 3 := by omega
    have b1 := u32_or_nat b nd hb ld
    have b2 := u32_xor_nat c (b ||| nd) hc (or_lt _ _ hb ld)
    rw [if_neg (by omega), if_neg (by omega), if_neg (by omega), if_neg (by omega), if_neg (by omega), if_neg (by omega)]
    clear h hnb hnd
    go_enter Tryz.func59, Tryz.ntmps59
    go_wp2_with fail
    go_ret2
    exact ⟨rfl, rfl⟩
theorem and31 (k : Nat) (hk : k < 32) : bits .and .u64 (k : Int) 31 = (k : Int) := by
  rw [show (31 : Int) = ((31 : Nat) : Int) from rfl, u64_and_nat k 31 (by omega) (by decide), show (31 : Nat) = 2 ^ 5 - 1 from rfl, Nat.and_two_pow_sub_one_eq_mod, Nat.mod_eq_of_lt hk]
theorem rot_bits (x k : Nat) (hx : x < 4294967296) : bits .or .u32 ((x : Int) * 2 ^ k % 4294967296) ((x : Int) / 2 ^ (32 - k)) = ((rot x k : Nat) : Int) := by
  have e1 : (x : Int) * 2 ^ k % 4294967296 = ((x * 2 ^ k % 4294967296 : Nat) : Int) := by
    rw [Int.natCast_emod, Int.natCast_mul, Int.natCast_pow]; rfl
  have e2 : (x : Int) / 2 ^ (32 - k) = ((x / 2 ^ (32 - k) : Nat) : Int) := by
    rw [Int.natCast_ediv, Int.natCast_pow]; rfl
  rw [e1, e2, u32_or_nat _ _ (Nat.mod_lt _ (by decide)) (Nat.lt_of_le_of_lt (Nat.div_le_self _ _) hx)]
  rfl
theorem rot_any (x k : Nat) (w : World) (hx : x < 4294967296) (hk : k < 32) (hk0 : 0 < k) :
    Calls Tryz.prog 60 #[.int .u32 x, .int .i64 k] w fun e w' => e = .returned (.int .u32 ((rot x k : Nat) : Int)) ∧ w = w' := by
  have hm := and31 k hk
  have hki : (k : Int) < 32 := by omega
  have hk0i : (0 : Int) < k := by omega
  have hr := rot_bits x k hx
  go_enter Tryz.func60, Tryz.ntmps60
  go_wp2_with fail
  go_ret
  exact ⟨rfl, rfl⟩
/-- cells of 32-bit numbers -/
def words (l : List Nat) : Array Value := (l.map fun n : Nat => Value.int .u32 (n : Int)).toArray
theorem words_size (l : List Nat) : (words l).size = l.length := by simp [words]
theorem words_set (l : List Nat) (i n : Nat) : (words l).setIfInBounds i (.int .u32 (n : Int)) = words (l.set i n) := by simp [words, List.map_set]
theorem words_get (l : List Nat) (i : Nat) (h : i < l.length) : (words l)[i]? = some (.int .u32 (l[i] : Int)) := by simp [words, List.getElem?_eq_getElem h]
theorem words_one (l : List Nat) : (words l).all (·.oneCell') = true := by
  rw [Array.all_eq_true_iff_forall_mem]
  intro x hx
  simp [words] at hx
  obtain ⟨n, _, rfl⟩ := hx
  rfl
theorem shl_word (b s : Nat) : (b : Int) * 2 ^ (8 * s) % 4294967296 = ((b * 2 ^ (8 * s) % 4294967296 : Nat) : Int) := by
  rw [Int.natCast_emod, Int.natCast_mul, Int.natCast_pow]; rfl
def z16 : List Nat := List.replicate 16 0
theorem zero16 (w : World) : (zeroValue 83).run Tryz.prog w = .ok (.agg (words z16)) w := by kernel_rfl
set_option maxRecDepth 100000 in
theorem wordsOf_any (l : List UInt8) (w : World) (hl : l.length = 64) :
    Calls Tryz.prog 37 #[.string (S l)] w fun e w' => e = .returned (.agg (words (wordsL l))) ∧ Below w.heap.size w w' := by
  go_enter Tryz.func37, Tryz.ntmps37
  have hz := zero16
  go_wp2_with fail
  go_loopg [5] 65 (fun g c wr => ∃ k n : Nat, k ≤ 64 ∧ g + k = 65 ∧ c = .int .i64 k ∧ wr = ((w.alloc (.cells (words z16) 83)).alloc (.cells (words (wRow l k)) 83)).drewN n)
  case atStart => exact ⟨0, 0, by omega, by omega, rfl, by rw [wRow_0]; rfl⟩
  case round =>
    obtain ⟨k, n, hk, hg, rfl, rfl⟩ := hrel
    have Hg := Lib.hid hg
    clear hg
    by_cases hlt : k < 64
    · have hki : (k : Int) < 64 := by omega
      have hk4 : (k : Int) / 4 < 16 := by omega
      have hk40 : 0 ≤ (k : Int) / 4 := by omega
      have hkl : (k : Int) < (l.length : Int) := by omega
      have hkm0 : 0 ≤ (k : Int) % 4 * 8 := by omega
      have hkm1 : (k : Int) % 4 * 8 < 32 := by omega
      have hk2 : k < l.length := by omega
      have hb8 : (l[k].toNat : Int) < 256 := by have := l[k].toNat_lt; omega
      have hc := words_get (wRow l k) (k / 4) (by rw [wRow_len]; omega)
      have hst := wRow_step l k
      have hwl := wAt_lt l k (k / 4)
      have hxe : (wRow l k)[k / 4]'(by rw [wRow_len]; omega) = wAt l k (k / 4) := by simp [wRow]
      rw [hxe] at hc
      rw [List.getD_eq_getElem?_getD, List.getElem?_eq_getElem hk2, Option.getD_some] at hst
      have hsl : l[k].toNat * 2 ^ (8 * (k % 4)) < 4294967296 := by
        have h4 : k % 4 < 4 := Nat.mod_lt _ (by decide)
        have hb := l[k].toNat_lt
        generalize k % 4 = r at h4
        generalize l[k].toNat = b at hb
        match r, h4 with
        | 0, _ => omega
        | 1, _ => omega
        | 2, _ => omega
        | 3, _ => omega
      have hor : bits .or .u32 ((wAt l k (k / 4) : Nat) : Int) ((l[k].toNat : Int) * 2 ^ (k % 4 * 8) % 4294967296) = ((wAt l k (k / 4) ||| l[k].toNat * 2 ^ (8 * (k % 4)) : Nat) : Int) := by
        rw [Nat.mul_comm (k % 4) 8, shl_word, Nat.mod_eq_of_lt hsl, u32_or_nat _ _ hwl hsl]
      obtain ⟨v, hv⟩ : ∃ v, wAt l k (k / 4) ||| l[k].toNat * 2 ^ (8 * (k % 4)) = v := ⟨_, rfl⟩
      obtain ⟨x, hx⟩ : ∃ x, wAt l k (k / 4) = x := ⟨_, rfl⟩
      rw [hv] at hst hor
      rw [hx] at hor hc
      have Hst := Lib.hid hst
      clear hv hx hst hsl hwl hxe
      go_wp2_with fail
      go_region
      go_wp2_with fail
      go_roundg (gk - 1)
      case measure => have := Hg.out; omega
      case rel => exact ⟨k + 1, n + 1, by omega, by have := Hg.out; omega, by go_num, by
        rw [← Hst.out, ← words_set]
        have h := setCell_mark (w.alloc (.cells (words z16) 83)) (words (wRow l k)) 83 (0, 0) (k / 4) (.int .u32 v)
        rw [show (w.alloc (.cells (words z16) 83)).heap.size = w.heap.size + 1 from by simp] at h
        exact congrArg (fun W : World => W.drewN (n + 1)) h⟩
    · have hk6 : k = 64 := by omega
      subst hk6
      have hone := words_one (wRow l 64)
      have hb1 : (((w.alloc (.cells (words z16) 83)).alloc (.cells (words (wRow l 64)) 83)).drewN n).heap[w.heap.size + 1]? = some (.cells (words (wRow l 64)) 83) := heap_alloc2_new w _ _
      have hb0 : (((w.alloc (.cells (words z16) 83)).alloc (.cells (words (wRow l 64)) 83)).drewN n).heap[w.heap.size]? = some (.cells (words z16) 83) := heap_alloc2_old w _ _
      have hi : (Tryz.prog.info? 83).map (·.size) = some 16 := by kernel_rfl
      rw [← wRow_len l 64, ← words_size] at hi
      have hs0 : (words z16).size = (words (wRow l 64)).size := by rw [words_size, words_size, wRow_len]; rfl
      have hlow : Below w.heap.size w ((((w.alloc (.cells (words z16) 83)).alloc (.cells (words (wRow l 64)) 83)).drewN n).setRow w.heap.size (words (wRow l 64))) :=
        below_setRow (below_drewN (((Below.refl _ _).alloc (Nat.le_refl _) _).alloc (by simp) _) n) (Nat.le_refl _) _
      have hb2 := setRow_heap _ w.heap.size (words z16) (words (wRow l 64)) 83 (0, 0) hb0
      go_wp2_with (first | (refine wpList_load_row rfl _ _ rfl (w.heap.size + 1) rfl 83 (words (wRow l 64)) (0, 0) _ hb1 Tryz.underlying83 rfl hi ?_) | (refine wpList_store_row rfl _ _ _ rfl w.heap.size (words (wRow l 64)) rfl rfl 83 (words z16) hb0 hi hs0 hone ?_))
      exact bodyPost_ret (v := .agg (words (wRow l 64))) (results_cell_row Tryz.results37 _ _ w.heap.size 83 _ (0, 0) _ rfl hb2 Tryz.underlying83 rfl hi) rfl ⟨rfl, hlow⟩
end Go.Proofs.YtoponmdfjbhnoaaGreatDoor
