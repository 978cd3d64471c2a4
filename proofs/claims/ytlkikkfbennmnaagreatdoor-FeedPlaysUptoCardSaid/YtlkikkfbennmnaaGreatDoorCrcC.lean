/- Contracts of package crc. -/
import Derived.Test.YtlkikkfbennmnaaGreatDoorRows
import Derived.Test.YtlkikkfbennmnaaGreatDoorGA
import Derived.Laws.Rows
import Derived.Deep.WholeRow
import Derived.Laws.CopyOwn
namespace Go.Proofs.YtlkikkfbennmnaaGreatDoor
open Go.RowKit
set_option linter.unusedVariables false
theorem and_one (x : Nat) : x &&& 1 = x % 2 := Nat.and_one_is_mod x
theorem cbit_walk (x : Nat) (h : x < 2 ^ 32) :
    bits .xor .u32 ((x : Int) / 2) (bits .and .u32 2197175160 (-bits .and .u32 (x : Int) 1 % 4294967296)) = ((cbit x : Nat) : Int) := by
  have e1 : bits .and .u32 (x : Int) 1 = ((x % 2 : Nat) : Int) := by
    rw [show (1 : Int) = ((1 : Nat) : Int) from rfl, u32_and_nat x 1 h (by decide), and_one]
  rw [e1]
  unfold cbit
  by_cases hx : x % 2 = 1
  · rw [hx, if_pos rfl]
    rw [show (-((1 : Nat) : Int) % 4294967296) = ((4294967295 : Nat) : Int) from rfl, show (2197175160 : Int) = ((2197175160 : Nat) : Int) from rfl, u32_and_nat _ _ (by decide) (by decide)]
    rw [show ((x : Int) / 2) = ((x / 2 : Nat) : Int) from by omega, u32_xor_nat _ _ (by omega) (by decide)]
    rfl
  · have h0 : x % 2 = 0 := by omega
    rw [h0, if_neg (by decide)]
    rw [show (-((0 : Nat) : Int) % 4294967296) = ((0 : Nat) : Int) from rfl, show (2197175160 : Int) = ((2197175160 : Nat) : Int) from rfl, u32_and_nat _ _ (by decide) (by decide)]
    rw [show ((x : Int) / 2) = ((x / 2 : Nat) : Int) from by omega, u32_xor_nat _ _ (by omega) (by decide)]
    rfl
/-- cells of 32-bit numbers -/
def words (l : List Nat) : Array Value := (l.map fun n : Nat => Value.int .u32 (n : Int)).toArray
theorem words_size (l : List Nat) : (words l).size = l.length := by simp [words]
theorem words_set (l : List Nat) (i n : Nat) : (words l).setIfInBounds i (.int .u32 (n : Int)) = words (l.set i n) := by simp [words, List.map_set]
theorem words_get (l : List Nat) (i : Nat) (h : i < l.length) : (words l)[i]? = some (.int .u32 (l[i] : Int)) := by simp [words, List.getElem?_eq_getElem h]
theorem words_one (l : List Nat) : (words l).all (·.oneCell') = true := by
  rw [Array.all_eq_true_iff_forall_mem]
  intro x hx
  simp [words] at hx
  obtain ⟨n, _, rfl⟩ := hx
  rfl
def tab (k : Nat) : List Nat := (List.range k).map eff ++ List.replicate (256 - k) 0
theorem tab_len (k : Nat) (h : k ≤ 256) : (tab k).length = 256 := by simp [tab]; omega
theorem tab_step (k : Nat) (h : k < 256) : (tab k).set k (eff k) = tab (k + 1) := by
  unfold tab
  obtain ⟨d, hd⟩ : ∃ d, 256 - k = d + 1 := ⟨255 - k, by omega⟩
  rw [hd, show 256 - (k + 1) = d from by omega, List.set_append_right _ _ (by simp)]
  simp [List.range_succ, List.replicate_succ]
theorem tab_get (i : Nat) (h : i < 256) : (tab 256)[i]'(by rw [tab_len _ (by omega)]; exact h) = eff i := by simp [tab]
theorem zero60 (w : World) : (zeroValue 226).run Tryz.prog w = .ok (.agg (words (tab 0))) w := by kernel_rfl
theorem info60 : (Tryz.prog.info? 226).map (·.size) = some 256 := by kernel_rfl
set_option maxRecDepth 100000 in
theorem effects_any (w : World) : Calls Tryz.prog 117 #[] w fun e w' => e = .returned (.agg (words (tab 256))) ∧ Below w.heap.size w w' := by
  have hz := zero60
  go_enter Tryz.func117, Tryz.ntmps117
  go_wp2_with fail
  go_loopg [4] 257 (fun g c wr => ∃ k : Nat, k ≤ 256 ∧ g + k = 257 ∧ c = .int .i64 k ∧ wr = (w.alloc (.cells (words (tab 0)) 226)).alloc (.cells (words (tab k)) 226))
  case atStart => exact ⟨0, by omega, by omega, rfl, rfl⟩
  case round =>
    obtain ⟨k, hk, hg, rfl, rfl⟩ := hrel
    obtain ⟨go, hgo⟩ : ∃ go : Nat, go = gk := ⟨_, rfl⟩
    subst hgo
    have Hg := Lib.hid hg
    clear hg
    by_cases hlt : k < 256
    · have hki : (k : Int) < 256 := by omega
      go_wp2_with fail
      have hk32 : k < 2 ^ 32 := by omega
      go_loopg [3, 9] 9 (fun g s c wr => ∃ j : Nat, j ≤ 8 ∧ g + j = 9 ∧ c = .int .i64 j ∧ s = .int .u32 (cbits j k : Nat) ∧ wr = (w.alloc (.cells (words (tab 0)) 226)).alloc (.cells (words (tab k)) 226))
      case atStart => exact ⟨0, by omega, by omega, rfl, rfl, rfl⟩
      case round =>
        obtain ⟨j, hj, hgj, rfl, rfl, rfl⟩ := hrel
        have Hgj := Lib.hid hgj
        clear hgj
        by_cases hltj : j < 8
        · have hji : (j : Int) < 8 := by omega
          have hcw := cbit_walk (cbits j k) (cbits_lt k hk32 j)
          rw [show cbit (cbits j k) = cbits (j + 1) k from rfl] at hcw
          go_wp2_with fail
          go_roundg (gk - 1)
          case measure => have := Hgj.out; omega
          case rel => exact ⟨j + 1, by omega, by have := Hgj.out; omega, by go_num, rfl, rfl⟩
        · have hj8 : j = 8 := by omega
          subst hj8
          have hc := words_get (tab k) k (by rw [tab_len k hk]; exact hlt)
          have hst : (words (tab k)).setIfInBounds k (.int .u32 ((cbits 8 k : Nat) : Int)) = words (tab (k + 1)) := by rw [words_set]; exact congrArg words (tab_step k hlt)
          go_wp2_with fail
          go_roundg (go - 1)
          case measure => have := Hg.out; omega
          case rel => exact ⟨k + 1, by omega, by have := Hg.out; omega, by go_num, rfl⟩
    · have hk6 : k = 256 := by omega
      subst hk6
      have hone := words_one (tab 256)
      have hb1 := heap_alloc2_new w (.cells (words (tab 0)) 226) (.cells (words (tab 256)) 226)
      have hb0 := heap_alloc2_old w (.cells (words (tab 0)) 226) (.cells (words (tab 256)) 226)
      have hi := info60
      rw [← tab_len 256 (by decide), ← words_size] at hi
      have hs0 : (words (tab 0)).size = (words (tab 256)).size := by rw [words_size, words_size, tab_len 0 (by decide), tab_len 256 (by decide)]
      have hw : Below w.heap.size w (((w.alloc (.cells (words (tab 0)) 226)).alloc (.cells (words (tab 256)) 226)).setRow w.heap.size (words (tab 256))) :=
        below_setRow (((Below.refl _ _).alloc (Nat.le_refl _) _).alloc (by simp) _) (Nat.le_refl _) _
      have hb2 := setRow_heap _ w.heap.size (words (tab 0)) (words (tab 256)) 226 (0, 0) hb0
      go_wp2_with (first | (refine wpList_load_row rfl _ _ rfl (w.heap.size + 1) rfl 226 (words (tab 256)) (0, 0) _ hb1 Tryz.underlying226 rfl hi ?_) | (refine wpList_store_row rfl _ _ _ rfl w.heap.size (words (tab 256)) rfl rfl 226 (words (tab 0)) hb0 hi hs0 hone ?_))
      exact bodyPost_ret (v := .agg (words (tab 256))) (results_cell_row Tryz.results117 _ _ w.heap.size 226 _ (0, 0) _ rfl hb2 Tryz.underlying226 rfl hi) rfl ⟨rfl, hw⟩

theorem cstep_walk (n : Nat) (b : UInt8) :
    bits .xor .u8 ((n : Int) % 256) (b.toNat : Int) = ((n % 256 ^^^ b.toNat : Nat) : Int) := by
  rw [show (n : Int) % 256 = ((n % 256 : Nat) : Int) from by omega, u8_xor_nat _ _ (Nat.mod_lt _ (by decide)) b.toNat_lt]
set_option maxRecDepth 100000 in
theorem sum_any (l : List UInt8) (w : World) (hl : l.length ≤ 4294967280) :
    Calls Tryz.prog 103 #[.string (S l)] w fun e w' => e = .returned (.int .u32 (crcSum l : Nat)) ∧ Below w.heap.size w w' := by
  have hz := zero60
  have hone := words_one (tab 256)
  have hi := info60
  rw [← tab_len 256 (by decide), ← words_size] at hi
  have hs0 : (words (tab 0)).size = (words (tab 256)).size := by rw [words_size, words_size, tab_len 0 (by decide), tab_len 256 (by decide)]
  go_enter Tryz.func103, Tryz.ntmps103
  go_wp2_with fail
  refine (effects_any _).mono ?_
  rintro e w1 ⟨rfl, hb1⟩
  have hn := heap_alloc_new w1 (.cells (words (tab 0)) 226)
  have hset := World.setRow_alloc_new w1 (words (tab 0)) (words (tab 256)) 226
  go_wp2_with (refine wpList_store_row rfl _ _ _ rfl w1.heap.size (words (tab 256)) rfl rfl 226 (words (tab 0)) hn hi hs0 hone ?_)
  clear hset hn hz hone hs0
  have Hi := Lib.hid hi
  clear hi
  go_wp2_with fail
  go_loopg [4, 9] (l.length + 1) (fun g s c wr => ∃ k : Nat, k ≤ l.length ∧ g + k = l.length + 1 ∧ c = .int .i64 k ∧ s = .int .u32 (crcRaw (l.take k) : Nat) ∧ wr = w1.alloc (.cells (words (tab 256)) 226))
  case atStart => exact ⟨0, by omega, by omega, rfl, rfl, rfl⟩
  case round =>
    obtain ⟨k, hk, hg, rfl, rfl, rfl⟩ := hrel
    have Hg := Lib.hid hg
    clear hg
    by_cases hlt : k < l.length
    · have hraw := crcRaw_lt (l.take k)
      have hx := cstep_walk (crcRaw (l.take k)) l[k]
      have hib : crcRaw (l.take k) % 256 ^^^ l[k].toNat < 256 := Nat.xor_lt_two_pow (n := 8) (Nat.mod_lt _ (by decide)) l[k].toNat_lt
      have hget := words_get (tab 256) (crcRaw (l.take k) % 256 ^^^ l[k].toNat) (by rw [tab_len 256 (by decide)]; exact hib)
      rw [tab_get _ hib] at hget
      have hst := crcRaw_snoc (l.take k) l[k]
      rw [List.take_append_getElem hlt] at hst
      have hx2 : bits .xor .u32 ((crcRaw (l.take k) : Int) / 256) ((eff (crcRaw (l.take k) % 256 ^^^ l[k].toNat) : Nat) : Int) = ((crcRaw (l.take (k + 1)) : Nat) : Int) := by
        rw [hst, show ((crcRaw (l.take k) : Int) / 256) = ((crcRaw (l.take k) / 256 : Nat) : Int) from by omega]
        rw [u32_xor_nat _ _ (by omega) (eff_lt _ (Nat.lt_of_lt_of_le hib (by decide)))]
        rfl
      clear hst
      go_wp2_with fail
      go_roundg (gk - 1)
      case measure => have := Hg.out; omega
      case rel => exact ⟨k + 1, by omega, by have := Hg.out; omega, by go_num, rfl, rfl⟩
    · have hkl : k = l.length := by omega
      subst hkl
      rw [List.take_length]
      have hs32 : IntKind.u32.signed = false := rfl
      have hfin : bits .xor .u32 IntKind.u32.max ((crcRaw l : Nat) : Int) = ((crcSum l : Nat) : Int) := by
        rw [show IntKind.u32.max = ((4294967295 : Nat) : Int) from rfl, u32_xor_nat _ _ (by decide) (crcRaw_lt l)]; rfl
      go_wp2_with fail
      go_ret
      exact ⟨rfl, hb1.trans ((Below.refl _ _).alloc hb1.size _)⟩

/-- the four bytes behind k rounds -/
def digRow (n k : Nat) : List UInt8 := le n k ++ List.replicate (4 - k) 0
theorem digRow_step (n k : Nat) (h : k < 4) : (digRow n k).set k (UInt8.ofNat (n / 2 ^ (8 * k) % 256)) = digRow n (k + 1) := by
  unfold digRow
  obtain ⟨d, hd⟩ : ∃ d, 4 - k = d + 1 := ⟨3 - k, by omega⟩
  rw [hd, show 4 - (k + 1) = d from by omega, List.set_append_right _ _ (by rw [le_len]; exact Nat.le_refl _)]
  simp [le_len, List.replicate_succ, le]
theorem digest_any (l : List UInt8) (w : World) (hl : l.length ≤ 4294967280) :
    Calls Tryz.prog 78 #[.string (S l)] w fun e w' => e = .returned (.string (S (digest l))) ∧ Below w.heap.size w w' := by
  go_enter Tryz.func78, Tryz.ntmps78
  go_wp2_with fail
  refine (sum_any _ _ hl).mono ?_
  rintro e w1 ⟨rfl, hb1⟩
  go_wp2_with fail
  go_loopg [8] 5 (fun g c wr => ∃ k : Nat, k ≤ 4 ∧ g + k = 5 ∧ c = .int .i64 k ∧ wr = w1.alloc (.cells (cells8 (digRow (crcSum l) k)) 209))
  case atStart => exact ⟨0, by omega, by omega, rfl, rfl⟩
  case round =>
    obtain ⟨k, hk, hg, rfl, rfl⟩ := hrel
    have Hg := Lib.hid hg
    clear hg
    by_cases hlt : k < 4
    · have hc := cells8_get (digRow (crcSum l) k) k (by simp [digRow, le_len]; omega)
      have hki : (k : Int) < 4 := by omega
      have hst : (cells8 (digRow (crcSum l) k)).setIfInBounds k (.int .u8 ((crcSum l : Int) / 2 ^ (8 * k) % 256)) = cells8 (digRow (crcSum l) (k + 1)) := by
        rw [← byte_cast, cells8_set, digRow_step _ _ hlt]
      go_wp2_with fail
      go_roundg (gk - 1)
      case measure => have := Hg.out; omega
      case rel => exact ⟨k + 1, by omega, by have := Hg.out; omega, by go_num, rfl⟩
    · have hkl : k = 4 := by omega
      subst hkl
      have hcv := run_string_cells8 (P := Tryz.prog) 63 9 5 Tryz.underlying63 Tryz.underlying5 Tryz.underlying9 w1 (digRow (crcSum l) 4) 4 4 209 (by simp [digRow, le_len])
      have htk : (digRow (crcSum l) 4).take 4 = digest l := by
        have := le_len (crcSum l) 4
        unfold digRow digest
        rw [List.take_append_of_le_length (by omega), List.take_of_length_le (by omega)]
      rw [htk] at hcv
      go_wp2_with fail
      go_ret
      exact ⟨rfl, hb1.trans ((Below.refl _ _).alloc hb1.size _)⟩
end Go.Proofs.YtlkikkfbennmnaaGreatDoor
