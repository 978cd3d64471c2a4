/- Bits that are turned. -/
import Derived.Test.YtoponmdfjbhnoaaDoorBurstPlain
import Derived.Test.YtoponmdfjbhnoaaDoorRows
import Derived.Test.YtoponmdfjbhnoaaDoorBase2
import Derived.RegionTactic
namespace Go.Proofs.YtoponmdfjbhnoaaDoor
open Go.RowKit
set_option linter.unusedVariables false
theorem bit_walk (v k : Nat) (hv : v < 2 ^ 32) : bits .and .u32 ((v : Int) / 2 ^ k) 1 = ((v / 2 ^ k % 2 : Nat) : Int) := by
  have hd : v / 2 ^ k < 2 ^ 32 := Nat.lt_of_le_of_lt (Nat.div_le_self _ _) hv
  rw [show (v : Int) / 2 ^ k = ((v / 2 ^ k : Nat) : Int) from by rw [Int.natCast_ediv, Int.natCast_pow]; rfl, show (1 : Int) = ((1 : Nat) : Int) from rfl, u32_and_nat _ 1 hd (by decide), Nat.and_one_is_mod]
/-- the bytes behind k rounds, with the spare room of the new array -/
def turnRow (l : List UInt8) (first v cap k : Nat) : List UInt8 := tn l first v k ++ List.replicate (cap - l.length) 0
theorem turnRow_len (l : List UInt8) (first v cap k : Nat) (h : l.length ≤ cap) : (turnRow l first v cap k).length = cap := by
  unfold turnRow; rw [List.length_append, tn_len, List.length_replicate]; omega
theorem xor_walk (x : UInt8) (j : Nat) (hj : j < 8) : bits .xor .u8 (x.toNat : Int) (2 ^ j % 256) = ((x ^^^ UInt8.ofNat (2 ^ j)).toNat : Int) := by
  have h2 : (2 : Nat) ^ j < 256 := Nat.pow_lt_pow_right (by decide) hj
  have e : ((2 : Int) ^ j % 256) = ((2 ^ j : Nat) : Int) := by
    have : ((2 : Int) ^ j) = ((2 ^ j : Nat) : Int) := by rw [Int.natCast_pow]; rfl
    rw [this]
    generalize 2 ^ j = q at h2
    omega
  rw [e, u8_xor_nat _ _ x.toNat_lt h2, UInt8.toNat_xor, UInt8.toNat_ofNat', Nat.mod_eq_of_lt (by simpa using h2)]
theorem cells8_at (l : List UInt8) (i : Nat) (y : UInt8) (h : l[i]? = some y) : (cells8 l)[i]? = some (.int .u8 (y.toNat : Int)) := by simp [cells8, h]
theorem turn_step (l : List UInt8) (first v cap k : Nat) (y : UInt8) (hb : v / 2 ^ k % 2 = 1) (hin : (first + k) / 8 < l.length) (hy : (turnRow l first v cap k)[(first + k) / 8]? = some y) :
    (turnRow l first v cap k).set ((first + k) / 8) (y ^^^ UInt8.ofNat (2 ^ ((first + k) % 8))) = turnRow l first v cap (k + 1) := by
  have hl2 : (first + k) / 8 < (tn l first v k).length := by rw [tn_len]; exact hin
  have e1 : tn l first v (k + 1) = turnAt (tn l first v k) (first + k) := by conv => lhs; unfold tn; rw [if_pos ⟨hb, hin⟩]
  unfold turnRow at *
  rw [List.getElem?_append_left hl2] at hy
  rw [e1, List.set_append_left _ _ hl2]
  unfold turnAt
  rw [List.getD_eq_getElem?_getD, hy]
  rfl
set_option maxRecDepth 100000 in
theorem turned_any (l : List UInt8) (first v : Nat) (w : World) (hl : l.length ≤ 200000) (hf : first ≤ 10000000) (hv : v < 2 ^ 32) :
    Calls Tryd.prog 9 #[.string (S l), .int .i64 first, .int .u32 v] w fun e w' => e = .returned (.string (S (tn l first v 32))) ∧ Below w.heap.size w w' := by
  obtain ⟨cap, hc1, hc2, hrun⟩ := run_bytes_S (P := Tryd.prog) 9 46 5 Tryd.underlying9 Tryd.underlying46 Tryd.underlying5 w l
  have hc2' := hc2 (by unfold maxLen; omega)
  unfold maxLen at hc2'
  clear hc2
  have Hv := Lib.hid hv
  clear hv
  go_enter Tryd.func9, Tryd.ntmps9
  go_wp2_with fail
  clear hrun
  go_loopg [12] 33 (fun g c wr => ∃ k m : Nat, k ≤ 32 ∧ g + k = 33 ∧ c = .int .i64 k ∧ wr = (w.alloc (.cells (cells8 (turnRow l first v cap k)) 5 (cap, cap + 1))).drewN m)
  case atStart => exact ⟨0, 1, by omega, by omega, rfl, rfl⟩
  case round =>
    obtain ⟨k, m, hk, hg, rfl, rfl⟩ := hrel
    have Hg := Lib.hid hg
    clear hg
    by_cases hlt : k < 32
    · have hki : (k : Int) < 32 := by omega
      have hbw := bit_walk v k Hv.out
      rcases Nat.mod_two_eq_zero_or_one (v / 2 ^ k) with hb | hb
      · rw [hb] at hbw
        have hrow : turnRow l first v cap k = turnRow l first v cap (k + 1) := by
          unfold turnRow; rw [show tn l first v (k + 1) = tn l first v k from by conv => lhs; unfold tn; rw [if_neg (by rw [hb]; rintro ⟨h0, _⟩; cases h0)]]
        have Hrow := Lib.hid hrow
        clear hb hrow
        go_wp2_with fail
        go_roundg (gk - 1)
        case measure => have := Hg.out; omega
        case rel => exact ⟨k + 1, m, by omega, by have := Hg.out; omega, by go_num, by rw [Hrow.out]⟩
      · rw [hb] at hbw
        by_cases hin : (first + k) / 8 < l.length
        · have hd : decide (((first : Int) + (k : Int)) / 8 < (l.length : Int)) = true := decide_eq_true (by omega)
          obtain ⟨y, hy⟩ : ∃ y, (turnRow l first v cap k)[(first + k) / 8]? = some y := ⟨_, List.getElem?_eq_getElem (by rw [turnRow_len _ _ _ _ _ hc1]; omega)⟩
          have hcell := (World.cell?_alloc_mark w (cells8 (turnRow l first v cap k)) 5 (cap, cap + 1) ((first + k) / 8)).trans (cells8_at _ _ y hy)
          have hfro : (w.alloc (.cells (cells8 (turnRow l first v cap k)) 5 (cap, cap + 1))).frozen? ⟨w.heap.size, (first + k) / 8, none⟩ = false := by
            rw [World.frozen?_alloc_mark]; simp; omega
          have hx := xor_walk y ((first + k) % 8) (Nat.mod_lt _ (by decide))
          have hwd : ((w.alloc (.cells (cells8 (turnRow l first v cap k)) 5 (cap, cap + 1))).drewN (m + 1)).setCell ⟨w.heap.size, (first + k) / 8, none⟩ (.int .u8 ((y ^^^ UInt8.ofNat (2 ^ ((first + k) % 8))).toNat : Int)) = (w.alloc (.cells (cells8 (turnRow l first v cap (k + 1))) 5 (cap, cap + 1))).drewN (m + 1) := by
            rw [← turn_step l first v cap k y hb hin hy, ← cells8_set, ← setCell_mark]; rfl
          clear hy
          clear hb
          go_wp2_with fail
          go_region
          all_goals
            go_wp2_with fail
            go_roundg (gk - 1)
            case measure => have := Hg.out; omega
            case rel => exact ⟨k + 1, m + 1, by omega, by have := Hg.out; omega, by go_num, by first | rfl | exact hwd⟩
        · have hd : decide (((first : Int) + (k : Int)) / 8 < (l.length : Int)) = false := decide_eq_false (by omega)
          have hrow : turnRow l first v cap k = turnRow l first v cap (k + 1) := by
            unfold turnRow; rw [show tn l first v (k + 1) = tn l first v k from by conv => lhs; unfold tn; rw [if_neg (by rintro ⟨_, h0⟩; exact hin h0)]]
          have Hrow := Lib.hid hrow
          clear hb hrow
          go_wp2_with fail
          go_roundg (gk - 1)
          case measure => have := Hg.out; omega
          case rel => exact ⟨k + 1, m, by omega, by have := Hg.out; omega, by go_num, by rw [Hrow.out]⟩
    · have hkl : k = 32 := by omega
      subst hkl
      have hB : BytesAt ((w.alloc (.cells (cells8 (turnRow l first v cap 32)) 5 (cap, cap + 1))).drewN m) w.heap.size (turnRow l first v cap 32) := bytesAt_drewN (bytesAt_new _ _ _ _) m
      have hcv := run_string_cells (P := Tryd.prog) 46 9 5 Tryd.underlying46 Tryd.underlying5 Tryd.underlying9 hB l.length cap (by rw [turnRow_len _ _ _ _ _ hc1]; exact hc1)
      have htk : (turnRow l first v cap 32).take l.length = tn l first v 32 := by
        unfold turnRow
        rw [List.take_append_of_le_length (by rw [tn_len]; exact Nat.le_refl _), List.take_of_length_le (by rw [tn_len]; exact Nat.le_refl _)]
      rw [htk] at hcv
      clear hB htk
      go_wp2_with fail
      go_ret
      exact ⟨rfl, below_drewN ((Below.refl _ _).alloc (Nat.le_refl _) _) m⟩
end Go.Proofs.YtoponmdfjbhnoaaDoor
