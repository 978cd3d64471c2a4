/- internal/strconv.ParseUint of digits of a base. -/
import Derived.Test.YtoponmdfjbhnoaaGreatDoorRows
import Derived.Test.YtoponmdfjbhnoaaGreatDoorGA
import Derived.Laws.Strings3
import Derived.BigRegion
import Derived.BigCall
import Derived.BigGuard
namespace Go.Proofs.YtoponmdfjbhnoaaGreatDoor
open Go.RowKit
theorem lower_any (x e : Nat) (w : World) (h : bits .or .u8 (x : Int) 32 = (e : Int)) :
    Calls Tryz.prog 83 #[.int .u8 x] w fun r w' => r = .returned (.int .u8 e) ∧ w = w' := by
  go_enter Tryz.func83, Tryz.ntmps83
  go_wp2_with fail
  go_ret
  exact ⟨rfl, rfl⟩
set_option maxRecDepth 100000 in
set_option maxHeartbeats 2000000 in
theorem parseU16_32 (l : List UInt8) (w : World) (h0 : 0 < l.length) (h8 : l.length ≤ 8) (hd : ∀ c ∈ l, isDig 16 c = true) :
    Calls Tryz.prog 58 #[.string (S l), .int .i64 16, .int .i64 32] w fun e w' => e = .returned (.tuple #[.int .u64 (valB 16 l : Nat), .nilIface]) ∧ Below w.heap.size w w' := by
  obtain ⟨cap, hc1, hc2, hrun⟩ := run_bytes_S (P := Tryz.prog) 9 44 5 Tryz.underlying9 Tryz.underlying44 Tryz.underlying5 w l
  have hB := bytesAt_drew (bytesAt_new w (l ++ List.replicate (cap - l.length) 0) 5 (cap, cap + 1))
  have hbel : Below w.heap.size w (w.alloc (.cells (cells8 (l ++ List.replicate (cap - l.length) 0)) 5 (cap, cap + 1))).drew := ((Below.refl _ _).alloc (Nat.le_refl _) _).drew
  have hc2' := hc2 (by unfold maxLen; omega)
  unfold maxLen at hc2'
  clear hc2
  generalize hW : (w.alloc (.cells (cells8 (l ++ List.replicate (cap - l.length) 0)) 5 (cap, cap + 1))).drew = W at hrun hB hbel
  have HB := Lib.hid hB
  have Hbel := Lib.hid hbel
  have Hd := Lib.hid hd
  have hvl := valB_take_lt 16 (by decide) l hd
  have Hvl := Lib.hid hvl
  have hemp : l.isEmpty = false := by cases l with | nil => simp at h0 | cons _ _ => rfl
  clear hB hbel hW hd hvl
  go_enter Tryz.func58, Tryz.ntmps58
  go_wp2_with fail
  clear hrun
  go_loopg [12, 13, 101] 9 (fun g u v c wr => ∃ (k : Nat) (a : Int), k ≤ l.length ∧ g + k = 9 ∧ u = .bool false ∧ c = .int .i64 k ∧ v = .int .u64 a ∧ Hid (a = ((valB 16 (l.take k) : Nat) : Int)) ∧ wr = W)
  case atStart => exact ⟨0, 0, by omega, by omega, rfl, rfl, rfl, Lib.hid rfl, rfl⟩
  case round =>
    obtain ⟨k, a, hk, hg, rfl, rfl, rfl, ha, rfl⟩ := hrel
    have Hg := Lib.hid hg
    clear hg
    by_cases hlt : k < l.length
    · have hcell := bytesAt_get HB.out k (by simp; omega)
      rw [List.getElem_append_left hlt] at hcell
      have hsn := valB_snoc 16 (l.take k) l[k]
      rw [← List.take_succ_eq_append_getElem hlt] at hsn
      have hl1 := Hvl.out (k + 1) (by omega)
      have hl0 := Hvl.out k (by omega)
      have hp1 : 16 ^ (k + 1) ≤ 16 ^ 8 := Nat.pow_le_pow_right (by decide) (by omega)
      have hp0 : 16 ^ k ≤ 16 ^ 8 := Nat.pow_le_pow_right (by decide) (by omega)
      rw [show 16 ^ 8 = 4294967296 from by decide] at hp1 hp0
      have hdg := Hd.out _ (List.getElem_mem hlt)
      have hdv := isDig_lt hdg
      have hor := lowB_or l[k]
      have hlw := lowB_lt l[k]
      have hav := ha.out
      have hdd := isDig_or hdg
      have hn95 := isDig_ne hdg
      have hdef : digV l[k] = if 48 ≤ l[k].toNat ∧ l[k].toNat ≤ 57 then l[k].toNat - 48 else lowB l[k] - 87 := rfl
      have hlt256 := l[k].toNat_lt
      generalize l[k].toNat = c at hcell hor hdd hdef hlt256 hn95
      generalize lowB l[k] = e at hor hlw hdd hdef
      obtain ⟨d, hdn⟩ : ∃ d, digV l[k] = d := ⟨_, rfl⟩
      rw [hdn] at hsn hdv hdef
      have ha0 : 0 ≤ a := by omega
      have ha1 : a < 4294967296 := by omega
      have ha2 : a * 16 + (d : Int) < 4294967296 := by omega
      have HN : Hid (a * 16 + (d : Int) = ((valB 16 (l.take (k + 1)) : Nat) : Int)) := Lib.hid (by omega)
      clear hav ha hsn hl1 hl0 hp1 hp0 hdn hdg
      rcases hdd with ⟨g1, g2⟩ | ⟨⟨g1, g2⟩, g3⟩
      · rw [if_pos ⟨g1, g2⟩] at hdef
        obtain rfl : c = d + 48 := by omega
        clear hdef hor hn95
        go_wp2_with fail
        go_roundg (gk - 1)
        case measure => have := Hg.out; omega
        case rel => exact ⟨k + 1, a * 16 + (d : Int), by omega, by have := Hg.out; omega, rfl, by go_num, by go_num, HN, rfl⟩
      · rw [if_neg g3] at hdef
        obtain rfl : e = d + 87 := by omega
        have g4 : c < 48 ∨ 57 < c := by omega
        have g5 : c ≠ 95 := hn95 g4
        have hlo := fun W => lower_any c (d + 87) W hor
        clear hdef g3 hn95 hor
        go_wp2_with (with_reducible refine (hlo _).mono ?_; rintro e w' ⟨rfl, rfl⟩)
        all_goals
          go_roundg (gk - 1)
          case measure => have := Hg.out; omega
          case rel => exact ⟨k + 1, a * 16 + (d : Int), by omega, by have := Hg.out; omega, rfl, by go_num, by go_num, HN, rfl⟩
    · have hkl : k = l.length := by omega
      subst hkl
      have hav := ha.out
      rw [List.take_length] at hav
      subst hav
      go_wp2_with fail
      go_ret2
      exact ⟨rfl, Hbel.out⟩
end Go.Proofs.YtoponmdfjbhnoaaGreatDoor
