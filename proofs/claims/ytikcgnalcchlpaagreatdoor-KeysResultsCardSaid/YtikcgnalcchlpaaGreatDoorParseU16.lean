/- internal/strconv.ParseUint of any text, in base 16, of forty bits. -/
import Derived.Test.YtikcgnalcchlpaaGreatDoorParseU
namespace Go.Proofs.YtikcgnalcchlpaaGreatDoor
open Go.RowKit
set_option maxRecDepth 100000 in
set_option maxHeartbeats 4000000 in
theorem parseU16 (l : List UInt8) (w : World) (hl : l.length ≤ 1000000) :
    Calls Tryz.prog 50 #[.string (S l), .int .i64 16, .int .i64 40] w (RetPU w (numU 16 l)) := by
  by_cases he : l = []
  · subst he
    go_enter Tryz.func50, Tryz.ntmps50
    go_wp2_with fail
    go_ret2
    exact ⟨.inr ⟨rfl, _, .inr rfl⟩, Below.refl _ _⟩
  have hemp : l.isEmpty = false := by cases l with | nil => exact absurd rfl he | cons _ _ => rfl
  have HU := Lib.hid (show numU 16 l = numF 16 0 l by unfold numU; rw [if_neg he])
  obtain ⟨cap, hc1, hc2, hrun⟩ := run_bytes_S (P := Tryz.prog) 9 68 5 Tryz.underlying9 Tryz.underlying68 Tryz.underlying5 w l
  have hB := bytesAt_drew (bytesAt_new w (l ++ List.replicate (cap - l.length) 0) 5 (cap, cap + 1))
  have hbel : Below w.heap.size w (w.alloc (.cells (cells8 (l ++ List.replicate (cap - l.length) 0)) 5 (cap, cap + 1))).drew := ((Below.refl _ _).alloc (Nat.le_refl _) _).drew
  have hc2' := hc2 (by unfold maxLen; omega)
  unfold maxLen at hc2'
  clear hc2
  generalize hW : (w.alloc (.cells (cells8 (l ++ List.replicate (cap - l.length) 0)) 5 (cap, cap + 1))).drew = W at hrun hB hbel
  have HB := Lib.hid hB
  have Hbel := Lib.hid hbel
  clear hB hbel hW he
  have hw1 : IntKind.u64.wrap 1099511627776 = 1099511627776 := by decide +kernel
  go_enter Tryz.func50, Tryz.ntmps50
  go_wp2_with fail
  clear hrun
  go_loopg [12, 13, 101] (l.length + 1) (fun g u v c wr => ∃ (k m : Nat) (a : Int), k ≤ l.length ∧ g + k = l.length + 1 ∧ u = .bool false ∧ c = .int .i64 k ∧ v = .int .u64 a ∧ Hid (a = (m : Int) ∧ m < 1099511627776 ∧ numF 16 m (l.drop k) = numU 16 l) ∧ wr = W)
  case atStart => exact ⟨0, 0, 0, by omega, by omega, rfl, rfl, rfl, Lib.hid ⟨rfl, by decide, HU.out.symm⟩, rfl⟩
  case round =>
    obtain ⟨k, m, a, hk, hg, rfl, rfl, rfl, ha, rfl⟩ := hrel
    have Hg := Lib.hid hg
    clear hg
    by_cases hlt : k < l.length
    · have hcell := bytesAt_get HB.out k (by simp; omega)
      rw [List.getElem_append_left hlt] at hcell
      obtain ⟨hav, hm, hnum⟩ := ha.out
      rw [numF_snoc hlt] at hnum
      have hor := lowB_or l[k]
      have hlw := lowB_lt l[k]
      have hcs := dig_cases 16 l[k]
      have hi1 := @isDig_num 16 l[k] (by decide)
      have hi2 := @isDig_let 16 l[k]
      have hlt256 := l[k].toNat_lt
      generalize isDig 16 l[k] = ok at hcs hi1 hi2 hnum
      generalize digV l[k] = d at hcs hi2 hnum
      generalize l[k].toNat = c at hcell hor hcs hlt256 hi1
      generalize lowB l[k] = e at hor hlw hcs hi2
      have ha0 : 0 ≤ a := by omega
      have ha1 : a < 1099511627776 := by omega
      rcases hcs with ⟨g1, g2, g3⟩ | ⟨g1, g2, g3, g4, g5⟩ | ⟨g1, g2, g3⟩
      · rw [hi1 ⟨g1, g2⟩, if_pos rfl] at hnum
        obtain rfl : c = d + 48 := by omega
        have ha2 : a * 16 + (d : Int) < 17592186044672 := by omega
        by_cases hbig : m * 16 + d < 1099511627776
        · rw [if_pos hbig] at hnum
          have ha3 : a * 16 + (d : Int) < 1099511627776 := by omega
          have HN := Lib.hid (show (a * 16 + (d : Int) = ((m * 16 + d : Nat) : Int)) ∧ m * 16 + d < 1099511627776 ∧ numF 16 (m * 16 + d) (l.drop (k + 1)) = numU 16 l from ⟨by omega, hbig, hnum⟩)
          clear hnum hav ha hor hi1 hi2 g3 hm hbig
          go_wp2_with fail
          go_roundg (gk - 1)
          case measure => have := Hg.out; omega
          case rel => exact ⟨k + 1, m * 16 + d, a * 16 + (d : Int), by omega, by have := Hg.out; omega, rfl, by go_num, by go_num, HN, rfl⟩
        · rw [if_neg hbig] at hnum
          have ha3 : 1099511627776 ≤ a * 16 + (d : Int) := by omega
          have HN := Lib.hid hnum
          clear hnum hav ha hor hi1 hi2 g3 hm hbig
          go_wp2_with fail
          go_ret2
          exact ⟨.inr ⟨HN.out.symm, _, .inl rfl⟩, Hbel.out⟩
      · rw [hi2 ⟨g3, g4⟩] at hnum
        obtain rfl : e = d + 87 := by omega
        have hlo := fun W => lower1_any c (d + 87) W hor
        have g6 : c < 48 ∨ 57 < c := by omega
        by_cases hdb : d < 16
        · rw [decide_eq_true hdb, if_pos rfl] at hnum
          have ha2 : a * 16 + (d : Int) < 17592186044672 := by omega
          by_cases hbig : m * 16 + d < 1099511627776
          · rw [if_pos hbig] at hnum
            have ha3 : a * 16 + (d : Int) < 1099511627776 := by omega
            have HN := Lib.hid (show (a * 16 + (d : Int) = ((m * 16 + d : Nat) : Int)) ∧ m * 16 + d < 1099511627776 ∧ numF 16 (m * 16 + d) (l.drop (k + 1)) = numU 16 l from ⟨by omega, hbig, hnum⟩)
            clear hnum hav ha hor hi1 hi2 g1 g5 hm hbig
            go_wp2_with (with_reducible refine (hlo _).mono ?_; rintro e w' ⟨rfl, rfl⟩)
            all_goals
              go_roundg (gk - 1)
              case measure => have := Hg.out; omega
              case rel => exact ⟨k + 1, m * 16 + d, a * 16 + (d : Int), by omega, by have := Hg.out; omega, rfl, by go_num, by go_num, HN, rfl⟩
          · rw [if_neg hbig] at hnum
            have ha3 : 1099511627776 ≤ a * 16 + (d : Int) := by omega
            have HN := Lib.hid hnum
            clear hnum hav ha hor hi1 hi2 g1 g5 hm hbig
            go_wp2_with (with_reducible refine (hlo _).mono ?_; rintro e w' ⟨rfl, rfl⟩)
            all_goals
              go_ret2
              exact ⟨.inr ⟨HN.out.symm, _, .inl rfl⟩, Hbel.out⟩
        · rw [decide_eq_false hdb, if_neg (by decide)] at hnum
          have hdb' : 16 ≤ d := by omega
          have HN := Lib.hid hnum
          clear hnum hav ha hor hi1 hi2 g1 g5 hm
          go_wp2_with (with_reducible refine (hlo _).mono ?_; rintro e w' ⟨rfl, rfl⟩)
          all_goals
            go_ret2
            exact ⟨.inr ⟨HN.out.symm, _, .inr rfl⟩, Hbel.out⟩
      · rw [g3, if_neg (by decide)] at hnum
        have hlo := fun W => lower1_any c e W hor
        have g6 : c < 48 ∨ 57 < c := by omega
        have g7 : e < 97 ∨ 122 < e := by omega
        have HN := Lib.hid hnum
        clear hnum hav ha hor hi1 hi2 g1 g2 g3 hm
        by_cases h95 : c = 95
        · subst h95
          have hlo2 : ∀ W, Calls Tryz.prog 66 #[.int .u8 95] W (fun r w' => r = .returned (.int .u8 e) ∧ W = w') := hlo
          clear hlo
          go_wp2_with (with_reducible refine (hlo2 _).mono ?_; rintro e w' ⟨rfl, rfl⟩)
          all_goals
            go_ret2
            exact ⟨.inr ⟨HN.out.symm, _, .inr rfl⟩, Hbel.out⟩
        · have h95' : ¬ (c : Int) = 95 := by omega
          go_wp2_with (with_reducible refine (hlo _).mono ?_; rintro e w' ⟨rfl, rfl⟩)
          all_goals
            go_ret2
            exact ⟨.inr ⟨HN.out.symm, _, .inr rfl⟩, Hbel.out⟩
    · have hkl : k = l.length := by omega
      subst hkl
      obtain ⟨hav, hm, hnum⟩ := ha.out
      rw [List.drop_length, numF_nil] at hnum
      subst hav
      have HN := Lib.hid hnum
      clear hnum ha
      go_wp2_with fail
      go_ret2
      exact ⟨.inl ⟨m, HN.out.symm, rfl⟩, Hbel.out⟩
end Go.Proofs.YtikcgnalcchlpaaGreatDoor
