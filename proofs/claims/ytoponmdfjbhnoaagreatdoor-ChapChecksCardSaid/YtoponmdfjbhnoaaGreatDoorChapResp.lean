/- chap.Response. -/
import Derived.Test.YtoponmdfjbhnoaaGreatDoorGA
import Derived.Test.YtoponmdfjbhnoaaGreatDoorMd5Sum
namespace Go.Proofs.YtoponmdfjbhnoaaGreatDoor
open Go.RowKit
set_option linter.unusedVariables false
def respV (r : List UInt8 × Int) : Value := .tuple #[.string (S r.1), errV r.2]
set_option maxRecDepth 100000 in
theorem response_any (id : Int) (s c : List UInt8) (w : World) (ht : MdTabs w) :
    Calls Tryz.prog 5 #[.int .i64 id, .string (S s), .string (S c)] w fun e w' => e = .returned (.tuple #[.string (S (respL id s c).1), errV (respL id s c).2]) ∧ Below w.heap.size w w' := by
  rcases respL_ways id s c with ⟨e, h⟩ | ⟨e, h⟩ | ⟨x, e, hx, hm, h0, h1, h2, h3, h4⟩
  · rw [e]
    clear e ht
    show Calls _ _ _ _ fun e w' => e = .returned (.tuple #[.string (S []), .iface 27 (.int .i64 2)]) ∧ _
    rcases h with h | h
    · go_enter Tryz.func5, Tryz.ntmps5
      go_wp2_with fail
      go_ret2
      exact ⟨rfl, Below.refl _ _⟩
    · have h' : ¬ id < 0 := by omega
      go_enter Tryz.func5, Tryz.ntmps5
      go_wp2_with fail
      go_ret2
      exact ⟨rfl, Below.refl _ _⟩
  · by_cases hi : id < 0 ∨ 255 < id
    · rw [respL_range id s c hi] at e
      simp at e
    · rw [e]
      clear e ht
      show Calls _ _ _ _ fun e w' => e = .returned (.tuple #[.string (S []), .iface 27 (.int .i64 4)]) ∧ _
      have i1 : ¬ id < 0 := by omega
      have i2 : ¬ 255 < id := by omega
      clear hi
      by_cases a1 : 100 < s.length
      · have a1i : (100 : Int) < (s.length : Int) := by omega
        go_enter Tryz.func5, Tryz.ntmps5
        go_wp2_with fail
        go_ret2
        exact ⟨rfl, Below.refl _ _⟩
      · have a1i : ¬ (100 : Int) < (s.length : Int) := by omega
        by_cases a2 : c.length = 0
        · have a2i : (c.length : Int) = 0 := by omega
          go_enter Tryz.func5, Tryz.ntmps5
          go_wp2_with fail
          go_ret2
          exact ⟨rfl, Below.refl _ _⟩
        · have a2i : ¬ (c.length : Int) = 0 := by omega
          have a3i : (100 : Int) < (c.length : Int) := by omega
          go_enter Tryz.func5, Tryz.ntmps5
          go_wp2_with fail
          go_ret2
          exact ⟨rfl, Below.refl _ _⟩
  · rw [e]
    clear e
    obtain ⟨k, rfl⟩ := Int.eq_ofNat_of_zero_le h0
    have hk : k ≤ 255 := by omega
    rw [Int.toNat_natCast] at hm
    obtain ⟨y, hy⟩ : ∃ y : UInt8, UInt8.ofNat k = y := ⟨_, rfl⟩
    have hyk : (y.toNat : Int) = (k : Int) := by rw [← hy, UInt8.toNat_ofNat', Nat.mod_eq_of_lt (by omega)]
    rw [hy] at hm
    have hcv := run_string_cells8 (P := Tryz.prog) 44 9 5 Tryz.underlying44 Tryz.underlying5 Tryz.underlying9 w [y] 1 1 5 (by simp)
    rw [show cells8 [y] = #[.int .u8 (k : Int)] by unfold cells8; rw [List.map_cons, hyk]; rfl] at hcv
    have hA := (Below.refl w.heap.size w).alloc (Nat.le_refl _) (.cells #[.int .u8 (k : Int)] 5)
    have M := md5Sum_any (([y] ++ s) ++ c) _ (by simp; omega) (ht.later hA)
    rw [show ([y] ++ s) ++ c = y :: (s ++ c) by simp, ← hm] at M
    have M := Lib.hid M
    have HA := Lib.hid hA
    show Calls _ _ _ _ fun e w' => e = .returned (.tuple #[.string (S x), .nilIface]) ∧ _
    have i1 : ¬ (k : Int) < 0 := by omega
    have i2 : ¬ (255 : Int) < (k : Int) := by omega
    have a1i : ¬ (100 : Int) < (s.length : Int) := by omega
    have a2i : ((c.length : Int) == 0) = false := by rw [beq_eq_false_iff_ne]; omega
    have a2n : ¬ c = [] := fun e => by rw [e] at h3; simp at h3
    have a3i : ¬ (100 : Int) < (c.length : Int) := by omega
    clear hm hx hA hy hyk ht
    go_enter Tryz.func5, Tryz.ntmps5
    go_wp2_with fail
    refine M.out.mono ?_
    rintro e w1 ⟨rfl, hb1⟩
    have Hb1 := Lib.hid (below_then HA.out hb1)
    clear hb1
    go_wp2_with fail
    go_ret2
    exact ⟨rfl, Hb1.out⟩
end Go.Proofs.YtoponmdfjbhnoaaGreatDoor
