/- strconv.ParseInt of two digits of 16, of eight of 2. -/
import Derived.Test.YtoponmdfjbhnoaaGreatDoorParse64
namespace Go.Proofs.YtoponmdfjbhnoaaGreatDoor
open Go.RowKit
theorem isDig_sign (b : Nat) (l : List UInt8) (h0 : 0 < l.length) (hd : ∀ c ∈ l, isDig b c = true) : ∃ c : Nat, (l[0]'h0).toNat = c ∧ ¬ (c : Int) = 43 ∧ ¬ (c : Int) = 45 := by
  refine ⟨_, rfl, ?_, ?_⟩
  · intro e
    have h : l[0]'h0 = 43 := UInt8.toNat_inj.1 (by show _ = 43; omega)
    have := isDig_or (hd _ (List.getElem_mem h0))
    rw [h] at this
    revert this; decide
  · intro e
    have h : l[0]'h0 = 45 := UInt8.toNat_inj.1 (by show _ = 45; omega)
    have := isDig_or (hd _ (List.getElem_mem h0))
    rw [h] at this
    revert this; decide
set_option maxRecDepth 100000 in
theorem parseIn_16 (l : List UInt8) (w : World) (h0 : 0 < l.length) (h8 : l.length ≤ 2) (hd : ∀ c ∈ l, isDig 16 c = true) :
    Calls Tryz.prog 53 #[.string (S l), .int .i64 16, .int .i64 64] w fun e w' => e = .returned (.tuple #[.int .i64 (valB 16 l : Nat), .nilIface]) ∧ Below w.heap.size w w' := by
  have hv := valB_take_lt 16 (by decide) l hd l.length (Nat.le_refl _)
  have hp : 16 ^ l.length ≤ 16 ^ 2 := Nat.pow_le_pow_right (by decide) h8
  rw [List.take_length] at hv
  have hv2 : valB 16 l < 256 := by
    have : (16 : Nat) ^ 2 = 256 := by decide
    omega
  have C := Lib.hid (fun W => parseU16_64 l W h0 h8 hd)
  have h1 := isDig_sign 16 l h0 hd
  obtain ⟨c, hc, n1, n2⟩ := h1
  have hemp : l.isEmpty = false := by cases l with | nil => simp at h0 | cons _ _ => rfl
  obtain ⟨x, hx⟩ : ∃ x : Int, ((valB 16 l : Nat) : Int) = x := ⟨_, rfl⟩
  have hx0 : 0 ≤ x := by omega
  have hx1 : x < 256 := by omega
  rw [hx] at C ⊢
  clear hv hp hd hv2 hx
  go_enter Tryz.func53, Tryz.ntmps53
  go_wp2_with fail
  with_reducible refine (C.out _).mono ?_
  rintro e w' ⟨rfl, hb⟩
  go_wp2_with fail
  go_ret2
  exact ⟨rfl, hb⟩
set_option maxRecDepth 100000 in
theorem parseInt_16 (l : List UInt8) (w : World) (h0 : 0 < l.length) (h8 : l.length ≤ 2) (hd : ∀ c ∈ l, isDig 16 c = true) :
    Calls Tryz.prog 30 #[.string (S l), .int .i64 16, .int .i64 64] w fun e w' => e = .returned (.tuple #[.int .i64 (valB 16 l : Nat), .nilIface]) ∧ Below w.heap.size w w' := by
  go_enter Tryz.func30, Tryz.ntmps30
  go_wp2_with fail
  refine (parseIn_16 l _ h0 h8 hd).mono ?_
  rintro e w' ⟨rfl, hb⟩
  go_wp2_with fail
  go_ret2
  exact ⟨rfl, hb⟩

set_option maxRecDepth 100000 in
theorem parseIn_2 (l : List UInt8) (w : World) (h0 : 0 < l.length) (h8 : l.length ≤ 8) (hd : ∀ c ∈ l, isDig 2 c = true) :
    Calls Tryz.prog 53 #[.string (S l), .int .i64 2, .int .i64 64] w fun e w' => e = .returned (.tuple #[.int .i64 (valB 2 l : Nat), .nilIface]) ∧ Below w.heap.size w w' := by
  have hv := valB_take_lt 2 (by decide) l hd l.length (Nat.le_refl _)
  have hp : 2 ^ l.length ≤ 2 ^ 8 := Nat.pow_le_pow_right (by decide) h8
  rw [List.take_length] at hv
  have hv2 : valB 2 l < 256 := by
    have : (2 : Nat) ^ 8 = 256 := by decide
    omega
  have C := Lib.hid (fun W => parseU2_64 l W h0 h8 hd)
  have h1 := isDig_sign 2 l h0 hd
  obtain ⟨c, hc, n1, n2⟩ := h1
  have hemp : l.isEmpty = false := by cases l with | nil => simp at h0 | cons _ _ => rfl
  obtain ⟨x, hx⟩ : ∃ x : Int, ((valB 2 l : Nat) : Int) = x := ⟨_, rfl⟩
  have hx0 : 0 ≤ x := by omega
  have hx1 : x < 256 := by omega
  rw [hx] at C ⊢
  clear hv hp hd hv2 hx
  go_enter Tryz.func53, Tryz.ntmps53
  go_wp2_with fail
  with_reducible refine (C.out _).mono ?_
  rintro e w' ⟨rfl, hb⟩
  go_wp2_with fail
  go_ret2
  exact ⟨rfl, hb⟩
set_option maxRecDepth 100000 in
theorem parseInt_2 (l : List UInt8) (w : World) (h0 : 0 < l.length) (h8 : l.length ≤ 8) (hd : ∀ c ∈ l, isDig 2 c = true) :
    Calls Tryz.prog 30 #[.string (S l), .int .i64 2, .int .i64 64] w fun e w' => e = .returned (.tuple #[.int .i64 (valB 2 l : Nat), .nilIface]) ∧ Below w.heap.size w w' := by
  go_enter Tryz.func30, Tryz.ntmps30
  go_wp2_with fail
  refine (parseIn_2 l _ h0 h8 hd).mono ?_
  rintro e w' ⟨rfl, hb⟩
  go_wp2_with fail
  go_ret2
  exact ⟨rfl, hb⟩
end Go.Proofs.YtoponmdfjbhnoaaGreatDoor
