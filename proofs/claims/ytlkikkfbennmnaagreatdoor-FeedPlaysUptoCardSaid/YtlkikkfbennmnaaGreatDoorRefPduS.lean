/- The reference on PDUs: PduSize. -/
import Derived.Test.YtlkikkfbennmnaaGreatDoorPduEnds
import Derived.Test.YtlkikkfbennmnaaGreatDoorGI
import Derived.Test.YtlkikkfbennmnaaGreatDoorGG
namespace Go.Proofs.YtlkikkfbennmnaaGreatDoor
open Go.RowKit
set_option linter.unusedVariables false
theorem readW_at (s : List UInt8) (h : 4 < s.length) : readW s = (s[4]'h).toNat := by
  have e : (s.drop 4).take 1 = [s[4]'h] := by rw [List.drop_eq_getElem_cons h]; rfl
  unfold readW cutB
  rw [e]
  simp [val]
theorem room_mod (n k : Nat) (hn : n ≤ 3) (hk : k ≠ 0) : room n 1 k = 4 * (n % 2) := by
  unfold room onM
  rw [Nat.div_one]
  by_cases h : n % 2 = 1
  · rw [if_pos ⟨by simp [h], hk⟩, h]
  · rw [if_neg (by rintro ⟨h1, _⟩; simp at h1; omega)]; omega
theorem room_div (n k : Nat) (hn : n ≤ 3) (hk : k ≠ 0) : room n 2 k = 4 * (n / 2) := by
  unfold room onM
  by_cases h : n / 2 % 2 = 1
  · rw [if_pos ⟨by simp [h], hk⟩]; omega
  · rw [if_neg (by rintro ⟨h1, _⟩; simp at h1; omega)]; omega
set_option maxRecDepth 100000 in
theorem refSize_ok (s : List UInt8) (n : Nat) (w : World) (hn : n ≤ 3) (h48 : 48 ≤ s.length) (hl : s.length ≤ 140737488351232) :
    Calls Tryz.prog 60 #[.string (S s), .int .i64 (n : Int)] w fun e w' => e = .returned (.tuple #[.int .i64 (ea s n : Nat), .int .i64 0]) ∧ Below w.heap.size w w' := by
  have h4 : 4 < s.length := by omega
  have hx := readW_at s h4
  have hxl := readW_lt s
  have hyl := readD_lt s
  have U := fun W => unnumber_ok ((s.drop 5).take 3) W (by have := List.length_take_le 3 (s.drop 5); omega)
  have ey : val ((s.drop 5).take 3) = readD s := rfl
  simp only [ey] at U
  have ea1 : ea s n = eh s + 4 * (n % 2) + readD s + pad (readD s) + (if readD s ≠ 0 then 4 * (n / 2) else 0) := by
    unfold ea ed eg
    rw [room_mod n (eh s) hn (by unfold eh; omega)]
    by_cases h : readD s = 0
    · rw [if_neg (by simp [h]), show room n 2 (readD s) = 0 from by unfold room; rw [if_neg (by simp [h])]]
    · rw [if_pos h, room_div n _ hn h]
  have eh1 : eh s = 48 + 4 * readW s := rfl
  have hp3 := pad_le (readD s)
  have Pd : ∀ W, Calls Tryz.prog 86 #[.int .i64 (readD s : Nat)] W fun e w' => e = .returned (.int .i64 (pad (readD s) : Nat)) ∧ Below W.heap.size W w' := fun W => (refPad_nat (readD s) W).mono fun e w' ⟨h1, h2⟩ => ⟨h1, h2 ▸ Below.refl _ _⟩
  have T := Lib.hid (fun W => within_true (n : Int) 0 3 W (by omega) (by omega))
  rw [hx] at eh1 hxl
  generalize ea s n = z at *
  generalize eh s = e1 at *
  generalize readD s = y at *
  generalize pad y = q at *
  obtain ⟨b4, hb4⟩ : ∃ b, s[4]'h4 = b := ⟨_, rfl⟩
  rw [hb4] at eh1 hxl
  have F0 : IntKind.i64.wrap (b4.toNat : Int) = (b4.toNat : Int) := IntWalk.i64_in _ (by omega)
  have F1 : IntKind.i64.wrap (4 * (b4.toNat : Int)) = 4 * (b4.toNat : Int) := IntWalk.i64_in _ (by omega)
  have F2 : IntKind.i64.wrap (48 + 4 * (b4.toNat : Int)) = (e1 : Int) := by rw [eh1]; rw [IntWalk.i64_in _ (by omega)]; omega
  obtain ⟨a1, ha1⟩ : ∃ a : Nat, a = e1 + y := ⟨_, rfl⟩
  obtain ⟨a2, ha2⟩ : ∃ a : Nat, a = e1 + y + q := ⟨_, rfl⟩
  obtain ⟨r, hr⟩ : ∃ r : Nat, r = 4 * (n % 2) := ⟨_, rfl⟩
  obtain ⟨a3, ha3⟩ : ∃ a : Nat, a = e1 + y + q + r := ⟨_, rfl⟩
  have F3 : IntKind.i64.wrap ((e1 : Int) + (y : Int)) = (a1 : Int) := by rw [IntWalk.i64_in _ (by omega)]; omega
  have F4 : IntKind.i64.wrap ((a1 : Int) + (q : Int)) = (a2 : Int) := by rw [IntWalk.i64_in _ (by omega)]; omega
  have F5 : IntKind.i64.wrap (4 * ((n : Int) % 2)) = (r : Int) := by rw [IntWalk.i64_in _ (by omega)]; omega
  have F6 : IntKind.i64.wrap ((a2 : Int) + 4 * ((n : Int) % 2)) = (a3 : Int) := by rw [IntWalk.i64_in _ (by omega)]; omega
  have F7 : IntKind.i64.wrap (y : Int) = (y : Int) := IntWalk.i64_in _ (by omega)
  have hz : z = a3 + (if y ≠ 0 then 4 * (n / 2) else 0) := by rw [ea1, ha3, hr]; omega
  have Hz := Lib.hid hz
  have i1 : (48 : Int) ≤ (s.length : Int) := by omega
  have ha3l : a3 ≤ 16780000 := by omega
  clear ea1 eh1 hx hxl ha1 ha2 hr ha3 hz hp3 ey
  have HPd := Lib.hid Pd
  have HU := Lib.hid U
  clear Pd U
  have Hy := Lib.hid hyl
  go_enter Tryz.func60, Tryz.ntmps60
  go_wp2_with fail
  refine (T.out _).mono ?_
  rintro e w1 ⟨rfl, rfl⟩
  go_wp2_with fail
  refine (HU.out _).mono ?_
  rintro e w1 ⟨rfl, hb1⟩
  have Hb1 := Lib.hid hb1
  clear hb1 HU
  go_wp2_with fail
  go_region_held3 (fun w' => Below w1.heap.size w1 w')
    (first | assumption | exact Below.refl _ _ | exact (Below.refl _ _).drew | (refine below_then ?_ hb'; assumption))
    (first | ((with_reducible refine (HPd.out _).mono ?_); rintro e w' ⟨rfl, hb'⟩))
  all_goals
    have Hend := Lib.hid (below_then Hb1.out (by assumption : Below w1.heap.size w1 w'))
    by_cases h0 : y = 0
    · have hzz := Hz.out
      rw [if_neg (by simp [h0]), Nat.add_zero] at hzz
      subst h0 hzz
      go_wp2_with fail
      go_ret2
      exact ⟨rfl, Hend.out⟩
    · have hzz := Hz.out
      rw [if_pos h0] at hzz
      have i2 : (0 : Int) < (y : Int) := by omega
      have F8 : IntKind.i64.wrap (4 * ((n : Int) / 2)) = 4 * ((n : Int) / 2) := IntWalk.i64_in _ (by omega)
      have F9 : IntKind.i64.wrap ((a3 : Int) + 4 * ((n : Int) / 2)) = (z : Int) := by rw [IntWalk.i64_in _ (by omega)]; omega
      have F10 : (a3 : Int) + 4 * ((n : Int) / 2) = (z : Int) := by omega
      clear hzz h0
      go_wp2_with fail
      go_ret2
      exact ⟨rfl, Hend.out⟩
set_option maxRecDepth 100000 in
theorem refSize_any (s : List UInt8) (m : Int) (w : World) (hl : s.length ≤ 140737488351232) :
    Calls Tryz.prog 60 #[.string (S s), .int .i64 m] w fun e w' => e = .returned (.tuple #[.int .i64 ((sizeP s m).1 : Nat), .int .i64 (sizeP s m).2]) ∧ Below w.heap.size w w' := by
  by_cases hk : okM m
  · by_cases h48 : s.length < 48
    · have e : sizeP s m = (0, 7) := by unfold sizeP; rw [if_neg (by simp [hk]), if_pos h48]
      rw [e]
      have T := Lib.hid (fun W => within_true m 0 3 W hk.1 hk.2)
      have i1 : (s.length : Int) < 48 := by omega
      clear e hk h48 hl
      go_enter Tryz.func60, Tryz.ntmps60
      go_wp2_with fail
      refine (T.out _).mono ?_
      rintro e w1 ⟨rfl, rfl⟩
      go_wp2_with fail
      go_ret2
      exact ⟨rfl, Below.refl _ _⟩
    · have e : sizeP s m = (ea s m.toNat, 0) := by unfold sizeP; rw [if_neg (by simp [hk]), if_neg h48]
      rw [e]
      obtain ⟨n, rfl⟩ : ∃ n : Nat, m = n := ⟨m.toNat, by have := hk.1; omega⟩
      rw [Int.toNat_natCast]
      exact refSize_ok s n w (by have := hk.2; omega) (by omega) hl
  · have e : sizeP s m = (0, 1) := by unfold sizeP; rw [if_pos hk]
    rw [e]
    have T := Lib.hid (fun W => within_false m 0 3 W (by unfold okM at hk; omega))
    clear e hk hl
    go_enter Tryz.func60, Tryz.ntmps60
    go_wp2_with fail
    refine (T.out _).mono ?_
    rintro e w1 ⟨rfl, rfl⟩
    go_wp2_with fail
    go_ret2
    exact ⟨rfl, Below.refl _ _⟩
end Go.Proofs.YtlkikkfbennmnaaGreatDoor
