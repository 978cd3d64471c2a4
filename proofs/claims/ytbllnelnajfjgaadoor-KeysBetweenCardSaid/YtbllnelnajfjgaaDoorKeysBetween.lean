/- KeysBetween: of numbers it comes to the less, or the greater of both, and to what may be. -/
import Derived.Test.YtbllnelnajfjgaaDoorKeyed
import Derived.Test.YtbllnelnajfjgaaDoorPick
import Derived.Test.YtbllnelnajfjgaaDoorNumberT
import Derived.Deep.QuietTactic
import Derived.BigQuiet
namespace Go.Proofs.YtbllnelnajfjgaaDoor
open Go.RowKit
set_option linter.unusedVariables false
def btwNm : List (List UInt8) := [ke2.nm, ke3.nm, ke7.nm, ke8.nm, ke9.nm, ke10.nm, ke11.nm]
def dt2w : List UInt8 := [68, 101, 102, 97, 117, 108, 116, 84, 105, 109, 101, 50, 87, 97, 105, 116]
theorem btw_row (i : Nat) (hi : i < 7) : ∃ k, rowOf (btwNm.getD i []) = some k ∧ ((k.kd = 3 ∧ (btwNm.getD i [] == dt2w) = false) ∨ (k.kd = 4 ∧ (btwNm.getD i [] == dt2w) = true)) := by
  have h : i = 0 ∨ i = 1 ∨ i = 2 ∨ i = 3 ∨ i = 4 ∨ i = 5 ∨ i = 6 := by omega
  rcases h with rfl | rfl | rfl | rfl | rfl | rfl | rfl
  · exact ⟨ke2, rowOf_each 2 (by decide), .inl ⟨rfl, by decide⟩⟩
  · exact ⟨ke3, rowOf_each 3 (by decide), .inl ⟨rfl, by decide⟩⟩
  · exact ⟨ke7, rowOf_each 7 (by decide), .inl ⟨rfl, by decide⟩⟩
  · exact ⟨ke8, rowOf_each 8 (by decide), .inl ⟨rfl, by decide⟩⟩
  · exact ⟨ke9, rowOf_each 9 (by decide), .inr ⟨rfl, by decide⟩⟩
  · exact ⟨ke10, rowOf_each 10 (by decide), .inl ⟨rfl, by decide⟩⟩
  · exact ⟨ke11, rowOf_each 11 (by decide), .inl ⟨rfl, by decide⟩⟩
def btwCells : Array Value := #[.string (S [77, 97, 120, 67, 111, 110, 110, 101, 99, 116, 105, 111, 110, 115]), .string (S [69, 114, 114, 111, 114, 82, 101, 99, 111, 118, 101, 114, 121, 76, 101, 118, 101, 108]), .string (S [77, 97, 120, 66, 117, 114, 115, 116, 76, 101, 110, 103, 116, 104]), .string (S [70, 105, 114, 115, 116, 66, 117, 114, 115, 116, 76, 101, 110, 103, 116, 104]), .string (S [68, 101, 102, 97, 117, 108, 116, 84, 105, 109, 101, 50, 87, 97, 105, 116]), .string (S [68, 101, 102, 97, 117, 108, 116, 84, 105, 109, 101, 50, 82, 101, 116, 97, 105, 110]), .string (S [77, 97, 120, 79, 117, 116, 115, 116, 97, 110, 100, 105, 110, 103, 82, 50, 84])]
theorem btw_cell (i : Nat) (hi : i < 7) (w : World) : (w.alloc (.cells btwCells 9)).cell? ⟨w.heap.size, i, none⟩ = some (.string (S (btwNm.getD i []))) := by
  rw [(Blk.new w btwCells 9).cell i]
  have h : i = 0 ∨ i = 1 ∨ i = 2 ∨ i = 3 ∨ i = 4 ∨ i = 5 ∨ i = 6 := by omega
  rcases h with rfl | rfl | rfl | rfl | rfl | rfl | rfl <;> rfl
set_option maxRecDepth 100000 in
set_option maxHeartbeats 4000000 in
theorem keysBetween_any (which a b : Int) (w : World) (hw : (Lit.int .i64 which).wf = true) (ha : (Lit.int .i64 a).wf = true) (hb : (Lit.int .i64 b).wf = true) (hE : Env w) (hg : ErrCell w) :
    Calls Tryd.prog 9 #[.int .i64 which, .int .i64 a, .int .i64 b] w fun e w' => e = .returned (.bool true) ∧ Below w.heap.size w w' := by
  have Fk := Lib.hid (keyed_any w hE hg)
  have PK := Lib.hid (fun W => pick_any which 7 W (by decide) (by decide))
  have hi7 := pickI_lt which 7 (by decide)
  obtain ⟨i, hi⟩ : ∃ i, pickI which 7 = i := ⟨_, rfl⟩
  rw [hi] at PK hi7
  obtain ⟨k, hr, hkd⟩ := btw_row i hi7
  have hcell := Lib.hid (btw_cell i hi7)
  obtain ⟨nm, hnm⟩ : ∃ nm, btwNm.getD i [] = nm := ⟨_, rfl⟩
  rw [hnm] at hr hkd hcell
  have hok := rowOf_ok hr
  have kr : ∀ a b, keyRes nm a b = resK k a b := fun a b => by unfold keyRes; rw [hr]
  have hlo := hok.1
  have hhi := hok.2.1
  -- both numbers
  obtain ⟨x, hx⟩ : ∃ x, k.lo + pickI a (k.hi - k.lo + 1) = x := ⟨_, rfl⟩
  obtain ⟨y, hy⟩ : ∃ y, k.lo + pickI b (k.hi - k.lo + 1) = y := ⟨_, rfl⟩
  have px := pickI_lt a (k.hi - k.lo + 1) (by omega)
  have py := pickI_lt b (k.hi - k.lo + 1) (by omega)
  have PA := Lib.hid (fun W => show Calls Tryd.prog 25 #[.int .i64 a, .int .i64 ((k.hi : Int) - (k.lo : Int) + 1)] W (fun e w' => e = .returned (.int .i64 ((x : Int) - (k.lo : Int))) ∧ W = w') from by
    have := pick_any a (k.hi - k.lo + 1) W (by omega) (by omega)
    rwa [show ((k.hi - k.lo + 1 : Nat) : Int) = (k.hi : Int) - (k.lo : Int) + 1 by omega, show ((pickI a (k.hi - k.lo + 1) : Nat) : Int) = (x : Int) - (k.lo : Int) by omega] at this)
  have PB := Lib.hid (fun W => show Calls Tryd.prog 25 #[.int .i64 b, .int .i64 ((k.hi : Int) - (k.lo : Int) + 1)] W (fun e w' => e = .returned (.int .i64 ((y : Int) - (k.lo : Int))) ∧ W = w') from by
    have := pick_any b (k.hi - k.lo + 1) W (by omega) (by omega)
    rwa [show ((k.hi - k.lo + 1 : Nat) : Int) = (k.hi : Int) - (k.lo : Int) + 1 by omega, show ((pickI b (k.hi - k.lo + 1) : Nat) : Int) = (y : Int) - (k.lo : Int) by omega] at this)
  have hx1 : k.lo ≤ x ∧ x ≤ k.hi := by omega
  have hy1 : k.lo ≤ y ∧ y ≤ k.hi := by omega
  have f1 : fitK k (Lib.decDigits x) = 0 := fit_dec (by rcases hkd with h | h; exact .inl h.1; exact .inr (.inl h.1)) hhi hx1.1 hx1.2
  have f2 : fitK k (Lib.decDigits y) = 0 := fit_dec (by rcases hkd with h | h; exact .inl h.1; exact .inr (.inl h.1)) hhi hy1.1 hy1.2
  obtain ⟨z, hz⟩ : ∃ z : Nat, z = if k.kd = 3 then min x y else max x y := ⟨_, rfl⟩
  have hres : keyRes nm (Lib.decDigits x) (Lib.decDigits y) = (Lib.decDigits z, 0) := by
    rw [kr, resK_ok f1 f2, hz]
    rcases hkd with ⟨h, _⟩ | ⟨h, _⟩
    · rw [resOk_least _ _ h, numD_dec (by omega), numD_dec (by omega), if_pos h]
    · rw [resOk_most _ _ h, numD_dec (by omega), numD_dec (by omega), if_neg (by omega)]
  have lx : (Lib.decDigits x).length ≤ 1000 := by have := dec_lenT 12 x (Nat.lt_of_lt_of_le (show x < 1099511627776 by omega) (by decide)); omega
  have ly : (Lib.decDigits y).length ≤ 1000 := by have := dec_lenT 12 y (Nat.lt_of_lt_of_le (show y < 1099511627776 by omega) (by decide)); omega
  have R := Lib.hid (fun W (h : Below w.heap.size w W) => res_at (ev := .nilIface) W hres rfl lx ly (hE.later h))
  have NX := Lib.hid (fun W => numberT_any x x (Nat.le_refl _) (by omega) W)
  have NY := Lib.hid (fun W => numberT_any y y (Nat.le_refl _) (by omega) W)
  have NZ := Lib.hid (fun W => numberT_any z z (Nat.le_refl _) (by rw [hz]; split <;> omega) W)
  have hzz : (k.kd = 3 ∧ (nm == dt2w) = false ∧ (z : Int) = min (x : Int) (y : Int)) ∨ (k.kd = 4 ∧ (nm == dt2w) = true ∧ (z : Int) = max (x : Int) (y : Int)) := by
    rcases hkd with ⟨h, h2⟩ | ⟨h, h2⟩
    · exact .inl ⟨h, h2, by rw [hz, if_pos h]; omega⟩
    · exact .inr ⟨h, h2, by rw [hz, if_neg (by omega)]; omega⟩
  obtain ⟨X, hX⟩ : ∃ X : Int, (x : Int) = X := ⟨_, rfl⟩
  obtain ⟨Y, hY⟩ : ∃ Y : Int, (y : Int) = Y := ⟨_, rfl⟩
  obtain ⟨Z, hZ⟩ : ∃ Z : Int, (z : Int) = Z := ⟨_, rfl⟩
  obtain ⟨DX, hDX⟩ : ∃ D, Lib.decDigits x = D := ⟨_, rfl⟩
  obtain ⟨DY, hDY⟩ : ∃ D, Lib.decDigits y = D := ⟨_, rfl⟩
  obtain ⟨DZ, hDZ⟩ : ∃ D, Lib.decDigits z = D := ⟨_, rfl⟩
  rw [hX] at PA NX hzz
  rw [hY] at PB NY hzz
  rw [hZ] at NZ hzz
  rw [hDX] at NX R
  rw [hDY] at NY R
  rw [hDZ] at NZ R
  obtain ⟨kn, kd, lo, hi', df, no, lg⟩ := k
  simp only at hlo hhi PA PB hzz hx1 hy1
  have O := Lib.hid (fun W => of_row (s := nm) W hr)
  obtain ⟨L, hL⟩ : ∃ L : Int, (lo : Int) = L := ⟨_, rfl⟩
  obtain ⟨H, hH⟩ : ∃ H : Int, (hi' : Int) = H := ⟨_, rfl⟩
  rw [hL, hH] at PA PB O
  have b1 : 0 ≤ L := by omega
  have b2 : L ≤ H := by omega
  have b3 : H ≤ 16777215 := by omega
  have b4 : L ≤ X := by omega
  have b5 : X ≤ H := by omega
  have b6 : L ≤ Y := by omega
  have b7 : Y ≤ H := by omega
  have s1 : L + (X - L) = X := by omega
  have s2 : L + (Y - L) = Y := by omega
  have i0 : (0 : Int) ≤ (i : Int) := by omega
  have i7 : (i : Int) < 7 := by omega
  have Hzz := Lib.hid hzz
  clear hE hg hr hkd hok kr hlo hhi hx hy px py hx1 hy1 f1 f2 hz hres lx ly hzz hX hY hZ hDX hDY hDZ hL hH hi hnm hi7
  go_enter Tryd.func9, Tryd.ntmps9
  go_wp2_with fail
  refine Fk.out.mono ?_
  rintro e w1 ⟨rfl, hb1⟩
  have hc := hcell.out w1
  unfold btwCells at hc
  have Hb2 := Lib.hid (hb1.alloc hb1.size (.cells btwCells 9))
  unfold btwCells at Hb2
  clear hb1 hcell
  go_wp2_with fail
  refine (PK.out _).mono ?_
  rintro e w' ⟨rfl, rfl⟩
  generalize w1.alloc (.cells _ 9) = w2 at hc Hb2 ⊢
  go_wp2_with fail
  refine (O.out _).mono ?_
  rintro e w3 ⟨rfl, hb3⟩
  obtain ⟨w4, hw4⟩ : ∃ w4, w3.alloc (.cells #[.string (S kn), .int .i64 (kd : Int), .int .i64 L, .int .i64 H, .string (S df), .bool no, .bool lg] 23) = w4 := ⟨_, rfl⟩
  have Hb4 := Lib.hid (show Below w.heap.size w w4 by rw [← hw4]; exact (below_then Hb2.out hb3).alloc (below_then Hb2.out hb3).size _)
  have bK : Blk w4 w3.heap.size #[.string (S kn), .int .i64 (kd : Int), .int .i64 L, .int .i64 H, .string (S df), .bool no, .bool lg] 23 := by rw [← hw4]; exact Blk.new w3 _ _
  obtain ⟨_, _, c2, c3, _, _, _⟩ := bK.seven
  clear hb3 bK
  go_wp2_with fail
  go_quiet (first | (with_reducible exact quiet_left (PA.out _)) | (with_reducible exact quiet_left (PB.out _)))
  have Hbq := Lib.hid (below_drewN Hb4.out nq)
  clear PA PB c2 c3
  go_wp2_with fail
  refine (NX.out _).mono ?_
  rintro e w5 ⟨rfl, hb5⟩
  have Hb5 := Lib.hid (below_then Hbq.out hb5)
  clear hb5
  go_wp2_with fail
  refine (NY.out _).mono ?_
  rintro e w6 ⟨rfl, hb6⟩
  have Hb6 := Lib.hid (below_then Hb5.out hb6)
  clear hb6
  go_wp2_with fail
  refine (R.out w6 Hb6.out).mono ?_
  rintro e w7 ⟨rfl, hb7⟩
  have Hb7 := Lib.hid (below_then Hb6.out hb7)
  clear hb7 NX NY R
  have e1 : (DZ == DZ) = true := by simp
  rcases Hzz.out with ⟨_, g1, hZ⟩ | ⟨_, g1, hZ⟩
  · have hZ' : min X Y = Z := hZ.symm
    unfold dt2w at g1
    clear hZ Hzz
    go_wp2_with fail
    refine (NZ.out _).mono ?_
    rintro e w8 ⟨rfl, hb8⟩
    have Hb8 := Lib.hid (below_then Hb7.out hb8)
    clear hb8
    go_wp2_with fail
    go_ret
    exact ⟨rfl, Hb8.out⟩
  · have hZ' : max X Y = Z := hZ.symm
    unfold dt2w at g1
    clear hZ Hzz
    go_wp2_with fail
    refine (NZ.out _).mono ?_
    rintro e w8 ⟨rfl, hb8⟩
    have Hb8 := Lib.hid (below_then Hb7.out hb8)
    clear hb8
    go_wp2_with fail
    go_ret
    exact ⟨rfl, Hb8.out⟩
end Go.Proofs.YtbllnelnajfjgaaDoor
