/- KeysYes: of And it is Yes if both say so, of Or if one does. -/
import Derived.Test.YtbllnelnajfjgaaDoorKeyed
import Derived.Test.YtbllnelnajfjgaaDoorPick
import Derived.Deep.RegionHeld3
namespace Go.Proofs.YtbllnelnajfjgaaDoor
open Go.RowKit
set_option linter.unusedVariables false
theorem word_any (b : Bool) (w : World) : Calls Tryd.prog 27 #[.bool b] w fun e w' => e = .returned (.string (S (yesNo b))) ∧ w = w' := by
  cases b with
  | true =>
    go_enter Tryd.func27, Tryd.ntmps27
    go_wp2_with fail
    go_ret
    exact ⟨rfl, rfl⟩
  | false =>
    go_enter Tryd.func27, Tryd.ntmps27
    go_wp2_with fail
    go_ret
    exact ⟨rfl, rfl⟩
def yesNm : List (List UInt8) := [[73, 109, 109, 101, 100, 105, 97, 116, 101, 68, 97, 116, 97], [73, 110, 105, 116, 105, 97, 108, 82, 50, 84], [68, 97, 116, 97, 80, 68, 85, 73, 110, 79, 114, 100, 101, 114], [68, 97, 116, 97, 83, 101, 113, 117, 101, 110, 99, 101, 73, 110, 79, 114, 100, 101, 114]]
theorem yes_res0 (a b : Bool) : keyRes (yesNm.getD 0 []) (yesNo a) (yesNo b) = (yesNo (a && b), 0) := by cases a <;> cases b <;> rfl
theorem yes_res (i : Nat) (hi : i < 4) (h0 : i ≠ 0) (a b : Bool) : keyRes (yesNm.getD i []) (yesNo a) (yesNo b) = (yesNo (a || b), 0) := by
  have h : i = 1 ∨ i = 2 ∨ i = 3 := by omega
  rcases h with rfl | rfl | rfl <;> cases a <;> cases b <;> rfl
theorem keepC {W0 W1 W2 : World} {b i : Nat} {v : Value} (h : Below W0.heap.size W0 W1 ∧ W1.cell? ⟨b, i, none⟩ = some v) (hb : Below W1.heap.size W1 W2) : Below W0.heap.size W0 W2 ∧ W2.cell? ⟨b, i, none⟩ = some v :=
  ⟨below_then h.1 hb, by rw [(bcell hb).1 b i (block_lt_of_cell (w := W1) (a := ⟨b, i, none⟩) h.2)]; exact h.2⟩
theorem yesNo_len (b : Bool) : (yesNo b).length ≤ 1000 := by cases b <;> decide
set_option maxRecDepth 100000 in
set_option maxHeartbeats 2000000 in
theorem keysYes_any (which : Int) (a b : Bool) (w : World) (hw : (Lit.int .i64 which).wf = true) (hE : Env w) (hg : ErrCell w) :
    Calls Tryd.prog 10 #[.int .i64 which, .bool a, .bool b] w fun e w' => e = .returned (.bool true) ∧ Below w.heap.size w w' := by
  have Fk := Lib.hid (keyed_any w hE hg)
  have PK := Lib.hid (fun W => pick_any which 4 W (by decide) (by decide))
  have hi4 := pickI_lt which 4 (by decide)
  obtain ⟨i, hi⟩ : ∃ i, pickI which 4 = i := ⟨_, rfl⟩
  rw [hi] at PK hi4
  obtain ⟨nm, hnm⟩ : ∃ nm, yesNm.getD i [] = nm := ⟨_, rfl⟩
  have wa := Lib.hid (fun W => word_any a W)
  have wb := Lib.hid (fun W => word_any b W)
  have Ry : ∃ r : List UInt8, keyRes nm (yesNo a) (yesNo b) = (r, 0) ∧ r = yesNo (if i = 0 then (a && b) else (a || b)) := by
    rw [← hnm]
    by_cases h0 : i = 0
    · subst h0; exact ⟨_, yes_res0 a b, by simp⟩
    · exact ⟨_, yes_res i hi4 h0 a b, by simp [h0]⟩
  obtain ⟨r, hr, hre⟩ := Ry
  have R := Lib.hid (fun W (h : Below w.heap.size w W) => res_at (ev := .nilIface) W hr rfl (yesNo_len a) (yesNo_len b) (hE.later h))
  have Hcell := Lib.hid (fun (w1 : World) => show (w1.alloc (.cells #[.string (S [73, 109, 109, 101, 100, 105, 97, 116, 101, 68, 97, 116, 97]), .string (S [73, 110, 105, 116, 105, 97, 108, 82, 50, 84]), .string (S [68, 97, 116, 97, 80, 68, 85, 73, 110, 79, 114, 100, 101, 114]), .string (S [68, 97, 116, 97, 83, 101, 113, 117, 101, 110, 99, 101, 73, 110, 79, 114, 100, 101, 114])] 9)).cell? ⟨w1.heap.size, i, none⟩ = some (.string (S nm)) from by
    rw [← hnm, (Blk.new w1 _ 9).cell i]
    have h : i = 0 ∨ i = 1 ∨ i = 2 ∨ i = 3 := by omega
    rcases h with rfl | rfl | rfl | rfl <;> rfl)
  have WT := Lib.hid (fun c W => word_any c W)
  have Hre := Lib.hid hre
  have i0 : (0 : Int) ≤ (i : Int) := by omega
  have i4 : (i : Int) < 4 := by omega
  have hc0 : i = 0 ∨ ((i : Int) == 0) = false := by
    by_cases h : i = 0
    · exact .inl h
    · exact .inr (by rw [beq_eq_false_iff_ne]; omega)
  clear hE hg hr hre hi hnm hi4
  go_enter Tryd.func10, Tryd.ntmps10
  go_wp2_with fail
  refine Fk.out.mono ?_
  rintro e w1 ⟨rfl, hb1⟩
  have hc := Hcell.out w1
  obtain ⟨w2, hw2⟩ : ∃ w2, w1.alloc (.cells #[.string (S [73, 109, 109, 101, 100, 105, 97, 116, 101, 68, 97, 116, 97]), .string (S [73, 110, 105, 116, 105, 97, 108, 82, 50, 84]), .string (S [68, 97, 116, 97, 80, 68, 85, 73, 110, 79, 114, 100, 101, 114]), .string (S [68, 97, 116, 97, 83, 101, 113, 117, 101, 110, 99, 101, 73, 110, 79, 114, 100, 101, 114])] 9) = w2 := ⟨_, rfl⟩
  have Hb2 := Lib.hid (show Below w.heap.size w w2 by rw [← hw2]; exact hb1.alloc hb1.size _)
  rw [hw2] at hc
  have RR := Lib.hid (fun W (h : Below w2.heap.size w2 W) => R.out W (below_then Hb2.out h))
  clear hb1 Hcell
  go_wp2_with fail
  refine (PK.out _).mono ?_
  rintro e w' ⟨rfl, rfl⟩
  go_wp2_with fail
  go_region_held3 (fun w' => Below w2.heap.size w2 w' ∧ w'.cell? ⟨w1.heap.size, i, none⟩ = some (.string (S nm)))
    (first | assumption | exact ⟨Below.refl _ _, hc⟩ | exact ⟨(Below.refl _ _).drew, hc⟩ | exact keepC (by assumption) hb')
    (first | ((with_reducible refine (RR.out _ (by first | assumption | exact (‹Below w2.heap.size w2 _ ∧ _›).1)).mono ?_); rintro e w' ⟨rfl, hb'⟩) | ((with_reducible refine (wa.out _).mono ?_); rintro e w' ⟨rfl, rfl⟩) | ((with_reducible refine (wb.out _).mono ?_); rintro e w' ⟨rfl, rfl⟩))
  all_goals
    have HF := Lib.hid (below_then Hb2.out (‹Below w2.heap.size w2 w' ∧ _›).1)
    have hr' := Hre.out
    clear Hre R RR hb' Fk PK wa wb hw2 hc
    rcases hc0 with rfl | h0
    · rw [if_pos rfl] at hr'
      cases a with
      | true =>
        rw [Bool.true_and] at hr'
        subst hr'
        go_wp2_with fail
        refine (WT.out _ _).mono ?_
        rintro e w9 ⟨rfl, rfl⟩
        have e1 : ∀ c, (yesNo c == yesNo c) = true := fun c => by simp
        go_wp2_with fail
        go_ret
        exact ⟨rfl, HF.out⟩
      | false =>
        rw [Bool.false_and] at hr'
        subst hr'
        go_wp2_with fail
        refine (WT.out _ _).mono ?_
        rintro e w9 ⟨rfl, rfl⟩
        have e1 : ∀ c, (yesNo c == yesNo c) = true := fun c => by simp
        go_wp2_with fail
        go_ret
        exact ⟨rfl, HF.out⟩
    · rw [if_neg (by rintro rfl; simp at h0)] at hr'
      cases a with
      | true =>
        rw [Bool.true_or] at hr'
        subst hr'
        go_wp2_with fail
        refine (WT.out _ _).mono ?_
        rintro e w9 ⟨rfl, rfl⟩
        have e1 : ∀ c, (yesNo c == yesNo c) = true := fun c => by simp
        go_wp2_with fail
        go_ret
        exact ⟨rfl, HF.out⟩
      | false =>
        rw [Bool.false_or] at hr'
        subst hr'
        go_wp2_with fail
        refine (WT.out _ _).mono ?_
        rintro e w9 ⟨rfl, rfl⟩
        have e1 : ∀ c, (yesNo c == yesNo c) = true := fun c => by simp
        go_wp2_with fail
        go_ret
        exact ⟨rfl, HF.out⟩
end Go.Proofs.YtbllnelnajfjgaaDoor
