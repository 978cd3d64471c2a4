/- quaymasterkeep.number: a number as text. -/
import Derived.Test.YtbllnelnajfjgaaGreatDoorRows
import Derived.Test.YtbllnelnajfjgaaGreatDoorKeyMath2
import Derived.BigRegion
namespace Go.Proofs.YtbllnelnajfjgaaGreatDoor
open Go.RowKit
set_option linter.unusedVariables false
theorem run_dig (w : World) (n : Nat) (hn : n < 10) : (convert 76 9 (.slice (some ⟨w.heap.size, 0, none⟩) 1 1)).run Tryz.prog (w.alloc (.cells #[.int .u8 (48 + (n : Int))] 5)) = .ok (.string (S [UInt8.ofNat (48 + n)])) (w.alloc (.cells #[.int .u8 (48 + (n : Int))] 5)) := by
  have h := run_string_cells8 (P := Tryz.prog) 76 9 5 Tryz.underlying76 Tryz.underlying5 Tryz.underlying9 w [UInt8.ofNat (48 + n)] 1 1 5 (by simp)
  have e1 : cells8 [UInt8.ofNat (48 + n)] = #[.int .u8 (48 + (n : Int))] := by
    unfold cells8
    have : (UInt8.ofNat (48 + n)).toNat = 48 + n := by rw [UInt8.toNat_ofNat']; omega
    simp only [List.map_cons, List.map_nil, this]
    rfl
  rw [e1] at h
  exact h
theorem dec_lenT : ∀ (k n : Nat), n < 10 ^ (k + 1) → (Lib.decDigits n).length ≤ k + 1 := by
  intro k
  induction k with
  | zero => intro n hn; rw [Lib.decDigits_one (by simpa using hn)]; simp
  | succ k ih =>
    intro n hn
    by_cases h : n < 10
    · rw [Lib.decDigits_one h]; simp
    · rw [dec_step h, List.length_append, List.length_singleton]
      have := ih (n / 10) (by
        rw [Nat.pow_succ] at hn
        omega)
      omega
set_option maxRecDepth 100000 in
theorem numberT_one (n : Nat) (h : n < 10) (w : World) : Calls Tryz.prog 19 #[.int .i64 (n : Int)] w fun e w' => e = .returned (.string (S (Lib.decDigits n))) ∧ Below w.heap.size w w' := by
  rw [Lib.decDigits_one h]
  have hr := run_dig w n h
  obtain ⟨c, hc⟩ : ∃ c, UInt8.ofNat (48 + n) = c := ⟨_, rfl⟩
  rw [hc] at hr ⊢
  have h9 : (n : Int) ≤ 9 := by omega
  have h0 : (0 : Int) ≤ (n : Int) := by omega
  clear hc
  go_enter Tryz.func19, Tryz.ntmps19
  go_wp2_with fail
  go_ret
  exact ⟨rfl, (Below.refl _ _).alloc (Nat.le_refl _) _⟩
set_option maxRecDepth 100000 in
theorem numberT_any : ∀ (f n : Nat), n ≤ f → n < 1099511627776 → ∀ (w : World), Calls Tryz.prog 19 #[.int .i64 (n : Int)] w fun e w' => e = .returned (.string (S (Lib.decDigits n))) ∧ Below w.heap.size w w' := by
  intro f
  induction f with
  | zero =>
    intro n hf hn w
    exact numberT_one n (by omega) w
  | succ f ih =>
    intro n hf hn w
    by_cases h : n < 10
    · exact numberT_one n h w
    · have hd := dec_step h
      rw [show [UInt8.ofNat (48 + n % 10)] = Lib.decDigits (n % 10) from (Lib.decDigits_one (by omega)).symm] at hd
      have hl1 : (Lib.decDigits (n / 10)).length ≤ 1000 := by
        have := dec_lenT 12 (n / 10) (Nat.lt_of_lt_of_le (show n / 10 < 1099511627776 by omega) (by decide))
        omega
      have hl2 : (Lib.decDigits (n % 10)).length = 1 := by rw [Lib.decDigits_one (by omega)]; rfl
      rw [hd]
      obtain ⟨A, hA⟩ : ∃ A, Lib.decDigits (n / 10) = A := ⟨_, rfl⟩
      obtain ⟨B, hB⟩ : ∃ B, Lib.decDigits (n % 10) = B := ⟨_, rfl⟩
      have N1 := Lib.hid (fun W => show Calls Tryz.prog 19 #[.int .i64 ((n : Int) / 10)] W (fun e w' => e = .returned (.string (S A)) ∧ Below W.heap.size W w') from by
        have := ih (n / 10) (by omega) (by omega) W
        rw [hA, Int.natCast_ediv] at this
        exact this)
      have N2 := Lib.hid (fun W => show Calls Tryz.prog 19 #[.int .i64 ((n : Int) % 10)] W (fun e w' => e = .returned (.string (S B)) ∧ Below W.heap.size W w') from by
        have := ih (n % 10) (by omega) (by omega) W
        rw [hB, Int.natCast_emod] at this
        exact this)
      rw [hA] at hl1 ⊢
      rw [hB] at hl2 ⊢
      have h9 : (9 : Int) < (n : Int) := by omega
      have h0 : (0 : Int) ≤ (n : Int) := by omega
      have hsum : ¬ 9223372036854775807 < A.length + B.length := by omega
      have t1 : (n : Int).tdiv 10 = (n : Int) / 10 := Int.tdiv_eq_ediv_of_nonneg h0
      have t2 : (n : Int).tmod 10 = (n : Int) % 10 := Int.tmod_eq_emod_of_nonneg h0
      have t3 : wrap64 ((n : Int) / 10) = (n : Int) / 10 := IntWalk.wrap64_in _ ⟨by omega, by omega⟩
      have t4 : wrap64 ((n : Int) % 10) = (n : Int) % 10 := IntWalk.wrap64_in _ ⟨by omega, by omega⟩
      clear ih hf hn hd hA hB h
      go_enter Tryz.func19, Tryz.ntmps19
      go_wp2_with fail
      refine (N1.out _).mono ?_
      rintro e w1 ⟨rfl, hb1⟩
      have Hb1 := Lib.hid hb1
      clear hb1
      go_wp2_with fail
      refine (N2.out _).mono ?_
      rintro e w2 ⟨rfl, hb2⟩
      have Hb2 := Lib.hid (below_then Hb1.out hb2)
      clear hb2
      go_wp2_with fail
      go_ret
      exact ⟨rfl, Hb2.out⟩
end Go.Proofs.YtbllnelnajfjgaaGreatDoor
