/- target.named, enter, Has. -/
import Derived.Test.YtlcadichpcdgpaaGreatDoorGO
import Derived.Test.YtlcadichpcdgpaaGreatDoorGI
import Derived.Test.YtlcadichpcdgpaaGreatDoorGE
import Derived.Test.YtlcadichpcdgpaaGreatDoorGA
namespace Go.Proofs.YtlcadichpcdgpaaGreatDoor
open Go.RowKit Go.Maps
set_option linter.unusedVariables false
theorem named_any (s : List UInt8) (w : World) (hl : s.length ≤ 140737488355328) : Calls Tryz.prog 34 #[.string (S s)] w fun e w' => e = .returned (.bool (nameOk s)) ∧ w = w' := by
  by_cases h0 : s = []
  · subst h0
    go_enter Tryz.func34, Tryz.ntmps34
    go_wp2_with fail
    go_ret
    exact ⟨rfl, rfl⟩
  have h1 : 1 ≤ s.length := List.length_pos_iff.2 h0
  have hemp : s.isEmpty = false := by cases s with | nil => exact absurd rfl h0 | cons _ _ => rfl
  by_cases h2 : 100 < s.length
  · have hN : nameOk s = false := by unfold nameOk; rw [decide_eq_false (by omega), Bool.false_and]
    rw [hN]
    have h2i : (100 : Int) < (s.length : Int) := by omega
    go_enter Tryz.func34, Tryz.ntmps34
    go_wp2_with fail
    go_ret
    exact ⟨rfl, rfl⟩
  · have hN : nameOk s = isVal s := by unfold nameOk; rw [decide_eq_true ⟨h1, by omega⟩, Bool.true_and]
    rw [hN]
    have V := Lib.hid (fun W => value_any2 s W hl)
    have h2i : ¬ (100 : Int) < (s.length : Int) := by omega
    generalize isVal s = b at V
    clear hN
    go_enter Tryz.func34, Tryz.ntmps34
    go_wp2_with fail
    refine (V.out _).mono ?_
    rintro e w' ⟨rfl, rfl⟩
    go_wp2_with fail
    go_ret
    exact ⟨rfl, rfl⟩
/-- a name was put among those that are there, or may not be, or stood there already -/
def RetEnter (s : List UInt8) (mb n : Nat) (f : Lit → Prop) (w : World) (e : Ending) (w' : World) : Prop :=
  (¬ (nameOk s = false ∨ f (.string s)) ∧ e = .returned (.bool true) ∧ BMap 9 w' mb (n + 1) (fun x => x = .string s ∨ f x) ∧ w.grownBy w' (some mb)) ∨ ((nameOk s = false ∨ f (.string s)) ∧ e = .returned (.bool false) ∧ w = w')
theorem enter_any (s : List UInt8) (mb n : Nat) (f : Lit → Prop) (w : World) (hm : BMap 9 w mb n f) (hn : n < 1000000) (hl : s.length ≤ 140737488355328) :
    Calls Tryz.prog 45 #[.map (some mb), .string (S s)] w (RetEnter s mb n f w) := by
  have N := Lib.hid (named_any s w hl)
  obtain ⟨R, hR⟩ : ∃ R, RetEnter s mb n f w = R := ⟨_, rfl⟩
  have HR := Lib.hid hR
  rw [hR]
  cases hq : nameOk s with
  | false =>
    rw [hq] at N
    clear hR hm
    go_enter Tryz.func45, Tryz.ntmps45
    go_wp2_with fail
    refine N.out.mono ?_
    rintro e w' ⟨rfl, rfl⟩
    go_wp2_with fail
    rw [← HR.out]
    exact .inr ⟨.inl hq, rfl, rfl⟩
  | true =>
    rw [hq] at N
    have hk := keyS s (by have := (nameOk_is hq).2.1; omega)
    by_cases hf : f (.string s)
    · have L := (hm.look keyedS Tryz.underlying89 hk).1 hf
      clear hR hm hk
      go_enter Tryz.func45, Tryz.ntmps45
      go_wp2_with fail
      refine N.out.mono ?_
      rintro e w' ⟨rfl, rfl⟩
      go_wp2_with fail
      rw [← HR.out]
      exact .inr ⟨.inr hf, rfl, rfl⟩
    · have L := (hm.look keyedS Tryz.underlying89 hk).2 hf
      obtain ⟨w1, hr1, hm1, hg1⟩ := hm.put keyedS Tryz.underlying89 hn hk trivial
      have HM1 := Lib.hid hm1
      have Hg1 := Lib.hid hg1
      clear hR hm hk hm1 hg1
      go_enter Tryz.func45, Tryz.ntmps45
      go_wp2_with fail
      refine N.out.mono ?_
      rintro e w' ⟨rfl, rfl⟩
      go_wp2_with fail
      rw [← HR.out]
      exact .inl ⟨by rintro (h | h); (rw [hq] at h; cases h); exact hf h, rfl, HM1.out, Hg1.out⟩
set_option maxRecDepth 100000 in
theorem thas_any (c : Cf) (vt vp vu vo : Value) (name : List UInt8) (w : World) (hv : StrV w vt c.ts) (hl : c.ts.length ≤ 140737488355328) :
    Calls Tryz.prog 12 #[confV c vt vp vu vo, .string (S name)] w fun e w' => e = .returned (.bool (hasT c.ts name)) ∧ Below w.heap.size w w' := by
  obtain ⟨ts, ps, us, sn, ss, lim, own⟩ := c
  simp only at hv hl ⊢
  have hA := (Below.refl w.heap.size w).alloc (Nat.le_refl _) (.cells #[vt, vp, vu, .string (S sn), .string (S ss), .int .i64 lim, vo] 29)
  obtain ⟨k0, k1, k2, k3, k4, k5, k6⟩ := (Blk.new w #[vt, vp, vu, .string (S sn), .string (S ss), .int .i64 lim, vo] 29).seven
  have C := Lib.hid (containsS_any ts vt name _ (hv.later hA) hl)
  have HA := Lib.hid hA
  clear hv hA
  unfold confV
  simp only
  go_enter Tryz.func12, Tryz.ntmps12
  go_wp2_with fail
  refine C.out.mono ?_
  rintro e w' ⟨rfl, rfl⟩
  go_wp2_with fail
  go_ret
  exact ⟨rfl, HA.out⟩
end Go.Proofs.YtlcadichpcdgpaaGreatDoor
