/- KeysAgain: what comes of it fits, and comes of itself, and of itself and either. -/
import Derived.Test.YtbllnelnajfjgaaDoorKeyed
namespace Go.Proofs.YtbllnelnajfjgaaDoor
open Go.RowKit
set_option linter.unusedVariables false
theorem dec_len : ∀ (k n : Nat), n < 10 ^ (k + 1) → (Lib.decDigits n).length ≤ k + 1 := by
  intro k
  induction k with
  | zero => intro n hn; rw [Lib.decDigits_one (by simpa using hn)]; simp
  | succ k ih =>
    intro n hn
    by_cases h : n < 10
    · rw [Lib.decDigits_one h]; simp
    · rw [dec_step h, List.length_append, List.length_singleton]
      have := ih (n / 10) (by
        rw [Nat.pow_succ] at hn
        omega)
      omega
theorem resOk_len {k : Ke} {a b : List UInt8} (ha : a.length ≤ 1000) (hna : numD a < 1099511627776) (hnb : numD b < 1099511627776) : (resOk k a b).1.length ≤ 1000 := by
  have hd : ∀ n, n < 1099511627776 → (Lib.decDigits n).length ≤ 1000 := fun n hn => by
    have := dec_len 12 n (Nat.lt_of_lt_of_le hn (by decide))
    omega
  have hy : ∀ c, (yesNo c).length ≤ 1000 := fun c => by cases c <;> decide
  unfold resOk
  split
  · exact hy _
  · split
    · exact hy _
    · split
      · exact hd _ (by omega)
      · split
        · exact hd _ (by omega)
        · split
          · cases hf : firstR a b with
            | none => simp
            | some x =>
              have := (firstR_some hf).1
              have h2 := (split1_sum 44 a.length a (Nat.le_refl _)).1 x this
              simp only
              omega
          · exact ha
theorem numD_lt (s : List UInt8) : numD s < 1099511627776 := by
  unfold numD
  cases h : numR s with
  | none => simp
  | some n => exact numR_lt h
theorem resK_len {k : Ke} {a b : List UInt8} (ha : a.length ≤ 1000) : (resK k a b).1.length ≤ 1000 := by
  unfold resK
  split
  · simp
  · split
    · simp
    · exact resOk_len ha (numD_lt a) (numD_lt b)
set_option maxRecDepth 100000 in
set_option maxHeartbeats 2000000 in
theorem keysAgain_any (nm a b : List UInt8) (w : World) (h0 : nm.length ≤ 140737488351232) (h1 : a.length ≤ 140737488351232) (h2 : b.length ≤ 140737488351232) (hE : Env w) (hg : ErrCell w) :
    Calls Tryd.prog 6 #[.string (S nm), .string (S a), .string (S b)] w fun e w' => e = .returned (.bool true) ∧ Below w.heap.size w w' := by
  have Fk := Lib.hid (keyed_any w hE hg)
  by_cases hbig : 300 < nm.length + a.length + b.length
  · have hbig' : (300 : Int) < (nm.length : Int) + (a.length : Int) + (b.length : Int) := by omega
    clear hE hg
    go_enter Tryd.func6, Tryd.ntmps6
    go_wp2_with fail
    refine Fk.out.mono ?_
    rintro e w1 ⟨rfl, hb1⟩
    have Hb1 := Lib.hid hb1
    clear hb1
    go_wp2_with fail
    go_ret
    exact ⟨rfl, Hb1.out⟩
  have hbig' : (nm.length : Int) + (a.length : Int) + (b.length : Int) ≤ 300 := by omega
  have la : a.length ≤ 1000 := by omega
  have lb : b.length ≤ 1000 := by omega
  obtain ⟨x, n, hxn⟩ : ∃ x n, keyRes nm a b = (x, n) := ⟨_, _, rfl⟩
  by_cases hn : n = 0
  · subst hn
    obtain ⟨k, hr⟩ : ∃ k, rowOf nm = some k := by
      cases hr : rowOf nm with
      | none => unfold keyRes at hxn; rw [hr] at hxn; simp at hxn
      | some k => exact ⟨k, rfl⟩
    have kr : ∀ a b, keyRes nm a b = resK k a b := fun a b => by unfold keyRes; rw [hr]
    have hok := rowOf_ok hr
    have hx : resK k a b = (x, 0) := (kr a b).symm.trans hxn
    have hag := resK_again (a := a) (b := b) ⟨hok.2.2.1, hok.2.2.2.1⟩ hok.2.1 (by rw [hx])
    rw [hx] at hag
    obtain ⟨g1, g2, g3⟩ := hag
    have lx : x.length ≤ 1000 := by have := resK_len (k := k) (b := b) la; rw [hx] at this; exact this
    have kf : keyFits nm x = 0 := by unfold keyFits; rw [hr]; exact g1
    have R1 := Lib.hid (fun W (h : Below w.heap.size w W) => res_at (ev := .nilIface) W hxn rfl la lb (hE.later h))
    have R2 := Lib.hid (fun W (h : Below w.heap.size w W) => res_at (ev := .nilIface) W ((kr x x).trans g2) rfl lx lx (hE.later h))
    have R3 := Lib.hid (fun W (h : Below w.heap.size w W) => res_at (ev := .nilIface) W ((kr x b).trans g3) rfl lx lb (hE.later h))
    have FI := Lib.hid (fun W (h : Below w.heap.size w W) => fits_at (ev := .nilIface) W kf rfl lx (hE.later h))
    have e1 : (x == x) = true := by simp
    clear hE hg hbig hxn hr kr hok hx g1 g2 g3 kf
    go_enter Tryd.func6, Tryd.ntmps6
    go_wp2_with fail
    refine Fk.out.mono ?_
    rintro e w1 ⟨rfl, hb1⟩
    have Hb1 := Lib.hid hb1
    clear hb1
    go_wp2_with fail
    refine (R1.out w1 Hb1.out).mono ?_
    rintro e w2 ⟨rfl, hb2⟩
    have Hb2 := Lib.hid (below_then Hb1.out hb2)
    clear hb2
    go_wp2_with fail
    refine (R2.out w2 Hb2.out).mono ?_
    rintro e w3 ⟨rfl, hb3⟩
    have Hb3 := Lib.hid (below_then Hb2.out hb3)
    clear hb3
    go_wp2_with fail
    refine (R3.out w3 Hb3.out).mono ?_
    rintro e w4 ⟨rfl, hb4⟩
    have Hb4 := Lib.hid (below_then Hb3.out hb4)
    clear hb4
    go_wp2_with fail
    refine (FI.out w4 Hb4.out).mono ?_
    rintro e w5 ⟨rfl, hb5⟩
    have Hb5 := Lib.hid (below_then Hb4.out hb5)
    clear hb5
    go_wp2_with fail
    go_ret
    exact ⟨rfl, Hb5.out⟩
  · have hx : x = [] := by
      unfold keyRes at hxn
      cases hr : rowOf nm with
      | none => rw [hr] at hxn; simp at hxn; exact hxn.1
      | some k =>
        rw [hr] at hxn
        simp only at hxn
        have := resK_bad (k := k) (a := a) (b := b) (by rw [hxn]; exact hn)
        rw [hxn] at this
        exact this
    subst hx
    have R1 := Lib.hid (fun W (h : Below w.heap.size w W) => res_at W hxn (errV_ne hn) la lb (hE.later h))
    clear hE hg hbig hxn hn
    go_enter Tryd.func6, Tryd.ntmps6
    go_wp2_with fail
    refine Fk.out.mono ?_
    rintro e w1 ⟨rfl, hb1⟩
    have Hb1 := Lib.hid hb1
    clear hb1
    go_wp2_with fail
    refine (R1.out w1 Hb1.out).mono ?_
    rintro e w2 ⟨rfl, hb2⟩
    have Hb2 := Lib.hid (below_then Hb1.out hb2)
    clear hb2
    go_wp2_with fail
    go_ret
    exact ⟨rfl, Hb2.out⟩
end Go.Proofs.YtbllnelnajfjgaaDoor
