/- KeysFirst: of two lists it is the first of the offer that both have. -/
import Derived.Test.YtbllnelnajfjgaaDoorKeyed
import Derived.Test.YtbllnelnajfjgaaDoorContS
namespace Go.Proofs.YtbllnelnajfjgaaDoor
open Go.RowKit
set_option linter.unusedVariables false
def nmDD : List UInt8 := [68, 97, 116, 97, 68, 105, 103, 101, 115, 116]
theorem row_DD : rowOf [68, 97, 116, 97, 68, 105, 103, 101, 115, 116] = some ke1 := rowOf_each 1 (by decide)
theorem res_DD (a b : List UInt8) : keyRes [68, 97, 116, 97, 68, 105, 103, 101, 115, 116] a b = resK ke1 a b := by unfold keyRes; rw [row_DD]
theorem listR_no {s : List UInt8} (h : listR s = none) : fitK ke1 s = 3 := by rw [fitK_list rfl, h]
theorem listR_yes {s : List UInt8} {l : List (List UInt8)} (h : listR s = some l) : fitK ke1 s = 0 ∧ l = split1 44 s := by
  refine ⟨by rw [fitK_list rfl, h], ?_⟩
  unfold listR at h
  split at h
  · cases h; rfl
  · cases h
set_option maxRecDepth 100000 in
set_option maxHeartbeats 2000000 in
theorem keysFirst_any (a b : List UInt8) (w : World) (h1 : a.length ≤ 140737488351232) (h2 : b.length ≤ 140737488351232) (hE : Env w) (hg : ErrCell w) :
    Calls Tryd.prog 7 #[.string (S a), .string (S b)] w fun e w' => e = .returned (.bool true) ∧ Below w.heap.size w w' := by
  have Fk := Lib.hid (keyed_any w hE hg)
  by_cases hbig : 300 < a.length + b.length
  · have hbig' : (300 : Int) < (a.length : Int) + (b.length : Int) := by omega
    clear hE hg
    go_enter Tryd.func7, Tryd.ntmps7
    go_wp2_with fail
    refine Fk.out.mono ?_
    rintro e w1 ⟨rfl, hb1⟩
    have Hb1 := Lib.hid hb1
    clear hb1
    go_wp2_with fail
    go_ret
    exact ⟨rfl, Hb1.out⟩
  have hbig' : (a.length : Int) + (b.length : Int) ≤ 300 := by omega
  have la : a.length ≤ 1000 := by omega
  have lb : b.length ≤ 1000 := by omega
  have LA := Lib.hid (fun W (h : Below w.heap.size w W) => list_any a W la (hE.later h).mc)
  have LB := Lib.hid (fun W (h : Below w.heap.size w W) => list_any b W lb (hE.later h).mc)
  have HE := Lib.hid hE
  have HG := Lib.hid hg
  have hsa := Lib.hid (split1_sum 44 a.length a (Nat.le_refl _))
  have hsb := Lib.hid (split1_sum 44 b.length b (Nat.le_refl _))
  have bad : ∀ (_ : keyRes [68, 97, 116, 97, 68, 105, 103, 101, 115, 116] a b = ([], 3)) (_ : listN (listR a) ≠ 0 ∨ listN (listR b) ≠ 0), Calls Tryd.prog 7 #[.string (S a), .string (S b)] w fun e w' => e = .returned (.bool true) ∧ Below w.heap.size w w' := by
    intro hr hh
    have R := Lib.hid (fun W (h : Below w.heap.size w W) => res_at (ev := .iface 24 (.int .i64 3)) W hr rfl la lb (HE.out.later h))
    have T := Lib.hid (fun W (h : Below w.heap.size w W) => tell_err 3 W (HG.out.later h))
    have Hh := Lib.hid (show (∃ t y, errV (listN (listR a)) = .iface t y) ∨ (errV (listN (listR a)) = .nilIface ∧ ∃ t y, errV (listN (listR b)) = .iface t y) from by
      cases h1 : listR a with
      | none => exact .inl ⟨_, _, rfl⟩
      | some l =>
        refine .inr ⟨rfl, ?_⟩
        rw [h1] at hh
        cases h2 : listR b with
        | none => exact ⟨_, _, rfl⟩
        | some m => rw [h2] at hh; rcases hh with h | h <;> exact absurd rfl h)
    unfold RetLE1 at LA LB
    obtain ⟨ea, hea⟩ : ∃ ea, errV (listN (listR a)) = ea := ⟨_, rfl⟩
    obtain ⟨eb, heb⟩ : ∃ eb, errV (listN (listR b)) = eb := ⟨_, rfl⟩
    rw [hea, heb] at Hh
    rw [hea] at LA
    rw [heb] at LB
    clear hE hg hbig hr hh hea heb
    go_enter Tryd.func7, Tryd.ntmps7
    go_wp2_with fail
    refine Fk.out.mono ?_
    rintro e w1 ⟨rfl, hb1⟩
    have Hb1 := Lib.hid hb1
    clear hb1
    go_wp2_with fail
    refine (LA.out w1 Hb1.out).mono ?_
    rintro e w2 ⟨va, rfl, _, hb2⟩
    have Hb2 := Lib.hid (below_then Hb1.out hb2)
    clear hb2
    go_wp2_with fail
    refine (LB.out w2 Hb2.out).mono ?_
    rintro e w3 ⟨vb, rfl, _, hb3⟩
    have Hb3 := Lib.hid (below_then Hb2.out hb3)
    clear hb3
    go_wp2_with fail
    refine (R.out w3 Hb3.out).mono ?_
    rintro e w4 ⟨rfl, hb4⟩
    have Hb4 := Lib.hid (below_then Hb3.out hb4)
    clear hb4
    rcases Hh.out with ⟨t, y, rfl⟩ | ⟨rfl, t, y, rfl⟩
    all_goals
      go_wp2_with fail
      refine (T.out w4 Hb4.out).mono ?_
      rintro e w5 ⟨rfl, hb5⟩
      have Hb5 := Lib.hid (below_then Hb4.out hb5)
      clear hb5
      go_wp2_with fail
      go_ret
      exact ⟨rfl, Hb5.out⟩
  cases ha : listR a with
  | none =>
    refine bad ?_ (.inl (by rw [ha]; decide))
    rw [res_DD, resK_off (by rw [listR_no ha]; decide), listR_no ha]
  | some l =>
    obtain ⟨fa, rfl⟩ := listR_yes ha
    cases hb : listR b with
    | none =>
      refine bad ?_ (.inr (by rw [hb]; decide))
      rw [res_DD, resK_own fa (by rw [listR_no hb]; decide), listR_no hb]
    | some m =>
      obtain ⟨fb, rfl⟩ := listR_yes hb
      have hr : keyRes [68, 97, 116, 97, 68, 105, 103, 101, 115, 116] a b = firstN (firstR a b) := by
        rw [res_DD, resK_ok fa fb, resOk_first _ _ rfl]
        cases firstR a b <;> rfl
      obtain ⟨x, ev, hx⟩ : ∃ (x : List UInt8) (ev : Value), (firstR a b = some x ∧ ev = .nilIface) ∨ (firstR a b = none ∧ x = [] ∧ ev = .iface 24 (.int .i64 8)) := by
        cases hf : firstR a b with
        | none => exact ⟨[], _, .inr ⟨rfl, rfl, rfl⟩⟩
        | some x => exact ⟨x, _, .inl ⟨rfl, rfl⟩⟩
      have R := Lib.hid (fun W (h : Below w.heap.size w W) => show Calls Tryd.prog 18 #[.string (S [68, 97, 116, 97, 68, 105, 103, 101, 115, 116]), .string (S a), .string (S b)] W (fun e w' => e = .returned (.tuple #[.string (S x), ev]) ∧ Below W.heap.size W w') from by
        rcases hx with ⟨h1, rfl⟩ | ⟨h1, rfl, rfl⟩
        · exact res_at (n := 0) W (by rw [hr, h1]; rfl) rfl la lb (HE.out.later h)
        · exact res_at (n := 8) W (by rw [hr, h1]; rfl) rfl la lb (HE.out.later h))
      have T := Lib.hid (fun W (h : Below w.heap.size w W) => tell_err 8 W (HG.out.later h))
      have Hx := Lib.hid hx
      rw [ha] at LA
      rw [hb] at LB
      obtain ⟨la', hla'⟩ : ∃ l, split1 44 a = l := ⟨_, rfl⟩
      obtain ⟨lb', hlb'⟩ : ∃ l, split1 44 b = l := ⟨_, rfl⟩
      have hfd := Lib.hid (show firstR a b = la'.find? (fun x => decide (x ∈ lb')) by rw [← hla', ← hlb']; rfl)
      rw [hla'] at LA hsa
      rw [hlb'] at LB hsb
      have na : la'.length ≤ 1000000 := by have := hsa.out.2; omega
      have nb : lb'.length ≤ 1000000 := by have := hsb.out.2; omega
      clear hE hg hbig hr hx bad ha hb fa fb hla' hlb'
      go_enter Tryd.func7, Tryd.ntmps7
      go_wp2_with fail
      refine Fk.out.mono ?_
      rintro e w1 ⟨rfl, hb1⟩
      have Hb1 := Lib.hid hb1
      clear hb1
      go_wp2_with fail
      refine (LA.out w1 Hb1.out).mono ?_
      rintro e w2 ⟨va, rfl, hva, hb2⟩
      have Hb2 := Lib.hid (below_then Hb1.out hb2)
      have hva2 := hva.strs
      clear hb2 hva
      rw [show errV (listN (some la')) = .nilIface from rfl]
      go_wp2_with fail
      refine (LB.out w2 Hb2.out).mono ?_
      rintro e w3 ⟨vb, rfl, hvb, hb3⟩
      have Hb3 := Lib.hid (below_then Hb2.out hb3)
      have hva3 := hva2.later hb3
      have hvb3 := hvb.strs
      clear hb3 hva2 hvb
      rw [show errV (listN (some lb')) = .nilIface from rfl]
      go_wp2_with fail
      refine (R.out w3 Hb3.out).mono ?_
      rintro e w4 ⟨rfl, hb4⟩
      have Hb4 := Lib.hid (below_then Hb3.out hb4)
      have HA := Lib.hid (hva3.later hb4)
      have HB := Lib.hid (hvb3.later hb4)
      clear hb4 hva3 hvb3
      simp only [Option.getD_some] at HA HB
      obtain ⟨pa, ca, rfl⟩ := HA.out.form
      go_wp2_with fail
      go_loopw [48] (fun i wr => ∃ j : Nat, j ≤ la'.length ∧ i = .int .i64 j ∧ (∀ z ∈ la'.take j, z ∉ lb') ∧ wr = w4) (fun i _ => la'.length - (intOf i).toNat)
      case atStart => exact ⟨0, by omega, rfl, by simp, rfl⟩
      case round =>
        obtain ⟨j, hj, rfl, hnot, rfl⟩ := hrel
        by_cases hlt : j < la'.length
        · obtain ⟨bb, o, rfl, q0⟩ := HA.out.cell hlt
          obtain ⟨y, hy⟩ : ∃ y, la'[j] = y := ⟨_, rfl⟩
          have Hy := Lib.hid hy
          rw [hy] at q0
          have CS := Lib.hid (containsS_any lb' vb y wr HB.out nb)
          have Hn := Lib.hid hnot
          have hj0 : (0 : Int) ≤ (j : Int) := by omega
          by_cases hm : y ∈ lb'
          · have Hf := Lib.hid (show firstR a b = some y by
              rw [hfd.out]
              have hsp : la' = la'.take j ++ y :: la'.drop (j + 1) := by
                rw [← hy, ← List.drop_eq_getElem_cons hlt, List.take_append_drop]
              rw [hsp, List.find?_append, List.find?_eq_none.2 (fun z hz => by simpa using hnot z hz)]
              simp [hm])
            rw [decide_eq_true hm] at CS
            clear hy hnot hm
            go_wp2_with fail
            refine CS.out.mono ?_
            rintro e w' ⟨rfl, rfl⟩
            rcases Hx.out with ⟨hx1, rfl⟩ | ⟨hx1, _, _⟩
            · obtain rfl : x = y := by rw [Hf.out] at hx1; exact (Option.some.inj hx1).symm
              have e1 : (x == x) = true := by simp
              clear hx1
              go_wp2_with fail
              go_ret
              exact ⟨rfl, Hb4.out⟩
            · rw [Hf.out] at hx1; cases hx1
          · rw [decide_eq_false hm] at CS
            have HN := Lib.hid (show ∀ z ∈ la'.take (j + 1), z ∉ lb' from fun z hz => by
              rw [List.take_succ_eq_append_getElem hlt] at hz
              rcases List.mem_append.1 hz with h | h
              · exact hnot z h
              · rw [List.mem_singleton.1 h, hy]; exact hm)
            clear hy hnot hm
            go_wp2_with fail
            refine CS.out.mono ?_
            rintro e w' ⟨rfl, rfl⟩
            go_wp2_with fail
            go_roundw
            case rel => exact ⟨j + 1, by omega, by go_num, HN.out, by first | rfl | trivial⟩
            case measure => simp [intOf]; omega
        · have hjl : j = la'.length := by omega
          subst hjl
          have hf : firstR a b = none := by
            rw [hfd.out]
            rw [List.take_length] at hnot
            exact List.find?_eq_none.2 (fun z hz => by simpa using hnot z hz)
          rcases Hx.out with ⟨hx1, rfl⟩ | ⟨hx1, rfl, rfl⟩
          · rw [hf] at hx1; cases hx1
          · clear hnot hf hx1
            go_wp2_with fail
            refine (T.out _ Hb4.out).mono ?_
            rintro e w5 ⟨rfl, hb5⟩
            have Hb5 := Lib.hid (below_then Hb4.out hb5)
            clear hb5
            go_wp2_with fail
            go_ret
            exact ⟨rfl, Hb5.out⟩
end Go.Proofs.YtbllnelnajfjgaaDoor
