/- HeadNames: eighteen, each of its own name. -/
import Derived.Test.YtffdlchoaaakdaaDoorHeaded
import Derived.Test.YtffdlchoaaakdaaDoorPick
namespace Go.Proofs.YtffdlchoaaakdaaDoor
open Go.RowKit
def cntK (j : Nat) : Nat := ((List.range j).filter fun (i : Nat) => (kindOf ((i : Nat) : Int)).isSome).length
theorem cntK_18 : cntK 64 = 18 := by decide +kernel
theorem cntK_le (j : Nat) : cntK j ≤ j := by
  unfold cntK
  have := List.length_filter_le (fun i : Nat => (kindOf (i : Int)).isSome) (List.range j)
  simpa using this
theorem cntK_some {j : Nat} {k : Kd} (h : kindOf (j : Int) = some k) : cntK (j + 1) = cntK j + 1 := by
  unfold cntK; rw [List.range_succ, List.filter_append]; simp [h]
theorem cntK_none {j : Nat} (h : kindOf (j : Int) = none) : cntK (j + 1) = cntK j := by
  unfold cntK; rw [List.range_succ, List.filter_append]; simp [h]
theorem names_apart : kinds.all (fun x => kinds.all fun y => decide (x.nm = y.nm → x.op = y.op)) = true := by decide +kernel
theorem names_eq {a b : Int} {x y : Kd} (ha : kindOf a = some x) (hb : kindOf b = some y) (h : x.nm = y.nm) : a = b := by
  have h1 := List.all_eq_true.1 (List.all_eq_true.1 names_apart x (kindOf_mem ha).1) y (kindOf_mem hb).1
  have h2 := of_decide_eq_true h1 h
  have := (kindOf_mem ha).2
  have := (kindOf_mem hb).2
  omega
set_option maxRecDepth 100000 in
set_option maxHeartbeats 1000000 in
theorem headNames_any (a b : Int) (w : World) (_ha : (Lit.int .i64 a).wf = true) (_hb : (Lit.int .i64 b).wf = true) (hm : MaxCell w) :
    Calls Tryd.prog 7 #[.int .i64 a, .int .i64 b] w fun e w' => e = .returned (.bool true) ∧ Below w.heap.size w w' := by
  have H := Lib.hid (headed_any w hm)
  have P1 := fun w => Lib.hid (pick_any a 64 w (by decide) (by decide))
  have P2 := fun w => Lib.hid (pick_any b 64 w (by decide) (by decide))
  have hp1 := pickI_lt a 64 (by decide)
  have hp2 := pickI_lt b 64 (by decide)
  obtain ⟨x, hx⟩ : ∃ x, pickI a 64 = x := ⟨_, rfl⟩
  obtain ⟨y, hy⟩ : ∃ y, pickI b 64 = y := ⟨_, rfl⟩
  rw [hx] at P1 hp1
  rw [hy] at P2 hp2
  clear hx hy hm
  go_enter Tryd.func7, Tryd.ntmps7
  go_wp2_with fail
  refine H.out.mono ?_
  rintro e w1 ⟨rfl, hb1⟩
  have Hb1 := Lib.hid hb1
  clear hb1 H
  go_wp2_with fail
  go_loopw [5, 15] (fun n i wr => ∃ j : Nat, j ≤ 64 ∧ i = .int .i64 j ∧ n = .int .i64 (cntK j : Nat) ∧ Below w.heap.size w wr) (fun _ i _ => 64 - (intOf i).toNat)
  case atStart => exact ⟨0, by omega, rfl, rfl, Hb1.out⟩
  case round =>
    obtain ⟨j, hj, rfl, rfl, hbw⟩ := hrel
    have Hbw := Lib.hid hbw
    clear hbw
    have hcl := cntK_le j
    by_cases hlt : j < 64
    · cases hk : kindOf (j : Int) with
      | none =>
        have N := Lib.hid (name_none hk wr)
        have HC := Lib.hid (cntK_none hk)
        clear hk
        go_wp2_with fail
        refine N.out.mono ?_
        rintro e w2 ⟨rfl, hb2⟩
        have Hb2 := Lib.hid (below_then Hbw.out hb2)
        clear hb2
        go_wp2_with fail
        go_roundw
        case rel => exact ⟨j + 1, by omega, by go_num, by rw [HC.out], Hb2.out⟩
        case measure => simp [intOf]; omega
      | some k =>
        have N := Lib.hid (name_some hk wr)
        have HC := Lib.hid (cntK_some hk)
        clear hk
        go_wp2_with fail
        refine N.out.mono ?_
        rintro e w2 ⟨rfl, hb2⟩
        have Hb2 := Lib.hid (below_then Hbw.out hb2)
        clear hb2
        go_wp2_with fail
        go_roundw
        case rel => exact ⟨j + 1, by omega, by go_num, by rw [HC.out]; go_num, Hb2.out⟩
        case measure => simp [intOf]; omega
    · have hj64 : j = 64 := by omega
      rw [hj64, cntK_18]
      clear hcl hj hlt hj64
      cases hka : kindOf (x : Int) with
      | none =>
        have N1 := fun w => Lib.hid (name_none hka w)
        clear hka
        cases hkb : kindOf (y : Int) with
        | none =>
          have N2 := fun w => Lib.hid (name_none hkb w)
          clear hkb
          go_wp2_with fail
          refine (P1 _).out.mono ?_
          rintro e w1' ⟨rfl, rfl⟩
          go_wp2_with fail
          refine (P2 _).out.mono ?_
          rintro e w1' ⟨rfl, rfl⟩
          go_wp2_with fail
          refine (N1 _).out.mono ?_
          rintro e w2 ⟨rfl, hb2⟩
          have Hb2 := Lib.hid (below_then Hbw.out hb2)
          clear hb2
          go_wp2_with fail
          refine (N2 _).out.mono ?_
          rintro e w3 ⟨rfl, hb3⟩
          have Hb3 := Lib.hid (below_then Hb2.out hb3)
          clear hb3
          go_wp2_with fail
          go_ret
          exact ⟨rfl, Hb3.out⟩
        | some kb =>
          have N2 := fun w => Lib.hid (name_some hkb w)
          clear hkb
          go_wp2_with fail
          refine (P1 _).out.mono ?_
          rintro e w1' ⟨rfl, rfl⟩
          go_wp2_with fail
          refine (P2 _).out.mono ?_
          rintro e w1' ⟨rfl, rfl⟩
          go_wp2_with fail
          refine (N1 _).out.mono ?_
          rintro e w2 ⟨rfl, hb2⟩
          have Hb2 := Lib.hid (below_then Hbw.out hb2)
          clear hb2
          go_wp2_with fail
          refine (N2 _).out.mono ?_
          rintro e w3 ⟨rfl, hb3⟩
          have Hb3 := Lib.hid (below_then Hb2.out hb3)
          clear hb3
          go_wp2_with fail
          go_ret
          exact ⟨rfl, Hb3.out⟩
      | some ka =>
        have N1 := fun w => Lib.hid (name_some hka w)
        cases hkb : kindOf (y : Int) with
        | none =>
          have N2 := fun w => Lib.hid (name_none hkb w)
          clear hkb hka
          go_wp2_with fail
          refine (P1 _).out.mono ?_
          rintro e w1' ⟨rfl, rfl⟩
          go_wp2_with fail
          refine (P2 _).out.mono ?_
          rintro e w1' ⟨rfl, rfl⟩
          go_wp2_with fail
          refine (N1 _).out.mono ?_
          rintro e w2 ⟨rfl, hb2⟩
          have Hb2 := Lib.hid (below_then Hbw.out hb2)
          clear hb2
          go_wp2_with fail
          refine (N2 _).out.mono ?_
          rintro e w3 ⟨rfl, hb3⟩
          have Hb3 := Lib.hid (below_then Hb2.out hb3)
          clear hb3
          go_wp2_with fail
          go_ret
          exact ⟨rfl, Hb3.out⟩
        | some kb =>
          have N2 := fun w => Lib.hid (name_some hkb w)
          have hsame : ∃ bb, (ka.nm == kb.nm) = bb ∧ ((x : Int) == (y : Int)) = bb := by
            by_cases hxy : (x : Int) = y
            · have : ka = kb := by rw [hxy, hkb] at hka; injection hka with h; exact h.symm
              exact ⟨true, by rw [this]; simp, by simpa using hxy⟩
            · exact ⟨false, by simpa using fun h => hxy (names_eq hka hkb h), by simpa using hxy⟩
          obtain ⟨bb, hn, hxy⟩ := hsame
          clear hkb hka
          cases bb
          all_goals
            go_wp2_with fail
            refine (P1 _).out.mono ?_
            rintro e w1' ⟨rfl, rfl⟩
            go_wp2_with fail
            refine (P2 _).out.mono ?_
            rintro e w1' ⟨rfl, rfl⟩
            go_wp2_with fail
            refine (N1 _).out.mono ?_
            rintro e w2 ⟨rfl, hb2⟩
            have Hb2 := Lib.hid (below_then Hbw.out hb2)
            clear hb2
            go_wp2_with fail
            refine (N2 _).out.mono ?_
            rintro e w3 ⟨rfl, hb3⟩
            have Hb3 := Lib.hid (below_then Hb2.out hb3)
            clear hb3
            go_wp2_with fail
            go_ret
            exact ⟨rfl, Hb3.out⟩
end Go.Proofs.YtffdlchoaaakdaaDoor
