/- pairs.Print. -/
import Derived.Test.YtbllnelnajfjgaaGreatDoorBuilder
import Derived.Test.YtbllnelnajfjgaaGreatDoorPairs
namespace Go.Proofs.YtbllnelnajfjgaaGreatDoor
open Go.RowKit
theorem prPrint_bad {l : List Pr} (h : (prRight l).1 ≠ 0) : prPrint l = ([], prRight l) := by unfold prPrint; rw [if_neg h]
theorem prPrint_ok {l : List Pr} (h : (prRight l).1 = 0) : prPrint l = (prBytes l, 0, -1) := by unfold prPrint; rw [if_pos h]
theorem prBytes_take {l : List Pr} {j : Nat} (h : j < l.length) : prBytes (l.take (j + 1)) = prBytes (l.take j) ++ wrP l[j] := by
  rw [List.take_succ_eq_append_getElem h, prBytes_app, prBytes_one]
theorem prBytes_small : ∀ {l : List Pr}, okPs l → (prBytes l).length ≤ l.length * 320
  | [], _ => by simp [prBytes]
  | p :: l, h => by
    have ih := prBytes_small (l := l) (fun q hq => h q (List.mem_cons_of_mem _ hq))
    have h1 := thick_okP (h p (List.mem_cons_self ..))
    rw [prBytes_cons, List.length_append, wrP_len, List.length_cons]
    omega
set_option maxRecDepth 100000 in
theorem print_prs (l : List Pr) (v : Value) (w : World) (hv : PrsV w v l) (hf : fitPs l) :
    Calls Tryz.prog 45 #[v] w (RetSE w (prPrint l)) := by
  have R := Lib.hid (right_prs l v w hv hf)
  have HV := Lib.hid hv
  by_cases h0 : (prRight l).1 = 0
  · obtain ⟨hk, hs, hr⟩ := prRight_is h0
    have Hk := Lib.hid hk
    have E := Lib.hid (show prPrint l = (prBytes l, 0, -1) by unfold prPrint; rw [if_pos h0])
    have hll : (l.length : Int) ≤ 60 := by omega
    rw [hr] at R
    clear hv hf h0 hr hk
    obtain ⟨p, c, rfl⟩ := HV.out.form
    go_enter Tryz.func45, Tryz.ntmps45
    go_wp2_with fail
    refine R.out.mono ?_
    rintro e w1 ⟨ev, rfl, he, hb1⟩
    obtain rfl := he.zero
    have Hb1 := Lib.hid hb1
    have HD := Lib.hid (BldAt.new w1)
    have Hb2 := Lib.hid (hb1.alloc hb1.size (.cells #[.pointer none, .slice none 0 0] 79))
    have hsz1 := hb1.size
    obtain ⟨B, hB⟩ : ∃ B, w1.heap.size = B := ⟨_, rfl⟩
    rw [hB] at HD hsz1
    clear he hb1 R
    go_wp2_with fail
    try simp only [hB]
    clear hB
    go_loopw [15] (fun i wr => ∃ j : Nat, j ≤ l.length ∧ i = .int .i64 j ∧ BldAt wr B B (prBytes (l.take j)) ∧ B < wr.heap.size ∧ Below w.heap.size w wr) (fun i _ => l.length - (intOf i).toNat)
    case atStart => exact ⟨0, by omega, rfl, HD.out, by have := HD.out; rcases HD.out with h | h <;> exact h.lt, Hb2.out⟩
    case round =>
      obtain ⟨j, hj, rfl, hbld, hBs, hb⟩ := hrel
      have Hb := Lib.hid hb
      have HBld := Lib.hid hbld
      by_cases hlt : j < l.length
      · obtain ⟨p', c', hpe, _, hc⟩ := HV.out
        obtain ⟨b, o, rfl, hcl⟩ := hc (by omega)
        obtain ⟨h1, h2⟩ := hcl j hlt
        have hp : p = some ⟨b, o, none⟩ := by injection hpe
        subst hp
        rw [← (bcell hb).1 b (o + j * 2) (block_lt_of_cell (w := w) (a := ⟨b, o + j * 2, none⟩) h1)] at h1
        rw [← (bcell hb).1 b (o + j * 2 + 1) (block_lt_of_cell (w := w) (a := ⟨b, o + j * 2 + 1, none⟩) h2)] at h2
        obtain ⟨a, ha⟩ : ∃ a, l[j] = a := ⟨_, rfl⟩
        have hka := thick_okP (Hk.out l[j] (List.getElem_mem hlt))
        have hst := prBytes_take hlt
        have hsm := prBytes_small (l := l.take j) (fun q hq => Hk.out q (List.mem_of_mem_take hq))
        rw [List.length_take, Nat.min_eq_left hj] at hsm
        rw [ha] at h1 h2 hka hst
        obtain ⟨k, d⟩ := a
        simp only at h1 h2 hka
        have hwr : wrP ⟨k, d⟩ = k ++ 61 :: (d ++ [0]) := rfl
        have hk1 : ¬ 9223372036854775807 < k.length + 1 := by omega
        have hk2 : ¬ 9223372036854775807 < k.length + 1 + d.length := by omega
        have hk3 : ¬ 9223372036854775807 < k.length + 1 + d.length + 1 := by omega
        have hbn := HBld.out.alloc (.cells #[.string (S k), .string (S d)] 90)
        have Wr := Lib.hid (bld_write (k ++ 61 :: (d ++ [0])) hbn (by simp only [List.length_append, List.length_cons, List.length_nil]; omega) (by simp; omega))
        have Hb3 := Lib.hid (hb.alloc hb.size (.cells #[.string (S k), .string (S d)] 90))
        rw [hwr] at hst
        have Hst := Lib.hid hst
        have HBs := Lib.hid hBs
        clear hst hcl hb hc hbld ha hka hsm hwr hbn hBs
        go_wp2_with fail
        refine Wr.out.mono ?_
        rintro e w3 ⟨rfl, hb3, hlow⟩
        have Hb4 := Lib.hid (Hb3.out.trans (hlow.mono hsz1))
        rw [← Hst.out] at hb3
        have Hb5 := Lib.hid hb3
        have Hs3 := Lib.hid (show B < w3.heap.size by have := hlow.size; have := HBs.out; simp at *; omega)
        clear hb3 hlow Wr h1 h2
        go_wp2_with fail
        go_roundw
        case rel => exact ⟨j + 1, by omega, by go_num, Hb5.out, Hs3.out, Hb4.out⟩
        case measure => simp [intOf]; omega
      · obtain rfl : j = l.length := by omega
        rw [List.take_length] at hbld
        have St := Lib.hid (bld_string hbld (Nat.le_of_lt hBs))
        clear hb hbld HBld
        go_wp2_with fail
        refine St.out.mono ?_
        rintro e w3 ⟨rfl, hlow⟩
        have Hb4 := Lib.hid (Hb.out.trans (hlow.mono hsz1))
        clear hlow
        go_wp2_with fail
        go_ret2
        rw [E.out]
        exact ⟨_, rfl, .good, Hb4.out⟩
  · have E := Lib.hid (show prPrint l = ([], prRight l) by unfold prPrint; rw [if_neg h0])
    obtain ⟨⟨n, q⟩, hr⟩ : ∃ r, prRight l = r := ⟨_, rfl⟩
    rw [hr] at R E h0
    clear hv hf hr
    obtain ⟨p, c, rfl⟩ := HV.out.form
    go_enter Tryz.func45, Tryz.ntmps45
    go_wp2_with fail
    refine R.out.mono ?_
    rintro e w1 ⟨ev, rfl, he, hb1⟩
    obtain ⟨t, x, rfl⟩ := he.iface h0
    have Hb1 := Lib.hid hb1
    have He := Lib.hid he
    clear he hb1
    go_wp2_with fail
    go_ret2
    rw [E.out]
    exact ⟨_, rfl, He.out, Hb1.out⟩
end Go.Proofs.YtbllnelnajfjgaaGreatDoor
