/- ref.PairsRight, ref.FindPair, ref.Pairs. -/
import Derived.Test.YtildnpnpakhnjaaDoorRefKey
import Derived.Test.YtildnpnpakhnjaaDoorFaultSet
import Derived.Test.YtildnpnpakhnjaaDoorRefIs
import Derived.Test.YtildnpnpakhnjaaDoorPairParse
import Derived.Test.YtildnpnpakhnjaaDoorPairPrint
namespace Go.Proofs.YtildnpnpakhnjaaDoor
open Go.RowKit
set_option linter.unusedVariables false
/-- a fault is returned -/
def RetFl (w : World) (r : Int × Int) (e : Ending) (w' : World) : Prop := e = .returned (.agg #[.int .i64 r.1, .int .i64 r.2]) ∧ Below w.heap.size w w'
set_option maxRecDepth 100000 in
theorem refPRight_any (l : List Pr) (v : Value) (w : World) (hv : PrsV w v l) (hf : fitPs l) :
    Calls Tryd.prog 21 #[v] w (RetFl w (prRight l)) := by
  obtain ⟨p, c, rfl, _, hc⟩ := hv
  have Hc := Lib.hid hc
  have Hf := Lib.hid hf
  have hl47 := hf.1
  have HF0 := Lib.hid (cell2_new w)
  have Hb0 := Lib.hid ((Below.refl w.heap.size w).alloc (Nat.le_refl _) (.cells #[.int .i64 0, .int .i64 0] 26))
  clear hc hf
  by_cases h60 : 60 < l.length
  · have E := Lib.hid (show prRight l = (4, -1) by unfold prRight; rw [if_pos h60])
    have B := fun w => Lib.hid (bareF 4 w)
    go_enter Tryd.func21, Tryd.ntmps21
    go_wp2_with fail
    refine (B _).out.mono ?_
    rintro e w2 ⟨rfl, hb2⟩
    have HF2 := Lib.hid (HF0.out.later hb2)
    have Hb2 := Lib.hid (below_then Hb0.out hb2)
    obtain ⟨x0, x1⟩ := HF2.out.cells
    have f0 := HF2.out.frozen 0
    have f1 := HF2.out.frozen 1
    clear hb2
    go_wp2_with fail
    obtain ⟨g1, g2⟩ := fault_set 4 (-1) HF2.out Hb2.out
    refine bodyPost_ret (v := .agg #[.int .i64 4, .int .i64 (-1)]) (by simp [results, Tryd.results21, go_sem, x0, x1]) rfl ?_
    rw [E.out]
    exact ⟨rfl, g2⟩
  have E := Lib.hid (show prRight l = prRightF 0 l by unfold prRight; rw [if_neg h60])
  have GF := fun w => Lib.hid (goodF w)
  go_enter Tryd.func21, Tryd.ntmps21
  go_wp2_with fail
  go_loopw [10] (fun i wr => ∃ j : Nat, j ≤ l.length ∧ i = .int .i64 j ∧ prRightF j (l.drop j) = prRight l ∧ Cell2 wr w.heap.size 0 0 ∧ Below w.heap.size w wr) (fun i _ => l.length - (intOf i).toNat)
  case atStart => exact ⟨0, by omega, rfl, by rw [E.out]; rfl, HF0.out, Hb0.out⟩
  case round =>
    obtain ⟨j, hj, rfl, hr, hF, hb⟩ := hrel
    have Hb := Lib.hid hb
    have HF := Lib.hid hF
    clear hF
    by_cases hlt : j < l.length
    · obtain ⟨b, o, rfl, hcl⟩ := Hc.out (by omega)
      obtain ⟨h1, h2⟩ := hcl j hlt
      have H2 := Lib.hid h2
      rw [← (bcell hb).1 b (o + j * 2) (block_lt_of_cell (w := w) (a := ⟨b, o + j * 2, none⟩) h1)] at h1
      obtain ⟨a, ha⟩ : ∃ a, l[j] = a := ⟨_, rfl⟩
      have hda := Hf.out.2 l[j] (List.getElem_mem hlt)
      rw [List.drop_eq_getElem_cons hlt, prRightF_cons] at hr
      rw [ha] at h1 h2 H2 hr hda
      have K := fun W => Lib.hid (refKey_any a.k W hda.1)
      have V := fun W => Lib.hid (refVal_any a.v W hda.2)
      have hw : wrongP a = if isKey a.k = true then if isVal a.v = true then 0 else 3 else 5 := rfl
      rw [hw] at hr
      obtain ⟨k, d⟩ := a
      simp only at h1 h2 K V hr H2
      clear hcl hb ha hda hw h2
      cases hk : isKey k with
      | false =>
        simp only [hk] at K hr
        have hr2 : ((5 : Int), (j : Int)) = prRight l := by simpa using hr
        have Hr := Lib.hid hr2
        clear hr hr2 hk
        go_wp2_with fail
        refine (K _).out.mono ?_
        rintro e w2 ⟨rfl, hb2⟩
        have HF2 := Lib.hid (HF.out.later hb2)
        have Hb2 := Lib.hid (below_then Hb.out hb2)
        obtain ⟨x0, x1⟩ := HF2.out.cells
        have f0 := HF2.out.frozen 0
        have f1 := HF2.out.frozen 1
        clear hb2
        go_wp2_with fail
        obtain ⟨g1, g2⟩ := fault_set 5 (j : Int) HF2.out Hb2.out
        refine bodyPost_ret (v := .agg #[.int .i64 5, .int .i64 (j : Int)]) (by simp [results, Tryd.results21, go_sem, x0, x1]) rfl ?_
        rw [← Hr.out]
        exact ⟨rfl, g2⟩
      | true =>
        simp only [hk] at K hr
        cases hd : isVal d with
        | false =>
          simp only [hd] at V hr
          have hr2 : ((3 : Int), (j : Int)) = prRight l := by simpa using hr
          have Hr := Lib.hid hr2
          clear hr hr2 hk hd
          go_wp2_with fail
          refine (K _).out.mono ?_
          rintro e w2 ⟨rfl, hb2⟩
          have HF2 := Lib.hid (HF.out.later hb2)
          have Hb2 := Lib.hid (below_then Hb.out hb2)
          have h2 := H2.out
          rw [← (bcell Hb2.out).1 b (o + j * 2 + 1) (block_lt_of_cell (w := w) (a := ⟨b, o + j * 2 + 1, none⟩) h2)] at h2
          clear hb2 h1
          go_wp2_with fail
          refine (V _).out.mono ?_
          rintro e w3 ⟨rfl, hb3⟩
          have HF3 := Lib.hid (HF2.out.later hb3)
          have Hb3 := Lib.hid (below_then Hb2.out hb3)
          obtain ⟨x0, x1⟩ := HF3.out.cells
          have f0 := HF3.out.frozen 0
          have f1 := HF3.out.frozen 1
          clear hb3 h2
          go_wp2_with fail
          obtain ⟨g1, g2⟩ := fault_set 3 (j : Int) HF3.out Hb3.out
          refine bodyPost_ret (v := .agg #[.int .i64 3, .int .i64 (j : Int)]) (by simp [results, Tryd.results21, go_sem, x0, x1]) rfl ?_
          rw [← Hr.out]
          exact ⟨rfl, g2⟩
        | true =>
          simp only [hd] at V hr
          have hr2 : prRightF (j + 1) (l.drop (j + 1)) = prRight l := by simpa using hr
          have Hr := Lib.hid hr2
          clear hr hr2 hk hd
          go_wp2_with fail
          refine (K _).out.mono ?_
          rintro e w2 ⟨rfl, hb2⟩
          have HF2 := Lib.hid (HF.out.later hb2)
          have Hb2 := Lib.hid (below_then Hb.out hb2)
          have h2 := H2.out
          rw [← (bcell Hb2.out).1 b (o + j * 2 + 1) (block_lt_of_cell (w := w) (a := ⟨b, o + j * 2 + 1, none⟩) h2)] at h2
          clear hb2 h1
          go_wp2_with fail
          refine (V _).out.mono ?_
          rintro e w3 ⟨rfl, hb3⟩
          have HF3 := Lib.hid (HF2.out.later hb3)
          have Hb3 := Lib.hid (below_then Hb2.out hb3)
          clear hb3 h2
          go_wp2_with fail
          go_roundw
          case rel => exact ⟨j + 1, by omega, by go_num, Hr.out, HF3.out, Hb3.out⟩
          case measure => simp [intOf]; omega
    · obtain rfl : j = l.length := by omega
      rw [List.drop_length] at hr
      have Hr := Lib.hid hr
      clear hr hb
      go_wp2_with fail
      refine (GF _).out.mono ?_
      rintro e w2 ⟨rfl, hb2⟩
      have HF2 := Lib.hid (HF.out.later hb2)
      have Hb2 := Lib.hid (below_then Hb.out hb2)
      obtain ⟨x0, x1⟩ := HF2.out.cells
      have f0 := HF2.out.frozen 0
      have f1 := HF2.out.frozen 1
      clear hb2
      go_wp2_with fail
      obtain ⟨g1, g2⟩ := fault_set 0 (-1) HF2.out Hb2.out
      refine bodyPost_ret (v := .agg #[.int .i64 0, .int .i64 (-1)]) (by simp [results, Tryd.results21, go_sem, x0, x1]) rfl ?_
      rw [← Hr.out]
      exact ⟨rfl, g2⟩
set_option maxRecDepth 100000 in
theorem refFind_any (l : List Pr) (key : List UInt8) (v : Value) (w : World) (hv : PrsV w v l) (hl : l.length ≤ 140737488355328) :
    Calls Tryd.prog 17 #[v, .string (S key)] w fun e w' => e = .returned (findR (prFind l key)) ∧ w = w' := by
  obtain ⟨p, c, rfl, _, hc⟩ := hv
  have Hc := Lib.hid hc
  clear hc
  go_enter Tryd.func17, Tryd.ntmps17
  go_wp2_with fail
  go_loopw [9] (fun i wr => ∃ j : Nat, j ≤ l.length ∧ i = .int .i64 j ∧ prFind (l.drop j) key = prFind l key ∧ w = wr) (fun i _ => l.length - (intOf i).toNat)
  case atStart => exact ⟨0, by omega, rfl, rfl, rfl⟩
  case round =>
    obtain ⟨j, hj, rfl, hr, rfl⟩ := hrel
    by_cases hlt : j < l.length
    · obtain ⟨b, o, rfl, hcl⟩ := Hc.out (by omega)
      obtain ⟨h1, h2⟩ := hcl j hlt
      obtain ⟨a, ha⟩ : ∃ a, l[j] = a := ⟨_, rfl⟩
      rw [List.drop_eq_getElem_cons hlt] at hr
      rw [ha] at h1 h2 hr
      obtain ⟨k, d⟩ := a
      simp only at h1 h2
      have e0 : prFind (⟨k, d⟩ :: l.drop (j + 1)) key = if k = key then some d else prFind (l.drop (j + 1)) key := rfl
      rw [e0] at hr
      have Hr := Lib.hid hr
      clear hr hcl ha e0
      by_cases hk : k = key
      · rw [if_pos hk] at Hr
        subst hk
        go_wp2_with fail
        go_ret2
        rw [← Hr.out]
        exact ⟨rfl, rfl⟩
      · rw [if_neg hk] at Hr
        have hS : (k == key) = false := by
          rw [beq_eq_false_iff_ne]
          exact hk
        go_wp2_with fail
        go_roundw
        case rel => exact ⟨j + 1, by omega, by go_num, Hr.out, by trivial⟩
        case measure => simp [intOf]; omega
    · obtain rfl : j = l.length := by omega
      have Hr := Lib.hid hr
      clear hr
      go_wp2_with fail
      go_ret2
      rw [← Hr.out, List.drop_length]
      exact ⟨rfl, rfl⟩
set_option maxRecDepth 100000 in
set_option maxHeartbeats 1000000 in
theorem refPairs_any (l : List Pr) (v : Value) (w : World) (hv : PrsV w v l) (hf : fitPs l) :
    Calls Tryd.prog 15 #[v] w (RetSF w (prPrint l)) := by
  have hb0 := (Below.refl w.heap.size w).alloc (Nat.le_refl _) (.cells #[.int .i64 0, .int .i64 0] 26)
  have HF0 := Lib.hid (cell2_new w)
  have Hb0 := Lib.hid hb0
  have HV := Lib.hid hv
  have R := refPRight_any l v _ (hv.later hb0) hf
  obtain ⟨p, c, rfl⟩ := hv.form
  obtain ⟨⟨n, q⟩, hr⟩ : ∃ r, prRight l = r := ⟨_, rfl⟩
  rw [hr] at R
  have R := Lib.hid R
  by_cases h0 : n = 0
  · subst h0
    obtain ⟨hk, hs, hr'⟩ := prRight_is (l := l) (by rw [hr])
    have E := Lib.hid (prPrint_ok (l := l) (by rw [hr]))
    have Hk := Lib.hid hk
    have IF := fun p w => Lib.hid (isF_good p w)
    have GF := fun w => Lib.hid (goodF w)
    clear hb0 hv hf hr hr' hk
    go_enter Tryd.func15, Tryd.ntmps15
    go_wp2_with fail
    refine R.out.mono ?_
    rintro e w1 ⟨rfl, hb1⟩
    have hb1n := (Below.refl w1.heap.size w1).alloc (Nat.le_refl _) (.cells #[.int .i64 0, .int .i64 q] 26)
    have HF1 := Lib.hid ((HF0.out.later hb1).later hb1n)
    have Hb1 := Lib.hid (below_then (below_then Hb0.out hb1) hb1n)
    clear hb1 R hb1n
    go_wp2_with fail
    refine (IF _ _).out.mono ?_
    rintro e w2 ⟨rfl, hb2⟩
    have HF2 := Lib.hid (HF1.out.later hb2)
    have Hb2 := Lib.hid (below_then Hb1.out hb2)
    clear hb2
    go_wp2_with fail
    go_loopw [5, 16] (fun x i wr => ∃ j : Nat, j ≤ l.length ∧ i = .int .i64 j ∧ x = .string (S (prBytes (l.take j))) ∧ Cell2 wr w.heap.size 0 0 ∧ Below w.heap.size w wr) (fun _ i _ => l.length - (intOf i).toNat)
    case atStart => exact ⟨0, by omega, rfl, rfl, HF2.out, Hb2.out⟩
    case round =>
      obtain ⟨j, hj, rfl, rfl, hF, hb⟩ := hrel
      have Hb := Lib.hid hb
      have HF := Lib.hid hF
      clear hF
      by_cases hlt : j < l.length
      · obtain ⟨b, o, hpf, hlc, hc⟩ := HV.out
        simp only [Value.slice.injEq] at hpf
        obtain ⟨rfl, _, rfl⟩ := hpf
        obtain ⟨b, o, rfl, hcl⟩ := hc (by omega)
        obtain ⟨h1, h2⟩ := hcl j hlt
        rw [← (bcell hb).1 b (o + j * 2) (block_lt_of_cell (w := w) (a := ⟨b, o + j * 2, none⟩) h1)] at h1
        rw [← (bcell hb).1 b (o + j * 2 + 1) (block_lt_of_cell (w := w) (a := ⟨b, o + j * 2 + 1, none⟩) h2)] at h2
        obtain ⟨a, ha⟩ : ∃ a, l[j] = a := ⟨_, rfl⟩
        have hka := thick_okP (Hk.out l[j] (List.getElem_mem hlt))
        have hst := prBytes_take hlt
        have hsm := prBytes_small (l := l.take j) (fun q hq => Hk.out q (List.mem_of_mem_take hq))
        rw [List.length_take, Nat.min_eq_left hj] at hsm
        rw [ha] at h1 h2 hka hst
        obtain ⟨k, d⟩ := a
        simp only at h1 h2 hka
        have hwr : wrP ⟨k, d⟩ = k ++ 61 :: (d ++ [0]) := rfl
        rw [hwr] at hst
        have Hst := Lib.hid hst
        obtain ⟨out, hout⟩ : ∃ s, prBytes (l.take j) = s := ⟨_, rfl⟩
        rw [hout] at hsm hst Hst ⊢
        have hk1 : ¬ 9223372036854775807 < k.length + 1 := by omega
        have hk2 : ¬ 9223372036854775807 < k.length + 1 + d.length := by omega
        have hk3 : ¬ 9223372036854775807 < k.length + 1 + d.length + 1 := by omega
        have hk4 : ¬ 9223372036854775807 < out.length + (k.length + (d.length + 1 + 1)) := by omega
        have hk5 : ¬ 9223372036854775807 < out.length + (k.length + 1 + d.length + 1) := by omega
        have hb1n := (Below.refl wr.heap.size wr).alloc (Nat.le_refl _) (.cells #[.string (S k), .string (S d)] 46)
        have HF3 := Lib.hid (HF.out.later hb1n)
        have Hb3 := Lib.hid (below_then Hb.out hb1n)
        clear hst hcl hb hc ha hka hsm hwr hout hlc hb1n
        go_wp2_with fail
        go_roundw
        case rel => exact ⟨j + 1, by omega, by go_num, by rw [Hst.out], HF3.out, Hb3.out⟩
        case measure => simp [intOf]; omega
      · obtain rfl : j = l.length := by omega
        rw [List.take_length]
        clear hb
        go_wp2_with fail
        refine (GF _).out.mono ?_
        rintro e w3 ⟨rfl, hb3⟩
        have HF3 := Lib.hid (HF.out.later hb3)
        have Hb3 := Lib.hid (below_then Hb.out hb3)
        obtain ⟨x0, x1⟩ := HF3.out.cells
        have f0 := HF3.out.frozen 0
        have f1 := HF3.out.frozen 1
        clear hb3
        go_wp2_with fail
        obtain ⟨g1, g2⟩ := fault_set 0 (-1) HF3.out Hb3.out
        refine bodyPost_ret (v := .tuple #[.string (S (prBytes l)), .agg #[.int .i64 0, .int .i64 (-1)]]) (by simp [results, Tryd.results15, go_sem, x0, x1]) rfl ?_
        rw [E.out]
        exact ⟨rfl, g2⟩
  · have E := Lib.hid (show prPrint l = ([], n, q) by unfold prPrint; rw [hr]; exact if_neg h0)
    have IF := fun p w => Lib.hid (isF_bad n p w h0)
    clear hb0 hv hf hr h0
    go_enter Tryd.func15, Tryd.ntmps15
    go_wp2_with fail
    refine R.out.mono ?_
    rintro e w1 ⟨rfl, hb1⟩
    have hb1n := (Below.refl w1.heap.size w1).alloc (Nat.le_refl _) (.cells #[.int .i64 n, .int .i64 q] 26)
    have HF1 := Lib.hid ((HF0.out.later hb1).later hb1n)
    have Hb1 := Lib.hid (below_then (below_then Hb0.out hb1) hb1n)
    have HG1 := Lib.hid (show Cell2 (w1.alloc (.cells #[.int .i64 n, .int .i64 q] 26)) w1.heap.size n q from heap_alloc_new w1 _)
    have hsz := Hb0.out.size
    have Hne := Lib.hid (show w.heap.size ≠ w1.heap.size by have := hb1.size; simp at this; omega)
    clear hb1 R hb1n
    go_wp2_with fail
    refine (IF _ _).out.mono ?_
    rintro e w2 ⟨rfl, hb2⟩
    have HF2 := Lib.hid (HF1.out.later hb2)
    have HG2 := Lib.hid (HG1.out.later hb2)
    have Hb2 := Lib.hid (below_then Hb1.out hb2)
    obtain ⟨x0, x1⟩ := HF2.out.cells
    have f0 := HF2.out.frozen 0
    have f1 := HF2.out.frozen 1
    obtain ⟨y0, y1⟩ := HG2.out.cells
    clear hb2
    go_wp2_with fail
    go_region
    all_goals
      try go_wp2_with fail
      obtain ⟨g1, g2⟩ := fault_set n q HF2.out Hb2.out
      refine bodyPost_ret (v := .tuple #[.string (S []), .agg #[.int .i64 n, .int .i64 q]]) (by simp [results, Tryd.results15, go_sem, x0, x1]) rfl ?_
      rw [E.out]
      exact ⟨rfl, g2.drew⟩
end Go.Proofs.YtildnpnpakhnjaaDoor
