/- pairs.Right, first, Parse, Find. -/
import Derived.Test.YtbllnelnajfjgaaGreatDoorPairKey
import Derived.Test.YtbllnelnajfjgaaGreatDoorPrs
import Derived.Test.YtbllnelnajfjgaaGreatDoorShCut
import Derived.Test.YtbllnelnajfjgaaGreatDoorMaxCell
import Derived.StillTailTactics
namespace Go.Proofs.YtbllnelnajfjgaaGreatDoor
open Go.RowKit
set_option maxRecDepth 100000 in
theorem right_prs (l : List Pr) (v : Value) (w : World) (hv : PrsV w v l) (hf : fitPs l) :
    Calls Tryz.prog 74 #[v] w (RetE w (prRight l)) := by
  obtain ⟨p, c, rfl, _, hc⟩ := hv
  have Hc := Lib.hid hc
  have Hf := Lib.hid hf
  have hl47 := hf.1
  clear hc hf
  by_cases h60 : 60 < l.length
  · have E := Lib.hid (show prRight l = (4, -1) by unfold prRight; rw [if_pos h60])
    go_enter Tryz.func74, Tryz.ntmps74
    go_wp2_with fail
    go_ret
    rw [E.out]
    exact ⟨_, rfl, .bare 4 (by decide), Below.refl _ _⟩
  have E := Lib.hid (show prRight l = prRightF 0 l by unfold prRight; rw [if_neg h60])
  go_enter Tryz.func74, Tryz.ntmps74
  go_wp2_with fail
  go_loopw [12] (fun i wr => ∃ j : Nat, j ≤ l.length ∧ i = .int .i64 j ∧ prRightF j (l.drop j) = prRight l ∧ Below w.heap.size w wr) (fun i _ => l.length - (intOf i).toNat)
  case atStart => exact ⟨0, by omega, rfl, by rw [E.out]; rfl, Below.refl _ _⟩
  case round =>
    obtain ⟨j, hj, rfl, hr, hb⟩ := hrel
    have Hb := Lib.hid hb
    by_cases hlt : j < l.length
    · obtain ⟨b, o, rfl, hcl⟩ := Hc.out (by omega)
      obtain ⟨h1, h2⟩ := hcl j hlt
      rw [← (bcell hb).1 b (o + j * 2) (block_lt_of_cell (w := w) (a := ⟨b, o + j * 2, none⟩) h1)] at h1
      rw [← (bcell hb).1 b (o + j * 2 + 1) (block_lt_of_cell (w := w) (a := ⟨b, o + j * 2 + 1, none⟩) h2)] at h2
      obtain ⟨a, ha⟩ : ∃ a, l[j] = a := ⟨_, rfl⟩
      have hda := Hf.out.2 l[j] (List.getElem_mem hlt)
      rw [List.drop_eq_getElem_cons hlt, prRightF_cons] at hr
      rw [ha] at h1 h2 hr hda
      have WW := fun W => Lib.hid (wrong_pr a W hda.1 hda.2)
      obtain ⟨n, hn⟩ : ∃ n, wrongP a = n := ⟨_, rfl⟩
      rw [hn] at hr
      simp only [hn] at WW
      obtain ⟨k, d⟩ := a
      simp only at h1 h2 WW
      have Hr := Lib.hid hr
      have Hb1 := Lib.hid (hb.alloc hb.size (.cells #[.string (S k), .string (S d)] 90))
      clear hr hcl hb ha hda hn
      by_cases h0 : n = 0
      · subst h0
        rw [if_pos rfl] at Hr
        go_wp2_with fail
        refine (WW _).out.mono ?_
        rintro e w2 ⟨rfl, hb2⟩
        have Hb2 := Lib.hid (below_then Hb1.out hb2)
        clear hb2
        go_wp2_with fail
        go_roundw
        case rel => exact ⟨j + 1, by omega, by go_num, Hr.out, Hb2.out⟩
        case measure => simp [intOf]; omega
      · rw [if_neg h0] at Hr
        have hd0 : (n != 0) = true := by simpa using h0
        go_wp2_with fail
        refine (WW _).out.mono ?_
        rintro e w2 ⟨rfl, hb2⟩
        have Hb2 := Lib.hid (below_then Hb1.out hb2)
        clear hb2
        go_wp2_with fail
        go_ret
        rw [← Hr.out]
        exact ⟨_, rfl, .placed _ n j h0 (by simp) (by simp), Hb2.out.alloc Hb2.out.size _⟩
    · obtain rfl : j = l.length := by omega
      have Hr := Lib.hid hr
      clear hr hb
      go_wp2_with fail
      go_ret
      rw [← Hr.out, List.drop_length]
      exact ⟨_, rfl, .good, Hb.out⟩
theorem cut0_any (c : UInt8) (s : List UInt8) (w : World) (hl : s.length ≤ 1000000) (hm : MaxCell w) :
    Calls Tryz.prog 96 #[.string (S s), .string (S [c])] w fun e w' => e = .returned (match cut1 c s with
      | none => .tuple #[.string (S s), .string (S []), .bool false]
      | some (a, b) => .tuple #[.string (S a), .string (S b), .bool true]) ∧ ∃ n, w' = w.drewN n := by
  obtain ⟨m, hm⟩ := hm
  have C := Tryz.strings_Cut (S s) (S [c]) m w (by rw [S_size]; omega) hm
  have e1 : (S s).data.toList = s := by simp [S]
  have e2 : (S [c]).data.toList = [c] := by simp [S]
  rw [e1, e2, cut_one] at C
  cases h : cut1 c s with
  | none => rw [h] at C; exact C
  | some q => obtain ⟨a, b⟩ := q; rw [h] at C; exact C
theorem cut0_none {c : UInt8} {s : List UInt8} (w : World) (hl : s.length ≤ 1000000) (hm : MaxCell w) (h : cut1 c s = none) :
    Calls Tryz.prog 96 #[.string (S s), .string (S [c])] w fun e w' => e = .returned (.tuple #[.string (S s), .string (S []), .bool false]) ∧ ∃ n, w' = w.drewN n := by
  have C := cut0_any c s w hl hm
  rw [h] at C
  exact C
theorem cut0_some {c : UInt8} {s a b : List UInt8} (w : World) (hl : s.length ≤ 1000000) (hm : MaxCell w) (h : cut1 c s = some (a, b)) :
    Calls Tryz.prog 96 #[.string (S s), .string (S [c])] w fun e w' => e = .returned (.tuple #[.string (S a), .string (S b), .bool true]) ∧ ∃ n, w' = w.drewN n := by
  have C := cut0_any c s w hl hm
  rw [h] at C
  exact C
/-- a pair, a rest and a number are returned -/
def RetFirst (w : World) (r : Int × Pr × List UInt8) (e : Ending) (w' : World) : Prop := e = .returned (.tuple #[.agg #[.string (S r.2.1.k), .string (S r.2.1.v)], .string (S r.2.2), .int .i64 r.1]) ∧ Below w.heap.size w w'
set_option maxRecDepth 100000 in
theorem first_pr (s : List UInt8) (w : World) (hl : s.length ≤ 1000000) (hm : MaxCell w) :
    Calls Tryz.prog 75 #[.string (S s)] w (RetFirst w (prFirst s)) := by
  have hb0 := (Below.refl w.heap.size w).alloc (Nat.le_refl _) (.cells #[.string (S []), .string (S [])] 90)
  have Hb0 := Lib.hid hb0
  have hm1 := hm.later hb0
  have HM := Lib.hid hm1
  have HK := Lib.hid (Blk.new w #[.string (S []), .string (S [])] 90)
  cases h : cut1 0 s with
  | none =>
    have E := Lib.hid (prFirst_end h)
    have C := Lib.hid (cut0_none _ hl hm1 h)
    clear hb0 hm hm1 h
    go_enter Tryz.func75, Tryz.ntmps75
    go_wp2_with fail
    refine C.out.mono ?_
    rintro e w1 ⟨rfl, n, rfl⟩
    obtain ⟨q0, q1⟩ := (HK.out.drewN n).two
    have f0 := (HK.out.drewN n).frozen 0
    have f1 := (HK.out.drewN n).frozen 1
    have Hb1 := Lib.hid (below_drewN Hb0.out n)
    generalize (w.alloc (.cells #[.string (S []), .string (S [])] 90)).drewN n = w1 at q0 q1 f0 f1 Hb1 ⊢
    go_wp2_with fail
    refine bodyPost_ret (v := .tuple #[.agg #[.string (S []), .string (S [])], .string (S []), .int .i64 7]) (by simp [results, Tryz.results75, go_sem, q0, q1]) rfl ?_
    rw [E.out]
    exact ⟨rfl, (Hb1.out.setCell (Nat.le_refl _) _).setCell (Nat.le_refl _) _⟩
  | some q =>
    obtain ⟨t, r⟩ := q
    have hs := (cut1_some h).1
    have hlt : t.length ≤ 1000000 := by have := congrArg List.length hs; simp at this; omega
    have C := Lib.hid (cut0_some _ hl hm1 h)
    cases h2 : cut1 61 t with
    | none =>
      have E := Lib.hid (prFirst_form h h2)
      have C2 := fun n => Lib.hid (cut0_none _ hlt (hm1.later (below_drawn n)) h2)
      clear hb0 hm hm1 h hs h2
      go_enter Tryz.func75, Tryz.ntmps75
      go_wp2_with fail
      refine C.out.mono ?_
      rintro e w1 ⟨rfl, n, rfl⟩
      go_wp2_with fail
      refine (C2 _).out.mono ?_
      rintro e w1 ⟨rfl, n2, rfl⟩
      have HK2 := (HK.out.drewN n).drewN n2
      obtain ⟨q0, q1⟩ := HK2.two
      have f0 := HK2.frozen 0
      have f1 := HK2.frozen 1
      have Hb1 := Lib.hid (below_drewN (below_drewN Hb0.out n) n2)
      clear HK2
      generalize ((w.alloc (.cells #[.string (S []), .string (S [])] 90)).drewN n).drewN n2 = w1 at q0 q1 f0 f1 Hb1 ⊢
      go_wp2_with fail
      refine bodyPost_ret (v := .tuple #[.agg #[.string (S []), .string (S [])], .string (S []), .int .i64 3]) (by simp [results, Tryz.results75, go_sem, q0, q1]) rfl ?_
      rw [E.out]
      exact ⟨rfl, (Hb1.out.setCell (Nat.le_refl _) _).setCell (Nat.le_refl _) _⟩
    | some q =>
      obtain ⟨k, v⟩ := q
      have E := Lib.hid (prFirst_good h h2)
      have C2 := fun n => Lib.hid (cut0_some _ hlt (hm1.later (below_drawn n)) h2)
      clear hb0 hm hm1 h hs h2
      go_enter Tryz.func75, Tryz.ntmps75
      go_wp2_with fail
      refine C.out.mono ?_
      rintro e w1 ⟨rfl, n, rfl⟩
      go_wp2_with fail
      refine (C2 _).out.mono ?_
      rintro e w1 ⟨rfl, n2, rfl⟩
      have HK2 := (HK.out.drewN n).drewN n2
      obtain ⟨q0, q1⟩ := HK2.two
      have f0 := HK2.frozen 0
      have f1 := HK2.frozen 1
      have Hb1 := Lib.hid (below_drewN (below_drewN Hb0.out n) n2)
      clear HK2
      generalize ((w.alloc (.cells #[.string (S []), .string (S [])] 90)).drewN n).drewN n2 = w1 at q0 q1 f0 f1 Hb1 ⊢
      go_wp2_with fail
      refine bodyPost_ret (v := .tuple #[.agg #[.string (S k), .string (S v)], .string (S r), .int .i64 0]) (by simp [results, Tryz.results75, go_sem, q0, q1]) rfl ?_
      rw [E.out]
      exact ⟨rfl, (Hb1.out.setCell (Nat.le_refl _) _).setCell (Nat.le_refl _) _⟩
end Go.Proofs.YtbllnelnajfjgaaGreatDoor
