/- GatherSplit: pieces are the text, each as long as it may be, but the last one. -/
import Derived.Test.YtildnpnpakhnjaaDoorGathered
import Derived.Test.YtildnpnpakhnjaaDoorSplitGo
import Derived.Test.YtildnpnpakhnjaaDoorPick
import Derived.Test.YtildnpnpakhnjaaDoorShJoin
namespace Go.Proofs.YtildnpnpakhnjaaDoor
open Go.RowKit
set_option linter.unusedVariables false
theorem join_nil : ∀ l : List (List UInt8), Lib.join l [] = l.flatten
  | [] => rfl
  | [a] => by simp [Lib.join, List.intercalate]
  | a :: b :: l => by
    have ih := join_nil (b :: l)
    unfold Lib.join List.intercalate at *
    rw [List.intersperse_cons_cons, List.flatten_cons, List.flatten_cons, ih, List.nil_append]
    rfl
theorem join_any (l : List (List UInt8)) (v : Value) (base : Nat) (w : World) (h : StBuf base w v l) (h0 : 0 < l.length) (hl : l.length ≤ 1000000) (hf : l.flatten.length ≤ 1000000) :
    Calls Tryd.prog 43 #[v, .string (S [])] w fun e w' => e = .returned (.string (S l.flatten)) ∧ Below w.heap.size w w' := by
  have hs := h.strs
  rcases h.2 with ⟨rfl, h00⟩ | ⟨g, cap, cur, rfl, hbg, hg, hnc, hcm, hcs, htake⟩
  · omega
  obtain ⟨p, c, hv, hc⟩ := hs
  obtain ⟨rfl, rfl⟩ : some (⟨g, 0, none⟩ : Addr) = p ∧ cap = c := by simpa using hv
  obtain ⟨b, o, hb, hcell⟩ := hc h0
  obtain ⟨rfl, rfl⟩ : g = b ∧ 0 = o := by simpa using hb
  have hl1 : (l.map S).length = l.length := by simp
  have hmm : (l.map S).map (·.data.toList) = l := by
    rw [List.map_map]
    have : ((fun x : ByteArray => x.data.toList) ∘ S) = id := funext fun x => by simp [S]
    rw [this, List.map_id]
  have hsep : (S []).data.toList = [] := by simp [S]
  have C := Tryd.strings_Join g 0 cap (l.map S) (S []) w (fun j x hx => by
      rw [List.getElem?_map] at hx
      have hj : j < l.length := by
        rcases Nat.lt_or_ge j l.length with h | h
        · exact h
        · rw [List.getElem?_eq_none h] at hx; cases hx
      rw [List.getElem?_eq_getElem hj] at hx
      simp at hx
      rw [hcell j hj, hx]) (block_lt_of_cell (w := w) (a := ⟨g, 0 + 0, none⟩) (hcell 0 h0)) (by rw [hl1]; omega) (by rw [hl1]; exact hnc) (by rw [hmm, hsep, join_nil]; omega)
  rw [hl1, hmm, hsep, join_nil] at C
  exact C
set_option maxRecDepth 100000 in
set_option maxHeartbeats 2000000 in
theorem gatherSplit_any (s : List UInt8) (size : Int) (w : World) (hs : s.length ≤ 140737488351232) (_hwf : (Lit.int .i64 size).wf = true) (hm : MaxCell w) (hg : ErrCell w) :
    Calls Tryd.prog 11 #[.string (S s), .int .i64 size] w fun e w' => e = .returned (.bool true) ∧ Below w.heap.size w w' := by
  have M := Lib.hid (gathered_any w hm hg)
  have K : ∀ W, Hid (Calls Tryd.prog 41 #[.int .i64 size, .int .i64 600] W fun e w' => e = .returned (.int .i64 (pickI size 600 : Nat)) ∧ W = w') := fun W => Lib.hid (pick_any size 600 W (by decide) (by decide))
  have hk := pickI_lt size 600 (by decide)
  generalize pickI size 600 = x at K hk
  clear hm hg
  go_enter Tryd.func11, Tryd.ntmps11
  go_wp2_with fail
  refine M.out.mono ?_
  rintro e w1 ⟨rfl, hb1⟩
  have Hb1 := Lib.hid hb1
  clear hb1 M
  by_cases h15 : 1500 < s.length
  · have i1 : (1500 : Int) < (s.length : Int) := by omega
    go_wp2_with fail
    go_ret
    exact ⟨rfl, Hb1.out⟩
  have i1 : (s.length : Int) ≤ 1500 := by omega
  have C1 := fun W => gsplit_any s (1 + x) W (by omega) (by omega) (by omega)
  have L1 := chunks_len (1 + x) (by omega) s
  have LE := chunks_each (1 + x) (by omega) s
  have LJ := chunks_join (1 + x) s
  generalize chunks (1 + x) s = cn at C1 L1 LE LJ
  have hle : (s.length + (1 + x) - 1) / (1 + x) ≤ s.length + (1 + x) - 1 := Nat.div_le_self _ _
  have hl1 : 1 ≤ cn.length := by omega
  have hl2 : cn.length ≤ 10000 := by omega
  rw [show ((1 + x : Nat) : Int) = 1 + (x : Int) by omega] at C1
  have HC1 := fun W => Lib.hid (C1 W)
  have HLE := Lib.hid LE
  have HLJ := Lib.hid LJ
  have hx6 : (x : Int) < 600 := by omega
  have hl1i : (1 : Int) ≤ (cn.length : Int) := by omega
  have hl2i : (cn.length : Int) ≤ 10000 := by omega
  clear L1 hle h15 LE LJ C1
  go_wp2_with fail
  refine (K _).out.mono ?_
  rintro e w2 ⟨rfl, rfl⟩
  go_wp2_with fail
  refine (HC1 _).out.mono ?_
  rintro e w2 ⟨v1, rfl, hv1, hb2⟩
  have HV := Lib.hid hv1
  have HS := Lib.hid hv1.strs
  obtain ⟨p1, c1, rfl⟩ := hv1.form
  have Hb2 := Lib.hid (below_then Hb1.out hb2)
  have J := Lib.hid (join_any cn _ _ _ hv1 (by omega) (by omega) (by rw [HLJ.out]; omega))
  rw [HLJ.out] at J
  clear hv1 hb2 HC1 K Hb1
  go_wp2_with fail
  go_loopw [25] (fun i wr => ∃ j : Nat, j ≤ cn.length ∧ i = .int .i64 j ∧ w2 = wr) (fun i _ => cn.length - (intOf i).toNat)
  case atStart => exact ⟨0, by omega, rfl, rfl⟩
  case round =>
    obtain ⟨j, hj, rfl, rfl⟩ := hrel
    by_cases hlt : j < cn.length
    · have hji : (j : Int) < (cn.length : Int) := by omega
      obtain ⟨b, o, rfl, hcell⟩ := HS.out.cell hlt
      obtain ⟨⟨h1, h2⟩, h3⟩ := HLE.out j hlt
      obtain ⟨y, hy⟩ : ∃ y, cn[j] = y := ⟨_, rfl⟩
      rw [hy] at hcell h1 h2 h3
      have hyl : (y.length : Int) ≤ 1 + (x : Int) := by omega
      have hor : (y.isEmpty = false ∨ (y.isEmpty = true ∧ s.isEmpty = true)) := by
        cases y with
        | nil => exact .inr ⟨rfl, by rw [h3 rfl]; rfl⟩
        | cons _ _ => exact .inl rfl
      have hlast : ((j : Int) + 1 < (cn.length : Int) ∧ ((y.length : Int) != 1 + (x : Int)) = false) ∨ (cn.length : Int) ≤ (j : Int) + 1 := by
        by_cases hh : j + 1 < cn.length
        · have := h2 hh
          exact .inl ⟨by omega, by simp; omega⟩
        · exact .inr (by omega)
      clear h1 h2 h3 hy
      rcases hor with hor | ⟨hor, hor2⟩ <;> rcases hlast with ⟨hl, hl'⟩ | hl
      all_goals
        go_wp2_with fail
        go_roundw
        case rel => exact ⟨j + 1, by omega, by go_num, by trivial⟩
        case measure => simp [intOf]; omega
    · obtain rfl : j = cn.length := by omega
      have e4 : (s == s) = true := by simp
      go_wp2_with fail
      refine J.out.mono ?_
      rintro e w3 ⟨rfl, hb3⟩
      have Hb3 := Lib.hid (below_then Hb2.out hb3)
      clear hb3 J
      go_wp2_with fail
      go_ret
      exact ⟨rfl, Hb3.out⟩
end Go.Proofs.YtildnpnpakhnjaaDoor
