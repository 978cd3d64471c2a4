/- slices.Concat of two slices of pairs. -/
import Derived.Test.YteapbjeapnmloaaGreatDoorGB
import Derived.Deep.AppendSrc
import Derived.Lib.AppendZeros
namespace Go.Proofs.YteapbjeapnmloaaGreatDoor
open Go Go.RowKit
set_option linter.unusedVariables false
theorem prs_cells {W : World} {v : Value} {l : List Pr} (h : PrsV W v l) (h0 : 0 < l.length) : ∃ a c, v = .slice (some a) l.length c ∧ ∀ j u, (prsVs l)[j]? = some u → W.cell? (a.add j) = some u := by
  obtain ⟨p, c, rfl, hlc, hc⟩ := h
  obtain ⟨b, o, rfl, hcell⟩ := hc h0
  refine ⟨⟨b, o, none⟩, c, rfl, fun j u hu => ?_⟩
  have hlt : j < (prsVs l).length := by
    rcases Nat.lt_or_ge j (prsVs l).length with h | h
    · exact h
    · rw [List.getElem?_eq_none h] at hu; cases hu
  rw [prsVs_len] at hlt
  obtain ⟨i, q, rfl, hq⟩ : ∃ i q, j = i * 2 + q ∧ q < 2 := ⟨j / 2, j % 2, by omega, by omega⟩
  obtain ⟨g0, g1⟩ := prsVs_get l i (by omega)
  obtain ⟨c0, c1⟩ := hcell i (by omega)
  have e0 : (⟨b, o, none⟩ : Addr).add (i * 2 + q) = ⟨b, o + i * 2 + q, none⟩ := by rw [Addr.add_lit, Nat.add_assoc]
  rw [e0]
  have hq' : q = 0 ∨ q = 1 := by omega
  rcases hq' with rfl | rfl
  · rw [Nat.add_zero] at hu ⊢
    rw [g0] at hu
    rw [c0]; exact hu
  · rw [g1] at hu
    rw [c1]; exact hu
theorem src_prs {W : World} {v : Value} {l : List Pr} (h : PrsV W v l) : Src Tryz.prog 2 22 v l.length (prsVs l) W := by
  by_cases h0 : 0 < l.length
  · obtain ⟨a, c, rfl, hcell⟩ := prs_cells h h0
    exact Src.ofSlice W Tryz.underlying22 a l.length c (prsVs l) (prsVs_len l) hcell (prsVs_one l)
  · obtain rfl : l = [] := List.eq_nil_of_length_eq_zero (by omega)
    obtain ⟨p, c, rfl, _⟩ := h
    refine ⟨.inl ⟨_, Tryz.underlying22⟩, fun _ => rfl, ?_, ?_, rfl, fun _ h => by cases h⟩
    · cases p with
      | none => exact run_firstCells_none W 2 0 0 c
      | some a => exact run_firstCells_some W 2 0 a 0 c [] rfl (fun j u hu => by simp at hu)
    · cases p with
      | none => exact run_firstCells_none W.drew 2 0 0 c
      | some a => exact run_firstCells_some W.drew 2 0 a 0 c [] rfl (fun j u hu => by simp at hu)
/-- an append of pairs to pairs of a call's own -/
theorem run_append_prs {W : World} {base : Nat} {v x : Value} {l m : List Pr} (h : PrBuf base W v l) (hx : PrsV W x m) (hl : l.length ≤ 100000) (hm : m.length ≤ 100000) (hb : base ≤ W.heap.size) :
    ∃ v' W', (Builtin.append_ #[22, 22] 22 #[v, x]).run Tryz.prog W = .ok v' W' ∧ PrBuf base W' v' (l ++ m) ∧ W.grownBy W' v.ownBlock := by
  obtain ⟨i0, hi, hz0, hz1, hz2⟩ := infoPr
  by_cases h0 : 0 < m.length
  · obtain ⟨a, c, rfl, hcell⟩ := prs_cells hx h0
    obtain ⟨v5, w5, hrun, hown, hgrow, _⟩ := run_append_own (P := Tryz.prog) (w := W) base 22 22 35 i0 (.agg #[.string (S []), .string (S [])]) 2 32 Tryz.underlying22 hi hz0 hz1 hz2 rfl (by decide) v l.length (prsVs l) h a m.length c (prsVs m) (prsVs_len m) hcell (prsVs_one m) (by unfold maxLen; omega) (by omega) hb
    refine ⟨v5, w5, hrun, ?_, hgrow⟩
    unfold PrBuf
    rw [prsVs_app, List.length_append]
    exact hown
  · obtain rfl : m = [] := List.eq_nil_of_length_eq_zero (by omega)
    have hsrc := src_prs hx
    refine ⟨v, W, ?_, by rw [List.append_nil]; exact h, ⟨rfl, rfl, rfl, Nat.le_refl _, fun _ _ _ => rfl⟩⟩
    have hcl : (Builtin.firstCells 2 0 x).run Tryz.prog W = .ok #[] W := hsrc.cells
    have hlx : ∀ w' : World, (Builtin.lenOf x).run Tryz.prog w' = .ok 0 w' := hsrc.len
    rcases h.2 with ⟨rfl, h0⟩ | ⟨g, cap, cur, rfl, hbg, hg, hnc, hcm, hcs, htake⟩
    · simp [Builtin.append_, run_underlying Tryz.underlying22, sizeOf, typeInfo, hi, hz1, hlx, hcl]
    · have hr := run_append_room_src (P := Tryz.prog) W 22 22 22 35 i0 Tryz.underlying22 hi g 0 l.length cap x 0 (prsVs []) (by rw [hz1]; exact hsrc) (by omega)
        (fun j hj => absurd hj (by simp [prsVs])) (fun j hj => absurd hj (by simp [prsVs]))
      rw [hr]
      simp [prsVs, World.setCells]
def RetRoomP (w : World) (e : Ending) (w' : World) : Prop := ∃ v, e = .returned v ∧ PrBuf w.heap.size w' v [] ∧ Below w.heap.size w w'
set_option maxRecDepth 100000 in
theorem growP_any (n : Nat) (w : World) (hn : n ≤ 100000) :
    Calls Tryz.prog 56 #[.slice none 0 0, .int .i64 (n : Int)] w (RetRoomP w) := by
  obtain ⟨i, hi, hz, hs, hb⟩ := infoPr
  by_cases h0 : n = 0
  · subst h0
    go_enter Tryz.func56, Tryz.ntmps56
    go_wp2_with fail
    go_ret
    exact ⟨_, rfl, PrBuf.nil _ _, Below.refl _ _⟩
  · have hr := fun ty => Lib.run_append_nil_zeros (P := Tryz.prog) w 22 3 ty 35 i _ .i64 .i64 Tryz.underlying22 Tryz.underlying3 hi hz n (by omega) (by omega) (by omega) (by rw [hb]; omega)
    have hge := grownCap_ge w n 0 35
    have hle := grownCap_le_maxLen w n 0 35 (by unfold maxLen; omega)
    obtain ⟨G, hG⟩ : ∃ G, grownCap w n 0 35 = G := ⟨_, rfl⟩
    simp only [hG] at hr hge hle
    have hrow : (w.drew.alloc (.cells (Builtin.zeroCells (Value.agg #[.string (S []), .string (S [])]).cells n ++ Builtin.zeroCells (Value.agg #[.string (S []), .string (S [])]).cells (G - n)) 35)).ownsRow w.heap.size 35 2 (.slice (some ⟨w.heap.size, 0, none⟩) 0 G) 0 [] := by
      refine ⟨rfl, .inr ⟨w.heap.size, G, _, rfl, Nat.le_refl _, heap_alloc_new w.drew _, Nat.zero_le _, hle, ?_, rfl⟩⟩
      simp only [Array.size_append, size_zeroCells]
      have : (Value.agg #[.string (S []), .string (S [])]).cells.size = 2 := rfl
      rw [this]
      omega
    have hlow : Below w.heap.size w (w.drew.alloc (.cells (Builtin.zeroCells (Value.agg #[.string (S []), .string (S [])]).cells n ++ Builtin.zeroCells (Value.agg #[.string (S []), .string (S [])]).cells (G - n)) 35)) := (Below.refl _ _).drew.alloc (Nat.le_refl _) _
    have HR := Lib.hid hrow
    have HL := Lib.hid hlow
    have hr3 := hr 22
    generalize w.drew.alloc (.cells (Builtin.zeroCells (Value.agg #[.string (S []), .string (S [])]).cells n ++ Builtin.zeroCells (Value.agg #[.string (S []), .string (S [])]).cells (G - n)) 35) = w2 at HR HL hr3
    have Hr := Lib.hid hr3
    have Hge := Lib.hid hge
    have hn0 : 0 < n := by omega
    have hge2 : n ≤ G := hge
    clear hr hr3 hrow hlow hG hge hle
    go_enter Tryz.func56, Tryz.ntmps56
    go_wp2_with (at_builtin; refine Lib.wpList_append_run _ rfl _ _ _ _ rfl _ _ rfl rfl _ _ Hr.out ?_)
    go_ret
    exact ⟨_, rfl, HR.out, HL.out⟩
set_option maxRecDepth 100000 in
set_option maxHeartbeats 1000000 in
theorem concatP_any (a b : List Pr) (va vb : Value) (bb : Nat) (w : World) (hA : PrsV w va a) (hB : PrsV w vb b) (h0 : w.cell? ⟨bb, 0, none⟩ = some va) (h1 : w.cell? ⟨bb, 1, none⟩ = some vb) (hla : a.length ≤ 1000) (hlb : b.length ≤ 1000) :
    Calls Tryz.prog 24 #[.slice (some ⟨bb, 0, none⟩) 2 2] w (RetPB w (a ++ b)) := by
  have G := Lib.hid (growP_any (a.length + b.length) w (by omega))
  have HA := Lib.hid hA
  have HB := Lib.hid hB
  obtain ⟨pa, ca, rfl⟩ := hA.form
  obtain ⟨pb, cb, rfl⟩ := hB.form
  have H0 := Lib.hid h0
  have H1 := Lib.hid h1
  simp only [Int.natCast_add] at G
  clear hA hB
  go_enter Tryz.func24, Tryz.ntmps24
  go_wp2_with fail
  refine wp_loop_rounds 3 ?_
  rw [rounds_succ]
  go_wp2_with fail
  rw [rounds_succ]
  go_wp2_with fail
  rw [rounds_succ]
  go_wp2_with fail
  refine G.out.mono ?_
  rintro e w1 ⟨v0, rfl, hroom, hb1⟩
  have HA1 := HA.out.later hb1
  have HB1 := HB.out.later hb1
  obtain ⟨v1, W1, hr1, room1, low1⟩ := run_append_prs hroom HA1 (by simp) (by omega) hb1.size
  have hl1 : Below w.heap.size w W1 := hb1.grown low1 hb1.size hroom.ge
  have HB2 := HB.out.later hl1
  obtain ⟨v2, W2, hr2, room2, low2⟩ := run_append_prs room1 HB2 (by simp; omega) (by omega) hl1.size
  have Hl2 := Lib.hid (hl1.grown low2 hl1.size room1.ge)
  have Hroom2 := Lib.hid room2
  have c0 := ((bcell hb1).1 bb 0 (block_lt_of_cell H0.out)).trans h0
  have c1 := ((bcell hl1).1 bb 1 (block_lt_of_cell H1.out)).trans h1
  have Hr1 := Lib.hid hr1
  have Hr2 := Lib.hid hr2
  obtain ⟨p0, q0, rfl⟩ := hroom.form
  clear h0 h1 HA HB H0 H1 G hroom hb1 HA1 HB1 hr1 room1 low1 hl1 HB2 hr2 room2 low2
  simp only [List.nil_append, List.length_nil] at *
  go_wp2_with fail
  refine wp_loop_rounds 3 ?_
  rw [rounds_succ]
  go_wp2_with (at_builtin; refine Lib.wpList_append_run _ rfl _ _ _ _ rfl _ _ rfl rfl _ _ Hr1.out ?_)
  clear c0
  rw [rounds_succ]
  go_wp2_with (at_builtin; refine Lib.wpList_append_run _ rfl _ _ _ _ rfl _ _ rfl rfl _ _ Hr2.out ?_)
  rw [rounds_succ]
  go_wp2_with fail
  go_ret
  exact ⟨_, rfl, Hroom2.out, Hl2.out⟩
end Go.Proofs.YteapbjeapnmloaaGreatDoor
