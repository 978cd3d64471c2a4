/- slices.Concat of two slices of pairs, however long. -/
import Derived.Test.YtildnpnpakhnjaaDoorPrs
import Derived.Deep.AppendSrc
import Derived.Lib.AppendZeros
namespace Go.Proofs.YtildnpnpakhnjaaDoor
open Go Go.RowKit
/-- a slice of the call's own with room for so many -/
def PrRoom (base : Nat) (W : World) (v : Value) (l : List Pr) (N : Nat) : Prop := PrBuf base W v l ∧ ∃ p c, v = .slice p l.length c ∧ N ≤ c
theorem PrRoom.later {base : Nat} {W W' : World} {v : Value} {l : List Pr} {N : Nat} (h : PrRoom base W v l N) (hb : Below W.heap.size W W') : PrRoom base W' v l N := ⟨h.1.later hb, h.2⟩
theorem src_prs {W : World} {v : Value} {l : List Pr} (h : PrsV W v l) : Src Tryd.prog 2 22 v l.length (prsVs l) W := by
  obtain ⟨p, c, rfl, hlc, hc⟩ := h
  by_cases h0 : 0 < l.length
  · obtain ⟨b, o, rfl, hcell⟩ := hc h0
    refine Src.ofSlice W Tryd.underlying22 ⟨b, o, none⟩ l.length c (prsVs l) (prsVs_len l) (fun j u hu => ?_) (prsVs_one l)
    have hlt : j < (prsVs l).length := by
      rcases Nat.lt_or_ge j (prsVs l).length with h | h
      · exact h
      · rw [List.getElem?_eq_none h] at hu; cases hu
    rw [prsVs_len] at hlt
    obtain ⟨i, q, rfl, hq⟩ : ∃ i q, j = i * 2 + q ∧ q < 2 := ⟨j / 2, j % 2, by omega, by omega⟩
    obtain ⟨g0, g1⟩ := prsVs_get l i (by omega)
    obtain ⟨c0, c1⟩ := hcell i (by omega)
    rw [Addr.add_lit]
    have hq' : q = 0 ∨ q = 1 := by omega
    rcases hq' with rfl | rfl
    · rw [Nat.add_zero] at hu ⊢
      rw [g0] at hu
      rw [c0]; exact hu
    · rw [g1] at hu
      rw [← Nat.add_assoc, c1]; exact hu
  · obtain rfl : l = [] := List.eq_nil_of_length_eq_zero (by omega)
    refine ⟨.inl ⟨_, Tryd.underlying22⟩, fun _ => rfl, ?_, ?_, rfl, fun _ h => by cases h⟩
    · cases p with
      | none => exact run_firstCells_none W 2 0 0 c
      | some a => exact run_firstCells_some W 2 0 a 0 c [] rfl (fun j u hu => by simp at hu)
    · cases p with
      | none => exact run_firstCells_none W.drew 2 0 0 c
      | some a => exact run_firstCells_some W.drew 2 0 a 0 c [] rfl (fun j u hu => by simp at hu)
/-- append where there is room, however long -/
theorem run_append_room_prs {W : World} {base N : Nat} {v x : Value} {l m : List Pr} (ty : TypeId) (h : PrRoom base W v l N) (hx : PrsV W x m) (hN : l.length + m.length ≤ N) :
    ∃ v' W', (Builtin.append_ #[22, 22] ty #[v, x]).run Tryd.prog W = .ok v' W' ∧ PrRoom base W' v' (l ++ m) N ∧ Below base W W' ∧ W.heap.size ≤ W'.heap.size := by
  obtain ⟨i, hi, hz, hs, hb⟩ := infoPr
  have hsrc := src_prs hx
  obtain ⟨hbuf, p, c, hv, hNc⟩ := h
  rcases hbuf.2 with ⟨rfl, h0⟩ | ⟨g, cap, cur, rfl, hbg, hg, hnc, hcm, hcs, htake⟩
  · obtain rfl : l = [] := List.eq_nil_of_length_eq_zero h0
    have hc0 : 0 = c := by injection hv
    obtain rfl : m = [] := List.eq_nil_of_length_eq_zero (by simp at hN; omega)
    refine ⟨.slice none 0 0, W, ?_, ⟨PrBuf.nil _ _, none, 0, rfl, by omega⟩, Below.refl _ _, Nat.le_refl _⟩
    have hcl : (Builtin.firstCells 2 0 x).run Tryd.prog W = .ok #[] W := hsrc.cells
    have hl : ∀ w' : World, (Builtin.lenOf x).run Tryd.prog w' = .ok 0 w' := hsrc.len
    simp [Builtin.append_, run_underlying Tryd.underlying22, sizeOf, typeInfo, hi, hs, hl, hcl]
  · have hcc : cap = c := by injection hv
    subst hcc
    have hcell : ∀ j, W.cell? ⟨g, j, none⟩ = cur[j]? := fun j => cell_of_row W g j cur _ (0, 0) hg
    have hfro : ∀ j, W.frozen? ⟨g, j, none⟩ = false := fun j => World.ownsRow.frozenAt hbuf j
    have hr := run_append_room_src (P := Tryd.prog) W 22 22 ty 46 i Tryd.underlying22 hi g 0 l.length cap x m.length (prsVs m) (by rw [hs]; exact hsrc) (by omega)
      (fun j hj => by
        rw [prsVs_len] at hj
        rw [hs, Nat.zero_add, hcell, Array.getElem?_eq_getElem (by omega)]
        rfl) (fun j _ => hfro _)
    have hset : W.setCells g (0 + l.length * i.size) (prsVs m) = W.setRow g ((cur.toList.take (l.length * 2) ++ prsVs m ++ cur.toList.drop (l.length * 2 + (prsVs m).length)).toArray) := by
      have hst := run_storeCells_at Tryd.prog g (l.length * 2) 46 (prsVs m) 0 cur W hg (by rw [prsVs_len]; omega) (prsVs_one m)
      have hst2 := run_storeCells_cells (P := Tryd.prog) g (0 + l.length * i.size) (prsVs m) 0 W
        (fun j hj => by
          rw [prsVs_len] at hj
          rw [hs, Nat.zero_add, Nat.add_zero, hcell, Array.getElem?_eq_getElem (by omega)]
          rfl) (fun j _ => hfro _) (prsVs_one m)
      simp only [Nat.add_zero, Nat.zero_add, hs] at hst hst2
      rw [hst] at hst2
      have := Result.ok.inj hst2
      rw [hs, Nat.zero_add]
      simpa using this.2.symm
    rw [hset, htake] at hr
    refine ⟨_, _, hr, ⟨⟨by rw [prsVs_len], .inr ⟨g, cap, _, by rw [List.length_append], hbg, setRow_heap W g cur _ _ _ hg, by rw [List.length_append]; omega, hcm, ?_, ?_⟩⟩, _, cap, by rw [List.length_append], hNc⟩,
      ⟨rfl, rfl, rfl, by simp [World.setRow], fun k hk => setRow_other W g k _ (by omega)⟩, by simp [World.setRow]⟩
    · simp only [List.size_toArray, List.length_append, List.length_drop, Array.length_toList, prsVs_len]
      omega
    · rw [← prsVs_app]
      exact List.take_left' (by rw [prsVs_len])
def RetRoomP (w : World) (n : Nat) (e : Ending) (w' : World) : Prop := ∃ v, e = .returned v ∧ PrRoom w.heap.size w' v [] n ∧ Below w.heap.size w w'
def RetPrs (w : World) (l : List Pr) (e : Ending) (w' : World) : Prop := ∃ v, e = .returned v ∧ PrsV w' v l ∧ Below w.heap.size w w'
set_option maxRecDepth 100000 in
theorem growP_any (n : Nat) (w : World) (hn : n * 32 ≤ 281474976710656) :
    Calls Tryd.prog 59 #[.slice none 0 0, .int .i64 (n : Int)] w (RetRoomP w n) := by
  obtain ⟨i, hi, hz, hs, hb⟩ := infoPr
  by_cases h0 : n = 0
  · subst h0
    go_enter Tryd.func59, Tryd.ntmps59
    go_wp2_with fail
    go_ret
    exact ⟨_, rfl, ⟨PrBuf.nil _ _, none, 0, rfl, Nat.le_refl _⟩, Below.refl _ _⟩
  · have hr := fun ty => Lib.run_append_nil_zeros (P := Tryd.prog) w 22 3 ty 46 i _ .i64 .i64 Tryd.underlying22 Tryd.underlying3 hi hz n (by omega) (by omega) (by omega) (by rw [hb]; omega)
    have hge := grownCap_ge w n 0 46
    have hle := grownCap_le_maxLen w n 0 46 (by unfold maxLen; omega)
    obtain ⟨G, hG⟩ : ∃ G, grownCap w n 0 46 = G := ⟨_, rfl⟩
    simp only [hG] at hr hge hle
    have hrow : (w.drew.alloc (.cells (Builtin.zeroCells (Value.agg #[Value.string (S []), .string (S [])]).cells n ++ Builtin.zeroCells (Value.agg #[Value.string (S []), .string (S [])]).cells (G - n)) 46)).ownsRow w.heap.size 46 2 (.slice (some ⟨w.heap.size, 0, none⟩) 0 G) 0 [] := by
      refine ⟨rfl, .inr ⟨w.heap.size, G, _, rfl, Nat.le_refl _, heap_alloc_new w.drew _, Nat.zero_le _, hle, ?_, rfl⟩⟩
      simp only [Array.size_append, size_zeroCells]
      have : (Value.agg #[Value.string (S []), .string (S [])]).cells.size = 2 := rfl
      rw [this]
      omega
    have hlow : Below w.heap.size w (w.drew.alloc (.cells (Builtin.zeroCells (Value.agg #[Value.string (S []), .string (S [])]).cells n ++ Builtin.zeroCells (Value.agg #[Value.string (S []), .string (S [])]).cells (G - n)) 46)) := (Below.refl _ _).drew.alloc (Nat.le_refl _) _
    have HR := Lib.hid hrow
    have HL := Lib.hid hlow
    have hr3 := hr 22
    generalize w.drew.alloc (.cells (Builtin.zeroCells (Value.agg #[Value.string (S []), .string (S [])]).cells n ++ Builtin.zeroCells (Value.agg #[Value.string (S []), .string (S [])]).cells (G - n)) 46) = w2 at HR HL hr3
    have Hr := Lib.hid hr3
    have Hge := Lib.hid hge
    have hn0 : 0 < n := by omega
    have hge2 : n ≤ G := hge
    clear hr hr3 hrow hlow hG hge hle
    go_enter Tryd.func59, Tryd.ntmps59
    go_wp2_with (at_builtin; refine Lib.wpList_append_run _ rfl _ _ _ _ rfl _ _ rfl rfl _ _ Hr.out ?_)
    go_ret
    exact ⟨_, rfl, ⟨HR.out, _, G, rfl, Hge.out⟩, HL.out⟩
set_option maxRecDepth 100000 in
set_option maxHeartbeats 1000000 in
theorem concatP_any (a b : List Pr) (va vb : Value) (bb : Nat) (w : World) (hA : PrsV w va a) (hB : PrsV w vb b) (h0 : w.cell? ⟨bb, 0, none⟩ = some va) (h1 : w.cell? ⟨bb, 1, none⟩ = some vb)
    (hla : a.length * 32 ≤ 140737488355328) (hlb : b.length * 32 ≤ 140737488355328) :
    Calls Tryd.prog 31 #[.slice (some ⟨bb, 0, none⟩) 2 2] w (RetPrs w (a ++ b)) := by
  have G := Lib.hid (growP_any (a.length + b.length) w (by omega))
  have HA := Lib.hid hA
  have HB := Lib.hid hB
  obtain ⟨pa, ca, rfl⟩ := hA.form
  obtain ⟨pb, cb, rfl⟩ := hB.form
  have H0 := Lib.hid h0
  have H1 := Lib.hid h1
  simp only [Int.natCast_add] at G
  clear hA hB
  go_enter Tryd.func31, Tryd.ntmps31
  go_wp2_with fail
  refine wp_loop_rounds 3 ?_
  rw [rounds_succ]
  go_wp2_with fail
  rw [rounds_succ]
  go_wp2_with fail
  rw [rounds_succ]
  go_wp2_with fail
  refine G.out.mono ?_
  rintro e w1 ⟨v0, rfl, hroom, hb1⟩
  have HA1 := HA.out.later hb1
  have HB1 := HB.out.later hb1
  obtain ⟨v1, W1, hr1, room1, low1, _⟩ := run_append_room_prs 22 hroom HA1 (by simp)
  have hl1 := hb1.trans low1
  have HB2 := HB.out.later hl1
  obtain ⟨v2, W2, hr2, room2, low2, _⟩ := run_append_room_prs 22 room1 HB2 (by simp)
  have hl2 := hl1.trans low2
  have Hl2 := Lib.hid hl2
  have Hroom2 := Lib.hid room2
  have c0 := ((bcell hb1).1 bb 0 (block_lt_of_cell H0.out)).trans h0
  have c1 := ((bcell hl1).1 bb 1 (block_lt_of_cell H1.out)).trans h1
  have Hr1 := Lib.hid hr1
  have Hr2 := Lib.hid hr2
  obtain ⟨p0, q0, rfl, hq0⟩ := hroom.2
  have hq := Lib.hid hq0
  clear h0 h1 HA HB H0 H1 G hroom hb1 HA1 HB1 hr1 room1 low1 hl1 HB2 hr2 room2 low2 hl2 hq0
  simp only [List.nil_append, List.length_nil] at *
  go_wp2_with fail
  refine wp_loop_rounds 3 ?_
  rw [rounds_succ]
  go_wp2_with (at_builtin; refine Lib.wpList_append_run _ rfl _ _ _ _ rfl _ _ rfl rfl _ _ Hr1.out ?_)
  clear c0
  rw [rounds_succ]
  go_wp2_with (at_builtin; refine Lib.wpList_append_run _ rfl _ _ _ _ rfl _ _ rfl rfl _ _ Hr2.out ?_)
  rw [rounds_succ]
  go_wp2_with fail
  go_ret
  exact ⟨_, rfl, Hroom2.out.1.prs, Hl2.out⟩
end Go.Proofs.YtildnpnpakhnjaaDoor
