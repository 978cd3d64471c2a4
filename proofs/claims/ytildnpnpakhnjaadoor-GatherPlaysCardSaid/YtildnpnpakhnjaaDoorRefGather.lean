/- The reference's gatherer: Add. -/
import Derived.Test.YtildnpnpakhnjaaDoorRefUnpairs
import Derived.Test.YtildnpnpakhnjaaDoorGatherOps
namespace Go.Proofs.YtildnpnpakhnjaaDoor
open Go.RowKit
set_option linter.unusedVariables false
/-- the reference's gatherer lies at rb -/
def RG (W : World) (rb : Nat) (G : Ga) : Prop := ∃ t, Blk W rb #[.string (S G.came), .int .i64 (G.most : Int)] t
theorem RG.later {W W' : World} {rb : Nat} {G : Ga} (h : RG W rb G) (hb : Below W.heap.size W W') : RG W' rb G := by
  obtain ⟨t, h⟩ := h; exact ⟨t, h.later hb⟩
theorem RG.lt {W : World} {rb : Nat} {G : Ga} (h : RG W rb G) : rb < W.heap.size := by obtain ⟨t, h⟩ := h; exact h.lt
theorem RG.kept {W W' : World} {rb : Nat} {G : Ga} (h : RG W rb G) (hb : W'.heap[rb]? = W.heap[rb]?) : RG W' rb G := by
  obtain ⟨t, h⟩ := h; exact ⟨t, hb.trans h⟩
theorem Keeps.setNew {N : Nat} {w w1 : World} {H H1 : Nat → Prop} (h : Keeps N w w1 H H1) {b : Nat} (hb : N ≤ b) (i : Nat) (v : Value) : Keeps N w (w1.setCell ⟨b, i, none⟩ v) H H1 :=
  ⟨h.os, h.tape, h.output, by simp [World.setCell]; exact h.size, fun k hk hH => (setCell_heap_other (by omega) v).trans (h.block k hk hH), h.more, h.old⟩
theorem MaxCell.setS {w : World} {rb : Nat} {x y : Value} {t : TypeId} (hm : MaxCell w) (hb : Blk w rb #[x, y] t) (hx : ∀ m, x ≠ .int .i64 m) (i : Nat) (v : Value) : MaxCell (w.setCell ⟨rb, i, none⟩ v) := by
  obtain ⟨m, hm⟩ := hm
  have hne : 2 ≠ rb := fun e => by
    rw [e, hb.cell 0] at hm
    simp at hm
    exact hx m hm
  exact ⟨m, (World.cell?_of_block (w := w) (a := ⟨2, 0, none⟩) (setCell_heap_other hne v)).trans hm⟩
/-- what an addition comes to -/
def RetRA (w : World) (rb : Nat) (l : List Pr) (n p : Int) (G : Ga) (e : Ending) (w' : World) : Prop := ∃ v, e = .returned (.tuple #[v, .agg #[.int .i64 n, .int .i64 p]]) ∧ PrsV w' v l ∧ RG w' rb G ∧ Keeps w.heap.size w w' (fun k => k = rb) (fun k => k = rb)
theorem PrsV.setInts {W : World} {v : Value} {l : List Pr} {b : Nat} {t : TypeId} {x y : Int} (h : PrsV W v l) (hb : Blk W b #[.int .i64 x, .int .i64 y] t) (i : Nat) (u : Value) : PrsV (W.setCell ⟨b, i, none⟩ u) v l := by
  obtain ⟨p, c, hv, hlc, hc⟩ := h
  refine ⟨p, c, hv, hlc, fun hl => ?_⟩
  obtain ⟨g, o, hp, hcell⟩ := hc hl
  have hne : g ≠ b := fun e => by
    have h0 := (hcell 0 hl).1
    rw [e] at h0
    rcases two_cell hb h0 with ⟨_, h⟩ | ⟨_, h⟩ <;> cases h
  exact ⟨g, o, hp, fun j hj => ⟨(World.cell?_of_block (w := W) (a := ⟨g, o + j * 2, none⟩) (setCell_heap_other hne u)).trans (hcell j hj).1, (World.cell?_of_block (w := W) (a := ⟨g, o + j * 2 + 1, none⟩) (setCell_heap_other hne u)).trans (hcell j hj).2⟩⟩
theorem Cell2.keeps {W W' : World} {N b : Nat} {x y : Int} {H H' : Nat → Prop} (h : Cell2 W b x y) (hk : Keeps N W W' H H') (hb : b < N) (hH : ¬ H b) : Cell2 W' b x y := (hk.block b hb hH).trans h
set_option maxRecDepth 100000 in
set_option maxHeartbeats 1000000 in
theorem refAdd_any {w : World} {rb : Nat} {G G' : Ga} {l : List Pr} {n p : Int} (s : List UInt8) (more : Bool) (hl : s.length ≤ 140737488351232) (hfit : G.came.length ≤ G.most) (hmo : G.most ≤ 20000) (hR : RG w rb G) (hm : MaxCell w) (hr : addG G s more = ((l, n, p), G')) :
    Calls Tryd.prog 44 #[.pointer (some ⟨rb, 0, none⟩), .string (S s), .bool more] w (RetRA w rb l n p G') := by
  obtain ⟨mo, came⟩ := G
  simp only at hfit hmo
  have hlt := hR.lt
  obtain ⟨t, hB⟩ := hR
  simp only at hB
  have hb0 := (Below.refl w.heap.size w).alloc (Nat.le_refl _) (.cells #[.int .i64 0, .int .i64 0] 26)
  have hF0 := cell2_new w
  have hB0 := hB.later hb0
  have hm0 := hm.later hb0
  have hsz0 : (w.alloc (.cells #[.int .i64 0, .int .i64 0] 26)).heap.size = w.heap.size + 1 := by simp
  obtain ⟨W0, hW0⟩ : ∃ W0, w.alloc (.cells #[.int .i64 0, .int .i64 0] 26) = W0 := ⟨_, rfl⟩
  rw [hW0] at hb0 hF0 hB0 hm0 hsz0
  obtain ⟨q0, q1⟩ := hB0.two
  have f0 := hB0.frozen 0
  have hB1 := hB0.set 0 (.string (S []))
  have hm1 := hm0.setS hB0 (fun m h => by cases h) 0 (.string (S []))
  have hK1 : Keeps w.heap.size w (W0.setCell ⟨rb, 0, none⟩ (.string (S []))) (fun k => k = rb) (fun k => k = rb) := (Keeps.of hb0 _).trans (Keeps.cell (N := w.heap.size) (w := W0) (H := fun k => k = rb) (fb := rb) rfl 0 (.string (S []))) (Nat.le_refl _)
  have hF1 : Cell2 (W0.setCell ⟨rb, 0, none⟩ (.string (S []))) w.heap.size 0 0 := Blk.other (show Blk W0 w.heap.size #[.int .i64 0, .int .i64 0] 26 from hF0) (by omega) _
  have hsz1 : (W0.setCell ⟨rb, 0, none⟩ (.string (S []))).heap.size = w.heap.size + 1 := by rw [← hsz0]; simp [World.setCell]
  obtain ⟨W1, hW1⟩ : ∃ W1, W0.setCell ⟨rb, 0, none⟩ (.string (S [])) = W1 := ⟨_, rfl⟩
  rw [hW1] at hB1 hm1 hK1 hF1 hsz1
  have hset : (#[Value.string (S came), .int .i64 (mo : Int)].setIfInBounds 0 (Value.string (S []))) = #[Value.string (S []), .int .i64 (mo : Int)] := rfl
  rw [hset] at hB1
  obtain ⟨r0, r1⟩ := hB1.two
  have g0 := hB1.frozen 0
  have hcl : ¬ 9223372036854775807 < came.length + s.length := by omega
  have HB1 := Lib.hid hB1
  have HF1 := Lib.hid hF1
  have HK1 := Lib.hid hK1
  have Hm1 := Lib.hid hm1
  have Hsz := Lib.hid hsz1
  have HR := Lib.hid hr
  have i1 : (came.length : Int) ≤ 20000 := by omega
  have i2 : (s.length : Int) ≤ 140737488351232 := by omega
  clear hB hB0 hB1 hm hm0 hm1 hK1 hF0 hF1 hb0 hsz0 hsz1 hset hr
  by_cases hfull : mo < came.length + s.length
  · have e := addG_full (G := ⟨mo, came⟩) (s := s) more hfull
    rw [HR.out] at e
    cases e
    have hfI : (mo : Int) < (came.length : Int) + (s.length : Int) := by omega
    have BF := fun w => Lib.hid (bareF 12 w)
    clear hfull hfit hl
    go_enter Tryd.func44, Tryd.ntmps44
    go_wp2_with fail
    refine (BF _).out.mono ?_
    rintro e w2 ⟨rfl, hb2⟩
    have HF2 := Lib.hid (HF1.out.later hb2)
    have HB2 := Lib.hid (HB1.out.later hb2)
    have HK2 := Lib.hid (HK1.out.then (Keeps.of hb2 _))
    obtain ⟨x0, x1⟩ := HF2.out.cells
    have k0 := HF2.out.frozen 0
    have k1 := HF2.out.frozen 1
    clear hb2
    go_wp2_with fail
    refine bodyPost_ret (v := .tuple #[.slice none 0 0, .agg #[.int .i64 12, .int .i64 (-1)]]) (by simp [results, Tryd.results44, go_sem, x0, x1]) rfl ?_
    exact ⟨_, rfl, PrsV.nil _, ⟨_, ((HB2.out.other (by omega) _).other (by omega) _)⟩, (HK2.out.setNew (Nat.le_refl _) _ _).setNew (Nat.le_refl _) _ _⟩
  have hfI : (came.length : Int) + (s.length : Int) ≤ (mo : Int) := by omega
  cases more with
  | true =>
    have e := addG_more (G := ⟨mo, came⟩) (s := s) (by simp only; omega)
    rw [HR.out] at e
    cases e
    have GF := fun w => Lib.hid (goodF w)
    have hB2 := HB1.out.set 0 (.string (S (came ++ s)))
    have hK2 := HK1.out.trans (Keeps.cell (N := w.heap.size) (w := W1) (H := fun k => k = rb) (fb := rb) rfl 0 (.string (S (came ++ s)))) (Nat.le_refl _)
    have hF2 : Cell2 (W1.setCell ⟨rb, 0, none⟩ (.string (S (came ++ s)))) w.heap.size 0 0 := Blk.other (show Blk W1 w.heap.size #[.int .i64 0, .int .i64 0] 26 from HF1.out) (by omega) _
    have HB2 := Lib.hid (show Blk (W1.setCell ⟨rb, 0, none⟩ (.string (S (came ++ s)))) rb #[.string (S (came ++ s)), .int .i64 (mo : Int)] t from hB2)
    have HK2 := Lib.hid hK2
    have HF2 := Lib.hid hF2
    clear hfull hfit hl hB2 hK2 hF2
    go_enter Tryd.func44, Tryd.ntmps44
    go_wp2_with fail
    refine (GF _).out.mono ?_
    rintro e w2 ⟨rfl, hb2⟩
    have HF3 := Lib.hid (HF2.out.later hb2)
    have HB3 := Lib.hid (HB2.out.later hb2)
    have HK3 := Lib.hid (HK2.out.then (Keeps.of hb2 _))
    obtain ⟨x0, x1⟩ := HF3.out.cells
    have k0 := HF3.out.frozen 0
    have k1 := HF3.out.frozen 1
    clear hb2
    go_wp2_with fail
    refine bodyPost_ret (v := .tuple #[.slice none 0 0, .agg #[.int .i64 0, .int .i64 (-1)]]) (by simp [results, Tryd.results44, go_sem, x0, x1]) rfl ?_
    exact ⟨_, rfl, PrsV.nil _, ⟨_, ((HB3.out.other (by omega) _).other (by omega) _)⟩, (HK3.out.setNew (Nat.le_refl _) _ _).setNew (Nat.le_refl _) _ _⟩
  | false =>
    have e := addG_end (G := ⟨mo, came⟩) (s := s) (by simp only; omega)
    rw [HR.out] at e
    simp only [Prod.mk.injEq] at e
    obtain ⟨he, rfl⟩ := e
    have U := refUnpairs_any (came ++ s) W1 (by rw [List.length_append]; omega) Hm1.out
    rw [← he] at U
    have U := Lib.hid U
    clear hfull hfit hl he
    go_enter Tryd.func44, Tryd.ntmps44
    go_wp2_with fail
    refine U.out.mono ?_
    rintro e w2 ⟨v2, rfl, hv2, hb2⟩
    have HF2 := Lib.hid (HF1.out.later hb2)
    have HB2 := Lib.hid (HB1.out.later hb2)
    have HK2 := Lib.hid (HK1.out.then (Keeps.of hb2 _))
    have HV2 := Lib.hid hv2
    obtain ⟨x0, x1⟩ := HF2.out.cells
    have k0 := HF2.out.frozen 0
    have k1 := HF2.out.frozen 1
    obtain ⟨p2, c2, rfl⟩ := hv2.form
    clear hb2 hv2
    go_wp2_with fail
    refine bodyPost_ret (v := .tuple #[.slice p2 l.length c2, .agg #[.int .i64 n, .int .i64 p]]) (by simp [results, Tryd.results44, go_sem, x0, x1]) rfl ?_
    refine ⟨_, rfl, (HV2.out.setInts (show Blk w2 w.heap.size #[.int .i64 0, .int .i64 0] 26 from HF2.out) 0 (.int .i64 n)).setInts (x := n) (y := 0) (Blk.set (show Blk w2 w.heap.size #[.int .i64 0, .int .i64 0] 26 from HF2.out) 0 (.int .i64 n)) 1 _, ⟨_, ((HB2.out.other (by omega) _).other (by omega) _)⟩, (HK2.out.setNew (Nat.le_refl _) _ _).setNew (Nat.le_refl _) _ _⟩
end Go.Proofs.YtildnpnpakhnjaaDoor
