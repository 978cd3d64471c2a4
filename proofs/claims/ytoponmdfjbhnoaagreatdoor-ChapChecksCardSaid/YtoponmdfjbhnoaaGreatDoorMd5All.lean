/- md5.stirAll. -/
import Derived.Test.YtoponmdfjbhnoaaGreatDoorMd5Low
import Derived.IntWalk
import Derived.Deep.RegionWith
namespace Go.Proofs.YtoponmdfjbhnoaaGreatDoor
open Go.RowKit
theorem keepcell {W w1 : World} (hb : Below W.heap.size W w1) {b o : Nat} {v : Value} (h : W.cell? ⟨b, o, none⟩ = some v) : w1.cell? ⟨b, o, none⟩ = some v := by
  rw [(bcell hb).1 b o (block_lt_of_cell (w := W) (a := ⟨b, o, none⟩) h)]; exact h
theorem keepfrozen {W w1 : World} (hb : Below W.heap.size W w1) {b o : Nat} {v : Value} (hc : W.cell? ⟨b, o, none⟩ = some v) (h : W.frozen? ⟨b, o, none⟩ = false) : w1.frozen? ⟨b, o, none⟩ = false := by
  rw [(bcell hb).2 b o (block_lt_of_cell (w := W) (a := ⟨b, o, none⟩) hc)]; exact h
/-- block b holds these four words -/
def At4 (W : World) (b : Nat) (s : St) : Prop := W.heap[b]? = some (.cells (st4 s) 59 (0, 0))
theorem At4.cells {W : World} {b : Nat} {s : St} (h : At4 W b s) : W.cell? ⟨b, 0, none⟩ = some (.int .u32 (s.1 : Int)) ∧ W.cell? ⟨b, 1, none⟩ = some (.int .u32 (s.2.1 : Int)) ∧ W.cell? ⟨b, 2, none⟩ = some (.int .u32 (s.2.2.1 : Int)) ∧ W.cell? ⟨b, 3, none⟩ = some (.int .u32 (s.2.2.2 : Int)) := by
  refine ⟨?_, ?_, ?_, ?_⟩ <;> (rw [cell_of_row W b _ _ _ _ h]; rfl)
theorem At4.frozen {W : World} {b : Nat} {s : St} (h : At4 W b s) : ∀ j, W.frozen? ⟨b, j, none⟩ = false := fun j => by
  unfold World.frozen?
  rw [h]
  simp
theorem At4.later {W W' : World} {b : Nat} {s : St} (h : At4 W b s) (hb : Below W.heap.size W W') : At4 W' b s := by
  have hlt : b < W.heap.size := block_lt_of_cell h.cells.1
  unfold At4 at *
  rw [hb.block b hlt]; exact h
theorem At4.drawn {W : World} {b : Nat} {s : St} (h : At4 W b s) (n : Nat) : At4 (W.drewN n) b s := h
theorem At4.stored {W : World} {b : Nat} {s : St} (h : At4 W b s) (a0 a1 a2 a3 : Nat) :
    At4 ((((W.setCell ⟨b, 0, none⟩ (.int .u32 (a0 : Int))).setCell ⟨b, 1, none⟩ (.int .u32 (a1 : Int))).setCell ⟨b, 2, none⟩ (.int .u32 (a2 : Int))).setCell ⟨b, 3, none⟩ (.int .u32 (a3 : Int))) b (a0, a1, a2, a3) := by
  have hlt : b < W.heap.size := block_lt_of_cell h.cells.1
  unfold At4 at *
  simp only [World.setCell, Array.getElem?_modify, h]
  simp [st4]
theorem At4.other {W : World} {b : Nat} {s : St} (h : At4 W b s) (p : Addr) (v : Value) (hp : b ≠ p.block) : At4 (W.setCell p v) b s := by
  unfold At4 at *
  rw [Below.heap_setCell W p v b hp]; exact h
theorem keepS {Wb W W1 : World} {b : Nat} {v0 v1 v2 v3 : Value} (h : Below Wb.heap.size Wb W ∧ W.cell? ⟨b, 0, none⟩ = some v0 ∧ W.cell? ⟨b, 1, none⟩ = some v1 ∧ W.cell? ⟨b, 2, none⟩ = some v2 ∧ W.cell? ⟨b, 3, none⟩ = some v3 ∧ W.frozen? ⟨b, 0, none⟩ = false ∧ W.frozen? ⟨b, 1, none⟩ = false ∧ W.frozen? ⟨b, 2, none⟩ = false ∧ W.frozen? ⟨b, 3, none⟩ = false) (hb : Below W.heap.size W W1) :
    Below Wb.heap.size Wb W1 ∧ W1.cell? ⟨b, 0, none⟩ = some v0 ∧ W1.cell? ⟨b, 1, none⟩ = some v1 ∧ W1.cell? ⟨b, 2, none⟩ = some v2 ∧ W1.cell? ⟨b, 3, none⟩ = some v3 ∧ W1.frozen? ⟨b, 0, none⟩ = false ∧ W1.frozen? ⟨b, 1, none⟩ = false ∧ W1.frozen? ⟨b, 2, none⟩ = false ∧ W1.frozen? ⟨b, 3, none⟩ = false := by
  obtain ⟨h0, c0, c1, c2, c3, f0, f1, f2, f3⟩ := h
  exact ⟨below_then h0 hb, keepcell hb c0, keepcell hb c1, keepcell hb c2, keepcell hb c3, keepfrozen hb c0 f0, keepfrozen hb c1 f1, keepfrozen hb c2 f2, keepfrozen hb c3 f3⟩
theorem wordsL_len (l : List UInt8) : (wordsL l).length = 16 := wRow_len l 64
theorem wordsL_lt (l : List UInt8) : ∀ x ∈ wordsL l, x < 4294967296 := fun x hx => by
  unfold wordsL wRow at hx
  obtain ⟨j, _, rfl⟩ := List.mem_map.1 hx
  exact wAt_lt l 64 j
set_option maxRecDepth 100000 in
set_option maxHeartbeats 2000000 in
theorem stirAll_any (s0 : St) (l : List UInt8) (w : World) (hs : Lt32 s0) (hl : l.length ≤ 4294967280) (ht : MdTabs w) :
    Calls Tryz.prog 21 #[.agg (st4 s0), .string (S l)] w fun e w' => e = .returned (.agg (st4 (stirsTo s0 l (l.length / 64)))) ∧ Below w.heap.size w w' := by
  have Ht := Lib.hid ht
  have Hs := Lib.hid hs
  clear ht hs
  obtain ⟨a, b, c, d⟩ := s0
  rw [show st4 (a, b, c, d) = #[.int .u32 (a : Int), .int .u32 (b : Int), .int .u32 (c : Int), .int .u32 (d : Int)] from rfl]
  go_enter Tryz.func21, Tryz.ntmps21
  go_wp2_with fail
  have hlow : Below w.heap.size w ((w.alloc (.cells #[.int .u32 a, .int .u32 b, .int .u32 c, .int .u32 d] 59)).alloc (.cells #[.int .u32 0, .int .u32 0, .int .u32 0, .int .u32 0] 59)) := ((Below.refl _ _).alloc (Nat.le_refl _) _).alloc (by simp) _
  have h4 : At4 ((w.alloc (.cells #[.int .u32 a, .int .u32 b, .int .u32 c, .int .u32 d] 59)).alloc (.cells #[.int .u32 0, .int .u32 0, .int .u32 0, .int .u32 0] 59)) w.heap.size (a, b, c, d) := heap_alloc2_old w _ _
  have h5 : At4 ((w.alloc (.cells #[.int .u32 a, .int .u32 b, .int .u32 c, .int .u32 d] 59)).alloc (.cells #[.int .u32 0, .int .u32 0, .int .u32 0, .int .u32 0] 59)) (w.heap.size + 1) (0, 0, 0, 0) := heap_alloc2_new w _ _
  go_loopg [9] (l.length / 64 + 1) (fun g vi wr => ∃ (k : Nat) (s : St), k ≤ l.length / 64 ∧ g + k = l.length / 64 + 1 ∧ vi = .int .i64 k ∧ stirsTo (a, b, c, d) l k = s ∧ At4 wr w.heap.size s ∧ At4 wr (w.heap.size + 1) (0, 0, 0, 0) ∧ Below w.heap.size w wr)
  case atStart => exact ⟨0, _, by omega, by omega, rfl, rfl, h4, h5, hlow⟩
  case round =>
    obtain ⟨k, s, hk, hg, rfl, hst, h4, h5, hlo⟩ := hrel
    have Hg := Lib.hid hg
    have hlt4 := stirsTo_lt (a, b, c, d) l Hs.out k
    rw [hst] at hlt4
    clear hg
    by_cases hlt : k < l.length / 64
    · have hki : (k : Int) < (l.length : Int) / 64 := by omega
      have hblen : ((l.drop (k * 64)).take 64).length = 64 := by rw [List.length_take, List.length_drop]; omega
      have hnew : stirsTo (a, b, c, d) l (k + 1) = mStir s (wordsL ((l.drop (k * 64)).take 64)) := by
        show mStir (stirsTo (a, b, c, d) l k) _ = _
        rw [hst, Nat.mul_comm 64 k]
      have c1 := fun W => wordsOf_any ((l.drop (k * 64)).take 64) W hblen
      obtain ⟨x, hx⟩ : ∃ x, (l.drop (k * 64)).take 64 = x := ⟨_, rfl⟩
      obtain ⟨sa, sb, sc, sd⟩ := s
      have c2 := fun W hW => stir_any sa sb sc sd (wordsL x) W hlt4 (wordsL_len x) (wordsL_lt x) hW
      rw [hx] at hnew c1
      rcases hn : mStir (sa, sb, sc, sd) (wordsL x) with ⟨na, nb, nc, nd⟩
      rw [hn] at hnew
      have hst4 : st4 (na, nb, nc, nd) = #[.int .u32 (na : Int), .int .u32 (nb : Int), .int .u32 (nc : Int), .int .u32 (nd : Int)] := rfl
      rw [hn, hst4] at c2
      have Hnew := Lib.hid hnew
      have C1 := Lib.hid c1
      have C2 := Lib.hid c2
      have hsl : (l.drop (k * 64)).take ((k + 1) * 64 - k * 64) = x := by rw [← hx]; congr 1; omega
      have hsz := hlo.size
      obtain ⟨q0, q1, q2, q3⟩ := h4.cells
      have f0 := h4.frozen 0
      have f1 := h4.frozen 1
      have f2 := h4.frozen 2
      have f3 := h4.frozen 3
      simp only at q0 q1 q2 q3
      have hm1 : (k : Int) * 64 ≤ ((k : Int) + 1) * 64 := by omega
      have hm2 : ((k : Int) + 1) * 64 ≤ (l.length : Int) := by omega
      have hm3 : 0 ≤ (k : Int) * 64 := by omega
      have Hlo := Lib.hid hlo
      have H4 := Lib.hid h4
      have H5 := Lib.hid h5
      have Htr := Lib.hid (Ht.out.later hlo)
      clear hst hnew c1 c2 hx hn hst4 hblen hlo h4 h5 hlt4
      have hm4 : 0 ≤ ((k : Int) + 1) * 64 := by omega
      have hm5 : (k : Int) ≤ (k : Int) + 1 := by omega
      have w1 : IntKind.i64.wrap ((k : Int) * 64) = (k : Int) * 64 := IntWalk.i64_in _ (by omega)
      have w2 : IntKind.i64.wrap ((k : Int) + 1) = (k : Int) + 1 := IntWalk.i64_in _ (by omega)
      have w3 : IntKind.i64.wrap (((k : Int) + 1) * 64) = ((k : Int) + 1) * 64 := IntWalk.i64_in _ (by omega)
      have t1 : ((k : Int) * 64).toNat = k * 64 := by omega
      have t2 : (((k : Int) + 1) * 64).toNat = (k + 1) * 64 := by omega
      go_wp2_with fail
      go_region_with ((first
        | (go_at_call 37; refine (C1.out _).mono ?_; rintro e w' ⟨rfl, hb'⟩; have g0 := keepcell (W := wr.drew) hb' q0; have g1 := keepcell (W := wr.drew) hb' q1; have g2 := keepcell (W := wr.drew) hb' q2; have g3 := keepcell (W := wr.drew) hb' q3)
        | (go_at_call 36; refine (C2.out _ (Htr.out.later (((Below.refl _ _).drew).trans hb'))).mono ?_; rintro e w'' ⟨rfl, hb''⟩; have g0 := keepcell hb'' (keepcell (W := wr.drew) hb' q0); have g1 := keepcell hb'' (keepcell (W := wr.drew) hb' q1); have g2 := keepcell hb'' (keepcell (W := wr.drew) hb' q2); have g3 := keepcell hb'' (keepcell (W := wr.drew) hb' q3); have e0 := keepfrozen hb'' (keepcell (W := wr.drew) hb' q0) (keepfrozen (W := wr.drew) hb' q0 f0); have e1 := keepfrozen hb'' (keepcell (W := wr.drew) hb' q1) (keepfrozen (W := wr.drew) hb' q1 f1); have e2 := keepfrozen hb'' (keepcell (W := wr.drew) hb' q2) (keepfrozen (W := wr.drew) hb' q2 f2); have e3 := keepfrozen hb'' (keepcell (W := wr.drew) hb' q3) (keepfrozen (W := wr.drew) hb' q3 f3))))
      all_goals
        have hbb : Below wr.heap.size wr w'' := below_then (((Below.refl _ _).drew).trans hb') hb''
        have a1 := (H4.out.later hbb).stored na nb nc nd
        have hne : w.heap.size + 1 ≠ w.heap.size := by omega
        have a2 := ((((H5.out.later hbb).other ⟨w.heap.size, 0, none⟩ (.int .u32 na) hne).other ⟨w.heap.size, 1, none⟩ (.int .u32 nb) hne).other ⟨w.heap.size, 2, none⟩ (.int .u32 nc) hne).other ⟨w.heap.size, 3, none⟩ (.int .u32 nd) hne
        have hrl : w.heap.size ≤ w.heap.size := Nat.le_refl _
        have a3 := ((((Hlo.out.trans (hbb.mono hsz)).setCell (p := ⟨w.heap.size, 0, none⟩) hrl (.int .u32 na)).setCell (p := ⟨w.heap.size, 1, none⟩) hrl (.int .u32 nb)).setCell (p := ⟨w.heap.size, 2, none⟩) hrl (.int .u32 nc)).setCell (p := ⟨w.heap.size, 3, none⟩) hrl (.int .u32 nd)
        have A1 := Lib.hid a1
        have A2 := Lib.hid a2
        have A3 := Lib.hid a3
        clear a1 a2 a3 w1 w2 w3 t1 t2 g0 g1 g2 g3 e0 e1 e2 e3 q0 q1 q2 q3 f0 f1 f2 f3
        go_wp2_with fail
        go_roundg (gk - 1)
        case measure => have := Hg.out; omega
        case rel => exact ⟨k + 1, (na, nb, nc, nd), by omega, by have := Hg.out; omega, by go_num, Hnew.out, A1.out, A2.out, A3.out⟩
    · have hkl : k = l.length / 64 := by omega
      subst hkl
      obtain ⟨sa, sb, sc, sd⟩ := s
      obtain ⟨q0, q1, q2, q3⟩ := h4.cells
      obtain ⟨r0, r1, r2, r3⟩ := h5.cells
      simp only at q0 q1 q2 q3 r0 r1 r2 r3
      have f0 := h5.frozen 0
      have f1 := h5.frozen 1
      have f2 := h5.frozen 2
      have f3 := h5.frozen 3
      have hres := (h5.stored sa sb sc sd).cells
      simp only at hres
      obtain ⟨z0, z1, z2, z3⟩ := hres
      have hki : ¬ (((l.length / 64 : Nat) : Int) < (l.length : Int) / 64) := by omega
      have Hst := Lib.hid hst
      have hrl : w.heap.size ≤ w.heap.size + 1 := by omega
      have a3 := Lib.hid ((((hlo.setCell (p := ⟨w.heap.size + 1, 0, none⟩) hrl (.int .u32 sa)).setCell (p := ⟨w.heap.size + 1, 1, none⟩) hrl (.int .u32 sb)).setCell (p := ⟨w.heap.size + 1, 2, none⟩) hrl (.int .u32 sc)).setCell (p := ⟨w.heap.size + 1, 3, none⟩) hrl (.int .u32 sd))
      clear hst h4 h5
      go_wp2_with fail
      refine bodyPost_ret (v := .agg (st4 (stirsTo (a, b, c, d) l (l.length / 64)))) (by rw [Hst.out]; simp [results, Tryz.results21, go_sem, z0, z1, z2, z3, st4]) rfl ⟨rfl, a3.out⟩
end Go.Proofs.YtoponmdfjbhnoaaGreatDoor
