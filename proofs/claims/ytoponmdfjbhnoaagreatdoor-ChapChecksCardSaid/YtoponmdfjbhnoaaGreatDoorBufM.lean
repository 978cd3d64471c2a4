/- Bytes in a slice that began as a string's: one byte more at a time. No program stands in it. -/
import Derived.Test.YtoponmdfjbhnoaaGreatDoorBuf
namespace Go.Proofs.YtoponmdfjbhnoaaGreatDoor
open Go.RowKit
def BufM (E : TypeId) (base : Nat) (W : World) (v : Value) (l : List UInt8) : Prop :=
  ∃ g cap cur fr, v = .slice (some ⟨g, 0, none⟩) l.length cap ∧ base ≤ g ∧ W.heap[g]? = some (.cells cur E fr) ∧ l.length ≤ cap ∧ cap ≤ maxLen ∧ cur.size = cap ∧ cur.toList.take l.length = bytesV l ∧ (fr = (0, 0) ∨ cap ≤ fr.1)
theorem BufM.alloc {E : TypeId} {base : Nat} {W : World} {v : Value} {l : List UInt8} (h : BufM E base W v l) (o : Obj) : BufM E base (W.alloc o) v l := by
  obtain ⟨g, cap, cur, fr, h1, h2, h3, h4⟩ := h
  have hlt : g < W.heap.size := (Array.getElem?_eq_some_iff.1 h3).1
  exact ⟨g, cap, cur, fr, h1, h2, by rw [heap_alloc_old W o hlt]; exact h3, h4⟩
theorem BufM.drew {E : TypeId} {base : Nat} {W : World} {v : Value} {l : List UInt8} (h : BufM E base W v l) : BufM E base W.drew v l := h
theorem BufM.lt {E : TypeId} {base : Nat} {W : World} {v : Value} {l : List UInt8} (h : BufM E base W v l) : ∃ g cap, v = .slice (some ⟨g, 0, none⟩) l.length cap ∧ base ≤ g ∧ g < W.heap.size ∧ l.length ≤ cap ∧ cap ≤ maxLen ∧ ∀ j (hj : j < l.length), W.cell? ⟨g, j, none⟩ = some (.int .u8 (l[j].toNat : Int)) := by
  obtain ⟨g, cap, cur, fr, h1, h2, h3, h4, h5, h6, h7, h8⟩ := h
  refine ⟨g, cap, h1, h2, (Array.getElem?_eq_some_iff.1 h3).1, h4, h5, fun j hj => ?_⟩
  rw [cell_of_row W g j cur E fr h3]
  have e : (cur.toList.take l.length)[j]? = (bytesV l)[j]? := by rw [h7]
  rw [List.getElem?_take, if_pos hj] at e
  rw [← Array.getElem?_toList, e]
  simp [bytesV, byteV, List.getElem?_eq_getElem hj]
theorem bufM_string (w : World) (E : TypeId) (l : List UInt8) (cap : Nat) (h : l.length ≤ cap) (hc : cap ≤ maxLen) :
    BufM E w.heap.size (w.alloc (.cells (cells8 (l ++ List.replicate (cap - l.length) 0)) E (cap, cap + 1))).drew (.slice (some ⟨w.heap.size, 0, none⟩) l.length cap) l := by
  refine ⟨w.heap.size, cap, _, (cap, cap + 1), rfl, Nat.le_refl _, heap_alloc_new w _, h, hc, by rw [cells8_size]; simp; omega, ?_, .inr (Nat.le_refl _)⟩
  rw [bytesV_cells, bytesV_app, ← bytesV_len l]
  exact List.take_left
theorem run_append1 {P : Program} (w : World) (t tx ty e : TypeId) (i : TypeInfo) (ht : P.underlying t = some (.slice e)) (hi : P.info? e = some i) (hz : i.zero = some (.int .u8 0)) (hsize : i.size = 1) (hby : i.bytes = 1)
    (base : Nat) (hbase : base ≤ w.heap.size) (v : Value) (l : List UInt8) (hbuf : BufM e base w v l) (x : Value) (b : UInt8) (hsrc : Src P 1 tx x 1 (bytesV [b]) w)
    (hlen : l.length ≤ 140737488355327) :
    ∃ v' w', (Builtin.append_ #[t, tx] ty #[v, x]).run P w = .ok v' w' ∧ BufM e base w' v' (l ++ [b]) ∧ Below base w w' ∧ w.heap.size ≤ w'.heap.size := by
  have hm : maxLen = 9223372036854775807 := rfl
  obtain ⟨g, cap, cur, fr, rfl, hbg, hg, hnc, hcm, hcs, htake, hfr⟩ := hbuf
  have hglt : g < w.heap.size := (Array.getElem?_eq_some_iff.1 hg).1
  by_cases hroom : l.length + 1 ≤ cap
  · have hcell : ∀ j, w.cell? ⟨g, j, none⟩ = cur[j]? := fun j => cell_of_row w g j cur e fr hg
    have hfro : ∀ j, j < cap → w.frozen? ⟨g, j, none⟩ = false := fun j hj => by
      unfold World.frozen?
      rw [hg]
      rcases hfr with rfl | hfr
      · simp
      · obtain ⟨lo, hi2⟩ := fr
        simp only at hfr
        simp; omega
    have hr := run_append_room_src (P := P) w t tx ty e i ht hi g 0 l.length cap x 1 (bytesV [b]) (by rw [hsize]; exact hsrc) hroom
      (fun j hj => by
        simp [bytesV] at hj
        subst hj
        rw [hcell, hsize, Array.getElem?_eq_getElem (by omega)]
        rfl) (fun j hj => by
        simp [bytesV] at hj
        subst hj
        exact hfro _ (by rw [hsize]; omega))
    refine ⟨_, _, hr, ⟨g, cap, cur.setIfInBounds l.length (byteV b), fr, by simp, hbg, ?_, by simp; omega, hcm, by simp [hcs], ?_, hfr⟩, ?_, ?_⟩
    · rw [hsize]
      simp only [World.setCells, bytesV, List.map_cons, List.map_nil, Nat.zero_add, Nat.mul_one]
      simp only [World.setCell, Array.getElem?_modify, hg]
      simp
    · rw [Array.toList_setIfInBounds, bytesV_app, ← htake]
      simp only [List.length_append, List.length_cons, List.length_nil]
      have hlt : l.length < cur.toList.length := by simp; omega
      rw [Nat.zero_add, List.take_add_one, List.take_set_of_le (Nat.le_refl _), List.getElem?_set_self hlt]
      simp [bytesV]
    · rw [hsize]
      simp only [World.setCells, bytesV, List.map_cons, List.map_nil]
      exact (Below.refl _ _).setCell (p := ⟨g, _, none⟩) hbg _
    · rw [hsize]
      simp [World.setCells, bytesV]
  · have holds : ∀ j u, (bytesV l)[j]? = some u → w.cell? ((⟨g, 0, none⟩ : Addr).add j) = some u := fun j u hu => by
      have e1 : (⟨g, 0, none⟩ : Addr).add j = ⟨g, j, none⟩ := by simp [Addr.add]; omega
      rw [e1, cell_of_row w g j cur e fr hg, ← Array.getElem?_toList, ← hu, ← htake, List.getElem?_take]
      have hj : j < l.length := by
        rcases Nat.lt_or_ge j l.length with h | h
        · exact h
        · rw [List.getElem?_eq_none (by rw [bytesV_len]; exact h)] at hu; cases hu
      rw [if_pos hj]
    have hr := run_append_grow_src (P := P) w t tx ty e i (.int .u8 0) ht hi hz (some ⟨g, 0, none⟩) l.length cap (bytesV l)
      (by rw [hsize]; exact run_firstCells_some w.drew 1 l.length ⟨g, 0, none⟩ l.length cap (bytesV l) (by rw [bytesV_len]; omega) (by simpa using holds)) x 1 (bytesV [b]) (by rw [hsize]; exact hsrc) (by omega) (by omega)
      (by rw [hby]; exact growslice_fits (by omega) (by omega))
    have hge := grownCap_ge w (l.length + 1) cap e
    have hcm2 : grownCap w (l.length + 1) cap e ≤ maxLen := grownCap_le_maxLen w (l.length + 1) cap e (by omega)
    refine ⟨_, _, hr, ⟨w.heap.size, _, _, (0, 0), by simp, hbase, heap_alloc_new w.drew _, by simpa using hge, hcm2, ?_, ?_, .inl rfl⟩, ?_, by simp⟩
    · simp only [Array.size_append, List.size_toArray, size_zeroCells, List.length_append, bytesV_len]
      have : (Value.int .u8 0).cells.size = 1 := rfl
      rw [this]; simp; omega
    · simp only [Array.toList_append]
      rw [← bytesV_app]
      have : (l ++ [b]).length = (bytesV (l ++ [b])).length := (bytesV_len _).symm
      rw [this]
      exact List.take_left
    · exact ((Below.refl _ _).drew).alloc (by simpa using hbase) _
theorem wpList_append1 {P : Program} {w : World} {ops : Array Oper} {rest : List Oper} {o : Oper} {a : Act} {Q : Exit → Act → World → Prop} (hgd : o.guard = none) (s x : Operand) (t tx : TypeId)
    (ho : o.op = .call { callee := .builtin .append, args := #[s, x], argTypes := #[t, tx] })
    (e : TypeId) (i : TypeInfo) (ht : P.underlying t = some (.slice e)) (hi : P.info? e = some i) (hz : i.zero = some (.int .u8 0)) (hsize : i.size = 1) (hby : i.bytes = 1)
    (base : Nat) (v : Value) (l : List UInt8) (hs : a.eval s = v) (hbuf : BufM e base w v l) (hbase : base ≤ w.heap.size) (xv : Value) (b : UInt8) (hx : a.eval x = xv) (hsrc : Src P 1 tx xv 1 (bytesV [b]) w)
    (hlen : l.length ≤ 140737488355327)
    (h : ∀ v' w', BufM e base w' v' (l ++ [b]) → Below base w w' → w.heap.size ≤ w'.heap.size → wpList P ops Q rest (a.put o.dst v') w') : wpList P ops Q (o :: rest) a w :=
  wpList_plain hgd fun K hK => by
    obtain ⟨v', w', hr, h2, h3, h4⟩ := run_append1 (P := P) w t tx o.type e i ht hi hz hsize hby base hbase v l hbuf xv b hsrc hlen
    unfold Oper.wp execOp
    simp only [ho, resolve, invoke, builtin, Sem.run_bind, Sem.run_pure, Result.andThen_ok, List.map_toArray, List.map_cons, List.map_nil, hs, hx, hr]
    exact hK _ _ (h v' w' h2 h3 h4)
theorem src_one {P : Program} {tx e' : TypeId} (hk : P.underlying tx = some (.slice e')) (w : World) (b : UInt8) (t : TypeId) (fr : Nat × Nat) (c : Nat) :
    Src P 1 tx (.slice (some ⟨w.heap.size, 0, none⟩) 1 c) 1 (bytesV [b]) (w.alloc (.cells #[.int .u8 (b.toNat : Int)] t fr)) := src_lit (P := P) hk w [b] t fr 1 c rfl
end Go.Proofs.YtoponmdfjbhnoaaGreatDoor
