/- Bytes that a value of the program keeps in a block of its own: read, appended to. No function of the program is walked here. -/
import Derived.Test.YtildnpnpakhnjaaDoorRows
import Derived.Test.YtildnpnpakhnjaaDoorMask
import Derived.Test.YtildnpnpakhnjaaDoorBlk
import Derived.Lib.AppendZeros
namespace Go.Proofs.YtildnpnpakhnjaaDoor
open Go.RowKit
set_option linter.unusedVariables false
/-- the slice v of kept bytes, in a block of the feed's own -/
def KeptAt (W : World) (H : Nat → Prop) (fb : Nat) (v : Value) (l : List UInt8) : Prop :=
  (v = .slice none 0 0 ∧ l = []) ∨
  ∃ g o c cur, v = .slice (some ⟨g, o, none⟩) l.length c ∧ H g ∧ g ≠ fb ∧ W.heap[g]? = some (.cells cur 5 (0, 0)) ∧ l.length ≤ c ∧ c ≤ maxLen ∧ o + c ≤ cur.size ∧ (cur.toList.drop o).take l.length = bytesV l
theorem KeptAt.form {W : World} {H : Nat → Prop} {fb : Nat} {v : Value} {l : List UInt8} (h : KeptAt W H fb v l) : ∃ p c, v = .slice p l.length c ∧ l.length ≤ c := by
  rcases h with ⟨rfl, rfl⟩ | ⟨g, o, c, cur, rfl, _, _, _, hc, _⟩
  · exact ⟨none, 0, rfl, Nat.le_refl _⟩
  · exact ⟨_, c, rfl, hc⟩
theorem KeptAt.kept {W W' : World} {H H' : Nat → Prop} {fb : Nat} {v : Value} {l : List UInt8} (h : KeptAt W H fb v l) (hb : ∀ k, H k → k < W.heap.size → k ≠ fb → W'.heap[k]? = W.heap[k]?) (hm : ∀ k, H k → H' k) : KeptAt W' H' fb v l := by
  rcases h with h0 | ⟨g, o, c, cur, rfl, hH, hne, hg, rest⟩
  · exact .inl h0
  · exact .inr ⟨g, o, c, cur, rfl, hm g hH, hne, by rw [hb g hH (Array.getElem?_eq_some_iff.1 hg).1 hne]; exact hg, rest⟩
theorem KeptAt.cell {W : World} {H : Nat → Prop} {fb g o c : Nat} {l : List UInt8} (h : KeptAt W H fb (.slice (some ⟨g, o, none⟩) l.length c) l) (j : Nat) (hj : j < l.length) : W.cell? ⟨g, o + j, none⟩ = some (.int .u8 (l[j].toNat : Int)) := by
  rcases h with ⟨h0, _⟩ | ⟨g', o', c', cur, hv, _, _, hg, hlc, _, hcs, ht⟩
  · cases h0
  · obtain ⟨rfl, rfl, rfl⟩ : g' = g ∧ o' = o ∧ c' = c := by cases hv; exact ⟨rfl, rfl, rfl⟩
    rw [cell_of_row W g' (o' + j) cur 5 (0, 0) hg]
    have h1 : ((cur.toList.drop o').take l.length)[j]? = (bytesV l)[j]? := by rw [ht]
    rw [List.getElem?_take, if_pos hj, List.getElem?_drop] at h1
    rw [← Array.getElem?_toList, h1]
    simp [bytesV, byteV, List.getElem?_eq_getElem hj]
/-- bytes that are kept, as a string: a part from the first on -/
theorem kept_string {P : Program} (src dst e : TypeId) (hs : P.underlying src = some (.slice e)) (he : P.underlying e = some (.int .u8)) (hd : P.underlying dst = some .string)
    {W : World} {H : Nat → Prop} {fb : Nat} {p : Option Addr} {c : Nat} {l : List UInt8} (h : KeptAt W H fb (.slice p l.length c) l) (n c' : Nat) (hn : n ≤ l.length) (h0 : 0 < n) :
    (convert src dst (.slice p n c')).run P W = .ok (.string (S (l.take n))) W := by
  rcases id h with ⟨h1, rfl⟩ | ⟨g, o, c1, cur, hv, _⟩
  · simp at hn; omega
  · obtain ⟨rfl, rfl⟩ : p = some ⟨g, o, none⟩ ∧ c = c1 := by cases hv; exact ⟨rfl, rfl⟩
    have hl : (l.take n).length = n := by rw [List.length_take]; omega
    have hr := run_string_at (P := P) src dst e hs he hd W g o (l.take n) c' (fun j hj => by
      rw [h.cell j (by omega), List.getElem_take])
    rw [hl] at hr
    exact hr
/-- a block of bytes -/
def U8Blk (W : World) (k : Nat) : Prop := ∃ cur t fr, W.heap[k]? = some (.cells cur t fr) ∧ ∀ v ∈ cur.toList, ∃ n, v = Value.int .u8 n
theorem U8Blk.kept {W W' : World} {k : Nat} (h : U8Blk W k) (e : W'.heap[k]? = W.heap[k]?) : U8Blk W' k := by
  obtain ⟨cur, t, fr, hb, hv⟩ := h
  exact ⟨cur, t, fr, e.trans hb, hv⟩
theorem U8Blk.cell {W : World} {k j : Nat} (h : U8Blk W k) {v : Value} (hc : W.cell? ⟨k, j, none⟩ = some v) : ∃ n, v = .int .u8 n := by
  obtain ⟨cur, t, fr, hb, hv⟩ := h
  unfold World.cell? at hc
  rw [hb] at hc
  simp only at hc
  have h1 : cur[j]? = some v := by simpa using hc
  exact hv v (by rw [Array.mem_toList_iff]; exact Array.mem_of_getElem? h1)
theorem info8k : (Tryd.prog.info? 5).map (fun i => (i.zero, i.size, i.bytes)) = some (some (.int .u8 0), 1, 1) := by kernel_rfl
theorem run_append_kept {W : World} {H : Nat → Prop} {fb B : Nat} {v : Value} {l : List UInt8} (ty : TypeId) (h : KeptAt W H fb v l) (hH : ∀ k, H k → B ≤ k ∧ k < W.heap.size) (hu : ∀ k, H k → k ≠ fb → U8Blk W k) (hfb : fb < W.heap.size) (hB : B ≤ W.heap.size) (news : List UInt8) (hlen : l.length + news.length ≤ 140737488355328) :
    ∃ v' W' H', (Builtin.append_ #[82, 9] ty #[v, .string (S news)]).run Tryd.prog W = .ok v' W' ∧ KeptAt W' H' fb v' (l ++ news) ∧ Keeps W.heap.size W W' H H' ∧ W'.heap[fb]? = W.heap[fb]? ∧ (∀ k, H' k → B ≤ k ∧ k < W'.heap.size) ∧ (∀ k, H' k → k ≠ fb → U8Blk W' k) := by
  obtain ⟨i, hi, hz, hs, hb⟩ := info_parts info8k
  have ht : Tryd.prog.underlying 82 = some (.slice 5) := Tryd.underlying82
  have hsrc := src_string (P := Tryd.prog) Tryd.underlying9 news W
  have hm : maxLen = 9223372036854775807 := rfl
  have grow : ∀ (p : Option Addr) (c : Nat), v = .slice p l.length c → c < l.length + news.length →
      (Builtin.firstCells 1 l.length (.slice p l.length c)).run Tryd.prog W.drew = .ok (bytesV l).toArray W.drew →
      ∃ v' W' H', (Builtin.append_ #[82, 9] ty #[v, .string (S news)]).run Tryd.prog W = .ok v' W' ∧ KeptAt W' H' fb v' (l ++ news) ∧ Keeps W.heap.size W W' H H' ∧ W'.heap[fb]? = W.heap[fb]? ∧ (∀ k, H' k → B ≤ k ∧ k < W'.heap.size) ∧ (∀ k, H' k → k ≠ fb → U8Blk W' k) := by
    intro p c hv hc hfirst
    have hr := run_append_grow_src (P := Tryd.prog) W 82 9 ty 5 i (.int .u8 0) ht hi hz p l.length c (bytesV l) (by rw [hs]; exact hfirst) (.string (S news)) news.length (bytesV news) (by rw [hs]; exact hsrc) hc (by omega)
      (by rw [hb]; exact growslice_fits (by omega) (by omega))
    have hge := grownCap_ge W (l.length + news.length) c 5
    have hle := grownCap_le_maxLen W (l.length + news.length) c 5 (by omega)
    rw [← hv] at hr
    refine ⟨_, _, fun k => H k ∨ k = W.heap.size, hr, .inr ⟨W.heap.size, 0, _, _, by rw [List.length_append], .inr rfl, by omega, heap_alloc_new W.drew _, by rw [List.length_append]; exact hge, hle, ?_, ?_⟩, ?_, ?_, ?_, ?_⟩
    · simp only [Array.size_append, List.size_toArray, size_zeroCells, List.length_append, bytesV_len]
      have : (Value.int .u8 0).cells.size = 1 := rfl
      rw [this]; omega
    · rw [List.drop_zero, Array.toList_append, ← bytesV_app, ← bytesV_len]
      exact List.take_left
    · exact ⟨rfl, rfl, rfl, by simp, fun k hk _ => heap_alloc_old W.drew _ hk, fun k hk => .inl hk, fun k hk => by rcases hk with hk | rfl <;> first | exact .inl hk | exact .inr (Nat.le_refl _)⟩
    · exact heap_alloc_old W.drew _ hfb
    · rintro k (hk | rfl)
      · exact ⟨(hH k hk).1, by have := (hH k hk).2; simp; omega⟩
      · exact ⟨hB, by simp⟩
    · rintro k (hk | rfl) hne
      · exact (hu k hk hne).kept (heap_alloc_old W.drew _ (hH k hk).2)
      · refine ⟨_, _, _, heap_alloc_new W.drew _, fun v hv => ?_⟩
        simp only [Array.toList_append, List.mem_append, bytesV, List.mem_map] at hv
        rcases hv with ((⟨b, _, rfl⟩ | ⟨b, _, rfl⟩)) | hv
        · exact ⟨_, rfl⟩
        · exact ⟨_, rfl⟩
        · refine ⟨0, ?_⟩
          simp [Builtin.zeroCells, Value.cells] at hv
          obtain ⟨x, _, hx⟩ := hv
          rw [Nat.mod_one] at hx
          exact hx.symm
  rcases id h with ⟨rfl, rfl⟩ | ⟨g, o, c, cur, rfl, hHg, hne, hg, hlc, hcm, hcs, htk⟩
  · by_cases hm0 : news.length = 0
    · obtain rfl : news = [] := List.eq_nil_of_length_eq_zero hm0
      refine ⟨.slice none 0 0, W, H, ?_, .inl ⟨rfl, rfl⟩, Keeps.refl _ _ _, rfl, hH, hu⟩
      have hc : (Builtin.firstCells 1 0 (.string (S []))).run Tryd.prog W = .ok #[] W := hsrc.cells
      have hl : ∀ w' : World, (Builtin.lenOf (.string (S []))).run Tryd.prog w' = .ok 0 w' := hsrc.len
      simp [Builtin.append_, run_underlying ht, run_underlying Tryd.underlying9, sizeOf, typeInfo, hi, hs, hl, hc]
    · exact grow none 0 rfl (by simp; omega) (run_firstCells_none W.drew 1 0 0 0)
  · by_cases hroom : l.length + news.length ≤ c
    · have hcell : ∀ j, W.cell? ⟨g, j, none⟩ = cur[j]? := fun j => cell_of_row W g j cur 5 (0, 0) hg
      have hfro : ∀ j, W.frozen? ⟨g, j, none⟩ = false := fun j => by unfold World.frozen?; simp [hg]
      have hr := run_append_room_src (P := Tryd.prog) W 82 9 ty 5 i ht hi g o l.length c (.string (S news)) news.length (bytesV news) (by rw [hs]; exact hsrc) hroom
        (fun j hj => by
          rw [bytesV_len] at hj
          rw [hs, hcell, Array.getElem?_eq_getElem (by omega)]
          rfl) (fun j _ => hfro _)
      have hset : W.setCells g (o + l.length * i.size) (bytesV news) = W.setRow g ((cur.toList.take (o + l.length) ++ bytesV news ++ cur.toList.drop (o + l.length + news.length)).toArray) := by
        have hst := run_storeCells_at Tryd.prog g (o + l.length) 5 (bytesV news) 0 cur W hg (by rw [bytesV_len]; omega) (bytesV_one news)
        have hst2 := run_storeCells_cells (P := Tryd.prog) g (o + l.length) (bytesV news) 0 W
          (fun j hj => by
            rw [bytesV_len] at hj
            rw [hcell, Array.getElem?_eq_getElem (by omega)]
            rfl) (fun j _ => hfro _) (bytesV_one news)
        simp only [Nat.add_zero, bytesV_len] at hst hst2
        rw [hst] at hst2
        have := Result.ok.inj hst2
        rw [hs, Nat.mul_one]
        simpa using this.2.symm
      rw [hset] at hr
      refine ⟨_, _, H, hr, .inr ⟨g, o, c, _, by rw [List.length_append], hHg, hne, setRow_heap W g cur _ _ _ hg, by rw [List.length_append]; exact hroom, hcm, ?_, ?_⟩,
        ⟨rfl, rfl, rfl, by simp [World.setRow], fun k _ hk => setRow_other W g k _ (fun e => hk (by rw [e]; exact hHg)), fun _ hk => hk, fun _ hk => .inl hk⟩, setRow_other W g fb _ (Ne.symm hne), fun k hk => ⟨(hH k hk).1, by simp [World.setRow]; exact (hH k hk).2⟩, fun k hk hne2 => ?_⟩
      · simp only [List.size_toArray, List.length_append, List.length_take, List.length_drop, Array.length_toList, bytesV_len]
        omega
      · have h1 : (cur.toList.take (o + l.length)).drop o = bytesV l := by rw [List.drop_take, Nat.add_sub_cancel_left]; exact htk
        simp only
        rw [List.append_assoc, List.drop_append_of_le_length (by rw [List.length_take]; have := Array.length_toList (xs := cur); omega), h1, ← List.append_assoc, ← bytesV_app, ← bytesV_len]
        exact List.take_left
      · by_cases hkg : k = g
        · subst hkg
          obtain ⟨cur2, t2, fr2, hc2, hall⟩ := hu k hk hne2
          rw [hg] at hc2
          simp only [Option.some.injEq, Obj.cells.injEq] at hc2
          obtain ⟨rfl, _, _⟩ := hc2
          refine ⟨_, _, _, setRow_heap W k cur _ _ _ hg, fun v hv => ?_⟩
          simp only [List.mem_append, bytesV, List.mem_map] at hv
          rcases hv with (hv | ⟨b, _, rfl⟩) | hv
          · exact hall v (List.mem_of_mem_take hv)
          · exact ⟨_, rfl⟩
          · exact hall v (List.mem_of_mem_drop hv)
        · exact (hu k hk hne2).kept (setRow_other W g k _ hkg)
    · exact grow (some ⟨g, o, none⟩) c rfl (by omega) (run_firstCells_some W.drew 1 l.length ⟨g, o, none⟩ l.length c (bytesV l) (by rw [bytesV_len]; omega) (fun j u hu => by
        have hj : j < l.length := by
          rcases Nat.lt_or_ge j l.length with h | h
          · exact h
          · rw [List.getElem?_eq_none (by rw [bytesV_len]; exact h)] at hu; cases hu
        rw [Addr.add_lit]
        have hc := h.cell j hj
        simp only [bytesV, List.getElem?_map, List.getElem?_eq_getElem hj, Option.map_some] at hu
        rw [← Option.some.inj hu]
        exact hc))
theorem Keeps.cell {N : Nat} {w : World} {H : Nat → Prop} {fb : Nat} (hf : H fb) (i : Nat) (v : Value) : Keeps N w (w.setCell ⟨fb, i, none⟩ v) H H :=
  ⟨rfl, rfl, rfl, by simp [World.setCell], fun k _ hH => setCell_heap_other (fun e => hH (by rw [e]; exact hf)) v, fun _ h => h, fun _ h => .inl h⟩
end Go.Proofs.YtildnpnpakhnjaaDoor
