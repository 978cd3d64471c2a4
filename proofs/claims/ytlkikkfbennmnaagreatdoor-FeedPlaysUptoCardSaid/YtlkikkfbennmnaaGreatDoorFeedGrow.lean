/- Bytes appended to what a feed keeps; what is kept, cut. No function of the program is walked here. -/
import Derived.Test.YtlkikkfbennmnaaGreatDoorFeedMem
import Derived.Test.YtlkikkfbennmnaaGreatDoorGE
import Derived.Lib.AppendZeros
namespace Go.Proofs.YtlkikkfbennmnaaGreatDoor
open Go.RowKit
theorem KeptAt.dropS {W : World} {H : Nat → Prop} {fb : Nat} {p : Option Addr} {c : Nat} {l : List UInt8} (h : KeptAt W H fb (.slice p l.length c) l) (k : Nat) (hk : k ≤ l.length) :
    KeptAt W H fb (.slice (if c = k then p else p.map (·.add k)) (l.length - k) (c - k)) (l.drop k) := by
  rcases h with ⟨h0, rfl⟩ | ⟨g, o, c', cur, hv, hH, hne, hg, hlc, hcm, hcs, ht⟩
  · obtain ⟨rfl, rfl⟩ : p = none ∧ c = 0 := by simpa using h0
    refine .inl ⟨?_, by simp⟩
    simp
  · obtain ⟨rfl, rfl⟩ : p = some ⟨g, o, none⟩ ∧ c = c' := by cases hv; exact ⟨rfl, rfl⟩
    by_cases hck : c = k
    · refine .inr ⟨g, o, c - k, cur, by rw [if_pos hck, List.length_drop], hH, hne, hg, by rw [List.length_drop]; omega, by omega, by omega, ?_⟩
      have : l.drop k = [] := by rw [List.drop_eq_nil_iff]; omega
      rw [this]
      simp [bytesV]
    · refine .inr ⟨g, o + k, c - k, cur, ?_, hH, hne, hg, by rw [List.length_drop]; omega, by omega, by omega, ?_⟩
      · rw [if_neg hck, List.length_drop, Option.map_some, Addr.add_lit]
      · rw [List.length_drop, ← List.drop_drop, ← List.drop_take]
        have : l.length - k + k = l.length := by omega
        rw [show (List.take l.length (List.drop o cur.toList)) = bytesV l from ht]
        simp [bytesV, List.map_drop]
theorem run_append_kept {W : World} {H : Nat → Prop} {fb B : Nat} {v : Value} {l : List UInt8} (ty : TypeId) (h : KeptAt W H fb v l) (hH : ∀ k, H k → B ≤ k ∧ k < W.heap.size) (hu : ∀ k, H k → k ≠ fb → U8Blk W k) (hfb : fb < W.heap.size) (hB : B ≤ W.heap.size) (news : List UInt8) (hlen : l.length + news.length ≤ 140737488355328) :
    ∃ v' W' H', (Builtin.append_ #[63, 9] ty #[v, .string (S news)]).run Tryz.prog W = .ok v' W' ∧ KeptAt W' H' fb v' (l ++ news) ∧ Keeps W.heap.size W W' H H' ∧ W'.heap[fb]? = W.heap[fb]? ∧ (∀ k, H' k → B ≤ k ∧ k < W'.heap.size) ∧ (∀ k, H' k → k ≠ fb → U8Blk W' k) := by
  obtain ⟨i, hi, hz, hs, hb⟩ := info_parts info8w
  have ht : Tryz.prog.underlying 63 = some (.slice 5) := Tryz.underlying63
  have hsrc := src_string (P := Tryz.prog) Tryz.underlying9 news W
  have hm : maxLen = 9223372036854775807 := rfl
  have grow : ∀ (p : Option Addr) (c : Nat), v = .slice p l.length c → c < l.length + news.length →
      (Builtin.firstCells 1 l.length (.slice p l.length c)).run Tryz.prog W.drew = .ok (bytesV l).toArray W.drew →
      ∃ v' W' H', (Builtin.append_ #[63, 9] ty #[v, .string (S news)]).run Tryz.prog W = .ok v' W' ∧ KeptAt W' H' fb v' (l ++ news) ∧ Keeps W.heap.size W W' H H' ∧ W'.heap[fb]? = W.heap[fb]? ∧ (∀ k, H' k → B ≤ k ∧ k < W'.heap.size) ∧ (∀ k, H' k → k ≠ fb → U8Blk W' k) := by
    intro p c hv hc hfirst
    have hr := run_append_grow_src (P := Tryz.prog) W 63 9 ty 5 i (.int .u8 0) ht hi hz p l.length c (bytesV l) (by rw [hs]; exact hfirst) (.string (S news)) news.length (bytesV news) (by rw [hs]; exact hsrc) hc (by omega)
      (by rw [hb]; exact growslice_fits (by omega) (by omega))
    have hge := grownCap_ge W (l.length + news.length) c 5
    have hle := grownCap_le_maxLen W (l.length + news.length) c 5 (by omega)
    rw [← hv] at hr
    refine ⟨_, _, fun k => H k ∨ k = W.heap.size, hr, .inr ⟨W.heap.size, 0, _, _, by rw [List.length_append], .inr rfl, by omega, heap_alloc_new W.drew _, by rw [List.length_append]; exact hge, hle, ?_, ?_⟩, ?_, ?_, ?_, ?_⟩
    · simp only [Array.size_append, List.size_toArray, size_zeroCells, List.length_append, bytesV_len]
      have : (Value.int .u8 0).cells.size = 1 := rfl
      rw [this]; omega
    · rw [List.drop_zero, Array.toList_append, ← bytesV_app, ← bytesV_len]
      exact List.take_left
    · exact ⟨rfl, rfl, rfl, by simp, fun k hk _ => heap_alloc_old W.drew _ hk, fun k hk => .inl hk, fun k hk => by rcases hk with hk | rfl <;> first | exact .inl hk | exact .inr (Nat.le_refl _)⟩
    · exact heap_alloc_old W.drew _ hfb
    · rintro k (hk | rfl)
      · exact ⟨(hH k hk).1, by have := (hH k hk).2; simp; omega⟩
      · exact ⟨hB, by simp⟩
    · rintro k (hk | rfl) hne
      · exact (hu k hk hne).kept (heap_alloc_old W.drew _ (hH k hk).2)
      · refine ⟨_, _, _, heap_alloc_new W.drew _, fun v hv => ?_⟩
        simp only [Array.toList_append, List.mem_append, bytesV, List.mem_map] at hv
        rcases hv with ((⟨b, _, rfl⟩ | ⟨b, _, rfl⟩)) | hv
        · exact ⟨_, rfl⟩
        · exact ⟨_, rfl⟩
        · refine ⟨0, ?_⟩
          simp [Builtin.zeroCells, Value.cells] at hv
          obtain ⟨x, _, hx⟩ := hv
          rw [Nat.mod_one] at hx
          exact hx.symm
  rcases id h with ⟨rfl, rfl⟩ | ⟨g, o, c, cur, rfl, hHg, hne, hg, hlc, hcm, hcs, htk⟩
  · by_cases hm0 : news.length = 0
    · obtain rfl : news = [] := List.eq_nil_of_length_eq_zero hm0
      refine ⟨.slice none 0 0, W, H, ?_, .inl ⟨rfl, rfl⟩, Keeps.refl _ _ _, rfl, hH, hu⟩
      have hc : (Builtin.firstCells 1 0 (.string (S []))).run Tryz.prog W = .ok #[] W := hsrc.cells
      have hl : ∀ w' : World, (Builtin.lenOf (.string (S []))).run Tryz.prog w' = .ok 0 w' := hsrc.len
      simp [Builtin.append_, run_underlying ht, run_underlying Tryz.underlying9, sizeOf, typeInfo, hi, hs, hl, hc]
    · exact grow none 0 rfl (by simp; omega) (run_firstCells_none W.drew 1 0 0 0)
  · by_cases hroom : l.length + news.length ≤ c
    · have hcell : ∀ j, W.cell? ⟨g, j, none⟩ = cur[j]? := fun j => cell_of_row W g j cur 5 (0, 0) hg
      have hfro : ∀ j, W.frozen? ⟨g, j, none⟩ = false := fun j => by unfold World.frozen?; simp [hg]
      have hr := run_append_room_src (P := Tryz.prog) W 63 9 ty 5 i ht hi g o l.length c (.string (S news)) news.length (bytesV news) (by rw [hs]; exact hsrc) hroom
        (fun j hj => by
          rw [bytesV_len] at hj
          rw [hs, hcell, Array.getElem?_eq_getElem (by omega)]
          rfl) (fun j _ => hfro _)
      have hset : W.setCells g (o + l.length * i.size) (bytesV news) = W.setRow g ((cur.toList.take (o + l.length) ++ bytesV news ++ cur.toList.drop (o + l.length + news.length)).toArray) := by
        have hst := run_storeCells_at Tryz.prog g (o + l.length) 5 (bytesV news) 0 cur W hg (by rw [bytesV_len]; omega) (bytesV_one news)
        have hst2 := run_storeCells_cells (P := Tryz.prog) g (o + l.length) (bytesV news) 0 W
          (fun j hj => by
            rw [bytesV_len] at hj
            rw [hcell, Array.getElem?_eq_getElem (by omega)]
            rfl) (fun j _ => hfro _) (bytesV_one news)
        simp only [Nat.add_zero, bytesV_len] at hst hst2
        rw [hst] at hst2
        have := Result.ok.inj hst2
        rw [hs, Nat.mul_one]
        simpa using this.2.symm
      rw [hset] at hr
      refine ⟨_, _, H, hr, .inr ⟨g, o, c, _, by rw [List.length_append], hHg, hne, setRow_heap W g cur _ _ _ hg, by rw [List.length_append]; exact hroom, hcm, ?_, ?_⟩,
        ⟨rfl, rfl, rfl, by simp [World.setRow], fun k _ hk => setRow_other W g k _ (fun e => hk (by rw [e]; exact hHg)), fun _ hk => hk, fun _ hk => .inl hk⟩, setRow_other W g fb _ (Ne.symm hne), fun k hk => ⟨(hH k hk).1, by simp [World.setRow]; exact (hH k hk).2⟩, fun k hk hne2 => ?_⟩
      · simp only [List.size_toArray, List.length_append, List.length_take, List.length_drop, Array.length_toList, bytesV_len]
        omega
      · have h1 : (cur.toList.take (o + l.length)).drop o = bytesV l := by rw [List.drop_take, Nat.add_sub_cancel_left]; exact htk
        simp only
        rw [List.append_assoc, List.drop_append_of_le_length (by rw [List.length_take]; have := Array.length_toList (xs := cur); omega), h1, ← List.append_assoc, ← bytesV_app, ← bytesV_len]
        exact List.take_left
      · by_cases hkg : k = g
        · subst hkg
          obtain ⟨cur2, t2, fr2, hc2, hall⟩ := hu k hk hne2
          rw [hg] at hc2
          simp only [Option.some.injEq, Obj.cells.injEq] at hc2
          obtain ⟨rfl, _, _⟩ := hc2
          refine ⟨_, _, _, setRow_heap W k cur _ _ _ hg, fun v hv => ?_⟩
          simp only [List.mem_append, bytesV, List.mem_map] at hv
          rcases hv with (hv | ⟨b, _, rfl⟩) | hv
          · exact hall v (List.mem_of_mem_take hv)
          · exact ⟨_, rfl⟩
          · exact hall v (List.mem_of_mem_drop hv)
        · exact (hu k hk hne2).kept (setRow_other W g k _ hkg)
    · exact grow (some ⟨g, o, none⟩) c rfl (by omega) (run_firstCells_some W.drew 1 l.length ⟨g, o, none⟩ l.length c (bytesV l) (by rw [bytesV_len]; omega) (fun j u hu => by
        have hj : j < l.length := by
          rcases Nat.lt_or_ge j l.length with h | h
          · exact h
          · rw [List.getElem?_eq_none (by rw [bytesV_len]; exact h)] at hu; cases hu
        rw [Addr.add_lit]
        have hc := h.cell j hj
        simp only [bytesV, List.getElem?_map, List.getElem?_eq_getElem hj, Option.map_some] at hu
        rw [← Option.some.inj hu]
        exact hc))
/-- a feed whose cells are written -/
theorem FeedAt.set {W : World} {B : Nat} {H : Nat → Prop} {fb : Nat} {F : Fe} (h : FeedAt W B H fb F) {t : TypeId} (F' : Fe) (hok : FeOk F') (kv' : Value)
    (hv : KeptAt W H fb kv' F'.kept) (W' : World) (hb : Blk W' fb #[.int .i64 F'.lim, .int .i64 F'.mode, kv', .bool F'.bad] t) (hs : W'.heap.size = W.heap.size) (ho : ∀ k, k ≠ fb → W'.heap[k]? = W.heap[k]?) : FeedAt W' B H fb F' :=
  ⟨hok, ⟨kv', t, hb, hv.kept (fun k _ _ hne => ho k hne) (fun _ h => h)⟩, h.own, fun k hk => by rw [hs]; exact h.base k hk, fun k hk hne => (h.u8 k hk hne).kept (ho k hne)⟩
end Go.Proofs.YtlkikkfbennmnaaGreatDoor
