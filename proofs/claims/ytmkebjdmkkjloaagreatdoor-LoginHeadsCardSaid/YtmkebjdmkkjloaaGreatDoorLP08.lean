/- LP08: several texts in one. -/
import Derived.Deep.RegionHeld3
import Derived.Laws.AppendOwn
import Derived.Laws.OwnMore
import Derived.Lib.AppendZeros
import Derived.Maps.Own
import Derived.Maps.OwnOps
import Derived.Maps.OwnSet
import Derived.Maps.StringElems
import Derived.Maps.Views
import Derived.StringKeys
import Derived.Test.YtmkebjdmkkjloaaGreatDoorRows
import Derived.Test.YtmkebjdmkkjloaaGreatDoorLP01
import Derived.Test.YtmkebjdmkkjloaaGreatDoorLP02
import Derived.Test.YtmkebjdmkkjloaaGreatDoorLP03
import Derived.Test.YtmkebjdmkkjloaaGreatDoorLP05
import Derived.Test.YtmkebjdmkkjloaaGreatDoorLP07
namespace Go.Proofs.YtmkebjdmkkjloaaGreatDoor
open Go.RowKit
set_option linter.unusedVariables false
theorem PrsV.sub {H K : Nat → Prop} {W : World} {v : Value} {l : List Pr} (h : PrsV (offW K W) v l) (hs : ∀ k, H k → K k) : PrsV (offW H W) v l := by
  obtain ⟨p, c, hv, hlc, hc⟩ := h
  refine ⟨p, c, hv, hlc, fun hl => ?_⟩
  obtain ⟨b, o, hp, hcell⟩ := hc hl
  have hn : ¬ H b := fun hh => off_cellout (hcell 0 hl).1 (hs b hh)
  exact ⟨b, o, hp, fun j hj => ⟨by rw [off_to (a := ⟨b, o + j * 2, none⟩) hn]; exact off_cell (hcell j hj).1, by rw [off_to (a := ⟨b, o + j * 2 + 1, none⟩) hn]; exact off_cell (hcell j hj).2⟩⟩
theorem PrsV.apart {W : World} {b o n c nb : Nat} {l : List Pr} (h : PrsV W (.slice (some ⟨b, o, none⟩) n c) l) (hn : b ≠ nb) : PrsV (offW (fun k => k = nb) W) (.slice (some ⟨b, o, none⟩) n c) l := by
  obtain ⟨p, c', hv, hlc, hc⟩ := h
  refine ⟨p, c', hv, hlc, fun hl => ?_⟩
  obtain ⟨b', o', hp, hcell⟩ := hc hl
  simp only [Value.slice.injEq] at hv
  obtain ⟨e, _⟩ := hv
  rw [hp] at e
  obtain ⟨rfl, rfl⟩ : b = b' ∧ o = o' := by simpa using e
  exact ⟨b, o, hp, fun j hj => by rw [off_to (a := ⟨b, o + j * 2, none⟩) hn, off_to (a := ⟨b, o + j * 2 + 1, none⟩) hn]; exact hcell j hj⟩
theorem below_mask {w0 W : World} {H : Nat → Prop} (h : Below w0.heap.size w0 W) (hH : ∀ k, H k → w0.heap.size ≤ k) : Below w0.heap.size w0 (offW H W) :=
  ⟨h.os, h.tape, h.output, by rw [off_size]; exact h.size, fun k hk => by rw [off_out (fun hh => by have := hH k hh; omega)]; exact h.block k hk⟩
theorem Keeps.wide {N : Nat} {w w' : World} {K K' : Nat → Prop} (h : Keeps N w w' K K') (H : Nat → Prop) : Keeps N w w' (fun k => H k ∨ K k) (fun k => H k ∨ K' k) :=
  ⟨h.os, h.tape, h.output, h.size, fun k hk hn => h.block k hk (fun hh => hn (.inr hh)), fun k hk => hk.imp_right (h.more k), fun k hk => by
    rcases hk with hk | hk
    · exact .inl (.inl hk)
    · rcases h.old k hk with h | h
      · exact .inl (.inr h)
      · exact .inr h⟩
structure NegAt (W : World) (B : Nat) (H : Nat → Prop) (nb : Nat) (mv : Value) (mine recd : List Pr) : Prop where
  at_ : ∃ rv, Blk W nb #[mv, rv] 166 ∧ PrBuf B W rv recd ∧ ∀ k, rv.ownBlock = some k → H k ∧ k ≠ nb
  mine : PrsV (offW H W) mv mine
  own : H nb
  base : ∀ k, H k → B ≤ k ∧ k < W.heap.size
  str : ∀ k, H k → k ≠ nb → ∃ s, W.cell? ⟨k, 0, none⟩ = some (.string s)
theorem NegAt.kept {W W' : World} {B : Nat} {H : Nat → Prop} {nb : Nat} {mv : Value} {mine recd : List Pr} (h : NegAt W B H nb mv mine recd) (hs : W.heap.size ≤ W'.heap.size) (hb : ∀ k, H k → W'.heap[k]? = W.heap[k]?) (hm : PrsV (offW H W') mv mine) : NegAt W' B H nb mv mine recd := by
  obtain ⟨rv, h1, h2, h3⟩ := h.at_
  refine ⟨⟨rv, (hb nb h.own).trans h1, ?_, h3⟩, hm, h.own, fun k hk => ⟨(h.base k hk).1, Nat.lt_of_lt_of_le (h.base k hk).2 hs⟩, fun k hk hne => ?_⟩
  · rcases h2.2 with ⟨e, h0⟩ | ⟨g, cap, cur, e, hbg, hg, r⟩
    · exact ⟨h2.1, .inl ⟨e, h0⟩⟩
    · exact ⟨h2.1, .inr ⟨g, cap, cur, e, hbg, (hb g (h3 g (by rw [e]; rfl)).1).trans hg, r⟩⟩
  · obtain ⟨s, h4⟩ := h.str k hk hne
    exact ⟨s, (World.cell?_of_block (w := W) (a := ⟨k, 0, none⟩) (hb k hk)).trans h4⟩
theorem NegAt.later {W W' : World} {B : Nat} {H : Nat → Prop} {nb : Nat} {mv : Value} {mine recd : List Pr} (h : NegAt W B H nb mv mine recd) (hb : Below W.heap.size W W') : NegAt W' B H nb mv mine recd :=
  h.kept hb.size (fun k hk => hb.block k (h.base k hk).2) (h.mine.later (Keeps.of hb H).off')
theorem NegAt.other {W W' : World} {B : Nat} {H K K' : Nat → Prop} {nb : Nat} {mv : Value} {mine recd : List Pr} (h : NegAt W B H nb mv mine recd) (hk : Keeps W.heap.size W W' K K') (hd : ∀ k, H k → ¬ K k) (hm : PrsV (offW (fun k => H k ∨ K k) W) mv mine) : NegAt W' B H nb mv mine recd :=
  h.kept hk.size (fun k hh => hk.block k (h.base k hh).2 (hd k hh)) ((hm.later (hk.wide H).off').sub (fun k hh => .inl hh))
theorem NegAt.mono {W : World} {B B' : Nat} {H : Nat → Prop} {nb : Nat} {mv : Value} {mine recd : List Pr} (h : NegAt W B H nb mv mine recd) (hB : B' ≤ B) : NegAt W B' H nb mv mine recd := by
  obtain ⟨rv, h1, h2, h3⟩ := h.at_
  refine ⟨⟨rv, h1, ?_, h3⟩, h.mine, h.own, fun k hk => ⟨Nat.le_trans hB (h.base k hk).1, (h.base k hk).2⟩, h.str⟩
  rcases h2.2 with ⟨e, h0⟩ | ⟨g, cap, cur, e, hbg, r⟩
  · exact ⟨h2.1, .inl ⟨e, h0⟩⟩
  · exact ⟨h2.1, .inr ⟨g, cap, cur, e, by omega, r⟩⟩
theorem ErrIs.offN {W : World} {B : Nat} {H : Nat → Prop} {nb : Nat} {mv : Value} {mine recd : List Pr} (hN : NegAt W B H nb mv mine recd) {v : Value} {n p : Int} (h : ErrIs W v n p) : ErrIs (offW H W) v n p := by
  cases h with
  | good => exact .good
  | bare _ hn => exact .bare _ hn
  | placed b _ _ hn h0 h1 =>
    have hH : ¬ H b := fun hH => by
      by_cases hb : b = nb
      · subst hb
        obtain ⟨rv, hk, h2, _⟩ := hN.at_
        obtain ⟨pm, cm, hm⟩ := hN.mine.form
        rw [hk.cell 0, hm] at h0
        simp at h0
      · obtain ⟨s, h⟩ := hN.str b hH hb
        rw [h0] at h
        simp at h
    exact .placed b _ _ hn (by rw [off_to (a := ⟨b, 0, none⟩) hH]; exact h0) (by rw [off_to (a := ⟨b, 1, none⟩) hH]; exact h1)
theorem PrBuf.offN {W W' : World} {B base : Nat} {H : Nat → Prop} {nb : Nat} {mv : Value} {mine recd : List Pr} (hN : NegAt W B H nb mv mine recd) {v : Value} {l : List Pr} (h : PrBuf base W' v l) (hb : W.heap.size ≤ base) : PrBuf base (offW H W') v l :=
  row_off h (fun k hk hh => by have := h.ge k hk; have := (hN.base k hh).2; omega)
end Go.Proofs.YtmkebjdmkkjloaaGreatDoor
namespace Go.Proofs.YtmkebjdmkkjloaaGreatDoor
open Go.RowKit
set_option linter.unusedVariables false
def KeptAt (W : World) (H : Nat → Prop) (fb : Nat) (v : Value) (l : List UInt8) : Prop :=
  (v = .slice none 0 0 ∧ l = []) ∨
  ∃ g o c cur, v = .slice (some ⟨g, o, none⟩) l.length c ∧ H g ∧ g ≠ fb ∧ W.heap[g]? = some (.cells cur 5 (0, 0)) ∧ l.length ≤ c ∧ c ≤ maxLen ∧ o + c ≤ cur.size ∧ (cur.toList.drop o).take l.length = bytesV l
theorem KeptAt.form {W : World} {H : Nat → Prop} {fb : Nat} {v : Value} {l : List UInt8} (h : KeptAt W H fb v l) : ∃ p c, v = .slice p l.length c ∧ l.length ≤ c := by
  rcases h with ⟨rfl, rfl⟩ | ⟨g, o, c, cur, rfl, _, _, _, hc, _⟩
  · exact ⟨none, 0, rfl, Nat.le_refl _⟩
  · exact ⟨_, c, rfl, hc⟩
theorem KeptAt.kept {W W' : World} {H H' : Nat → Prop} {fb : Nat} {v : Value} {l : List UInt8} (h : KeptAt W H fb v l) (hb : ∀ k, H k → k < W.heap.size → k ≠ fb → W'.heap[k]? = W.heap[k]?) (hm : ∀ k, H k → H' k) : KeptAt W' H' fb v l := by
  rcases h with h0 | ⟨g, o, c, cur, rfl, hH, hne, hg, rest⟩
  · exact .inl h0
  · exact .inr ⟨g, o, c, cur, rfl, hm g hH, hne, by rw [hb g hH (Array.getElem?_eq_some_iff.1 hg).1 hne]; exact hg, rest⟩
theorem KeptAt.cell {W : World} {H : Nat → Prop} {fb g o c : Nat} {l : List UInt8} (h : KeptAt W H fb (.slice (some ⟨g, o, none⟩) l.length c) l) (j : Nat) (hj : j < l.length) : W.cell? ⟨g, o + j, none⟩ = some (.int .u8 (l[j].toNat : Int)) := by
  rcases h with ⟨h0, _⟩ | ⟨g', o', c', cur, hv, _, _, hg, hlc, _, hcs, ht⟩
  · cases h0
  · obtain ⟨rfl, rfl, rfl⟩ : g' = g ∧ o' = o ∧ c' = c := by cases hv; exact ⟨rfl, rfl, rfl⟩
    rw [cell_of_row W g' (o' + j) cur 5 (0, 0) hg]
    have h1 : ((cur.toList.drop o').take l.length)[j]? = (bytesV l)[j]? := by rw [ht]
    rw [List.getElem?_take, if_pos hj, List.getElem?_drop] at h1
    rw [← Array.getElem?_toList, h1]
    simp [bytesV, byteV, List.getElem?_eq_getElem hj]
theorem kept_string {P : Program} (src dst e : TypeId) (hs : P.underlying src = some (.slice e)) (he : P.underlying e = some (.int .u8)) (hd : P.underlying dst = some .string)
    {W : World} {H : Nat → Prop} {fb : Nat} {p : Option Addr} {c : Nat} {l : List UInt8} (h : KeptAt W H fb (.slice p l.length c) l) (n c' : Nat) (hn : n ≤ l.length) (h0 : 0 < n) :
    (convert src dst (.slice p n c')).run P W = .ok (.string (S (l.take n))) W := by
  rcases id h with ⟨h1, rfl⟩ | ⟨g, o, c1, cur, hv, _⟩
  · simp at hn; omega
  · obtain ⟨rfl, rfl⟩ : p = some ⟨g, o, none⟩ ∧ c = c1 := by cases hv; exact ⟨rfl, rfl⟩
    have hl : (l.take n).length = n := by rw [List.length_take]; omega
    have hr := run_string_at (P := P) src dst e hs he hd W g o (l.take n) c' (fun j hj => by
      rw [h.cell j (by omega), List.getElem_take])
    rw [hl] at hr
    exact hr
def U8Blk (W : World) (k : Nat) : Prop := ∃ cur t fr, W.heap[k]? = some (.cells cur t fr) ∧ ∀ v ∈ cur.toList, ∃ n, v = Value.int .u8 n
theorem U8Blk.kept {W W' : World} {k : Nat} (h : U8Blk W k) (e : W'.heap[k]? = W.heap[k]?) : U8Blk W' k := by
  obtain ⟨cur, t, fr, hb, hv⟩ := h
  exact ⟨cur, t, fr, e.trans hb, hv⟩
theorem U8Blk.cell {W : World} {k j : Nat} (h : U8Blk W k) {v : Value} (hc : W.cell? ⟨k, j, none⟩ = some v) : ∃ n, v = .int .u8 n := by
  obtain ⟨cur, t, fr, hb, hv⟩ := h
  unfold World.cell? at hc
  rw [hb] at hc
  simp only at hc
  have h1 : cur[j]? = some v := by simpa using hc
  exact hv v (by rw [Array.mem_toList_iff]; exact Array.mem_of_getElem? h1)
theorem info8k : (Tryz.prog.info? 5).map (fun i => (i.zero, i.size, i.bytes)) = some (some (.int .u8 0), 1, 1) := by kernel_rfl
theorem run_append_kept {W : World} {H : Nat → Prop} {fb B : Nat} {v : Value} {l : List UInt8} (ty : TypeId) (h : KeptAt W H fb v l) (hH : ∀ k, H k → B ≤ k ∧ k < W.heap.size) (hu : ∀ k, H k → k ≠ fb → U8Blk W k) (hfb : fb < W.heap.size) (hB : B ≤ W.heap.size) (news : List UInt8) (hlen : l.length + news.length ≤ 140737488355328) :
    ∃ v' W' H', (Builtin.append_ #[127, 9] ty #[v, .string (S news)]).run Tryz.prog W = .ok v' W' ∧ KeptAt W' H' fb v' (l ++ news) ∧ Keeps W.heap.size W W' H H' ∧ W'.heap[fb]? = W.heap[fb]? ∧ (∀ k, H' k → B ≤ k ∧ k < W'.heap.size) ∧ (∀ k, H' k → k ≠ fb → U8Blk W' k) := by
  obtain ⟨i, hi, hz, hs, hb⟩ := info_parts info8k
  have ht : Tryz.prog.underlying 127 = some (.slice 5) := Tryz.underlying127
  have hsrc := src_string (P := Tryz.prog) Tryz.underlying9 news W
  have hm : maxLen = 9223372036854775807 := rfl
  have grow : ∀ (p : Option Addr) (c : Nat), v = .slice p l.length c → c < l.length + news.length →
      (Builtin.firstCells 1 l.length (.slice p l.length c)).run Tryz.prog W.drew = .ok (bytesV l).toArray W.drew →
      ∃ v' W' H', (Builtin.append_ #[127, 9] ty #[v, .string (S news)]).run Tryz.prog W = .ok v' W' ∧ KeptAt W' H' fb v' (l ++ news) ∧ Keeps W.heap.size W W' H H' ∧ W'.heap[fb]? = W.heap[fb]? ∧ (∀ k, H' k → B ≤ k ∧ k < W'.heap.size) ∧ (∀ k, H' k → k ≠ fb → U8Blk W' k) := by
    intro p c hv hc hfirst
    have hr := run_append_grow_src (P := Tryz.prog) W 127 9 ty 5 i (.int .u8 0) ht hi hz p l.length c (bytesV l) (by rw [hs]; exact hfirst) (.string (S news)) news.length (bytesV news) (by rw [hs]; exact hsrc) hc (by omega)
      (by rw [hb]; exact growslice_fits (by omega) (by omega))
    have hge := grownCap_ge W (l.length + news.length) c 5
    have hle := grownCap_le_maxLen W (l.length + news.length) c 5 (by omega)
    rw [← hv] at hr
    refine ⟨_, _, fun k => H k ∨ k = W.heap.size, hr, .inr ⟨W.heap.size, 0, _, _, by rw [List.length_append], .inr rfl, by omega, heap_alloc_new W.drew _, by rw [List.length_append]; exact hge, hle, ?_, ?_⟩, ?_, ?_, ?_, ?_⟩
    · simp only [Array.size_append, List.size_toArray, size_zeroCells, List.length_append, bytesV_len]
      have : (Value.int .u8 0).cells.size = 1 := rfl
      rw [this]; omega
    · rw [List.drop_zero, Array.toList_append, ← bytesV_app, ← bytesV_len]
      exact List.take_left
    · exact ⟨rfl, rfl, rfl, by simp, fun k hk _ => heap_alloc_old W.drew _ hk, fun k hk => .inl hk, fun k hk => by rcases hk with hk | rfl <;> first | exact .inl hk | exact .inr (Nat.le_refl _)⟩
    · exact heap_alloc_old W.drew _ hfb
    · rintro k (hk | rfl)
      · exact ⟨(hH k hk).1, by have := (hH k hk).2; simp; omega⟩
      · exact ⟨hB, by simp⟩
    · rintro k (hk | rfl) hne
      · exact (hu k hk hne).kept (heap_alloc_old W.drew _ (hH k hk).2)
      · refine ⟨_, _, _, heap_alloc_new W.drew _, fun v hv => ?_⟩
        simp only [Array.toList_append, List.mem_append, bytesV, List.mem_map] at hv
        rcases hv with ((⟨b, _, rfl⟩ | ⟨b, _, rfl⟩)) | hv
        · exact ⟨_, rfl⟩
        · exact ⟨_, rfl⟩
        · refine ⟨0, ?_⟩
          simp [Builtin.zeroCells, Value.cells] at hv
          obtain ⟨x, _, hx⟩ := hv
          rw [Nat.mod_one] at hx
          exact hx.symm
  rcases id h with ⟨rfl, rfl⟩ | ⟨g, o, c, cur, rfl, hHg, hne, hg, hlc, hcm, hcs, htk⟩
  · by_cases hm0 : news.length = 0
    · obtain rfl : news = [] := List.eq_nil_of_length_eq_zero hm0
      refine ⟨.slice none 0 0, W, H, ?_, .inl ⟨rfl, rfl⟩, Keeps.refl _ _ _, rfl, hH, hu⟩
      have hc : (Builtin.firstCells 1 0 (.string (S []))).run Tryz.prog W = .ok #[] W := hsrc.cells
      have hl : ∀ w' : World, (Builtin.lenOf (.string (S []))).run Tryz.prog w' = .ok 0 w' := hsrc.len
      simp [Builtin.append_, run_underlying ht, run_underlying Tryz.underlying9, sizeOf, typeInfo, hi, hs, hl, hc]
    · exact grow none 0 rfl (by simp; omega) (run_firstCells_none W.drew 1 0 0 0)
  · by_cases hroom : l.length + news.length ≤ c
    · have hcell : ∀ j, W.cell? ⟨g, j, none⟩ = cur[j]? := fun j => cell_of_row W g j cur 5 (0, 0) hg
      have hfro : ∀ j, W.frozen? ⟨g, j, none⟩ = false := fun j => by unfold World.frozen?; simp [hg]
      have hr := run_append_room_src (P := Tryz.prog) W 127 9 ty 5 i ht hi g o l.length c (.string (S news)) news.length (bytesV news) (by rw [hs]; exact hsrc) hroom
        (fun j hj => by
          rw [bytesV_len] at hj
          rw [hs, hcell, Array.getElem?_eq_getElem (by omega)]
          rfl) (fun j _ => hfro _)
      have hset : W.setCells g (o + l.length * i.size) (bytesV news) = W.setRow g ((cur.toList.take (o + l.length) ++ bytesV news ++ cur.toList.drop (o + l.length + news.length)).toArray) := by
        have hst := run_storeCells_at Tryz.prog g (o + l.length) 5 (bytesV news) 0 cur W hg (by rw [bytesV_len]; omega) (bytesV_one news)
        have hst2 := run_storeCells_cells (P := Tryz.prog) g (o + l.length) (bytesV news) 0 W
          (fun j hj => by
            rw [bytesV_len] at hj
            rw [hcell, Array.getElem?_eq_getElem (by omega)]
            rfl) (fun j _ => hfro _) (bytesV_one news)
        simp only [Nat.add_zero, bytesV_len] at hst hst2
        rw [hst] at hst2
        have := Result.ok.inj hst2
        rw [hs, Nat.mul_one]
        simpa using this.2.symm
      rw [hset] at hr
      refine ⟨_, _, H, hr, .inr ⟨g, o, c, _, by rw [List.length_append], hHg, hne, setRow_heap W g cur _ _ _ hg, by rw [List.length_append]; exact hroom, hcm, ?_, ?_⟩,
        ⟨rfl, rfl, rfl, by simp [World.setRow], fun k _ hk => setRow_other W g k _ (fun e => hk (by rw [e]; exact hHg)), fun _ hk => hk, fun _ hk => .inl hk⟩, setRow_other W g fb _ (Ne.symm hne), fun k hk => ⟨(hH k hk).1, by simp [World.setRow]; exact (hH k hk).2⟩, fun k hk hne2 => ?_⟩
      · simp only [List.size_toArray, List.length_append, List.length_take, List.length_drop, Array.length_toList, bytesV_len]
        omega
      · have h1 : (cur.toList.take (o + l.length)).drop o = bytesV l := by rw [List.drop_take, Nat.add_sub_cancel_left]; exact htk
        simp only
        rw [List.append_assoc, List.drop_append_of_le_length (by rw [List.length_take]; have := Array.length_toList (xs := cur); omega), h1, ← List.append_assoc, ← bytesV_app, ← bytesV_len]
        exact List.take_left
      · by_cases hkg : k = g
        · subst hkg
          obtain ⟨cur2, t2, fr2, hc2, hall⟩ := hu k hk hne2
          rw [hg] at hc2
          simp only [Option.some.injEq, Obj.cells.injEq] at hc2
          obtain ⟨rfl, _, _⟩ := hc2
          refine ⟨_, _, _, setRow_heap W k cur _ _ _ hg, fun v hv => ?_⟩
          simp only [List.mem_append, bytesV, List.mem_map] at hv
          rcases hv with (hv | ⟨b, _, rfl⟩) | hv
          · exact hall v (List.mem_of_mem_take hv)
          · exact ⟨_, rfl⟩
          · exact hall v (List.mem_of_mem_drop hv)
        · exact (hu k hk hne2).kept (setRow_other W g k _ hkg)
    · exact grow (some ⟨g, o, none⟩) c rfl (by omega) (run_firstCells_some W.drew 1 l.length ⟨g, o, none⟩ l.length c (bytesV l) (by rw [bytesV_len]; omega) (fun j u hu => by
        have hj : j < l.length := by
          rcases Nat.lt_or_ge j l.length with h | h
          · exact h
          · rw [List.getElem?_eq_none (by rw [bytesV_len]; exact h)] at hu; cases hu
        rw [Addr.add_lit]
        have hc := h.cell j hj
        simp only [bytesV, List.getElem?_map, List.getElem?_eq_getElem hj, Option.map_some] at hu
        rw [← Option.some.inj hu]
        exact hc))
theorem Keeps.cell {N : Nat} {w : World} {H : Nat → Prop} {fb : Nat} (hf : H fb) (i : Nat) (v : Value) : Keeps N w (w.setCell ⟨fb, i, none⟩ v) H H :=
  ⟨rfl, rfl, rfl, by simp [World.setCell], fun k _ hH => setCell_heap_other (fun e => hH (by rw [e]; exact hf)) v, fun _ h => h, fun _ h => .inl h⟩
end Go.Proofs.YtmkebjdmkkjloaaGreatDoor
namespace Go.Proofs.YtmkebjdmkkjloaaGreatDoor
open Go.RowKit
set_option linter.unusedVariables false
structure GatAt (W : World) (B : Nat) (H : Nat → Prop) (gb : Nat) (G : Ga) : Prop where
  most : G.most ≤ 20000
  fit : G.came.length ≤ G.most
  at_ : ∃ kv t, Blk W gb #[.int .i64 G.most, kv] t ∧ KeptAt W H gb kv G.came
  own : H gb
  base : ∀ k, H k → B ≤ k ∧ k < W.heap.size
  u8 : ∀ k, H k → k ≠ gb → U8Blk W k
theorem GatAt.kept {W W' : World} {B : Nat} {H : Nat → Prop} {gb : Nat} {G : Ga} (h : GatAt W B H gb G) (hb : ∀ k, H k → W'.heap[k]? = W.heap[k]?) (hs : W.heap.size ≤ W'.heap.size) : GatAt W' B H gb G := by
  obtain ⟨kv, t, hk, hv⟩ := h.at_
  exact ⟨h.most, h.fit, ⟨kv, t, (hb gb h.own).trans hk, hv.kept (fun k hk _ _ => hb k hk) (fun _ h => h)⟩, h.own, fun k hk => ⟨(h.base k hk).1, Nat.lt_of_lt_of_le (h.base k hk).2 hs⟩, fun k hk hne => (h.u8 k hk hne).kept (hb k hk)⟩
theorem GatAt.mono {W : World} {B B' : Nat} {H : Nat → Prop} {gb : Nat} {G : Ga} (h : GatAt W B H gb G) (hB : B' ≤ B) : GatAt W B' H gb G := ⟨h.most, h.fit, h.at_, h.own, fun k hk => ⟨Nat.le_trans hB (h.base k hk).1, (h.base k hk).2⟩, h.u8⟩
theorem GatAt.later {W W' : World} {B : Nat} {H : Nat → Prop} {gb : Nat} {G : Ga} (h : GatAt W B H gb G) (hb : Below W.heap.size W W') : GatAt W' B H gb G := h.kept (fun k hk => hb.block k (h.base k hk).2) hb.size
theorem GatAt.drewN {W : World} {B : Nat} {H : Nat → Prop} {gb : Nat} {G : Ga} (h : GatAt W B H gb G) (n : Nat) : GatAt (W.drewN n) B H gb G := h.kept (fun _ _ => rfl) (Nat.le_refl _)
theorem GatAt.set {W : World} {B : Nat} {H : Nat → Prop} {gb : Nat} {G : Ga} (h : GatAt W B H gb G) {t : TypeId} (G' : Ga) (h1 : G'.most ≤ 20000) (h2 : G'.came.length ≤ G'.most) (kv' : Value)
    (hv : KeptAt W H gb kv' G'.came) (W' : World) (hb : Blk W' gb #[.int .i64 G'.most, kv'] t) (hs : W'.heap.size = W.heap.size) (ho : ∀ k, k ≠ gb → W'.heap[k]? = W.heap[k]?) : GatAt W' B H gb G' :=
  ⟨h1, h2, ⟨kv', t, hb, hv.kept (fun k _ _ hne => ho k hne) (fun _ h => h)⟩, h.own, fun k hk => by rw [hs]; exact h.base k hk, fun k hk hne => (h.u8 k hk hne).kept (ho k hne)⟩
theorem PrsV.offG {W : World} {B : Nat} {H : Nat → Prop} {gb : Nat} {G : Ga} (hG : GatAt W B H gb G) {v : Value} {l : List Pr} (h : PrsV W v l) : PrsV (offW H W) v l := by
  obtain ⟨kv, t, hk, hv⟩ := hG.at_
  obtain ⟨pk, ck, rfl, _⟩ := hv.form
  obtain ⟨p, c, hvv, hlc, hc⟩ := h
  refine ⟨p, c, hvv, hlc, fun hl => ?_⟩
  obtain ⟨b, o, hp, hcell⟩ := hc hl
  have hH : ¬ H b := fun hH => by
    have h0 := (hcell 0 hl).1
    by_cases hb : b = gb
    · subst hb
      rcases two_cell hk h0 with ⟨_, h⟩ | ⟨_, h⟩ <;> simp at h
    · obtain ⟨n, h⟩ := (hG.u8 b hH hb).cell h0
      simp at h
  exact ⟨b, o, hp, fun j hj => by rw [off_to (a := ⟨b, o + j * 2, none⟩) hH, off_to (a := ⟨b, o + j * 2 + 1, none⟩) hH]; exact hcell j hj⟩
theorem ErrIs.offG {W : World} {B : Nat} {H : Nat → Prop} {gb : Nat} {G : Ga} (hG : GatAt W B H gb G) {v : Value} {n p : Int} (h : ErrIs W v n p) : ErrIs (offW H W) v n p := by
  cases h with
  | good => exact .good
  | bare _ hn => exact .bare _ hn
  | placed b _ _ hn h0 h1 =>
    obtain ⟨kv, t, hk, hv⟩ := hG.at_
    obtain ⟨pk, ck, rfl, _⟩ := hv.form
    have hH : ¬ H b := fun hH => by
      by_cases hb : b = gb
      · subst hb
        rcases two_cell hk h1 with ⟨h, _⟩ | ⟨_, h⟩
        · simp at h
        · simp at h
      · obtain ⟨n, h⟩ := (hG.u8 b hH hb).cell h0
        simp at h
    exact .placed b _ _ hn (by rw [off_to (a := ⟨b, 0, none⟩) hH]; exact h0) (by rw [off_to (a := ⟨b, 1, none⟩) hH]; exact h1)
end Go.Proofs.YtmkebjdmkkjloaaGreatDoor
namespace Go.Proofs.YtmkebjdmkkjloaaGreatDoor
open Go.RowKit Go.Maps
theorem keyedS : Keyed Tryz.prog 9 := string_keyed Tryz.underlying9
theorem zeroB (w : World) : (zeroValue 4).run Tryz.prog w = .ok (.bool false) w := by kernel_rfl
theorem plainElem_bool_inv {P : Program} {e : TypeId} (he : P.underlying e = some .bool) {v : Value} {z : DataW Unit × List MemPlace} (h : plainElem P e v = some z) : ∃ a, v = .bool a ∧ z = (.lit (.bool a), []) := by
  unfold plainElem at h
  rw [he] at h
  cases v <;> simp at h
  subst h
  exact ⟨_, rfl, rfl⟩
def BMap (k : TypeId) (W : World) (b n : Nat) (f : Lit → Prop) : Prop :=
  ∃ D : DataW Unit, W.ownsMap Tryz.prog k (plainElem Tryz.prog 4) b n D ∧ ∀ kl, (f kl → D.atKey kl (.lit (.bool false)) = .lit (.bool true)) ∧ (¬ f kl → D.atKey kl (.lit (.bool false)) = .lit (.bool false))
theorem BMap.made (k : TypeId) (w : World) : BMap k (w.alloc (.map #[] 0)) w.heap.size 0 (fun _ => False) :=
  ⟨.map [], World.ownsMap_made _ _ _ _, fun _ => ⟨fun h => h.elim, fun _ => rfl⟩⟩
theorem BMap.lt {k : TypeId} {W : World} {b n : Nat} {f : Lit → Prop} (h : BMap k W b n f) : b < W.heap.size := by
  obtain ⟨D, ⟨es, clock, h1, _⟩, _⟩ := h
  exact (Array.getElem?_eq_some_iff.1 h1).1
theorem BMap.same {k : TypeId} {W W' : World} {b n : Nat} {f : Lit → Prop} (h : BMap k W b n f) (hb : W'.heap[b]? = W.heap[b]?) : BMap k W' b n f := by
  obtain ⟨D, ⟨es, clock, h1, h2, h3, h4⟩, hf⟩ := h
  exact ⟨D, ⟨es, clock, by rw [hb]; exact h1, h2, h3, h4⟩, hf⟩
theorem BMap.later {k : TypeId} {W W' : World} {b n : Nat} {f : Lit → Prop} (h : BMap k W b n f) (hb : Below W.heap.size W W') : BMap k W' b n f := h.same (hb.block b h.lt)
theorem BMap.alloc {k : TypeId} {W : World} {b n : Nat} {f : Lit → Prop} (h : BMap k W b n f) (o : Obj) : BMap k (W.alloc o) b n f := h.later ((Below.refl _ _).alloc (Nat.le_refl _) _)
theorem BMap.other {k : TypeId} {W W' : World} {b b' n : Nat} {f : Lit → Prop} (h : BMap k W b n f) (hg : W.grownBy W' (some b')) (hne : b ≠ b') : BMap k W' b n f :=
  h.same (hg.block b h.lt (fun e => hne (Option.some.inj e)))
theorem Blk.otherB {W W' : World} {b b' : Nat} {C : Array Value} {t : TypeId} (h : Blk W b C t) (hg : W.grownBy W' (some b')) (hne : b ≠ b') : Blk W' b C t :=
  (hg.block b h.lt (fun e => hne (Option.some.inj e))).trans h
theorem Below.grownB {B : Nat} {w W W' : World} {b : Nat} (h : Below B w W) (hg : W.grownBy W' (some b)) (hb : B ≤ b) (hB : B ≤ W.heap.size) : Below B w W' :=
  h.trans ⟨hg.os, hg.tape, hg.output, hg.size, fun k hk => hg.block k (Nat.lt_of_lt_of_le hk hB) (fun e => by have := Option.some.inj e; omega)⟩
theorem BMap.look {k t : TypeId} {W : World} {b n : Nat} {f : Lit → Prop} (h : BMap k W b n f) (K : Keyed Tryz.prog k) (ht : Tryz.prog.underlying t = some (.map k 4)) {key : Value} {kl : Lit} (hkey : keyOf Tryz.prog k key = some kl) :
    (f kl → (Instr.lookup t (.map (some b)) key false).run Tryz.prog W = .ok (.bool true) W) ∧ (¬ f kl → (Instr.lookup t (.map (some b)) key false).run Tryz.prog W = .ok (.bool false) W) := by
  obtain ⟨D, hown, hf⟩ := h
  obtain ⟨v, ps, hrun, hv⟩ := hown.lookup K ht (zeroB W) (plainElem_bool Tryz.underlying4 false) hkey
  obtain ⟨x, rfl, hz⟩ := plainElem_bool_inv Tryz.underlying4 hv
  have hx : D.atKey kl (.lit (.bool false)) = .lit (.bool x) := by injection hz
  have lb : ∀ {x y : Bool}, (DataW.lit (.bool x) : DataW Unit) = .lit (.bool y) → x = y := fun h => Lit.bool.inj (DataW.lit.inj h)
  exact ⟨fun h => by obtain rfl := lb (hx.symm.trans ((hf kl).1 h)); exact hrun, fun h => by obtain rfl := lb (hx.symm.trans ((hf kl).2 h)); exact hrun⟩
theorem BMap.put {k t : TypeId} {W : World} {b n : Nat} {f : Lit → Prop} (h : BMap k W b n f) (K : Keyed Tryz.prog k) (ht : Tryz.prog.underlying t = some (.map k 4)) (hn : n < 1000000) {key : Value} {kl : Lit} (hkey : keyOf Tryz.prog k key = some kl) (hl : WideAt.IsKeyLit kl) :
    ∃ w', (Instr.mapUpdate t (.map (some b)) key (.bool true)).run Tryz.prog W = .ok () w' ∧ BMap k w' b (n + 1) (fun x => x = kl ∨ f x) ∧ W.grownBy w' (some b) := by
  obtain ⟨D, hown, hf⟩ := h
  have hM := hown.isMap
  obtain ⟨w', hrun, r1, r2⟩ := hown.update K ht (by unfold maxLen; omega) hkey (plainElem_bool Tryz.underlying4 true)
  refine ⟨w', hrun, ⟨_, r1, fun x => ?_⟩, r2⟩
  by_cases e : x = kl
  · subst e
    exact ⟨fun _ => atKey_put_same hM hl _ _, fun h => absurd (.inl rfl) h⟩
  · rw [atKey_put_other e]
    exact ⟨fun h => (hf x).1 (h.resolve_left e), fun h => (hf x).2 (fun h' => h (.inr h'))⟩
theorem BMap.as {k : TypeId} {W : World} {b n : Nat} {f g : Lit → Prop} (h : BMap k W b n f) (e : ∀ x, f x ↔ g x) : BMap k W b n g := by
  obtain ⟨D, hown, hf⟩ := h
  exact ⟨D, hown, fun kl => ⟨fun h => (hf kl).1 ((e kl).2 h), fun h => (hf kl).2 (fun h' => h ((e kl).1 h'))⟩⟩
theorem BMap.mono {k : TypeId} {W : World} {b n n' : Nat} {f : Lit → Prop} (h : BMap k W b n f) (e : n ≤ n') : BMap k W b n' f := by
  obtain ⟨D, hown, hf⟩ := h
  exact ⟨D, hown.mono e, hf⟩
theorem keyS (l : List UInt8) (h : l.length < 1000) : keyOf Tryz.prog 9 (.string (S l)) = some (.string l) := by
  have := Go.WideMaps.keyOf_string_mk (P := Tryz.prog) (k := 9) Tryz.underlying9 (s := S l) (by rw [S_size]; unfold maxLen; omega)
  rw [this]; rfl
end Go.Proofs.YtmkebjdmkkjloaaGreatDoor
namespace Go.Proofs.YtmkebjdmkkjloaaGreatDoor
open Go.RowKit Go.Maps
theorem zeroT (w : World) : (zeroValue 9).run Tryz.prog w = .ok (.string (S [])) w := by kernel_rfl
def SMap (W : World) (b n : Nat) (f : List UInt8 → Option (List UInt8)) : Prop :=
  ∃ D : DataW Unit, W.ownsMap Tryz.prog 9 (plainElem Tryz.prog 9) b n D ∧ ∀ l, Maps.has D (.string l) = (f l).isSome ∧ D.atKey (.string l) (.lit (.string [])) = .lit (.string ((f l).getD []))
theorem SMap.made (w : World) : SMap (w.alloc (.map #[] 0)) w.heap.size 0 (fun _ => none) :=
  ⟨.map [], World.ownsMap_made _ _ _ _, fun _ => ⟨rfl, rfl⟩⟩
theorem SMap.lt {W : World} {b n : Nat} {f : List UInt8 → Option (List UInt8)} (h : SMap W b n f) : b < W.heap.size := by
  obtain ⟨D, ⟨es, clock, h1, _⟩, _⟩ := h
  exact (Array.getElem?_eq_some_iff.1 h1).1
theorem SMap.same {W W' : World} {b n : Nat} {f : List UInt8 → Option (List UInt8)} (h : SMap W b n f) (hb : W'.heap[b]? = W.heap[b]?) : SMap W' b n f := by
  obtain ⟨D, ⟨es, clock, h1, h2, h3, h4⟩, hf⟩ := h
  exact ⟨D, ⟨es, clock, by rw [hb]; exact h1, h2, h3, h4⟩, hf⟩
theorem SMap.later {W W' : World} {b n : Nat} {f : List UInt8 → Option (List UInt8)} (h : SMap W b n f) (hb : Below W.heap.size W W') : SMap W' b n f := h.same (hb.block b h.lt)
theorem SMap.alloc {W : World} {b n : Nat} {f : List UInt8 → Option (List UInt8)} (h : SMap W b n f) (o : Obj) : SMap (W.alloc o) b n f := h.later ((Below.refl _ _).alloc (Nat.le_refl _) _)
theorem SMap.set {W : World} {b n : Nat} {f : List UInt8 → Option (List UInt8)} (h : SMap W b n f) {a : Addr} (hne : b ≠ a.block) (u : Value) : SMap (W.setCell a u) b n f := h.same (Below.heap_setCell W a u b hne)
theorem SMap.as {W : World} {b n : Nat} {f g : List UInt8 → Option (List UInt8)} (h : SMap W b n f) (e : ∀ l, f l = g l) : SMap W b n g := by
  obtain ⟨D, h1, h2⟩ := h
  exact ⟨D, h1, fun l => by rw [← e l]; exact h2 l⟩
theorem str_lit {s : ByteArray} {x : List UInt8} (h : (DataW.lit (.string x) : DataW Unit) = .lit (.string s.data.toList)) : s = S x := by
  have h1 : x = s.data.toList := Lit.string.inj (DataW.lit.inj h)
  rw [h1]; rfl
theorem SMap.look {t : TypeId} {W : World} {b n : Nat} {f : List UInt8 → Option (List UInt8)} (h : SMap W b n f) (ht : Tryz.prog.underlying t = some (.map 9 9)) (l : List UInt8) (hl : l.length < 1000) :
    (Instr.lookup t (.map (some b)) (.string (S l)) true).run Tryz.prog W = .ok (.tuple #[.string (S ((f l).getD [])), .bool (f l).isSome]) W ∧ (Instr.lookup t (.map (some b)) (.string (S l)) false).run Tryz.prog W = .ok (.string (S ((f l).getD []))) W := by
  obtain ⟨D, hown, hf⟩ := h
  obtain ⟨h1, h2⟩ := hf l
  have hz : plainElem (H := Unit) Tryz.prog 9 (.string (S [])) = some (.lit (.string []), []) := by
    rw [plainElem_string Tryz.underlying9 (by rw [S_size]; decide)]; rfl
  obtain ⟨v, ps, hrun, hv⟩ := hown.look_ok keyedS ht (zeroT W) hz (keyS l hl)
  obtain ⟨v0, ps0, hrun0, hv0⟩ := hown.lookup keyedS ht (zeroT W) hz (keyS l hl)
  obtain ⟨s, rfl, hs, _⟩ := plainElem_string_inv Tryz.underlying9 hv
  obtain ⟨s0, rfl, hs0, _⟩ := plainElem_string_inv Tryz.underlying9 hv0
  have e1 := str_lit (h2.symm.trans (congrArg Prod.fst hs))
  have e0 := str_lit (h2.symm.trans (congrArg Prod.fst hs0))
  rw [e1, h1] at hrun
  rw [e0] at hrun0
  exact ⟨hrun, hrun0⟩
theorem SMap.put {t : TypeId} {W : World} {b n : Nat} {f : List UInt8 → Option (List UInt8)} (h : SMap W b n f) (ht : Tryz.prog.underlying t = some (.map 9 9)) (hn : n < 1000000) (l x : List UInt8) (hl : l.length < 1000) (hx : x.length ≤ 140737488355328) :
    ∃ w', (Instr.mapUpdate t (.map (some b)) (.string (S l)) (.string (S x))).run Tryz.prog W = .ok () w' ∧ SMap w' b (n + 1) (fun k => if k = l then some x else f k) ∧ W.grownBy w' (some b) := by
  obtain ⟨D, hown, hf⟩ := h
  have hM := hown.isMap
  obtain ⟨w', hrun, r1, r2⟩ := hown.update keyedS ht (by unfold maxLen; omega) (keyS l hl) (plainElem_string Tryz.underlying9 (s := S x) (by rw [S_size]; unfold maxLen; omega))
  refine ⟨w', hrun, ⟨_, r1, fun k => ?_⟩, r2⟩
  by_cases e : k = l
  · subst e
    simp only [↓reduceIte]
    exact ⟨has_put_same (k := .string k) hM trivial _, (atKey_put_same (k := .string k) hM trivial _ _).trans (by simp [S])⟩
  · simp only [if_neg e]
    have hne : (Lit.string k) ≠ .string l := fun h => e (Lit.string.inj h)
    rw [has_put_other hne, atKey_put_other hne]
    exact hf k
end Go.Proofs.YtmkebjdmkkjloaaGreatDoor
namespace Go.Proofs.YtmkebjdmkkjloaaGreatDoor
open Go.RowKit
set_option linter.unusedVariables false
def UsV (W : World) (v : Value) (l : List Us) : Prop := ∃ p c, v = .slice p l.length c ∧ l.length ≤ c ∧ (0 < l.length → ∃ b o, p = some ⟨b, o, none⟩ ∧ ∀ j (hj : j < l.length), W.cell? ⟨b, o + j * 2, none⟩ = some (.string (S l[j].nm)) ∧ W.cell? ⟨b, o + j * 2 + 1, none⟩ = some (.string (S l[j].sc)))
theorem UsV.later {W W' : World} {v : Value} {l : List Us} (h : UsV W v l) (hb : Below W.heap.size W W') : UsV W' v l := by
  obtain ⟨p, c, hv, hlc, hc⟩ := h
  refine ⟨p, c, hv, hlc, fun hl => ?_⟩
  obtain ⟨b, o, hp, hcell⟩ := hc hl
  refine ⟨b, o, hp, fun j hj => ?_⟩
  obtain ⟨h1, h2⟩ := hcell j hj
  rw [(bcell hb).1 b (o + j * 2) (block_lt_of_cell (w := W) (a := ⟨b, o + j * 2, none⟩) h1), (bcell hb).1 b (o + j * 2 + 1) (block_lt_of_cell (w := W) (a := ⟨b, o + j * 2 + 1, none⟩) h2)]
  exact ⟨h1, h2⟩
theorem UsV.drewN {W : World} {v : Value} {l : List Us} (h : UsV W v l) (n : Nat) : UsV (W.drewN n) v l := h
theorem UsV.nil (W : World) : UsV W (.slice none 0 0) [] := ⟨none, 0, rfl, Nat.le_refl _, fun h => absurd h (by decide)⟩
theorem UsV.form {W : World} {v : Value} {l : List Us} (h : UsV W v l) : ∃ p c, v = .slice p l.length c := by obtain ⟨p, c, h, _⟩ := h; exact ⟨p, c, h⟩
theorem UsV.cell {W : World} {p : Option Addr} {c : Nat} {l : List Us} (h : UsV W (.slice p l.length c) l) {j : Nat} (hj : j < l.length) : ∃ b o, p = some ⟨b, o, none⟩ ∧ W.cell? ⟨b, o + j * 2, none⟩ = some (.string (S l[j].nm)) ∧ W.cell? ⟨b, o + j * 2 + 1, none⟩ = some (.string (S l[j].sc)) := by
  obtain ⟨p0, c0, hv, _, hc⟩ := h
  obtain ⟨rfl, rfl⟩ : p = p0 ∧ c = c0 := by simpa using hv
  obtain ⟨b, o, rfl, hcell⟩ := hc (by omega)
  exact ⟨b, o, rfl, hcell j hj⟩
def fitUs (l : List Us) : Prop := l.length ≤ 140737488355328 ∧ ∀ p ∈ l, p.nm.length ≤ 140737488355328 ∧ p.sc.length ≤ 140737488355328
def usVs (l : List Us) : List Value := l.flatMap fun p => [.string (S p.nm), .string (S p.sc)]
theorem usVs_len : ∀ l : List Us, (usVs l).length = l.length * 2
  | [] => rfl
  | a :: l => by
    have := usVs_len l
    unfold usVs at *
    simp only [List.flatMap_cons, List.length_append, List.length_cons, List.length_nil] at *
    omega
theorem usVs_one (l : List Us) : ∀ u ∈ usVs l, u.oneCell' = true := by
  intro u hu
  unfold usVs at hu
  obtain ⟨a, _, h⟩ := List.mem_flatMap.1 hu
  rcases List.mem_cons.1 h with rfl | h
  · rfl
  · rw [List.mem_singleton.1 h]; rfl
theorem usVs_get : ∀ (l : List Us) (j : Nat) (hj : j < l.length), (usVs l)[j * 2]? = some (.string (S l[j].nm)) ∧ (usVs l)[j * 2 + 1]? = some (.string (S l[j].sc))
  | [], j, hj => by simp at hj
  | a :: l, 0, _ => ⟨rfl, rfl⟩
  | a :: l, j + 1, hj => by
    obtain ⟨h1, h2⟩ := usVs_get l j (by simpa using hj)
    have e : usVs (a :: l) = .string (S a.nm) :: .string (S a.sc) :: usVs l := rfl
    rw [e, show (j + 1) * 2 = j * 2 + 1 + 1 by omega, List.getElem?_cons_succ, List.getElem?_cons_succ, h1, show j * 2 + 1 + 1 + 1 = (j * 2 + 1) + 1 + 1 by omega, List.getElem?_cons_succ, List.getElem?_cons_succ, h2]
    exact ⟨rfl, rfl⟩
def UsBuf (base : Nat) (W : World) (v : Value) (l : List Us) : Prop := W.ownsRow base 26 2 v l.length (usVs l)
theorem UsBuf.nil (base : Nat) (W : World) : UsBuf base W (.slice none 0 0) [] := World.ownsRow_nil W base 26 2
theorem UsBuf.alloc {base : Nat} {W : World} {v : Value} {l : List Us} (h : UsBuf base W v l) (o : Obj) : UsBuf base (W.alloc o) v l := World.ownsRow.alloc h o
theorem UsBuf.drew {base : Nat} {W : World} {v : Value} {l : List Us} (h : UsBuf base W v l) : UsBuf base W.drew v l := h
theorem UsBuf.drewN {base : Nat} {W : World} {v : Value} {l : List Us} (h : UsBuf base W v l) (n : Nat) : UsBuf base (W.drewN n) v l := h
theorem UsBuf.later {base : Nat} {W W' : World} {v : Value} {l : List Us} (h : UsBuf base W v l) (hb : Below W.heap.size W W') : UsBuf base W' v l := by
  refine World.ownsRow.kept (row := none) h ⟨hb.os, hb.tape, hb.output, hb.size, fun k hk _ => hb.block k hk⟩ ?_
  cases hv : v.ownBlock with
  | none => exact .inl rfl
  | some k => exact .inr (by simp)
theorem UsBuf.form {base : Nat} {W : World} {v : Value} {l : List Us} (h : UsBuf base W v l) : ∃ p cap, v = .slice p l.length cap := by
  rcases h.2 with ⟨rfl, h0⟩ | ⟨g, cap, cur, hv, _⟩
  · exact ⟨none, 0, by rw [h0]⟩
  · exact ⟨_, _, hv⟩
theorem UsBuf.us {base : Nat} {W : World} {v : Value} {l : List Us} (h : UsBuf base W v l) : UsV W v l := by
  rcases h.2 with ⟨rfl, h0⟩ | ⟨g, cap, cur, rfl, hbg, hg, hnc, hcm, hcs, htake⟩
  · obtain rfl : l = [] := List.eq_nil_of_length_eq_zero h0
    exact UsV.nil W
  · refine ⟨_, _, rfl, hnc, fun _ => ⟨g, 0, rfl, fun j hj => ?_⟩⟩
    obtain ⟨g1, g2⟩ := usVs_get l j hj
    have h1 := World.ownsRow.cells h (g := g) rfl (j * 2) _ g1
    have h2 := World.ownsRow.cells h (g := g) rfl (j * 2 + 1) _ g2
    have e1 : (⟨g, 0, none⟩ : Addr).add (j * 2) = ⟨g, 0 + j * 2, none⟩ := by simp only [Addr.add]; split <;> simp_all
    have e2 : (⟨g, 0, none⟩ : Addr).add (j * 2 + 1) = ⟨g, 0 + j * 2 + 1, none⟩ := by simp only [Addr.add]; split <;> simp_all <;> omega
    rw [e1] at h1
    rw [e2] at h2
    exact ⟨h1, h2⟩
theorem UsBuf.ne {base : Nat} {W : World} {v : Value} {l : List Us} (h : UsBuf base W v l) {b : Nat} (hb : W.heap.size ≤ b) : ∀ k, v.ownBlock = some k → b ≠ k := fun k hk => by
  have := (World.ownsRow.lt h k hk).2
  omega
theorem UsBuf.ge {base : Nat} {W : World} {v : Value} {l : List Us} (h : UsBuf base W v l) : ∀ k, v.ownBlock = some k → base ≤ k := fun k hk => (World.ownsRow.lt h k hk).1
theorem infoUs : ∃ i, Tryz.prog.info? 26 = some i ∧ i.zero = some (.agg #[.string (S []), .string (S [])]) ∧ i.size = 2 ∧ i.bytes = 32 := info_parts (show (Tryz.prog.info? 26).map (fun i => (i.zero, i.size, i.bytes)) = some (some (.agg #[.string (S []), .string (S [])]), 2, 32) by kernel_rfl)
end Go.Proofs.YtmkebjdmkkjloaaGreatDoor
namespace Go.Proofs.YtmkebjdmkkjloaaGreatDoor
open Go.RowKit
def StrV (W : World) (v : Value) (l : List (List UInt8)) : Prop := ∃ p c, v = .slice p l.length c ∧ (0 < l.length → ∃ b o, p = some ⟨b, o, none⟩ ∧ ∀ j (hj : j < l.length), W.cell? ⟨b, o + j, none⟩ = some (.string (S l[j])))
theorem StrV.later {W W' : World} {v : Value} {l : List (List UInt8)} (h : StrV W v l) (hb : Below W.heap.size W W') : StrV W' v l := by
  obtain ⟨p, c, hv, hc⟩ := h
  refine ⟨p, c, hv, fun hl => ?_⟩
  obtain ⟨b, o, hp, hcell⟩ := hc hl
  refine ⟨b, o, hp, fun j hj => ?_⟩
  rw [(bcell hb).1 b (o + j) (block_lt_of_cell (w := W) (a := ⟨b, o + j, none⟩) (hcell j hj))]
  exact hcell j hj
theorem strV_nil (W : World) : StrV W (.slice none 0 0) [] := ⟨none, 0, rfl, fun h => absurd h (by decide)⟩
theorem StrV.form {W : World} {v : Value} {l : List (List UInt8)} (h : StrV W v l) : ∃ p c, v = .slice p l.length c := by obtain ⟨p, c, h, _⟩ := h; exact ⟨p, c, h⟩
theorem StrV.cell {W : World} {p : Option Addr} {c : Nat} {l : List (List UInt8)} (h : StrV W (.slice p l.length c) l) {j : Nat} (hj : j < l.length) : ∃ b o, p = some ⟨b, o, none⟩ ∧ W.cell? ⟨b, o + j, none⟩ = some (.string (S l[j])) := by
  obtain ⟨p0, c0, hv, hc⟩ := h
  obtain ⟨rfl, rfl⟩ : p = p0 ∧ c = c0 := by simpa using hv
  obtain ⟨b, o, rfl, hcell⟩ := hc (by omega)
  exact ⟨b, o, rfl, hcell j hj⟩
def strVs (l : List (List UInt8)) : List Value := l.map fun s => .string (S s)
theorem strVs_len (l : List (List UInt8)) : (strVs l).length = l.length := by simp [strVs]
theorem strVs_app (l m : List (List UInt8)) : strVs (l ++ m) = strVs l ++ strVs m := by simp [strVs]
theorem strVs_one (l : List (List UInt8)) : ∀ u ∈ strVs l, u.oneCell' = true := by
  intro u hu
  obtain ⟨s, _, rfl⟩ := List.mem_map.1 hu
  rfl
def StBuf (base : Nat) (W : World) (v : Value) (l : List (List UInt8)) : Prop := W.ownsRow base 9 1 v l.length (strVs l)
theorem StBuf.nil (base : Nat) (W : World) : StBuf base W (.slice none 0 0) [] := World.ownsRow_nil W base 9 1
theorem StBuf.alloc {base : Nat} {W : World} {v : Value} {l : List (List UInt8)} (h : StBuf base W v l) (o : Obj) : StBuf base (W.alloc o) v l := World.ownsRow.alloc h o
theorem StBuf.drewN {base : Nat} {W : World} {v : Value} {l : List (List UInt8)} (h : StBuf base W v l) (n : Nat) : StBuf base (W.drewN n) v l := h
theorem StBuf.later {base : Nat} {W W' : World} {v : Value} {l : List (List UInt8)} (h : StBuf base W v l) (hb : Below W.heap.size W W') : StBuf base W' v l := by
  refine World.ownsRow.kept (row := none) h ⟨hb.os, hb.tape, hb.output, hb.size, fun k hk _ => hb.block k hk⟩ ?_
  cases hv : v.ownBlock with
  | none => exact .inl rfl
  | some k => exact .inr (by simp)
theorem StBuf.form {base : Nat} {W : World} {v : Value} {l : List (List UInt8)} (h : StBuf base W v l) : ∃ p cap, v = .slice p l.length cap := by
  rcases h.2 with ⟨rfl, h0⟩ | ⟨g, cap, cur, hv, _⟩
  · exact ⟨none, 0, by rw [h0]⟩
  · exact ⟨_, _, hv⟩
theorem StBuf.strs {base : Nat} {W : World} {v : Value} {l : List (List UInt8)} (h : StBuf base W v l) : StrV W v l := by
  rcases h.2 with ⟨rfl, h0⟩ | ⟨g, cap, cur, rfl, hbg, hg, hnc, hcm, hcs, htake⟩
  · obtain rfl : l = [] := List.eq_nil_of_length_eq_zero h0
    exact strV_nil W
  · refine ⟨_, _, rfl, fun _ => ⟨g, 0, rfl, fun j hj => ?_⟩⟩
    have h1 := World.ownsRow.cells h (g := g) rfl j (.string (S l[j])) (by simp [strVs, List.getElem?_eq_getElem hj])
    have e1 : (⟨g, 0, none⟩ : Addr).add j = ⟨g, 0 + j, none⟩ := by simp only [Addr.add]; split <;> simp_all
    rw [e1] at h1
    exact h1
theorem StBuf.ge {base : Nat} {W : World} {v : Value} {l : List (List UInt8)} (h : StBuf base W v l) : ∀ k, v.ownBlock = some k → base ≤ k := fun k hk => (World.ownsRow.lt h k hk).1
theorem infoSt : ∃ i, Tryz.prog.info? 9 = some i ∧ i.zero = some (.string (S [])) ∧ i.size = 1 ∧ i.bytes = 16 := info_parts (show (Tryz.prog.info? 9).map (fun i => (i.zero, i.size, i.bytes)) = some (some (.string (S [])), 1, 16) by kernel_rfl)
theorem appS_sides (s : List UInt8) (wu : World) (N n base : Nat) (hN : wu.heap.size = N) (hn : n ≤ 1000000) (hb : base ≤ N) :
    Hid (∀ j u, ([.string (S s)] : List Value)[j]? = some u → (wu.alloc (.cells #[.string (S s)] 9)).cell? ((⟨N, 0, none⟩ : Addr).add j) = some u) ∧ Hid (∀ u ∈ ([.string (S s)] : List Value), u.oneCell' = true) ∧ Hid (n + 1 ≤ maxLen) ∧ Hid ((n + 1) * 16 ≤ 140737488355328) ∧ Hid (base ≤ (wu.alloc (.cells #[.string (S s)] 9)).heap.size) := by
  subst hN
  refine ⟨Lib.hid ?_, Lib.hid ?_, Lib.hid (by unfold maxLen; omega), Lib.hid (by omega), Lib.hid (by simp; omega)⟩
  · intro j u h
    have hb := (Blk.new wu #[.string (S s)] 9).cell j
    have e1 : (⟨wu.heap.size, 0, none⟩ : Addr).add j = ⟨wu.heap.size, j, none⟩ := by simp only [Addr.add]; split <;> simp_all
    rw [e1, hb]
    simpa using h
  · exact strVs_one [s]
end Go.Proofs.YtmkebjdmkkjloaaGreatDoor
