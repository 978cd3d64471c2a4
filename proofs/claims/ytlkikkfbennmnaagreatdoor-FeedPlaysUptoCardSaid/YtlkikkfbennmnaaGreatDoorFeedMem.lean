/- A feed in memory: its own blocks, and all others. No function of the program is walked here. -/
import Derived.Test.YtlkikkfbennmnaaGreatDoorFeedMath
import Derived.Test.YtlkikkfbennmnaaGreatDoorGE
import Derived.Test.YtlkikkfbennmnaaGreatDoorPduV
namespace Go.Proofs.YtlkikkfbennmnaaGreatDoor
open Go.RowKit
set_option linter.unusedVariables false
/-! a world without some blocks: what is said there is said of all others -/
open Classical in
noncomputable def offW (H : Nat → Prop) (W : World) : World := { W with heap := W.heap.mapIdx fun i o => if H i then .cells #[] 0 (1, 1) else o }
theorem off_size (H : Nat → Prop) (W : World) : (offW H W).heap.size = W.heap.size := by simp [offW]
theorem off_in {H : Nat → Prop} {W : World} {k : Nat} (h : H k) (hk : k < W.heap.size) : (offW H W).heap[k]? = some (.cells #[] 0 (1, 1)) := by
  unfold offW
  simp only [Array.getElem?_mapIdx]
  rw [Array.getElem?_eq_getElem hk]
  simp [h]
theorem off_out {H : Nat → Prop} {W : World} {k : Nat} (h : ¬ H k) : (offW H W).heap[k]? = W.heap[k]? := by
  unfold offW
  simp only [Array.getElem?_mapIdx]
  cases hk : W.heap[k]? with
  | none => rfl
  | some o => simp [h]
theorem off_cell {H : Nat → Prop} {W : World} {a : Addr} {v : Value} (h : (offW H W).cell? a = some v) : W.cell? a = some v := by
  have hlt : a.block < W.heap.size := by have := block_lt_of_cell h; rwa [off_size] at this
  by_cases hH : H a.block
  · unfold World.cell? at h
    rw [off_in hH hlt] at h
    simp at h
  · rw [← h]
    exact (World.cell?_of_block (w := W) (off_out hH)).symm
theorem off_cellout {H : Nat → Prop} {W : World} {a : Addr} {v : Value} (h : (offW H W).cell? a = some v) : ¬ H a.block := by
  have hlt : a.block < W.heap.size := by have := block_lt_of_cell h; rwa [off_size] at this
  intro hH
  unfold World.cell? at h
  rw [off_in hH hlt] at h
  simp at h
theorem off_to {H : Nat → Prop} {W : World} {a : Addr} (hH : ¬ H a.block) : (offW H W).cell? a = W.cell? a := World.cell?_of_block (w := W) (off_out hH)
theorem off_below {H : Nat → Prop} {B : Nat} {W W' : World} (h : Below B W W') : Below B (offW H W) (offW H W') :=
  ⟨h.os, h.tape, h.output, by rw [off_size, off_size]; exact h.size, fun k hk => by
    by_cases hH : H k
    · have e := h.block k hk
      cases hw : W.heap[k]? with
      | none =>
        rw [hw] at e
        have h1 : W.heap.size ≤ k := by simpa using hw
        have h2 : W'.heap.size ≤ k := by simpa using e
        rw [Array.getElem?_eq_none (by rw [off_size]; exact h2), Array.getElem?_eq_none (by rw [off_size]; exact h1)]
      | some o =>
        rw [hw] at e
        rw [off_in hH (Array.getElem?_eq_some_iff.1 hw).1, off_in hH (Array.getElem?_eq_some_iff.1 e).1]
    · rw [off_out hH, off_out hH]; exact h.block k hk⟩
theorem off_drewN (H : Nat → Prop) (W : World) (n : Nat) : offW H (W.drewN n) = (offW H W).drewN n := rfl
theorem off_drew (H : Nat → Prop) (W : World) : offW H W.drew = (offW H W).drew := rfl
theorem off_two (H K : Nat → Prop) (W : World) : offW H (offW K W) = offW (fun k => H k ∨ K k) W := by
  unfold offW
  congr 1
  apply Array.ext
  · simp
  · intro i h1 h2
    simp only [Array.getElem_mapIdx]
    by_cases hh : H i
    · simp [hh]
    · by_cases hk : K i <;> simp [hh, hk]
theorem off_row {H : Nat → Prop} {W : World} {base : Nat} {e : TypeId} {size : Nat} {v : Value} {n : Nat} {xs : List Value} (h : (offW H W).ownsRow base e size v n xs) : W.ownsRow base e size v n xs ∧ ∀ k, v.ownBlock = some k → ¬ H k := by
  rcases h.2 with ⟨rfl, h0⟩ | ⟨g, cap, cur, rfl, hb, hg, rest⟩
  · exact ⟨⟨h.1, .inl ⟨rfl, h0⟩⟩, fun k hk => by simp [Value.ownBlock] at hk⟩
  · have hlt : g < W.heap.size := by have := (Array.getElem?_eq_some_iff.1 hg).1; rwa [off_size] at this
    have hH : ¬ H g := fun hH => by rw [off_in hH hlt] at hg; simp at hg
    rw [off_out hH] at hg
    exact ⟨⟨h.1, .inr ⟨g, cap, cur, rfl, hb, hg, rest⟩⟩, fun k hk => by simp [Value.ownBlock] at hk; subst hk; exact hH⟩
theorem row_off {H : Nat → Prop} {W : World} {base : Nat} {e : TypeId} {size : Nat} {v : Value} {n : Nat} {xs : List Value} (h : W.ownsRow base e size v n xs) (hH : ∀ k, v.ownBlock = some k → ¬ H k) : (offW H W).ownsRow base e size v n xs := by
  rcases h.2 with ⟨rfl, h0⟩ | ⟨g, cap, cur, rfl, hb, hg, rest⟩
  · exact ⟨h.1, .inl ⟨rfl, h0⟩⟩
  · exact ⟨h.1, .inr ⟨g, cap, cur, rfl, hb, by rw [off_out (hH g rfl)]; exact hg, rest⟩⟩
theorem Vals.off {H : Nat → Prop} {W : World} {v : Value} {l : List Nat} (h : Vals (offW H W) v l) : Vals W v l := by
  obtain ⟨p, c, hv, hx, hc⟩ := h
  exact ⟨p, c, hv, hx, fun hl => by obtain ⟨b, o, hp, hcell⟩ := hc hl; exact ⟨b, o, hp, fun j hj => off_cell (hcell j hj)⟩⟩
theorem AhsV.off {H : Nat → Prop} {W : World} {v : Value} {l : List Ah} (h : AhsV (offW H W) v l) : AhsV W v l := by
  obtain ⟨p, c, hv, hlc, hc⟩ := h
  exact ⟨p, c, hv, hlc, fun hl => by obtain ⟨b, o, hp, hcell⟩ := hc hl; exact ⟨b, o, hp, fun j hj => ⟨off_cell (hcell j hj).1, off_cell (hcell j hj).2⟩⟩⟩
theorem PduAt.off {H : Nat → Prop} {W : World} {p : Pd} {vv va : Value} (h : PduAt (offW H W) p vv va) : PduAt W p vv va := ⟨h.v.off, h.a.off⟩
/-- all but the blocks H below N are as they were; H may have grown by what is new -/
structure Keeps (N : Nat) (w w' : World) (H H' : Nat → Prop) : Prop where
  os : w'.os = w.os
  tape : w'.tape = w.tape
  output : w'.output = w.output
  size : w.heap.size ≤ w'.heap.size
  block : ∀ k, k < N → ¬ H k → w'.heap[k]? = w.heap[k]?
  more : ∀ k, H k → H' k
  old : ∀ k, H' k → H k ∨ N ≤ k
theorem Keeps.of {N : Nat} {w w' : World} (h : Below N w w') (H : Nat → Prop) : Keeps N w w' H H := ⟨h.os, h.tape, h.output, h.size, fun k hk _ => h.block k hk, fun _ h => h, fun _ h => .inl h⟩
theorem Keeps.refl (N : Nat) (w : World) (H : Nat → Prop) : Keeps N w w H H := .of (Below.refl _ _) H
theorem Keeps.trans {N N' : Nat} {w w1 w2 : World} {H H1 H2 : Nat → Prop} (h : Keeps N w w1 H H1) (k : Keeps N' w1 w2 H1 H2) (hN : N ≤ N') : Keeps N w w2 H H2 :=
  ⟨k.os.trans h.os, k.tape.trans h.tape, k.output.trans h.output, Nat.le_trans h.size k.size, fun i hi hH => by
    have h1 : ¬ H1 i := fun hc => by rcases h.old i hc with hc | hc <;> first | exact hH hc | omega
    exact (k.block i (by omega) h1).trans (h.block i hi hH),
   fun i hi => k.more i (h.more i hi), fun i hi => by
    rcases k.old i hi with hc | hc
    · exact h.old i hc
    · exact .inr (by omega)⟩
theorem Keeps.then {w0 w w2 : World} {H0 H H2 : Nat → Prop} (h : Keeps w0.heap.size w0 w H0 H) (k : Keeps w.heap.size w w2 H H2) : Keeps w0.heap.size w0 w2 H0 H2 := h.trans k h.size
theorem Keeps.off {N : Nat} {w w' : World} {H H' : Nat → Prop} (h : Keeps N w w' H H') (hN : N ≤ w.heap.size) : Below N (offW H w) (offW H' w') :=
  ⟨h.os, h.tape, h.output, by rw [off_size, off_size]; exact h.size, fun k hk => by
    have hs := h.size
    by_cases hH : H k
    · rw [off_in hH (by omega), off_in (h.more k hH) (by omega)]
    · have hH' : ¬ H' k := fun hc => by rcases h.old k hc with hc | hc <;> first | exact hH hc | omega
      rw [off_out hH, off_out hH']
      exact h.block k hk hH⟩
theorem Keeps.off' {w w' : World} {H H' : Nat → Prop} (h : Keeps w.heap.size w w' H H') : Below (offW H w).heap.size (offW H w) (offW H' w') := by
  rw [off_size]; exact h.off (Nat.le_refl _)
theorem Keeps.below {N B : Nat} {w w' : World} {H H' : Nat → Prop} (h : Keeps N w w' H H') (hB : B ≤ N) (hH : ∀ k, H k → B ≤ k) : Below B w w' :=
  ⟨h.os, h.tape, h.output, h.size, fun k hk => h.block k (by omega) (fun hc => by have := hH k hc; omega)⟩
/-! a feed -/
/-- the slice v of kept bytes, in a block of the feed's own -/
def KeptAt (W : World) (H : Nat → Prop) (fb : Nat) (v : Value) (l : List UInt8) : Prop :=
  (v = .slice none 0 0 ∧ l = []) ∨
  ∃ g o c cur, v = .slice (some ⟨g, o, none⟩) l.length c ∧ H g ∧ g ≠ fb ∧ W.heap[g]? = some (.cells cur 5 (0, 0)) ∧ l.length ≤ c ∧ c ≤ maxLen ∧ o + c ≤ cur.size ∧ (cur.toList.drop o).take l.length = bytesV l
theorem KeptAt.form {W : World} {H : Nat → Prop} {fb : Nat} {v : Value} {l : List UInt8} (h : KeptAt W H fb v l) : ∃ p c, v = .slice p l.length c ∧ l.length ≤ c := by
  rcases h with ⟨rfl, rfl⟩ | ⟨g, o, c, cur, rfl, _, _, _, hc, _⟩
  · exact ⟨none, 0, rfl, Nat.le_refl _⟩
  · exact ⟨_, c, rfl, hc⟩
theorem KeptAt.kept {W W' : World} {H H' : Nat → Prop} {fb : Nat} {v : Value} {l : List UInt8} (h : KeptAt W H fb v l) (hb : ∀ k, H k → k < W.heap.size → k ≠ fb → W'.heap[k]? = W.heap[k]?) (hm : ∀ k, H k → H' k) : KeptAt W' H' fb v l := by
  rcases h with h0 | ⟨g, o, c, cur, rfl, hH, hne, hg, rest⟩
  · exact .inl h0
  · exact .inr ⟨g, o, c, cur, rfl, hm g hH, hne, by rw [hb g hH (Array.getElem?_eq_some_iff.1 hg).1 hne]; exact hg, rest⟩
theorem KeptAt.cell {W : World} {H : Nat → Prop} {fb g o c : Nat} {l : List UInt8} (h : KeptAt W H fb (.slice (some ⟨g, o, none⟩) l.length c) l) (j : Nat) (hj : j < l.length) : W.cell? ⟨g, o + j, none⟩ = some (.int .u8 (l[j].toNat : Int)) := by
  rcases h with ⟨h0, _⟩ | ⟨g', o', c', cur, hv, _, _, hg, hlc, _, hcs, ht⟩
  · cases h0
  · obtain ⟨rfl, rfl, rfl⟩ : g' = g ∧ o' = o ∧ c' = c := by cases hv; exact ⟨rfl, rfl, rfl⟩
    rw [cell_of_row W g' (o' + j) cur 5 (0, 0) hg]
    have h1 : ((cur.toList.drop o').take l.length)[j]? = (bytesV l)[j]? := by rw [ht]
    rw [List.getElem?_take, if_pos hj, List.getElem?_drop] at h1
    rw [← Array.getElem?_toList, h1]
    simp [bytesV, byteV, List.getElem?_eq_getElem hj]
/-- bytes that are kept, as a string: a part from the first on -/
theorem kept_string {P : Program} (src dst e : TypeId) (hs : P.underlying src = some (.slice e)) (he : P.underlying e = some (.int .u8)) (hd : P.underlying dst = some .string)
    {W : World} {H : Nat → Prop} {fb : Nat} {p : Option Addr} {c : Nat} {l : List UInt8} (h : KeptAt W H fb (.slice p l.length c) l) (n c' : Nat) (hn : n ≤ l.length) (h0 : 0 < n) :
    (convert src dst (.slice p n c')).run P W = .ok (.string (S (l.take n))) W := by
  rcases id h with ⟨h1, rfl⟩ | ⟨g, o, c1, cur, hv, _⟩
  · simp at hn; omega
  · obtain ⟨rfl, rfl⟩ : p = some ⟨g, o, none⟩ ∧ c = c1 := by cases hv; exact ⟨rfl, rfl⟩
    have hl : (l.take n).length = n := by rw [List.length_take]; omega
    have hr := run_string_at (P := P) src dst e hs he hd W g o (l.take n) c' (fun j hj => by
      rw [h.cell j (by omega), List.getElem_take])
    rw [hl] at hr
    exact hr
/-- a block of bytes -/
def U8Blk (W : World) (k : Nat) : Prop := ∃ cur t fr, W.heap[k]? = some (.cells cur t fr) ∧ ∀ v ∈ cur.toList, ∃ n, v = Value.int .u8 n
theorem U8Blk.kept {W W' : World} {k : Nat} (h : U8Blk W k) (e : W'.heap[k]? = W.heap[k]?) : U8Blk W' k := by
  obtain ⟨cur, t, fr, hb, hv⟩ := h
  exact ⟨cur, t, fr, e.trans hb, hv⟩
theorem U8Blk.cell {W : World} {k j : Nat} (h : U8Blk W k) {v : Value} (hc : W.cell? ⟨k, j, none⟩ = some v) : ∃ n, v = .int .u8 n := by
  obtain ⟨cur, t, fr, hb, hv⟩ := h
  unfold World.cell? at hc
  rw [hb] at hc
  simp only at hc
  have h1 : cur[j]? = some v := by simpa using hc
  exact hv v (by rw [Array.mem_toList_iff]; exact Array.mem_of_getElem? h1)
/-- a feed lies at fb; H: its own blocks -/
structure FeedAt (W : World) (B : Nat) (H : Nat → Prop) (fb : Nat) (F : Fe) : Prop where
  ok : FeOk F
  at_ : ∃ kv t, Blk W fb #[.int .i64 F.lim, .int .i64 F.mode, kv, .bool F.bad] t ∧ KeptAt W H fb kv F.kept
  own : H fb
  base : ∀ k, H k → B ≤ k ∧ k < W.heap.size
  u8 : ∀ k, H k → k ≠ fb → U8Blk W k
theorem FeedAt.kept {W W' : World} {B : Nat} {H : Nat → Prop} {fb : Nat} {F : Fe} (h : FeedAt W B H fb F) (hb : ∀ k, H k → W'.heap[k]? = W.heap[k]?) (hs : W.heap.size ≤ W'.heap.size) : FeedAt W' B H fb F := by
  obtain ⟨kv, t, hk, hv⟩ := h.at_
  exact ⟨h.ok, ⟨kv, t, (hb fb h.own).trans hk, hv.kept (fun k hk _ _ => hb k hk) (fun _ h => h)⟩, h.own, fun k hk => ⟨(h.base k hk).1, Nat.lt_of_lt_of_le (h.base k hk).2 hs⟩, fun k hk hne => (h.u8 k hk hne).kept (hb k hk)⟩
theorem FeedAt.mono {W : World} {B B' : Nat} {H : Nat → Prop} {fb : Nat} {F : Fe} (h : FeedAt W B H fb F) (hB : B' ≤ B) : FeedAt W B' H fb F := ⟨h.ok, h.at_, h.own, fun k hk => ⟨Nat.le_trans hB (h.base k hk).1, (h.base k hk).2⟩, h.u8⟩
theorem FeedAt.later {W W' : World} {B : Nat} {H : Nat → Prop} {fb : Nat} {F : Fe} (h : FeedAt W B H fb F) (hb : Below W.heap.size W W') : FeedAt W' B H fb F := h.kept (fun k hk => hb.block k (h.base k hk).2) hb.size
theorem FeedAt.grown {W W' : World} {B : Nat} {H : Nat → Prop} {fb : Nat} {F : Fe} (h : FeedAt W B H fb F) {row : Option Nat} (hg : W.grownBy W' row) (hr : ∀ k, row = some k → ¬ H k) : FeedAt W' B H fb F :=
  h.kept (fun k hk => hg.block k (h.base k hk).2 (fun e => hr k e.symm hk)) hg.size
theorem FeedAt.off {W : World} {B : Nat} {H K : Nat → Prop} {fb : Nat} {F : Fe} (h : FeedAt W B H fb F) (hd : ∀ k, H k → ¬ K k) : FeedAt (offW K W) B H fb F := h.kept (fun k hk => off_out (hd k hk)) (by rw [off_size]; exact Nat.le_refl _)
theorem FeedAt.unoff {W : World} {B : Nat} {H K : Nat → Prop} {fb : Nat} {F : Fe} (h : FeedAt (offW K W) B H fb F) (hd : ∀ k, H k → ¬ K k) : FeedAt W B H fb F := h.kept (fun k hk => (off_out (hd k hk)).symm) (by rw [off_size]; exact Nat.le_refl _)
theorem FeedAt.keeps {W W' : World} {B : Nat} {H : Nat → Prop} {fb : Nat} {F : Fe} (h : FeedAt W B H fb F) (hb : Below W.heap.size W W') : Keeps W.heap.size W W' H H := .of hb H
theorem four_cell {W : World} {fb j : Nat} {x y z u : Value} {t : TypeId} (h : Blk W fb #[x, y, z, u] t) {v : Value} (hc : W.cell? ⟨fb, j, none⟩ = some v) : (j = 0 ∧ v = x) ∨ (j = 1 ∧ v = y) ∨ (j = 2 ∧ v = z) ∨ (j = 3 ∧ v = u) := by
  rw [h.cell j] at hc
  obtain rfl | rfl | rfl | rfl | ho : j = 0 ∨ j = 1 ∨ j = 2 ∨ j = 3 ∨ 4 ≤ j := by omega
  · simp at hc; exact .inl ⟨rfl, hc.symm⟩
  · simp at hc; exact .inr (.inl ⟨rfl, hc.symm⟩)
  · simp at hc; exact .inr (.inr (.inl ⟨rfl, hc.symm⟩))
  · simp at hc; exact .inr (.inr (.inr ⟨rfl, hc.symm⟩))
  · rw [Array.getElem?_eq_none (by simpa using ho)] at hc
    cases hc
/-- no PDU lies in a feed's own blocks -/
theorem PduAt.offF {W : World} {B : Nat} {H : Nat → Prop} {fb : Nat} {F : Fe} (hF : FeedAt W B H fb F) {p : Pd} {vv va : Value} (h : PduAt W p vv va) : PduAt (offW H W) p vv va := by
  obtain ⟨kv, t, hk, hv⟩ := hF.at_
  obtain ⟨pk, ck, rfl, _⟩ := hv.form
  obtain ⟨⟨q, c, hvv, hx, hc⟩, ⟨qa, ca, ha, hla, hca⟩⟩ := h
  refine ⟨⟨q, c, hvv, hx, fun hl => ?_⟩, ⟨qa, ca, ha, hla, fun hl => ?_⟩⟩
  · obtain ⟨b, o, hq, hcell⟩ := hc hl
    have hH : ¬ H b := fun hH => by
      have h0 := hcell 0 hl
      by_cases hb : b = fb
      · subst hb
        rcases four_cell hk h0 with ⟨_, h⟩ | ⟨_, h⟩ | ⟨_, h⟩ | ⟨_, h⟩ <;> simp at h
      · obtain ⟨n, h⟩ := (hF.u8 b hH hb).cell h0
        simp at h
    exact ⟨b, o, hq, fun j hj => by rw [off_to (a := ⟨b, o + j, none⟩) hH]; exact hcell j hj⟩
  · obtain ⟨b, o, hq, hcell⟩ := hca hl
    have hH : ¬ H b := fun hH => by
      have h1 := (hcell 0 hl).2
      by_cases hb : b = fb
      · subst hb
        rcases four_cell hk h1 with ⟨_, h⟩ | ⟨_, h⟩ | ⟨_, h⟩ | ⟨_, h⟩ <;> simp at h
      · obtain ⟨n, h⟩ := (hF.u8 b hH hb).cell h1
        simp at h
    exact ⟨b, o, hq, fun j hj => by
      rw [off_to (a := ⟨b, o + j * 2, none⟩) hH, off_to (a := ⟨b, o + j * 2 + 1, none⟩) hH]; exact hcell j hj⟩
/-- another feed's work leaves this one -/
theorem FeedAt.other {W W' : World} {B B' : Nat} {H K K' : Nat → Prop} {fb fb' : Nat} {F : Fe} (h : FeedAt W B H fb F) (hk : Keeps W.heap.size W W' K K') (hd : ∀ k, H k → ¬ K k) : FeedAt W' B H fb F :=
  h.kept (fun k hh => hk.block k (h.base k hh).2 (hd k hh)) hk.size
end Go.Proofs.YtlkikkfbennmnaaGreatDoor
