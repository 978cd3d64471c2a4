/- Several texts in one: The listed variables that keys' functions read, as a world's cells.  | The two listed cells, outside of what an object has of its own. No function of the program is walked here.  | The listed variables that keys' functions read, outside of some blocks. No function of the program is walked here.  | A nego in memory: its own blocks, and all others. No function of the program is walked here.  | What a key has, as a value. No program stands in it.  | pairs.Find.  -/
import Derived.Test.YtlcadichpcdgpaaGreatDoorGB
import Derived.Test.YtlcadichpcdgpaaGreatDoorShNum
import Derived.Lib.AppendIntMem
import Derived.Test.YtlcadichpcdgpaaGreatDoorGC
import Derived.Test.YtlcadichpcdgpaaGreatDoorGA
namespace Go.Proofs.YtlcadichpcdgpaaGreatDoor
open Go.RowKit
structure Env (w : World) : Prop where
  mc : MaxCell w
  sy : ∃ v, w.cell? ⟨5, 0, none⟩ = some v ∧ (v = .nilIface ∨ ∃ t p, v = .iface t p)
  rg : ∃ v, w.cell? ⟨6, 0, none⟩ = some v ∧ (v = .nilIface ∨ ∃ t p, v = .iface t p)
  tb : Lib.TabIs Tryz.prog w "internal/strconv.uint64pow10" .u64 Lib.pow10Tab
theorem Env.later {w w' : World} (h : Env w) (hb : Below w.heap.size w w') : Env w' := by
  refine ⟨h.mc.later hb, ?_, ?_, Lib.tabBelow_of_tabIs h.tb w' hb⟩
  · obtain ⟨v, hc, hv⟩ := h.sy
    refine ⟨v, ?_, hv⟩
    exact (by rw [(bcell hb).1 _ 0 (block_lt_of_cell (w := w) (a := ⟨_, 0, none⟩) hc)]; exact hc)
  · obtain ⟨v, hc, hv⟩ := h.rg
    refine ⟨v, ?_, hv⟩
    exact (by rw [(bcell hb).1 _ 0 (block_lt_of_cell (w := w) (a := ⟨_, 0, none⟩) hc)]; exact hc)
/-- strconv.Itoa of a number that is none below 0 -/
theorem itoa_any (n : Nat) (w : World) (hn : n < 1099511627776) (hE : Env w) : Calls Tryz.prog 36 #[.int .i64 (n : Int)] w fun e w' => e = .returned (.string (S (Lib.decDigits n))) ∧ Below w.heap.size w w' := by
  refine (Tryz.strconv_Itoa (n : Int) (by omega) (by omega) w hE.tb).mono ?_
  rintro e w' ⟨rfl, k, os, rfl⟩
  rw [Lib.itoa_nonneg]
  exact ⟨rfl, Lib.below_grow w.heap.size w (Nat.le_refl _) k os⟩
end Go.Proofs.YtlcadichpcdgpaaGreatDoor
namespace Go.Proofs.YtlcadichpcdgpaaGreatDoor
open Go.RowKit
set_option linter.unusedVariables false
theorem ErrCell.off {H : Nat → Prop} {W : World} (h : ErrCell (offW H W)) : ErrCell W := off_cell h
theorem MaxCell.off {H : Nat → Prop} {W : World} (h : MaxCell (offW H W)) : MaxCell W := by obtain ⟨m, hm⟩ := h; exact ⟨m, off_cell hm⟩
/-- the listed cells lie in no feed's blocks -/
structure GL (H : Nat → Prop) (W : World) : Prop where
  c : MaxCell (offW H W)
  g : ErrCell (offW H W)
theorem GL.keeps {w w' : World} {H H' : Nat → Prop} (h : GL H w) (hk : Keeps w.heap.size w w' H H') : GL H' w' := ⟨h.c.later hk.off', h.g.later hk.off'⟩
theorem GL.later {w w' : World} {H : Nat → Prop} (h : GL H w) (hb : Below w.heap.size w w') : GL H w' := h.keeps (Keeps.of hb H)
theorem GL.mk' {w w' : World} {H : Nat → Prop} (hc : MaxCell w) (hg : ErrCell w) (hb : Below w.heap.size w w') (hH : ∀ k, H k → w.heap.size ≤ k) : GL H w' := by
  obtain ⟨m, hm⟩ := hc
  have h1 := block_lt_of_cell (w := w) hm
  have h2 := block_lt_of_cell (w := w) hg
  simp only at h1 h2
  refine ⟨⟨m, ?_⟩, ?_⟩
  · rw [off_to (a := ⟨2, 0, none⟩) (fun hh => by have := hH _ hh; simp only at this; omega), (bcell hb).1 _ _ h1]; exact hm
  · unfold ErrCell
    rw [off_to (a := ⟨0, 0, none⟩) (fun hh => by have := hH _ hh; simp only at this; omega), (bcell hb).1 _ _ h2]; exact hg
/-- what a world was when a feed was made, is so -/
theorem Keeps.from {w w1 w2 : World} {H H2 : Nat → Prop} (hb : Below w.heap.size w w1) (hk : Keeps w1.heap.size w1 w2 H H2) (hH : ∀ k, H k → w.heap.size ≤ k) : Below w.heap.size w w2 := hb.trans (hk.below hb.size hH)
end Go.Proofs.YtlcadichpcdgpaaGreatDoor
namespace Go.Proofs.YtlcadichpcdgpaaGreatDoor
open Go.RowKit
set_option linter.unusedVariables false
theorem tabIs_off {H : Nat → Prop} {W : World} (h : Lib.TabIs Tryz.prog (offW H W) "internal/strconv.uint64pow10" .u64 Lib.pow10Tab) : Lib.TabIs Tryz.prog W "internal/strconv.uint64pow10" .u64 Lib.pow10Tab := by
  unfold Lib.TabIs World.var? at *
  cases hg : Tryz.prog.globalNamed "internal/strconv.uint64pow10" with
  | none => simp [hg] at h
  | some g =>
    simp only [hg, Option.bind_some] at h ⊢
    by_cases hH : H g
    · have hlt : g < W.heap.size := by
        rcases Nat.lt_or_ge g W.heap.size with h' | h'
        · exact h'
        · rw [Array.getElem?_eq_none (by rw [off_size]; exact h')] at h; simp at h
      rw [off_in hH hlt] at h
      have h2 := congrArg (fun x : Option (Array Value) => x.map Array.size) h
      simp [Lib.pow10Tab] at h2
    · rw [off_out hH] at h
      exact h
theorem Env.off {H : Nat → Prop} {W : World} (h : Env (offW H W)) : Env W := by
  refine ⟨h.mc.off, ?_, ?_, tabIs_off h.tb⟩
  · obtain ⟨v, hc, hv⟩ := h.sy
    exact ⟨v, off_cell hc, hv⟩
  · obtain ⟨v, hc, hv⟩ := h.rg
    exact ⟨v, off_cell hc, hv⟩
theorem Env.keeps {w W : World} {H H' : Nat → Prop} (h : Env (offW H w)) (hk : Keeps w.heap.size w W H H') : Env (offW H' W) := h.later hk.off'
end Go.Proofs.YtlcadichpcdgpaaGreatDoor
namespace Go.Proofs.YtlcadichpcdgpaaGreatDoor
open Go.RowKit
set_option linter.unusedVariables false
theorem PrsV.sub {H K : Nat → Prop} {W : World} {v : Value} {l : List Pr} (h : PrsV (offW K W) v l) (hs : ∀ k, H k → K k) : PrsV (offW H W) v l := by
  obtain ⟨p, c, hv, hlc, hc⟩ := h
  refine ⟨p, c, hv, hlc, fun hl => ?_⟩
  obtain ⟨b, o, hp, hcell⟩ := hc hl
  have hn : ¬ H b := fun hh => off_cellout (hcell 0 hl).1 (hs b hh)
  exact ⟨b, o, hp, fun j hj => ⟨by rw [off_to (a := ⟨b, o + j * 2, none⟩) hn]; exact off_cell (hcell j hj).1, by rw [off_to (a := ⟨b, o + j * 2 + 1, none⟩) hn]; exact off_cell (hcell j hj).2⟩⟩
theorem PrsV.both {H K : Nat → Prop} {W : World} {v : Value} {l : List Pr} (h : PrsV (offW H W) v l) (h' : PrsV (offW K W) v l) : PrsV (offW (fun k => H k ∨ K k) W) v l := by
  obtain ⟨p, c, rfl, hlc, hc⟩ := h
  obtain ⟨p', c', hv', _, hc'⟩ := h'
  obtain ⟨rfl, rfl⟩ : p = p' ∧ c = c' := by simpa using hv'
  refine ⟨p, c, rfl, hlc, fun hl => ?_⟩
  obtain ⟨b, o, hp, hcell⟩ := hc hl
  obtain ⟨b', o', hp', hcell'⟩ := hc' hl
  rw [hp] at hp'
  obtain ⟨rfl, rfl⟩ : b = b' ∧ o = o' := by simpa using hp'
  have hn : ¬ (H b ∨ K b) := fun hh => by
    rcases hh with hh | hh
    · exact off_cellout (hcell 0 hl).1 hh
    · exact off_cellout (hcell' 0 hl).1 hh
  exact ⟨b, o, hp, fun j hj => ⟨by rw [off_to (a := ⟨b, o + j * 2, none⟩) hn]; exact off_cell (hcell j hj).1, by rw [off_to (a := ⟨b, o + j * 2 + 1, none⟩) hn]; exact off_cell (hcell j hj).2⟩⟩
/-- pairs in a block that isn't one of these -/
theorem PrsV.apart {W : World} {b o n c nb : Nat} {l : List Pr} (h : PrsV W (.slice (some ⟨b, o, none⟩) n c) l) (hn : b ≠ nb) : PrsV (offW (fun k => k = nb) W) (.slice (some ⟨b, o, none⟩) n c) l := by
  obtain ⟨p, c', hv, hlc, hc⟩ := h
  refine ⟨p, c', hv, hlc, fun hl => ?_⟩
  obtain ⟨b', o', hp, hcell⟩ := hc hl
  simp only [Value.slice.injEq] at hv
  obtain ⟨e, _⟩ := hv
  rw [hp] at e
  obtain ⟨rfl, rfl⟩ : b = b' ∧ o = o' := by simpa using e
  exact ⟨b, o, hp, fun j hj => by rw [off_to (a := ⟨b, o + j * 2, none⟩) hn, off_to (a := ⟨b, o + j * 2 + 1, none⟩) hn]; exact hcell j hj⟩
theorem PrsV.apartH {H : Nat → Prop} {W : World} {b o n c : Nat} {l : List Pr} (h : PrsV W (.slice (some ⟨b, o, none⟩) n c) l) (hn : ¬ H b) : PrsV (offW H W) (.slice (some ⟨b, o, none⟩) n c) l := by
  obtain ⟨p, c', hv, hlc, hc⟩ := h
  refine ⟨p, c', hv, hlc, fun hl => ?_⟩
  obtain ⟨b', o', hp, hcell⟩ := hc hl
  simp only [Value.slice.injEq] at hv
  obtain ⟨e, _⟩ := hv
  rw [hp] at e
  obtain ⟨rfl, rfl⟩ : b = b' ∧ o = o' := by simpa using e
  exact ⟨b, o, hp, fun j hj => by rw [off_to (a := ⟨b, o + j * 2, none⟩) hn, off_to (a := ⟨b, o + j * 2 + 1, none⟩) hn]; exact hcell j hj⟩
/-- a world without blocks that are new is as it was -/
theorem below_mask {w0 W : World} {H : Nat → Prop} (h : Below w0.heap.size w0 W) (hH : ∀ k, H k → w0.heap.size ≤ k) : Below w0.heap.size w0 (offW H W) :=
  ⟨h.os, h.tape, h.output, by rw [off_size]; exact h.size, fun k hk => by rw [off_out (fun hh => by have := hH k hh; omega)]; exact h.block k hk⟩
theorem Keeps.wide {N : Nat} {w w' : World} {K K' : Nat → Prop} (h : Keeps N w w' K K') (H : Nat → Prop) : Keeps N w w' (fun k => H k ∨ K k) (fun k => H k ∨ K' k) :=
  ⟨h.os, h.tape, h.output, h.size, fun k hk hn => h.block k hk (fun hh => hn (.inr hh)), fun k hk => hk.imp_right (h.more k), fun k hk => by
    rcases hk with hk | hk
    · exact .inl (.inl hk)
    · rcases h.old k hk with h | h
      · exact .inl (.inr h)
      · exact .inr h⟩
theorem Keeps.wide' {N : Nat} {w w' : World} {K K' : Nat → Prop} (h : Keeps N w w' K K') (H : Nat → Prop) : Keeps N w w' (fun k => K k ∨ H k) (fun k => K' k ∨ H k) :=
  ⟨h.os, h.tape, h.output, h.size, fun k hk hn => h.block k hk (fun hh => hn (.inl hh)), fun k hk => hk.imp_left (h.more k), fun k hk => by
    rcases hk with hk | hk
    · rcases h.old k hk with h | h
      · exact .inl (.inl h)
      · exact .inr h
    · exact .inl (.inr hk)⟩
/-- a nego lies at nb; H: its own blocks -/
structure NegAt (W : World) (B : Nat) (H : Nat → Prop) (nb : Nat) (mv : Value) (mine recd : List Pr) : Prop where
  at_ : ∃ rv, Blk W nb #[mv, rv] 95 ∧ PrBuf B W rv recd ∧ ∀ k, rv.ownBlock = some k → H k ∧ k ≠ nb
  mine : PrsV (offW H W) mv mine
  own : H nb
  base : ∀ k, H k → B ≤ k ∧ k < W.heap.size
  str : ∀ k, H k → k ≠ nb → ∃ s, W.cell? ⟨k, 0, none⟩ = some (.string s)
theorem NegAt.kept {W W' : World} {B : Nat} {H : Nat → Prop} {nb : Nat} {mv : Value} {mine recd : List Pr} (h : NegAt W B H nb mv mine recd) (hs : W.heap.size ≤ W'.heap.size) (hb : ∀ k, H k → W'.heap[k]? = W.heap[k]?) (hm : PrsV (offW H W') mv mine) : NegAt W' B H nb mv mine recd := by
  obtain ⟨rv, h1, h2, h3⟩ := h.at_
  refine ⟨⟨rv, (hb nb h.own).trans h1, ?_, h3⟩, hm, h.own, fun k hk => ⟨(h.base k hk).1, Nat.lt_of_lt_of_le (h.base k hk).2 hs⟩, fun k hk hne => ?_⟩
  · rcases h2.2 with ⟨e, h0⟩ | ⟨g, cap, cur, e, hbg, hg, r⟩
    · exact ⟨h2.1, .inl ⟨e, h0⟩⟩
    · exact ⟨h2.1, .inr ⟨g, cap, cur, e, hbg, (hb g (h3 g (by rw [e]; rfl)).1).trans hg, r⟩⟩
  · obtain ⟨s, h4⟩ := h.str k hk hne
    exact ⟨s, (World.cell?_of_block (w := W) (a := ⟨k, 0, none⟩) (hb k hk)).trans h4⟩
theorem NegAt.later {W W' : World} {B : Nat} {H : Nat → Prop} {nb : Nat} {mv : Value} {mine recd : List Pr} (h : NegAt W B H nb mv mine recd) (hb : Below W.heap.size W W') : NegAt W' B H nb mv mine recd :=
  h.kept hb.size (fun k hk => hb.block k (h.base k hk).2) (h.mine.later (Keeps.of hb H).off')
/-- another one's work -/
theorem NegAt.other {W W' : World} {B : Nat} {H K K' : Nat → Prop} {nb : Nat} {mv : Value} {mine recd : List Pr} (h : NegAt W B H nb mv mine recd) (hk : Keeps W.heap.size W W' K K') (hd : ∀ k, H k → ¬ K k) (hm : PrsV (offW (fun k => H k ∨ K k) W) mv mine) : NegAt W' B H nb mv mine recd :=
  h.kept hk.size (fun k hh => hk.block k (h.base k hh).2 (hd k hh)) ((hm.later (hk.wide H).off').sub (fun k hh => .inl hh))
theorem NegAt.mono {W : World} {B B' : Nat} {H : Nat → Prop} {nb : Nat} {mv : Value} {mine recd : List Pr} (h : NegAt W B H nb mv mine recd) (hB : B' ≤ B) : NegAt W B' H nb mv mine recd := by
  obtain ⟨rv, h1, h2, h3⟩ := h.at_
  refine ⟨⟨rv, h1, ?_, h3⟩, h.mine, h.own, fun k hk => ⟨Nat.le_trans hB (h.base k hk).1, (h.base k hk).2⟩, h.str⟩
  rcases h2.2 with ⟨e, h0⟩ | ⟨g, cap, cur, e, hbg, r⟩
  · exact ⟨h2.1, .inl ⟨e, h0⟩⟩
  · exact ⟨h2.1, .inr ⟨g, cap, cur, e, by omega, r⟩⟩
/-- an error lies in none of its blocks -/
theorem ErrIs.offN {W : World} {B : Nat} {H : Nat → Prop} {nb : Nat} {mv : Value} {mine recd : List Pr} (hN : NegAt W B H nb mv mine recd) {v : Value} {n p : Int} (h : ErrIs W v n p) : ErrIs (offW H W) v n p := by
  cases h with
  | good => exact .good
  | bare _ hn => exact .bare _ hn
  | placed b _ _ hn h0 h1 =>
    have hH : ¬ H b := fun hH => by
      by_cases hb : b = nb
      · subst hb
        obtain ⟨rv, hk, h2, _⟩ := hN.at_
        obtain ⟨pm, cm, hm⟩ := hN.mine.form
        rw [hk.cell 0, hm] at h0
        simp at h0
      · obtain ⟨s, h⟩ := hN.str b hH hb
        rw [h0] at h
        simp at h
    exact .placed b _ _ hn (by rw [off_to (a := ⟨b, 0, none⟩) hH]; exact h0) (by rw [off_to (a := ⟨b, 1, none⟩) hH]; exact h1)
/-- what is made behind it lies outside -/
theorem PrBuf.offN {W W' : World} {B base : Nat} {H : Nat → Prop} {nb : Nat} {mv : Value} {mine recd : List Pr} (hN : NegAt W B H nb mv mine recd) {v : Value} {l : List Pr} (h : PrBuf base W' v l) (hb : W.heap.size ≤ base) : PrBuf base (offW H W') v l :=
  row_off h (fun k hk hh => by have := h.ge k hk; have := (hN.base k hh).2; omega)
end Go.Proofs.YtlcadichpcdgpaaGreatDoor
namespace Go.Proofs.YtlcadichpcdgpaaGreatDoor
open Go.RowKit
def findR (r : Option (List UInt8)) : Value := match r with
  | some v => .tuple #[.string (S v), .bool true]
  | none => .tuple #[.string (S []), .bool false]
end Go.Proofs.YtlcadichpcdgpaaGreatDoor
namespace Go.Proofs.YtlcadichpcdgpaaGreatDoor
open Go.RowKit
set_option maxRecDepth 100000 in
theorem find_prs (l : List Pr) (key : List UInt8) (v : Value) (w : World) (hv : PrsV w v l) (hl : l.length ≤ 140737488355328) :
    Calls Tryz.prog 27 #[v, .string (S key)] w fun e w' => e = .returned (findR (prFind l key)) ∧ Below w.heap.size w w' := by
  obtain ⟨p, c, rfl, _, hc⟩ := hv
  have Hc := Lib.hid hc
  clear hc
  go_enter Tryz.func27, Tryz.ntmps27
  go_wp2_with fail
  go_loopw [10] (fun i wr => ∃ j : Nat, j ≤ l.length ∧ i = .int .i64 j ∧ prFind (l.drop j) key = prFind l key ∧ Below w.heap.size w wr) (fun i _ => l.length - (intOf i).toNat)
  case atStart => exact ⟨0, by omega, rfl, rfl, Below.refl _ _⟩
  case round =>
    obtain ⟨j, hj, rfl, hr, hb⟩ := hrel
    have Hb := Lib.hid hb
    by_cases hlt : j < l.length
    · obtain ⟨b, o, rfl, hcl⟩ := Hc.out (by omega)
      obtain ⟨h1, h2⟩ := hcl j hlt
      rw [← (bcell hb).1 b (o + j * 2) (block_lt_of_cell (w := w) (a := ⟨b, o + j * 2, none⟩) h1)] at h1
      rw [← (bcell hb).1 b (o + j * 2 + 1) (block_lt_of_cell (w := w) (a := ⟨b, o + j * 2 + 1, none⟩) h2)] at h2
      obtain ⟨a, ha⟩ : ∃ a, l[j] = a := ⟨_, rfl⟩
      rw [List.drop_eq_getElem_cons hlt] at hr
      rw [ha] at h1 h2 hr
      obtain ⟨k, d⟩ := a
      simp only at h1 h2
      have Hb1 := Lib.hid (hb.alloc hb.size (.cells #[.string (S k), .string (S d)] 40))
      have e0 : prFind (⟨k, d⟩ :: l.drop (j + 1)) key = if k = key then some d else prFind (l.drop (j + 1)) key := rfl
      rw [e0] at hr
      have Hr := Lib.hid hr
      clear hr hcl hb ha e0
      by_cases hk : k = key
      · rw [if_pos hk] at Hr
        subst hk
        go_wp2_with fail
        go_ret2
        rw [← Hr.out]
        exact ⟨rfl, Hb1.out⟩
      · rw [if_neg hk] at Hr
        have hS : (k == key) = false := by
          rw [beq_eq_false_iff_ne]
          exact hk
        go_wp2_with fail
        go_roundw
        case rel => exact ⟨j + 1, by omega, by go_num, Hr.out, Hb1.out⟩
        case measure => simp [intOf]; omega
    · obtain rfl : j = l.length := by omega
      have Hr := Lib.hid hr
      clear hr hb
      go_wp2_with fail
      go_ret2
      rw [← Hr.out, List.drop_length]
      exact ⟨rfl, Hb.out⟩
end Go.Proofs.YtlcadichpcdgpaaGreatDoor
