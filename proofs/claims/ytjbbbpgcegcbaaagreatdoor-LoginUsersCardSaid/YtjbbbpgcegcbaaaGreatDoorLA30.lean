/- LA30: several texts in one. -/
import Derived.Deep.MidRow
import Derived.Deep.Upon
import Derived.Laws.AppendOwn
import Derived.Laws.OwnMore
import Derived.Lib.SliceRun
import Derived.StillTailTactics
import Derived.Test.YtjbbbpgcegcbaaaGreatDoorLA06
import Derived.Test.YtjbbbpgcegcbaaaGreatDoorLA07
import Derived.Test.YtjbbbpgcegcbaaaGreatDoorLA08
import Derived.Test.YtjbbbpgcegcbaaaGreatDoorLA09
import Derived.Test.YtjbbbpgcegcbaaaGreatDoorLA10
import Derived.Test.YtjbbbpgcegcbaaaGreatDoorLA13
import Derived.Test.YtjbbbpgcegcbaaaGreatDoorLA15
import Derived.Test.YtjbbbpgcegcbaaaGreatDoorLA17
import Derived.Test.YtjbbbpgcegcbaaaGreatDoorLA18
import Derived.Test.YtjbbbpgcegcbaaaGreatDoorLA20
import Derived.Test.YtjbbbpgcegcbaaaGreatDoorLA29
namespace Go.Proofs.YtjbbbpgcegcbaaaGreatDoor
open Go Go.RowKit
set_option linter.unusedVariables false
theorem LogIn.grown {w W W' : World} {B lb : Nat} {m0 m : LgM} {c : Cf} {d : Dw} {q0 q : Lq} (h0 : LogIn w B lb m0 c d q0) (h : LogIn W B lb m c d q) (hk : Keeps w.heap.size w W (m0.H lb) (m.H lb)) (e : m.mv = m0.mv ∧ m.vt = m0.vt ∧ m.vu = m0.vu ∧ q.mine = q0.mine) {row : Option Nat} (hg : W.grownBy W' row) (hr : ∀ k, row = some k → w.heap.size ≤ k ∧ ¬ m.H lb k) : LogIn W' B lb m c d q ∧ Keeps w.heap.size w W' (m0.H lb) (m.H lb) := by
 have hK : Keeps w.heap.size w W' (m0.H lb) (m.H lb) := hk.grownH hg (fun k hk => (hr k hk).1) hk.size
 have hb : ∀ k, m.H lb k → W'.heap[k]? = W.heap[k]? := fun k hh => hg.block k (h.ge k hh).2 (fun e => (hr k e.symm).2 hh)
 have hm : PrsV (offW (m.H lb) W') m.mv q.mine := by rw [e.1, e.2.2.2]; exact h0.mine.later hK.off'
 have ht : StrV (offW (m.H lb) W') m.vt c.ts := by rw [e.2.1]; exact h0.ts.later hK.off'
 have hu : UsV (offW (m.H lb) W') m.vu c.us := by rw [e.2.2.1]; exact h0.us.later hK.off'
 exact ⟨⟨(hb lb .lb).trans h.blk, h.neg.kept hg.size (fun k hn => hb k (.neg k hn)) (hm.sub (fun k hn => .neg k hn)), h.gat.kept (fun k hh => hb k (.gat k hh)) hg.size, h.who.same (hb m.mb .mb), hm, ht, hu, h.base, h.d1, h.d2, h.d3, h.d4⟩, hK⟩
theorem PrBuf.offG {W : World} {B base gb : Nat} {H K : Nat → Prop} {G : Ga} {v : Value} {l : List Pr} (hG : GatAt W B H gb G) (h : PrBuf base W v l) (hK : ∀ k, K k → k < base ∨ H k) : PrsV (offW K W) v l := by
 obtain ⟨p, c, hv, hlc, hc⟩ := h.prs.offG hG
 refine ⟨p, c, hv, hlc, fun hl => ?_⟩
 obtain ⟨b, o, hp, hcell⟩ := hc hl
 have hH : ¬ H b := off_cellout (hcell 0 hl).1
 have hge : base ≤ b := by
  rcases h.2 with ⟨rfl, h0⟩ | ⟨g, cap, cur, hvv, hbg, _⟩
  ·omega
  ·rw [hv, hp] at hvv
   simp only [Value.slice.injEq, Option.some.injEq, Addr.mk.injEq] at hvv
   have := hvv.1.1
   omega
 have hn : ¬ K b := fun hk => by rcases hK b hk with h | h; omega; exact hH h
 exact ⟨b, o, hp, fun j hj => ⟨by rw [off_to (a := ⟨b, o + j * 2, none⟩) hn]; exact off_cell (hcell j hj).1, by rw [off_to (a := ⟨b, o + j * 2 + 1, none⟩) hn]; exact off_cell (hcell j hj).2⟩⟩
structure InH (w W : World) (B lb : Nat) (m0 m : LgM) (c : Cf) (d : Dw) (q0 q : Lq) (pb rb : Nat) (C R : Array Value) : Prop where
 start : LogIn w B lb m0 c d q0
 pbk : Blk W pb C 41
 rbk : Blk W rb R 114
 log : LogIn W B lb m c d q
 keep : Keeps w.heap.size w W (m0.H lb) (m.H lb)
 sep : ¬ m.H lb pb ∧ ¬ m.H lb rb
 new : w.heap.size ≤ pb ∧ w.heap.size ≤ rb
 same : m.mv = m0.mv ∧ m.vt = m0.vt ∧ m.vu = m0.vu ∧ q.mine = q0.mine
section
variable {w W W' : World} {B lb : Nat} {m0 m m' : LgM} {c : Cf} {d : Dw} {q0 q q' : Lq} {pb rb : Nat} {C R : Array Value}
theorem InH.later (h : InH w W B lb m0 m c d q0 q pb rb C R) (hb : Below W.heap.size W W') : InH w W' B lb m0 m c d q0 q pb rb C R :=
 ⟨h.start, h.pbk.later hb, h.rbk.later hb, h.log.later hb, h.keep.then (Keeps.of hb _), h.sep, h.new, h.same⟩
theorem InH.step (h : InH w W B lb m0 m c d q0 q pb rb C R) (hl : LogIn W' B lb m' c d q') (hk : Keeps W.heap.size W W' (m.H lb) (m'.H lb)) (e : m'.mv = m.mv ∧ m'.vt = m.vt ∧ m'.vu = m.vu ∧ q'.mine = q.mine) : InH w W' B lb m0 m' c d q0 q' pb rb C R := by
 have hs : ∀ k, k < W.heap.size → ¬ m.H lb k → ¬ m'.H lb k := fun k hlt hn hh => by
  rcases hk.old k hh with h | h
  ·exact hn h
  ·omega
 exact ⟨h.start, (hk.block pb h.pbk.lt h.sep.1).trans h.pbk, (hk.block rb h.rbk.lt h.sep.2).trans h.rbk, hl, h.keep.then hk, ⟨hs pb h.pbk.lt h.sep.1, hs rb h.rbk.lt h.sep.2⟩, h.new, ⟨e.1.trans h.same.1, e.2.1.trans h.same.2.1, e.2.2.1.trans h.same.2.2.1, e.2.2.2.trans h.same.2.2.2⟩⟩
theorem InH.said (h : InH w W B lb m0 m c d q0 q pb rb C R) {v v2 : Value} {l l2 : List Pr} {b b2 : Nat} (hv : PrBuf b (offW (m.H lb) W) v l) (hv2 : PrBuf b2 (offW (m.H lb) W) v2 l2) (hl : l.length + l2.length ≤ 1000) (hb : w.heap.size ≤ b) (hbW : b ≤ W.heap.size) :
  ∃ v' W', (Builtin.append_ #[27, 27] 27 #[v, v2]).run Tryz.prog W = .ok v' W' ∧ PrBuf b (offW (m.H lb) W') v' (l ++ l2) ∧ InH w W' B lb m0 m c d q0 q pb rb C R ∧ W.grownBy W' v.ownBlock := by
 obtain ⟨v', W', hr, hp, hg, hk⟩ := appM_own hv.off hv2.off hl hbW
 have hout := (off_row hv).2
 have hge : ∀ k, v.ownBlock = some k → w.heap.size ≤ k := fun k hk => Nat.le_trans hb (World.ownsRow.lt hv.off k hk).1
 obtain ⟨hl', hk'⟩ := h.start.grown h.log h.keep h.same hg (fun k e => ⟨hge k e, hout k e⟩)
 have hne : ∀ (b : Nat) (X : Array Value) (t : TypeId), Blk W b X t → t ≠ 60 → v.ownBlock ≠ some b := fun b X t hb ht e => by
  rcases hv.off.2 with ⟨rfl, _⟩ | ⟨g, cap, cur, rfl, _, hgc, _⟩
  ·simp [Value.ownBlock] at e
  ·have : g = b := by simpa [Value.ownBlock] using e
   subst this
   have hb' : W.heap[g]? = some (.cells X t (0, 0)) := hb
   rw [hb'] at hgc
   exact ht (congrArg (fun (o : Option Obj) => match o with | some (.cells _ t _) => t | _ => t) hgc)
 refine ⟨v', W', hr, hv.offM hp hk (fun k hh => (h.log.ge k hh).2), ⟨h.start, (hg.block pb h.pbk.lt (fun e => hne pb _ _ h.pbk (by decide) e.symm)).trans h.pbk, (hg.block rb h.rbk.lt (fun e => hne rb _ _ h.rbk (by decide) e.symm)).trans h.rbk, hl', hk', h.sep, h.new, h.same⟩, hg⟩
theorem PrBuf.apartG {W W' : World} {H : Nat → Prop} {vo v : Value} {lo l : List Pr} {b0 b : Nat} (ho : PrBuf b0 (offW H W) vo lo) (hlt : ∀ k, vo.ownBlock = some k → k < b) (hv : PrBuf b W v l) (hg : W.grownBy W' v.ownBlock) : PrBuf b0 (offW H W') vo lo := by
 refine row_off (World.ownsRow.kept (row := v.ownBlock) ho.off hg ?_) (off_row ho).2
 cases hvo : vo.ownBlock with
 | none => exact .inl rfl
 | some k =>
  refine .inr (fun e => ?_)
  have h1 := hlt k hvo
  have h2 := (World.ownsRow.lt hv k e.symm).1
  omega
theorem InH.laid (h : InH w W B lb m0 m c d q0 q pb rb C R) {R' : Array Value} (hpb : pb ≠ rb) (hk : Keeps W.heap.size W W' (fun k => k = rb) (fun k => k = rb)) (hb : Blk W' rb R' 114) : InH w W' B lb m0 m c d q0 q pb rb C R' := by
 have hlb : ∀ k, m.H lb k → k ≠ rb := fun k hh e => h.sep.2 (e ▸ hh)
 have hK : Keeps w.heap.size w W' (m0.H lb) (m.H lb) := ⟨hk.os.trans h.keep.os, hk.tape.trans h.keep.tape, hk.output.trans h.keep.output, Nat.le_trans h.keep.size hk.size, fun k hl hn => (hk.block k (Nat.lt_of_lt_of_le hl h.keep.size) (fun e => by have := h.new.2; omega)).trans (h.keep.block k hl hn), h.keep.more, h.keep.old⟩
 have hbk : ∀ k, m.H lb k → W'.heap[k]? = W.heap[k]? := fun k hh => hk.block k (h.log.ge k hh).2 (hlb k hh)
 have e := h.same
 have hm : PrsV (offW (m.H lb) W') m.mv q.mine := by rw [e.1, e.2.2.2]; exact h.start.mine.later hK.off'
 have ht : StrV (offW (m.H lb) W') m.vt c.ts := by rw [e.2.1]; exact h.start.ts.later hK.off'
 have hu : UsV (offW (m.H lb) W') m.vu c.us := by rw [e.2.2.1]; exact h.start.us.later hK.off'
 have hL := h.log
 exact ⟨h.start, (hk.block pb h.pbk.lt hpb).trans h.pbk, hb, ⟨(hbk lb .lb).trans hL.blk, hL.neg.kept hk.size (fun k hn => hbk k (.neg k hn)) (hm.sub (fun k hn => .neg k hn)), hL.gat.kept (fun k hh => hbk k (.gat k hh)) hk.size, hL.who.same (hbk m.mb .mb), hm, ht, hu, hL.base, hL.d1, hL.d2, hL.d3, hL.d4⟩, hK, h.sep, h.new, h.same⟩
end
end Go.Proofs.YtjbbbpgcegcbaaaGreatDoor
namespace Go.Proofs.YtjbbbpgcegcbaaaGreatDoor
open Go.RowKit
theorem cut0_any (c : UInt8) (s : List UInt8) (w : World) (hl : s.length ≤ 1000000) (hm : MaxCell w) :
  Calls Tryz.prog 93 #[.string (S s), .string (S [c])] w fun e w' => e = .returned (match cut1 c s with
   | none => .tuple #[.string (S s), .string (S []), .bool false]
   | some (a, b) => .tuple #[.string (S a), .string (S b), .bool true]) ∧ ∃ n, w' = w.drewN n := by
 obtain ⟨m, hm⟩ := hm
 have C := Tryz.strings_Cut (S s) (S [c]) m w (by rw [S_size]; omega) hm
 have e1 : (S s).data.toList = s := by simp [S]
 have e2 : (S [c]).data.toList = [c] := by simp [S]
 rw [e1, e2, cut_one] at C
 cases h : cut1 c s with
 | none => rw [h] at C; exact C
 | some q => obtain ⟨a, b⟩ := q; rw [h] at C; exact C
theorem cut0_none {c : UInt8} {s : List UInt8} (w : World) (hl : s.length ≤ 1000000) (hm : MaxCell w) (h : cut1 c s = none) :
  Calls Tryz.prog 93 #[.string (S s), .string (S [c])] w fun e w' => e = .returned (.tuple #[.string (S s), .string (S []), .bool false]) ∧ ∃ n, w' = w.drewN n := by
 have C := cut0_any c s w hl hm
 rw [h] at C
 exact C
theorem cut0_some {c : UInt8} {s a b : List UInt8} (w : World) (hl : s.length ≤ 1000000) (hm : MaxCell w) (h : cut1 c s = some (a, b)) :
  Calls Tryz.prog 93 #[.string (S s), .string (S [c])] w fun e w' => e = .returned (.tuple #[.string (S a), .string (S b), .bool true]) ∧ ∃ n, w' = w.drewN n := by
 have C := cut0_any c s w hl hm
 rw [h] at C
 exact C
def RetFirst (w : World) (r : Int × Pr × List UInt8) (e : Ending) (w' : World) : Prop := e = .returned (.tuple #[.agg #[.string (S r.2.1.k), .string (S r.2.1.v)], .string (S r.2.2), .int .i64 r.1]) ∧ Below w.heap.size w w'
set_option maxRecDepth 100000 in
theorem first_pr (s : List UInt8) (w : World) (hl : s.length ≤ 1000000) (hm : MaxCell w) :
  Calls Tryz.prog 62 #[.string (S s)] w (RetFirst w (prFirst s)) := by
 have hb0 := (Below.refl w.heap.size w).alloc (Nat.le_refl _) (.cells #[.string (S []), .string (S [])] 60)
 have Hb0 := Lib.hid hb0
 have hm1 := hm.later hb0
 have HM := Lib.hid hm1
 have HK := Lib.hid (Blk.new w #[.string (S []), .string (S [])] 60)
 cases h : cut1 0 s with
 | none =>
  have E := Lib.hid (prFirst_end h)
  have C := Lib.hid (cut0_none _ hl hm1 h)
  clear hb0 hm hm1 h
  go_enter Tryz.func62, Tryz.ntmps62
  go_wp2_with fail
  refine C.out.mono ?_
  rintro e w1 ⟨rfl, n, rfl⟩
  obtain ⟨q0, q1⟩ := (HK.out.drewN n).two
  have f0 := (HK.out.drewN n).frozen 0
  have f1 := (HK.out.drewN n).frozen 1
  have Hb1 := Lib.hid (below_drewN Hb0.out n)
  generalize (w.alloc (.cells #[.string (S []), .string (S [])] 60)).drewN n = w1 at q0 q1 f0 f1 Hb1 ⊢
  go_wp2_with fail
  refine bodyPost_ret (v := .tuple #[.agg #[.string (S []), .string (S [])], .string (S []), .int .i64 7]) (by simp [results, Tryz.results62, go_sem, q0, q1]) rfl ?_
  rw [E.out]
  exact ⟨rfl, (Hb1.out.setCell (Nat.le_refl _) _).setCell (Nat.le_refl _) _⟩
 | some q =>
  obtain ⟨t, r⟩ := q
  have hs := (cut1_some h).1
  have hlt : t.length ≤ 1000000 := by have := congrArg List.length hs; simp at this; omega
  have C := Lib.hid (cut0_some _ hl hm1 h)
  cases h2 : cut1 61 t with
  | none =>
   have E := Lib.hid (prFirst_form h h2)
   have C2 := fun n => Lib.hid (cut0_none _ hlt (hm1.later (below_drawn n)) h2)
   clear hb0 hm hm1 h hs h2
   go_enter Tryz.func62, Tryz.ntmps62
   go_wp2_with fail
   refine C.out.mono ?_
   rintro e w1 ⟨rfl, n, rfl⟩
   go_wp2_with fail
   refine (C2 _).out.mono ?_
   rintro e w1 ⟨rfl, n2, rfl⟩
   have HK2 := (HK.out.drewN n).drewN n2
   obtain ⟨q0, q1⟩ := HK2.two
   have f0 := HK2.frozen 0
   have f1 := HK2.frozen 1
   have Hb1 := Lib.hid (below_drewN (below_drewN Hb0.out n) n2)
   clear HK2
   generalize ((w.alloc (.cells #[.string (S []), .string (S [])] 60)).drewN n).drewN n2 = w1 at q0 q1 f0 f1 Hb1 ⊢
   go_wp2_with fail
   refine bodyPost_ret (v := .tuple #[.agg #[.string (S []), .string (S [])], .string (S []), .int .i64 3]) (by simp [results, Tryz.results62, go_sem, q0, q1]) rfl ?_
   rw [E.out]
   exact ⟨rfl, (Hb1.out.setCell (Nat.le_refl _) _).setCell (Nat.le_refl _) _⟩
  | some q =>
   obtain ⟨k, v⟩ := q
   have E := Lib.hid (prFirst_good h h2)
   have C2 := fun n => Lib.hid (cut0_some _ hlt (hm1.later (below_drawn n)) h2)
   clear hb0 hm hm1 h hs h2
   go_enter Tryz.func62, Tryz.ntmps62
   go_wp2_with fail
   refine C.out.mono ?_
   rintro e w1 ⟨rfl, n, rfl⟩
   go_wp2_with fail
   refine (C2 _).out.mono ?_
   rintro e w1 ⟨rfl, n2, rfl⟩
   have HK2 := (HK.out.drewN n).drewN n2
   obtain ⟨q0, q1⟩ := HK2.two
   have f0 := HK2.frozen 0
   have f1 := HK2.frozen 1
   have Hb1 := Lib.hid (below_drewN (below_drewN Hb0.out n) n2)
   clear HK2
   generalize ((w.alloc (.cells #[.string (S []), .string (S [])] 60)).drewN n).drewN n2 = w1 at q0 q1 f0 f1 Hb1 ⊢
   go_wp2_with fail
   refine bodyPost_ret (v := .tuple #[.agg #[.string (S k), .string (S v)], .string (S r), .int .i64 0]) (by simp [results, Tryz.results62, go_sem, q0, q1]) rfl ?_
   rw [E.out]
   exact ⟨rfl, (Hb1.out.setCell (Nat.le_refl _) _).setCell (Nat.le_refl _) _⟩
def RetPO (w : World) (r : List Pr × Int × Int) (e : Ending) (w' : World) : Prop := ∃ v ev, e = .returned (.tuple #[v, ev]) ∧ PrBuf w.heap.size w' v r.1 ∧ ErrIs w' ev r.2.1 r.2.2 ∧ Below w.heap.size w w'
theorem PrBuf.down {base base2 : Nat} {W : World} {v : Value} {l : List Pr} (h : PrBuf base W v l) (hb : base2 ≤ base) : PrBuf base2 W v l := by
 rcases h.2 with ⟨e, h0⟩ | ⟨g, cap, cur, e, hbg, r⟩
 ·exact ⟨h.1, .inl ⟨e, h0⟩⟩
 ·exact ⟨h.1, .inr ⟨g, cap, cur, e, by omega, r⟩⟩
set_option maxRecDepth 100000 in
set_option maxHeartbeats 1000000 in
theorem parse_own (s : List UInt8) (w : World) (hl : s.length ≤ 1000000) (hm : MaxCell w) :
  Calls Tryz.prog 17 #[.string (S s)] w (RetPO w (prParse s)) := by
 have Hm := Lib.hid hm
 obtain ⟨i0, hi, hz0, hz1, hz2⟩ := infoPr
 clear hm
 go_enter Tryz.func17, Tryz.ntmps17
 go_wp2_with fail
 go_loopg [0, 4] s.length (fun g t x wr => ∃ (r : List UInt8) (acc : List Pr), t = .string (S r) ∧ r.length ≤ g ∧ r.length ≤ s.length ∧ acc.length ≤ 60 ∧ prReadF g r acc = prParse s ∧ PrBuf w.heap.size wr x acc ∧ Below w.heap.size w wr)
 case atStart => exact ⟨s, [], rfl, Nat.le_refl _, Nat.le_refl _, by simp, rfl, PrBuf.nil _ _, Below.refl _ _⟩
 case round =>
  obtain ⟨r, acc, rfl, hg, hrs, ha, hr, hbuf, hb⟩ := hrel
  have Hb := Lib.hid hb
  have Hbuf := Lib.hid hbuf
  obtain ⟨pv, cv, rfl⟩ := hbuf.form
  by_cases h0 : r = []
  ·subst h0
   rw [prReadF_nil] at hr
   have Hr := Lib.hid hr
   clear hb hbuf hr hg
   go_wp2_with fail
   go_ret2
   rw [← Hr.out]
   exact ⟨_, _, rfl, Hbuf.out, .good, Hb.out⟩
  ·have hpos := List.length_pos_iff.2 h0
   obtain ⟨g1, rfl⟩ : ∃ g1, gk = g1 + 1 := ⟨gk - 1, by omega⟩
   rw [prReadF_succ, if_neg h0] at hr
   have FA := Lib.hid (first_pr r _ (by omega) (Hm.out.later hb))
   have FW := prFirst_wr (s := r)
   obtain ⟨⟨n, ⟨k, d⟩, t⟩, hfa⟩ : ∃ q, prFirst r = q := ⟨_, rfl⟩
   rw [hfa] at hr FW FA
   simp only at hr FW
   have hie : r.isEmpty = false := by cases r with
    | nil => exact absurd rfl h0
    | cons _ _ => rfl
   have Hr := Lib.hid hr
   have HFW := Lib.hid FW
   have Hg := Lib.hid hg
   have Hrs := Lib.hid hrs
   clear hb hbuf hfa FW hr hg hrs hpos
   go_wp2_with fail
   refine FA.out.mono ?_
   rintro e w1 ⟨rfl, hb1⟩
   have hb1' := below_then Hb.out hb1
   have Hlow1 := Lib.hid (hb1'.alloc hb1'.size (.cells #[.string (S k), .string (S d)] 60))
   have HB1 := Lib.hid ((Hbuf.out.later hb1).alloc (.cells #[.string (S k), .string (S d)] 60))
   have HBlk := Lib.hid (Blk.new w1 #[.string (S k), .string (S d)] 60)
   have Hne := Lib.hid (Hbuf.out.ne hb1.size)
   have Hge := Lib.hid Hbuf.out.ge
   have hsz1 : w.heap.size ≤ w1.heap.size := hb1'.size
   clear hb1 hb1' FA
   by_cases hn : n = 0
   ·subst hn
    rw [if_neg (by simp)] at Hr
    by_cases h60 : acc.length = 60
    ·rw [if_pos h60] at Hr
     clear HFW
     go_wp2_with fail
     go_ret2
     rw [← Hr.out]
     exact ⟨_, _, rfl, PrBuf.nil _ _, .bare 4 (by decide), Hlow1.out⟩
    ·rw [if_neg h60] at Hr
     have h60b : ((acc.length : Int) == 60) = false := by simp; omega
     have hw := HFW.out rfl
     have hwl := congrArg List.length hw
     rw [List.length_append, wrP_len] at hwl
     simp only at hwl
     have hrs := Hrs.out
     have WW := fun W => Lib.hid (wrong_pr ⟨k, d⟩ W (by simp only; omega) (by simp only; omega))
     obtain ⟨m, hwm⟩ : ∃ m, wrongP ⟨k, d⟩ = m := ⟨_, rfl⟩
     rw [hwm] at Hr
     simp only [hwm] at WW
     have Htl := Lib.hid (show t.length + 2 ≤ r.length by omega)
     obtain ⟨HA1, HA2, HA3, HA4, HA5⟩ := appP_sides k d (w1.alloc (.cells #[.string (S k), .string (S d)] 60)) (w1.heap.size + 1) acc.length w.heap.size (by simp) (by omega) (by omega)
     clear hw hwl hrs hwm HFW
     go_wp2_with fail
     refine (WW _).out.mono ?_
     rintro e w2 ⟨rfl, hb2⟩
     have Hlow2 := Lib.hid (below_then Hlow1.out hb2)
     have HB2 := Lib.hid (HB1.out.later hb2)
     have HBlk2 := Lib.hid (HBlk.out.later hb2)
     have Hsz2 := Lib.hid hb2.size
     clear hb2 WW
     by_cases hm0 : m = 0
     ·subst hm0
      rw [if_neg (by simp)] at Hr
      obtain ⟨q0, q1⟩ := HBlk2.out.two
      have hsz2 : w.heap.size ≤ w2.heap.size := Hlow2.out.size
      obtain ⟨HA1, HA2, HA3, HA4, HA5⟩ := appP_sides k d w2 w2.heap.size acc.length w.heap.size rfl (by omega) hsz2
      have HBa := Lib.hid (HB2.out.alloc (.cells #[.string (S k), .string (S d)] 60))
      go_wp2_with (at_builtin; refine wpList_append_own _ rfl _ _ 27 rfl w.heap.size 60 i0 (.agg #[.string (S []), .string (S [])]) 2 32 Tryz.underlying27 hi hz0 hz1 hz2 rfl (by decide) (.slice pv acc.length cv) acc.length (prsVs acc) rfl HBa.out ⟨w2.heap.size, 0, none⟩ 1 1 [.string (S k), .string (S d)] rfl rfl HA1.out HA2.out HA3.out HA4.out HA5.out ?_)
      intro v' wa hown hgrow hnil
      have hown' : PrBuf w.heap.size wa v' (acc ++ [⟨k, d⟩]) := by
       unfold PrBuf
       rw [prsVs_app, List.length_append]
       exact hown
      have Hlow3 := Lib.hid ((Hlow2.out.alloc Hlow2.out.size (.cells #[.string (S k), .string (S d)] 60)).grown hgrow (by simp; omega) Hge.out)
      have Hown := Lib.hid hown'
      clear hown hown' hgrow hnil q0 q1
      go_wp2_with fail
      go_roundg g1
      case measure => omega
      case rel => exact ⟨t, acc ++ [⟨k, d⟩], rfl, by have := Htl.out; have := Hg.out; omega, by have := Htl.out; have := Hrs.out; omega, by simp; omega, Hr.out, Hown.out, Hlow3.out⟩
     ·rw [if_pos hm0] at Hr
      have hmb : (m != 0) = true := by simpa using hm0
      go_wp2_with fail
      go_ret2
      rw [← Hr.out]
      exact ⟨_, _, rfl, PrBuf.nil _ _, .placed _ m acc.length hm0 (by simp) (by simp), Hlow2.out.alloc Hlow2.out.size _⟩
   ·rw [if_pos hn] at Hr
    have hnb : (n == 0) = false := by simpa using hn
    have hnb2 : (n != 0) = true := by simpa using hn
    clear HFW
    go_wp2_with fail
    go_ret2
    rw [← Hr.out]
    exact ⟨_, _, rfl, PrBuf.nil _ _, .placed _ n acc.length hn (by simp) (by simp), Hlow1.out.alloc Hlow1.out.size _⟩
theorem parse_any (s : List UInt8) (w : World) (hl : s.length ≤ 1000000) (hm : MaxCell w) :
  Calls Tryz.prog 17 #[.string (S s)] w (RetPE w (prParse s)) := by
 refine (parse_own s w hl hm).mono ?_
 rintro e w' ⟨v, ev, rfl, hv, he, hb⟩
 exact ⟨v, ev, rfl, hv.prs, he, hb⟩
end Go.Proofs.YtjbbbpgcegcbaaaGreatDoor
namespace Go.Proofs.YtjbbbpgcegcbaaaGreatDoor
open Go.RowKit
set_option linter.unusedVariables false
def RetNewG (w : World) (n : Nat) (e : Ending) (w' : World) : Prop := ∃ gb H, e = .returned (.tuple #[.pointer (some ⟨gb, 0, none⟩), .nilIface]) ∧ GatAt w' w.heap.size H gb ⟨n, []⟩ ∧ Below w.heap.size w w'
theorem newG_ok (n : Nat) (w : World) (hn : n ≤ 20000) : Calls Tryz.prog 70 #[.int .i64 (n : Int)] w (RetNewG w n) := by
 have h1 : decide ((n : Int) < 0) = false := decide_eq_false (by omega)
 have h2 : decide (20000 < (n : Int)) = false := decide_eq_false (by omega)
 have h3 : (n : Int) ≤ 20000 := by omega
 have Hn := Lib.hid hn
 clear hn
 go_enter Tryz.func70, Tryz.ntmps70
 go_wp2_with fail
 go_ret2
 exact ⟨w.heap.size, fun k => k = w.heap.size, rfl, ⟨Hn.out, Nat.zero_le _, ⟨.slice none 0 0, _, Blk.new w _ _, .inl ⟨rfl, rfl⟩⟩, rfl, fun k hk => by subst hk; exact ⟨Nat.le_refl _, by simp⟩, fun k hk hne => absurd hk hne⟩, (Below.refl _ _).alloc (Nat.le_refl _) _⟩
theorem convert_zero {P : Program} (src dst e : TypeId) (hs : P.underlying src = some (.slice e)) (he : P.underlying e = some (.int .u8)) (hd : P.underlying dst = some .string) (w : World) (p : Option Addr) (c : Nat) :
  (convert src dst (.slice p 0 c)).run P w = .ok (.string (S [])) w := by
 rw [run_convert_bytes_string w src dst e _ 0 c hs he hd]
 cases p <;> simp [Conv.bytesToString, loadCells]
 all_goals rfl
theorem kept_whole {P : Program} (src dst e : TypeId) (hs : P.underlying src = some (.slice e)) (he : P.underlying e = some (.int .u8)) (hd : P.underlying dst = some .string)
  {W : World} {H : Nat → Prop} {fb : Nat} {p : Option Addr} {c : Nat} {l : List UInt8} (h : KeptAt W H fb (.slice p l.length c) l) (c' : Nat) :
  (convert src dst (.slice p l.length c')).run P W = .ok (.string (S l)) W := by
 by_cases h0 : l.length = 0
 ·obtain rfl := List.eq_nil_of_length_eq_zero h0
  exact convert_zero src dst e hs he hd W p c'
 ·have := kept_string src dst e hs he hd h l.length c' (Nat.le_refl _) (by omega)
  rwa [List.take_length] at this
theorem GatAt.forgot {W : World} {B : Nat} {H : Nat → Prop} {gb : Nat} {G : Ga} (h : GatAt W B H gb G) : GatAt (W.setCell ⟨gb, 1, none⟩ (.slice none 0 0)) B H gb ⟨G.most, []⟩ := by
 obtain ⟨kv, t, hk, hv⟩ := h.at_
 exact h.set ⟨G.most, []⟩ h.most (Nat.zero_le _) (.slice none 0 0) (.inl ⟨rfl, rfl⟩) _ (hk.set 1 _) (by simp [World.setCell]) (fun k hk => setCell_heap_other hk _)
def RetAddO (w : World) (B : Nat) (H : Nat → Prop) (gb : Nat) (r : (List Pr × Int × Int) × Ga) (e : Ending) (w' : World) : Prop := ∃ v ev H', e = .returned (.tuple #[v, ev]) ∧ PrBuf w.heap.size w' v r.1.1 ∧ ErrIs w' ev r.1.2.1 r.1.2.2 ∧ GatAt w' B H' gb r.2 ∧ Keeps w.heap.size w w' H H'
set_option maxRecDepth 100000 in
set_option maxHeartbeats 1000000 in
theorem add_own {w : World} {B : Nat} {H : Nat → Prop} {gb : Nat} {G : Ga} (s : List UInt8) (more : Bool) (hl : s.length ≤ 140737488351232) (hgl : GL H w) (hG : GatAt w B H gb G) :
  Calls Tryz.prog 126 #[.pointer (some ⟨gb, 0, none⟩), .string (S s), .bool more] w (RetAddO w B H gb (addG G s more)) := by
 have hB : B ≤ w.heap.size := by have := hG.base gb hG.own; omega
 have hmo := hG.most
 have hfi := hG.fit
 obtain ⟨kv, t, hk, hv⟩ := hG.at_
 obtain ⟨q0, q1⟩ := hk.two
 have g1 := hk.frozen 1
 have HV := Lib.hid hv
 have HK := Lib.hid hk
 have HG := Lib.hid hG
 obtain ⟨p, c, rfl, _⟩ := hv.form
 obtain ⟨mo, came⟩ := G
 simp only at *
 have i1 : (came.length : Int) ≤ 20000 := by omega
 have i2 : (mo : Int) ≤ 20000 := by omega
 have n1 : came.length ≤ 20000 := by omega
 by_cases hfull : mo < came.length + s.length
 ·rw [addG_full more hfull]
  have hfI : (mo : Int) - (came.length : Int) < (s.length : Int) := by omega
  have hS := fun n => Lib.hid (hG.drewN n).forgot
  have Hown := Lib.hid hG.own
  clear hG hk hv hB hmo hfi hfull
  go_enter Tryz.func126, Tryz.ntmps126
  go_wp2_with fail
  go_quiet (fail)
  go_wp2_with fail
  go_ret2
  exact ⟨_, _, H, rfl, PrBuf.nil _ _, .bare 12 (by decide), (hS _).out, (Keeps.of (below_drawn _) H).trans (Keeps.cell Hown.out 1 _) (Nat.le_refl _)⟩
 have hfI : (s.length : Int) ≤ (mo : Int) - (came.length : Int) := by omega
 have HBs := Lib.hid hB
 have Hmo := Lib.hid hmo
 have Hgl := Lib.hid hgl
 have Hfu := Lib.hid hfull
 obtain ⟨R, hR⟩ : ∃ R, addG ⟨mo, came⟩ s more = R := ⟨_, rfl⟩
 rw [hR]
 have HR := Lib.hid hR
 clear hG hk hv hB hmo hfi hfull hgl hR
 go_enter Tryz.func126, Tryz.ntmps126
 go_wp2_with fail
 go_quiet (fail)
 have Hq := Lib.hid (Keeps.of (below_drawn (w := w) nq) H)
 have hG := HG.out.drewN nq
 have hv := HV.out.kept (W' := w.drewN nq) (fun _ _ _ _ => rfl) (fun _ h => h)
 have hk := HK.out.drewN nq
 have hgl := Hgl.out.keeps Hq.out
 have q0' := hk.two.1
 have q1' := hk.two.2
 have f1' := hk.frozen 1
 clear q0 q1 g1
 have hsz : (w.drewN nq).heap.size = w.heap.size := rfl
 generalize w.drewN nq = wq at *
 obtain ⟨v1, w1, H1, hr, hv1, hk1, hfb, hH1, hu1⟩ := run_append_kept 116 hv hG.base hG.u8 hk.lt (by rw [hsz]; exact HBs.out) s (by omega)
 obtain ⟨pz, cz, rfl, _⟩ := hv1.form
 have hblk : Blk w1 gb #[.int .i64 mo, .slice p came.length c] t := hfb.trans hk
 have hS : GatAt (w1.setCell ⟨gb, 1, none⟩ (.slice pz (came ++ s).length cz)) B H1 gb ⟨mo, came ++ s⟩ :=
  ⟨Hmo.out, by simp only [List.length_append]; have := Hfu.out; omega, ⟨.slice pz (came ++ s).length cz, t, hblk.set 1 _, hv1.kept (fun k _ _ hne => setCell_heap_other hne (.slice pz (came ++ s).length cz)) (fun _ h => h)⟩, hk1.more _ hG.own, fun k hk => by
   have := hH1 k hk
   exact ⟨this.1, by simp [World.setCell]; exact this.2⟩, fun k hk hne => (hu1 k hk hne).kept (setCell_heap_other hne (.slice pz (came ++ s).length cz))⟩
 have hK1 : Keeps wq.heap.size wq (w1.setCell ⟨gb, 1, none⟩ (.slice pz (came ++ s).length cz)) H H1 := hk1.trans (Keeps.cell (hk1.more _ hG.own) 1 (.slice pz (came ++ s).length cz)) (Nat.le_refl _)
 have hK := Hq.out.then hK1
 obtain ⟨r0, r1⟩ := hblk.two
 have g2 := hblk.frozen 1
 have hgl1 := hgl.keeps hK1
 have hlen : (came ++ s).length ≤ 20000 := by rw [List.length_append]; have := Hfu.out; have := Hmo.out; omega
 have hkv := hv1.kept (W' := w1.setCell ⟨gb, 1, none⟩ (.slice pz (came ++ s).length cz)) (fun k _ _ hne => setCell_heap_other hne (.slice pz (came ++ s).length cz)) (fun _ h => h)
 have hcv := kept_whole (P := Tryz.prog) 116 9 5 Tryz.underlying116 Tryz.underlying5 Tryz.underlying9 hkv cz
 obtain ⟨b0, b1⟩ := (hblk.set 1 (.slice pz (came ++ s).length cz)).two
 have b2 := (hblk.set 1 (.slice pz (came ++ s).length cz)).frozen 1
 rw [List.length_append] at hr hS hK hgl1 hcv b0 b1 b2
 have HS := Lib.hid hS
 have HK2 := Lib.hid hK
 have Hr := Lib.hid hr
 have HG1 := Lib.hid hgl1
 have Hfit := Lib.hid (show came.length + s.length ≤ mo by have := Hfu.out; omega)
 clear hG hk hv hr hv1 hk1 hfb hH1 hu1 hblk hS hK hK1 hlen hgl hgl1 hkv hsz
 cases more with
 | true =>
  go_wp2_with (at_builtin; refine Lib.wpList_append_run _ rfl _ _ _ _ rfl _ _ rfl rfl _ _ Hr.out ?_)
  go_ret2
  obtain rfl : R = (([], 0, -1), ⟨mo, came ++ s⟩) := by rw [← HR.out]; exact addG_more (G := ⟨mo, came⟩) Hfit.out
  exact ⟨_, _, H1, rfl, PrBuf.nil _ _, .good, HS.out, HK2.out⟩
 | false =>
  have hS2 := HS.out.forgot
  have hK2 := HK2.out.trans (Keeps.cell (N := w.heap.size) (w := w1.setCell ⟨gb, 1, none⟩ (.slice pz (came.length + s.length) cz)) HS.out.own 1 (.slice none 0 0)) (Nat.le_refl _)
  have hgl2 := Hgl.out.keeps hK2
  have PB := parse_own (came ++ s) _ (by rw [List.length_append]; have := Hfit.out; omega) hgl2.c.off
  obtain ⟨r, hR⟩ : ∃ r, prParse (came ++ s) = r := ⟨_, rfl⟩
  rw [hR] at PB
  have Hr2 := Lib.hid hR
  have PC := Lib.hid PB
  have HS2 := Lib.hid hS2
  have HK3 := Lib.hid hK2
  clear PB hS2 hK2 hgl2 hR
  go_wp2_with (at_builtin; refine Lib.wpList_append_run _ rfl _ _ _ _ rfl _ _ rfl rfl _ _ Hr.out ?_)
  refine PC.out.mono ?_
  rintro e w4 ⟨v4, ev4, rfl, hv4, he4, hb4⟩
  have Hb4 := Lib.hid hb4
  clear hb4 PC
  go_wp2_with fail
  go_ret2
  obtain rfl : R = (r, ⟨mo, []⟩) := by rw [← HR.out, ← Hr2.out]; exact addG_end (G := ⟨mo, came⟩) Hfit.out
  exact ⟨_, _, H1, rfl, hv4.down HK3.out.size, he4, HS2.out.later Hb4.out, HK3.out.then (Keeps.of Hb4.out H1)⟩
theorem goN_len2 (f : Pr → Option (List UInt8) × Option (List UInt8)) : ∀ l rec : List Pr, (goN f l rec).1.length ≤ l.length
 | [], _ => Nat.le_refl _
 | p :: l, rec => by
  rw [goN_cons]
  have h1 := goN_len2 f l (recN rec p.k (f p).2)
  have h2 : (asP p.k (f p).1).length ≤ 1 := by cases (f p).1 <;> simp [asP]
  simp only [List.length_append, List.length_cons]
  omega
theorem said_len2 {mine rec l s r : List Pr} {n q : Int} {lg dc : Bool} (h : ansN mine rec l lg dc = ((s, n, q), r)) : s.length ≤ 60 := by
 by_cases hn : n = 0
 ·obtain ⟨_, h2, _, _, he⟩ := ansN_good (mine := mine) (rec := rec) (l := l) (lg := lg) (dc := dc) (by rw [h]; exact hn)
  rw [h] at he
  have hs : s = (goN (oneN mine lg dc) l rec).1 := congrArg (fun x => x.1.1) he
  rw [hs]
  exact Nat.le_trans (goN_len2 _ _ _) h2
 ·have he := (ansN_err (mine := mine) (rec := rec) (l := l) (lg := lg) (dc := dc) (by rw [h]; exact hn)).1
  rw [h] at he
  simp only at he
  rw [he]
  simp
theorem chs_len {c : Cf} {o : Option (List UInt8)} {q : Lq} {a : List Pr} (h : (chsQ c o q).1 = some a) : a.length ≤ 1 := by
 unfold chsQ at h
 repeat' split at h
 all_goals first
  | (cases h; done)
  | (obtain rfl := Option.some.inj h; simp)
theorem chl_len {d : Dw} {o : Option (List UInt8)} {q : Lq} {a : List Pr} (h : (chlQ d o q).1 = some a) : a.length ≤ 3 := by
 unfold chlQ at h
 repeat' split at h
 all_goals first
  | (cases h; done)
  | (obtain rfl := Option.some.inj h; simp)
theorem chk_len {c : Cf} {d : Dw} {n r i cc : Option (List UInt8)} {q : Lq} {a : List Pr} (h : (chkQ c d n r i cc q).1 = some a) : a.length ≤ 2 := by
 unfold chkQ secM at h
 repeat' split at h
 all_goals first
  | (cases h; done)
  | (obtain rfl := Option.some.inj h; simp)
theorem ok_lens {l : List Pr} (h : okPs l) : ∀ p ∈ l, p.k.length ≤ 63 ∧ p.v.length ≤ 255 := fun p hp => by
 obtain ⟨h1, h2⟩ := wrongP_ok (h p hp)
 unfold isKey at h1
 unfold isVal at h2
 simp only [Bool.and_eq_true, decide_eq_true_eq] at h1 h2
 exact ⟨h1.1.1.2, h2.1⟩
theorem find_len {l : List Pr} (h : okPs l) {k x : List UInt8} (hf : prFind l k = some x) : x.length ≤ 255 := by
 obtain ⟨j, hj, e⟩ := prFind_some hf
 have := (ok_lens h l[j] (List.getElem_mem hj)).2
 rw [e] at this
 exact this
end Go.Proofs.YtjbbbpgcegcbaaaGreatDoor
namespace Go.Proofs.YtjbbbpgcegcbaaaGreatDoor
open Go Go.RowKit
set_option linter.unusedVariables false
theorem setCells_at {b : Nat} {t : TypeId} : ∀ (vs : List Value) (o : Nat) (W : World) (C : Array Value), Blk W b C t → ∃ C', Blk (W.setCells b o vs) b C' t ∧ C'.size = C.size ∧ (∀ j, j < o → C'[j]? = C[j]?) ∧ (∀ j, o ≤ j → j < o + vs.length → j < C.size → C'[j]? = vs[j - o]?) ∧ (∀ j, o + vs.length ≤ j → C'[j]? = C[j]?)
 | [], _, W, C, h => ⟨C, h, rfl, fun _ _ => rfl, fun j h1 h2 _ => absurd h2 (by simp; omega), fun _ _ => rfl⟩
 | v :: vs, o, W, C, h => by
  obtain ⟨C', h1, h2, h3, h4, h5⟩ := setCells_at vs (o + 1) _ _ (h.set o v)
  refine ⟨C', h1, by rw [h2]; simp, fun j hj => by rw [h3 j (by omega), Array.getElem?_setIfInBounds_ne (by omega)], fun j hj hj2 hj3 => ?_, fun j hj => ?_⟩
  ·by_cases e : j = o
   ·subst e
    rw [h3 j (by omega), Array.getElem?_setIfInBounds_self_of_lt hj3, Nat.sub_self, List.getElem?_cons_zero]
   ·rw [h4 j (by omega) (by simp only [List.length_cons] at hj2; omega) (by simpa using hj3), show j - o = (j - (o + 1)) + 1 by omega, List.getElem?_cons_succ]
  ·simp only [List.length_cons] at hj
   rw [h5 j (by omega), Array.getElem?_setIfInBounds_ne (by omega)]
theorem setCells_grownB (b : Nat) : ∀ (vs : List Value) (o : Nat) (W : World), W.grownBy (W.setCells b o vs) (some b)
 | [], _, W => ⟨rfl, rfl, rfl, Nat.le_refl _, fun _ _ _ => rfl⟩
 | v :: vs, o, W => by
  have h := setCells_grownB b vs (o + 1) (W.setCell ⟨b, o, none⟩ v)
  have h0 : W.grownBy (W.setCell ⟨b, o, none⟩ v) (some b) := ⟨rfl, rfl, rfl, by simp [World.setCell], fun k _ hne => setCell_heap_other (fun e => hne (by rw [e])) v⟩
  exact ⟨h.os.trans h0.os, h.tape.trans h0.tape, h.output.trans h0.output, Nat.le_trans h0.size h.size, fun k hk hne => (h.block k (Nat.lt_of_lt_of_le hk h0.size) hne).trans (h0.block k hk hne)⟩
theorem storeN {P : Program} {op : Oper} {a : Act} {w : World} {K : Act → World → Prop} {Q : Exit → Act → World → Prop} (dst : Option Tmp) (hd : op.dst = dst) (ty : TypeId) (x y : Operand) (ho : op.op = .store ty x y)
  (b o : Nat) (cells : Array Value) (hx : a.eval x = .pointer (some ⟨b, o, none⟩)) (hy : a.eval y = .agg cells)
  (ht : w.there b o cells.size) (hi : (P.info? ty).map (·.size) = some cells.size) (h1 : cells.all (·.oneCell') = true)
  (h : K (a.put dst undef) (w.setCells b o cells.toList)) : op.wp P a w K Q := by
 subst hd
 exact wp_store_mid ty x y ho b o cells hx hy ht hi h1 h
theorem Blk.there {W : World} {b : Nat} {C : Array Value} {t : TypeId} (h : Blk W b C t) : W.there b 0 C.size := fun j hj => by
 rw [Nat.zero_add]
 exact ⟨by rw [h.cell, Array.getElem?_eq_getElem hj]; rfl, h.frozen j⟩
theorem Blk.whole {W : World} {b : Nat} {C D : Array Value} {t : TypeId} (h : Blk W b C t) (hs : C.size = D.size) : Blk (W.setCells b 0 D.toList) b D t := by
 obtain ⟨C', h1, h2, _, h4, _⟩ := setCells_at D.toList 0 W C h
 have e : C' = D := by
  apply Array.ext_getElem?
  intro i
  by_cases hi : i < D.size
  ·rw [h4 i (by omega) (by simpa using hi) (by omega), Nat.sub_zero, Array.getElem?_toList]
  ·rw [Array.getElem?_eq_none (by omega), Array.getElem?_eq_none (by omega)]
 rw [e] at h1
 exact h1
theorem appR {P : Program} {o : Oper} {a : Act} {w w' : World} {K : Act → World → Prop} {Q : Exit → Act → World → Prop} {v x v' : Value} {s y : Operand} {t u : TypeId} (d : Option Tmp) (hd : o.dst = d)
  (ho : o.op = .call { callee := .builtin .append, args := #[s, y], argTypes := #[t, u] }) (hs : a.eval s = v) (hy : a.eval y = x)
  (hrun : (Builtin.append_ #[t, u] o.type #[v, x]).run P w = .ok v' w') (hK : K (a.put d v') w') : o.wp P a w K Q := by
 subst hd
 unfold Oper.wp
 simp [execOp, ho, resolve, invoke, builtin, hs, hy, hrun, Result.andThen]
 exact hK
end Go.Proofs.YtjbbbpgcegcbaaaGreatDoor
