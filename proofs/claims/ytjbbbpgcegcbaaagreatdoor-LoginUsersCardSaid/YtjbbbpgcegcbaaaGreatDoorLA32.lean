/- LA32: several texts in one. -/
import Derived.Defers
import Derived.Recover
import Derived.StillTailTactics
import Derived.Test.YtjbbbpgcegcbaaaGreatDoorLA06
import Derived.Test.YtjbbbpgcegcbaaaGreatDoorLA09
import Derived.Test.YtjbbbpgcegcbaaaGreatDoorLA10
import Derived.Test.YtjbbbpgcegcbaaaGreatDoorLA11
import Derived.Test.YtjbbbpgcegcbaaaGreatDoorLA13
import Derived.Test.YtjbbbpgcegcbaaaGreatDoorLA15
import Derived.Test.YtjbbbpgcegcbaaaGreatDoorLA17
import Derived.Test.YtjbbbpgcegcbaaaGreatDoorLA30
import Derived.Test.YtjbbbpgcegcbaaaGreatDoorLA31
namespace Go.Proofs.YtjbbbpgcegcbaaaGreatDoor
open Go Go.RowKit
set_option linter.unusedVariables false
theorem asFail (why : Int) (xT : TypeId) (w : World) : (Instr.typeAssert (.iface 165 (.int .i64 why)) xT 165 true).run Tryz.prog w = .ok (.tuple #[.int .i64 why, .bool true]) w := by kernel_rfl
set_option maxRecDepth 100000 in
set_option maxHeartbeats 4000000 in
theorem catch_idle (p q : Addr) (w : World) :
  CallsD Tryz.prog 91 #[.pointer (some p), .pointer (some q)] .returning w fun e u' w' => e = .returned (.tuple #[]) ∧ u' = .returning ∧ w' = w := by
 refine callsD_of_wpS Tryz.func91 rfl fun c₀ cs hu => ?_
 apply wpS_seq
 apply wpS_region
 simp [wpOpsS, go_sem, recoverD, hu, Tryz.ntmps91, Exit.thenS]
 apply wpS_seq
 apply wpS_region
 simp [wpOpsS, go_sem, Exit.thenS]
 refine wpS_cond (t := false) (by simp [Act.eval, Array.replicate]) ?_
 simp only [Bool.false_eq_true, if_false]
 refine wpS_of_wp (wp_skip ?_)
 cases c₀
 simp_all [bodyPostS, results, Tryz.results91]
set_option maxRecDepth 100000 in
set_option maxHeartbeats 4000000 in
theorem catch_thrown (jb rb lb : Nat) (why : Int) {x : Value} (w w2 : World) (hj : w.cell? ⟨jb, 0, none⟩ = some (.pointer (some ⟨lb, 0, none⟩))) (hc : w.cell? ⟨lb, 22, none⟩ = some x) (hf : w.frozen? ⟨lb, 22, none⟩ = false) (hw : w.setCell ⟨lb, 22, none⟩ (.bool true) = w2) (hr : Blk w2 rb #[.slice none 0 0, .int .i64 0, .int .i64 0, .int .i64 0] 114) :
  CallsD Tryz.prog 91 #[.pointer (some ⟨jb, 0, none⟩), .pointer (some ⟨rb, 0, none⟩)] (.panicking [{ v := .iface 165 (.int .i64 why), recovered := false }]) w fun e u' w' =>
   e = .returned (.tuple #[]) ∧ u' = .panicking [{ v := .iface 165 (.int .i64 why), recovered := true }] ∧ w' = (((w2.setCell ⟨rb, 0, none⟩ (.slice none 0 0)).setCell ⟨rb, 1, none⟩ (.int .i64 0)).setCell ⟨rb, 2, none⟩ (.int .i64 2)).setCell ⟨rb, 3, none⟩ (.int .i64 why) := by
 refine callsD_of_wpS Tryz.func91 rfl fun c₀ cs hu => ?_
 apply wpS_seq
 apply wpS_region
 simp [wpOpsS, go_sem, recoverD, hu, Tryz.ntmps91, Exit.thenS]
 have hta := asFail why
 obtain ⟨r0, r1, r2, r3⟩ := hr.four
 have f0 := hr.frozen 0
 have f1 := hr.frozen 1
 have f2 := hr.frozen 2
 have f3 := hr.frozen 3
 apply wpS_seq
 apply wpS_region
 simp [wpOpsS, go_sem, Exit.thenS]
 refine wpS_cond (t := true) (by simp [Act.eval, Array.replicate]) ?_
 simp only [if_true]
 refine wpS_of_wp ?_
 go_wp2_with fail
 cases c₀
 simp_all [bodyPostS, results, Tryz.results91]
structure InB (w W : World) (B lb : Nat) (m0 m : LgM) (c : Cf) (d : Dw) (q0 q : Lq) (rb : Nat) (R : Array Value) (t : TypeId) : Prop where
 start : LogIn w B lb m0 c d q0
 rbk : Blk W rb R t
 log : LogIn W B lb m c d q
 keep : Keeps w.heap.size w W (m0.H lb) (m.H lb)
 sep : ¬ m.H lb rb
 new : w.heap.size ≤ rb
 same : m.mv = m0.mv ∧ m.vt = m0.vt ∧ m.vu = m0.vu ∧ q.mine = q0.mine
section
variable {w W W' : World} {B lb : Nat} {m0 m m' : LgM} {c : Cf} {d : Dw} {q0 q q' : Lq} {rb : Nat} {R : Array Value} {t : TypeId}
theorem InB.begin (h : LogIn w B lb m0 c d q0) (hb : Below w.heap.size w W) (hr : Blk W rb R t) (hn : w.heap.size ≤ rb) : InB w W B lb m0 m0 c d q0 q0 rb R t :=
 ⟨h, hr, h.later hb, Keeps.of hb _, fun hh => by have := (h.ge _ hh).2; omega, hn, ⟨rfl, rfl, rfl, rfl⟩⟩
theorem InB.later (h : InB w W B lb m0 m c d q0 q rb R t) (hb : Below W.heap.size W W') : InB w W' B lb m0 m c d q0 q rb R t :=
 ⟨h.start, h.rbk.later hb, h.log.later hb, h.keep.then (Keeps.of hb _), h.sep, h.new, h.same⟩
theorem InB.step (h : InB w W B lb m0 m c d q0 q rb R t) (hl : LogIn W' B lb m' c d q') (hk : Keeps W.heap.size W W' (m.H lb) (m'.H lb)) (e : m'.mv = m.mv ∧ m'.vt = m.vt ∧ m'.vu = m.vu ∧ q'.mine = q.mine) : InB w W' B lb m0 m' c d q0 q' rb R t := by
 have hs : ∀ k, k < W.heap.size → ¬ m.H lb k → ¬ m'.H lb k := fun k hlt hn hh => by
  rcases hk.old k hh with h | h
  ·exact hn h
  ·omega
 exact ⟨h.start, (hk.block rb h.rbk.lt h.sep).trans h.rbk, hl, h.keep.then hk, hs rb h.rbk.lt h.sep, h.new, ⟨e.1.trans h.same.1, e.2.1.trans h.same.2.1, e.2.2.1.trans h.same.2.2.1, e.2.2.2.trans h.same.2.2.2⟩⟩
theorem InB.laid (h : InB w W B lb m0 m c d q0 q rb R t) {R' : Array Value} (hk : Keeps W.heap.size W W' (fun k => k = rb) (fun k => k = rb)) (hb : Blk W' rb R' t) : InB w W' B lb m0 m c d q0 q rb R' t := by
 have hlb : ∀ k, m.H lb k → k ≠ rb := fun k hh e => h.sep (e ▸ hh)
 have hK : Keeps w.heap.size w W' (m0.H lb) (m.H lb) := ⟨hk.os.trans h.keep.os, hk.tape.trans h.keep.tape, hk.output.trans h.keep.output, Nat.le_trans h.keep.size hk.size, fun k hl hn => (hk.block k (Nat.lt_of_lt_of_le hl h.keep.size) (fun e => by have := h.new; omega)).trans (h.keep.block k hl hn), h.keep.more, h.keep.old⟩
 have hbk : ∀ k, m.H lb k → W'.heap[k]? = W.heap[k]? := fun k hh => hk.block k (h.log.ge k hh).2 (hlb k hh)
 have e := h.same
 have hm : PrsV (offW (m.H lb) W') m.mv q.mine := by rw [e.1, e.2.2.2]; exact h.start.mine.later hK.off'
 have ht : StrV (offW (m.H lb) W') m.vt c.ts := by rw [e.2.1]; exact h.start.ts.later hK.off'
 have hu : UsV (offW (m.H lb) W') m.vu c.us := by rw [e.2.2.1]; exact h.start.us.later hK.off'
 have hL := h.log
 exact ⟨h.start, hb, ⟨(hbk lb .lb).trans hL.blk, hL.neg.kept hk.size (fun k hn => hbk k (.neg k hn)) (hm.sub (fun k hn => .neg k hn)), hL.gat.kept (fun k hh => hbk k (.gat k hh)) hk.size, hL.who.same (hbk m.mb .mb), hm, ht, hu, hL.base, hL.d1, hL.d2, hL.d3, hL.d4⟩, hK, h.sep, h.new, h.same⟩
theorem PrBuf.laid {base b : Nat} {H : Nat → Prop} {v : Value} {l : List Pr} (h : PrBuf base (offW H W) v l) (hb : b < base ∨ v.ownBlock ≠ some b) (hg : W.grownBy W' (some b)) : PrBuf base (offW H W') v l := by
 refine row_off (World.ownsRow.kept (row := some b) h.off hg (.inr (fun e => ?_))) (off_row h).2
 rcases hb with hb | hb
 ·have h1 := h.ge b e
  omega
 ·exact hb e
theorem PrBuf.notBlk {base b : Nat} {v : Value} {l : List Pr} (h : PrBuf base W v l) (hb : Blk W b R t) (ht : t ≠ 60) : v.ownBlock ≠ some b := fun e => by
 rcases h.2 with ⟨rfl, _⟩ | ⟨g, cap, cur, rfl, _, hgc, _⟩
 ·simp [Value.ownBlock] at e
 ·have : g = b := by simpa [Value.ownBlock] using e
  subst this
  have hb' : W.heap[g]? = some (.cells R t (0, 0)) := hb
  rw [hb'] at hgc
  exact ht (congrArg (fun (o : Option Obj) => match o with | some (.cells _ t _) => t | _ => t) hgc)
end
def RetJudge (w : World) (B lb : Nat) (m0 : LgM) (c : Cf) (d : Dw) (q0 : Lq) (r : (List Pr × Int × Int × Int) × Lq) (e : Ending) (w' : World) : Prop :=
 ∃ m v, e = .returned (.agg #[v, .int .i64 r.1.2.1, .int .i64 r.1.2.2.1, .int .i64 r.1.2.2.2]) ∧ PrBuf w.heap.size (offW (m.H lb) w') v r.1.1 ∧ LogIn w' B lb m c d r.2 ∧ Keeps w.heap.size w w' (m0.H lb) (m.H lb) ∧ (m.mv = m0.mv ∧ m.vt = m0.vt ∧ m.vu = m0.vu ∧ r.2.mine = q0.mine)
section
variable {w : World} {B lb : Nat} {m0 : LgM} {c : Cf} {d : Dw} {q : Lq}
set_option maxRecDepth 100000 in
set_option maxHeartbeats 8000000 in
theorem judge_any (p : Pd) (vv va : Value) (h : LogIn w B lb m0 c d q) (hp : PduAt (offW (m0.H lb) w) p vv va) (hE : EnvL (offW (m0.H lb) w)) (h0 : 0 ≤ p.h.fl ∧ p.h.fl < 256) (hvl : p.h.vs.length ≤ 9223372036854775807) (hdl : p.d.length ≤ 140737488351232) (hxv : ∀ x ∈ p.h.vs, x < 18446744073709551616) (hc : CfOk c) (hM : MineOk c.own) (hQk : QOk c q) (hd : 0 ≤ d.id ∧ d.id ≤ 255 ∧ d.ch.length ≤ 100) :
  Calls Tryz.prog 60 #[.pointer (some ⟨lb, 0, none⟩), pduV p vv va] w (RetJudge w B lb m0 c d q (judgeQ c d p q)) := by
 obtain ⟨w0, hw0⟩ : ∃ w0, w.alloc (.cells #[.pointer (some ⟨lb, 0, none⟩)] 34) = w0 := ⟨_, rfl⟩
 obtain ⟨w1, hw1⟩ : ∃ w1, w0.alloc (.cells (cells6 p vv va) 41) = w1 := ⟨_, rfl⟩
 obtain ⟨w2, hw2⟩ : ∃ w2, w1.alloc (.cells #[.slice none 0 0, .int .i64 0, .int .i64 0, .int .i64 0] 114) = w2 := ⟨_, rfl⟩
 have b0 : Below w.heap.size w w0 := by rw [← hw0]; exact (Below.refl _ _).alloc (Nat.le_refl _) _
 have b1 : Below w0.heap.size w0 w1 := by rw [← hw1]; exact (Below.refl _ _).alloc (Nat.le_refl _) _
 have b2 : Below w1.heap.size w1 w2 := by rw [← hw2]; exact (Below.refl _ _).alloc (Nat.le_refl _) _
 have k0 : Blk w0 w.heap.size #[.pointer (some ⟨lb, 0, none⟩)] 34 := by rw [← hw0]; exact Blk.new w _ _
 have k1 : Blk w1 w0.heap.size (cells6 p vv va) 41 := by rw [← hw1]; exact Blk.new w0 _ _
 have k2 : Blk w2 w1.heap.size #[.slice none 0 0, .int .i64 0, .int .i64 0, .int .i64 0] 114 := by rw [← hw2]; exact Blk.new w1 _ _
 have b12 := below_then b1 b2
 have b := below_then b0 b12
 have j0 := k0.later b12
 have j1 := k1.later b2
 have hK0 := Keeps.of b (m0.H lb)
 have HR := hear_any p vv va (h.later b) (hp.later hK0.off') (hE.later hK0.off') h0 hvl hdl hxv hc hM hQk hd
 have hS2 := InB.begin h b k2 (Nat.le_trans b0.size b1.size)
 have hn0 : ¬ m0.H lb w.heap.size := fun hh => by have := (h.ge _ hh).2; omega
 have hne : w.heap.size ≠ w1.heap.size := by have := k0.lt; have := b1.size; omega
 have hr2 := k2.lt
 obtain ⟨jb, hjb⟩ : ∃ jb, w.heap.size = jb := ⟨_, rfl⟩
 obtain ⟨pb, hpb⟩ : ∃ pb, w0.heap.size = pb := ⟨_, rfl⟩
 obtain ⟨rb, hrb⟩ : ∃ rb, w1.heap.size = rb := ⟨_, rfl⟩
 rw [hjb] at j0 hn0
 rw [hpb] at j1
 rw [hrb] at hS2 hr2
 rw [hjb, hrb] at hne
 have hwz := b.size
 obtain ⟨⟨why, l, f⟩, q1, hh⟩ : ∃ a q1, hearQ c d p q = (a, q1) := ⟨_, _, rfl⟩
 obtain ⟨Q, hQ⟩ : ∃ Q, judgeQ c d p q = Q := ⟨_, rfl⟩
 rw [hQ]
 unfold judgeQ at hQ
 rw [hh] at hQ HR
 simp only at hQ
 have HQ := Lib.hid hQ
 have HR := Lib.hid HR
 have HS2 := Lib.hid hS2
 have Hj := Lib.hid j0
 have Hn0 := Lib.hid hn0
 have Hne := Lib.hid hne
 have Hr2 := Lib.hid hr2
 have Hwz := Lib.hid hwz
 obtain ⟨i0, i1, i2, i3, i4, i5⟩ := j1.six
 have c0 : w2.cell? ⟨jb, 0, none⟩ = some (.pointer (some ⟨lb, 0, none⟩)) := by simpa using j0.cell 0
 unfold cells6 at hw1
 unfold pduV at HR ⊢
 have hmf : ∀ (fn : Fn) (first cap : Array Value) (w : World), (Instr.makeFunc fn first cap).run Tryz.prog w = .ok (.func fn first cap) w := fun _ _ _ _ => rfl
 clear h hp hE h0 hvl hdl hxv hc hM hQk hd b0 b1 b2 k0 k1 k2 b12 b j0 j1 hn0 hne hQ hh hK0 hwz hS2 hr2
 go_enter_defers Tryz.func60, Tryz.ntmps60
 go_wp2_with fail
 refine HR.out.mono ?_
 rintro e w3 ⟨m, hL, hK, hsame, he⟩
 simp only at he hL hsame
 have HS3 := Lib.hid (HS2.out.step hL hK hsame)
 have Hk := Lib.hid hK.size
 have Hj3 : Hid (Blk w3 jb #[.pointer (some ⟨lb, 0, none⟩)] 34) := Lib.hid ((hK.block jb Hj.out.lt Hn0.out).trans Hj.out)
 clear hL hK hsame HR HS2 i0 i1 i2 i3 i4 i5 c0 hw0 hw1 hw2 hjb hpb hrb
 by_cases h1 : why = -1
 case neg =>
  rw [if_neg h1] at he
  subst he
  have hq := HQ.out
  rw [if_pos h1] at hq
  subst hq
  unfold thrown
  go_wp2_with fail
  obtain ⟨w4, hw4⟩ : ∃ w4, w3.setCell ⟨lb, 22, none⟩ (.bool true) = w4 := ⟨_, rfl⟩
  obtain ⟨hL4, hK4⟩ := HS3.out.log.turn (q' := { q1 with fld := true }) ((Keeps.refl _ w3 (fun k => k = lb)).putC rfl 22 (.bool true)) (HS3.out.log.blk.set 22 (.bool true)) rfl rfl rfl ⟨rfl, rfl, rfl⟩
  rw [hw4] at hL4 hK4
  have hS4 := HS3.out.step hL4 hK4 ⟨rfl, rfl, rfl, rfl⟩
  have q22 := (pcells HS3.out.log.blk).q22
  have f22 := HS3.out.log.blk.frozen 22
  refine leaves_cons (f := 91) (args := #[.pointer (some ⟨jb, 0, none⟩), .pointer (some ⟨rb, 0, none⟩)]) (by simp) (by simp [go_sem]) ?_
  refine (catch_thrown jb rb lb why w3 w4 (by simpa using Hj3.out.cell 0) q22 f22 hw4 hS4.rbk).mono ?_
  rintro e u' w'' ⟨rfl, rfl, rfl⟩
  obtain ⟨w5, hw5⟩ : ∃ w5, (((w4.setCell ⟨rb, 0, none⟩ (.slice none 0 0)).setCell ⟨rb, 1, none⟩ (.int .i64 0)).setCell ⟨rb, 2, none⟩ (.int .i64 2)).setCell ⟨rb, 3, none⟩ (.int .i64 why) = w5 := ⟨_, rfl⟩
  have hB5 : Blk w5 rb #[.slice none 0 0, .int .i64 0, .int .i64 2, .int .i64 why] 114 := by rw [← hw5]; exact (((hS4.rbk.set 0 (.slice none 0 0)).set 1 (.int .i64 0)).set 2 (.int .i64 2)).set 3 (.int .i64 why)
  have hK5 : Keeps w4.heap.size w4 w5 (fun k => k = rb) (fun k => k = rb) := by rw [← hw5]; exact ((((Keeps.refl _ w4 (fun k => k = rb)).putC rfl 0 _).putC rfl 1 _).putC rfl 2 _).putC rfl 3 _
  have hS5 := hS4.laid hK5 hB5
  obtain ⟨s0, s1, s2, s3⟩ := hB5.four
  rw [hw5]
  simp [Leaves, settle, results, Tryz.results60, go_sem, s0, s1, s2, s3]
  exact ⟨m, _, rfl, PrBuf.nil _ _, hS5.log, hS5.keep, hS5.same⟩
 case pos =>
  rw [if_pos h1] at he
  obtain ⟨v, rfl, hv⟩ := he
  have hq := HQ.out
  rw [if_neg (fun h => h h1)] at hq
  subst hq
  obtain ⟨pv, cv, rfl⟩ := hv.form
  have hR := HS3.out.rbk
  obtain ⟨r0, r1, r2, r3⟩ := hR.four
  have f0 := hR.frozen 0
  have f1 := hR.frozen 1
  have f2 := hR.frozen 2
  have f3 := hR.frozen 3
  have q22 := trivial
  obtain ⟨w4, hw4⟩ : ∃ w4, (((w3.setCell ⟨rb, 0, none⟩ (.slice pv l.length cv)).setCell ⟨rb, 1, none⟩ (.int .i64 f)).setCell ⟨rb, 2, none⟩ (.int .i64 0)).setCell ⟨rb, 3, none⟩ (.int .i64 0) = w4 := ⟨_, rfl⟩
  have hB4 : Blk w4 rb #[.slice pv l.length cv, .int .i64 f, .int .i64 0, .int .i64 0] 114 := by rw [← hw4]; exact (((hR.set 0 (.slice pv l.length cv)).set 1 (.int .i64 f)).set 2 (.int .i64 0)).set 3 (.int .i64 0)
  have hK4 : Keeps w3.heap.size w3 w4 (fun k => k = rb) (fun k => k = rb) := by rw [← hw4]; exact ((((Keeps.refl _ w3 (fun k => k = rb)).putC rfl 0 _).putC rfl 1 _).putC rfl 2 _).putC rfl 3 _
  have hS4 := HS3.out.laid hK4 hB4
  have hg : w3.grownBy w4 (some rb) := ⟨hK4.os, hK4.tape, hK4.output, hK4.size, fun k hk hne => hK4.block k hk (fun e => hne (by rw [e]))⟩
  have hv4 : PrBuf w2.heap.size (offW (m.H lb) w4) (.slice pv l.length cv) l := hv.laid (.inl Hr2.out) hg
  obtain ⟨s0, s1, s2, s3⟩ := hB4.four
  have HS4 := Lib.hid hS4
  have HV4 := Lib.hid (hv4.down Hwz.out)
  clear hR hB4 hK4 hS4 hg hv4 hv
  go_wp2_with fail
  refine leaves_cons (f := 91) (args := #[.pointer (some ⟨jb, 0, none⟩), .pointer (some ⟨rb, 0, none⟩)]) (by simp) (by simp [go_sem]) ?_
  refine (catch_idle ⟨jb, 0, none⟩ ⟨rb, 0, none⟩ _).mono ?_
  rintro e u' w'' ⟨rfl, rfl, rfl⟩
  simp [Leaves, settle, results, Tryz.results60, go_sem, s0, s1, s2, s3]
  exact ⟨m, _, rfl, HV4.out, HS4.out.log, HS4.out.keep, HS4.out.same⟩
end
end Go.Proofs.YtjbbbpgcegcbaaaGreatDoor
namespace Go.Proofs.YtjbbbpgcegcbaaaGreatDoor
open Go.RowKit
set_option linter.unusedVariables false
theorem valLen {x : List UInt8} (h : isVal x = true) : x.length ≤ 255 := by
 unfold isVal at h
 simp only [Bool.and_eq_true, decide_eq_true_eq] at h
 exact h.1
theorem one_said {mine : List Pr} {lg dc : Bool} {p : Pr} {x : List UInt8} (hp : wrongP p = 0) (h : (oneN mine lg dc p).1 = some x) : x.length ≤ 255 := by
 cases hr : rowOf p.k with
 | none =>
  rw [oneN_no hr] at h
  obtain rfl := Option.some.inj h
  decide
 | some k =>
  rw [oneN_row hr] at h
  have hk := rowOf_ok hr
  have H : ∀ {y : List UInt8} {z : Option (List UInt8)}, oneK mine k p.v lg dc = (some y, z) → y.length ≤ 255 → x.length ≤ 255 := fun {y z} e hy => by
   rw [e] at h
   obtain rfl := Option.some.inj h
   exact hy
  rcases oneK_ways mine k p.v lg dc with ⟨_, e⟩ | ⟨_, _, e⟩ | ⟨_, _, _, e⟩ | ⟨_, _, _, _, e⟩ | ⟨_, _, _, _, _, e⟩ | ⟨_, _, _, _, h5, e⟩
  ·exact H e (by decide)
  ·exact H e (by decide)
  ·exact H e (by decide)
  ·rw [e] at h; cases h
  ·exact H e (by decide)
  ·exact H e (valLen (resK_val ⟨hk.2.2.1, hk.2.2.2.1⟩ hk.2.1 (wrongP_ok hp).2 h5).1)
theorem goN_each (f : Pr → Option (List UInt8) × Option (List UInt8)) : ∀ l rec : List Pr, ∀ y ∈ (goN f l rec).1, ∃ p ∈ l, ∃ x, (f p).1 = some x ∧ y = ⟨p.k, x⟩
 | [], _, y, hy => absurd hy List.not_mem_nil
 | p :: l, rec, y, hy => by
  rw [goN_cons] at hy
  rcases List.mem_append.1 hy with h | h
  ·cases hx : (f p).1 with
   | none => rw [hx] at h; exact absurd h List.not_mem_nil
   | some x =>
    rw [hx] at h
    have : y = ⟨p.k, x⟩ := by simpa [asP] using h
    exact ⟨p, List.mem_cons_self .., x, hx, this⟩
  ·obtain ⟨p', hp', x, hx, e⟩ := goN_each f l _ y h
   exact ⟨p', List.mem_cons_of_mem _ hp', x, hx, e⟩
def SFit (n m : Nat) (l : List Pr) : Prop := l.length ≤ n ∧ ∀ p ∈ l, p.k.length ≤ m ∧ p.v.length ≤ m
theorem SFit.nil (n m : Nat) : SFit n m [] := ⟨by simp, fun _ h => absurd h List.not_mem_nil⟩
theorem SFit.app {n n2 m : Nat} {l l2 : List Pr} (h : SFit n m l) (h2 : SFit n2 m l2) : SFit (n + n2) m (l ++ l2) :=
 ⟨by rw [List.length_append]; have := h.1; have := h2.1; omega, fun p hp => (List.mem_append.1 hp).elim (h.2 p) (h2.2 p)⟩
theorem SFit.fit {n m : Nat} {l : List Pr} (h : SFit n m l) (hn : n ≤ 1000) (hm : m ≤ 1000) : fitPs l := ⟨by have := h.1; omega, fun p hp => by have := h.2 p hp; omega⟩
theorem ans_fit {mine rec l : List Pr} {lg dc : Bool} : SFit 60 600 (ansN mine rec l lg dc).1.1 := by
 by_cases hn : (ansN mine rec l lg dc).1.2.1 = 0
 ·obtain ⟨h1, h2, _, _, he⟩ := ansN_good (mine := mine) (rec := rec) (l := l) (lg := lg) (dc := dc) hn
  rw [he]
  refine ⟨Nat.le_trans (goN_len2 _ _ _) h2, fun y hy => ?_⟩
  obtain ⟨p, hp, x, hx, rfl⟩ := goN_each _ _ _ y hy
  have h3 := thick_okP (h1 p hp)
  have h4 := one_said (h1 p hp) hx
  simp only
  omega
 ·rw [(ansN_err hn).1]
  exact .nil _ _
theorem itoa_id {n : Int} (h : 0 ≤ n ∧ n ≤ 255) : (Lib.itoa n).length ≤ 3 := by
 obtain ⟨k, rfl⟩ := Int.eq_ofNat_of_zero_le h.1
 have hk : k < 256 := by omega
 have := (by decide +kernel : ∀ k < 256, (Lib.itoa ((k : Nat) : Int)).length ≤ 3) k hk
 exact this
theorem chs_fit {c : Cf} {o : Option (List UInt8)} {q q1 : Lq} {a : List Pr} (h : chsQ c o q = (some a, q1)) : SFit 1 600 a := by
 unfold chsQ at h
 cases o with
 | none => cases h; exact .nil _ _
 | some v =>
  simp only at h
  split at h
  ·cases h
  ·cases h
   refine ⟨by simp, fun p hp => ?_⟩
   obtain rfl := List.mem_singleton.1 hp
   have hw : (wantL (grdQ c)).length ≤ 600 := by cases grdQ c <;> decide
   exact ⟨by
        have : kAM.length ≤ 600 := by decide
        exact this, hw⟩
theorem chl_fit {d : Dw} {o : Option (List UInt8)} {q q1 : Lq} {a : List Pr} (hd : 0 ≤ d.id ∧ d.id ≤ 255 ∧ d.ch.length ≤ 100) (h : chlQ d o q = (some a, q1)) : SFit 3 600 a := by
 unfold chlQ at h
 cases o with
 | none => cases h; exact ⟨by simp, fun _ h => absurd h List.not_mem_nil⟩
 | some v =>
  simp only at h
  split at h
  ·cases h
  ·cases h
   have h1 := itoa_id ⟨hd.1, hd.2.1⟩
   have h2 := hexL_len d.ch
   have k1 : kCA.length ≤ 600 := by decide
   have k2 : kCI.length ≤ 600 := by decide
   have k3 : kCC.length ≤ 600 := by decide
   refine ⟨by simp, fun p hp => ?_⟩
   simp only [List.mem_cons, List.not_mem_nil, or_false] at hp
   rcases hp with rfl | rfl | rfl
   ·exact ⟨k1, by simp⟩
   ·exact ⟨k2, by simp only; omega⟩
   ·exact ⟨k3, by simp only; omega⟩
theorem self_len {c : Cf} (hc : CfOk c) : c.sn.length ≤ 100 := by
 have h := hc.rest
 unfold restR at h
 split at h
 ·cases h
 ·rename_i hs
  unfold selfBad at hs
  by_cases h1 : c.sn = [] ∧ c.ss = []
  ·rw [h1.1]; simp
  ·by_cases h2 : nameOk c.sn = true ∧ nameOk c.ss = true
   ·exact (nameOk_is h2.1).2.1
   ·exact absurd ⟨h1, h2⟩ hs
theorem sec_fit {c : Cf} {d : Dw} {i cc : List UInt8} {a : List Pr} (hc : CfOk c) (h : secM c d i cc = some a) : SFit 2 600 a := by
 unfold secM at h
 split at h
 ·cases h
 ·cases h
  have h1 := self_len hc
  have h2 := hexL_len (respL (numE i 0 255).1 c.ss (readV cc).1).1
  have h3 : (respL (numE i 0 255).1 c.ss (readV cc).1).1.length ≤ 16 := by
   rcases respL_ways (numE i 0 255).1 c.ss (readV cc).1 with ⟨e, _⟩ | ⟨e, _⟩ | ⟨x, e, hx, _⟩
   ·rw [e]; simp
   ·rw [e]; simp
   ·rw [e]; simp only; omega
  have k1 : kCN.length ≤ 600 := by decide
  have k2 : kCR.length ≤ 600 := by decide
  refine ⟨by simp, fun p hp => ?_⟩
  simp only [List.mem_cons, List.not_mem_nil, or_false] at hp
  rcases hp with rfl | rfl
  ·exact ⟨k1, by simp only; omega⟩
  ·exact ⟨k2, by simp only; omega⟩
theorem chk_fit {c : Cf} {d : Dw} {n r i cc : Option (List UInt8)} {q q1 : Lq} {a : List Pr} (hc : CfOk c) (h : chkQ c d n r i cc q = (some a, q1)) : SFit 2 600 a := by
 unfold chkQ at h
 split at h
 ·cases h; exact .nil _ _
 split at h
 ·cases h
 split at h
 ·cases h
 split at h
 ·cases h
 split at h
 ·cases h; exact .nil _ _
 ·exact sec_fit hc (congrArg Prod.fst h)
def OnFl (f : Int) : Prop := f = 0 ∨ (128 ≤ f ∧ f ≤ 131)
theorem go_fl {c : Cf} {h : Hd} {q : Lq} : OnFl (goQ c h q).1 := by
 unfold goQ OnFl
 have := nsgI_range h
 split
 ·exact .inl rfl
 ·exact .inr (by simp only; omega)
theorem tell_fit {c : Cf} {d : Dw} {h : Hd} {l : List Pr} {q : Lq} (hc : CfOk c) (hd : 0 ≤ d.id ∧ d.id ≤ 255 ∧ d.ch.length ≤ 100) : SFit 66 600 (tellQ c d h l q).1.2.1 ∧ OnFl (tellQ c d h l q).1.2.2 ∧ -1 ≤ (tellQ c d h l q).1.1 ∧ (tellQ c d h l q).1.1 ≤ 11 := by
 have bad : ∀ (n : Int) (q' : Lq), -1 ≤ n → n ≤ 11 → SFit 66 600 (((n, [], 0), q') : (Int × List Pr × Int) × Lq).1.2.1 ∧ OnFl (((n, [], 0), q') : (Int × List Pr × Int) × Lq).1.2.2 ∧ -1 ≤ (((n, [], 0), q') : (Int × List Pr × Int) × Lq).1.1 ∧ (((n, [], 0), q') : (Int × List Pr × Int) × Lq).1.1 ≤ 11 := fun n q' h1 h2 => ⟨.nil _ _, .inl rfl, h1, h2⟩
 unfold tellQ
 split
 ·exact bad 0 _ (by decide) (by decide)
 cases h1 : chsQ c (prFind l kAM) q with
 | mk o q1 => cases o with
  | none => exact bad 1 _ (by decide) (by decide)
  | some a =>
   simp only
   cases h2 : chlQ d (prFind l kCA) q1 with
   | mk o q2 => cases o with
    | none => exact bad 1 _ (by decide) (by decide)
    | some b =>
     simp only
     cases h3 : chkQ c d (prFind l kCN) (prFind l kCR) (prFind l kCI) (prFind l kCC) q2 with
     | mk o q3 => cases o with
      | none => exact bad 1 _ (by decide) (by decide)
      | some x =>
       simp only
       have hy := @ans_fit q3.mine q3.recd (restL l) true (dscQ q3)
       split
       ·exact bad 0 _ (by decide) (by decide)
       ·exact ⟨(((chs_fit h1).app (chl_fit hd h2)).app (chk_fit hc h3)).app hy, go_fl, by simp, by simp⟩
theorem adm_rng {c : Cf} {h : Hd} {q : Lq} : -1 ≤ (admQ c h q).1 ∧ (admQ c h q).1 ≤ 11 := by
 unfold admQ admE
 simp only
 repeat' split
 all_goals simp
theorem met_rng {c : Cf} {l : List Pr} {q : Lq} : -1 ≤ (metQ c l q).1 ∧ (metQ c l q).1 ≤ 11 := by
 unfold metQ meetQ
 repeat' split
 all_goals simp
theorem hear_fit {c : Cf} {d : Dw} {p : Pd} {q : Lq} (hc : CfOk c) (hd : 0 ≤ d.id ∧ d.id ≤ 255 ∧ d.ch.length ≤ 100) : SFit 66 600 (hearQ c d p q).1.2.1 ∧ OnFl (hearQ c d p q).1.2.2 ∧ -1 ≤ (hearQ c d p q).1.1 ∧ (hearQ c d p q).1.1 ≤ 11 := by
 unfold hearQ
 split
 ·exact ⟨.nil _ _, .inl rfl, adm_rng.1, adm_rng.2⟩
 split
 split
 ·exact ⟨.nil _ _, .inl rfl, (by decide : (-1 : Int) ≤ 0), (by decide : (0 : Int) ≤ 11)⟩
 split
 ·exact ⟨.nil _ _, .inl rfl, (by decide : (-1 : Int) ≤ -1), (by decide : (-1 : Int) ≤ 11)⟩
 split
 ·exact ⟨.nil _ _, .inl rfl, met_rng.1, met_rng.2⟩
 ·exact tell_fit hc hd
theorem judge_fit {c : Cf} {d : Dw} {p : Pd} {q : Lq} (hc : CfOk c) (hd : 0 ≤ d.id ∧ d.id ≤ 255 ∧ d.ch.length ≤ 100) : SFit 66 600 (judgeQ c d p q).1.1 ∧ OnFl (judgeQ c d p q).1.2.1 ∧ (0 ≤ (judgeQ c d p q).1.2.2.1 ∧ (judgeQ c d p q).1.2.2.1 ≤ 2) ∧ (0 ≤ (judgeQ c d p q).1.2.2.2 ∧ (judgeQ c d p q).1.2.2.2 ≤ 11) := by
 have H := @hear_fit c d p q hc hd
 unfold judgeQ
 cases h : hearQ c d p q with
 | mk a q1 =>
  obtain ⟨e, l, f⟩ := a
  rw [h] at H
  simp only at H ⊢
  split
  ·exact ⟨.nil _ _, .inl rfl, ⟨by simp, by simp⟩, ⟨by simp only; omega, by simp only; omega⟩⟩
  ·exact ⟨H.1, H.2.1, ⟨by simp, by simp⟩, ⟨by simp, by simp⟩⟩
def ansNames : List (List UInt8) := [[73, 83, 73, 68], [84, 83, 73, 72], [73, 84, 84], [83, 116, 97, 116, 83, 78], [69, 120, 112, 67, 109, 100, 83, 78], [77, 97, 120, 67, 109, 100, 83, 78], [83, 116, 97, 116, 117, 115, 67, 108, 97, 115, 115], [83, 116, 97, 116, 117, 115, 68, 101, 116, 97, 105, 108]]
theorem kind35 : kindOf 35 = some kd11 := by kernel_rfl
theorem kind3 : kindOf 3 = some kd3 := by kernel_rfl
theorem fill_ans (a b i s e m k t : Nat) : fill kd11.fs ansNames [a, b, i, s, e, m, k, t] (List.replicate kd11.fs.length 0) = ([0, 0, a, b, i, s, e, m, k, t], 0) := by
 unfold kd11 ansNames
 simp [fill, idxName]
theorem fl_ans {c f : Int} (hc : 0 ≤ c ∧ c ≤ 3) (hf : OnFl f) : flOk (4 * c + f) 207 = true := by
 have h1 : c = 0 ∨ c = 1 ∨ c = 2 ∨ c = 3 := by omega
 have h2 : f = 0 ∨ f = 128 ∨ f = 129 ∨ f = 130 ∨ f = 131 := by unfold OnFl at hf; omega
 rcases h1 with rfl | rfl | rfl | rfl <;> rcases h2 with rfl | rfl | rfl | rfl | rfl <;> decide
theorem make_ans {c f : Int} (hc : 0 ≤ c ∧ c ≤ 3) (hf : OnFl f) {a b i s e m k t : Nat} (ha : a < 281474976710656) (hb : b < 65536) (hi : i < 4294967296) (hs : s < 4294967296) (he : e < 4294967296) (hm : m < 4294967296) (hk : k < 256) (ht : t < 256) :
  makeR 35 (4 * c + f) ansNames [a, b, i, s, e, m, k, t] = (⟨35, false, 4 * c + f, [0, 0, a, b, i, s, e, m, k, t]⟩, 0, -1) := by
 have hr : rightR ⟨35, false, 4 * c + f, [0, 0, a, b, i, s, e, m, k, t]⟩ = (0, -1) := by
  refine rightR_mk kind35 (fun h => by cases h) (fl_ans hc hf) rfl ?_
  have d6 : a / 2 ^ (8 * 6) = 0 := Nat.div_eq_of_lt (by omega)
  have d2 : b / 2 ^ (8 * 2) = 0 := Nat.div_eq_of_lt (by omega)
  have d4 : ∀ x, x < 4294967296 → x / 2 ^ (8 * 4) = 0 := fun x hx => Nat.div_eq_of_lt (by omega)
  have d1 : ∀ x, x < 256 → x / 2 ^ (8 * 1) = 0 := fun x hx => Nat.div_eq_of_lt (by omega)
  unfold kd11
  simp only [badVal]
  rw [d6, d2, d4 i hi, d4 s hs, d4 e he, d4 m hm, d1 k hk, d1 t ht]
  simp
 unfold makeR
 rw [kind35]
 simp only
 rw [fill_ans]
 simp only
 rw [if_neg (by simp), hr]
 simp
theorem login_fields {h : Hd} (ho : h.op = 3) (hr : rightR h = (0, -1)) : hv h nISID < 281474976710656 ∧ hv h nITT < 4294967296 := by
 obtain ⟨k, hk, -, -, hl, hb⟩ := rightR_good hr
 rw [ho, kind3] at hk
 obtain rfl := Option.some.inj hk
 have g := badVal_good hb
 have hl8 : h.vs.length = 8 := hl
 have e1 : ∀ n i, idxName kd3.fs n = some i → (hi : i < 8) → hv h n = h.vs[i]'(by omega) := fun n i e hi => by
  unfold hv valueR
  rw [ho, kind3]
  simp only [valueK]
  rw [e]
  simp only
  rw [if_pos (by omega)]
  simp [List.getD_eq_getElem?_getD, List.getElem?_eq_getElem (show i < h.vs.length by omega)]
 have h2 := g 2 (by decide) (by omega)
 have h4 := g 4 (by decide) (by omega)
 rw [e1 nISID 2 (by kernel_rfl) (by omega), e1 nITT 4 (by kernel_rfl) (by omega)]
 have k2 : (kd3.fs[2]'(by decide)).sz = 6 := rfl
 have k4 : (kd3.fs[4]'(by decide)).sz = 4 := rfl
 rw [k2] at h2
 rw [k4] at h4
 have r2 := (Nat.div_eq_zero_iff).1 h2
 have r4 := (Nat.div_eq_zero_iff).1 h4
 constructor
 ·rcases r2 with h | h
  ·exact absurd h (by decide)
  ·exact h
 ·rcases r4 with h | h
  ·exact absurd h (by decide)
  ·exact h
end Go.Proofs.YtjbbbpgcegcbaaaGreatDoor
namespace Go.Proofs.YtjbbbpgcegcbaaaGreatDoor
open Go.RowKit
def cellsU (l : List Nat) : Array Value := (l.map fun (x : Nat) => Value.int .u64 (x : Int)).toArray
theorem cellsU_set (l : List Nat) (i x : Nat) : (cellsU l).setIfInBounds i (.int .u64 (x : Int)) = cellsU (l.set i x) := by simp [cellsU, List.map_set]
theorem cellsU_get (l : List Nat) (i : Nat) (h : i < l.length) : (cellsU l)[i]? = some (.int .u64 (l[i] : Int)) := by simp [cellsU, List.getElem?_eq_getElem h]
theorem run_make_U (w : World) (n : Nat) (hn : n ≤ 100) : (Instr.makeSlice 36 (.int .i64 (n : Int)) (.int .i64 (n : Int))).run Tryz.prog w = .ok (.slice (some ⟨w.heap.size, 0, none⟩) n n) (w.alloc (.cells (cellsU (List.replicate n 0)) 77)) := by
 obtain ⟨i, hi, hz, hs, hb⟩ := info_parts (show (Tryz.prog.info? 77).map (fun i => (i.zero, i.size, i.bytes)) = some (some (.int .u64 0), 1, 8) by kernel_rfl)
 have h := run_make (P := Tryz.prog) w 36 77 i _ Tryz.underlying36 hi hz .i64 .i64 n n (by omega) (Int.le_refl _) (by rw [hb]; omega) (by omega)
 simp only [Int.toNat_natCast, hs, Nat.mul_one] at h
 have e : madeCells (Value.int .u64 0).cells n = cellsU (List.replicate n 0) := by
  apply Array.ext'
  rw [show (Value.int IntKind.u64 0).cells = #[Value.int .u64 0] from rfl, toList_madeCells_one]
  simp [cellsU]
 rw [e] at h
 exact h
def Nums (W : World) (b : Nat) (l : List Nat) : Prop := Blk W b (cellsU l) 77
theorem Nums.vals {W : World} {b : Nat} {l : List Nat} (h : Nums W b l) (hx : ∀ x ∈ l, x < 2 ^ 64) : Vals W (.slice (some ⟨b, 0, none⟩) l.length l.length) l :=
 ⟨_, _, rfl, hx, fun _ => ⟨b, 0, rfl, fun j hj => by rw [Nat.zero_add, Blk.cell h j, cellsU_get l j hj]⟩⟩
theorem vals_nil (W : World) : Vals W (.slice none 0 0) [] := ⟨none, 0, rfl, ⟨fun _ h => absurd h (List.not_mem_nil), fun h => absurd h (by decide)⟩⟩
theorem four_stored {w W : World} {N b : Nat} {o0 o1 o2 o3 : Value} {t : TypeId} (x0 x1 x2 x3 : Value) (hR : Blk W b #[o0, o1, o2, o3] t) (hb : N ≤ b) (hB : Below N w W) :
  Blk ((((W.setCell ⟨b, 0, none⟩ x0).setCell ⟨b, 1, none⟩ x1).setCell ⟨b, 2, none⟩ x2).setCell ⟨b, 3, none⟩ x3) b #[x0, x1, x2, x3] t ∧
  Below N w ((((W.setCell ⟨b, 0, none⟩ x0).setCell ⟨b, 1, none⟩ x1).setCell ⟨b, 2, none⟩ x2).setCell ⟨b, 3, none⟩ x3) :=
 ⟨(((hR.set 0 x0).set 1 x1).set 2 x2).set 3 x3, (((hB.setCell (p := ⟨b, 0, none⟩) hb _).setCell (p := ⟨b, 1, none⟩) hb _).setCell (p := ⟨b, 2, none⟩) hb _).setCell (p := ⟨b, 3, none⟩) hb _⟩
theorem vals_set4 {W : World} {p c n : Nat} {l : List Nat} (h : Vals W (.slice (some ⟨p, 0, none⟩) n c) l) (b : Nat) (hb : b < p) {x0 x1 x2 x3 : Value} :
  Vals ((((W.setCell ⟨b, 0, none⟩ x0).setCell ⟨b, 1, none⟩ x1).setCell ⟨b, 2, none⟩ x2).setCell ⟨b, 3, none⟩ x3) (.slice (some ⟨p, 0, none⟩) n c) l := by
 obtain ⟨q, c', hv, hx, hc⟩ := h
 refine ⟨q, c', hv, hx, fun hl => ?_⟩
 obtain ⟨b', o, hp, hcell⟩ := hc hl
 refine ⟨b', o, hp, fun j hj => ?_⟩
 have hbp : b' = p := by
  have : some (⟨p, 0, none⟩ : Addr) = some ⟨b', o, none⟩ := by rw [← hp]; injection hv
  injection this with this
  injection this with h1
  exact h1.symm
 subst hbp
 have hne : b' ≠ b := by omega
 have hh : ((((W.setCell ⟨b, 0, none⟩ x0).setCell ⟨b, 1, none⟩ x1).setCell ⟨b, 2, none⟩ x2).setCell ⟨b, 3, none⟩ x3).heap[b']? = W.heap[b']? := by
  rw [setCell_heap_other hne, setCell_heap_other hne, setCell_heap_other hne, setCell_heap_other hne]
 have := hcell j hj
 unfold World.cell? at this ⊢
 simp only [hh]
 exact this
theorem fields_none {op : Int} (h : kindOf op = none) (w : World) : Calls Tryz.prog 111 #[.int .i64 op] w fun e W' => e = .returned (.tuple #[.slice none 0 0, .iface 56 (.int .i64 1)]) ∧ Below w.heap.size w W' := by
 have C := Lib.hid (find_none h w)
 clear h
 go_enter Tryz.func111, Tryz.ntmps111
 go_wp2_with fail
 refine C.out.mono ?_
 rintro e w' ⟨rfl, hb⟩
 have Hb := Lib.hid hb
 clear hb
 go_wp2_with fail
 go_ret2
 exact ⟨rfl, Hb.out.alloc Hb.out.size _⟩
def RetFieldsE (w : World) (fs : List Fd) (e : Ending) (w' : World) : Prop :=
 ∃ b, e = .returned (.tuple #[.slice (some ⟨b, 0, none⟩) fs.length fs.length, .nilIface]) ∧ w.heap.size ≤ b ∧ Flds w' b fs ∧ Below w.heap.size w w'
theorem fields_some {op : Int} {k : Kd} (h : kindOf op = some k) (w : World) (hm : MaxCell w) : Calls Tryz.prog 111 #[.int .i64 op] w (RetFieldsE w k.fs) := by
 have C := Lib.hid (find_some h w)
 have L := fun w hm => Lib.hid (kind_list h w hm)
 have Hm := Lib.hid hm
 clear h hm
 go_enter Tryz.func111, Tryz.ntmps111
 go_wp2_with fail
 refine C.out.mono ?_
 rintro e w' ⟨rfl, hb⟩
 have hb2 := hb.alloc hb.size (.cells #[.int .i64 (k.op : Int), .string (S k.nm), .int .i64 (k.fl : Int), .string (S k.tx)] 192)
 have L2 := Lib.hid (L _ (Hm.out.later hb2)).out
 have Hb2 := Lib.hid hb2
 clear hb hb2 L
 go_wp2_with fail
 refine L2.out.mono ?_
 rintro e w2 ⟨b, rfl, hlb, hF, hb3⟩
 have HF := Lib.hid hF
 have Hb3 := Lib.hid (below_then Hb2.out hb3)
 have hle : w.heap.size ≤ b := Nat.le_trans Hb2.out.size hlb
 clear hF hb3
 go_wp2_with fail
 go_ret2
 exact ⟨b, rfl, hle, HF.out, Hb3.out⟩
theorem placed_set4 {W : World} {bb b : Nat} {n p : Int} (hne : bb ≠ b) (hn : n ≠ 0) (g0 : W.cell? ⟨bb, 0, none⟩ = some (.int .i64 n)) (g1 : W.cell? ⟨bb, 1, none⟩ = some (.int .i64 p)) {x0 x1 x2 x3 : Value} :
  ErrIs ((((W.setCell ⟨b, 0, none⟩ x0).setCell ⟨b, 1, none⟩ x1).setCell ⟨b, 2, none⟩ x2).setCell ⟨b, 3, none⟩ x3) (.iface 120 (.pointer (some ⟨bb, 0, none⟩))) n p := by
 have hh : ((((W.setCell ⟨b, 0, none⟩ x0).setCell ⟨b, 1, none⟩ x1).setCell ⟨b, 2, none⟩ x2).setCell ⟨b, 3, none⟩ x3).heap[bb]? = W.heap[bb]? := by
  rw [setCell_heap_other hne, setCell_heap_other hne, setCell_heap_other hne, setCell_heap_other hne]
 refine .placed bb n p hn ?_ ?_
 ·unfold World.cell? at g0 ⊢; simp only [hh]; exact g0
 ·unfold World.cell? at g1 ⊢; simp only [hh]; exact g1
theorem fill_none {fs : List Fd} {ns : List (List UInt8)} {vs acc : List Nat} {j : Nat} (hj : j < ns.length) (h : idxName fs ns[j] = none) : fill fs (ns.drop j) (vs.drop j) acc = (acc, 5) := by
 rw [List.drop_eq_getElem_cons hj]; unfold fill; rw [h]
theorem fill_few {fs : List Fd} {ns : List (List UInt8)} {vs acc : List Nat} {j i : Nat} (hj : j < ns.length) (h : idxName fs ns[j] = some i) (hv : vs.length ≤ j) : fill fs (ns.drop j) (vs.drop j) acc = (acc, 7) := by
 rw [List.drop_eq_getElem_cons hj, List.drop_eq_nil_of_le hv]; unfold fill; rw [h]
theorem fill_step {fs : List Fd} {ns : List (List UInt8)} {vs acc : List Nat} {j i : Nat} (hj : j < ns.length) (h : idxName fs ns[j] = some i) (hv : j < vs.length) : fill fs (ns.drop j) (vs.drop j) acc = fill fs (ns.drop (j + 1)) (vs.drop (j + 1)) (acc.set i vs[j]) := by
 rw [List.drop_eq_getElem_cons hj, List.drop_eq_getElem_cons hv]; conv => lhs; unfold fill
 rw [h]
theorem fill_end {fs : List Fd} {ns : List (List UInt8)} {vs acc : List Nat} {j : Nat} (hj : ns.length ≤ j) : fill fs (ns.drop j) (vs.drop j) acc = (acc, 0) := by
 rw [List.drop_eq_nil_of_le hj]; rfl
theorem makeR_some {op fl : Int} {k : Kd} (ns : List (List UInt8)) (vs : List Nat) (hk : kindOf op = some k) {acc : List Nat} {e : Int} (hf : fill k.fs ns vs (List.replicate k.fs.length 0) = (acc, e)) :
  makeR op fl ns vs = if e ≠ 0 then (hd0, e, -1) else if (rightR ⟨op, false, fl, acc⟩).1 ≠ 0 then (hd0, rightR ⟨op, false, fl, acc⟩) else (⟨op, false, fl, acc⟩, 0, -1) := by
 unfold makeR
 rw [hk]
 simp only [hf]
end Go.Proofs.YtjbbbpgcegcbaaaGreatDoor
