/- LM42: several texts in one. -/
import Derived.Test.YtmkebjdmkkjloaaGreatDoorLM12
import Derived.Test.YtmkebjdmkkjloaaGreatDoorLM27
import Derived.Test.YtmkebjdmkkjloaaGreatDoorLM33
import Derived.Test.YtmkebjdmkkjloaaGreatDoorLM39
import Derived.Test.YtmkebjdmkkjloaaGreatDoorLM41
namespace Go.Proofs.YtmkebjdmkkjloaaGreatDoor
open Go Go.RowKit
set_option linter.unusedVariables false
theorem PdusV.cellsO {H : Nat → Prop} {W : World} {p : Option Addr} {c : Nat} {l : List Pd} (h : PdusV (offW H W) (.slice p l.length c) l) {j : Nat} (hj : j < l.length) : ∃ b o, p = some ⟨b, o, none⟩ ∧ ∃ p1 c1 p2 c2, PduAt (offW H W) l[j] (.slice p1 l[j].h.vs.length c1) (.slice p2 l[j].a.length c2) ∧
  W.cell? ⟨b, o + j * 6, none⟩ = some (.int .i64 l[j].h.op) ∧ W.cell? ⟨b, o + j * 6 + 1, none⟩ = some (.bool l[j].h.now) ∧ W.cell? ⟨b, o + j * 6 + 2, none⟩ = some (.int .i64 l[j].h.fl) ∧ W.cell? ⟨b, o + j * 6 + 3, none⟩ = some (.slice p1 l[j].h.vs.length c1) ∧ W.cell? ⟨b, o + j * 6 + 4, none⟩ = some (.slice p2 l[j].a.length c2) ∧
  W.cell? ⟨b, o + j * 6 + 5, none⟩ = some (.string (S l[j].d)) := by
 obtain ⟨p0, c0, hv, hc⟩ := h
 obtain ⟨rfl, rfl⟩ : p = p0 ∧ c = c0 := by simpa using hv
 obtain ⟨b, o, rfl, hcell⟩ := hc (by omega)
 obtain ⟨vv, va, hP, e0, e1, e2, e3, e4, e5⟩ := hcell j hj
 obtain ⟨p1, c1, rfl⟩ : ∃ p c, vv = .slice p l[j].h.vs.length c := by obtain ⟨p, c, h, _⟩ := hP.v; exact ⟨p, c, h⟩
 obtain ⟨p2, c2, rfl⟩ := hP.a.form
 exact ⟨b, o, rfl, p1, c1, p2, c2, hP, off_cell e0, off_cell e1, off_cell e2, off_cell e3, off_cell e4, off_cell e5⟩
theorem PduAt.laid6 {H : Nat → Prop} {W W' : World} {p : Pd} {vv va : Value} (h : PduAt (offW H W) p vv va) {b : Nat} {o0 o2 : Int} {o1 : Bool} {o5 : ByteArray} {p3 p4 : Option Addr} {n3 n4 c3 c4 : Nat} {t : TypeId} (hk : Blk W b #[.int .i64 o0, .bool o1, .int .i64 o2, .slice p3 n3 c3, .slice p4 n4 c4, .string o5] t)
  (hg : ∀ k, k ≠ b → W'.heap[k]? = W.heap[k]?) : PduAt (offW H W') p vv va := by
 have hh : ∀ (b' o : Nat) (x : Value), b' ≠ b → (offW H W).cell? ⟨b', o, none⟩ = some x → (offW H W').cell? ⟨b', o, none⟩ = some x := fun b' o x hne hc => by
  have hH : ¬ H b' := off_cellout hc
  have h1 := off_cell hc
  rw [off_to (a := ⟨b', o, none⟩) hH, World.cell?_of_block (w := W) (w' := W') (a := ⟨b', o, none⟩) (hg b' hne)]
  exact h1
 obtain ⟨⟨q, c, hv, hx, hc⟩, ⟨qa, ca, ha, hla, hca⟩⟩ := h
 refine ⟨⟨q, c, hv, hx, fun hl => ?_⟩, ⟨qa, ca, ha, hla, fun hl => ?_⟩⟩
 ·obtain ⟨b', o, hq, hcell⟩ := hc hl
  have hne := six_apartV hk (off_cell (hcell 0 hl))
  exact ⟨b', o, hq, fun j hj => hh _ _ _ hne (hcell j hj)⟩
 ·obtain ⟨b', o, hq, hcell⟩ := hca hl
  obtain ⟨g0, g1⟩ := hcell 0 hl
  have hne := six_apartA hk (off_cell g0) (off_cell g1)
  exact ⟨b', o, hq, fun j hj => ⟨hh _ _ _ hne (hcell j hj).1, hh _ _ _ hne (hcell j hj).2⟩⟩
theorem six_keeps (W : World) (b : Nat) (x0 x1 x2 x3 x4 x5 : Value) : Keeps W.heap.size W ((((((W.setCell ⟨b, 0, none⟩ x0).setCell ⟨b, 1, none⟩ x1).setCell ⟨b, 2, none⟩ x2).setCell ⟨b, 3, none⟩ x3).setCell ⟨b, 4, none⟩ x4).setCell ⟨b, 5, none⟩ x5) (fun k => k = b) (fun k => k = b) :=
 (((((((Keeps.refl _ W (fun k => k = b)).putC rfl 0 _).putC rfl 1 _).putC rfl 2 _).putC rfl 3 _).putC rfl 4 _).putC rfl 5 _)
theorem six_else (W : World) (b : Nat) (x0 x1 x2 x3 x4 x5 : Value) (k : Nat) (hne : k ≠ b) : ((((((W.setCell ⟨b, 0, none⟩ x0).setCell ⟨b, 1, none⟩ x1).setCell ⟨b, 2, none⟩ x2).setCell ⟨b, 3, none⟩ x3).setCell ⟨b, 4, none⟩ x4).setCell ⟨b, 5, none⟩ x5).heap[k]? = W.heap[k]? := by
 rw [setCell_heap_other hne, setCell_heap_other hne, setCell_heap_other hne, setCell_heap_other hne, setCell_heap_other hne, setCell_heap_other hne]
structure KnIn (w0 w W : World) (lb : Nat) (m0 m : LgM) (c : Cf) (d : Dw) (q0 q : Lq) (s : Lg) (ra rb : Nat) (Q : Pd) (vv va : Value) : Prop where
 box : InB w W w0.heap.size lb m0 m c d q0 q rb (cells6 Q vv va) 41
 out : Blk W ra #[.int .i64 0, .bool false, .int .i64 0, .slice none 0 0, .slice none 0 0, .string (S [])] 41
 sepA : ¬ m.H lb ra
 newA : w.heap.size ≤ ra
 pdu : PduAt (offW (m.H lb) W) Q vv va
 low : Below w0.heap.size w0 W
 sim : SimQ c q s
 ok : QOk c q
 ne : ra ≠ rb
section
variable {w0 w W W' : World} {lb : Nat} {m0 m m' : LgM} {c : Cf} {d : Dw} {q0 q q' : Lq} {s s' : Lg} {ra rb : Nat} {Q : Pd} {vv va : Value}
theorem KnIn.later (h : KnIn w0 w W lb m0 m c d q0 q s ra rb Q vv va) (hb : Below W.heap.size W W') : KnIn w0 w W' lb m0 m c d q0 q s ra rb Q vv va :=
 ⟨h.box.later hb, h.out.later hb, h.sepA, h.newA, h.pdu.later (Keeps.of hb _).off', below_then h.low hb, h.sim, h.ok, h.ne⟩
theorem KnIn.step (h : KnIn w0 w W lb m0 m c d q0 q s ra rb Q vv va) (hl : LogIn W' w0.heap.size lb m' c d q') (hk : Keeps W.heap.size W W' (m.H lb) (m'.H lb)) (e : m'.mv = m.mv ∧ m'.vt = m.vt ∧ m'.vu = m.vu ∧ q'.mine = q.mine) (hs : SimQ c q' s') (ho : QOk c q') : KnIn w0 w W' lb m0 m' c d q0 q' s' ra rb Q vv va := by
 have hsA : ¬ m'.H lb ra := fun hh => by
  rcases hk.old ra hh with h1 | h1
  ·exact h.sepA h1
  ·have := h.out.lt; omega
 exact ⟨h.box.step hl hk e, (hk.block ra h.out.lt h.sepA).trans h.out, hsA, h.newA, h.pdu.later hk.off', Keeps.from h.low hk (fun k hh => (h.box.log.ge k hh).1), hs, ho, h.ne⟩
theorem KnIn.lay (h : KnIn w0 w W lb m0 m c d q0 q s ra rb Q vv va) {R : Pd} {p1 p2 : Option Addr} {c1 c2 : Nat} (hp : PduAt (offW (m.H lb) W) R (.slice p1 R.h.vs.length c1) (.slice p2 R.a.length c2)) :
  KnIn w0 w ((((((W.setCell ⟨rb, 0, none⟩ (.int .i64 R.h.op)).setCell ⟨rb, 1, none⟩ (.bool R.h.now)).setCell ⟨rb, 2, none⟩ (.int .i64 R.h.fl)).setCell ⟨rb, 3, none⟩ (.slice p1 R.h.vs.length c1)).setCell ⟨rb, 4, none⟩ (.slice p2 R.a.length c2)).setCell ⟨rb, 5, none⟩ (.string (S R.d))) lb m0 m c d q0 q s ra rb R (.slice p1 R.h.vs.length c1) (.slice p2 R.a.length c2) := by
 have hk := six_keeps W rb (.int .i64 R.h.op) (.bool R.h.now) (.int .i64 R.h.fl) (.slice p1 R.h.vs.length c1) (.slice p2 R.a.length c2) (.string (S R.d))
 have he := six_else W rb (.int .i64 R.h.op) (.bool R.h.now) (.int .i64 R.h.fl) (.slice p1 R.h.vs.length c1) (.slice p2 R.a.length c2) (.string (S R.d))
 obtain ⟨pv, cv, rfl⟩ : ∃ p c, vv = .slice p Q.h.vs.length c := by obtain ⟨p, c, h, _⟩ := h.pdu.v; exact ⟨p, c, h⟩
 obtain ⟨pa, ca, rfl⟩ := h.pdu.a.form
 have hB := h.box.rbk
 unfold cells6 at hB
 have hset := (((((hB.set 0 (.int .i64 R.h.op)).set 1 (.bool R.h.now)).set 2 (.int .i64 R.h.fl)).set 3 (.slice p1 R.h.vs.length c1)).set 4 (.slice p2 R.a.length c2)).set 5 (.string (S R.d))
 have hge : w0.heap.size ≤ w.heap.size := by
  have h1 := h.box.start.base.1
  have h2 := (h.box.start.blk).lt
  omega
 exact ⟨h.box.laid hk hset, (he ra h.ne).trans h.out, h.sepA, h.newA, hp.laid6 hB he, Keeps.from h.low hk (fun k e => by subst e; have := h.box.new; omega), h.sim, h.ok, h.ne⟩
end
def RetKnock (w0 w : World) (lb : Nat) (m : LgM) (c : Cf) (d : Dw) (r : (Pd × Bool) × Lg) (e : Ending) (w' : World) : Prop :=
 ∃ m' q' vv va, e = .returned (.tuple #[pduV r.1.1 vv va, .bool r.1.2]) ∧ PduAt (offW (m'.H lb) w') r.1.1 vv va ∧ LS w0 w' lb m' c d q' r.2 ∧ Keeps w.heap.size w w' (m.H lb) (m'.H lb)
section
variable {w0 w W : World} {lb : Nat} {m0 m : LgM} {c : Cf} {d : Dw} {q0 q : Lq} {s : Lg} {ra rb : Nat} {Q : Pd}
theorem KnIn.back {p1 p2 : Option Addr} {c1 c2 : Nat} (h : KnIn w0 w W lb m0 m c d q0 q s ra rb Q (.slice p1 Q.h.vs.length c1) (.slice p2 Q.a.length c2)) (b : Bool) {r : (Pd × Bool) × Lg} (hr : r = ((Q, b), s)) :
  RetKnock w0 w lb m0 c d r (.returned (.tuple #[pduV Q (.slice p1 Q.h.vs.length c1) (.slice p2 Q.a.length c2), .bool b])) ((((((W.setCell ⟨ra, 0, none⟩ (.int .i64 Q.h.op)).setCell ⟨ra, 1, none⟩ (.bool Q.h.now)).setCell ⟨ra, 2, none⟩ (.int .i64 Q.h.fl)).setCell ⟨ra, 3, none⟩ (.slice p1 Q.h.vs.length c1)).setCell ⟨ra, 4, none⟩ (.slice p2 Q.a.length c2)).setCell ⟨ra, 5, none⟩ (.string (S Q.d))) := by
 subst hr
 have hk := six_keeps W ra (.int .i64 Q.h.op) (.bool Q.h.now) (.int .i64 Q.h.fl) (.slice p1 Q.h.vs.length c1) (.slice p2 Q.a.length c2) (.string (S Q.d))
 have he := six_else W ra (.int .i64 Q.h.op) (.bool Q.h.now) (.int .i64 Q.h.fl) (.slice p1 Q.h.vs.length c1) (.slice p2 Q.a.length c2) (.string (S Q.d))
 have hset := (((((h.out.set 0 (.int .i64 Q.h.op)).set 1 (.bool Q.h.now)).set 2 (.int .i64 Q.h.fl)).set 3 (.slice p1 Q.h.vs.length c1)).set 4 (.slice p2 Q.a.length c2)).set 5 (.string (S Q.d))
 have hA : InB w W w0.heap.size lb m0 m c d q0 q ra _ _ := ⟨h.box.start, h.out, h.box.log, h.box.keep, h.sepA, h.newA, h.box.same⟩
 have hL := hA.laid hk hset
 have hge : w0.heap.size ≤ w.heap.size := by
  have h1 := h.box.start.base.1
  have h2 := (h.box.start.blk).lt
  omega
 exact ⟨m, q, _, _, rfl, h.pdu.laid6 h.out he, ⟨Keeps.from h.low hk (fun k e => by subst e; have := h.newA; omega), hL.log, h.sim, h.ok⟩, hL.keep⟩
end
section
variable {w0 w : World} {lb : Nat} {m : LgM} {c : Cf} {d : Dw} {q : Lq} {s : Lg}
set_option maxRecDepth 100000 in
set_option maxHeartbeats 4000000 in
theorem knock_any (l : List Pd) (v : Value) (h : LS w0 w lb m c d q s) (hv : PdusV (offW (m.H lb) w) v l) (hf : ∀ p ∈ l, FitP p) (hl : l.length ≤ 140737488355328) (hE : EnvL w0) (hc : CfOk c) (hd : 0 ≤ d.id ∧ d.id ≤ 255 ∧ d.ch.length ≤ 100) :
  Calls Tryz.prog 28 #[.pointer (some ⟨lb, 0, none⟩), v] w (RetKnock w0 w lb m c d (knockL c d s pd0 l)) := by
 obtain ⟨pl, cl, rfl⟩ := hv.form
 obtain ⟨wA, hwA⟩ : ∃ wA, w.alloc (.cells #[.int .i64 0, .bool false, .int .i64 0, .slice none 0 0, .slice none 0 0, .string (S [])] 41) = wA := ⟨_, rfl⟩
 have bA : Below w.heap.size w wA := by rw [← hwA]; exact (Below.refl _ _).alloc (Nat.le_refl _) _
 have kA : Blk wA w.heap.size #[.int .i64 0, .bool false, .int .i64 0, .slice none 0 0, .slice none 0 0, .string (S [])] 41 := by rw [← hwA]; exact Blk.new w _ _
 obtain ⟨wB, hwB⟩ : ∃ wB, wA.alloc (.cells #[.int .i64 0, .bool false, .int .i64 0, .slice none 0 0, .slice none 0 0, .string (S [])] 41) = wB := ⟨_, rfl⟩
 have bB : Below wA.heap.size wA wB := by rw [← hwB]; exact (Below.refl _ _).alloc (Nat.le_refl _) _
 have kB : Blk wB wA.heap.size #[.int .i64 0, .bool false, .int .i64 0, .slice none 0 0, .slice none 0 0, .string (S [])] 41 := by rw [← hwB]; exact Blk.new wA _ _
 have hsA : ¬ m.H lb w.heap.size := fun hh => by have := (h.log.ge _ hh).2; omega
 have hne : w.heap.size ≠ wA.heap.size := by have := kA.lt; omega
 obtain ⟨ra, hra⟩ : ∃ ra, w.heap.size = ra := ⟨_, rfl⟩
 obtain ⟨rb, hrb⟩ : ∃ rb, wA.heap.size = rb := ⟨_, rfl⟩
 have hK : KnIn w0 w wB lb m m c d q q s ra rb pd0 (.slice none 0 0) (.slice none 0 0) := by
  rw [← hra, ← hrb]
  exact ⟨InB.begin h.log (below_then bA bB) kB bA.size, kA.later bB, hsA, Nat.le_refl _, pdu0_at _, below_then h.low (below_then bA bB), h.sim, h.ok, hne⟩
 have HK := Lib.hid hK
 have HV := Lib.hid hv
 have Hf := Lib.hid hf
 have HE := Lib.hid hE
 have HC := Lib.hid hc
 have HD := Lib.hid hd
 have HM := Lib.hid ((newN_is (newN_own hc)).1)
 obtain ⟨R, hR⟩ : ∃ R, knockL c d s pd0 l = R := ⟨_, rfl⟩
 rw [hR]
 have HR := Lib.hid hR
 clear h hv hf hE hc hd bA kA bB kB hsA hne hK hR
 go_enter Tryz.func28, Tryz.ntmps28
 go_wp2_with fail
 try rw [hwA]
 go_loopw [13] (fun i wr => ∃ (j : Nat) (m' : LgM) (q' : Lq) (s' : Lg) (Q : Pd) (p1 p2 : Option Addr) (c1 c2 : Nat), i = .int .i64 j ∧ j ≤ l.length ∧ KnIn w0 w wr lb m m' c d q q' s' ra rb Q (.slice p1 Q.h.vs.length c1) (.slice p2 Q.a.length c2) ∧ knockL c d s' Q (l.drop j) = R) (fun i _ => l.length - (intOf i).toNat)
 case atStart => exact ⟨0, m, q, s, pd0, none, none, 0, 0, rfl, Nat.zero_le _, HK.out, HR.out⟩
 case round =>
  obtain ⟨j, m', q', s', Q, p1, p2, c1, c2, rfl, hj, hk, hR⟩ := hrel
  by_cases hlt : j < l.length
  ·obtain ⟨b, o, rfl, a1, d1, a2, d2, hP, e0, e1, e2, e3, e4, e5⟩ := (HV.out.later hk.box.keep.off').cellsO hlt
   have hdrop : l.drop j = l[j] :: l.drop (j + 1) := List.drop_eq_getElem_cons hlt
   have hfit := Hf.out l[j] (List.getElem_mem hlt)
   rw [hdrop] at hR
   generalize hp : l[j] = p at *
   have hb1 := (Below.refl wr.heap.size wr).alloc (Nat.le_refl _) (.cells #[.int .i64 p.h.op, .bool p.h.now, .int .i64 p.h.fl, .slice a1 p.h.vs.length d1, .slice a2 p.a.length d2, .string (S p.d)] 41)
   have hk1 := Blk.new wr #[.int .i64 p.h.op, .bool p.h.now, .int .i64 p.h.fl, .slice a1 p.h.vs.length d1, .slice a2 p.a.length d2, .string (S p.d)] 41
   generalize hW1 : wr.alloc (.cells #[.int .i64 p.h.op, .bool p.h.now, .int .i64 p.h.fl, .slice a1 p.h.vs.length d1, .slice a2 p.a.length d2, .string (S p.d)] 41) = W1 at hb1 hk1
   have hK1 := hk.later hb1
   have hxv : ∀ x ∈ p.h.vs, x < 18446744073709551616 := by obtain ⟨_, _, _, hx, _⟩ := hP.v; exact hx
   have T := loginTake_any p _ _ hK1.box.log (hP.later (Keeps.of hb1 _).off') (HE.out.later (below_mask hK1.low (fun k hh => (hK1.box.log.ge k hh).1))) hfit HC.out HM.out hK1.ok HD.out
   obtain ⟨f1, f2⟩ := take_sim (d := d) (p := p) HC.out hK1.sim
   have hok2 := take_ok (d := d) (p := p) HC.out hxv hK1.ok
   obtain ⟨⟨⟨R1, n⟩, q2⟩, hT⟩ : ∃ r, takeQ c d q' p = r := ⟨_, rfl⟩
   rw [hT] at T f1 f2 hok2
   unfold RetLTake at T
   simp only at T f1 f2 hok2
   obtain ⟨⟨⟨R2, n2⟩, s2⟩, hTL⟩ : ∃ r, takeL c d s' p = r := ⟨_, rfl⟩
   rw [hTL] at f1 f2
   simp only at f2
   obtain ⟨rfl, rfl⟩ : R1 = R2 ∧ n = n2 := by simpa using f1
   have hR2 : (if n ≠ 0 then ((Q, false), s2) else knockL c d s2 R1 (l.drop (j + 1))) = R := by
    rw [← hR, knockL, hTL]
   unfold pduV at T
   have T := Lib.hid T
   have HK1 := Lib.hid hK1
   have HB1 := Lib.hid hk1
   have HR2 := Lib.hid hR2
   have HS2 := Lib.hid f2
   have HO2 := Lib.hid hok2
   obtain ⟨k0, k1, k2, k3, k4, k5⟩ := hk1.six
   clear hk hP hdrop hfit hp hb1 hk1 hK1 hxv f1 f2 hok2 hT hTL hR hR2
   go_wp2_with fail
   refine T.out.mono ?_
   rintro e w2 ⟨m2, vv2, va2, ev, rfl, hP2, herr, hL2, hK2, hsame⟩
   have hKn := HK1.out.step hL2 hK2 hsame HS2.out HO2.out
   obtain ⟨p3, c3, rfl⟩ : ∃ p c, vv2 = .slice p R1.h.vs.length c := by obtain ⟨p, c, h, _⟩ := hP2.v; exact ⟨p, c, h⟩
   obtain ⟨p4, c4, rfl⟩ := hP2.a.form
   have hb3 := (Below.refl w2.heap.size w2).alloc (Nat.le_refl _) (.cells #[.int .i64 R1.h.op, .bool R1.h.now, .int .i64 R1.h.fl, .slice p3 R1.h.vs.length c3, .slice p4 R1.a.length c4, .string (S R1.d)] 41)
   have hk3 := Blk.new w2 #[.int .i64 R1.h.op, .bool R1.h.now, .int .i64 R1.h.fl, .slice p3 R1.h.vs.length c3, .slice p4 R1.a.length c4, .string (S R1.d)] 41
   generalize hW3 : w2.alloc (.cells #[.int .i64 R1.h.op, .bool R1.h.now, .int .i64 R1.h.fl, .slice p3 R1.h.vs.length c3, .slice p4 R1.a.length c4, .string (S R1.d)] 41) = W3 at hb3 hk3
   have hKn3 := hKn.later hb3
   have hP3 := hP2.later (Keeps.of hb3 _).off'
   have hrbk := hKn3.box.rbk
   unfold cells6 at hrbk
   obtain ⟨r0, r1, r2, r3, r4, r5⟩ := hrbk.six
   have HKn3 := Lib.hid hKn3
   have HP3 := Lib.hid hP3
   clear k0 k1 k2 k3 k4 k5 hP2 hL2 hK2 hsame hKn hb3 hKn3 hP3 T HK1 HB1 HS2 HO2
   by_cases hn : n = 0
   ·subst hn
    obtain rfl := herr.zero
    have f0 := hrbk.frozen 0
    have f1 := hrbk.frozen 1
    have f2 := hrbk.frozen 2
    have f3 := hrbk.frozen 3
    have f4 := hrbk.frozen 4
    have f5 := hrbk.frozen 5
    obtain ⟨x0, x1, x2, x3, x4, x5⟩ := hk3.six
    have hr := HR2.out
    rw [if_neg (by simp)] at hr
    have HRR := Lib.hid hr
    clear hr hrbk hk3 herr
    go_wp2_with fail
    go_roundw
    case rel => exact ⟨j + 1, m2, q2, s2, R1, p3, p4, c3, c4, by go_num, by omega, HKn3.out.lay HP3.out, HRR.out⟩
    case measure => simp [intOf]; omega
   ·obtain ⟨te, xe, rfl⟩ := herr.iface hn
    have ho := HKn3.out.out
    have f0 := ho.frozen 0
    have f1 := ho.frozen 1
    have f2 := ho.frozen 2
    have f3 := ho.frozen 3
    have f4 := ho.frozen 4
    have f5 := ho.frozen 5
    obtain ⟨y0, y1, y2, y3, y4, y5⟩ := ho.six
    have hr := HR2.out
    rw [if_pos hn] at hr
    have HRR := Lib.hid hr
    obtain ⟨wz, hwz⟩ : ∃ wz, ((((((W3.setCell ⟨ra, 0, none⟩ (.int .i64 Q.h.op)).setCell ⟨ra, 1, none⟩ (.bool Q.h.now)).setCell ⟨ra, 2, none⟩ (.int .i64 Q.h.fl)).setCell ⟨ra, 3, none⟩ (.slice p1 Q.h.vs.length c1)).setCell ⟨ra, 4, none⟩ (.slice p2 Q.a.length c2)).setCell ⟨ra, 5, none⟩ (.string (S Q.d))) = wz := ⟨_, rfl⟩
    have hbz := (six_stored (.int .i64 Q.h.op) (.bool Q.h.now) (.int .i64 Q.h.fl) (.slice p1 Q.h.vs.length c1) (.slice p2 Q.a.length c2) (.string (S Q.d)) ho (Nat.zero_le _) (Below.refl 0 W3)).1
    have hback := HKn3.out.back false HRR.out.symm
    rw [hwz] at hbz hback
    obtain ⟨z0, z1, z2, z3, z4, z5⟩ := hbz.six
    have Hback := Lib.hid hback
    clear hr hrbk hk3 herr hn ho hbz hback
    go_wp2_with fail
    refine bodyPost_ret (v := .tuple #[.agg #[.int .i64 Q.h.op, .bool Q.h.now, .int .i64 Q.h.fl, .slice p1 Q.h.vs.length c1, .slice p2 Q.a.length c2, .string (S Q.d)], .bool false]) (by simp [results, Tryz.results28, go_sem, z0, z1, z2, z3, z4, z5]) rfl ?_
    exact Hback.out
  ·obtain rfl : j = l.length := by omega
   have hr := hR
   rw [List.drop_length] at hr
   have hr2 : R = ((Q, true), s') := hr.symm
   have ho := hk.out
   have hrbk := hk.box.rbk
   unfold cells6 at hrbk
   obtain ⟨r0, r1, r2, r3, r4, r5⟩ := hrbk.six
   have f0 := ho.frozen 0
   have f1 := ho.frozen 1
   have f2 := ho.frozen 2
   have f3 := ho.frozen 3
   have f4 := ho.frozen 4
   have f5 := ho.frozen 5
   obtain ⟨y0, y1, y2, y3, y4, y5⟩ := ho.six
   obtain ⟨wz, hwz⟩ : ∃ wz, ((((((wr.setCell ⟨ra, 0, none⟩ (.int .i64 Q.h.op)).setCell ⟨ra, 1, none⟩ (.bool Q.h.now)).setCell ⟨ra, 2, none⟩ (.int .i64 Q.h.fl)).setCell ⟨ra, 3, none⟩ (.slice p1 Q.h.vs.length c1)).setCell ⟨ra, 4, none⟩ (.slice p2 Q.a.length c2)).setCell ⟨ra, 5, none⟩ (.string (S Q.d))) = wz := ⟨_, rfl⟩
   have hbz := (six_stored (.int .i64 Q.h.op) (.bool Q.h.now) (.int .i64 Q.h.fl) (.slice p1 Q.h.vs.length c1) (.slice p2 Q.a.length c2) (.string (S Q.d)) ho (Nat.zero_le _) (Below.refl 0 wr)).1
   have hback := hk.back true hr2
   rw [hwz] at hbz hback
   obtain ⟨z0, z1, z2, z3, z4, z5⟩ := hbz.six
   have Hback := Lib.hid hback
   clear hr hr2 hR hrbk hk ho hbz hback
   go_wp2_with fail
   refine bodyPost_ret (v := .tuple #[.agg #[.int .i64 Q.h.op, .bool Q.h.now, .int .i64 Q.h.fl, .slice p1 Q.h.vs.length c1, .slice p2 Q.a.length c2, .string (S Q.d)], .bool true]) (by simp [results, Tryz.results28, go_sem, z0, z1, z2, z3, z4, z5]) rfl ?_
   exact Hback.out
end
end Go.Proofs.YtmkebjdmkkjloaaGreatDoor
namespace Go.Proofs.YtmkebjdmkkjloaaGreatDoor
open Go.RowKit
set_option linter.unusedVariables false
set_option maxRecDepth 100000 in
theorem confO_any (w : World) : Calls Tryz.prog 25 #[] w fun e w' => ∃ vt vp, e = .returned (confV conf0 vt vp (.slice none 0 0) (.slice none 0 0)) ∧ ConfAt w' conf0 vt vp (.slice none 0 0) (.slice none 0 0) ∧ (OwnV w vt ∧ OwnV w vp) ∧ Below w.heap.size w w' := by
 have hK0 := Blk.new w #[.slice none 0 0, .slice none 0 0, .slice none 0 0, .string (S []), .string (S []), .int .i64 0, .slice none 0 0] 29
 have hb0 := (Below.refl w.heap.size w).alloc (Nat.le_refl _) (.cells #[.slice none 0 0, .slice none 0 0, .slice none 0 0, .string (S []), .string (S []), .int .i64 0, .slice none 0 0] 29)
 obtain ⟨W1, hW1⟩ : ∃ W1, w.alloc (.cells #[.slice none 0 0, .slice none 0 0, .slice none 0 0, .string (S []), .string (S []), .int .i64 0, .slice none 0 0] 29) = W1 := ⟨_, rfl⟩
 rw [hW1] at hK0 hb0
 have hT := Blk.new W1 #[.string (S iqnA), .string (S iqnB)] 9
 have hK1 := hK0.alloc (.cells #[.string (S iqnA), .string (S iqnB)] 9)
 have hb1 := hb0.alloc hb0.size (.cells #[.string (S iqnA), .string (S iqnB)] 9)
 obtain ⟨W2, hW2⟩ : ∃ W2, W1.alloc (.cells #[.string (S [105, 113, 110, 46, 97]), .string (S [105, 113, 110, 46, 98])] 9) = W2 := ⟨_, rfl⟩
 rw [show W1.alloc (.cells #[.string (S iqnA), .string (S iqnB)] 9) = W2 from hW2] at hT hK1 hb1
 have hP := Blk.new W2 #[.string (S po1.ad), .int .i64 1, .string (S po2.ad), .int .i64 2] 120
 have hT2 := hT.alloc (.cells #[.string (S po1.ad), .int .i64 1, .string (S po2.ad), .int .i64 2] 120)
 have hK2 := hK1.alloc (.cells #[.string (S po1.ad), .int .i64 1, .string (S po2.ad), .int .i64 2] 120)
 have hb2 := hb1.alloc hb1.size (.cells #[.string (S po1.ad), .int .i64 1, .string (S po2.ad), .int .i64 2] 120)
 obtain ⟨W3, hW3⟩ : ∃ W3, W2.alloc (.cells #[.string (S [49, 48, 46, 48, 46, 48, 46, 49, 58, 51, 50, 54, 48]), .int .i64 1, .string (S [91, 58, 58, 49, 93, 58, 51, 50, 54, 48]), .int .i64 2] 120) = W3 := ⟨_, rfl⟩
 rw [show W2.alloc (.cells #[.string (S po1.ad), .int .i64 1, .string (S po2.ad), .int .i64 2] 120) = W3 from hW3] at hP hT2 hK2 hb2
 have hn1 : W1.heap.size ≠ w.heap.size := by have := congrArg (fun x => x.heap.size) hW1; simp at this; omega
 have hn2 : W2.heap.size ≠ w.heap.size := by have := congrArg (fun x => x.heap.size) hW1; have := congrArg (fun x => x.heap.size) hW2; simp at *; omega
 obtain ⟨q0, q1, q2, q3, q4, q5, q6⟩ := hK2.seven
 have f0 := hK2.frozen 0
 have f1 := hK2.frozen 1
 have f2 := hK2.frozen 2
 have f3 := hK2.frozen 3
 have f4 := hK2.frozen 4
 have f5 := hK2.frozen 5
 have f6 := hK2.frozen 6
 have HZ1 := Lib.hid hb0.size
 have HZ2 := Lib.hid hb1.size
 have HB2 := Lib.hid hb2
 have HT2 := Lib.hid hT2
 have HP := Lib.hid hP
 have HK2 := Lib.hid hK2
 have Hn1 := Lib.hid hn1
 have Hn2 := Lib.hid hn2
 clear hK0 hb0 hT hK1 hb1 hP hT2 hK2 hb2 hn1 hn2
 go_enter Tryz.func25, Tryz.ntmps25
 go_wp2_with fail
 refine bodyPost_ret (v := confV conf0 (.slice (some ⟨W1.heap.size, 0, none⟩) 2 2) (.slice (some ⟨W2.heap.size, 0, none⟩) 2 2) (.slice none 0 0) (.slice none 0 0)) (by simp [results, Tryz.results25, go_sem, confV, conf0, q0, q1, q2, q3, q4, q5, q6]) rfl ⟨_, _, rfl, ⟨⟨_, _, rfl, fun _ => ⟨W1.heap.size, 0, rfl, fun j hj => ?_⟩⟩, ⟨_, _, rfl, Nat.le_refl _, fun _ => ⟨W2.heap.size, 0, rfl, fun j hj => ?_⟩⟩, UsV.nil _, PrsV.nil _, fun _ _ _ h => by cases h; exact Nat.le_refl _⟩, ⟨fun k hk => by
  have e : W1.heap.size = k := by simpa [Value.ownBlock] using hk
  have := HZ1.out
  omega, fun k hk => by
  have e : W2.heap.size = k := by simpa [Value.ownBlock] using hk
  have := HZ2.out
  omega⟩, blk_seven HK2.out (Nat.le_refl _) HB2.out⟩
 ·rw [cell_seven Hn1.out, HT2.out.cell]
  match j, hj with
  | 0, _ => rfl
  | 1, _ => rfl
 ·rw [cell_seven Hn2.out, cell_seven Hn2.out, HP.out.cell, HP.out.cell]
  match j, hj with
  | 0, _ => exact ⟨rfl, rfl⟩
  | 1, _ => exact ⟨rfl, rfl⟩
theorem StrV.moved {w0 w1 W : World} {v : Value} {l : List (List UInt8)} {rb : Nat} (h : StrV w1 v l) (ho : OwnV w0 v) (hb : rb < w0.heap.size) (he : ∀ k, k < w1.heap.size → k ≠ rb → W.heap[k]? = w1.heap[k]?) : StrV W v l := by
 obtain ⟨p, n, rfl, hcell⟩ := h
 refine ⟨p, n, rfl, fun hl => ?_⟩
 obtain ⟨g, o, rfl, hx⟩ := hcell hl
 have hg : g ≠ rb := fun e => by have := ho g (by simp [Value.ownBlock]); omega
 have hlt : g < w1.heap.size := block_lt_of_cell (w := w1) (a := ⟨g, o + 0, none⟩) (hx 0 hl)
 exact ⟨g, o, rfl, fun j hj => by rw [World.cell?_of_block (w := w1) (a := ⟨g, o + j, none⟩) (he g hlt hg)]; exact hx j hj⟩
theorem PosV.moved {w0 w1 W : World} {v : Value} {l : List Po} {rb : Nat} (h : PosV w1 v l) (ho : OwnV w0 v) (hb : rb < w0.heap.size) (he : ∀ k, k < w1.heap.size → k ≠ rb → W.heap[k]? = w1.heap[k]?) : PosV W v l := by
 obtain ⟨p, n, rfl, hlc, hcell⟩ := h
 refine ⟨p, n, rfl, hlc, fun hl => ?_⟩
 obtain ⟨g, o, rfl, hx⟩ := hcell hl
 have hg : g ≠ rb := fun e => by have := ho g (by simp [Value.ownBlock]); omega
 have hlt : g < w1.heap.size := block_lt_of_cell (w := w1) (a := ⟨g, o + 0 * 2, none⟩) (hx 0 hl).1
 exact ⟨g, o, rfl, fun j hj => by rw [World.cell?_of_block (w := w1) (a := ⟨g, o + j * 2, none⟩) (he g hlt hg), World.cell?_of_block (w := w1) (a := ⟨g, o + j * 2 + 1, none⟩) (he g hlt hg)]; exact hx j hj⟩
theorem UsV.moved {w0 w1 W : World} {v : Value} {l : List Us} {rb : Nat} (h : UsV w1 v l) (ho : OwnV w0 v) (hb : rb < w0.heap.size) (he : ∀ k, k < w1.heap.size → k ≠ rb → W.heap[k]? = w1.heap[k]?) : UsV W v l := by
 obtain ⟨p, n, rfl, hlc, hcell⟩ := h
 refine ⟨p, n, rfl, hlc, fun hl => ?_⟩
 obtain ⟨g, o, rfl, hx⟩ := hcell hl
 have hg : g ≠ rb := fun e => by have := ho g (by simp [Value.ownBlock]); omega
 have hlt : g < w1.heap.size := block_lt_of_cell (w := w1) (a := ⟨g, o + 0 * 2, none⟩) (hx 0 hl).1
 exact ⟨g, o, rfl, fun j hj => by rw [World.cell?_of_block (w := w1) (a := ⟨g, o + j * 2, none⟩) (he g hlt hg), World.cell?_of_block (w := w1) (a := ⟨g, o + j * 2 + 1, none⟩) (he g hlt hg)]; exact hx j hj⟩
def confG (n s : List UInt8) : Cf := { conf0 with us := [⟨n, s⟩] }
theorem seven_else (W : World) (b : Nat) (x0 x1 x2 x3 x4 x5 x6 : Value) (k : Nat) (hne : k ≠ b) : (((((((W.setCell ⟨b, 0, none⟩ x0).setCell ⟨b, 1, none⟩ x1).setCell ⟨b, 2, none⟩ x2).setCell ⟨b, 3, none⟩ x3).setCell ⟨b, 4, none⟩ x4).setCell ⟨b, 5, none⟩ x5).setCell ⟨b, 6, none⟩ x6).heap[k]? = W.heap[k]? := by
 rw [setCell_heap_other hne, setCell_heap_other hne, setCell_heap_other hne, setCell_heap_other hne, setCell_heap_other hne, setCell_heap_other hne, setCell_heap_other hne]
def RetGrd (w : World) (n s : List UInt8) (e : Ending) (w' : World) : Prop :=
 ∃ vt vp vu, e = .returned (confV (confG n s) vt vp vu (.slice none 0 0)) ∧ ConfAt w' (confG n s) vt vp vu (.slice none 0 0) ∧ (OwnV w vt ∧ OwnV w vp) ∧ OwnV w vu ∧ Below w.heap.size w w'
set_option maxRecDepth 100000 in
set_option maxHeartbeats 2000000 in
theorem guarded_any (n s : List UInt8) (w : World) : Calls Tryz.prog 36 #[.string (S n), .string (S s)] w (RetGrd w n s) := by
 obtain ⟨w0, hw0⟩ : ∃ x, w.alloc (.cells #[.slice none 0 0, .slice none 0 0, .slice none 0 0, .string (S []), .string (S []), .int .i64 0, .slice none 0 0] 29) = x := ⟨_, rfl⟩
 have b0 : Below w.heap.size w w0 := by rw [← hw0]; exact (Below.refl _ _).alloc (Nat.le_refl _) _
 have k0 : Blk w0 w.heap.size #[.slice none 0 0, .slice none 0 0, .slice none 0 0, .string (S []), .string (S []), .int .i64 0, .slice none 0 0] 29 := by rw [← hw0]; exact Blk.new w _ _
 obtain ⟨rb, hrb⟩ : ∃ x, w.heap.size = x := ⟨_, rfl⟩
 rw [hrb] at k0
 have hrb0 : rb < w0.heap.size := k0.lt
 have C := confO_any w0
 unfold confV at C
 replace C := Lib.hid C
 have HB0 := Lib.hid b0
 have HK0 := Lib.hid k0
 have HRB := Lib.hid hrb0
 clear b0 k0 hrb0
 go_enter Tryz.func36, Tryz.ntmps36
 go_wp2_with fail
 clear hw0
 refine C.out.mono ?_
 rintro e w1 ⟨vt, vp, rfl, hv, hO, hb1⟩
 obtain ⟨pt, ct, rfl, -⟩ := hv.ts
 obtain ⟨pp, cp, rfl, -⟩ := hv.ps
 obtain ⟨cb, hcb⟩ : ∃ x, w1.heap.size = x := ⟨_, rfl⟩
 obtain ⟨wz, hwz⟩ : ∃ x, w1.alloc (.cells #[.slice none 0 0, .slice none 0 0, .slice none 0 0, .string (S []), .string (S []), .int .i64 0, .slice none 0 0] 29) = x := ⟨_, rfl⟩
 have bz : Below w1.heap.size w1 wz := by rw [← hwz]; exact (Below.refl _ _).alloc (Nat.le_refl _) _
 have kz : Blk wz w1.heap.size #[.slice none 0 0, .slice none 0 0, .slice none 0 0, .string (S []), .string (S []), .int .i64 0, .slice none 0 0] 29 := by rw [← hwz]; exact Blk.new w1 _ _
 rw [hcb] at kz
 obtain ⟨y0, y1, y2, y3, y4, y5, y6⟩ := kz.seven
 have v0 := kz.frozen 0
 have v1 := kz.frozen 1
 have v2 := kz.frozen 2
 have v3 := kz.frozen 3
 have v4 := kz.frozen 4
 have v5 := kz.frozen 5
 have v6 := kz.frozen 6
 obtain ⟨w2, hw2⟩ : ∃ x, (((((((wz.setCell ⟨cb, 0, none⟩ (.slice pt conf0.ts.length ct)).setCell ⟨cb, 1, none⟩ (.slice pp conf0.ps.length cp)).setCell ⟨cb, 2, none⟩ (.slice none 0 0)).setCell ⟨cb, 3, none⟩ (.string (S conf0.sn))).setCell ⟨cb, 4, none⟩ (.string (S conf0.ss))).setCell ⟨cb, 5, none⟩ (.int .i64 conf0.lim)).setCell ⟨cb, 6, none⟩ (.slice none 0 0)) = x := ⟨_, rfl⟩
 have b2 : Below w1.heap.size w1 w2 := by rw [← hw2]; exact blk_seven kz (by omega) bz
 have k2 : Blk w2 cb #[.slice pt conf0.ts.length ct, .slice pp conf0.ps.length cp, .slice none 0 0, .string (S conf0.sn), .string (S conf0.ss), .int .i64 conf0.lim, .slice none 0 0] 29 := by
  rw [← hw2]
  exact ((((((kz.set 0 (.slice pt conf0.ts.length ct)).set 1 (.slice pp conf0.ps.length cp)).set 2 (.slice none 0 0)).set 3 (.string (S conf0.sn))).set 4 (.string (S conf0.ss))).set 5 (.int .i64 conf0.lim)).set 6 (.slice none 0 0)
 obtain ⟨w3, hw3⟩ : ∃ x, w2.alloc (.cells #[.string (S n), .string (S s)] 26) = x := ⟨_, rfl⟩
 have b3 : Below w2.heap.size w2 w3 := by rw [← hw3]; exact (Below.refl _ _).alloc (Nat.le_refl _) _
 have k3 : Blk w3 w2.heap.size #[.string (S n), .string (S s)] 26 := by rw [← hw3]; exact Blk.new w2 _ _
 obtain ⟨ub, hub⟩ : ∃ x, w2.heap.size = x := ⟨_, rfl⟩
 rw [hub] at k3
 have j2 := k2.later b3
 have hz : cb < ub := by rw [← hub]; exact k2.lt
 have hz0 : w0.heap.size ≤ cb := by rw [← hcb]; exact hb1.size
 obtain ⟨c0, c1, c2, c3, c4, c5, c6⟩ := j2.seven
 have fc2 := j2.frozen 2
 have hkr := (HK0.out.later hb1).later (below_then b2 b3)
 obtain ⟨r0, r1, r2, r3, r4, r5, r6⟩ := hkr.seven
 have f0 := hkr.frozen 0
 have f1 := hkr.frozen 1
 have f2 := hkr.frozen 2
 have f3 := hkr.frozen 3
 have f4 := hkr.frozen 4
 have f5 := hkr.frozen 5
 have f6 := hkr.frozen 6
 obtain ⟨w4, hw4⟩ : ∃ x, w3.setCell ⟨cb, 2, none⟩ (.slice (some ⟨ub, 0, none⟩) 1 1) = x := ⟨_, rfl⟩
 have k4 : Blk w4 cb #[.slice pt conf0.ts.length ct, .slice pp conf0.ps.length cp, .slice (some ⟨ub, 0, none⟩) 1 1, .string (S conf0.sn), .string (S conf0.ss), .int .i64 conf0.lim, .slice none 0 0] 29 := by rw [← hw4]; exact j2.set 2 _
 have e4 : ∀ k, k ≠ cb → w4.heap[k]? = w3.heap[k]? := fun k hk => by rw [← hw4]; exact setCell_heap_other hk _
 have hkr4 : Blk w4 rb #[.slice none 0 0, .slice none 0 0, .slice none 0 0, .string (S []), .string (S []), .int .i64 0, .slice none 0 0] 29 := (e4 rb (by have := HRB.out; omega)).trans hkr
 have k34 : Blk w4 ub #[.string (S n), .string (S s)] 26 := (e4 ub (by omega)).trans k3
 obtain ⟨w5, hw5⟩ : ∃ x, (((((((w4.setCell ⟨rb, 0, none⟩ (.slice pt conf0.ts.length ct)).setCell ⟨rb, 1, none⟩ (.slice pp conf0.ps.length cp)).setCell ⟨rb, 2, none⟩ (.slice (some ⟨ub, 0, none⟩) 1 1)).setCell ⟨rb, 3, none⟩ (.string (S conf0.sn))).setCell ⟨rb, 4, none⟩ (.string (S conf0.ss))).setCell ⟨rb, 5, none⟩ (.int .i64 conf0.lim)).setCell ⟨rb, 6, none⟩ (.slice none 0 0)) = x := ⟨_, rfl⟩
 have k5 : Blk w5 rb #[.slice pt conf0.ts.length ct, .slice pp conf0.ps.length cp, .slice (some ⟨ub, 0, none⟩) 1 1, .string (S conf0.sn), .string (S conf0.ss), .int .i64 conf0.lim, .slice none 0 0] 29 := by
  rw [← hw5]
  exact ((((((hkr4.set 0 (.slice pt conf0.ts.length ct)).set 1 (.slice pp conf0.ps.length cp)).set 2 (.slice (some ⟨ub, 0, none⟩) 1 1)).set 3 (.string (S conf0.sn))).set 4 (.string (S conf0.ss))).set 5 (.int .i64 conf0.lim)).set 6 (.slice none 0 0)
 have e5 : ∀ k, k ≠ rb → w5.heap[k]? = w4.heap[k]? := fun k hk => by rw [← hw5]; exact seven_else _ _ _ _ _ _ _ _ _ _ hk
 have hb4 : Below w.heap.size w w4 := by
  rw [← hw4]
  exact (below_then HB0.out (below_then hb1 (below_then b2 b3))).setCell (p := ⟨cb, 2, none⟩) (show w.heap.size ≤ cb by have := HB0.out.size; omega) _
 have hb5 : Below w.heap.size w w5 := by rw [← hw5]; exact blk_seven hkr4 (by omega) hb4
 have he : ∀ k, k < w1.heap.size → k ≠ rb → w5.heap[k]? = w1.heap[k]? := fun k hk hn => by
  rw [e5 k hn, e4 k (by omega)]
  exact (below_then b2 b3).block k hk
 have hres : RetGrd w n s (.returned (confV (confG n s) (.slice pt conf0.ts.length ct) (.slice pp conf0.ps.length cp) (.slice (some ⟨ub, 0, none⟩) 1 1) (.slice none 0 0))) w5 := by
  have hs := HB0.out.size
  have k5u : Blk w5 ub #[.string (S n), .string (S s)] 26 := (e5 ub (by have := HRB.out; omega)).trans k34
  refine ⟨_, _, _, rfl, ⟨hv.ts.moved hO.1 HRB.out he, hv.ps.moved hO.2 HRB.out he, ⟨_, _, rfl, Nat.le_refl _, fun _ => ⟨ub, 0, rfl, fun j hj => ?_⟩⟩, PrsV.nil _, hv.tc⟩, ⟨fun k hk => Nat.le_trans hs (hO.1 k hk), fun k hk => Nat.le_trans hs (hO.2 k hk)⟩, fun k hk => ?_, hb5⟩
  ·obtain rfl : j = 0 := by
    have : j < 1 := hj
    omega
   exact ⟨k5u.cell 0, k5u.cell 1⟩
  ·have e : ub = k := by simpa [Value.ownBlock] using hk
   omega
 obtain ⟨z0, z1, z2, z3, z4, z5, z6⟩ := k5.seven
 obtain ⟨d0, d1, d2, d3, d4, d5, d6⟩ := k4.seven
 obtain ⟨q0, q1, q2, q3, q4, q5, q6⟩ := hkr4.seven
 have g0 := hkr4.frozen 0
 have g1 := hkr4.frozen 1
 have g2 := hkr4.frozen 2
 have g3 := hkr4.frozen 3
 have g4 := hkr4.frozen 4
 have g5 := hkr4.frozen 5
 have g6 := hkr4.frozen 6
 have HRES := Lib.hid hres
 clear hv hO hb1 bz kz b2 k2 b3 k3 j2 hz hz0 hkr k4 e4 hkr4 k34 k5 e5 hb4 hb5 he hres C
 go_wp2_with fail
 refine bodyPost_ret (v := .agg #[.slice pt conf0.ts.length ct, .slice pp conf0.ps.length cp, .slice (some ⟨ub, 0, none⟩) 1 1, .string (S conf0.sn), .string (S conf0.ss), .int .i64 conf0.lim, .slice none 0 0]) (by simp [results, Tryz.results36, go_sem, z0, z1, z2, z3, z4, z5, z6]) rfl ?_
 exact HRES.out
theorem pdus_one {H : Nat → Prop} {w : World} {p : Pd} {vv va : Value} {t : TypeId} (hp : PduAt (offW H w) p vv va) (hn : ¬ H w.heap.size) :
  PdusV (offW H (w.alloc (.cells #[.int .i64 p.h.op, .bool p.h.now, .int .i64 p.h.fl, vv, va, .string (S p.d)] t))) (.slice (some ⟨w.heap.size, 0, none⟩) 1 1) [p] := by
 have hb : Below w.heap.size w (w.alloc (.cells #[.int .i64 p.h.op, .bool p.h.now, .int .i64 p.h.fl, vv, va, .string (S p.d)] t)) := (Below.refl _ _).alloc (Nat.le_refl _) _
 have hk := Blk.new w #[.int .i64 p.h.op, .bool p.h.now, .int .i64 p.h.fl, vv, va, .string (S p.d)] t
 have hP := hp.later (Keeps.of hb H).off'
 refine ⟨_, _, rfl, fun _ => ⟨w.heap.size, 0, rfl, fun j hj => ?_⟩⟩
 obtain rfl : j = 0 := by simp at hj; exact hj
 have e : ∀ i, (offW H (w.alloc (.cells #[.int .i64 p.h.op, .bool p.h.now, .int .i64 p.h.fl, vv, va, .string (S p.d)] t))).cell? ⟨w.heap.size, i, none⟩ = (w.alloc (.cells #[.int .i64 p.h.op, .bool p.h.now, .int .i64 p.h.fl, vv, va, .string (S p.d)] t)).cell? ⟨w.heap.size, i, none⟩ := fun i => off_to (a := ⟨w.heap.size, i, none⟩) hn
 exact ⟨vv, va, hP, by rw [e]; exact hk.cell 0, by rw [e]; exact hk.cell 1, by rw [e]; exact hk.cell 2, by rw [e]; exact hk.cell 3, by rw [e]; exact hk.cell 4, by rw [e]; exact hk.cell 5⟩
end Go.Proofs.YtmkebjdmkkjloaaGreatDoor
namespace Go.Proofs.YtmkebjdmkkjloaaGreatDoor
open Go Go.RowKit
set_option linter.unusedVariables false
theorem confU_fit : FitCf confU := ⟨⟨by decide, by decide⟩, ⟨by decide, by decide⟩, ⟨⟨by decide, by decide⟩, by decide⟩, by decide, by decide, by decide, ⟨⟨by decide, by decide⟩, by decide⟩, by decide⟩
theorem mt_fit {p : Pd} {fl : Int} {x : List UInt8} (hp : p = ⟨reqH fl 0 0 9 0 5 1 77 0, [], x⟩) (hf : 0 ≤ fl ∧ fl ≤ 207) (hx : x.length ≤ 8192) : ∀ q ∈ [p], FitP q := fun q hq => by
 rw [List.mem_singleton.1 hq, hp]
 exact ⟨by show I64 fl; unfold I64; omega, by show 8 ≤ _; decide, ⟨Nat.zero_le _, fun _ h => absurd h List.not_mem_nil⟩, by show x.length ≤ _; omega⟩
theorem mt_len {v : List UInt8} (hv : v.length ≤ 255) : (prBytes [pIni, pSes, ⟨kAM, v⟩]).length ≤ 8192 := by
 have e0 : (prBytes ([] : List Pr)).length = 0 := rfl
 have b2 := bytes_len2 (k := kAM) (by decide) hv []
 have b3 := bytes_len2 (k := kSes) (v := vDis) (by decide) (by decide) [⟨kAM, v⟩]
 have b4 := bytes_len2 (k := kIni) (v := meL) (by decide) (by decide) [pSes, ⟨kAM, v⟩]
 unfold pIni pSes at *
 omega
theorem mt_said (us : Bool) : (prPrint [⟨kAM, wantL us⟩]).1 = [65, 117, 116, 104, 77, 101, 116, 104, 111, 100, 61] ++ wantL us ++ [0] := by cases us <;> kernel_rfl
end Go.Proofs.YtmkebjdmkkjloaaGreatDoor
