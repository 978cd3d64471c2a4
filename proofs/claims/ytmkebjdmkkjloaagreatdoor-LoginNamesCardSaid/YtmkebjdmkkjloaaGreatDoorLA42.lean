/- LA42: several texts in one. -/
import Derived.LaidHandle
import Derived.LaidLaws
import Derived.Lay
import Derived.Lib.LaidU8
import Derived.Stop.Joined
import Derived.Test.YtmkebjdmkkjloaaGreatDoorCards
import Derived.Test.YtmkebjdmkkjloaaGreatDoorRows
import Derived.Test.YtmkebjdmkkjloaaGreatDoorLA01
import Derived.Test.YtmkebjdmkkjloaaGreatDoorLA02
import Derived.Test.YtmkebjdmkkjloaaGreatDoorLA12
import Derived.Test.YtmkebjdmkkjloaaGreatDoorLA39
import Derived.Test.YtmkebjdmkkjloaaGreatDoorLA41
namespace Go.Proofs.YtmkebjdmkkjloaaGreatDoor
open Go Go.RowKit
set_option linter.unusedVariables false
theorem PdusV.cellsO {H : Nat → Prop} {W : World} {p : Option Addr} {c : Nat} {l : List Pd} (h : PdusV (offW H W) (.slice p l.length c) l) {j : Nat} (hj : j < l.length) : ∃ b o, p = some ⟨b, o, none⟩ ∧ ∃ p1 c1 p2 c2, PduAt (offW H W) l[j] (.slice p1 l[j].h.vs.length c1) (.slice p2 l[j].a.length c2) ∧
  W.cell? ⟨b, o + j * 6, none⟩ = some (.int .i64 l[j].h.op) ∧ W.cell? ⟨b, o + j * 6 + 1, none⟩ = some (.bool l[j].h.now) ∧ W.cell? ⟨b, o + j * 6 + 2, none⟩ = some (.int .i64 l[j].h.fl) ∧ W.cell? ⟨b, o + j * 6 + 3, none⟩ = some (.slice p1 l[j].h.vs.length c1) ∧ W.cell? ⟨b, o + j * 6 + 4, none⟩ = some (.slice p2 l[j].a.length c2) ∧
  W.cell? ⟨b, o + j * 6 + 5, none⟩ = some (.string (S l[j].d)) := by
 obtain ⟨p0, c0, hv, hc⟩ := h
 obtain ⟨rfl, rfl⟩ : p = p0 ∧ c = c0 := by simpa using hv
 obtain ⟨b, o, rfl, hcell⟩ := hc (by omega)
 obtain ⟨vv, va, hP, e0, e1, e2, e3, e4, e5⟩ := hcell j hj
 obtain ⟨p1, c1, rfl⟩ : ∃ p c, vv = .slice p l[j].h.vs.length c := by obtain ⟨p, c, h, _⟩ := hP.v; exact ⟨p, c, h⟩
 obtain ⟨p2, c2, rfl⟩ := hP.a.form
 exact ⟨b, o, rfl, p1, c1, p2, c2, hP, off_cell e0, off_cell e1, off_cell e2, off_cell e3, off_cell e4, off_cell e5⟩
theorem PduAt.laid6 {H : Nat → Prop} {W W' : World} {p : Pd} {vv va : Value} (h : PduAt (offW H W) p vv va) {b : Nat} {o0 o2 : Int} {o1 : Bool} {o5 : ByteArray} {p3 p4 : Option Addr} {n3 n4 c3 c4 : Nat} {t : TypeId} (hk : Blk W b #[.int .i64 o0, .bool o1, .int .i64 o2, .slice p3 n3 c3, .slice p4 n4 c4, .string o5] t)
  (hg : ∀ k, k ≠ b → W'.heap[k]? = W.heap[k]?) : PduAt (offW H W') p vv va := by
 have hh : ∀ (b' o : Nat) (x : Value), b' ≠ b → (offW H W).cell? ⟨b', o, none⟩ = some x → (offW H W').cell? ⟨b', o, none⟩ = some x := fun b' o x hne hc => by
  have hH : ¬ H b' := off_cellout hc
  have h1 := off_cell hc
  rw [off_to (a := ⟨b', o, none⟩) hH, World.cell?_of_block (w := W) (w' := W') (a := ⟨b', o, none⟩) (hg b' hne)]
  exact h1
 obtain ⟨⟨q, c, hv, hx, hc⟩, ⟨qa, ca, ha, hla, hca⟩⟩ := h
 refine ⟨⟨q, c, hv, hx, fun hl => ?_⟩, ⟨qa, ca, ha, hla, fun hl => ?_⟩⟩
 ·obtain ⟨b', o, hq, hcell⟩ := hc hl
  have hne := six_apartV hk (off_cell (hcell 0 hl))
  exact ⟨b', o, hq, fun j hj => hh _ _ _ hne (hcell j hj)⟩
 ·obtain ⟨b', o, hq, hcell⟩ := hca hl
  obtain ⟨g0, g1⟩ := hcell 0 hl
  have hne := six_apartA hk (off_cell g0) (off_cell g1)
  exact ⟨b', o, hq, fun j hj => ⟨hh _ _ _ hne (hcell j hj).1, hh _ _ _ hne (hcell j hj).2⟩⟩
theorem six_keeps (W : World) (b : Nat) (x0 x1 x2 x3 x4 x5 : Value) : Keeps W.heap.size W ((((((W.setCell ⟨b, 0, none⟩ x0).setCell ⟨b, 1, none⟩ x1).setCell ⟨b, 2, none⟩ x2).setCell ⟨b, 3, none⟩ x3).setCell ⟨b, 4, none⟩ x4).setCell ⟨b, 5, none⟩ x5) (fun k => k = b) (fun k => k = b) :=
 (((((((Keeps.refl _ W (fun k => k = b)).putC rfl 0 _).putC rfl 1 _).putC rfl 2 _).putC rfl 3 _).putC rfl 4 _).putC rfl 5 _)
theorem six_else (W : World) (b : Nat) (x0 x1 x2 x3 x4 x5 : Value) (k : Nat) (hne : k ≠ b) : ((((((W.setCell ⟨b, 0, none⟩ x0).setCell ⟨b, 1, none⟩ x1).setCell ⟨b, 2, none⟩ x2).setCell ⟨b, 3, none⟩ x3).setCell ⟨b, 4, none⟩ x4).setCell ⟨b, 5, none⟩ x5).heap[k]? = W.heap[k]? := by
 rw [setCell_heap_other hne, setCell_heap_other hne, setCell_heap_other hne, setCell_heap_other hne, setCell_heap_other hne, setCell_heap_other hne]
structure KnIn (w0 w W : World) (lb : Nat) (m0 m : LgM) (c : Cf) (d : Dw) (q0 q : Lq) (s : Lg) (ra rb : Nat) (Q : Pd) (vv va : Value) : Prop where
 box : InB w W w0.heap.size lb m0 m c d q0 q rb (cells6 Q vv va) 41
 out : Blk W ra #[.int .i64 0, .bool false, .int .i64 0, .slice none 0 0, .slice none 0 0, .string (S [])] 41
 sepA : ¬ m.H lb ra
 newA : w.heap.size ≤ ra
 pdu : PduAt (offW (m.H lb) W) Q vv va
 low : Below w0.heap.size w0 W
 sim : SimQ c q s
 ok : QOk c q
 ne : ra ≠ rb
section
variable {w0 w W W' : World} {lb : Nat} {m0 m m' : LgM} {c : Cf} {d : Dw} {q0 q q' : Lq} {s s' : Lg} {ra rb : Nat} {Q : Pd} {vv va : Value}
theorem KnIn.later (h : KnIn w0 w W lb m0 m c d q0 q s ra rb Q vv va) (hb : Below W.heap.size W W') : KnIn w0 w W' lb m0 m c d q0 q s ra rb Q vv va :=
 ⟨h.box.later hb, h.out.later hb, h.sepA, h.newA, h.pdu.later (Keeps.of hb _).off', below_then h.low hb, h.sim, h.ok, h.ne⟩
theorem KnIn.step (h : KnIn w0 w W lb m0 m c d q0 q s ra rb Q vv va) (hl : LogIn W' w0.heap.size lb m' c d q') (hk : Keeps W.heap.size W W' (m.H lb) (m'.H lb)) (e : m'.mv = m.mv ∧ m'.vt = m.vt ∧ m'.vu = m.vu ∧ q'.mine = q.mine) (hs : SimQ c q' s') (ho : QOk c q') : KnIn w0 w W' lb m0 m' c d q0 q' s' ra rb Q vv va := by
 have hsA : ¬ m'.H lb ra := fun hh => by
  rcases hk.old ra hh with h1 | h1
  ·exact h.sepA h1
  ·have := h.out.lt; omega
 exact ⟨h.box.step hl hk e, (hk.block ra h.out.lt h.sepA).trans h.out, hsA, h.newA, h.pdu.later hk.off', Keeps.from h.low hk (fun k hh => (h.box.log.ge k hh).1), hs, ho, h.ne⟩
theorem KnIn.lay (h : KnIn w0 w W lb m0 m c d q0 q s ra rb Q vv va) {R : Pd} {p1 p2 : Option Addr} {c1 c2 : Nat} (hp : PduAt (offW (m.H lb) W) R (.slice p1 R.h.vs.length c1) (.slice p2 R.a.length c2)) :
  KnIn w0 w ((((((W.setCell ⟨rb, 0, none⟩ (.int .i64 R.h.op)).setCell ⟨rb, 1, none⟩ (.bool R.h.now)).setCell ⟨rb, 2, none⟩ (.int .i64 R.h.fl)).setCell ⟨rb, 3, none⟩ (.slice p1 R.h.vs.length c1)).setCell ⟨rb, 4, none⟩ (.slice p2 R.a.length c2)).setCell ⟨rb, 5, none⟩ (.string (S R.d))) lb m0 m c d q0 q s ra rb R (.slice p1 R.h.vs.length c1) (.slice p2 R.a.length c2) := by
 have hk := six_keeps W rb (.int .i64 R.h.op) (.bool R.h.now) (.int .i64 R.h.fl) (.slice p1 R.h.vs.length c1) (.slice p2 R.a.length c2) (.string (S R.d))
 have he := six_else W rb (.int .i64 R.h.op) (.bool R.h.now) (.int .i64 R.h.fl) (.slice p1 R.h.vs.length c1) (.slice p2 R.a.length c2) (.string (S R.d))
 obtain ⟨pv, cv, rfl⟩ : ∃ p c, vv = .slice p Q.h.vs.length c := by obtain ⟨p, c, h, _⟩ := h.pdu.v; exact ⟨p, c, h⟩
 obtain ⟨pa, ca, rfl⟩ := h.pdu.a.form
 have hB := h.box.rbk
 unfold cells6 at hB
 have hset := (((((hB.set 0 (.int .i64 R.h.op)).set 1 (.bool R.h.now)).set 2 (.int .i64 R.h.fl)).set 3 (.slice p1 R.h.vs.length c1)).set 4 (.slice p2 R.a.length c2)).set 5 (.string (S R.d))
 have hge : w0.heap.size ≤ w.heap.size := by
  have h1 := h.box.start.base.1
  have h2 := (h.box.start.blk).lt
  omega
 exact ⟨h.box.laid hk hset, (he ra h.ne).trans h.out, h.sepA, h.newA, hp.laid6 hB he, Keeps.from h.low hk (fun k e => by subst e; have := h.box.new; omega), h.sim, h.ok, h.ne⟩
end
def RetKnock (w0 w : World) (lb : Nat) (m : LgM) (c : Cf) (d : Dw) (r : (Pd × Bool) × Lg) (e : Ending) (w' : World) : Prop :=
 ∃ m' q' vv va, e = .returned (.tuple #[pduV r.1.1 vv va, .bool r.1.2]) ∧ PduAt (offW (m'.H lb) w') r.1.1 vv va ∧ LS w0 w' lb m' c d q' r.2 ∧ Keeps w.heap.size w w' (m.H lb) (m'.H lb)
section
variable {w0 w W : World} {lb : Nat} {m0 m : LgM} {c : Cf} {d : Dw} {q0 q : Lq} {s : Lg} {ra rb : Nat} {Q : Pd}
theorem KnIn.back {p1 p2 : Option Addr} {c1 c2 : Nat} (h : KnIn w0 w W lb m0 m c d q0 q s ra rb Q (.slice p1 Q.h.vs.length c1) (.slice p2 Q.a.length c2)) (b : Bool) {r : (Pd × Bool) × Lg} (hr : r = ((Q, b), s)) :
  RetKnock w0 w lb m0 c d r (.returned (.tuple #[pduV Q (.slice p1 Q.h.vs.length c1) (.slice p2 Q.a.length c2), .bool b])) ((((((W.setCell ⟨ra, 0, none⟩ (.int .i64 Q.h.op)).setCell ⟨ra, 1, none⟩ (.bool Q.h.now)).setCell ⟨ra, 2, none⟩ (.int .i64 Q.h.fl)).setCell ⟨ra, 3, none⟩ (.slice p1 Q.h.vs.length c1)).setCell ⟨ra, 4, none⟩ (.slice p2 Q.a.length c2)).setCell ⟨ra, 5, none⟩ (.string (S Q.d))) := by
 subst hr
 have hk := six_keeps W ra (.int .i64 Q.h.op) (.bool Q.h.now) (.int .i64 Q.h.fl) (.slice p1 Q.h.vs.length c1) (.slice p2 Q.a.length c2) (.string (S Q.d))
 have he := six_else W ra (.int .i64 Q.h.op) (.bool Q.h.now) (.int .i64 Q.h.fl) (.slice p1 Q.h.vs.length c1) (.slice p2 Q.a.length c2) (.string (S Q.d))
 have hset := (((((h.out.set 0 (.int .i64 Q.h.op)).set 1 (.bool Q.h.now)).set 2 (.int .i64 Q.h.fl)).set 3 (.slice p1 Q.h.vs.length c1)).set 4 (.slice p2 Q.a.length c2)).set 5 (.string (S Q.d))
 have hA : InB w W w0.heap.size lb m0 m c d q0 q ra _ _ := ⟨h.box.start, h.out, h.box.log, h.box.keep, h.sepA, h.newA, h.box.same⟩
 have hL := hA.laid hk hset
 have hge : w0.heap.size ≤ w.heap.size := by
  have h1 := h.box.start.base.1
  have h2 := (h.box.start.blk).lt
  omega
 exact ⟨m, q, _, _, rfl, h.pdu.laid6 h.out he, ⟨Keeps.from h.low hk (fun k e => by subst e; have := h.newA; omega), hL.log, h.sim, h.ok⟩, hL.keep⟩
end
section
variable {w0 w : World} {lb : Nat} {m : LgM} {c : Cf} {d : Dw} {q : Lq} {s : Lg}
set_option maxRecDepth 100000 in
set_option maxHeartbeats 4000000 in
theorem knock_any (l : List Pd) (v : Value) (h : LS w0 w lb m c d q s) (hv : PdusV (offW (m.H lb) w) v l) (hf : ∀ p ∈ l, FitP p) (hl : l.length ≤ 140737488355328) (hE : EnvL w0) (hc : CfOk c) (hd : 0 ≤ d.id ∧ d.id ≤ 255 ∧ d.ch.length ≤ 100) :
  Calls Tryz.prog 28 #[.pointer (some ⟨lb, 0, none⟩), v] w (RetKnock w0 w lb m c d (knockL c d s pd0 l)) := by
 obtain ⟨pl, cl, rfl⟩ := hv.form
 obtain ⟨wA, hwA⟩ : ∃ wA, w.alloc (.cells #[.int .i64 0, .bool false, .int .i64 0, .slice none 0 0, .slice none 0 0, .string (S [])] 41) = wA := ⟨_, rfl⟩
 have bA : Below w.heap.size w wA := by rw [← hwA]; exact (Below.refl _ _).alloc (Nat.le_refl _) _
 have kA : Blk wA w.heap.size #[.int .i64 0, .bool false, .int .i64 0, .slice none 0 0, .slice none 0 0, .string (S [])] 41 := by rw [← hwA]; exact Blk.new w _ _
 obtain ⟨wB, hwB⟩ : ∃ wB, wA.alloc (.cells #[.int .i64 0, .bool false, .int .i64 0, .slice none 0 0, .slice none 0 0, .string (S [])] 41) = wB := ⟨_, rfl⟩
 have bB : Below wA.heap.size wA wB := by rw [← hwB]; exact (Below.refl _ _).alloc (Nat.le_refl _) _
 have kB : Blk wB wA.heap.size #[.int .i64 0, .bool false, .int .i64 0, .slice none 0 0, .slice none 0 0, .string (S [])] 41 := by rw [← hwB]; exact Blk.new wA _ _
 have hsA : ¬ m.H lb w.heap.size := fun hh => by have := (h.log.ge _ hh).2; omega
 have hne : w.heap.size ≠ wA.heap.size := by have := kA.lt; omega
 obtain ⟨ra, hra⟩ : ∃ ra, w.heap.size = ra := ⟨_, rfl⟩
 obtain ⟨rb, hrb⟩ : ∃ rb, wA.heap.size = rb := ⟨_, rfl⟩
 have hK : KnIn w0 w wB lb m m c d q q s ra rb pd0 (.slice none 0 0) (.slice none 0 0) := by
  rw [← hra, ← hrb]
  exact ⟨InB.begin h.log (below_then bA bB) kB bA.size, kA.later bB, hsA, Nat.le_refl _, pdu0_at _, below_then h.low (below_then bA bB), h.sim, h.ok, hne⟩
 have HK := Lib.hid hK
 have HV := Lib.hid hv
 have Hf := Lib.hid hf
 have HE := Lib.hid hE
 have HC := Lib.hid hc
 have HD := Lib.hid hd
 have HM := Lib.hid ((newN_is (newN_own hc)).1)
 obtain ⟨R, hR⟩ : ∃ R, knockL c d s pd0 l = R := ⟨_, rfl⟩
 rw [hR]
 have HR := Lib.hid hR
 clear h hv hf hE hc hd bA kA bB kB hsA hne hK hR
 go_enter Tryz.func28, Tryz.ntmps28
 go_wp2_with fail
 try rw [hwA]
 go_loopw [13] (fun i wr => ∃ (j : Nat) (m' : LgM) (q' : Lq) (s' : Lg) (Q : Pd) (p1 p2 : Option Addr) (c1 c2 : Nat), i = .int .i64 j ∧ j ≤ l.length ∧ KnIn w0 w wr lb m m' c d q q' s' ra rb Q (.slice p1 Q.h.vs.length c1) (.slice p2 Q.a.length c2) ∧ knockL c d s' Q (l.drop j) = R) (fun i _ => l.length - (intOf i).toNat)
 case atStart => exact ⟨0, m, q, s, pd0, none, none, 0, 0, rfl, Nat.zero_le _, HK.out, HR.out⟩
 case round =>
  obtain ⟨j, m', q', s', Q, p1, p2, c1, c2, rfl, hj, hk, hR⟩ := hrel
  by_cases hlt : j < l.length
  ·obtain ⟨b, o, rfl, a1, d1, a2, d2, hP, e0, e1, e2, e3, e4, e5⟩ := (HV.out.later hk.box.keep.off').cellsO hlt
   have hdrop : l.drop j = l[j] :: l.drop (j + 1) := List.drop_eq_getElem_cons hlt
   have hfit := Hf.out l[j] (List.getElem_mem hlt)
   rw [hdrop] at hR
   generalize hp : l[j] = p at *
   have hb1 := (Below.refl wr.heap.size wr).alloc (Nat.le_refl _) (.cells #[.int .i64 p.h.op, .bool p.h.now, .int .i64 p.h.fl, .slice a1 p.h.vs.length d1, .slice a2 p.a.length d2, .string (S p.d)] 41)
   have hk1 := Blk.new wr #[.int .i64 p.h.op, .bool p.h.now, .int .i64 p.h.fl, .slice a1 p.h.vs.length d1, .slice a2 p.a.length d2, .string (S p.d)] 41
   generalize hW1 : wr.alloc (.cells #[.int .i64 p.h.op, .bool p.h.now, .int .i64 p.h.fl, .slice a1 p.h.vs.length d1, .slice a2 p.a.length d2, .string (S p.d)] 41) = W1 at hb1 hk1
   have hK1 := hk.later hb1
   have hxv : ∀ x ∈ p.h.vs, x < 18446744073709551616 := by obtain ⟨_, _, _, hx, _⟩ := hP.v; exact hx
   have T := loginTake_any p _ _ hK1.box.log (hP.later (Keeps.of hb1 _).off') (HE.out.later (below_mask hK1.low (fun k hh => (hK1.box.log.ge k hh).1))) hfit HC.out HM.out hK1.ok HD.out
   obtain ⟨f1, f2⟩ := take_sim (d := d) (p := p) HC.out hK1.sim
   have hok2 := take_ok (d := d) (p := p) HC.out hxv hK1.ok
   obtain ⟨⟨⟨R1, n⟩, q2⟩, hT⟩ : ∃ r, takeQ c d q' p = r := ⟨_, rfl⟩
   rw [hT] at T f1 f2 hok2
   unfold RetLTake at T
   simp only at T f1 f2 hok2
   obtain ⟨⟨⟨R2, n2⟩, s2⟩, hTL⟩ : ∃ r, takeL c d s' p = r := ⟨_, rfl⟩
   rw [hTL] at f1 f2
   simp only at f2
   obtain ⟨rfl, rfl⟩ : R1 = R2 ∧ n = n2 := by simpa using f1
   have hR2 : (if n ≠ 0 then ((Q, false), s2) else knockL c d s2 R1 (l.drop (j + 1))) = R := by
    rw [← hR, knockL, hTL]
   unfold pduV at T
   have T := Lib.hid T
   have HK1 := Lib.hid hK1
   have HB1 := Lib.hid hk1
   have HR2 := Lib.hid hR2
   have HS2 := Lib.hid f2
   have HO2 := Lib.hid hok2
   obtain ⟨k0, k1, k2, k3, k4, k5⟩ := hk1.six
   clear hk hP hdrop hfit hp hb1 hk1 hK1 hxv f1 f2 hok2 hT hTL hR hR2
   go_wp2_with fail
   refine T.out.mono ?_
   rintro e w2 ⟨m2, vv2, va2, ev, rfl, hP2, herr, hL2, hK2, hsame⟩
   have hKn := HK1.out.step hL2 hK2 hsame HS2.out HO2.out
   obtain ⟨p3, c3, rfl⟩ : ∃ p c, vv2 = .slice p R1.h.vs.length c := by obtain ⟨p, c, h, _⟩ := hP2.v; exact ⟨p, c, h⟩
   obtain ⟨p4, c4, rfl⟩ := hP2.a.form
   have hb3 := (Below.refl w2.heap.size w2).alloc (Nat.le_refl _) (.cells #[.int .i64 R1.h.op, .bool R1.h.now, .int .i64 R1.h.fl, .slice p3 R1.h.vs.length c3, .slice p4 R1.a.length c4, .string (S R1.d)] 41)
   have hk3 := Blk.new w2 #[.int .i64 R1.h.op, .bool R1.h.now, .int .i64 R1.h.fl, .slice p3 R1.h.vs.length c3, .slice p4 R1.a.length c4, .string (S R1.d)] 41
   generalize hW3 : w2.alloc (.cells #[.int .i64 R1.h.op, .bool R1.h.now, .int .i64 R1.h.fl, .slice p3 R1.h.vs.length c3, .slice p4 R1.a.length c4, .string (S R1.d)] 41) = W3 at hb3 hk3
   have hKn3 := hKn.later hb3
   have hP3 := hP2.later (Keeps.of hb3 _).off'
   have hrbk := hKn3.box.rbk
   unfold cells6 at hrbk
   obtain ⟨r0, r1, r2, r3, r4, r5⟩ := hrbk.six
   have HKn3 := Lib.hid hKn3
   have HP3 := Lib.hid hP3
   clear k0 k1 k2 k3 k4 k5 hP2 hL2 hK2 hsame hKn hb3 hKn3 hP3 T HK1 HB1 HS2 HO2
   by_cases hn : n = 0
   ·subst hn
    obtain rfl := herr.zero
    have f0 := hrbk.frozen 0
    have f1 := hrbk.frozen 1
    have f2 := hrbk.frozen 2
    have f3 := hrbk.frozen 3
    have f4 := hrbk.frozen 4
    have f5 := hrbk.frozen 5
    obtain ⟨x0, x1, x2, x3, x4, x5⟩ := hk3.six
    have hr := HR2.out
    rw [if_neg (by simp)] at hr
    have HRR := Lib.hid hr
    clear hr hrbk hk3 herr
    go_wp2_with fail
    go_roundw
    case rel => exact ⟨j + 1, m2, q2, s2, R1, p3, p4, c3, c4, by go_num, by omega, HKn3.out.lay HP3.out, HRR.out⟩
    case measure => simp [intOf]; omega
   ·obtain ⟨te, xe, rfl⟩ := herr.iface hn
    have ho := HKn3.out.out
    have f0 := ho.frozen 0
    have f1 := ho.frozen 1
    have f2 := ho.frozen 2
    have f3 := ho.frozen 3
    have f4 := ho.frozen 4
    have f5 := ho.frozen 5
    obtain ⟨y0, y1, y2, y3, y4, y5⟩ := ho.six
    have hr := HR2.out
    rw [if_pos hn] at hr
    have HRR := Lib.hid hr
    obtain ⟨wz, hwz⟩ : ∃ wz, ((((((W3.setCell ⟨ra, 0, none⟩ (.int .i64 Q.h.op)).setCell ⟨ra, 1, none⟩ (.bool Q.h.now)).setCell ⟨ra, 2, none⟩ (.int .i64 Q.h.fl)).setCell ⟨ra, 3, none⟩ (.slice p1 Q.h.vs.length c1)).setCell ⟨ra, 4, none⟩ (.slice p2 Q.a.length c2)).setCell ⟨ra, 5, none⟩ (.string (S Q.d))) = wz := ⟨_, rfl⟩
    have hbz := (six_stored (.int .i64 Q.h.op) (.bool Q.h.now) (.int .i64 Q.h.fl) (.slice p1 Q.h.vs.length c1) (.slice p2 Q.a.length c2) (.string (S Q.d)) ho (Nat.zero_le _) (Below.refl 0 W3)).1
    have hback := HKn3.out.back false HRR.out.symm
    rw [hwz] at hbz hback
    obtain ⟨z0, z1, z2, z3, z4, z5⟩ := hbz.six
    have Hback := Lib.hid hback
    clear hr hrbk hk3 herr hn ho hbz hback
    go_wp2_with fail
    refine bodyPost_ret (v := .tuple #[.agg #[.int .i64 Q.h.op, .bool Q.h.now, .int .i64 Q.h.fl, .slice p1 Q.h.vs.length c1, .slice p2 Q.a.length c2, .string (S Q.d)], .bool false]) (by simp [results, Tryz.results28, go_sem, z0, z1, z2, z3, z4, z5]) rfl ?_
    exact Hback.out
  ·obtain rfl : j = l.length := by omega
   have hr := hR
   rw [List.drop_length] at hr
   have hr2 : R = ((Q, true), s') := hr.symm
   have ho := hk.out
   have hrbk := hk.box.rbk
   unfold cells6 at hrbk
   obtain ⟨r0, r1, r2, r3, r4, r5⟩ := hrbk.six
   have f0 := ho.frozen 0
   have f1 := ho.frozen 1
   have f2 := ho.frozen 2
   have f3 := ho.frozen 3
   have f4 := ho.frozen 4
   have f5 := ho.frozen 5
   obtain ⟨y0, y1, y2, y3, y4, y5⟩ := ho.six
   obtain ⟨wz, hwz⟩ : ∃ wz, ((((((wr.setCell ⟨ra, 0, none⟩ (.int .i64 Q.h.op)).setCell ⟨ra, 1, none⟩ (.bool Q.h.now)).setCell ⟨ra, 2, none⟩ (.int .i64 Q.h.fl)).setCell ⟨ra, 3, none⟩ (.slice p1 Q.h.vs.length c1)).setCell ⟨ra, 4, none⟩ (.slice p2 Q.a.length c2)).setCell ⟨ra, 5, none⟩ (.string (S Q.d))) = wz := ⟨_, rfl⟩
   have hbz := (six_stored (.int .i64 Q.h.op) (.bool Q.h.now) (.int .i64 Q.h.fl) (.slice p1 Q.h.vs.length c1) (.slice p2 Q.a.length c2) (.string (S Q.d)) ho (Nat.zero_le _) (Below.refl 0 wr)).1
   have hback := hk.back true hr2
   rw [hwz] at hbz hback
   obtain ⟨z0, z1, z2, z3, z4, z5⟩ := hbz.six
   have Hback := Lib.hid hback
   clear hr hr2 hR hrbk hk ho hbz hback
   go_wp2_with fail
   refine bodyPost_ret (v := .tuple #[.agg #[.int .i64 Q.h.op, .bool Q.h.now, .int .i64 Q.h.fl, .slice p1 Q.h.vs.length c1, .slice p2 Q.a.length c2, .string (S Q.d)], .bool true]) (by simp [results, Tryz.results28, go_sem, z0, z1, z2, z3, z4, z5]) rfl ?_
   exact Hback.out
end
end Go.Proofs.YtmkebjdmkkjloaaGreatDoor
namespace Go.Proofs.YtmkebjdmkkjloaaGreatDoor
theorem u64_and_nat (a b : Nat) (ha : a < 18446744073709551616) (hb : b < 9223372036854775808) : bits .and .u64 (a : Int) (b : Int) = ((a &&& b : Nat) : Int) := by
 have hle : a &&& b ≤ b := Nat.and_le_right
 show IntKind.u64.wrap ((BitVec.ofInt 64 (a : Int) &&& BitVec.ofInt 64 (b : Int)).toNat : Int) = _
 rw [BitVec.toNat_and, ofInt_i64 a (by omega), ofInt_i64 b (by omega), IntKind.wrap_u64]
 omega
theorem u64_mask (n k m : Nat) (hn : n < 18446744073709551616) (hm : m = 2 ^ k - 1) (hk : m < 9223372036854775808) : bits .and .u64 (n : Int) (m : Int) = ((n % 2 ^ k : Nat) : Int) := by
 rw [u64_and_nat n m hn hk, hm, Nat.and_two_pow_sub_one_eq_mod]
end Go.Proofs.YtmkebjdmkkjloaaGreatDoor
namespace Go.Proofs.YtmkebjdmkkjloaaGreatDoor
open Go.RowKit
set_option linter.unusedVariables false
theorem pdus_one {H : Nat → Prop} {w : World} {p : Pd} {vv va : Value} {t : TypeId} (hp : PduAt (offW H w) p vv va) (hn : ¬ H w.heap.size) :
  PdusV (offW H (w.alloc (.cells #[.int .i64 p.h.op, .bool p.h.now, .int .i64 p.h.fl, vv, va, .string (S p.d)] t))) (.slice (some ⟨w.heap.size, 0, none⟩) 1 1) [p] := by
 have hb : Below w.heap.size w (w.alloc (.cells #[.int .i64 p.h.op, .bool p.h.now, .int .i64 p.h.fl, vv, va, .string (S p.d)] t)) := (Below.refl _ _).alloc (Nat.le_refl _) _
 have hk := Blk.new w #[.int .i64 p.h.op, .bool p.h.now, .int .i64 p.h.fl, vv, va, .string (S p.d)] t
 have hP := hp.later (Keeps.of hb H).off'
 refine ⟨_, _, rfl, fun _ => ⟨w.heap.size, 0, rfl, fun j hj => ?_⟩⟩
 obtain rfl : j = 0 := by simp at hj; exact hj
 have e : ∀ i, (offW H (w.alloc (.cells #[.int .i64 p.h.op, .bool p.h.now, .int .i64 p.h.fl, vv, va, .string (S p.d)] t))).cell? ⟨w.heap.size, i, none⟩ = (w.alloc (.cells #[.int .i64 p.h.op, .bool p.h.now, .int .i64 p.h.fl, vv, va, .string (S p.d)] t)).cell? ⟨w.heap.size, i, none⟩ := fun i => off_to (a := ⟨w.heap.size, i, none⟩) hn
 exact ⟨vv, va, hP, by rw [e]; exact hk.cell 0, by rw [e]; exact hk.cell 1, by rw [e]; exact hk.cell 2, by rw [e]; exact hk.cell 3, by rw [e]; exact hk.cell 4, by rw [e]; exact hk.cell 5⟩
end Go.Proofs.YtmkebjdmkkjloaaGreatDoor
namespace Go.Proofs.YtmkebjdmkkjloaaGreatDoor
open Go.RowKit
theorem wf_u64 {n : Int} (h : (Lit.int .u64 n).wf = true) : ∃ k : Nat, n = k ∧ k < 2 ^ 64 := by
 have h' : 0 ≤ n ∧ n ≤ 18446744073709551615 := by simpa [Lit.wf, IntKind.min, IntKind.max, IntKind.signed, IntKind.bits] using h
 exact ⟨n.toNat, by omega, by omega⟩
theorem u64_wrap (a : Int) : IntKind.u64.wrap a = a % 2 ^ 64 := by
 have s : IntKind.u64.signed = false := rfl
 unfold IntKind.wrap
 simp only [s, Bool.false_and, Bool.false_eq_true, if_false]
 rfl
def pickI (a : Int) (n : Nat) : Nat := (a % 2 ^ 64).toNat % n
theorem pickI_lt (a : Int) (n : Nat) (hn : 0 < n) : pickI a n < n := Nat.mod_lt _ hn
theorem pick_walk (a : Int) (n : Nat) (hn : 0 < n) (h : n ≤ 4611686018427387904) : wrap64 ((IntKind.u64.wrap a).tmod (n : Int)) = ((pickI a n : Nat) : Int) := by
 have h0 : 0 ≤ a % 2 ^ 64 := Int.emod_nonneg _ (by decide)
 have e : (IntKind.u64.wrap a).tmod (n : Int) = ((pickI a n : Nat) : Int) := by
  rw [u64_wrap, Int.tmod_eq_emod_of_nonneg h0]
  unfold pickI
  generalize a % 2 ^ 64 = m at h0
  obtain ⟨k, rfl⟩ := Int.eq_ofNat_of_zero_le h0
  rw [Int.toNat_natCast, Int.natCast_emod]
 have hlt := pickI_lt a n hn
 rw [e]
 exact IntWalk.wrap64_in _ ⟨by omega, by omega⟩
theorem pick_any (a : Int) (n : Nat) (w : World) (hn : 0 < n) (h : n ≤ 4611686018427387904) :
  Calls Tryz.prog 22 #[.int .i64 a, .int .i64 n] w fun e w' => e = .returned (.int .i64 (pickI a n : Nat)) ∧ w = w' := by
 have hp := pick_walk a n hn h
 have hn2 : (n : Int) ≠ 0 := by omega
 go_enter Tryz.func22, Tryz.ntmps22
 go_wp2_with fail
 go_ret
 exact ⟨ret_int hp, rfl⟩
end Go.Proofs.YtmkebjdmkkjloaaGreatDoor
namespace Go.Proofs.YtmkebjdmkkjloaaGreatDoor
open Go.RowKit
set_option linter.unusedVariables false
def idsA : Pd := ⟨reqH 4 0 0 9 0 5 1 77 0, [], prBytes hello⟩
def idsS : Lg := (takeL conf0 dw0 (lg0 conf0) idsA).2
theorem idsA_took : Took conf0 dw0 (lg0 conf0) idsA := took (req_right (by decide) (by decide) (by decide) (by decide) (by decide) (by decide) (by decide)) rfl (by rw [bytes_hello]; decide) rfl rfl
theorem idsS_is : idsS.don = false ∧ idsS.fld = false ∧ idsS.fst = some (reqH 4 0 0 9 0 5 1 77 0) ∧ idsS.stg = 1 ∧ idsS.came = [] ∧ idsS.bgn = true ∧ idsS.knw = true ∧ idsS.mine = [] := by
 refine ⟨?_, ?_, ?_, ?_, ?_, ?_, ?_, ?_⟩ <;> kernel_rfl
theorem ids_plain {i k : Nat} (hi : i < 281474976710656) (hk : k < 65536) :
  let p : Pd := ⟨reqH 135 0 0 i 0 0 k 0 0, [], []⟩
  Took conf0 dw0 idsS p ∧ (if i = 9 ∧ k = 1 then (asksL conf0 dw0 p idsS).1.2.2 = -1 ∧ (asksL conf0 dw0 p idsS).2.don = true else (asksL conf0 dw0 p idsS).1.2.2 = 0) := by
 obtain ⟨s1, s2, s3, s4, s5, s6, s7, s8⟩ := idsS_is
 intro p
 refine ⟨took (req_right (by decide) (by decide) hi (by decide) (by decide) hk (by decide)) rfl (by simp) s1 s2, ?_⟩
 obtain ⟨v1, v2, v3, v4, v5, v6⟩ := hv_req 135 0 0 i 0 0 k 0 0
 obtain ⟨u1, u2, u3, u4, u5, u6⟩ := hv_req 4 0 0 9 0 5 1 77 0
 have t1 : tB (reqH 135 0 0 i 0 0 k 0 0) = true := by show decide ((135 : Int) / 128 = 1) = true; decide
 have t2 : cB (reqH 135 0 0 i 0 0 k 0 0) = false := by show decide ((135 : Int) / 64 % 2 = 1) = false; decide
 have t3 : csgI (reqH 135 0 0 i 0 0 k 0 0) = 1 := by show (135 : Int) / 4 % 4 = 1; decide
 have t4 : nsgI (reqH 135 0 0 i 0 0 k 0 0) = 3 := by show (135 : Int) % 4 = 3; decide
 have hh : headL (decide (conf0.us ≠ [])) idsS (reqH 135 0 0 i 0 0 k 0 0) = if i = 9 ∧ k = 1 then -1 else 0 := by
  unfold headL
  rw [v1, v2, t1, t2, t3, t4, s3, s4]
  simp only
  rw [v3, v4, u3, u4, if_neg (by decide), if_neg (by decide), if_neg (by decide), if_neg (by decide)]
  by_cases h : i = 9 ∧ k = 1
  ·rw [if_neg (by simp [h]), if_pos h]
  ·rw [if_pos (by omega), if_neg h]
 by_cases h : i = 9 ∧ k = 1
 ·rw [if_pos h] at hh ⊢
  have hw := asks_whole (c := conf0) (d := dw0) (s := idsS) (h := reqH 135 0 0 i 0 0 k 0 0) (l := []) hh t2 s5 ok_nil (by simp) (by decide)
  rw [show (⟨reqH 135 0 0 i 0 0 k 0 0, [], prBytes []⟩ : Pd) = p from rfl] at hw
  have hf : firstL conf0 (reqH 135 0 0 i 0 0 k 0 0) idsS = idsS := by unfold firstL; rw [s3]
  rw [hf, text_plain (fun q hq => absurd hq List.not_mem_nil) s6, ansN_go (by rfl) (by rfl)] at hw
  simp only at hw
  rw [if_neg (by simp)] at hw
  rw [hw]
  unfold doneL
  simp only
  rw [if_neg (by simp), if_pos ⟨t1, s7⟩, t4]
  exact ⟨rfl, rfl⟩
 ·rw [if_neg h] at hh ⊢
  unfold asksL
  rw [if_pos (by rw [hh]; decide)]
  exact hh
def optP (b : Bool) (k v : List UInt8) : List Pr := if b = true then [⟨k, v⟩] else []
def namesP (b1 b2 b3 : Bool) (name kind tgn : List UInt8) : List Pr := optP b1 kIni name ++ optP b2 kSes kind ++ optP b3 nmK tgn
def nameW (b1 b2 b3 : Bool) (name kind tgn : List UInt8) : Int :=
 if b1 = false ∨ name = [] then 7
 else if b2 = true ∧ kind = vDis then -1
 else if b2 = true ∧ kind ≠ vNor then 9
 else if b3 = false ∨ tgn = [] then 7
 else if hasT conf0.ts tgn = false then 3
 else -1
theorem names_find (b1 b2 b3 : Bool) (name kind tgn : List UInt8) :
  prFind (namesP b1 b2 b3 name kind tgn) kIni = (if b1 = true then some name else none) ∧ prFind (namesP b1 b2 b3 name kind tgn) kSes = (if b2 = true then some kind else none) ∧ prFind (namesP b1 b2 b3 name kind tgn) nmK = (if b3 = true then some tgn else none) := by
 have h1 : kIni ≠ kSes := by decide
 have h2 : kIni ≠ nmK := by decide
 have h3 : kSes ≠ nmK := by decide
 cases b1 <;> cases b2 <;> cases b3 <;> simp [namesP, optP, prFind, h1, h2, h3, h1.symm, h2.symm, h3.symm]
theorem names_begin (b1 b2 b3 : Bool) (name kind tgn : List UInt8) :
  (beginL conf0 (namesP b1 b2 b3 name kind tgn)).1 = nameW b1 b2 b3 name kind tgn ∧ (nameW b1 b2 b3 name kind tgn = -1 →
   (beginL conf0 (namesP b1 b2 b3 name kind tgn)).2 = if b2 = true ∧ kind = vDis then ([], true) else (tgn, false)) := by
 obtain ⟨f1, f2, f3⟩ := names_find b1 b2 b3 name kind tgn
 have hd : vDis ≠ ([] : List UInt8) := by decide
 unfold beginL nameW
 rw [f1, f2, f3]
 by_cases c1 : b1 = false ∨ name = []
 ·have hx : (if b1 = true then some name else none).getD [] = [] := by rcases c1 with h | h <;> rw [h] <;> cases b1 <;> rfl
  rw [if_pos c1, if_pos hx]
  exact ⟨rfl, fun h => absurd h (by decide)⟩
 have hb1 : b1 = true := by cases b1 <;> simp_all
 rw [if_neg c1, if_neg (by rw [hb1]; simp; exact fun h => c1 (.inr h))]
 by_cases c2 : b2 = true ∧ kind = vDis
 ·rw [if_pos c2, if_pos (by rw [if_pos c2.1]; simp [c2.2]), if_pos c2]
  exact ⟨rfl, fun _ => rfl⟩
 rw [if_neg c2, if_neg (by
  cases b2 with
  | true => simp; exact fun h => c2 ⟨rfl, h⟩
  | false => simp; exact hd)]
 by_cases c3 : b2 = true ∧ kind ≠ vNor
 ·rw [if_pos c3, if_pos (by simp [c3.1]; exact c3.2)]
  exact ⟨rfl, fun h => absurd h (by decide)⟩
 rw [if_neg c3, if_neg (by
  cases b2 with
  | true => simp; exact Classical.not_not.1 (fun h => c3 ⟨rfl, h⟩)
  | false => simp)]
 by_cases c4 : b3 = false ∨ tgn = []
 ·have hx : (if b3 = true then some tgn else none).getD [] = [] := by rcases c4 with h | h <;> rw [h] <;> cases b3 <;> rfl
  rw [if_pos c4, if_pos hx]
  exact ⟨rfl, fun h => absurd h (by decide)⟩
 have hb3 : b3 = true := by cases b3 <;> simp_all
 rw [if_neg c4, if_neg (by rw [hb3]; simp; exact fun h => c4 (.inr h)), if_pos hb3]
 simp only [Option.getD_some]
 by_cases c5 : hasT conf0.ts tgn = false
 ·rw [if_pos c5, if_pos c5]
  exact ⟨rfl, fun h => absurd h (by decide)⟩
 ·rw [if_neg c5, if_neg c5, if_neg c2]
  exact ⟨rfl, fun _ => rfl⟩
theorem names_ok {b1 b2 b3 : Bool} {name kind tgn : List UInt8} (h1 : isVal name = true) (h2 : isVal kind = true) (h3 : isVal tgn = true) : okPs (namesP b1 b2 b3 name kind tgn) ∧ (namesP b1 b2 b3 name kind tgn).length ≤ 3 ∧ (prBytes (namesP b1 b2 b3 name kind tgn)).length ≤ 8192 := by
 have e0 : (prBytes ([] : List Pr)).length = 0 := rfl
 have w1 : wrongP ⟨kIni, name⟩ = 0 := by unfold wrongP; rw [if_pos (by kernel_rfl), if_pos h1]
 have w2 : wrongP ⟨kSes, kind⟩ = 0 := by unfold wrongP; rw [if_pos (by kernel_rfl), if_pos h2]
 have w3 : wrongP ⟨nmK, tgn⟩ = 0 := by unfold wrongP; rw [if_pos (by kernel_rfl), if_pos h3]
 have x1 := fun l => bytes_len2 (k := kIni) (by decide) (valLen h1) l
 have x2 := fun l => bytes_len2 (k := kSes) (by decide) (valLen h2) l
 have x3 := fun l => bytes_len2 (k := nmK) (by decide) (valLen h3) l
 cases b1 <;> cases b2 <;> cases b3
 ·exact ⟨ok_nil, by simp [namesP, optP], by show (prBytes []).length ≤ _; decide⟩
 ·exact ⟨ok_cons w3 ok_nil, by simp [namesP, optP], by show (prBytes [⟨nmK, tgn⟩]).length ≤ _; have := x3 []; omega⟩
 ·exact ⟨ok_cons w2 ok_nil, by simp [namesP, optP], by show (prBytes [⟨kSes, kind⟩]).length ≤ _; have := x2 []; omega⟩
 ·exact ⟨ok_cons w2 (ok_cons w3 ok_nil), by simp [namesP, optP], by show (prBytes [⟨kSes, kind⟩, ⟨nmK, tgn⟩]).length ≤ _; have := x3 []; have := x2 [⟨nmK, tgn⟩]; omega⟩
 ·exact ⟨ok_cons w1 ok_nil, by simp [namesP, optP], by show (prBytes [⟨kIni, name⟩]).length ≤ _; have := x1 []; omega⟩
 ·exact ⟨ok_cons w1 (ok_cons w3 ok_nil), by simp [namesP, optP], by show (prBytes [⟨kIni, name⟩, ⟨nmK, tgn⟩]).length ≤ _; have := x3 []; have := x1 [⟨nmK, tgn⟩]; omega⟩
 ·exact ⟨ok_cons w1 (ok_cons w2 ok_nil), by simp [namesP, optP], by show (prBytes [⟨kIni, name⟩, ⟨kSes, kind⟩]).length ≤ _; have := x2 []; have := x1 [⟨kSes, kind⟩]; omega⟩
 ·exact ⟨ok_cons w1 (ok_cons w2 (ok_cons w3 ok_nil)), by simp [namesP, optP], by show (prBytes [⟨kIni, name⟩, ⟨kSes, kind⟩, ⟨nmK, tgn⟩]).length ≤ _; have := x3 []; have := x2 [⟨nmK, tgn⟩]; have := x1 [⟨kSes, kind⟩, ⟨nmK, tgn⟩]; omega⟩
theorem names_six (b1 b2 b3 : Bool) (name kind tgn : List UInt8) : ∀ p ∈ namesP b1 b2 b3 name kind tgn, p.k ∉ sixK := by
 have h1 : kIni ∉ sixK := by decide
 have h2 : kSes ∉ sixK := by decide
 have h3 : nmK ∉ sixK := by decide
 cases b1 <;> cases b2 <;> cases b3 <;> simp [namesP, optP, h1, h2, h3]
theorem names_twice (b1 b2 b3 : Bool) (name kind tgn : List UInt8) : twiceF 0 [] (namesP b1 b2 b3 name kind tgn) = none := by
 have h1 : kIni ≠ kSes := by decide
 have h2 : kIni ≠ nmK := by decide
 have h3 : kSes ≠ nmK := by decide
 cases b1 <;> cases b2 <;> cases b3 <;> simp [namesP, optP, twiceF, h1.symm, h2.symm, h3.symm]
theorem names_plain {b1 b2 b3 : Bool} {name kind tgn : List UInt8} (h1 : isVal name = true) (h2 : isVal kind = true) (h3 : isVal tgn = true) :
  let p : Pd := ⟨reqH 135 0 0 9 0 5 1 77 0, [], prBytes (namesP b1 b2 b3 name kind tgn)⟩
  Took conf0 dw0 (lg0 conf0) p ∧ (asksL conf0 dw0 p (lg0 conf0)).1.2.2 = nameW b1 b2 b3 name kind tgn ∧ ((asksL conf0 dw0 p (lg0 conf0)).2.don = decide (nameW b1 b2 b3 name kind tgn = -1)) ∧ (asksL conf0 dw0 p (lg0 conf0)).2.fld = false ∧
   (nameW b1 b2 b3 name kind tgn = -1 → ((asksL conf0 dw0 p (lg0 conf0)).2.tgt, (asksL conf0 dw0 p (lg0 conf0)).2.dsc) = if b2 = true ∧ kind = vDis then ([], true) else (tgn, false)) := by
 obtain ⟨hok, h60, hx⟩ := names_ok (b1 := b1) (b2 := b2) (b3 := b3) h1 h2 h3
 have h6 := names_six b1 b2 b3 name kind tgn
 have ht := names_twice b1 b2 b3 name kind tgn
 obtain ⟨g1, g2⟩ := names_begin b1 b2 b3 name kind tgn
 generalize namesP b1 b2 b3 name kind tgn = l at *
 intro p
 refine ⟨took (req_right (by decide) (by decide) (by decide) (by decide) (by decide) (by decide) (by decide)) rfl (by omega) rfl rfl, ?_⟩
 have hw := asks_whole (c := conf0) (d := dw0) (s := lg0 conf0) (h := reqH 135 0 0 9 0 5 1 77 0) (l := l) (by kernel_rfl) (by kernel_rfl) rfl hok (by omega) hx
 rw [show (⟨reqH 135 0 0 9 0 5 1 77 0, [], prBytes l⟩ : Pd) = p from rfl] at hw
 have hT := textL_same (c := conf0) (d := dw0) (l := l) (s := firstL conf0 (reqH 135 0 0 9 0 5 1 77 0) (lg0 conf0))
 by_cases hn : nameW b1 b2 b3 name kind tgn = -1
 ·rw [hn] at g1 ⊢
  rw [text_first rfl g1, text_plain h6 rfl] at hw
  simp only at hw
  rw [show (firstL conf0 (reqH 135 0 0 9 0 5 1 77 0) (lg0 conf0)).mine = [] from rfl, show (firstL conf0 (reqH 135 0 0 9 0 5 1 77 0) (lg0 conf0)).recd = [] from rfl] at hw
  rw [ansN_go (by rw [prRight_ok hok (by omega)]) (by exact ht)] at hw
  simp only at hw
  rw [if_neg (by simp)] at hw
  rw [hw]
  unfold doneL
  simp only
  rw [if_neg (by simp), if_pos ⟨by kernel_rfl, by kernel_rfl⟩]
  have g3 := g2 hn
  refine ⟨rfl, by simp; kernel_rfl, rfl, fun _ => ?_⟩
  rw [← g3]
 ·have ht1 := text_refused (c := conf0) (d := dw0) (l := l) (s := firstL conf0 (reqH 135 0 0 9 0 5 1 77 0) (lg0 conf0)) rfl (by rw [g1]; exact hn)
  rw [hw]
  unfold doneL
  rw [ht1, g1]
  simp only
  rw [if_pos hn, decide_eq_false hn]
  exact ⟨rfl, hT.don, hT.fld, fun h => absurd h hn⟩
end Go.Proofs.YtmkebjdmkkjloaaGreatDoor
namespace Go.Proofs.YtmkebjdmkkjloaaGreatDoor
open Go.RowKit
theorem et_named : Tryz.prog.globalNamed "errors.errorType" = some 0 := by kernel_rfl
theorem et_rt : (Tryz.prog.cutTypes.find? (·.1 == "internal/reflectlite.rtype")).map (·.2) = some 222 := by kernel_rfl
theorem et_oneRow : ((List.range 345).filter fun t => Tryz.prog.rowNamed t [101, 114, 114, 111, 114]) = [43] := by kernel_rfl
theorem et_size : Tryz.prog.types.size = 345 := by kernel_rfl
theorem errCell_of_handles {L : List (String × DataW Unit)} {W : World} (h : handlesMet Tryz.prog L W) (hm : ("errors.errorType", Rows.laid_errors_errorType) ∈ L) : ErrCell W := by
 obtain ⟨name, u, ty, e1, e2, e3, e4, e5⟩ := h _ hm
 have en : name = [101, 114, 114, 111, 114] := (Option.some.inj e1).symm
 subst en
 obtain rfl := Option.some.inj (et_rt.symm.trans e2)
 have hq : ty ∈ (List.range 345).filter fun t => Tryz.prog.rowNamed t [101, 114, 114, 111, 114] := List.mem_filter.2 ⟨List.mem_range.2 (by rw [← et_size]; exact e3), e4⟩
 rw [et_oneRow] at hq
 obtain rfl := List.mem_singleton.1 hq
 have hh : typeHandle Tryz.prog 43 = .pointer (some ⟨11, 43, none⟩) := by kernel_rfl
 rw [hh] at e5
 have := World.var?_cell et_named e5 0
 unfold ErrCell
 simpa using this
noncomputable def laidWorld (os : Os) : World :=
 let w0 := World.holding Tryz.prog os ⟨#[], #[], []⟩
 { w0 with heap := w0.heap.modify 0 fun
   | .cells _ t frozen => .cells #[.iface 222 (.agg #[.pointer (some ⟨11, 43, none⟩)])] t frozen
   | o => o }
end Go.Proofs.YtmkebjdmkkjloaaGreatDoor
namespace Go.Proofs.YtmkebjdmkkjloaaGreatDoor
theorem laidMet_lay {P : Program} {w0 : World} {laid : List (String × DataW Unit)} (args : Array Value)
  (hf : w0.layFits P laid [] = true) (hi : w0.layIfaces P laid (w0.layVars P laid) = true) :
  laidMet P laid ((w0.layVars P laid).forCall (fun _ _ => 0) ⟨#[], args, []⟩).memory := by
 have e1 : (laid.filter fun x => (laid.map (·.1)).contains x.1) = laid := List.filter_eq_self.2 fun x hx => List.contains_iff_mem.2 (List.mem_map.2 ⟨x, hx, rfl⟩)
 have e2 : (laid.filter fun x => !(laid.map (·.1)).contains x.1) = [] := List.filter_eq_nil_iff.2 fun x hx => by rw [List.contains_iff_mem.2 (List.mem_map.2 ⟨x, hx, rfl⟩)]; simp
 have h : laidMet P laid (w0.layVars P laid) := laidMet_layVars (w0 := w0) (laid.map (·.1)) [] (by rw [e1]) (by rw [e1]; exact hf) (by rw [e1]; exact hi) (by rw [e2]; exact LaidIn.none)
 exact h.of_heap (by simp [World.memory, World.forCall, Input.heap])
end Go.Proofs.YtmkebjdmkkjloaaGreatDoor
namespace Go.Proofs.YtmkebjdmkkjloaaGreatDoor
open Go.RowKit
theorem mdNumbers : (Rows.laid_quaymaster_md5_numbers : DataW Unit) = Go.Lib.tabData .u32 (mK.map fun (n : Nat) => (n : Int)) := by kernel_rfl
theorem mdTurns : (Rows.laid_quaymaster_md5_turns : DataW Unit) = .agg ((List.range 4).map fun i => Go.Lib.tabData .i64 (((mSl.drop (i * 4)).take 4).map fun (n : Nat) => (n : Int))) := by kernel_rfl
theorem mK_len : mK.length = 64 := by kernel_rfl
theorem mSl_len : mSl.length = 16 := by kernel_rfl
set_option maxRecDepth 100000 in
theorem mdTabs_of_reads {W : World} (h1 : Go.Lib.VarReads Tryz.prog W "quaymaster/md5.numbers" Rows.laid_quaymaster_md5_numbers) (h2 : Go.Lib.VarReads Tryz.prog W "quaymaster/md5.turns" Rows.laid_quaymaster_md5_turns) : MdTabs W := by
 rw [mdNumbers] at h1
 rw [mdTurns] at h2
 refine ⟨fun i hi => ?_, fun j hj => ?_⟩
 ·obtain ⟨g, t, cs, fuel, p, hg, hty, hvar, hd⟩ := h1
  obtain rfl : 1 = g := Option.some.inj ((show Tryz.prog.globalNamed "quaymaster/md5.numbers" = some 1 by kernel_rfl).symm.trans hg)
  obtain rfl : 266 = t := Option.some.inj ((show (Tryz.prog.globals[1]?).map (·.type) = some 266 by kernel_rfl).symm.trans hty)
  have hcs := Go.Lib.cells_of_tab (n := 64) (e := 54) (by kernel_rfl) (by kernel_rfl) (by kernel_rfl) (by kernel_rfl) hd
  have := World.var?_cell hg hvar i
  rw [this, ← Array.getElem?_toList, hcs]
  have hl := mK_len
  rw [List.getElem?_map, List.getElem?_map, List.getElem?_eq_getElem (by omega), List.getD_eq_getElem?_getD, List.getElem?_eq_getElem (by omega)]
  rfl
 ·obtain ⟨g, t, cs, fuel, p, hg, hty, hvar, hd⟩ := h2
  obtain rfl : 2 = g := Option.some.inj ((show Tryz.prog.globalNamed "quaymaster/md5.turns" = some 2 by kernel_rfl).symm.trans hg)
  obtain rfl : 268 = t := Option.some.inj ((show (Tryz.prog.globals[2]?).map (·.type) = some 268 by kernel_rfl).symm.trans hty)
  obtain ⟨fuel', d, q, hd1, hd2⟩ := Go.Lib.array_elem (n := 4) (e := 267) (by kernel_rfl) hd (j / 4) (by omega)
  rw [show Tryz.prog.cellsOf 267 = 4 by kernel_rfl] at hd2
  rw [List.getElem?_map, List.getElem?_range (by omega)] at hd1
  obtain rfl := Option.some.inj hd1
  have hcs := Go.Lib.cells_of_tab (n := 4) (e := 3) (by kernel_rfl) (by kernel_rfl) (by kernel_rfl) (by kernel_rfl) hd2
  have := World.var?_cell hg hvar j
  have hl := mSl_len
  have e1 := congrArg (·[j % 4]?) hcs
  simp only [List.getElem?_map, List.getElem?_take, List.getElem?_drop, if_pos (show j % 4 < 4 by omega), show j / 4 * 4 + j % 4 = j by omega] at e1
  rw [this, ← Array.getElem?_toList, e1, List.getD_eq_getElem?_getD, List.getElem?_eq_getElem (by omega)]
  rfl
end Go.Proofs.YtmkebjdmkkjloaaGreatDoor
