/- The program's nego and the reference's beside each other in a law. -/
import Derived.Test.YteapbjeapnmloaaGreatDoorGJ
import Derived.Test.YteapbjeapnmloaaGreatDoorRefAns2
namespace Go.Proofs.YteapbjeapnmloaaGreatDoor
open Go Go.RowKit
set_option linter.unusedVariables false
theorem mask_old {H : Nat → Prop} {W W' : World} {v : Value} {l l' : List Pr} (h : PrsV (offW H W) v l) (h' : PrsV W' v l') : PrsV (offW H W') v l' := by
  obtain ⟨p, c, rfl, hlc, hc⟩ := h
  obtain ⟨p', c', hv', hlc', hc'⟩ := h'
  simp only [Value.slice.injEq] at hv'
  obtain ⟨rfl, hll, rfl⟩ := hv'
  by_cases h0 : 0 < l.length
  · obtain ⟨b, o, rfl, hcell⟩ := hc h0
    have hn : ¬ H b := fun hh => off_cellout (hcell 0 h0).1 hh
    rw [hll]
    exact PrsV.apartH ⟨_, _, rfl, hlc', hc'⟩ hn
  · exact ⟨_, _, by rw [hll], hlc', fun hl => absurd hl (by omega)⟩
theorem mask_new {H : Nat → Prop} {W : World} {N : Nat} {v : Value} {l : List Pr} (h : PrsV W v l) (hn : NewAt N v) (hH : ∀ k, H k → k < N) : PrsV (offW H W) v l := by
  obtain ⟨p, c, rfl, hlc, hc⟩ := h
  by_cases h0 : 0 < l.length
  · obtain ⟨b, o, rfl, _⟩ := hc h0
    have h1 := hn b o _ _ rfl
    exact PrsV.apartH ⟨_, _, rfl, hlc, hc⟩ (fun hh => by have := hH b hh; omega)
  · exact ⟨_, _, rfl, hlc, fun hl => absurd hl h0⟩
/-- both negos lie there; what was there at the law's call is so -/
structure PN (w0 W : World) (H : Nat → Prop) (na rb : Nat) (am rm rv : Value) (mine reca recr : List Pr) : Prop where
  low : Below w0.heap.size w0 W
  a : NegAt W w0.heap.size H na am mine reca
  ge : w0.heap.size ≤ rb
  nh : ¬ H rb
  blk : Blk W rb #[rm, rv] 85
  rmv : PrsV w0 rm mine
  rvv : PrsV (offW H W) rv recr
  amv : PrsV (offW (fun k => k = rb) W) am mine
  ok : MineOk mine
  oka : RecOk reca
  okr : RecOk recr
theorem PN.later {w0 W W' : World} {H : Nat → Prop} {na rb : Nat} {am rm rv : Value} {mine reca recr : List Pr} (h : PN w0 W H na rb am rm rv mine reca recr) (hb : Below W.heap.size W W') : PN w0 W' H na rb am rm rv mine reca recr :=
  ⟨below_then h.low hb, h.a.later hb, h.ge, h.nh, h.blk.later hb, h.rmv, h.rvv.bl hb, h.amv.bl hb, h.ok, h.oka, h.okr⟩
theorem PN.rn {w0 W : World} {H : Nat → Prop} {na rb : Nat} {am rm rv : Value} {mine reca recr : List Pr} (h : PN w0 W H na rb am rm rv mine reca recr) : RN W rb rm rv mine recr := ⟨h.blk, h.rmv.later h.low, h.rvv.off⟩
theorem PN.mk' {w0 W W' : World} {na rb : Nat} {am rm : Value} {mine : List Pr} (hl : Below w0.heap.size w0 W) (hge : w0.heap.size ≤ rb) (hR : RN W rb rm (.slice none 0 0) mine []) (hm : PrsV w0 rm mine) (hN : NegAt W' W.heap.size (fun k => k = na) na am mine []) (hbuf : PrBuf W.heap.size W' am mine) (hb : Below W.heap.size W W') (hok : MineOk mine) : PN w0 W' (fun k => k = na) na rb am rm (.slice none 0 0) mine [] [] := by
  have hna := (hN.base na rfl).1
  have hrb := hR.blk.lt
  refine ⟨below_then hl hb, hN.mono hl.size, hge, fun e => by have e : rb = na := e; omega, hR.blk.later hb, hm, PrsV.nil _, ?_, hok, recOk_nil, recOk_nil⟩
  exact PrBuf.prs (row_off hbuf (fun k hk e => by have := hbuf.ge k hk; have e : k = rb := e; omega))
/-- an answer of the reference's -/
def RetRA (w0 w : World) (H : Nat → Prop) (na rb : Nat) (am rm : Value) (mine reca s : List Pr) (n p : Int) (r : List Pr) (e : Ending) (w' : World) : Prop := ∃ v rv, e = .returned (.tuple #[v, .agg #[.int .i64 n, .int .i64 p]]) ∧ PrsV (offW H w') v s ∧ PN w0 w' H na rb am rm rv mine reca r ∧ Keeps w.heap.size w w' (fun k => k = rb) (fun k => k = rb)
theorem ref_pn {w0 w : World} {H : Nat → Prop} {na rb : Nat} {am rm rv v : Value} {mine reca recr l s r : List Pr} {n p : Int} {lg dc : Bool} (hr : ansN mine recr l lg dc = ((s, n, p), r)) (h : PN w0 w H na rb am rm rv mine reca recr) (hv : PrsV w0 v l) (hf : fitPs l) (hE : Env w0) :
    Calls Tryz.prog 49 #[.pointer (some ⟨rb, 0, none⟩), v, .bool lg, .bool dc] w (RetRA w0 w H na rb am rm mine reca s n p r) := by
  refine (refAns_any l v lg dc h.rn (hv.later h.low) hf h.ok h.okr (hE.later (below_mask h.low (fun k hk => by have hk : k = rb := hk; rw [hk]; exact h.ge)))).mono ?_
  rintro e w' ⟨v', rv', he, hs, hR, hk, hnv, hnr⟩
  have hrok := ansN_ok (mine := mine) (l := l) (lg := lg) (dc := dc) h.okr
  rw [hr] at he hs hR hrok
  simp only at he hs hR hrok
  have hHlt : ∀ k, H k → k < w.heap.size := fun k hh => (h.a.base k hh).2
  refine ⟨v', rv', he, mask_new hs hnv hHlt, ⟨Keeps.from h.low hk (fun k hh => by have hh : k = rb := hh; rw [hh]; exact h.ge), h.a.other hk (fun k hh e => h.nh (by have e : k = rb := e; rwa [← e])) (h.a.mine.both h.amv), h.ge, h.nh, hR.blk, h.rmv, ?_, h.amv.kp hk, h.ok, h.oka, hrok⟩, hk⟩
  rcases hnr with rfl | hn
  · exact mask_old h.rvv hR.recd
  · exact mask_new hR.recd hn hHlt
/-- an answer of the program's -/
def RetNA (w0 w : World) (H : Nat → Prop) (na rb : Nat) (am rm rv : Value) (mine recr s : List Pr) (n p : Int) (r : List Pr) (e : Ending) (w' : World) : Prop := ∃ v ev H', e = .returned (.tuple #[v, ev]) ∧ PrsV w' v s ∧ ErrIs w' ev n p ∧ PN w0 w' H' na rb am rm rv mine r recr ∧ Keeps w.heap.size w w' H H'
theorem neg_pn {w0 w : World} {H : Nat → Prop} {na rb : Nat} {am rm rv v : Value} {mine reca recr l s r : List Pr} {n p : Int} {lg dc : Bool} (hr : ansN mine reca l lg dc = ((s, n, p), r)) (h : PN w0 w H na rb am rm rv mine reca recr) (hv : PrsV w0 v l) (hf : fitPs l) (hE : Env w0) :
    Calls Tryz.prog 21 #[.pointer (some ⟨na, 0, none⟩), v, .bool lg, .bool dc] w (RetNA w0 w H na rb am rm rv mine recr s n p r) := by
  have hm := below_mask h.low (fun k hh => (h.a.base k hh).1)
  refine (answer_any l v lg dc h.a (hv.later hm) hf h.ok h.oka (hE.later hm)).mono ?_
  rintro e w' ⟨v', ev, H', rfl, hb, he, hN, hk⟩
  have hrok := ansN_ok (mine := mine) (l := l) (lg := lg) (dc := dc) h.oka
  rw [hr] at hb he hN hrok
  refine ⟨v', ev, H', rfl, hb.prs.off, he.off, ⟨Keeps.from h.low hk (fun k hh => (h.a.base k hh).1), hN, h.ge, fun hh => ?_, (hk.block rb h.blk.lt h.nh).trans h.blk, h.rmv, h.rvv.kp hk, ?_, h.ok, hrok, h.okr⟩, hk⟩
  · rcases hk.old rb hh with h1 | h1
    · exact h.nh h1
    · have := h.blk.lt; omega
  · exact ((h.amv.both h.a.mine).kp (hk.wide _)).sub (fun k hh => .inl hh)
end Go.Proofs.YteapbjeapnmloaaGreatDoor
