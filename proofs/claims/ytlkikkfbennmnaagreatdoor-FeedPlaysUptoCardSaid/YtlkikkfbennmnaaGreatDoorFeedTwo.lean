/- Two feeds; the law's own world. No function of the program is walked here. -/
import Derived.Test.YtlkikkfbennmnaaGreatDoorFed
import Derived.Test.YtlkikkfbennmnaaGreatDoorFeedOk
import Derived.Test.YtlkikkfbennmnaaGreatDoorPduSame
namespace Go.Proofs.YtlkikkfbennmnaaGreatDoor
open Go.RowKit
set_option linter.unusedVariables false
/-- behind a feed's work what was ahead of B is so still -/
theorem below_op {w0 w w' : World} {H H' : Nat → Prop} {fb : Nat} {F : Fe} (hb : Below w0.heap.size w0 w) (hF : FeedAt w w0.heap.size H fb F) (hk : Keeps w.heap.size w w' H H') : Below w0.heap.size w0 w' :=
  hb.trans (hk.below hb.size (fun k hh => (hF.base k hh).1))
theorem FeedAt.gl {w0 w : World} {H : Nat → Prop} {fb : Nat} {F : Fe} (hF : FeedAt w w0.heap.size H fb F) (hb : Below w0.heap.size w0 w) (hc : MaxCell w0) (hg : ErrCell w0) : GL H w := GL.mk' hc hg hb (fun k hh => (hF.base k hh).1)
structure Two (W : World) (B : Nat) (H1 H2 : Nat → Prop) (f1 f2 : Nat) (F1 F2 : Fe) : Prop where
  a : FeedAt W B H1 f1 F1
  b : FeedAt W B H2 f2 F2
  d : ∀ k, H1 k → ¬ H2 k
theorem Two.later {W W' : World} {B : Nat} {H1 H2 : Nat → Prop} {f1 f2 : Nat} {F1 F2 : Fe} (h : Two W B H1 H2 f1 f2 F1 F2) (hb : Below W.heap.size W W') : Two W' B H1 H2 f1 f2 F1 F2 := ⟨h.a.later hb, h.b.later hb, h.d⟩
theorem Two.left {W W' : World} {B : Nat} {H1 H2 H1' : Nat → Prop} {f1 f2 : Nat} {F1 F2 F1' : Fe} (h : Two W B H1 H2 f1 f2 F1 F2) (hF : FeedAt W' B H1' f1 F1') (hk : Keeps W.heap.size W W' H1 H1') : Two W' B H1' H2 f1 f2 F1' F2 :=
  ⟨hF, h.b.other (B' := 0) (fb' := 0) hk (fun k h2 h1 => h.d k h1 h2), fun k h1 h2 => by
    rcases hk.old k h1 with hc | hc
    · exact h.d k hc h2
    · have := (h.b.base k h2).2; omega⟩
theorem Two.right {W W' : World} {B : Nat} {H1 H2 H2' : Nat → Prop} {f1 f2 : Nat} {F1 F2 F2' : Fe} (h : Two W B H1 H2 f1 f2 F1 F2) (hF : FeedAt W' B H2' f2 F2') (hk : Keeps W.heap.size W W' H2 H2') : Two W' B H1 H2' f1 f2 F1 F2' :=
  ⟨h.a.other (B' := 0) (fb' := 0) hk (fun k h1 h2 => h.d k h1 h2), hF, fun k h1 h2 => by
    rcases hk.old k h2 with hc | hc
    · exact h.d k h1 hc
    · have := (h.a.base k h1).2; omega⟩
theorem Two.mk' {W W' : World} {B : Nat} {H1 H2 : Nat → Prop} {f1 f2 : Nat} {F1 F2 : Fe} (ha : FeedAt W B H1 f1 F1) (hb : Below W.heap.size W W') (hF : FeedAt W' W.heap.size H2 f2 F2) : Two W' B H1 H2 f1 f2 F1 F2 :=
  ⟨ha.later hb, hF.mono (by have := (ha.base f1 ha.own); omega), fun k h1 h2 => by have := (ha.base k h1).2; have := (hF.base k h2).1; omega⟩
/-- a feed's work leaves pieces, and PDUs -/
theorem PcsV.work {W W' : World} {B : Nat} {H H' : Nat → Prop} {fb : Nat} {F : Fe} {v : Value} {l : List Pc} (h : PcsV W v l) (hF : FeedAt W B H fb F) (hk : Keeps W.heap.size W W' H H') : PcsV W' v l := ((h.offF hF).later hk.off').off
theorem PduAt.work {W W' : World} {B : Nat} {H H' : Nat → Prop} {fb : Nat} {F : Fe} {p : Pd} {vv va : Value} (h : PduAt W p vv va) (hF : FeedAt W B H fb F) (hk : Keeps W.heap.size W W' H H') : PduAt W' p vv va := ((h.offF hF).later hk.off').off
/-- a block that is new is none of a feed's -/
theorem Blk.work {W W' : World} {H H' : Nat → Prop} {b : Nat} {C : Array Value} {t : TypeId} (h : Blk W b C t) (hn : ¬ H b) (hk : Keeps W.heap.size W W' H H') : Blk W' b C t ∧ ¬ H' b := hk.blk h h.lt hn
theorem same_pcs (q : Pc) (vv va vv' va' : Value) (w : World) (h : PduAt w q.p vv va) (h' : PduAt w q.p vv' va') (ok : PcOk q) :
    Calls Tryz.prog 20 #[.agg #[.int .i64 q.p.h.op, .bool q.p.h.now, .int .i64 q.p.h.fl, vv, va, .string (S q.p.d)], .agg #[.int .i64 q.p.h.op, .bool q.p.h.now, .int .i64 q.p.h.fl, vv', va', .string (S q.p.d)]] w fun e w' => e = .returned (.bool true) ∧ Below w.heap.size w w' := same_same q.p vv va vv' va' w h h' ok.v ok.a
end Go.Proofs.YtlkikkfbennmnaaGreatDoor
