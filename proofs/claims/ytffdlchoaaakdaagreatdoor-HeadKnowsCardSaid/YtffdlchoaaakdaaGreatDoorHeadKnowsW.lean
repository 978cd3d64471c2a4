/- HeadKnows' walk as the frame wants it. -/
import Derived.Test.YtffdlchoaaakdaaGreatDoorHeadKnows
namespace Go.Proofs.YtffdlchoaaakdaaGreatDoor
open Go.RowKit
theorem headKnows_all (op : Int) (h : Hd) (v : Value) (n : List UInt8) (w : World) (_ : (Lit.int .i64 op).wf = true) (hfl : I64 h.fl) (hv : Vals w v h.vs) (hll : h.vs.length ≤ 9223372036854775807) (hn : n.length ≤ 140737488351232) (hg : ErrCell w) (hm : MaxCell w) :
    Calls Tryz.prog 3 #[.int .i64 op, headV h v, .string (S n)] w fun e w' => e = .returned (.bool true) ∧ Below w.heap.size w w' :=
  headKnows_any op h v n w hfl hg hm hv hll hn
end Go.Proofs.YtffdlchoaaakdaaGreatDoor
