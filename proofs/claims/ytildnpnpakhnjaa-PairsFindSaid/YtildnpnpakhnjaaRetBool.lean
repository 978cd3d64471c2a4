/- What returns one of both answers; what it makes is new. -/
import Derived.Test.YtildnpnpakhnjaaBase
namespace Go.Proofs.Ytildnpnpakhnjaa
open Go.RowKit
def RetBool (w : World) (e : Ending) (w' : World) : Prop := ∃ b, e = .returned (.bool b) ∧ Below w.heap.size w w'
end Go.Proofs.Ytildnpnpakhnjaa
