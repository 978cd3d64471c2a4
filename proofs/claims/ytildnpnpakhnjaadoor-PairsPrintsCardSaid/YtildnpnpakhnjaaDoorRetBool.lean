/- What returns one of both answers; what it makes is new. -/
import Derived.Test.YtildnpnpakhnjaaDoorBase
namespace Go.Proofs.YtildnpnpakhnjaaDoor
open Go.RowKit
def RetBool (w : World) (e : Ending) (w' : World) : Prop := ∃ b, e = .returned (.bool b) ∧ Below w.heap.size w w'
end Go.Proofs.YtildnpnpakhnjaaDoor
