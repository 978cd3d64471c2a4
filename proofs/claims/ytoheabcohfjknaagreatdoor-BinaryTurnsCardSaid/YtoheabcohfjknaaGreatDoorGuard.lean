/- A guarded operation behind one that was not wanted: for the walk of regions. No program stands in it. -/
import Derived.Test.YtoheabcohfjknaaGreatDoorBase
namespace Go.Proofs.YtoheabcohfjknaaGreatDoor
@[go_sem] theorem yielded_undef (f : Bool → Option Bool) (g : Option Value → Option Bool) : Go.yielded.match_1 (fun _ => Option Bool) (some undef) f g = g (some undef) := rfl
end Go.Proofs.YtoheabcohfjknaaGreatDoor
