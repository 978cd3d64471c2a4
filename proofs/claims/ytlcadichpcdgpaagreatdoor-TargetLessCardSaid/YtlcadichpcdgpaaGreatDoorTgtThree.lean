/- target.Has, Right, List are as the laws of chapter 15 ask. -/
import Derived.Test.YtlcadichpcdgpaaGreatDoorTgtRight
import Derived.Test.YtlcadichpcdgpaaGreatDoorTgtList
namespace Go.Proofs.YtlcadichpcdgpaaGreatDoor
open Go.RowKit
theorem tgtHas_of (w : World) : TgtHasOk w := fun W c vt vp vu vo name _ hv hl => thas_any c vt vp vu vo name W hv hl
theorem tgtRight_of (w : World) (hE : Env w) (hg : ErrCell w) : TgtRightOk w := fun W c vt vp vu vo hb hv hf => tright_any c vt vp vu vo W hv hf (hE.later hb) (hg.later hb)
theorem tgtList_of (w : World) (hE : Env w) : TgtListOk w := fun W c vt vp vu vo name all hb hv hf hbig => tlist_any c vt vp vu vo name all W hv hf hbig (hE.later hb)
end Go.Proofs.YtlcadichpcdgpaaGreatDoor
