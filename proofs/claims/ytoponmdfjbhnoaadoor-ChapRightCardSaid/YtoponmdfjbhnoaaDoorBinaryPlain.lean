/- What the laws of package binary share. -/
import Derived.Test.YtoponmdfjbhnoaaDoorRead
import Derived.Test.YtoponmdfjbhnoaaDoorValued
import Derived.Test.YtoponmdfjbhnoaaDoorBinMath
import Derived.Test.YtoponmdfjbhnoaaDoorBase64
namespace Go.Proofs.YtoponmdfjbhnoaaDoor
open Go.RowKit
theorem readV_hexL (l : List UInt8) : readV (hexL l) = (l, 0, -1) := by unfold hexL; rw [readV_hex _ _ (.inl rfl), readHex_hexOf]
theorem readV_b64L (l : List UInt8) : readV (b64L l) = (l, 0, -1) := by unfold b64L; rw [readV_b64 _ _ (.inl rfl), readLet_letters]
theorem b64L_len (l : List UInt8) : (b64L l).length = 2 + (l.length + 2) / 3 * 4 := by unfold b64L; rw [List.length_cons, List.length_cons, lettersOf_len]; omega
end Go.Proofs.YtoponmdfjbhnoaaDoor
