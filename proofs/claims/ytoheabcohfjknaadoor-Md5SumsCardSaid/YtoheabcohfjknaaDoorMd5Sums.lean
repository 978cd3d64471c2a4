/- Md5Sums: any text's MD5 is the document's. -/
import Derived.Test.YtoheabcohfjknaaDoorMd5Sum
import Derived.Test.YtoheabcohfjknaaDoorMd5Ref
namespace Go.Proofs.YtoheabcohfjknaaDoor
open Go.RowKit
theorem md5Sums_any (l : List UInt8) (w : World) (hl : l.length ≤ 140737488351232) (ht : MdTabs w) :
    Calls Tryd.prog 3 #[.string (S l)] w fun e w' => e = .returned (.bool true) ∧ Below w.heap.size w w' := by
  have Ht := Lib.hid ht
  clear ht
  by_cases h : 1000 < l.length
  · go_enter Tryd.func3, Tryd.ntmps3
    have hd : decide ((1000 : Int) < (l.length : Int)) = true := decide_eq_true (by omega)
    go_wp2_with fail
    go_ret
    exact ⟨rfl, Below.refl _ _⟩
  · obtain ⟨m, hm⟩ : ∃ m, md5L l = m := ⟨_, rfl⟩
    have A := md5Sum_any l w (by omega) Ht.out
    have B := Lib.hid (fun W => refMd5_any l W (by omega))
    rw [hm] at A B
    have A := Lib.hid A
    clear hm
    go_enter Tryd.func3, Tryd.ntmps3
    have hd : decide ((1000 : Int) < (l.length : Int)) = false := decide_eq_false (by omega)
    go_wp2_with fail
    refine A.out.mono ?_
    rintro e w1 ⟨rfl, hb1⟩
    go_wp2_with fail
    refine (B.out _).mono ?_
    rintro e w1' ⟨rfl, hb2⟩
    go_wp2_with fail
    go_ret
    exact ⟨rfl, below_then hb1 hb2⟩
end Go.Proofs.YtoheabcohfjknaaDoor
