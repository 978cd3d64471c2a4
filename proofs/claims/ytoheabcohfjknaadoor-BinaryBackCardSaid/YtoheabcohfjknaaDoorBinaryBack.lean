/- BinaryBack: what is written is read. -/
import Derived.Test.YtoheabcohfjknaaDoorBinaryPlain
namespace Go.Proofs.YtoheabcohfjknaaDoor
open Go.RowKit
theorem binaryBack_any (l : List UInt8) (w : World) (hl : l.length ≤ 140737488351232) (hg : ErrCell w) :
    Calls Tryd.prog 5 #[.string (S l)] w fun e w' => e = .returned (.bool true) ∧ Below w.heap.size w w' := by
  have Hg := Lib.hid hg
  clear hg
  by_cases h3 : 300 < l.length
  · go_enter Tryd.func5, Tryd.ntmps5
    go_wp2_with fail
    refine (valued_fact _ Hg.out).mono ?_
    rintro e w1 ⟨rfl, hb1⟩
    go_wp2_with fail
    go_ret
    exact ⟨rfl, hb1⟩
  · have C1 := Lib.hid (fun W => hex_any l W (by omega))
    have C2 := Lib.hid (fun W => base64_any l W (by omega))
    have hx := hexL_len l
    have hy := b64L_len l
    obtain ⟨x, hxe⟩ : ∃ x, hexL l = x := ⟨_, rfl⟩
    obtain ⟨y, hye⟩ : ∃ y, b64L l = y := ⟨_, rfl⟩
    have r1 := readV_hexL l
    have r2 := readV_b64L l
    rw [hxe] at C1 hx r1
    rw [hye] at C2 hy r2
    have c3 := fun W => read_any x W (by omega)
    have c4 := fun W => read_any y W (by omega)
    rw [r1] at c3
    rw [r2] at c4
    have C3 := Lib.hid c3
    have C4 := Lib.hid c4
    have hxi : (x.length : Int) = 2 + 2 * (l.length : Int) := by omega
    have hyi : (y.length : Int) = 2 + ((l.length : Int) + 2) / 3 * 4 := by omega
    clear r1 r2 c3 c4 hxe hye hx hy
    go_enter Tryd.func5, Tryd.ntmps5
    go_wp2_with fail
    refine (valued_fact _ Hg.out).mono ?_
    rintro e w1 ⟨rfl, hb1⟩
    go_wp2_with fail
    refine (C1.out _).mono ?_
    rintro e w2 ⟨rfl, hb2⟩
    go_wp2_with fail
    refine (C2.out _).mono ?_
    rintro e w3 ⟨rfl, hb3⟩
    go_wp2_with fail
    refine (C3.out _).mono ?_
    rintro e w4 ⟨v4, rfl, he4, hb4⟩
    rw [he4.zero]
    clear he4
    go_wp2_with fail
    refine (C4.out _).mono ?_
    rintro e w5 ⟨v5, rfl, he5, hb5⟩
    rw [he5.zero]
    clear he5
    go_wp2_with fail
    go_ret
    exact ⟨rfl, below_then hb1 (below_then hb2 (below_then hb3 (below_then hb4 hb5)))⟩
end Go.Proofs.YtoheabcohfjknaaDoor
