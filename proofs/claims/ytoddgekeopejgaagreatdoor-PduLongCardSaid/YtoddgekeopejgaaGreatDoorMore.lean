/- quaymasterkeep.more: a fact that the statements ask first; wide. -/
import Derived.Test.YtoddgekeopejgaaGreatDoorGE
namespace Go.Proofs.YtoddgekeopejgaaGreatDoor
open Go.RowKit
def moreL : List Ah := [⟨1, [97, 98]⟩, ⟨2, [99]⟩]
theorem more_wr : wrL moreL = [0, 2, 1, 97, 98, 0, 0, 0, 0, 1, 2, 99] := by decide +kernel
theorem more_ok : okK moreL := by
  intro a ha
  rcases List.mem_cons.1 ha with rfl | ha
  · decide
  · rw [List.mem_singleton.1 ha]; decide
set_option maxRecDepth 100000 in
theorem more_fact (w : World) (hg : ErrCell w) : Calls Tryz.prog 29 #[] w fun e w' => e = .returned (.bool true) ∧ Below w.heap.size w w' := by
  have hb0 := (Below.refl w.heap.size w).alloc (Nat.le_refl _) (.cells #[.int .i64 1, .string (S [97, 98]), .int .i64 2, .string (S [99])] 97)
  have hB := Blk.new w #[.int .i64 1, .string (S [97, 98]), .int .i64 2, .string (S [99])] 97
  have hV : AhsV (w.alloc (.cells #[.int .i64 1, .string (S [97, 98]), .int .i64 2, .string (S [99])] 97)) (.slice (some ⟨w.heap.size, 0, none⟩) 2 2) moreL :=
    ⟨_, _, rfl, by decide, fun _ => ⟨_, 0, rfl, fun j hj => by
      match j, hj with
      | 0, _ => exact ⟨hB.four.1, hB.four.2.1⟩
      | 1, _ => exact ⟨hB.four.2.2.1, hB.four.2.2.2⟩⟩⟩
  have W := Lib.hid (write_ahs moreL _ _ hV ⟨by decide, fun a ha => by
    rcases List.mem_cons.1 ha with rfl | ha
    · decide
    · rw [List.mem_singleton.1 ha]; decide⟩)
  rw [writeA_ok more_ok (by rw [more_wr]; decide), more_wr] at W
  have R := fun w hg => Lib.hid (read_ahs [0, 2, 1, 97, 98, 0, 0, 0, 0, 1, 2, 99] w hg (by decide))
  rw [← more_wr, readA_write more_ok (by rw [more_wr]; decide), more_wr] at R
  have Hg := Lib.hid (hg.later hb0)
  have Hb0 := Lib.hid hb0
  clear hb0 hB hV hg
  go_enter Tryz.func29, Tryz.ntmps29
  go_wp2_with fail
  refine W.out.mono ?_
  rintro e w1 ⟨ev, rfl, he, hb1⟩
  obtain rfl := he.zero
  have R1 := R _ (Hg.out.later hb1)
  have Hb1 := Lib.hid (below_then Hb0.out hb1)
  clear hb1 he R W
  go_wp2_with fail
  refine R1.out.mono ?_
  rintro e w2 ⟨v, ev, rfl, hv, he, hb2⟩
  obtain rfl := he.zero
  obtain ⟨p, c, rfl, hlc, hcl⟩ := hv
  obtain ⟨b, o, rfl, hcell⟩ := hcl (by decide)
  have q := (hcell 1 (by decide)).2
  have Hb2 := Lib.hid (below_then Hb1.out hb2)
  have hq : w2.cell? ⟨b, o + 1 * 2 + 1, none⟩ = some (.string (S [99])) := q
  clear hb2 he R1 hcell hcl q
  simp only [show moreL.length = 2 from rfl] at *
  go_wp2_with fail
  go_ret
  exact ⟨rfl, Hb2.out⟩
end Go.Proofs.YtoddgekeopejgaaGreatDoor
