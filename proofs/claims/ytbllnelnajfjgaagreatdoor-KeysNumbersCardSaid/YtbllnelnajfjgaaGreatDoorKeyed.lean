/- quaymasterkeep.keyed; keys' contracts at a known result. -/
import Derived.Test.YtbllnelnajfjgaaGreatDoorKResult
import Derived.Test.YtbllnelnajfjgaaGreatDoorTell
namespace Go.Proofs.YtbllnelnajfjgaaGreatDoor
open Go.RowKit
theorem res_at {nm a b x : List UInt8} {n : Nat} {ev : Value} (w : World) (h : keyRes nm a b = (x, n)) (he : errV (n : Int) = ev) (ha : a.length ≤ 1000) (hb : b.length ≤ 1000) (hE : Env w) :
    Calls Tryz.prog 14 #[.string (S nm), .string (S a), .string (S b)] w fun e w' => e = .returned (.tuple #[.string (S x), ev]) ∧ Below w.heap.size w w' := by
  have C := result_any nm a b w ha hb hE
  unfold RetSN at C
  rw [h] at C
  simp only at C
  rw [he] at C
  exact C
theorem fits_at {nm v : List UInt8} {n : Nat} {ev : Value} (w : World) (h : keyFits nm v = n) (he : errV (n : Int) = ev) (hv : v.length ≤ 1000) (hE : Env w) :
    Calls Tryz.prog 15 #[.string (S nm), .string (S v)] w fun e w' => e = .returned ev ∧ Below w.heap.size w w' := by
  have C := fits_any nm v w hv hE
  unfold RetErrN at C
  rw [h, he] at C
  exact C
theorem dec1024 : Lib.decDigits 1024 = [49, 48, 50, 52] := by
  rw [dec_step (by decide), dec_step (by decide), dec_step (by decide), Lib.decDigits_one (by decide)]
  rfl
theorem kr1 : keyRes [73, 110, 105, 116, 105, 97, 108, 82, 50, 84] [78, 111] [89, 101, 115] = ([89, 101, 115], 0) := by kernel_rfl
theorem kr2 : keyRes [77, 97, 120, 66, 117, 114, 115, 116, 76, 101, 110, 103, 116, 104] [48, 120, 52, 48, 48] [50, 48, 52, 56] = (Lib.decDigits 1024, 0) := by kernel_rfl
theorem kr3 : keyRes [72, 101, 97, 100, 101, 114, 68, 105, 103, 101, 115, 116] [67, 82, 67, 51, 50, 67, 44, 78, 111, 110, 101] [78, 111, 110, 101, 44, 67, 82, 67, 51, 50, 67] = ([67, 82, 67, 51, 50, 67], 0) := by kernel_rfl
theorem kr4 : keyRes [72, 101, 97, 100, 101, 114, 68, 105, 103, 101, 115, 116] [88] [78, 111, 110, 101] = ([], 8) := by kernel_rfl
set_option maxRecDepth 100000 in
theorem keyed_any (w : World) (hE : Env w) (hg : ErrCell w) : Calls Tryz.prog 17 #[] w fun e w' => e = .returned (.bool true) ∧ Below w.heap.size w w' := by
  have k2 := kr2
  rw [dec1024] at k2
  have C1 := Lib.hid (res_at (ev := .nilIface) w kr1 rfl (by decide) (by decide) hE)
  have C2 := Lib.hid (fun W (h : Below w.heap.size w W) => res_at (ev := .nilIface) W k2 rfl (by decide) (by decide) (hE.later h))
  have C3 := Lib.hid (fun W (h : Below w.heap.size w W) => res_at (ev := .nilIface) W kr3 rfl (by decide) (by decide) (hE.later h))
  have C4 := Lib.hid (fun W (h : Below w.heap.size w W) => res_at (ev := .iface 22 (.int .i64 8)) W kr4 rfl (by decide) (by decide) (hE.later h))
  have T := Lib.hid (fun W (h : Below w.heap.size w W) => tell_err 8 W (hg.later h))
  clear hE hg k2
  go_enter Tryz.func17, Tryz.ntmps17
  go_wp2_with fail
  refine C1.out.mono ?_
  rintro e w1 ⟨rfl, hb1⟩
  have Hb1 := Lib.hid hb1
  clear hb1
  go_wp2_with fail
  refine (C2.out w1 Hb1.out).mono ?_
  rintro e w2 ⟨rfl, hb2⟩
  have Hb2 := Lib.hid (below_then Hb1.out hb2)
  clear hb2
  go_wp2_with fail
  refine (C3.out w2 Hb2.out).mono ?_
  rintro e w3 ⟨rfl, hb3⟩
  have Hb3 := Lib.hid (below_then Hb2.out hb3)
  clear hb3
  go_wp2_with fail
  refine (C4.out w3 Hb3.out).mono ?_
  rintro e w4 ⟨rfl, hb4⟩
  have Hb4 := Lib.hid (below_then Hb3.out hb4)
  clear hb4
  go_wp2_with fail
  refine (T.out w4 Hb4.out).mono ?_
  rintro e w5 ⟨rfl, hb5⟩
  have Hb5 := Lib.hid (below_then Hb4.out hb5)
  clear hb5
  go_wp2_with fail
  go_ret
  exact ⟨rfl, Hb5.out⟩
end Go.Proofs.YtbllnelnajfjgaaGreatDoor
