/- SerialWithin: from a number so many further on just these are within. -/
import Derived.Test.YtoponmdfjbhnoaaSerial
import Derived.Test.YtoponmdfjbhnoaaPick
namespace Go.Proofs.Ytoponmdfjbhnoaa
open Go.RowKit
theorem serialWithin_any (a n k : Int) (w : World) (ha : (Lit.int .u32 a).wf = true) (_hn : (Lit.int .i64 n).wf = true) (_hk : (Lit.int .i64 k).wf = true) :
    Calls Try.prog 6 #[.int .u32 a, .int .i64 n, .int .i64 k] w fun e w' => e = .returned (.bool true) ∧ Below w.heap.size w w' := by
  obtain ⟨a, rfl, ha⟩ := wf_u32 ha
  have F := Lib.hid (rounded_fact w)
  have P1 := Lib.hid (fun W => pick_any n 4294967295 W (by decide) (by decide))
  have P2 := Lib.hid (fun W => pick_any k 4294967296 W (by decide) (by decide))
  have hn := pickI_lt n 4294967295 (by decide)
  have hk := pickI_lt k 4294967296 (by decide)
  generalize pickI n 4294967295 = i at P1 hn
  generalize pickI k 4294967296 = j at P2 hk
  have e1 := within_after a i j ⟨by omega, by omega⟩ ⟨by omega, by omega⟩
  have e2 := within_none a j
  have r1 := afterI_range a j
  have r2 := afterI_range a i
  have r3 := afterI_range a (-1)
  have c1 := fun W => after_any a j W
  have c2 := fun W => after_any a i W
  have c3 := fun W => after_any a (-1) W
  have c4 := fun W => within_any (afterI a j) a (afterI a i) W r1 ⟨by omega, by omega⟩ r2
  have c5 := fun W => within_any (afterI a j) a (afterI a (-1)) W r1 ⟨by omega, by omega⟩ r3
  rw [e1] at c4
  rw [e2] at c5
  generalize afterI (a : Int) j = B at c1 c4 c5 e1 e2 r1
  generalize afterI (a : Int) i = D at c2 c4 e1 r2
  generalize afterI (a : Int) (-1) = G at c3 c5 e2 r3
  have C1 := Lib.hid c1
  have C2 := Lib.hid c2
  have C3 := Lib.hid c3
  have C4 := Lib.hid c4
  have C5 := Lib.hid c5
  clear c1 c2 c3 c4 c5 e1 e2
  go_enter Try.func6, Try.ntmps6
  go_wp2_with fail
  refine F.out.mono ?_
  rintro e w1 ⟨rfl, hlow⟩
  go_wp2_with fail
  refine (P1.out _).mono ?_
  rintro e w' ⟨rfl, rfl⟩
  go_wp2_with fail
  refine (P2.out _).mono ?_
  rintro e w' ⟨rfl, rfl⟩
  go_wp2_with fail
  refine (C1.out _).mono ?_
  rintro e w' ⟨rfl, rfl⟩
  go_wp2_with fail
  refine (C2.out _).mono ?_
  rintro e w' ⟨rfl, rfl⟩
  go_wp2_with fail
  refine (C4.out _).mono ?_
  rintro e w' ⟨rfl, rfl⟩
  go_wp2_with fail
  refine (C1.out _).mono ?_
  rintro e w' ⟨rfl, rfl⟩
  go_wp2_with fail
  refine (C3.out _).mono ?_
  rintro e w' ⟨rfl, rfl⟩
  go_wp2_with fail
  refine (C5.out _).mono ?_
  rintro e w' ⟨rfl, rfl⟩
  go_wp2_with fail
  go_ret
  exact ⟨by simp, hlow⟩
end Go.Proofs.Ytoponmdfjbhnoaa
