/- SerialAfter: so many, and so many more, are both; what is less than half round further on is ahead. -/
import Derived.Test.YtoponmdfjbhnoaaSerial
import Derived.Test.YtoponmdfjbhnoaaPick
namespace Go.Proofs.Ytoponmdfjbhnoaa
open Go.RowKit
theorem serialAfter_any (a n m : Int) (w : World) (ha : (Lit.int .u32 a).wf = true) (hn : (Lit.int .i64 n).wf = true) (hm : (Lit.int .i64 m).wf = true) :
    Calls Try.prog 5 #[.int .u32 a, .int .i64 n, .int .i64 m] w fun e w' => e = .returned (.bool true) ∧ Below w.heap.size w w' := by
  obtain ⟨a, rfl, ha⟩ := wf_u32 ha
  have hn := wf_i64 hn
  have hm := wf_i64 hm
  have F := Lib.hid (rounded_fact w)
  have P := Lib.hid (fun W => pick_any n 2147483648 W (by decide) (by decide))
  have hk := pickI_lt n 2147483648 (by decide)
  obtain ⟨k, hke⟩ : ∃ k, pickI n 2147483648 = k := ⟨_, rfl⟩
  rw [hke] at P hk
  have e1 : afterI (afterI a n) m = afterI a (wrap64 (n + m)) := after_after _ _ _ _ (by unfold wrap64; omega)
  have e2 : afterI (afterI a n) (wrap64 (-n)) = a := after_back _ _ _ ⟨by omega, by omega⟩ (by unfold wrap64; omega)
  have e3 := before_after a k ⟨by omega, by omega⟩
  have r1 := afterI_range a n
  have r2 := afterI_range a k
  have c1 := fun W => after_any a n W
  have c2 := fun W => after_any (afterI a n) m W
  have c3 := fun W => after_any a (wrap64 (n + m)) W
  have c4 := fun W => after_any (afterI a n) (wrap64 (-n)) W
  have c5 := fun W => after_any a k W
  have c6 := fun W => before_any a (afterI a k) W ⟨by omega, by omega⟩ r2
  rw [e1] at c2
  rw [e2] at c4
  rw [e3] at c6
  generalize afterI (a : Int) n = B at c1 c2 c4 e1 e2 r1
  generalize afterI (a : Int) k = D at c5 c6 e3 r2
  generalize afterI (a : Int) (wrap64 (n + m)) = G at c2 c3 e1
  have C1 := Lib.hid c1
  have C2 := Lib.hid c2
  have C3 := Lib.hid c3
  have C4 := Lib.hid c4
  have C5 := Lib.hid c5
  have C6 := Lib.hid c6
  clear c1 c2 c3 c4 c5 c6 e1 e2 e3 hke hn hm
  go_enter Try.func5, Try.ntmps5
  go_wp2_with fail
  refine F.out.mono ?_
  rintro e w1 ⟨rfl, hlow⟩
  go_wp2_with fail
  refine (C1.out _).mono ?_
  rintro e w' ⟨rfl, rfl⟩
  go_wp2_with fail
  refine (P.out _).mono ?_
  rintro e w' ⟨rfl, rfl⟩
  go_wp2_with fail
  refine (C2.out _).mono ?_
  rintro e w' ⟨rfl, rfl⟩
  go_wp2_with fail
  refine (C3.out _).mono ?_
  rintro e w' ⟨rfl, rfl⟩
  go_wp2_with fail
  refine (C4.out _).mono ?_
  rintro e w' ⟨rfl, rfl⟩
  go_wp2_with fail
  refine (C5.out _).mono ?_
  rintro e w' ⟨rfl, rfl⟩
  go_wp2_with fail
  refine (C6.out _).mono ?_
  rintro e w' ⟨rfl, rfl⟩
  go_wp2_with fail
  go_ret
  exact ⟨by simp, hlow⟩
end Go.Proofs.Ytoponmdfjbhnoaa
