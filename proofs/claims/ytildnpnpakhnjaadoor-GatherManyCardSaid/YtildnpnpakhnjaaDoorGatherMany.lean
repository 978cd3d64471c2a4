/- GatherMany: pieces are as few as may be, and of a greater size no more. -/
import Derived.Test.YtildnpnpakhnjaaDoorGathered
import Derived.Test.YtildnpnpakhnjaaDoorSplitGo
import Derived.Test.YtildnpnpakhnjaaDoorPick
namespace Go.Proofs.YtildnpnpakhnjaaDoor
open Go.RowKit
set_option linter.unusedVariables false
theorem ceil_mono (L n m : Nat) (hn : 1 ≤ n) (h : n ≤ m) : (L + m - 1) / m ≤ (L + n - 1) / n := by
  have h1 : L + n - 1 < n * ((L + n - 1) / n + 1) := Nat.lt_mul_div_succ _ (by omega)
  generalize (L + n - 1) / n = q at h1 ⊢
  have h2 : n * (q + 1) = n * q + n := Nat.mul_succ n q
  have h3 : n * q ≤ m * q := Nat.mul_le_mul_right q h
  have h4 : (L + m - 1) / m < q + 1 := by
    rw [Nat.div_lt_iff_lt_mul (by omega)]
    have h5 : (q + 1) * m = m * q + m := by rw [Nat.mul_comm, Nat.mul_succ]
    omega
  omega
theorem chunks_mono (n m : Nat) (hn : 1 ≤ n) (h : n ≤ m) (s : List UInt8) : (chunks m s).length ≤ (chunks n s).length := by
  rw [chunks_len n hn, chunks_len m (by omega)]
  have := ceil_mono s.length n m hn h
  omega
set_option maxRecDepth 100000 in
set_option maxHeartbeats 2000000 in
theorem gatherMany_any (s : List UInt8) (a b : Int) (w : World) (hs : s.length ≤ 140737488351232) (_ha : (Lit.int .i64 a).wf = true) (_hb : (Lit.int .i64 b).wf = true) (hm : MaxCell w) (hg : ErrCell w) :
    Calls Tryd.prog 12 #[.string (S s), .int .i64 a, .int .i64 b] w fun e w' => e = .returned (.bool true) ∧ Below w.heap.size w w' := by
  have M := Lib.hid (gathered_any w hm hg)
  have Ka : ∀ W, Hid (Calls Tryd.prog 41 #[.int .i64 a, .int .i64 600] W fun e w' => e = .returned (.int .i64 (pickI a 600 : Nat)) ∧ W = w') := fun W => Lib.hid (pick_any a 600 W (by decide) (by decide))
  have Kb : ∀ W, Hid (Calls Tryd.prog 41 #[.int .i64 b, .int .i64 600] W fun e w' => e = .returned (.int .i64 (pickI b 600 : Nat)) ∧ W = w') := fun W => Lib.hid (pick_any b 600 W (by decide) (by decide))
  have hka := pickI_lt a 600 (by decide)
  have hkb := pickI_lt b 600 (by decide)
  generalize pickI a 600 = x at Ka hka
  generalize pickI b 600 = y at Kb hkb
  clear hm hg
  go_enter Tryd.func12, Tryd.ntmps12
  go_wp2_with fail
  refine M.out.mono ?_
  rintro e w1 ⟨rfl, hb1⟩
  have Hb1 := Lib.hid hb1
  clear hb1 M
  by_cases h15 : 1500 < s.length
  · have i1 : (1500 : Int) < (s.length : Int) := by omega
    go_wp2_with fail
    go_ret
    exact ⟨rfl, Hb1.out⟩
  have i1 : (s.length : Int) ≤ 1500 := by omega
  obtain ⟨n, hn⟩ : ∃ n : Nat, (n : Int) = 1 + min (x : Int) (y : Int) := ⟨1 + min x y, by omega⟩
  obtain ⟨m, hm⟩ : ∃ m : Nat, (m : Int) = 1 + max (x : Int) (y : Int) := ⟨1 + max x y, by omega⟩
  have hn1 : 1 ≤ n := by omega
  have hnm : n ≤ m := by omega
  have hm6 : m ≤ 600 := by omega
  have C1 := fun W => Lib.hid (gsplit_any s n W (by omega) hn1 (by omega))
  have C2 := fun W => Lib.hid (gsplit_any s m W (by omega) (by omega) (by omega))
  have L1 := chunks_len n hn1 s
  have L2 := chunks_mono n m hn1 hnm s
  generalize chunks n s = cn at C1 L1 L2
  generalize chunks m s = cm at C2 L2
  rw [show ((n : Int)) = _ from hn] at C1
  rw [show ((m : Int)) = _ from hm] at C2
  have hL2 : cm.length ≤ cn.length := by omega
  have hL3 : (cm.length : Int) ≤ (cn.length : Int) := by omega
  have Hn := Lib.hid hn
  have HL1 := Lib.hid L1
  have Hn1 := Lib.hid hn1
  clear hn hm L1 L2 hn1 hnm hm6 h15
  go_wp2_with fail
  refine (Ka _).out.mono ?_
  rintro e w2 ⟨rfl, rfl⟩
  go_wp2_with fail
  refine (Kb _).out.mono ?_
  rintro e w2 ⟨rfl, rfl⟩
  go_wp2_with fail
  refine (C1 _).out.mono ?_
  rintro e w2 ⟨v1, rfl, hv1, hb2⟩
  obtain ⟨p1, c1, rfl⟩ := hv1.form
  have Hb2 := Lib.hid (below_then Hb1.out hb2)
  clear hv1 hb2
  go_wp2_with fail
  refine (C2 _).out.mono ?_
  rintro e w3 ⟨v2, rfl, hv2, hb3⟩
  obtain ⟨p2, c2, rfl⟩ := hv2.form
  have Hb3 := Lib.hid (below_then Hb2.out hb3)
  clear hv2 hb3
  go_wp2_with fail
  go_ret
  refine ⟨ret_bool (a := ((cn.length : Int) == max 1 (((s.length : Int) + (1 + min (x : Int) (y : Int)) - 1) / (1 + min (x : Int) (y : Int))))) ?_, Hb3.out⟩
  have hn := Hn1.out
  have e0 : ((s.length + n - 1 : Nat) : Int) = (s.length : Int) + (n : Int) - 1 := by omega
  have e : (((s.length + n - 1) / n : Nat) : Int) = ((s.length : Int) + (n : Int) - 1) / (n : Int) := by rw [Int.natCast_ediv, e0]
  rw [← Hn.out, HL1.out, beq_iff_eq, ← e]
  omega
end Go.Proofs.YtildnpnpakhnjaaDoor
