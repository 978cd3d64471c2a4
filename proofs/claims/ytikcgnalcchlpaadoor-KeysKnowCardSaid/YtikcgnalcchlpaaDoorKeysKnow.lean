/- KeysKnow: what is known of any key, and all that are known, is the document's. -/
import Derived.Test.YtikcgnalcchlpaaDoorRKeyOf
import Derived.Test.YtikcgnalcchlpaaDoorRNames
import Derived.Test.YtikcgnalcchlpaaDoorKNames
import Derived.Test.YtikcgnalcchlpaaDoorBare
import Derived.Test.YtikcgnalcchlpaaDoorEqS
import Derived.Laws.StructEq
namespace Go.Proofs.YtikcgnalcchlpaaDoor
open Go Go.RowKit
set_option linter.unusedVariables false
theorem eqKe_same (w : World) (nm df : List UInt8) (kd lo hi : Int) (no lg : Bool) : (binOp .eql 23 (.agg #[.string (S nm), .int .i64 kd, .int .i64 lo, .int .i64 hi, .string (S df), .bool no, .bool lg]) (.agg #[.string (S nm), .int .i64 kd, .int .i64 lo, .int .i64 hi, .string (S df), .bool no, .bool lg])).run Tryd.prog w = .ok (.bool true) w := by
  have hS : Tryd.prog.underlying 23 = some (.struct (Tryd.prog.fieldsOf 23)) := by kernel_rfl
  have hp : Tryd.prog.stoodInHeld 23 = false := by kernel_rfl
  rw [run_eql_struct, show (10000 : Nat) = 9999 + 1 from rfl, run_equalIn_agg w 9999 23 _ _ hS hp]
  simp only [Program.fieldsOf, Tryd.underlying23]
  go_simp
/-- what both return, as values -/
theorem both_key (s : List UInt8) : ∃ (nm df : List UInt8) (kd lo hi : Int) (no lg : Bool) (n : Int), ofV s = .tuple #[.agg #[.string (S nm), .int .i64 kd, .int .i64 lo, .int .i64 hi, .string (S df), .bool no, .bool lg], errV n] ∧ keyT s = .tuple #[.agg #[.string (S nm), .int .i64 kd, .int .i64 lo, .int .i64 hi, .string (S df), .bool no, .bool lg], .int .i64 n] := by
  unfold ofV keyT
  cases rowOf s with
  | none => exact ⟨[], [], 0, 0, 0, false, false, 5, rfl, rfl⟩
  | some k => exact ⟨k.nm, k.df, k.kd, k.lo, k.hi, k.no, k.lg, 0, rfl, rfl⟩
set_option maxRecDepth 100000 in
set_option maxHeartbeats 1000000 in
theorem keysKnow_any (s : List UInt8) (w : World) (h1 : s.length ≤ 140737488351232) (hg : ErrCell w) :
    Calls Tryd.prog 3 #[.string (S s)] w fun e w' => e = .returned (.bool true) ∧ Below w.heap.size w w' := by
  by_cases hbig : 100 < s.length
  · have hbig' : (100 : Int) < (s.length : Int) := by omega
    clear hg
    go_enter Tryd.func3, Tryd.ntmps3
    go_wp2_with fail
    go_ret
    exact ⟨rfl, Below.refl _ _⟩
  have hbig' : (s.length : Int) ≤ 100 := by omega
  obtain ⟨nm, df, kd, lo, hi, no, lg, n, ho, hk⟩ := both_key s
  have K1 := refKeyOf_any s w
  have K2 := fun W => of_any s W
  unfold RetKeyT at K1
  rw [hk] at K1
  rw [ho] at K2
  have K1 := Lib.hid K1
  have K2 := Lib.hid K2
  have EQ := fun W => eqKe_same W nm df kd lo hi no lg
  have BA := Lib.hid (fun W (h : Below w.heap.size w W) => bare_any n W (hg.later h))
  have ES := Lib.hid (fun (v v' : Value) W (h1 : StrV W v keNames) (h2 : StrV W v' keNames) => equalS_same keNames v v' W (by decide) h1 h2)
  have N1 := Lib.hid (fun W => names_any W)
  have N2 := Lib.hid (fun W => refNames_any W)
  clear hg ho hk hbig
  go_enter Tryd.func3, Tryd.ntmps3
  go_wp2_with fail
  refine K1.out.mono ?_
  rintro e w1 ⟨rfl, hb1⟩
  obtain ⟨w2, hw2⟩ : ∃ w2, w1.alloc (.cells #[.string (S nm), .int .i64 kd, .int .i64 lo, .int .i64 hi, .string (S df), .bool no, .bool lg] 23) = w2 := ⟨_, rfl⟩
  have hb2 : Below w.heap.size w w2 := by rw [← hw2]; exact hb1.alloc hb1.size _
  have HA2 := Lib.hid (show Blk w2 w1.heap.size #[.string (S nm), .int .i64 kd, .int .i64 lo, .int .i64 hi, .string (S df), .bool no, .bool lg] 23 by rw [← hw2]; exact Blk.new w1 _ _)
  have Hb2 := Lib.hid hb2
  clear hb1 hb2
  go_wp2_with fail
  refine (K2.out w2).mono ?_
  rintro e w3 ⟨rfl, hb3⟩
  obtain ⟨w4, hw4⟩ : ∃ w4, w3.alloc (.cells #[.string (S nm), .int .i64 kd, .int .i64 lo, .int .i64 hi, .string (S df), .bool no, .bool lg] 23) = w4 := ⟨_, rfl⟩
  have hb4' : Below w2.heap.size w2 w4 := by rw [← hw4]; exact hb3.alloc hb3.size _
  have HA4 := Lib.hid (HA2.out.later hb4')
  have HB4 := Lib.hid (show Blk w4 w3.heap.size #[.string (S nm), .int .i64 kd, .int .i64 lo, .int .i64 hi, .string (S df), .bool no, .bool lg] 23 by rw [← hw4]; exact Blk.new w3 _ _)
  have Hb4 := Lib.hid (below_then Hb2.out hb4')
  have B4 := Lib.hid (BA.out w4 Hb4.out)
  clear hb3 hb4' HA2 hw2
  obtain ⟨en, hen⟩ : ∃ en, errV n = en := ⟨_, rfl⟩
  rw [hen] at B4 ⊢
  clear hen
  go_wp2_with fail
  refine B4.out.mono ?_
  rintro e w5 ⟨rfl, hb5⟩
  have Hb5 := Lib.hid (below_then Hb4.out hb5)
  obtain ⟨a0, a1, a2, a3, a4, a5, a6⟩ := (HA4.out.later hb5).seven
  obtain ⟨b0, b1, b2, b3, b4, b5, b6⟩ := (HB4.out.later hb5).seven
  clear hb5 hw4 HA4 HB4
  go_wp2_with fail
  refine (N1.out _).mono ?_
  rintro e w6 ⟨v1, rfl, hv1, hb6⟩
  have Hb6 := Lib.hid (below_then Hb5.out hb6)
  have V1 := Lib.hid hv1.strs
  obtain ⟨p1, c1, rfl⟩ := hv1.form
  clear hb6 hv1 a0 a1 a2 a3 a4 a5 a6 b0 b1 b2 b3 b4 b5 b6
  go_wp2_with fail
  refine (N2.out _).mono ?_
  rintro e w7 ⟨v2, rfl, hv2, hb7⟩
  have Hb7 := Lib.hid (below_then Hb6.out hb7)
  have E7 := Lib.hid (ES.out _ _ w7 (V1.out.later hb7) hv2.strs)
  obtain ⟨p2, c2, rfl⟩ := hv2.form
  clear hb7 hv2
  go_wp2_with fail
  refine E7.out.mono ?_
  rintro e w8 ⟨rfl, hb8⟩
  have Hb8 := Lib.hid (below_then Hb7.out hb8)
  clear hb8
  go_wp2_with fail
  go_ret
  exact ⟨rfl, Hb8.out⟩
end Go.Proofs.YtikcgnalcchlpaaDoor
