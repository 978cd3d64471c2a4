/- LA27: several texts in one. -/
import Derived.Test.YtjbbbpgcegcbaaaGreatDoorLA21
import Derived.Test.YtjbbbpgcegcbaaaGreatDoorLA25
import Derived.Test.YtjbbbpgcegcbaaaGreatDoorLA26
namespace Go.Proofs.YtjbbbpgcegcbaaaGreatDoor
open Go.RowKit
theorem errV_ne {n : Nat} (h : n ≠ 0) : errV (n : Int) = .iface 56 (.int .i64 (n : Int)) := errV_pos _ (by omega)
theorem keyRes_off {nm a b : List UInt8} (h : keyFits nm a ≠ 0) : keyRes nm a b = ([], keyFits nm a) := by
 unfold keyFits at h ⊢
 unfold keyRes
 cases hr : rowOf nm with
 | none => rfl
 | some k => rw [hr] at h; exact resK_off h
theorem keyRes_own {nm a b : List UInt8} (h1 : keyFits nm a = 0) (h : keyFits nm b ≠ 0) : keyRes nm a b = ([], keyFits nm b) := by
 unfold keyFits at h h1 ⊢
 unfold keyRes
 cases hr : rowOf nm with
 | none => rfl
 | some k => rw [hr] at h h1; exact resK_own h1 h
theorem keyFits_row {nm v : List UInt8} (h : keyFits nm v = 0) : ∃ k, rowOf nm = some k ∧ fitK k v = 0 := by
 unfold keyFits at h
 cases hr : rowOf nm with
 | none => rw [hr] at h; cases h
 | some k => rw [hr] at h; exact ⟨k, rfl, h⟩
set_option maxRecDepth 100000 in
set_option maxHeartbeats 2000000 in
theorem result_bad (nm a b : List UInt8) (w : World) (ha : a.length ≤ 1000) (hb : b.length ≤ 1000) (hE : Env w) (hbad : keyFits nm a ≠ 0 ∨ keyFits nm b ≠ 0) :
  Calls Tryz.prog 118 #[.string (S nm), .string (S a), .string (S b)] w (RetSN w (keyRes nm a b)) := by
 have i0 := two_index0 a b
 have i1 := two_index1 a b
 have hb0 := (Below.refl w.heap.size w).alloc (Nat.le_refl _) (.cells #[.string (S a), .string (S b)] 256)
 obtain ⟨W0, hW0⟩ : ∃ W0, w.alloc (.cells #[.string (S a), .string (S b)] 256) = W0 := ⟨_, rfl⟩
 have bV := Blk.new w #[.string (S a), .string (S b)] 256
 rw [hW0] at hb0 bV
 obtain ⟨v0, v1⟩ := bV.two
 have Hb0 := Lib.hid hb0
 have FA := fits_any nm a W0 ha (hE.later hb0)
 by_cases h1 : keyFits nm a = 0
 ·have h2 : keyFits nm b ≠ 0 := hbad.resolve_left (fun h => h h1)
  have R := Lib.hid (keyRes_own (b := b) h1 h2)
  rw [h1] at FA
  have FA := Lib.hid FA
  have FB := Lib.hid (fun W (h : Below w.heap.size w W) => fits_any nm b W hb (hE.later h))
  have HX := Lib.hid (errV_ne h2)
  obtain ⟨n, hn⟩ : ∃ n, keyFits nm b = n := ⟨_, rfl⟩
  rw [hn] at R FB HX
  clear hE hb0 bV h1 h2 hbad hn
  go_enter Tryz.func118, Tryz.ntmps118
  go_wp2_with fail
  refine wp_loop_rounds 3 ?_
  rw [rounds_succ]
  go_wp2_with fail
  refine FA.out.mono ?_
  rintro e w1 ⟨rfl, hb1⟩
  have Hb1 := Lib.hid (below_then Hb0.out hb1)
  have FB1 := FB.out w1 Hb1.out
  unfold RetErrN at FB1
  rw [HX.out] at FB1
  have FB1 := Lib.hid FB1
  clear hb1
  rw [show errV ((0 : Nat) : Int) = .nilIface from rfl]
  go_wp2_with fail
  rw [rounds_succ]
  go_wp2_with fail
  refine FB1.out.mono ?_
  rintro e w2 ⟨rfl, hb2⟩
  have Hb2 := Lib.hid (below_then Hb1.out hb2)
  clear hb2
  go_wp2_with fail
  go_ret2
  rw [R.out]
  exact ⟨by rw [HX.out]; rfl, Hb2.out⟩
 ·have R := Lib.hid (keyRes_off (b := b) h1)
  have HX := Lib.hid (errV_ne h1)
  obtain ⟨n, hn⟩ : ∃ n, keyFits nm a = n := ⟨_, rfl⟩
  unfold RetErrN at FA
  rw [hn] at R FA HX
  rw [HX.out] at FA
  have FA := Lib.hid FA
  clear hE hb0 bV h1 hbad hn
  go_enter Tryz.func118, Tryz.ntmps118
  go_wp2_with fail
  refine wp_loop_rounds 3 ?_
  rw [rounds_succ]
  go_wp2_with fail
  refine FA.out.mono ?_
  rintro e w1 ⟨rfl, hb1⟩
  have Hb1 := Lib.hid (below_then Hb0.out hb1)
  clear hb1
  go_wp2_with fail
  go_ret2
  rw [R.out]
  exact ⟨by rw [HX.out]; rfl, Hb1.out⟩
set_option maxRecDepth 100000 in
set_option maxHeartbeats 2000000 in
theorem result_and (nm a b kn df : List UInt8) (lo hi : Nat) (no lg : Bool) (w : World) (ha : a.length ≤ 1000) (hb : b.length ≤ 1000) (hE : Env w) (h1 : keyFits nm a = 0) (h2 : keyFits nm b = 0) (hr : rowOf nm = some ⟨kn, 1, lo, hi, df, no, lg⟩) (x y : Bool) (ya : (a = [89, 101, 115] ∧ x = true) ∨ (a = [78, 111] ∧ x = false)) (yb : (b = [89, 101, 115] ∧ y = true) ∨ (b = [78, 111] ∧ y = false)) :
  Calls Tryz.prog 118 #[.string (S nm), .string (S a), .string (S b)] w (RetSN w (yesNo (x && y), 0)) := by
 have i0 := two_index0 a b
 have i1 := two_index1 a b
 have hb0 := (Below.refl w.heap.size w).alloc (Nat.le_refl _) (.cells #[.string (S a), .string (S b)] 256)
 obtain ⟨W0, hW0⟩ : ∃ W0, w.alloc (.cells #[.string (S a), .string (S b)] 256) = W0 := ⟨_, rfl⟩
 have bV := Blk.new w #[.string (S a), .string (S b)] 256
 rw [hW0] at hb0 bV
 obtain ⟨v0, v1⟩ := bV.two
 have Hb0 := Lib.hid hb0
 have HV := Lib.hid bV
 have FA := fits_any nm a W0 ha (hE.later hb0)
 rw [h1] at FA
 have FA := Lib.hid FA
 have FB := Lib.hid (fun W (h : Below w.heap.size w W) => show Calls Tryz.prog 79 #[.string (S nm), .string (S b)] W (RetErrN W 0) from by
  have := fits_any nm b W hb (hE.later h)
  rwa [h2] at this)
 have OF := Lib.hid (fun W => of_row (s := nm) W hr)
 clear hE hb0 bV h1 h2 hr
 go_enter Tryz.func118, Tryz.ntmps118
 go_wp2_with fail
 refine wp_loop_rounds 3 ?_
 rw [rounds_succ]
 go_wp2_with fail
 refine FA.out.mono ?_
 rintro e w1 ⟨rfl, hb1⟩
 have Hb1 := Lib.hid (below_then Hb0.out hb1)
 have FB1 := Lib.hid (FB.out w1 Hb1.out)
 have HV1 := Lib.hid (HV.out.later hb1)
 clear hb1 FB FA v0 v1
 rw [show errV ((0 : Nat) : Int) = .nilIface from rfl]
 go_wp2_with fail
 rw [rounds_succ]
 go_wp2_with fail
 refine FB1.out.mono ?_
 rintro e w2 ⟨rfl, hb2⟩
 have Hb2 := Lib.hid (below_then Hb1.out hb2)
 have HV2 := Lib.hid (HV1.out.later hb2)
 clear hb2 FB1
 rw [show errV ((0 : Nat) : Int) = .nilIface from rfl]
 go_wp2_with fail
 rw [rounds_succ]
 go_wp2_with fail
 refine (OF.out w2).mono ?_
 rintro e w3 ⟨rfl, hb3⟩
 have hV3 := HV2.out.later hb3
 obtain ⟨w4, hw4⟩ : ∃ w4, w3.alloc (.cells #[.string (S kn), .int .i64 1, .int .i64 (lo : Int), .int .i64 (hi : Int), .string (S df), .bool no, .bool lg] 202) = w4 := ⟨_, rfl⟩
 have Hb4 := Lib.hid (show Below w.heap.size w w4 by rw [← hw4]; exact (below_then Hb2.out hb3).alloc (below_then Hb2.out hb3).size _)
 have hV4 : Blk w4 w.heap.size #[.string (S a), .string (S b)] 256 := by rw [← hw4]; exact hV3.alloc _
 have bK : Blk w4 w3.heap.size #[.string (S kn), .int .i64 1, .int .i64 (lo : Int), .int .i64 (hi : Int), .string (S df), .bool no, .bool lg] 202 := by rw [← hw4]; exact Blk.new w3 _ _
 obtain ⟨c0, c1, c2, c3, c4, c5, c6⟩ := bK.seven
 obtain ⟨v0, v1⟩ := hV4.two
 clear hb3 hV3 bK hV4 OF
 rcases ya with ⟨rfl, rfl⟩ | ⟨rfl, rfl⟩ <;> rcases yb with ⟨rfl, rfl⟩ | ⟨rfl, rfl⟩
 all_goals
  go_wp2_with fail
  refine (yesOrNo_any _ _).mono ?_
  rintro e w' ⟨rfl, rfl⟩
  go_wp2_with fail
  go_ret2
  exact ⟨rfl, Hb4.out⟩
set_option maxRecDepth 100000 in
set_option maxHeartbeats 2000000 in
theorem result_or (nm a b kn df : List UInt8) (lo hi : Nat) (no lg : Bool) (w : World) (ha : a.length ≤ 1000) (hb : b.length ≤ 1000) (hE : Env w) (h1 : keyFits nm a = 0) (h2 : keyFits nm b = 0) (hr : rowOf nm = some ⟨kn, 2, lo, hi, df, no, lg⟩) (x y : Bool) (ya : (a = [89, 101, 115] ∧ x = true) ∨ (a = [78, 111] ∧ x = false)) (yb : (b = [89, 101, 115] ∧ y = true) ∨ (b = [78, 111] ∧ y = false)) :
  Calls Tryz.prog 118 #[.string (S nm), .string (S a), .string (S b)] w (RetSN w (yesNo (x || y), 0)) := by
 have i0 := two_index0 a b
 have i1 := two_index1 a b
 have hb0 := (Below.refl w.heap.size w).alloc (Nat.le_refl _) (.cells #[.string (S a), .string (S b)] 256)
 obtain ⟨W0, hW0⟩ : ∃ W0, w.alloc (.cells #[.string (S a), .string (S b)] 256) = W0 := ⟨_, rfl⟩
 have bV := Blk.new w #[.string (S a), .string (S b)] 256
 rw [hW0] at hb0 bV
 obtain ⟨v0, v1⟩ := bV.two
 have Hb0 := Lib.hid hb0
 have HV := Lib.hid bV
 have FA := fits_any nm a W0 ha (hE.later hb0)
 rw [h1] at FA
 have FA := Lib.hid FA
 have FB := Lib.hid (fun W (h : Below w.heap.size w W) => show Calls Tryz.prog 79 #[.string (S nm), .string (S b)] W (RetErrN W 0) from by
  have := fits_any nm b W hb (hE.later h)
  rwa [h2] at this)
 have OF := Lib.hid (fun W => of_row (s := nm) W hr)
 clear hE hb0 bV h1 h2 hr
 go_enter Tryz.func118, Tryz.ntmps118
 go_wp2_with fail
 refine wp_loop_rounds 3 ?_
 rw [rounds_succ]
 go_wp2_with fail
 refine FA.out.mono ?_
 rintro e w1 ⟨rfl, hb1⟩
 have Hb1 := Lib.hid (below_then Hb0.out hb1)
 have FB1 := Lib.hid (FB.out w1 Hb1.out)
 have HV1 := Lib.hid (HV.out.later hb1)
 clear hb1 FB FA v0 v1
 rw [show errV ((0 : Nat) : Int) = .nilIface from rfl]
 go_wp2_with fail
 rw [rounds_succ]
 go_wp2_with fail
 refine FB1.out.mono ?_
 rintro e w2 ⟨rfl, hb2⟩
 have Hb2 := Lib.hid (below_then Hb1.out hb2)
 have HV2 := Lib.hid (HV1.out.later hb2)
 clear hb2 FB1
 rw [show errV ((0 : Nat) : Int) = .nilIface from rfl]
 go_wp2_with fail
 rw [rounds_succ]
 go_wp2_with fail
 refine (OF.out w2).mono ?_
 rintro e w3 ⟨rfl, hb3⟩
 have hV3 := HV2.out.later hb3
 obtain ⟨w4, hw4⟩ : ∃ w4, w3.alloc (.cells #[.string (S kn), .int .i64 2, .int .i64 (lo : Int), .int .i64 (hi : Int), .string (S df), .bool no, .bool lg] 202) = w4 := ⟨_, rfl⟩
 have Hb4 := Lib.hid (show Below w.heap.size w w4 by rw [← hw4]; exact (below_then Hb2.out hb3).alloc (below_then Hb2.out hb3).size _)
 have hV4 : Blk w4 w.heap.size #[.string (S a), .string (S b)] 256 := by rw [← hw4]; exact hV3.alloc _
 have bK : Blk w4 w3.heap.size #[.string (S kn), .int .i64 2, .int .i64 (lo : Int), .int .i64 (hi : Int), .string (S df), .bool no, .bool lg] 202 := by rw [← hw4]; exact Blk.new w3 _ _
 obtain ⟨c0, c1, c2, c3, c4, c5, c6⟩ := bK.seven
 obtain ⟨v0, v1⟩ := hV4.two
 clear hb3 hV3 bK hV4 OF
 rcases ya with ⟨rfl, rfl⟩ | ⟨rfl, rfl⟩ <;> rcases yb with ⟨rfl, rfl⟩ | ⟨rfl, rfl⟩
 all_goals
  go_wp2_with fail
  refine (yesOrNo_any _ _).mono ?_
  rintro e w' ⟨rfl, rfl⟩
  go_wp2_with fail
  go_ret2
  exact ⟨rfl, Hb4.out⟩
set_option maxRecDepth 100000 in
set_option maxHeartbeats 2000000 in
theorem result_least (nm a b kn df : List UInt8) (lo hi : Nat) (no lg : Bool) (w : World) (ha : a.length ≤ 1000) (hb : b.length ≤ 1000) (hE : Env w) (h1 : keyFits nm a = 0) (h2 : keyFits nm b = 0) (hr : rowOf nm = some ⟨kn, 3, lo, hi, df, no, lg⟩) (n m : Nat) (hn : numE a lo hi = ((n : Int), 0)) (hm : numE b lo hi = ((m : Int), 0)) (hn40 : n < 1099511627776) (hm40 : m < 1099511627776) :
  Calls Tryz.prog 118 #[.string (S nm), .string (S a), .string (S b)] w (RetSN w (Lib.decDigits (min n m), 0)) := by
 have i0 := two_index0 a b
 have i1 := two_index1 a b
 have hb0 := (Below.refl w.heap.size w).alloc (Nat.le_refl _) (.cells #[.string (S a), .string (S b)] 256)
 obtain ⟨W0, hW0⟩ : ∃ W0, w.alloc (.cells #[.string (S a), .string (S b)] 256) = W0 := ⟨_, rfl⟩
 have bV := Blk.new w #[.string (S a), .string (S b)] 256
 rw [hW0] at hb0 bV
 obtain ⟨v0, v1⟩ := bV.two
 have Hb0 := Lib.hid hb0
 have HV := Lib.hid bV
 have FA := fits_any nm a W0 ha (hE.later hb0)
 rw [h1] at FA
 have FA := Lib.hid FA
 have FB := Lib.hid (fun W (h : Below w.heap.size w W) => show Calls Tryz.prog 79 #[.string (S nm), .string (S b)] W (RetErrN W 0) from by
  have := fits_any nm b W hb (hE.later h)
  rwa [h2] at this)
 have OF := Lib.hid (fun W => of_row (s := nm) W hr)
 have NU := Lib.hid (fun W (h : Below w.heap.size w W) => numbers_any a b kn df (lo : Int) (hi : Int) 3 no lg (n : Int) (m : Int) W ha hb (hE.later h) hn hm)
 have IT := Lib.hid (fun W (h : Below w.heap.size w W) => itoa_any (min n m) W (by omega) (hE.later h))
 have hmm : ((min n m : Nat) : Int) = min (n : Int) (m : Int) := by omega
 rw [hmm] at IT
 clear hmm hn hm hn40 hm40
 clear hE hb0 bV h1 h2 hr
 go_enter Tryz.func118, Tryz.ntmps118
 go_wp2_with fail
 refine wp_loop_rounds 3 ?_
 rw [rounds_succ]
 go_wp2_with fail
 refine FA.out.mono ?_
 rintro e w1 ⟨rfl, hb1⟩
 have Hb1 := Lib.hid (below_then Hb0.out hb1)
 have FB1 := Lib.hid (FB.out w1 Hb1.out)
 have HV1 := Lib.hid (HV.out.later hb1)
 clear hb1 FB FA v0 v1
 rw [show errV ((0 : Nat) : Int) = .nilIface from rfl]
 go_wp2_with fail
 rw [rounds_succ]
 go_wp2_with fail
 refine FB1.out.mono ?_
 rintro e w2 ⟨rfl, hb2⟩
 have Hb2 := Lib.hid (below_then Hb1.out hb2)
 have HV2 := Lib.hid (HV1.out.later hb2)
 clear hb2 FB1
 rw [show errV ((0 : Nat) : Int) = .nilIface from rfl]
 go_wp2_with fail
 rw [rounds_succ]
 go_wp2_with fail
 refine (OF.out w2).mono ?_
 rintro e w3 ⟨rfl, hb3⟩
 have hV3 := HV2.out.later hb3
 obtain ⟨w4, hw4⟩ : ∃ w4, w3.alloc (.cells #[.string (S kn), .int .i64 3, .int .i64 (lo : Int), .int .i64 (hi : Int), .string (S df), .bool no, .bool lg] 202) = w4 := ⟨_, rfl⟩
 have Hb4 := Lib.hid (show Below w.heap.size w w4 by rw [← hw4]; exact (below_then Hb2.out hb3).alloc (below_then Hb2.out hb3).size _)
 have hV4 : Blk w4 w.heap.size #[.string (S a), .string (S b)] 256 := by rw [← hw4]; exact hV3.alloc _
 have bK : Blk w4 w3.heap.size #[.string (S kn), .int .i64 3, .int .i64 (lo : Int), .int .i64 (hi : Int), .string (S df), .bool no, .bool lg] 202 := by rw [← hw4]; exact Blk.new w3 _ _
 obtain ⟨c0, c1, c2, c3, c4, c5, c6⟩ := bK.seven
 obtain ⟨v0, v1⟩ := hV4.two
 clear hb3 hV3 bK hV4 OF
 have NU4 := Lib.hid (NU.out w4 Hb4.out)
 clear NU
 go_wp2_with fail
 refine NU4.out.mono ?_
 rintro e w5 ⟨rfl, hb5⟩
 obtain ⟨w6, hw6⟩ : ∃ w6, w5.alloc (.cells #[.int .i64 (n : Int), .int .i64 (m : Int)] 258) = w6 := ⟨_, rfl⟩
 have Hb6 := Lib.hid (show Below w.heap.size w w6 by rw [← hw6]; exact (below_then Hb4.out hb5).alloc (below_then Hb4.out hb5).size _)
 have b6 : Blk w6 w5.heap.size #[.int .i64 (n : Int), .int .i64 (m : Int)] 258 := by rw [← hw6]; exact Blk.new w5 _ _
 obtain ⟨d0, d1⟩ := b6.two
 have IT6 := Lib.hid (IT.out w6 Hb6.out)
 clear hb5 b6 NU4 IT
 go_wp2_with fail
 refine IT6.out.mono ?_
 rintro e w7 ⟨rfl, hb7⟩
 have Hb7 := Lib.hid (below_then Hb6.out hb7)
 clear hb7
 go_wp2_with fail
 go_ret2
 exact ⟨rfl, Hb7.out⟩
set_option maxRecDepth 100000 in
set_option maxHeartbeats 2000000 in
theorem result_most (nm a b kn df : List UInt8) (lo hi : Nat) (no lg : Bool) (w : World) (ha : a.length ≤ 1000) (hb : b.length ≤ 1000) (hE : Env w) (h1 : keyFits nm a = 0) (h2 : keyFits nm b = 0) (hr : rowOf nm = some ⟨kn, 4, lo, hi, df, no, lg⟩) (n m : Nat) (hn : numE a lo hi = ((n : Int), 0)) (hm : numE b lo hi = ((m : Int), 0)) (hn40 : n < 1099511627776) (hm40 : m < 1099511627776) :
  Calls Tryz.prog 118 #[.string (S nm), .string (S a), .string (S b)] w (RetSN w (Lib.decDigits (max n m), 0)) := by
 have i0 := two_index0 a b
 have i1 := two_index1 a b
 have hb0 := (Below.refl w.heap.size w).alloc (Nat.le_refl _) (.cells #[.string (S a), .string (S b)] 256)
 obtain ⟨W0, hW0⟩ : ∃ W0, w.alloc (.cells #[.string (S a), .string (S b)] 256) = W0 := ⟨_, rfl⟩
 have bV := Blk.new w #[.string (S a), .string (S b)] 256
 rw [hW0] at hb0 bV
 obtain ⟨v0, v1⟩ := bV.two
 have Hb0 := Lib.hid hb0
 have HV := Lib.hid bV
 have FA := fits_any nm a W0 ha (hE.later hb0)
 rw [h1] at FA
 have FA := Lib.hid FA
 have FB := Lib.hid (fun W (h : Below w.heap.size w W) => show Calls Tryz.prog 79 #[.string (S nm), .string (S b)] W (RetErrN W 0) from by
  have := fits_any nm b W hb (hE.later h)
  rwa [h2] at this)
 have OF := Lib.hid (fun W => of_row (s := nm) W hr)
 have NU := Lib.hid (fun W (h : Below w.heap.size w W) => numbers_any a b kn df (lo : Int) (hi : Int) 4 no lg (n : Int) (m : Int) W ha hb (hE.later h) hn hm)
 have IT := Lib.hid (fun W (h : Below w.heap.size w W) => itoa_any (max n m) W (by omega) (hE.later h))
 have hmm : ((max n m : Nat) : Int) = max (n : Int) (m : Int) := by omega
 rw [hmm] at IT
 clear hmm hn hm hn40 hm40
 clear hE hb0 bV h1 h2 hr
 go_enter Tryz.func118, Tryz.ntmps118
 go_wp2_with fail
 refine wp_loop_rounds 3 ?_
 rw [rounds_succ]
 go_wp2_with fail
 refine FA.out.mono ?_
 rintro e w1 ⟨rfl, hb1⟩
 have Hb1 := Lib.hid (below_then Hb0.out hb1)
 have FB1 := Lib.hid (FB.out w1 Hb1.out)
 have HV1 := Lib.hid (HV.out.later hb1)
 clear hb1 FB FA v0 v1
 rw [show errV ((0 : Nat) : Int) = .nilIface from rfl]
 go_wp2_with fail
 rw [rounds_succ]
 go_wp2_with fail
 refine FB1.out.mono ?_
 rintro e w2 ⟨rfl, hb2⟩
 have Hb2 := Lib.hid (below_then Hb1.out hb2)
 have HV2 := Lib.hid (HV1.out.later hb2)
 clear hb2 FB1
 rw [show errV ((0 : Nat) : Int) = .nilIface from rfl]
 go_wp2_with fail
 rw [rounds_succ]
 go_wp2_with fail
 refine (OF.out w2).mono ?_
 rintro e w3 ⟨rfl, hb3⟩
 have hV3 := HV2.out.later hb3
 obtain ⟨w4, hw4⟩ : ∃ w4, w3.alloc (.cells #[.string (S kn), .int .i64 4, .int .i64 (lo : Int), .int .i64 (hi : Int), .string (S df), .bool no, .bool lg] 202) = w4 := ⟨_, rfl⟩
 have Hb4 := Lib.hid (show Below w.heap.size w w4 by rw [← hw4]; exact (below_then Hb2.out hb3).alloc (below_then Hb2.out hb3).size _)
 have hV4 : Blk w4 w.heap.size #[.string (S a), .string (S b)] 256 := by rw [← hw4]; exact hV3.alloc _
 have bK : Blk w4 w3.heap.size #[.string (S kn), .int .i64 4, .int .i64 (lo : Int), .int .i64 (hi : Int), .string (S df), .bool no, .bool lg] 202 := by rw [← hw4]; exact Blk.new w3 _ _
 obtain ⟨c0, c1, c2, c3, c4, c5, c6⟩ := bK.seven
 obtain ⟨v0, v1⟩ := hV4.two
 clear hb3 hV3 bK hV4 OF
 have NU4 := Lib.hid (NU.out w4 Hb4.out)
 clear NU
 go_wp2_with fail
 refine NU4.out.mono ?_
 rintro e w5 ⟨rfl, hb5⟩
 obtain ⟨w6, hw6⟩ : ∃ w6, w5.alloc (.cells #[.int .i64 (n : Int), .int .i64 (m : Int)] 258) = w6 := ⟨_, rfl⟩
 have Hb6 := Lib.hid (show Below w.heap.size w w6 by rw [← hw6]; exact (below_then Hb4.out hb5).alloc (below_then Hb4.out hb5).size _)
 have b6 : Blk w6 w5.heap.size #[.int .i64 (n : Int), .int .i64 (m : Int)] 258 := by rw [← hw6]; exact Blk.new w5 _ _
 obtain ⟨d0, d1⟩ := b6.two
 have IT6 := Lib.hid (IT.out w6 Hb6.out)
 clear hb5 b6 NU4 IT
 go_wp2_with fail
 refine IT6.out.mono ?_
 rintro e w7 ⟨rfl, hb7⟩
 have Hb7 := Lib.hid (below_then Hb6.out hb7)
 clear hb7
 go_wp2_with fail
 go_ret2
 exact ⟨rfl, Hb7.out⟩
set_option maxRecDepth 100000 in
set_option maxHeartbeats 2000000 in
theorem result_first (nm a b kn df : List UInt8) (lo hi : Nat) (no lg : Bool) (w : World) (ha : a.length ≤ 1000) (hb : b.length ≤ 1000) (hE : Env w) (h1 : keyFits nm a = 0) (h2 : keyFits nm b = 0) (hr : rowOf nm = some ⟨kn, 5, lo, hi, df, no, lg⟩) :
  Calls Tryz.prog 118 #[.string (S nm), .string (S a), .string (S b)] w (RetSN w (firstN (firstR a b))) := by
 have i0 := two_index0 a b
 have i1 := two_index1 a b
 have hb0 := (Below.refl w.heap.size w).alloc (Nat.le_refl _) (.cells #[.string (S a), .string (S b)] 256)
 obtain ⟨W0, hW0⟩ : ∃ W0, w.alloc (.cells #[.string (S a), .string (S b)] 256) = W0 := ⟨_, rfl⟩
 have bV := Blk.new w #[.string (S a), .string (S b)] 256
 rw [hW0] at hb0 bV
 obtain ⟨v0, v1⟩ := bV.two
 have Hb0 := Lib.hid hb0
 have HV := Lib.hid bV
 have FA := fits_any nm a W0 ha (hE.later hb0)
 rw [h1] at FA
 have FA := Lib.hid FA
 have FB := Lib.hid (fun W (h : Below w.heap.size w W) => show Calls Tryz.prog 79 #[.string (S nm), .string (S b)] W (RetErrN W 0) from by
  have := fits_any nm b W hb (hE.later h)
  rwa [h2] at this)
 have OF := Lib.hid (fun W => of_row (s := nm) W hr)
 have FI := Lib.hid (fun W (h : Below w.heap.size w W) => first_any a b W ha hb (hE.later h).mc)
 clear hE hb0 bV h1 h2 hr
 go_enter Tryz.func118, Tryz.ntmps118
 go_wp2_with fail
 refine wp_loop_rounds 3 ?_
 rw [rounds_succ]
 go_wp2_with fail
 refine FA.out.mono ?_
 rintro e w1 ⟨rfl, hb1⟩
 have Hb1 := Lib.hid (below_then Hb0.out hb1)
 have FB1 := Lib.hid (FB.out w1 Hb1.out)
 have HV1 := Lib.hid (HV.out.later hb1)
 clear hb1 FB FA v0 v1
 rw [show errV ((0 : Nat) : Int) = .nilIface from rfl]
 go_wp2_with fail
 rw [rounds_succ]
 go_wp2_with fail
 refine FB1.out.mono ?_
 rintro e w2 ⟨rfl, hb2⟩
 have Hb2 := Lib.hid (below_then Hb1.out hb2)
 have HV2 := Lib.hid (HV1.out.later hb2)
 clear hb2 FB1
 rw [show errV ((0 : Nat) : Int) = .nilIface from rfl]
 go_wp2_with fail
 rw [rounds_succ]
 go_wp2_with fail
 refine (OF.out w2).mono ?_
 rintro e w3 ⟨rfl, hb3⟩
 have hV3 := HV2.out.later hb3
 obtain ⟨w4, hw4⟩ : ∃ w4, w3.alloc (.cells #[.string (S kn), .int .i64 5, .int .i64 (lo : Int), .int .i64 (hi : Int), .string (S df), .bool no, .bool lg] 202) = w4 := ⟨_, rfl⟩
 have Hb4 := Lib.hid (show Below w.heap.size w w4 by rw [← hw4]; exact (below_then Hb2.out hb3).alloc (below_then Hb2.out hb3).size _)
 have hV4 : Blk w4 w.heap.size #[.string (S a), .string (S b)] 256 := by rw [← hw4]; exact hV3.alloc _
 have bK : Blk w4 w3.heap.size #[.string (S kn), .int .i64 5, .int .i64 (lo : Int), .int .i64 (hi : Int), .string (S df), .bool no, .bool lg] 202 := by rw [← hw4]; exact Blk.new w3 _ _
 obtain ⟨c0, c1, c2, c3, c4, c5, c6⟩ := bK.seven
 obtain ⟨v0, v1⟩ := hV4.two
 clear hb3 hV3 bK hV4 OF
 have FI4 := Lib.hid (FI.out w4 Hb4.out)
 clear FI
 go_wp2_with fail
 refine FI4.out.mono ?_
 rintro e w5 ⟨rfl, hb5⟩
 have Hb5 := Lib.hid (below_then Hb4.out hb5)
 clear hb5
 go_wp2_with fail
 go_ret2
 exact ⟨rfl, Hb5.out⟩
set_option maxRecDepth 100000 in
set_option maxHeartbeats 2000000 in
theorem result_told (nm a b kn df : List UInt8) (lo hi : Nat) (no lg : Bool) (w : World) (ha : a.length ≤ 1000) (hb : b.length ≤ 1000) (hE : Env w) (h1 : keyFits nm a = 0) (h2 : keyFits nm b = 0) (hr : rowOf nm = some ⟨kn, 6, lo, hi, df, no, lg⟩) :
  Calls Tryz.prog 118 #[.string (S nm), .string (S a), .string (S b)] w (RetSN w (a, 0)) := by
 have i0 := two_index0 a b
 have i1 := two_index1 a b
 have hb0 := (Below.refl w.heap.size w).alloc (Nat.le_refl _) (.cells #[.string (S a), .string (S b)] 256)
 obtain ⟨W0, hW0⟩ : ∃ W0, w.alloc (.cells #[.string (S a), .string (S b)] 256) = W0 := ⟨_, rfl⟩
 have bV := Blk.new w #[.string (S a), .string (S b)] 256
 rw [hW0] at hb0 bV
 obtain ⟨v0, v1⟩ := bV.two
 have Hb0 := Lib.hid hb0
 have HV := Lib.hid bV
 have FA := fits_any nm a W0 ha (hE.later hb0)
 rw [h1] at FA
 have FA := Lib.hid FA
 have FB := Lib.hid (fun W (h : Below w.heap.size w W) => show Calls Tryz.prog 79 #[.string (S nm), .string (S b)] W (RetErrN W 0) from by
  have := fits_any nm b W hb (hE.later h)
  rwa [h2] at this)
 have OF := Lib.hid (fun W => of_row (s := nm) W hr)
 clear hE hb0 bV h1 h2 hr
 go_enter Tryz.func118, Tryz.ntmps118
 go_wp2_with fail
 refine wp_loop_rounds 3 ?_
 rw [rounds_succ]
 go_wp2_with fail
 refine FA.out.mono ?_
 rintro e w1 ⟨rfl, hb1⟩
 have Hb1 := Lib.hid (below_then Hb0.out hb1)
 have FB1 := Lib.hid (FB.out w1 Hb1.out)
 have HV1 := Lib.hid (HV.out.later hb1)
 clear hb1 FB FA v0 v1
 rw [show errV ((0 : Nat) : Int) = .nilIface from rfl]
 go_wp2_with fail
 rw [rounds_succ]
 go_wp2_with fail
 refine FB1.out.mono ?_
 rintro e w2 ⟨rfl, hb2⟩
 have Hb2 := Lib.hid (below_then Hb1.out hb2)
 have HV2 := Lib.hid (HV1.out.later hb2)
 clear hb2 FB1
 rw [show errV ((0 : Nat) : Int) = .nilIface from rfl]
 go_wp2_with fail
 rw [rounds_succ]
 go_wp2_with fail
 refine (OF.out w2).mono ?_
 rintro e w3 ⟨rfl, hb3⟩
 have hV3 := HV2.out.later hb3
 obtain ⟨w4, hw4⟩ : ∃ w4, w3.alloc (.cells #[.string (S kn), .int .i64 6, .int .i64 (lo : Int), .int .i64 (hi : Int), .string (S df), .bool no, .bool lg] 202) = w4 := ⟨_, rfl⟩
 have Hb4 := Lib.hid (show Below w.heap.size w w4 by rw [← hw4]; exact (below_then Hb2.out hb3).alloc (below_then Hb2.out hb3).size _)
 have hV4 : Blk w4 w.heap.size #[.string (S a), .string (S b)] 256 := by rw [← hw4]; exact hV3.alloc _
 have bK : Blk w4 w3.heap.size #[.string (S kn), .int .i64 6, .int .i64 (lo : Int), .int .i64 (hi : Int), .string (S df), .bool no, .bool lg] 202 := by rw [← hw4]; exact Blk.new w3 _ _
 obtain ⟨c0, c1, c2, c3, c4, c5, c6⟩ := bK.seven
 obtain ⟨v0, v1⟩ := hV4.two
 clear hb3 hV3 bK hV4 OF
 go_wp2_with fail
 go_ret2
 exact ⟨rfl, Hb4.out⟩
set_option maxRecDepth 100000 in
set_option maxHeartbeats 2000000 in
theorem result_number (nm a b kn df : List UInt8) (lo hi : Nat) (no lg : Bool) (w : World) (ha : a.length ≤ 1000) (hb : b.length ≤ 1000) (hE : Env w) (h1 : keyFits nm a = 0) (h2 : keyFits nm b = 0) (hr : rowOf nm = some ⟨kn, 7, lo, hi, df, no, lg⟩) :
  Calls Tryz.prog 118 #[.string (S nm), .string (S a), .string (S b)] w (RetSN w (a, 0)) := by
 have i0 := two_index0 a b
 have i1 := two_index1 a b
 have hb0 := (Below.refl w.heap.size w).alloc (Nat.le_refl _) (.cells #[.string (S a), .string (S b)] 256)
 obtain ⟨W0, hW0⟩ : ∃ W0, w.alloc (.cells #[.string (S a), .string (S b)] 256) = W0 := ⟨_, rfl⟩
 have bV := Blk.new w #[.string (S a), .string (S b)] 256
 rw [hW0] at hb0 bV
 obtain ⟨v0, v1⟩ := bV.two
 have Hb0 := Lib.hid hb0
 have HV := Lib.hid bV
 have FA := fits_any nm a W0 ha (hE.later hb0)
 rw [h1] at FA
 have FA := Lib.hid FA
 have FB := Lib.hid (fun W (h : Below w.heap.size w W) => show Calls Tryz.prog 79 #[.string (S nm), .string (S b)] W (RetErrN W 0) from by
  have := fits_any nm b W hb (hE.later h)
  rwa [h2] at this)
 have OF := Lib.hid (fun W => of_row (s := nm) W hr)
 clear hE hb0 bV h1 h2 hr
 go_enter Tryz.func118, Tryz.ntmps118
 go_wp2_with fail
 refine wp_loop_rounds 3 ?_
 rw [rounds_succ]
 go_wp2_with fail
 refine FA.out.mono ?_
 rintro e w1 ⟨rfl, hb1⟩
 have Hb1 := Lib.hid (below_then Hb0.out hb1)
 have FB1 := Lib.hid (FB.out w1 Hb1.out)
 have HV1 := Lib.hid (HV.out.later hb1)
 clear hb1 FB FA v0 v1
 rw [show errV ((0 : Nat) : Int) = .nilIface from rfl]
 go_wp2_with fail
 rw [rounds_succ]
 go_wp2_with fail
 refine FB1.out.mono ?_
 rintro e w2 ⟨rfl, hb2⟩
 have Hb2 := Lib.hid (below_then Hb1.out hb2)
 have HV2 := Lib.hid (HV1.out.later hb2)
 clear hb2 FB1
 rw [show errV ((0 : Nat) : Int) = .nilIface from rfl]
 go_wp2_with fail
 rw [rounds_succ]
 go_wp2_with fail
 refine (OF.out w2).mono ?_
 rintro e w3 ⟨rfl, hb3⟩
 have hV3 := HV2.out.later hb3
 obtain ⟨w4, hw4⟩ : ∃ w4, w3.alloc (.cells #[.string (S kn), .int .i64 7, .int .i64 (lo : Int), .int .i64 (hi : Int), .string (S df), .bool no, .bool lg] 202) = w4 := ⟨_, rfl⟩
 have Hb4 := Lib.hid (show Below w.heap.size w w4 by rw [← hw4]; exact (below_then Hb2.out hb3).alloc (below_then Hb2.out hb3).size _)
 have hV4 : Blk w4 w.heap.size #[.string (S a), .string (S b)] 256 := by rw [← hw4]; exact hV3.alloc _
 have bK : Blk w4 w3.heap.size #[.string (S kn), .int .i64 7, .int .i64 (lo : Int), .int .i64 (hi : Int), .string (S df), .bool no, .bool lg] 202 := by rw [← hw4]; exact Blk.new w3 _ _
 obtain ⟨c0, c1, c2, c3, c4, c5, c6⟩ := bK.seven
 obtain ⟨v0, v1⟩ := hV4.two
 clear hb3 hV3 bK hV4 OF
 go_wp2_with fail
 go_ret2
 exact ⟨rfl, Hb4.out⟩
theorem keyRes_ok {nm a b : List UInt8} {k : Ke} (hr : rowOf nm = some k) (h1 : fitK k a = 0) (h2 : fitK k b = 0) : keyRes nm a b = resOk k a b := by
 unfold keyRes
 rw [hr]
 exact resK_ok h1 h2
theorem numE_of {s : List UInt8} {lo hi n : Nat} (h : numR s = some n) (h1 : lo ≤ n) (h2 : n ≤ hi) : numE s (lo : Int) (hi : Int) = ((n : Int), 0) := numE_in h (by omega) (by omega)
theorem yes_or {a : List UInt8} (h : a = yesL ∨ a = noL) : (a = [89, 101, 115] ∧ decide (a = yesL) = true) ∨ (a = [78, 111] ∧ decide (a = yesL) = false) := by
 rcases h with rfl | rfl
 ·exact .inl ⟨rfl, by decide⟩
 ·exact .inr ⟨rfl, by decide⟩
theorem result_any (nm a b : List UInt8) (w : World) (ha : a.length ≤ 1000) (hb : b.length ≤ 1000) (hE : Env w) :
  Calls Tryz.prog 118 #[.string (S nm), .string (S a), .string (S b)] w (RetSN w (keyRes nm a b)) := by
 by_cases h1 : keyFits nm a = 0
 ·by_cases h2 : keyFits nm b = 0
  ·obtain ⟨k, hr, f1⟩ := keyFits_row h1
   obtain ⟨k', hr', f2⟩ := keyFits_row h2
   obtain rfl : k = k' := Option.some.inj (hr.symm.trans hr')
   have hk := rowOf_ok hr
   rw [keyRes_ok hr f1 f2]
   have hc : k.kd = 1 ∨ k.kd = 2 ∨ k.kd = 3 ∨ k.kd = 4 ∨ k.kd = 5 ∨ k.kd = 6 ∨ k.kd = 7 := by omega
   obtain ⟨kn, kd, lo, hi, df, no, lg⟩ := k
   simp only at hc
   rcases hc with rfl | rfl | rfl | rfl | rfl | rfl | rfl
   ·rw [resOk_and _ _ rfl]
    exact result_and nm a b kn df lo hi no lg w ha hb hE h1 h2 hr _ _ (yes_or (fitK_yes0 (.inl rfl) f1)) (yes_or (fitK_yes0 (.inl rfl) f2))
   ·rw [resOk_or _ _ rfl]
    exact result_or nm a b kn df lo hi no lg w ha hb hE h1 h2 hr _ _ (yes_or (fitK_yes0 (.inr rfl) f1)) (yes_or (fitK_yes0 (.inr rfl) f2))
   ·obtain ⟨n, hn, n1, n2⟩ := fitK_num0 (.inl rfl) f1
    obtain ⟨m, hm, m1, m2⟩ := fitK_num0 (.inl rfl) f2
    rw [resOk_least _ _ rfl, numD_of hn, numD_of hm]
    exact result_least nm a b kn df lo hi no lg w ha hb hE h1 h2 hr n m (numE_of hn n1 n2) (numE_of hm m1 m2) (numR_lt hn) (numR_lt hm)
   ·obtain ⟨n, hn, n1, n2⟩ := fitK_num0 (.inr (.inl rfl)) f1
    obtain ⟨m, hm, m1, m2⟩ := fitK_num0 (.inr (.inl rfl)) f2
    rw [resOk_most _ _ rfl, numD_of hn, numD_of hm]
    exact result_most nm a b kn df lo hi no lg w ha hb hE h1 h2 hr n m (numE_of hn n1 n2) (numE_of hm m1 m2) (numR_lt hn) (numR_lt hm)
   ·rw [resOk_first _ _ rfl]
    have := result_first nm a b kn df lo hi no lg w ha hb hE h1 h2 hr
    unfold firstN at this
    cases hf : firstR a b with
    | none => rw [hf] at this; exact this
    | some x => rw [hf] at this; exact this
   ·rw [resOk_told _ _ (.inl rfl)]
    exact result_told nm a b kn df lo hi no lg w ha hb hE h1 h2 hr
   ·rw [resOk_told _ _ (.inr rfl)]
    exact result_number nm a b kn df lo hi no lg w ha hb hE h1 h2 hr
  ·exact result_bad nm a b w ha hb hE (.inr h2)
 ·exact result_bad nm a b w ha hb hE (.inl h1)
theorem res_at {nm a b x : List UInt8} {n : Nat} {ev : Value} (w : World) (h : keyRes nm a b = (x, n)) (he : errV (n : Int) = ev) (ha : a.length ≤ 1000) (hb : b.length ≤ 1000) (hE : Env w) :
  Calls Tryz.prog 118 #[.string (S nm), .string (S a), .string (S b)] w fun e w' => e = .returned (.tuple #[.string (S x), ev]) ∧ Below w.heap.size w w' := by
 have C := result_any nm a b w ha hb hE
 unfold RetSN at C
 rw [h] at C
 simp only at C
 rw [he] at C
 exact C
end Go.Proofs.YtjbbbpgcegcbaaaGreatDoor
