/- LP24: several texts in one. -/
import Derived.Deep.Cut
import Derived.Test.YtmkebjdmkkjloaaGreatDoorLP02
import Derived.Test.YtmkebjdmkkjloaaGreatDoorLP19
import Derived.Test.YtmkebjdmkkjloaaGreatDoorLP23
namespace Go.Proofs.YtmkebjdmkkjloaaGreatDoor
open Go.RowKit
theorem errV_ne {n : Nat} (h : n ≠ 0) : errV (n : Int) = .iface 80 (.int .i64 (n : Int)) := errV_pos _ (by omega)
theorem keyRes_off {nm a b : List UInt8} (h : keyFits nm a ≠ 0) : keyRes nm a b = ([], keyFits nm a) := by
  unfold keyFits at h ⊢
  unfold keyRes
  cases hr : rowOf nm with
  | none => rfl
  | some k => rw [hr] at h; exact resK_off h
theorem keyRes_own {nm a b : List UInt8} (h1 : keyFits nm a = 0) (h : keyFits nm b ≠ 0) : keyRes nm a b = ([], keyFits nm b) := by
  unfold keyFits at h h1 ⊢
  unfold keyRes
  cases hr : rowOf nm with
  | none => rfl
  | some k => rw [hr] at h h1; exact resK_own h1 h
theorem keyFits_row {nm v : List UInt8} (h : keyFits nm v = 0) : ∃ k, rowOf nm = some k ∧ fitK k v = 0 := by
  unfold keyFits at h
  cases hr : rowOf nm with
  | none => rw [hr] at h; cases h
  | some k => rw [hr] at h; exact ⟨k, rfl, h⟩
set_option maxRecDepth 100000 in
set_option maxHeartbeats 2000000 in
theorem result_bad (nm a b : List UInt8) (w : World) (ha : a.length ≤ 1000) (hb : b.length ≤ 1000) (hE : Env w) (hbad : keyFits nm a ≠ 0 ∨ keyFits nm b ≠ 0) :
    Calls Tryz.prog 64 #[.string (S nm), .string (S a), .string (S b)] w (RetSN w (keyRes nm a b)) := by
  have i0 := two_index0 a b
  have i1 := two_index1 a b
  have hb0 := (Below.refl w.heap.size w).alloc (Nat.le_refl _) (.cells #[.string (S a), .string (S b)] 185)
  obtain ⟨W0, hW0⟩ : ∃ W0, w.alloc (.cells #[.string (S a), .string (S b)] 185) = W0 := ⟨_, rfl⟩
  have bV := Blk.new w #[.string (S a), .string (S b)] 185
  rw [hW0] at hb0 bV
  obtain ⟨v0, v1⟩ := bV.two
  have Hb0 := Lib.hid hb0
  have FA := fits_any nm a W0 ha (hE.later hb0)
  by_cases h1 : keyFits nm a = 0
  · have h2 : keyFits nm b ≠ 0 := hbad.resolve_left (fun h => h h1)
    have R := Lib.hid (keyRes_own (b := b) h1 h2)
    rw [h1] at FA
    have FA := Lib.hid FA
    have FB := Lib.hid (fun W (h : Below w.heap.size w W) => fits_any nm b W hb (hE.later h))
    have HX := Lib.hid (errV_ne h2)
    obtain ⟨n, hn⟩ : ∃ n, keyFits nm b = n := ⟨_, rfl⟩
    rw [hn] at R FB HX
    clear hE hb0 bV h1 h2 hbad hn
    go_enter Tryz.func64, Tryz.ntmps64
    go_wp2_with fail
    refine wp_loop_rounds 3 ?_
    rw [rounds_succ]
    go_wp2_with fail
    refine FA.out.mono ?_
    rintro e w1 ⟨rfl, hb1⟩
    have Hb1 := Lib.hid (below_then Hb0.out hb1)
    have FB1 := FB.out w1 Hb1.out
    unfold RetErrN at FB1
    rw [HX.out] at FB1
    have FB1 := Lib.hid FB1
    clear hb1
    rw [show errV ((0 : Nat) : Int) = .nilIface from rfl]
    go_wp2_with fail
    rw [rounds_succ]
    go_wp2_with fail
    refine FB1.out.mono ?_
    rintro e w2 ⟨rfl, hb2⟩
    have Hb2 := Lib.hid (below_then Hb1.out hb2)
    clear hb2
    go_wp2_with fail
    go_ret2
    rw [R.out]
    exact ⟨by rw [HX.out]; rfl, Hb2.out⟩
  · have R := Lib.hid (keyRes_off (b := b) h1)
    have HX := Lib.hid (errV_ne h1)
    obtain ⟨n, hn⟩ : ∃ n, keyFits nm a = n := ⟨_, rfl⟩
    unfold RetErrN at FA
    rw [hn] at R FA HX
    rw [HX.out] at FA
    have FA := Lib.hid FA
    clear hE hb0 bV h1 hbad hn
    go_enter Tryz.func64, Tryz.ntmps64
    go_wp2_with fail
    refine wp_loop_rounds 3 ?_
    rw [rounds_succ]
    go_wp2_with fail
    refine FA.out.mono ?_
    rintro e w1 ⟨rfl, hb1⟩
    have Hb1 := Lib.hid (below_then Hb0.out hb1)
    clear hb1
    go_wp2_with fail
    go_ret2
    rw [R.out]
    exact ⟨by rw [HX.out]; rfl, Hb1.out⟩
set_option maxRecDepth 100000 in
set_option maxHeartbeats 2000000 in
theorem result_and (nm a b kn df : List UInt8) (lo hi : Nat) (no lg : Bool) (w : World) (ha : a.length ≤ 1000) (hb : b.length ≤ 1000) (hE : Env w) (h1 : keyFits nm a = 0) (h2 : keyFits nm b = 0) (hr : rowOf nm = some ⟨kn, 1, lo, hi, df, no, lg⟩) (x y : Bool) (ya : (a = [89, 101, 115] ∧ x = true) ∨ (a = [78, 111] ∧ x = false)) (yb : (b = [89, 101, 115] ∧ y = true) ∨ (b = [78, 111] ∧ y = false)) :
    Calls Tryz.prog 64 #[.string (S nm), .string (S a), .string (S b)] w (RetSN w (yesNo (x && y), 0)) := by
  have i0 := two_index0 a b
  have i1 := two_index1 a b
  have hb0 := (Below.refl w.heap.size w).alloc (Nat.le_refl _) (.cells #[.string (S a), .string (S b)] 185)
  obtain ⟨W0, hW0⟩ : ∃ W0, w.alloc (.cells #[.string (S a), .string (S b)] 185) = W0 := ⟨_, rfl⟩
  have bV := Blk.new w #[.string (S a), .string (S b)] 185
  rw [hW0] at hb0 bV
  obtain ⟨v0, v1⟩ := bV.two
  have Hb0 := Lib.hid hb0
  have HV := Lib.hid bV
  have FA := fits_any nm a W0 ha (hE.later hb0)
  rw [h1] at FA
  have FA := Lib.hid FA
  have FB := Lib.hid (fun W (h : Below w.heap.size w W) => show Calls Tryz.prog 81 #[.string (S nm), .string (S b)] W (RetErrN W 0) from by
    have := fits_any nm b W hb (hE.later h)
    rwa [h2] at this)
  have OF := Lib.hid (fun W => of_row (s := nm) W hr)
  clear hE hb0 bV h1 h2 hr
  go_enter Tryz.func64, Tryz.ntmps64
  go_wp2_with fail
  refine wp_loop_rounds 3 ?_
  rw [rounds_succ]
  go_wp2_with fail
  refine FA.out.mono ?_
  rintro e w1 ⟨rfl, hb1⟩
  have Hb1 := Lib.hid (below_then Hb0.out hb1)
  have FB1 := Lib.hid (FB.out w1 Hb1.out)
  have HV1 := Lib.hid (HV.out.later hb1)
  clear hb1 FB FA v0 v1
  rw [show errV ((0 : Nat) : Int) = .nilIface from rfl]
  go_wp2_with fail
  rw [rounds_succ]
  go_wp2_with fail
  refine FB1.out.mono ?_
  rintro e w2 ⟨rfl, hb2⟩
  have Hb2 := Lib.hid (below_then Hb1.out hb2)
  have HV2 := Lib.hid (HV1.out.later hb2)
  clear hb2 FB1
  rw [show errV ((0 : Nat) : Int) = .nilIface from rfl]
  go_wp2_with fail
  rw [rounds_succ]
  go_wp2_with fail
  refine (OF.out w2).mono ?_
  rintro e w3 ⟨rfl, hb3⟩
  have hV3 := HV2.out.later hb3
  obtain ⟨w4, hw4⟩ : ∃ w4, w3.alloc (.cells #[.string (S kn), .int .i64 1, .int .i64 (lo : Int), .int .i64 (hi : Int), .string (S df), .bool no, .bool lg] 187) = w4 := ⟨_, rfl⟩
  have Hb4 := Lib.hid (show Below w.heap.size w w4 by rw [← hw4]; exact (below_then Hb2.out hb3).alloc (below_then Hb2.out hb3).size _)
  have hV4 : Blk w4 w.heap.size #[.string (S a), .string (S b)] 185 := by rw [← hw4]; exact hV3.alloc _
  have bK : Blk w4 w3.heap.size #[.string (S kn), .int .i64 1, .int .i64 (lo : Int), .int .i64 (hi : Int), .string (S df), .bool no, .bool lg] 187 := by rw [← hw4]; exact Blk.new w3 _ _
  obtain ⟨c0, c1, c2, c3, c4, c5, c6⟩ := bK.seven
  obtain ⟨v0, v1⟩ := hV4.two
  clear hb3 hV3 bK hV4 OF
  rcases ya with ⟨rfl, rfl⟩ | ⟨rfl, rfl⟩ <;> rcases yb with ⟨rfl, rfl⟩ | ⟨rfl, rfl⟩
  all_goals
    go_wp2_with fail
    refine (yesOrNo_any _ _).mono ?_
    rintro e w' ⟨rfl, rfl⟩
    go_wp2_with fail
    go_ret2
    exact ⟨rfl, Hb4.out⟩
set_option maxRecDepth 100000 in
set_option maxHeartbeats 2000000 in
theorem result_or (nm a b kn df : List UInt8) (lo hi : Nat) (no lg : Bool) (w : World) (ha : a.length ≤ 1000) (hb : b.length ≤ 1000) (hE : Env w) (h1 : keyFits nm a = 0) (h2 : keyFits nm b = 0) (hr : rowOf nm = some ⟨kn, 2, lo, hi, df, no, lg⟩) (x y : Bool) (ya : (a = [89, 101, 115] ∧ x = true) ∨ (a = [78, 111] ∧ x = false)) (yb : (b = [89, 101, 115] ∧ y = true) ∨ (b = [78, 111] ∧ y = false)) :
    Calls Tryz.prog 64 #[.string (S nm), .string (S a), .string (S b)] w (RetSN w (yesNo (x || y), 0)) := by
  have i0 := two_index0 a b
  have i1 := two_index1 a b
  have hb0 := (Below.refl w.heap.size w).alloc (Nat.le_refl _) (.cells #[.string (S a), .string (S b)] 185)
  obtain ⟨W0, hW0⟩ : ∃ W0, w.alloc (.cells #[.string (S a), .string (S b)] 185) = W0 := ⟨_, rfl⟩
  have bV := Blk.new w #[.string (S a), .string (S b)] 185
  rw [hW0] at hb0 bV
  obtain ⟨v0, v1⟩ := bV.two
  have Hb0 := Lib.hid hb0
  have HV := Lib.hid bV
  have FA := fits_any nm a W0 ha (hE.later hb0)
  rw [h1] at FA
  have FA := Lib.hid FA
  have FB := Lib.hid (fun W (h : Below w.heap.size w W) => show Calls Tryz.prog 81 #[.string (S nm), .string (S b)] W (RetErrN W 0) from by
    have := fits_any nm b W hb (hE.later h)
    rwa [h2] at this)
  have OF := Lib.hid (fun W => of_row (s := nm) W hr)
  clear hE hb0 bV h1 h2 hr
  go_enter Tryz.func64, Tryz.ntmps64
  go_wp2_with fail
  refine wp_loop_rounds 3 ?_
  rw [rounds_succ]
  go_wp2_with fail
  refine FA.out.mono ?_
  rintro e w1 ⟨rfl, hb1⟩
  have Hb1 := Lib.hid (below_then Hb0.out hb1)
  have FB1 := Lib.hid (FB.out w1 Hb1.out)
  have HV1 := Lib.hid (HV.out.later hb1)
  clear hb1 FB FA v0 v1
  rw [show errV ((0 : Nat) : Int) = .nilIface from rfl]
  go_wp2_with fail
  rw [rounds_succ]
  go_wp2_with fail
  refine FB1.out.mono ?_
  rintro e w2 ⟨rfl, hb2⟩
  have Hb2 := Lib.hid (below_then Hb1.out hb2)
  have HV2 := Lib.hid (HV1.out.later hb2)
  clear hb2 FB1
  rw [show errV ((0 : Nat) : Int) = .nilIface from rfl]
  go_wp2_with fail
  rw [rounds_succ]
  go_wp2_with fail
  refine (OF.out w2).mono ?_
  rintro e w3 ⟨rfl, hb3⟩
  have hV3 := HV2.out.later hb3
  obtain ⟨w4, hw4⟩ : ∃ w4, w3.alloc (.cells #[.string (S kn), .int .i64 2, .int .i64 (lo : Int), .int .i64 (hi : Int), .string (S df), .bool no, .bool lg] 187) = w4 := ⟨_, rfl⟩
  have Hb4 := Lib.hid (show Below w.heap.size w w4 by rw [← hw4]; exact (below_then Hb2.out hb3).alloc (below_then Hb2.out hb3).size _)
  have hV4 : Blk w4 w.heap.size #[.string (S a), .string (S b)] 185 := by rw [← hw4]; exact hV3.alloc _
  have bK : Blk w4 w3.heap.size #[.string (S kn), .int .i64 2, .int .i64 (lo : Int), .int .i64 (hi : Int), .string (S df), .bool no, .bool lg] 187 := by rw [← hw4]; exact Blk.new w3 _ _
  obtain ⟨c0, c1, c2, c3, c4, c5, c6⟩ := bK.seven
  obtain ⟨v0, v1⟩ := hV4.two
  clear hb3 hV3 bK hV4 OF
  rcases ya with ⟨rfl, rfl⟩ | ⟨rfl, rfl⟩ <;> rcases yb with ⟨rfl, rfl⟩ | ⟨rfl, rfl⟩
  all_goals
    go_wp2_with fail
    refine (yesOrNo_any _ _).mono ?_
    rintro e w' ⟨rfl, rfl⟩
    go_wp2_with fail
    go_ret2
    exact ⟨rfl, Hb4.out⟩
set_option maxRecDepth 100000 in
set_option maxHeartbeats 2000000 in
theorem result_least (nm a b kn df : List UInt8) (lo hi : Nat) (no lg : Bool) (w : World) (ha : a.length ≤ 1000) (hb : b.length ≤ 1000) (hE : Env w) (h1 : keyFits nm a = 0) (h2 : keyFits nm b = 0) (hr : rowOf nm = some ⟨kn, 3, lo, hi, df, no, lg⟩) (n m : Nat) (hn : numE a lo hi = ((n : Int), 0)) (hm : numE b lo hi = ((m : Int), 0)) (hn40 : n < 1099511627776) (hm40 : m < 1099511627776) :
    Calls Tryz.prog 64 #[.string (S nm), .string (S a), .string (S b)] w (RetSN w (Lib.decDigits (min n m), 0)) := by
  have i0 := two_index0 a b
  have i1 := two_index1 a b
  have hb0 := (Below.refl w.heap.size w).alloc (Nat.le_refl _) (.cells #[.string (S a), .string (S b)] 185)
  obtain ⟨W0, hW0⟩ : ∃ W0, w.alloc (.cells #[.string (S a), .string (S b)] 185) = W0 := ⟨_, rfl⟩
  have bV := Blk.new w #[.string (S a), .string (S b)] 185
  rw [hW0] at hb0 bV
  obtain ⟨v0, v1⟩ := bV.two
  have Hb0 := Lib.hid hb0
  have HV := Lib.hid bV
  have FA := fits_any nm a W0 ha (hE.later hb0)
  rw [h1] at FA
  have FA := Lib.hid FA
  have FB := Lib.hid (fun W (h : Below w.heap.size w W) => show Calls Tryz.prog 81 #[.string (S nm), .string (S b)] W (RetErrN W 0) from by
    have := fits_any nm b W hb (hE.later h)
    rwa [h2] at this)
  have OF := Lib.hid (fun W => of_row (s := nm) W hr)
  have NU := Lib.hid (fun W (h : Below w.heap.size w W) => numbers_any a b kn df (lo : Int) (hi : Int) 3 no lg (n : Int) (m : Int) W ha hb (hE.later h) hn hm)
  have IT := Lib.hid (fun W (h : Below w.heap.size w W) => itoa_any (min n m) W (by omega) (hE.later h))
  have hmm : ((min n m : Nat) : Int) = min (n : Int) (m : Int) := by omega
  rw [hmm] at IT
  clear hmm hn hm hn40 hm40
  clear hE hb0 bV h1 h2 hr
  go_enter Tryz.func64, Tryz.ntmps64
  go_wp2_with fail
  refine wp_loop_rounds 3 ?_
  rw [rounds_succ]
  go_wp2_with fail
  refine FA.out.mono ?_
  rintro e w1 ⟨rfl, hb1⟩
  have Hb1 := Lib.hid (below_then Hb0.out hb1)
  have FB1 := Lib.hid (FB.out w1 Hb1.out)
  have HV1 := Lib.hid (HV.out.later hb1)
  clear hb1 FB FA v0 v1
  rw [show errV ((0 : Nat) : Int) = .nilIface from rfl]
  go_wp2_with fail
  rw [rounds_succ]
  go_wp2_with fail
  refine FB1.out.mono ?_
  rintro e w2 ⟨rfl, hb2⟩
  have Hb2 := Lib.hid (below_then Hb1.out hb2)
  have HV2 := Lib.hid (HV1.out.later hb2)
  clear hb2 FB1
  rw [show errV ((0 : Nat) : Int) = .nilIface from rfl]
  go_wp2_with fail
  rw [rounds_succ]
  go_wp2_with fail
  refine (OF.out w2).mono ?_
  rintro e w3 ⟨rfl, hb3⟩
  have hV3 := HV2.out.later hb3
  obtain ⟨w4, hw4⟩ : ∃ w4, w3.alloc (.cells #[.string (S kn), .int .i64 3, .int .i64 (lo : Int), .int .i64 (hi : Int), .string (S df), .bool no, .bool lg] 187) = w4 := ⟨_, rfl⟩
  have Hb4 := Lib.hid (show Below w.heap.size w w4 by rw [← hw4]; exact (below_then Hb2.out hb3).alloc (below_then Hb2.out hb3).size _)
  have hV4 : Blk w4 w.heap.size #[.string (S a), .string (S b)] 185 := by rw [← hw4]; exact hV3.alloc _
  have bK : Blk w4 w3.heap.size #[.string (S kn), .int .i64 3, .int .i64 (lo : Int), .int .i64 (hi : Int), .string (S df), .bool no, .bool lg] 187 := by rw [← hw4]; exact Blk.new w3 _ _
  obtain ⟨c0, c1, c2, c3, c4, c5, c6⟩ := bK.seven
  obtain ⟨v0, v1⟩ := hV4.two
  clear hb3 hV3 bK hV4 OF
  have NU4 := Lib.hid (NU.out w4 Hb4.out)
  clear NU
  go_wp2_with fail
  refine NU4.out.mono ?_
  rintro e w5 ⟨rfl, hb5⟩
  obtain ⟨w6, hw6⟩ : ∃ w6, w5.alloc (.cells #[.int .i64 (n : Int), .int .i64 (m : Int)] 191) = w6 := ⟨_, rfl⟩
  have Hb6 := Lib.hid (show Below w.heap.size w w6 by rw [← hw6]; exact (below_then Hb4.out hb5).alloc (below_then Hb4.out hb5).size _)
  have b6 : Blk w6 w5.heap.size #[.int .i64 (n : Int), .int .i64 (m : Int)] 191 := by rw [← hw6]; exact Blk.new w5 _ _
  obtain ⟨d0, d1⟩ := b6.two
  have IT6 := Lib.hid (IT.out w6 Hb6.out)
  clear hb5 b6 NU4 IT
  go_wp2_with fail
  refine IT6.out.mono ?_
  rintro e w7 ⟨rfl, hb7⟩
  have Hb7 := Lib.hid (below_then Hb6.out hb7)
  clear hb7
  go_wp2_with fail
  go_ret2
  exact ⟨rfl, Hb7.out⟩
set_option maxRecDepth 100000 in
set_option maxHeartbeats 2000000 in
theorem result_most (nm a b kn df : List UInt8) (lo hi : Nat) (no lg : Bool) (w : World) (ha : a.length ≤ 1000) (hb : b.length ≤ 1000) (hE : Env w) (h1 : keyFits nm a = 0) (h2 : keyFits nm b = 0) (hr : rowOf nm = some ⟨kn, 4, lo, hi, df, no, lg⟩) (n m : Nat) (hn : numE a lo hi = ((n : Int), 0)) (hm : numE b lo hi = ((m : Int), 0)) (hn40 : n < 1099511627776) (hm40 : m < 1099511627776) :
    Calls Tryz.prog 64 #[.string (S nm), .string (S a), .string (S b)] w (RetSN w (Lib.decDigits (max n m), 0)) := by
  have i0 := two_index0 a b
  have i1 := two_index1 a b
  have hb0 := (Below.refl w.heap.size w).alloc (Nat.le_refl _) (.cells #[.string (S a), .string (S b)] 185)
  obtain ⟨W0, hW0⟩ : ∃ W0, w.alloc (.cells #[.string (S a), .string (S b)] 185) = W0 := ⟨_, rfl⟩
  have bV := Blk.new w #[.string (S a), .string (S b)] 185
  rw [hW0] at hb0 bV
  obtain ⟨v0, v1⟩ := bV.two
  have Hb0 := Lib.hid hb0
  have HV := Lib.hid bV
  have FA := fits_any nm a W0 ha (hE.later hb0)
  rw [h1] at FA
  have FA := Lib.hid FA
  have FB := Lib.hid (fun W (h : Below w.heap.size w W) => show Calls Tryz.prog 81 #[.string (S nm), .string (S b)] W (RetErrN W 0) from by
    have := fits_any nm b W hb (hE.later h)
    rwa [h2] at this)
  have OF := Lib.hid (fun W => of_row (s := nm) W hr)
  have NU := Lib.hid (fun W (h : Below w.heap.size w W) => numbers_any a b kn df (lo : Int) (hi : Int) 4 no lg (n : Int) (m : Int) W ha hb (hE.later h) hn hm)
  have IT := Lib.hid (fun W (h : Below w.heap.size w W) => itoa_any (max n m) W (by omega) (hE.later h))
  have hmm : ((max n m : Nat) : Int) = max (n : Int) (m : Int) := by omega
  rw [hmm] at IT
  clear hmm hn hm hn40 hm40
  clear hE hb0 bV h1 h2 hr
  go_enter Tryz.func64, Tryz.ntmps64
  go_wp2_with fail
  refine wp_loop_rounds 3 ?_
  rw [rounds_succ]
  go_wp2_with fail
  refine FA.out.mono ?_
  rintro e w1 ⟨rfl, hb1⟩
  have Hb1 := Lib.hid (below_then Hb0.out hb1)
  have FB1 := Lib.hid (FB.out w1 Hb1.out)
  have HV1 := Lib.hid (HV.out.later hb1)
  clear hb1 FB FA v0 v1
  rw [show errV ((0 : Nat) : Int) = .nilIface from rfl]
  go_wp2_with fail
  rw [rounds_succ]
  go_wp2_with fail
  refine FB1.out.mono ?_
  rintro e w2 ⟨rfl, hb2⟩
  have Hb2 := Lib.hid (below_then Hb1.out hb2)
  have HV2 := Lib.hid (HV1.out.later hb2)
  clear hb2 FB1
  rw [show errV ((0 : Nat) : Int) = .nilIface from rfl]
  go_wp2_with fail
  rw [rounds_succ]
  go_wp2_with fail
  refine (OF.out w2).mono ?_
  rintro e w3 ⟨rfl, hb3⟩
  have hV3 := HV2.out.later hb3
  obtain ⟨w4, hw4⟩ : ∃ w4, w3.alloc (.cells #[.string (S kn), .int .i64 4, .int .i64 (lo : Int), .int .i64 (hi : Int), .string (S df), .bool no, .bool lg] 187) = w4 := ⟨_, rfl⟩
  have Hb4 := Lib.hid (show Below w.heap.size w w4 by rw [← hw4]; exact (below_then Hb2.out hb3).alloc (below_then Hb2.out hb3).size _)
  have hV4 : Blk w4 w.heap.size #[.string (S a), .string (S b)] 185 := by rw [← hw4]; exact hV3.alloc _
  have bK : Blk w4 w3.heap.size #[.string (S kn), .int .i64 4, .int .i64 (lo : Int), .int .i64 (hi : Int), .string (S df), .bool no, .bool lg] 187 := by rw [← hw4]; exact Blk.new w3 _ _
  obtain ⟨c0, c1, c2, c3, c4, c5, c6⟩ := bK.seven
  obtain ⟨v0, v1⟩ := hV4.two
  clear hb3 hV3 bK hV4 OF
  have NU4 := Lib.hid (NU.out w4 Hb4.out)
  clear NU
  go_wp2_with fail
  refine NU4.out.mono ?_
  rintro e w5 ⟨rfl, hb5⟩
  obtain ⟨w6, hw6⟩ : ∃ w6, w5.alloc (.cells #[.int .i64 (n : Int), .int .i64 (m : Int)] 191) = w6 := ⟨_, rfl⟩
  have Hb6 := Lib.hid (show Below w.heap.size w w6 by rw [← hw6]; exact (below_then Hb4.out hb5).alloc (below_then Hb4.out hb5).size _)
  have b6 : Blk w6 w5.heap.size #[.int .i64 (n : Int), .int .i64 (m : Int)] 191 := by rw [← hw6]; exact Blk.new w5 _ _
  obtain ⟨d0, d1⟩ := b6.two
  have IT6 := Lib.hid (IT.out w6 Hb6.out)
  clear hb5 b6 NU4 IT
  go_wp2_with fail
  refine IT6.out.mono ?_
  rintro e w7 ⟨rfl, hb7⟩
  have Hb7 := Lib.hid (below_then Hb6.out hb7)
  clear hb7
  go_wp2_with fail
  go_ret2
  exact ⟨rfl, Hb7.out⟩
set_option maxRecDepth 100000 in
set_option maxHeartbeats 2000000 in
theorem result_first (nm a b kn df : List UInt8) (lo hi : Nat) (no lg : Bool) (w : World) (ha : a.length ≤ 1000) (hb : b.length ≤ 1000) (hE : Env w) (h1 : keyFits nm a = 0) (h2 : keyFits nm b = 0) (hr : rowOf nm = some ⟨kn, 5, lo, hi, df, no, lg⟩) :
    Calls Tryz.prog 64 #[.string (S nm), .string (S a), .string (S b)] w (RetSN w (firstN (firstR a b))) := by
  have i0 := two_index0 a b
  have i1 := two_index1 a b
  have hb0 := (Below.refl w.heap.size w).alloc (Nat.le_refl _) (.cells #[.string (S a), .string (S b)] 185)
  obtain ⟨W0, hW0⟩ : ∃ W0, w.alloc (.cells #[.string (S a), .string (S b)] 185) = W0 := ⟨_, rfl⟩
  have bV := Blk.new w #[.string (S a), .string (S b)] 185
  rw [hW0] at hb0 bV
  obtain ⟨v0, v1⟩ := bV.two
  have Hb0 := Lib.hid hb0
  have HV := Lib.hid bV
  have FA := fits_any nm a W0 ha (hE.later hb0)
  rw [h1] at FA
  have FA := Lib.hid FA
  have FB := Lib.hid (fun W (h : Below w.heap.size w W) => show Calls Tryz.prog 81 #[.string (S nm), .string (S b)] W (RetErrN W 0) from by
    have := fits_any nm b W hb (hE.later h)
    rwa [h2] at this)
  have OF := Lib.hid (fun W => of_row (s := nm) W hr)
  have FI := Lib.hid (fun W (h : Below w.heap.size w W) => first_any a b W ha hb (hE.later h).mc)
  clear hE hb0 bV h1 h2 hr
  go_enter Tryz.func64, Tryz.ntmps64
  go_wp2_with fail
  refine wp_loop_rounds 3 ?_
  rw [rounds_succ]
  go_wp2_with fail
  refine FA.out.mono ?_
  rintro e w1 ⟨rfl, hb1⟩
  have Hb1 := Lib.hid (below_then Hb0.out hb1)
  have FB1 := Lib.hid (FB.out w1 Hb1.out)
  have HV1 := Lib.hid (HV.out.later hb1)
  clear hb1 FB FA v0 v1
  rw [show errV ((0 : Nat) : Int) = .nilIface from rfl]
  go_wp2_with fail
  rw [rounds_succ]
  go_wp2_with fail
  refine FB1.out.mono ?_
  rintro e w2 ⟨rfl, hb2⟩
  have Hb2 := Lib.hid (below_then Hb1.out hb2)
  have HV2 := Lib.hid (HV1.out.later hb2)
  clear hb2 FB1
  rw [show errV ((0 : Nat) : Int) = .nilIface from rfl]
  go_wp2_with fail
  rw [rounds_succ]
  go_wp2_with fail
  refine (OF.out w2).mono ?_
  rintro e w3 ⟨rfl, hb3⟩
  have hV3 := HV2.out.later hb3
  obtain ⟨w4, hw4⟩ : ∃ w4, w3.alloc (.cells #[.string (S kn), .int .i64 5, .int .i64 (lo : Int), .int .i64 (hi : Int), .string (S df), .bool no, .bool lg] 187) = w4 := ⟨_, rfl⟩
  have Hb4 := Lib.hid (show Below w.heap.size w w4 by rw [← hw4]; exact (below_then Hb2.out hb3).alloc (below_then Hb2.out hb3).size _)
  have hV4 : Blk w4 w.heap.size #[.string (S a), .string (S b)] 185 := by rw [← hw4]; exact hV3.alloc _
  have bK : Blk w4 w3.heap.size #[.string (S kn), .int .i64 5, .int .i64 (lo : Int), .int .i64 (hi : Int), .string (S df), .bool no, .bool lg] 187 := by rw [← hw4]; exact Blk.new w3 _ _
  obtain ⟨c0, c1, c2, c3, c4, c5, c6⟩ := bK.seven
  obtain ⟨v0, v1⟩ := hV4.two
  clear hb3 hV3 bK hV4 OF
  have FI4 := Lib.hid (FI.out w4 Hb4.out)
  clear FI
  go_wp2_with fail
  refine FI4.out.mono ?_
  rintro e w5 ⟨rfl, hb5⟩
  have Hb5 := Lib.hid (below_then Hb4.out hb5)
  clear hb5
  go_wp2_with fail
  go_ret2
  exact ⟨rfl, Hb5.out⟩
set_option maxRecDepth 100000 in
set_option maxHeartbeats 2000000 in
theorem result_told (nm a b kn df : List UInt8) (lo hi : Nat) (no lg : Bool) (w : World) (ha : a.length ≤ 1000) (hb : b.length ≤ 1000) (hE : Env w) (h1 : keyFits nm a = 0) (h2 : keyFits nm b = 0) (hr : rowOf nm = some ⟨kn, 6, lo, hi, df, no, lg⟩) :
    Calls Tryz.prog 64 #[.string (S nm), .string (S a), .string (S b)] w (RetSN w (a, 0)) := by
  have i0 := two_index0 a b
  have i1 := two_index1 a b
  have hb0 := (Below.refl w.heap.size w).alloc (Nat.le_refl _) (.cells #[.string (S a), .string (S b)] 185)
  obtain ⟨W0, hW0⟩ : ∃ W0, w.alloc (.cells #[.string (S a), .string (S b)] 185) = W0 := ⟨_, rfl⟩
  have bV := Blk.new w #[.string (S a), .string (S b)] 185
  rw [hW0] at hb0 bV
  obtain ⟨v0, v1⟩ := bV.two
  have Hb0 := Lib.hid hb0
  have HV := Lib.hid bV
  have FA := fits_any nm a W0 ha (hE.later hb0)
  rw [h1] at FA
  have FA := Lib.hid FA
  have FB := Lib.hid (fun W (h : Below w.heap.size w W) => show Calls Tryz.prog 81 #[.string (S nm), .string (S b)] W (RetErrN W 0) from by
    have := fits_any nm b W hb (hE.later h)
    rwa [h2] at this)
  have OF := Lib.hid (fun W => of_row (s := nm) W hr)
  clear hE hb0 bV h1 h2 hr
  go_enter Tryz.func64, Tryz.ntmps64
  go_wp2_with fail
  refine wp_loop_rounds 3 ?_
  rw [rounds_succ]
  go_wp2_with fail
  refine FA.out.mono ?_
  rintro e w1 ⟨rfl, hb1⟩
  have Hb1 := Lib.hid (below_then Hb0.out hb1)
  have FB1 := Lib.hid (FB.out w1 Hb1.out)
  have HV1 := Lib.hid (HV.out.later hb1)
  clear hb1 FB FA v0 v1
  rw [show errV ((0 : Nat) : Int) = .nilIface from rfl]
  go_wp2_with fail
  rw [rounds_succ]
  go_wp2_with fail
  refine FB1.out.mono ?_
  rintro e w2 ⟨rfl, hb2⟩
  have Hb2 := Lib.hid (below_then Hb1.out hb2)
  have HV2 := Lib.hid (HV1.out.later hb2)
  clear hb2 FB1
  rw [show errV ((0 : Nat) : Int) = .nilIface from rfl]
  go_wp2_with fail
  rw [rounds_succ]
  go_wp2_with fail
  refine (OF.out w2).mono ?_
  rintro e w3 ⟨rfl, hb3⟩
  have hV3 := HV2.out.later hb3
  obtain ⟨w4, hw4⟩ : ∃ w4, w3.alloc (.cells #[.string (S kn), .int .i64 6, .int .i64 (lo : Int), .int .i64 (hi : Int), .string (S df), .bool no, .bool lg] 187) = w4 := ⟨_, rfl⟩
  have Hb4 := Lib.hid (show Below w.heap.size w w4 by rw [← hw4]; exact (below_then Hb2.out hb3).alloc (below_then Hb2.out hb3).size _)
  have hV4 : Blk w4 w.heap.size #[.string (S a), .string (S b)] 185 := by rw [← hw4]; exact hV3.alloc _
  have bK : Blk w4 w3.heap.size #[.string (S kn), .int .i64 6, .int .i64 (lo : Int), .int .i64 (hi : Int), .string (S df), .bool no, .bool lg] 187 := by rw [← hw4]; exact Blk.new w3 _ _
  obtain ⟨c0, c1, c2, c3, c4, c5, c6⟩ := bK.seven
  obtain ⟨v0, v1⟩ := hV4.two
  clear hb3 hV3 bK hV4 OF
  go_wp2_with fail
  go_ret2
  exact ⟨rfl, Hb4.out⟩
set_option maxRecDepth 100000 in
set_option maxHeartbeats 2000000 in
theorem result_number (nm a b kn df : List UInt8) (lo hi : Nat) (no lg : Bool) (w : World) (ha : a.length ≤ 1000) (hb : b.length ≤ 1000) (hE : Env w) (h1 : keyFits nm a = 0) (h2 : keyFits nm b = 0) (hr : rowOf nm = some ⟨kn, 7, lo, hi, df, no, lg⟩) :
    Calls Tryz.prog 64 #[.string (S nm), .string (S a), .string (S b)] w (RetSN w (a, 0)) := by
  have i0 := two_index0 a b
  have i1 := two_index1 a b
  have hb0 := (Below.refl w.heap.size w).alloc (Nat.le_refl _) (.cells #[.string (S a), .string (S b)] 185)
  obtain ⟨W0, hW0⟩ : ∃ W0, w.alloc (.cells #[.string (S a), .string (S b)] 185) = W0 := ⟨_, rfl⟩
  have bV := Blk.new w #[.string (S a), .string (S b)] 185
  rw [hW0] at hb0 bV
  obtain ⟨v0, v1⟩ := bV.two
  have Hb0 := Lib.hid hb0
  have HV := Lib.hid bV
  have FA := fits_any nm a W0 ha (hE.later hb0)
  rw [h1] at FA
  have FA := Lib.hid FA
  have FB := Lib.hid (fun W (h : Below w.heap.size w W) => show Calls Tryz.prog 81 #[.string (S nm), .string (S b)] W (RetErrN W 0) from by
    have := fits_any nm b W hb (hE.later h)
    rwa [h2] at this)
  have OF := Lib.hid (fun W => of_row (s := nm) W hr)
  clear hE hb0 bV h1 h2 hr
  go_enter Tryz.func64, Tryz.ntmps64
  go_wp2_with fail
  refine wp_loop_rounds 3 ?_
  rw [rounds_succ]
  go_wp2_with fail
  refine FA.out.mono ?_
  rintro e w1 ⟨rfl, hb1⟩
  have Hb1 := Lib.hid (below_then Hb0.out hb1)
  have FB1 := Lib.hid (FB.out w1 Hb1.out)
  have HV1 := Lib.hid (HV.out.later hb1)
  clear hb1 FB FA v0 v1
  rw [show errV ((0 : Nat) : Int) = .nilIface from rfl]
  go_wp2_with fail
  rw [rounds_succ]
  go_wp2_with fail
  refine FB1.out.mono ?_
  rintro e w2 ⟨rfl, hb2⟩
  have Hb2 := Lib.hid (below_then Hb1.out hb2)
  have HV2 := Lib.hid (HV1.out.later hb2)
  clear hb2 FB1
  rw [show errV ((0 : Nat) : Int) = .nilIface from rfl]
  go_wp2_with fail
  rw [rounds_succ]
  go_wp2_with fail
  refine (OF.out w2).mono ?_
  rintro e w3 ⟨rfl, hb3⟩
  have hV3 := HV2.out.later hb3
  obtain ⟨w4, hw4⟩ : ∃ w4, w3.alloc (.cells #[.string (S kn), .int .i64 7, .int .i64 (lo : Int), .int .i64 (hi : Int), .string (S df), .bool no, .bool lg] 187) = w4 := ⟨_, rfl⟩
  have Hb4 := Lib.hid (show Below w.heap.size w w4 by rw [← hw4]; exact (below_then Hb2.out hb3).alloc (below_then Hb2.out hb3).size _)
  have hV4 : Blk w4 w.heap.size #[.string (S a), .string (S b)] 185 := by rw [← hw4]; exact hV3.alloc _
  have bK : Blk w4 w3.heap.size #[.string (S kn), .int .i64 7, .int .i64 (lo : Int), .int .i64 (hi : Int), .string (S df), .bool no, .bool lg] 187 := by rw [← hw4]; exact Blk.new w3 _ _
  obtain ⟨c0, c1, c2, c3, c4, c5, c6⟩ := bK.seven
  obtain ⟨v0, v1⟩ := hV4.two
  clear hb3 hV3 bK hV4 OF
  go_wp2_with fail
  go_ret2
  exact ⟨rfl, Hb4.out⟩
theorem keyRes_ok {nm a b : List UInt8} {k : Ke} (hr : rowOf nm = some k) (h1 : fitK k a = 0) (h2 : fitK k b = 0) : keyRes nm a b = resOk k a b := by
  unfold keyRes
  rw [hr]
  exact resK_ok h1 h2
theorem numE_of {s : List UInt8} {lo hi n : Nat} (h : numR s = some n) (h1 : lo ≤ n) (h2 : n ≤ hi) : numE s (lo : Int) (hi : Int) = ((n : Int), 0) := numE_in h (by omega) (by omega)
theorem yes_or {a : List UInt8} (h : a = yesL ∨ a = noL) : (a = [89, 101, 115] ∧ decide (a = yesL) = true) ∨ (a = [78, 111] ∧ decide (a = yesL) = false) := by
  rcases h with rfl | rfl
  · exact .inl ⟨rfl, by decide⟩
  · exact .inr ⟨rfl, by decide⟩
theorem result_any (nm a b : List UInt8) (w : World) (ha : a.length ≤ 1000) (hb : b.length ≤ 1000) (hE : Env w) :
    Calls Tryz.prog 64 #[.string (S nm), .string (S a), .string (S b)] w (RetSN w (keyRes nm a b)) := by
  by_cases h1 : keyFits nm a = 0
  · by_cases h2 : keyFits nm b = 0
    · obtain ⟨k, hr, f1⟩ := keyFits_row h1
      obtain ⟨k', hr', f2⟩ := keyFits_row h2
      obtain rfl : k = k' := Option.some.inj (hr.symm.trans hr')
      have hk := rowOf_ok hr
      rw [keyRes_ok hr f1 f2]
      have hc : k.kd = 1 ∨ k.kd = 2 ∨ k.kd = 3 ∨ k.kd = 4 ∨ k.kd = 5 ∨ k.kd = 6 ∨ k.kd = 7 := by omega
      obtain ⟨kn, kd, lo, hi, df, no, lg⟩ := k
      simp only at hc
      rcases hc with rfl | rfl | rfl | rfl | rfl | rfl | rfl
      · rw [resOk_and _ _ rfl]
        exact result_and nm a b kn df lo hi no lg w ha hb hE h1 h2 hr _ _ (yes_or (fitK_yes0 (.inl rfl) f1)) (yes_or (fitK_yes0 (.inl rfl) f2))
      · rw [resOk_or _ _ rfl]
        exact result_or nm a b kn df lo hi no lg w ha hb hE h1 h2 hr _ _ (yes_or (fitK_yes0 (.inr rfl) f1)) (yes_or (fitK_yes0 (.inr rfl) f2))
      · obtain ⟨n, hn, n1, n2⟩ := fitK_num0 (.inl rfl) f1
        obtain ⟨m, hm, m1, m2⟩ := fitK_num0 (.inl rfl) f2
        rw [resOk_least _ _ rfl, numD_of hn, numD_of hm]
        exact result_least nm a b kn df lo hi no lg w ha hb hE h1 h2 hr n m (numE_of hn n1 n2) (numE_of hm m1 m2) (numR_lt hn) (numR_lt hm)
      · obtain ⟨n, hn, n1, n2⟩ := fitK_num0 (.inr (.inl rfl)) f1
        obtain ⟨m, hm, m1, m2⟩ := fitK_num0 (.inr (.inl rfl)) f2
        rw [resOk_most _ _ rfl, numD_of hn, numD_of hm]
        exact result_most nm a b kn df lo hi no lg w ha hb hE h1 h2 hr n m (numE_of hn n1 n2) (numE_of hm m1 m2) (numR_lt hn) (numR_lt hm)
      · rw [resOk_first _ _ rfl]
        have := result_first nm a b kn df lo hi no lg w ha hb hE h1 h2 hr
        unfold firstN at this
        cases hf : firstR a b with
        | none => rw [hf] at this; exact this
        | some x => rw [hf] at this; exact this
      · rw [resOk_told _ _ (.inl rfl)]
        exact result_told nm a b kn df lo hi no lg w ha hb hE h1 h2 hr
      · rw [resOk_told _ _ (.inr rfl)]
        exact result_number nm a b kn df lo hi no lg w ha hb hE h1 h2 hr
    · exact result_bad nm a b w ha hb hE (.inr h2)
  · exact result_bad nm a b w ha hb hE (.inl h1)
end Go.Proofs.YtmkebjdmkkjloaaGreatDoor
namespace Go.Proofs.YtmkebjdmkkjloaaGreatDoor
open Go.RowKit
theorem res_at {nm a b x : List UInt8} {n : Nat} {ev : Value} (w : World) (h : keyRes nm a b = (x, n)) (he : errV (n : Int) = ev) (ha : a.length ≤ 1000) (hb : b.length ≤ 1000) (hE : Env w) :
    Calls Tryz.prog 64 #[.string (S nm), .string (S a), .string (S b)] w fun e w' => e = .returned (.tuple #[.string (S x), ev]) ∧ Below w.heap.size w w' := by
  have C := result_any nm a b w ha hb hE
  unfold RetSN at C
  rw [h] at C
  simp only at C
  rw [he] at C
  exact C
end Go.Proofs.YtmkebjdmkkjloaaGreatDoor
namespace Go.Proofs.YtmkebjdmkkjloaaGreatDoor
open Go Go.RowKit
set_option linter.unusedVariables false
def RetTake (w : World) (B : Nat) (H : Nat → Prop) (nb : Nat) (mv : Value) (mine m : List Pr) (s : List UInt8) (e : Ending) (w' : World) : Prop := ∃ H', e = .returned (.string (S s)) ∧ NegAt w' B H' nb mv mine m ∧ Keeps w.heap.size w w' H H'
set_option maxRecDepth 100000 in
set_option maxHeartbeats 8000000 in
theorem take_any {w : World} {B : Nat} {H : Nat → Prop} {nb : Nat} {mv : Value} {mine recd : List Pr} (k d : List UInt8) (lg dc : Bool) (h : NegAt w B H nb mv mine recd) (hl : recd.length ≤ 900) (hM : MineOk mine) (hp : wrongP ⟨k, d⟩ = 0) (hE : Env (offW H w)) :
    Calls Tryz.prog 135 #[.pointer (some ⟨nb, 0, none⟩), .agg #[.string (S k), .string (S d)], .bool lg, .bool dc] w (RetTake w B H nb mv mine (recN recd k (oneN mine lg dc ⟨k, d⟩).2) ((oneN mine lg dc ⟨k, d⟩).1.getD [])) := by
  have HN := Lib.hid h
  have hka := thick_okP hp
  simp only at hka
  obtain ⟨wp, hwp⟩ : ∃ wp, w.alloc (.cells #[.string (S k), .string (S d)] 61) = wp := ⟨_, rfl⟩
  have hbp : Below w.heap.size w wp := by rw [← hwp]; exact (Below.refl _ _).alloc (Nat.le_refl _) _
  have hPp : Blk wp w.heap.size #[.string (S k), .string (S d)] 61 := by rw [← hwp]; exact Blk.new w _ _
  obtain ⟨pb, hpb⟩ : ∃ pb, w.heap.size = pb := ⟨_, rfl⟩
  rw [hpb] at hPp
  have HPp := Lib.hid hPp
  have Hbp := Lib.hid hbp
  have Hnp := Lib.hid (show nb < pb by rw [← hpb]; exact (h.base nb h.own).2)
  obtain ⟨x0, x1⟩ := HPp.out.two
  clear h hbp hPp
  cases hr : rowOf k with
  | none =>
    rw [oneN_no (p := ⟨k, d⟩) hr]
    have C := Lib.hid (of_no wp hr)
    show Calls Tryz.prog _ _ w (RetTake w B H nb mv mine recd notL)
    unfold notL
    clear hr hE hM hp
    go_enter Tryz.func135, Tryz.ntmps135
    go_wp2_with fail
    refine C.out.mono ?_
    rintro e w1 ⟨rfl, hb1⟩
    have Hb1 := Lib.hid ((below_then Hbp.out hb1).alloc (below_then Hbp.out hb1).size (.cells #[.string (S []), .int .i64 0, .int .i64 0, .int .i64 0, .string (S []), .bool false, .bool false] 187))
    clear hb1
    go_wp2_with fail
    go_ret
    exact ⟨H, rfl, HN.out.later Hb1.out, Keeps.of Hb1.out H⟩
  | some ke =>
    have hkk := rowOf_ok hr
    have hnm := (rowOf_isKey hr).2
    rw [oneN_row (p := ⟨k, d⟩) hr]
    have ways := oneK_ways mine ke d lg dc
    obtain ⟨x, hx⟩ : ∃ x, ownV mine ke = x := ⟨_, rfl⟩
    have hlx : x.length ≤ 255 := by rw [← hx]; exact ownV_len hM hkk.2.2.2.2.2.1
    rw [hx] at ways
    have OW := Lib.hid (fun W (hb : Below w.heap.size w W) => show Calls Tryz.prog 152 #[.pointer (some ⟨nb, 0, none⟩), .string (S k)] W (RetVE W (x, 0)) from by
      have := ownN_any k (HN.out.later hb) (by have := hM.few; omega)
      rwa [valN_own hr, hx] at this)
    have KF := Lib.hid (fun (q : Nat) (ev : Value) (hq : fitK ke d = q) (he : errV (q : Int) = ev) W (hb : Below w.heap.size w W) => fits_at (nm := k) (v := d) (n := q) (ev := ev) W (by rw [keyFits_of hr]; exact hq) he (by omega) (hE.off.later hb))
    have RS := Lib.hid (fun (y : List UInt8) (q : Nat) (ev : Value) (hq : resK ke d x = (y, q)) (he : errV (q : Int) = ev) W (hb : Below w.heap.size w W) => res_at (nm := k) (a := d) (b := x) (x := y) (n := q) (ev := ev) W (by rw [keyRes_of hr]; exact hq) he (by omega) (by omega) (hE.off.later hb))
    have PT := Lib.hid (fun (y : List UInt8) W (hb : Below w.heap.size w W) => put_any k y (HN.out.later hb) hl)
    obtain ⟨⟨y, yn⟩, hq⟩ : ∃ q, resK ke d x = q := ⟨_, rfl⟩
    rw [hq] at ways
    simp only at ways
    have Hq := Lib.hid hq
    obtain ⟨kn, kd, lo, hi, df, no, kg⟩ := ke
    simp only at hnm
    subst hnm
    have C0 := of_row wp hr
    obtain ⟨K, hKd⟩ : ∃ K : Int, (kd : Int) = K := ⟨_, rfl⟩
    rw [hKd] at C0
    have C := Lib.hid C0
    have HK := Lib.hid hKd
    have hA' : ¬ (kg = true ∧ lg = false) → kg = false ∨ (kg = true ∧ lg = true) := by cases kg <;> cases lg <;> simp
    have hB' : ¬ (no = true ∧ dc = true) → no = false ∨ (no = true ∧ dc = false) := by cases no <;> cases dc <;> simp
    obtain ⟨R, hR⟩ : ∃ R, RetTake w B H nb mv mine (recN recd kn (oneK mine ⟨kn, kd, lo, hi, df, no, kg⟩ d lg dc).2) ((oneK mine ⟨kn, kd, lo, hi, df, no, kg⟩ d lg dc).1.getD []) = R := ⟨_, rfl⟩
    rw [hR]
    have HR := Lib.hid hR
    clear hr hkk hx hlx hq hE hM hp hka C0 hKd hl hR
    go_enter Tryz.func135, Tryz.ntmps135
    go_wp2_with fail
    refine C.out.mono ?_
    rintro e w1 ⟨rfl, hb1⟩
    obtain ⟨w6, hw6⟩ : ∃ w6, w1.alloc (.cells #[.string (S kn), .int .i64 K, .int .i64 lo, .int .i64 hi, .string (S df), .bool no, .bool kg] 187) = w6 := ⟨_, rfl⟩
    have hb6 : Below wp.heap.size wp w6 := by rw [← hw6]; exact hb1.alloc hb1.size _
    have hK6 : Blk w6 w1.heap.size #[.string (S kn), .int .i64 K, .int .i64 lo, .int .i64 hi, .string (S df), .bool no, .bool kg] 187 := by rw [← hw6]; exact Blk.new w1 _ _
    obtain ⟨kb, hkb⟩ : ∃ kb, w1.heap.size = kb := ⟨_, rfl⟩
    rw [hkb] at hK6
    have HK6 := Lib.hid hK6
    have HP6 := Lib.hid (HPp.out.later hb6)
    have Hb6 := Lib.hid (below_then Hbp.out hb6)
    clear hb1 hb6 hK6 x0 x1 C
    obtain ⟨x0, x1⟩ := HP6.out.two
    obtain ⟨c0, c1, c2, c3, c4, c5, c6⟩ := HK6.out.seven
    go_upto_region 2 with (fail)
    clear hw6
    rcases ways with ⟨hA, e⟩ | ⟨hA, hB, e⟩ | ⟨hA, hB, h3, e⟩ | ⟨hA, hB, h3, h4, e⟩ | ⟨hA, hB, h3, h4, h5, e⟩ | ⟨hA, hB, h3, h4, h5, e⟩
    all_goals try simp only at hA
    all_goals have He := Lib.hid e
    all_goals clear e
    · obtain ⟨rfl, rfl⟩ := hA
      clear hA' hB' KF RS PT OW Hq
      go_wp2_with fail
      rw [← HR.out, He.out]
      exact ⟨H, rfl, HN.out.later Hb6.out, Keeps.of Hb6.out H⟩
    · try simp only at hB
      obtain ⟨rfl, rfl⟩ := hB
      have hA2 := hA' hA
      clear hA hA' hB' KF RS PT OW Hq
      rcases hA2 with rfl | ⟨rfl, rfl⟩
      all_goals
        go_wp2_with fail
        rw [← HR.out, He.out]
        exact ⟨H, rfl, HN.out.later Hb6.out, Keeps.of Hb6.out H⟩
    · try simp only at hB
      have K3 := Lib.hid (KF.out _ _ rfl (errV_pos _ (by omega)) w6 Hb6.out)
      have hA2 := hA' hA
      have hB2 := hB' hB
      clear hA hB hA' hB' KF RS PT OW Hq h3
      rcases hA2 with rfl | ⟨rfl, rfl⟩ <;> rcases hB2 with rfl | ⟨rfl, rfl⟩
      all_goals
        go_wp2_with fail
        refine K3.out.mono ?_
        rintro e w8 ⟨rfl, hb8⟩
        have Hb8 := Lib.hid (below_then Hb6.out hb8)
        clear hb8
        go_wp2_with fail
        rw [← HR.out, He.out]
        exact ⟨H, rfl, HN.out.later Hb8.out, Keeps.of Hb8.out H⟩
    · try simp only at hB h4
      have K3 := Lib.hid (KF.out 0 .nilIface h3 rfl w6 Hb6.out)
      have hkd6 : K = 6 ∨ K = 7 := by have := HK.out; omega
      have hA2 := hA' hA
      have hB2 := hB' hB
      clear hA hB hA' hB' KF RS OW Hq h3 h4 HK
      rcases hkd6 with rfl | rfl <;> rcases hA2 with rfl | ⟨rfl, rfl⟩ <;> rcases hB2 with rfl | ⟨rfl, rfl⟩
      all_goals
        go_wp2_with fail
        refine K3.out.mono ?_
        rintro e w8 ⟨rfl, hb8⟩
        obtain ⟨y0, y1⟩ := (HP6.out.later hb8).two
        obtain ⟨d0, d1, d2, d3, d4, d5, d6⟩ := (HK6.out.later hb8).seven
        have hb9 := below_then Hb6.out hb8
        have P8 := Lib.hid (PT.out d w8 hb9)
        have Hb8 := Lib.hid hb9
        clear hb8 hb9
        go_wp2_with fail
        refine P8.out.mono ?_
        rintro e w9 ⟨H', rfl, hn, hk⟩
        have HN9 := Lib.hid hn
        have HK9 := Lib.hid hk
        clear hn hk
        go_wp2_with fail
        rw [← HR.out, He.out]
        exact ⟨H', rfl, HN9.out, (Keeps.of Hb8.out H).then HK9.out⟩
    · try simp only at hB h4
      have K3 := Lib.hid (KF.out 0 .nilIface h3 rfl w6 Hb6.out)
      have R3 := Lib.hid (RS.out y yn _ Hq.out (errV_pos _ (by omega)))
      have hkd6 : ¬ K = 6 := by have := HK.out; omega
      have hkd7 : ¬ K = 7 := by have := HK.out; omega
      have hk6b : (K == 6) = false := by simpa using hkd6
      have hk7b : (K == 7) = false := by simpa using hkd7
      have hA2 := hA' hA
      have hB2 := hB' hB
      clear hA hB hA' hB' KF RS PT Hq h3 h4 h5 HK
      rcases hA2 with rfl | ⟨rfl, rfl⟩ <;> rcases hB2 with rfl | ⟨rfl, rfl⟩
      all_goals
        go_wp2_with fail
        refine K3.out.mono ?_
        rintro e w8 ⟨rfl, hb8⟩
        have hP8 := HP6.out.later hb8
        have hK8 := HK6.out.later hb8
        obtain ⟨y0, y1⟩ := hP8.two
        obtain ⟨d0, d1, d2, d3, d4, d5, d6⟩ := hK8.seven
        have hb9 := below_then Hb6.out hb8
        have O8 := OW.out w8 hb9
        unfold RetVE at O8
        simp only [errV_0] at O8
        have O8 := Lib.hid O8
        have HP8 := Lib.hid hP8
        have HK8 := Lib.hid hK8
        have Hb8 := Lib.hid hb9
        clear hb8 hb9 hP8 hK8
        go_wp2_with fail
        refine O8.out.mono ?_
        rintro e w9 ⟨rfl, hb9⟩
        obtain ⟨v0, v1⟩ := (HP8.out.later hb9).two
        obtain ⟨e0, e1, e2, e3, e4, e5, e6⟩ := (HK8.out.later hb9).seven
        have hb10 := below_then Hb8.out hb9
        have R9 := Lib.hid (R3.out w9 hb10)
        have Hb9 := Lib.hid hb10
        clear hb9 hb10
        go_wp2_with fail
        refine R9.out.mono ?_
        rintro e w10 ⟨rfl, hb10⟩
        have Hb10 := Lib.hid (below_then Hb9.out hb10)
        clear hb10
        go_wp2_with fail
        rw [← HR.out, He.out]
        exact ⟨H, rfl, HN.out.later Hb10.out, Keeps.of Hb10.out H⟩
    · try simp only at hB h4
      subst h5
      have K3 := Lib.hid (KF.out 0 .nilIface h3 rfl w6 Hb6.out)
      have R3 := Lib.hid (RS.out y 0 .nilIface Hq.out rfl)
      have hkd6 : ¬ K = 6 := by have := HK.out; omega
      have hkd7 : ¬ K = 7 := by have := HK.out; omega
      have hk6b : (K == 6) = false := by simpa using hkd6
      have hk7b : (K == 7) = false := by simpa using hkd7
      have hA2 := hA' hA
      have hB2 := hB' hB
      clear hA hB hA' hB' KF RS Hq h3 h4 HK
      rcases hA2 with rfl | ⟨rfl, rfl⟩ <;> rcases hB2 with rfl | ⟨rfl, rfl⟩
      all_goals
        go_wp2_with fail
        refine K3.out.mono ?_
        rintro e w8 ⟨rfl, hb8⟩
        have hP8 := HP6.out.later hb8
        have hK8 := HK6.out.later hb8
        obtain ⟨y0, y1⟩ := hP8.two
        obtain ⟨d0, d1, d2, d3, d4, d5, d6⟩ := hK8.seven
        have hb9 := below_then Hb6.out hb8
        have O8 := OW.out w8 hb9
        unfold RetVE at O8
        simp only [errV_0] at O8
        have O8 := Lib.hid O8
        have HP8 := Lib.hid hP8
        have HK8 := Lib.hid hK8
        have Hb8 := Lib.hid hb9
        clear hb8 hb9 hP8 hK8
        go_wp2_with fail
        refine O8.out.mono ?_
        rintro e w9 ⟨rfl, hb9⟩
        have hK9 := HK8.out.later hb9
        obtain ⟨v0, v1⟩ := (HP8.out.later hb9).two
        obtain ⟨e0, e1, e2, e3, e4, e5, e6⟩ := hK9.seven
        have hb10 := below_then Hb8.out hb9
        have R9 := Lib.hid (R3.out w9 hb10)
        have Hb9 := Lib.hid hb10
        have HK9 := Lib.hid hK9
        clear hb9 hb10 hK9
        go_wp2_with fail
        refine R9.out.mono ?_
        rintro e w10 ⟨rfl, hb10⟩
        obtain ⟨z0, z1, z2, z3, z4, z5, z6⟩ := (HK9.out.later hb10).seven
        have hb11 := below_then Hb9.out hb10
        have P10 := Lib.hid (PT.out y w10 hb11)
        have Hb10 := Lib.hid hb11
        clear hb10 hb11
        go_wp2_with fail
        refine P10.out.mono ?_
        rintro e w11 ⟨H', rfl, hn, hk⟩
        have HN11 := Lib.hid hn
        have HK11 := Lib.hid hk
        clear hn hk
        go_wp2_with fail
        rw [← HR.out, He.out]
        exact ⟨H', rfl, HN11.out, (Keeps.of Hb10.out H).then HK11.out⟩
end Go.Proofs.YtmkebjdmkkjloaaGreatDoor
