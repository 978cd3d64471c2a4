/- Several texts in one: ref.Result: what comes of an offer, and of what one has, as the reference has it.  | KeysResults: what comes of any offer, and of what one has, is the document's.  -/
import Derived.Test.YtikcgnalcchlpaaGreatDoorRKeyFits
import Derived.Test.YtikcgnalcchlpaaGreatDoorGKR
import Derived.Test.YtikcgnalcchlpaaGreatDoorShHas
import Derived.Test.YtikcgnalcchlpaaGreatDoorBare
namespace Go.Proofs.YtikcgnalcchlpaaGreatDoor
open Go.RowKit
set_option linter.unusedVariables false
/-- a text and an error's number are returned -/
def RetSI (w : World) (r : List UInt8 × Nat) (e : Ending) (w' : World) : Prop := e = .returned (.tuple #[.string (S r.1), .int .i64 (r.2 : Int)]) ∧ Below w.heap.size w w'
theorem containsW_any (b x : List UInt8) (w : World) (hb : b.length ≤ 1000) (hx : x.length ≤ 1000) (hxc : (44 : UInt8) ∉ x) (hm : MaxCell w) :
    Calls Tryz.prog 23 #[.string (S (44 :: (b ++ [44]))), .string (S (44 :: (x ++ [44])))] w fun e w' => e = .returned (.bool (decide (x ∈ split1 44 b))) ∧ w = w' := by
  obtain ⟨m, hm⟩ := hm
  have C := Tryz.strings_Contains (S (44 :: (b ++ [44]))) (S (44 :: (x ++ [44]))) m w (by rw [S_size]; simp; omega) hm
  have e1 : (S (44 :: (b ++ [44]))).data.toList = 44 :: (b ++ [44]) := by simp [S]
  have e2 : (S (44 :: (x ++ [44]))).data.toList = 44 :: (x ++ [44]) := by simp [S]
  rw [e1, e2] at C
  refine C.mono ?_
  rintro e w' ⟨rfl, rfl⟩
  refine ⟨?_, rfl⟩
  have h : Lib.contains (44 :: (b ++ [44])) (44 :: (x ++ [44])) = decide (x ∈ split1 44 b) := by
    unfold Lib.contains
    rw [Bool.eq_iff_iff]
    simp only [decide_eq_true_eq]
    exact index_word b x hxc
  rw [h]
theorem firstR_at {a b : List UInt8} {l : List (List UInt8)} (hl : split1 44 a = l) {k : Nat} (hk : k < l.length) (hno : ∀ i (hi : i < l.length), i < k → l[i] ∉ split1 44 b) (h : l[k] ∈ split1 44 b) : firstR a b = some l[k] := by
  unfold firstR
  rw [hl, List.find?_eq_some_iff_getElem]
  exact ⟨by simpa using h, k, hk, rfl, fun j hj => by simpa using hno j (by omega) hj⟩
theorem firstR_not {a b : List UInt8} {l : List (List UInt8)} (hl : split1 44 a = l) (hno : ∀ i (hi : i < l.length), l[i] ∉ split1 44 b) : firstR a b = none := by
  unfold firstR
  rw [hl, List.find?_eq_none]
  intro x hx
  obtain ⟨i, hi, rfl⟩ := List.mem_iff_getElem.1 hx
  simpa using hno i hi
set_option maxRecDepth 100000 in
theorem refRes_bad (nm a b : List UInt8) (w : World) (ha : a.length ≤ 1000) (hb : b.length ≤ 1000) (hm : MaxCell w) (hbad : keyFits nm a ≠ 0 ∨ keyFits nm b ≠ 0) :
    Calls Tryz.prog 11 #[.string (S nm), .string (S a), .string (S b)] w (RetSI w (keyRes nm a b)) := by
  have FA := refFits_any nm a w ha hm
  unfold RetEN at FA
  by_cases h1 : keyFits nm a = 0
  · have h2 : keyFits nm b ≠ 0 := hbad.resolve_left (fun h => h h1)
    have R := Lib.hid (keyRes_own (b := b) h1 h2)
    rw [h1] at FA
    have FA := Lib.hid FA
    have FB := (fun W (h : Below w.heap.size w W) => refFits_any nm b W hb (hm.later h))
    unfold RetEN at FB
    obtain ⟨n, hn⟩ : ∃ n, keyFits nm b = n := ⟨_, rfl⟩
    rw [hn] at R FB h2
    obtain ⟨N, hN⟩ : ∃ N : Int, (n : Int) = N := ⟨_, rfl⟩
    rw [hN] at FB
    have FB := Lib.hid FB
    have h0 : ¬ N = 0 := by omega
    have HN := Lib.hid hN
    clear hm h1 h2 hbad hn hN
    go_enter Tryz.func11, Tryz.ntmps11
    go_wp2_with fail
    refine FA.out.mono ?_
    rintro e w1 ⟨rfl, hb1⟩
    have Hb1 := Lib.hid hb1
    have FB1 := Lib.hid (FB.out w1 hb1)
    clear hb1
    go_wp2_with fail
    refine FB1.out.mono ?_
    rintro e w2 ⟨rfl, hb2⟩
    have Hb2 := Lib.hid (below_then Hb1.out hb2)
    clear hb2
    go_wp2_with fail
    go_ret2
    rw [R.out]
    exact ⟨by rw [← HN.out]; rfl, Hb2.out⟩
  · have R := Lib.hid (keyRes_off (b := b) h1)
    obtain ⟨n, hn⟩ : ∃ n, keyFits nm a = n := ⟨_, rfl⟩
    rw [hn] at R FA h1
    obtain ⟨N, hN⟩ : ∃ N : Int, (n : Int) = N := ⟨_, rfl⟩
    rw [hN] at FA
    have FA := Lib.hid FA
    have h0 : ¬ N = 0 := by omega
    have HN := Lib.hid hN
    clear hm h1 hbad hn hN
    go_enter Tryz.func11, Tryz.ntmps11
    go_wp2_with fail
    refine FA.out.mono ?_
    rintro e w1 ⟨rfl, hb1⟩
    have Hb1 := Lib.hid hb1
    clear hb1
    go_wp2_with fail
    go_ret2
    rw [R.out]
    exact ⟨by rw [← HN.out]; rfl, Hb1.out⟩
set_option maxRecDepth 100000 in
set_option maxHeartbeats 2000000 in
theorem refRes_and (nm a b kn df : List UInt8) (lo hi : Nat) (no lg : Bool) (w : World) (ha : a.length ≤ 1000) (hb : b.length ≤ 1000) (hE : Env w) (h1 : keyFits nm a = 0) (h2 : keyFits nm b = 0) (hr : rowOf nm = some ⟨kn, 1, lo, hi, df, no, lg⟩) (x y : Bool) (ya : (a = [89, 101, 115] ∧ x = true) ∨ (a = [78, 111] ∧ x = false)) (yb : (b = [89, 101, 115] ∧ y = true) ∨ (b = [78, 111] ∧ y = false)) :
    Calls Tryz.prog 11 #[.string (S nm), .string (S a), .string (S b)] w (RetSI w (yesNo (x && y), 0)) := by
  have FA := refFits_any nm a w ha hE.mc
  unfold RetEN at FA
  rw [h1] at FA
  have FA := Lib.hid FA
  have FB := Lib.hid (fun W (h : Below w.heap.size w W) => show Calls Tryz.prog 14 #[.string (S nm), .string (S b)] W (RetEN W 0) from by
    have := refFits_any nm b W hb (hE.later h).mc
    rwa [h2] at this)
  have OF := Lib.hid (fun W => refOf_row (s := nm) W hr)
  have sum1 : ¬ 9223372036854775807 < a.length + 1 := by omega
  have sum2 : ¬ 9223372036854775807 < a.length + 1 + b.length := by omega
  clear hE h1 h2 hr
  go_enter Tryz.func11, Tryz.ntmps11
  go_wp2_with fail
  refine FA.out.mono ?_
  rintro e w1 ⟨rfl, hb1⟩
  have Hb1 := Lib.hid hb1
  have FB1 := Lib.hid (FB.out w1 hb1)
  clear hb1 FB FA
  go_wp2_with fail
  refine FB1.out.mono ?_
  rintro e w2 ⟨rfl, hb2⟩
  have Hb2 := Lib.hid (below_then Hb1.out hb2)
  clear hb2 FB1
  go_wp2_with fail
  refine (OF.out w2).mono ?_
  rintro e w3 ⟨rfl, hb3⟩
  obtain ⟨w4, hw4⟩ : ∃ w4, w3.alloc (.cells #[.string (S kn), .int .i64 1, .int .i64 (lo : Int), .int .i64 (hi : Int), .string (S df), .bool no, .bool lg] 56) = w4 := ⟨_, rfl⟩
  have Hb4 := Lib.hid (show Below w.heap.size w w4 by rw [← hw4]; exact (below_then Hb2.out hb3).alloc (below_then Hb2.out hb3).size _)
  have bK : Blk w4 w3.heap.size #[.string (S kn), .int .i64 1, .int .i64 (lo : Int), .int .i64 (hi : Int), .string (S df), .bool no, .bool lg] 56 := by rw [← hw4]; exact Blk.new w3 _ _
  obtain ⟨c0, c1, c2, c3, c4, c5, c6⟩ := bK.seven
  clear hb3 bK OF
  rcases ya with ⟨rfl, rfl⟩ | ⟨rfl, rfl⟩ <;> rcases yb with ⟨rfl, rfl⟩ | ⟨rfl, rfl⟩
  all_goals
    go_wp2_with fail
    go_ret2
    exact ⟨rfl, Hb4.out⟩
set_option maxRecDepth 100000 in
set_option maxHeartbeats 2000000 in
theorem refRes_or (nm a b kn df : List UInt8) (lo hi : Nat) (no lg : Bool) (w : World) (ha : a.length ≤ 1000) (hb : b.length ≤ 1000) (hE : Env w) (h1 : keyFits nm a = 0) (h2 : keyFits nm b = 0) (hr : rowOf nm = some ⟨kn, 2, lo, hi, df, no, lg⟩) (x y : Bool) (ya : (a = [89, 101, 115] ∧ x = true) ∨ (a = [78, 111] ∧ x = false)) (yb : (b = [89, 101, 115] ∧ y = true) ∨ (b = [78, 111] ∧ y = false)) :
    Calls Tryz.prog 11 #[.string (S nm), .string (S a), .string (S b)] w (RetSI w (yesNo (x || y), 0)) := by
  have FA := refFits_any nm a w ha hE.mc
  unfold RetEN at FA
  rw [h1] at FA
  have FA := Lib.hid FA
  have FB := Lib.hid (fun W (h : Below w.heap.size w W) => show Calls Tryz.prog 14 #[.string (S nm), .string (S b)] W (RetEN W 0) from by
    have := refFits_any nm b W hb (hE.later h).mc
    rwa [h2] at this)
  have OF := Lib.hid (fun W => refOf_row (s := nm) W hr)
  have sum1 : ¬ 9223372036854775807 < a.length + 1 := by omega
  have sum2 : ¬ 9223372036854775807 < a.length + 1 + b.length := by omega
  clear hE h1 h2 hr
  go_enter Tryz.func11, Tryz.ntmps11
  go_wp2_with fail
  refine FA.out.mono ?_
  rintro e w1 ⟨rfl, hb1⟩
  have Hb1 := Lib.hid hb1
  have FB1 := Lib.hid (FB.out w1 hb1)
  clear hb1 FB FA
  go_wp2_with fail
  refine FB1.out.mono ?_
  rintro e w2 ⟨rfl, hb2⟩
  have Hb2 := Lib.hid (below_then Hb1.out hb2)
  clear hb2 FB1
  go_wp2_with fail
  refine (OF.out w2).mono ?_
  rintro e w3 ⟨rfl, hb3⟩
  obtain ⟨w4, hw4⟩ : ∃ w4, w3.alloc (.cells #[.string (S kn), .int .i64 2, .int .i64 (lo : Int), .int .i64 (hi : Int), .string (S df), .bool no, .bool lg] 56) = w4 := ⟨_, rfl⟩
  have Hb4 := Lib.hid (show Below w.heap.size w w4 by rw [← hw4]; exact (below_then Hb2.out hb3).alloc (below_then Hb2.out hb3).size _)
  have bK : Blk w4 w3.heap.size #[.string (S kn), .int .i64 2, .int .i64 (lo : Int), .int .i64 (hi : Int), .string (S df), .bool no, .bool lg] 56 := by rw [← hw4]; exact Blk.new w3 _ _
  obtain ⟨c0, c1, c2, c3, c4, c5, c6⟩ := bK.seven
  clear hb3 bK OF
  rcases ya with ⟨rfl, rfl⟩ | ⟨rfl, rfl⟩ <;> rcases yb with ⟨rfl, rfl⟩ | ⟨rfl, rfl⟩
  all_goals
    go_wp2_with fail
    go_ret2
    exact ⟨rfl, Hb4.out⟩
set_option maxRecDepth 100000 in
set_option maxHeartbeats 2000000 in
theorem refRes_least (nm a b kn df : List UInt8) (lo hi : Nat) (no lg : Bool) (w : World) (ha : a.length ≤ 1000) (hb : b.length ≤ 1000) (hE : Env w) (h1 : keyFits nm a = 0) (h2 : keyFits nm b = 0) (hr : rowOf nm = some ⟨kn, 3, lo, hi, df, no, lg⟩) (n m : Nat) (hn : numR a = some n) (hm : numR b = some m) (hn40 : n < 1099511627776) (hm40 : m < 1099511627776) :
    Calls Tryz.prog 11 #[.string (S nm), .string (S a), .string (S b)] w (RetSI w (Lib.decDigits (min n m), 0)) := by
  have FA := refFits_any nm a w ha hE.mc
  unfold RetEN at FA
  rw [h1] at FA
  have FA := Lib.hid FA
  have FB := Lib.hid (fun W (h : Below w.heap.size w W) => show Calls Tryz.prog 14 #[.string (S nm), .string (S b)] W (RetEN W 0) from by
    have := refFits_any nm b W hb (hE.later h).mc
    rwa [h2] at this)
  have OF := Lib.hid (fun W => refOf_row (s := nm) W hr)
  have NA := Lib.hid (fun W => show Calls Tryz.prog 15 #[.string (S a)] W fun e w' => e = .returned (.int .i64 (n : Int)) ∧ Below W.heap.size W w' from by
    have := refNum_any a W (by omega)
    rwa [hn] at this)
  have NB := Lib.hid (fun W => show Calls Tryz.prog 15 #[.string (S b)] W fun e w' => e = .returned (.int .i64 (m : Int)) ∧ Below W.heap.size W w' from by
    have := refNum_any b W (by omega)
    rwa [hm] at this)
  have IT := Lib.hid (fun W (h : Below w.heap.size w W) => itoa_any (min n m) W (by omega) (hE.later h))
  have hmm : ((min n m : Nat) : Int) = min (n : Int) (m : Int) := by omega
  rw [hmm] at IT
  clear hmm hn hm hn40 hm40
  have sum1 : ¬ 9223372036854775807 < a.length + 1 := by omega
  have sum2 : ¬ 9223372036854775807 < a.length + 1 + b.length := by omega
  clear hE h1 h2 hr
  go_enter Tryz.func11, Tryz.ntmps11
  go_wp2_with fail
  refine FA.out.mono ?_
  rintro e w1 ⟨rfl, hb1⟩
  have Hb1 := Lib.hid hb1
  have FB1 := Lib.hid (FB.out w1 hb1)
  clear hb1 FB FA
  go_wp2_with fail
  refine FB1.out.mono ?_
  rintro e w2 ⟨rfl, hb2⟩
  have Hb2 := Lib.hid (below_then Hb1.out hb2)
  clear hb2 FB1
  go_wp2_with fail
  refine (OF.out w2).mono ?_
  rintro e w3 ⟨rfl, hb3⟩
  obtain ⟨w4, hw4⟩ : ∃ w4, w3.alloc (.cells #[.string (S kn), .int .i64 3, .int .i64 (lo : Int), .int .i64 (hi : Int), .string (S df), .bool no, .bool lg] 56) = w4 := ⟨_, rfl⟩
  have Hb4 := Lib.hid (show Below w.heap.size w w4 by rw [← hw4]; exact (below_then Hb2.out hb3).alloc (below_then Hb2.out hb3).size _)
  have bK : Blk w4 w3.heap.size #[.string (S kn), .int .i64 3, .int .i64 (lo : Int), .int .i64 (hi : Int), .string (S df), .bool no, .bool lg] 56 := by rw [← hw4]; exact Blk.new w3 _ _
  obtain ⟨c0, c1, c2, c3, c4, c5, c6⟩ := bK.seven
  clear hb3 bK OF
  go_wp2_with fail
  refine (NA.out w4).mono ?_
  rintro e w5 ⟨rfl, hb5⟩
  have Hb5 := Lib.hid (below_then Hb4.out hb5)
  clear hb5 NA
  go_wp2_with fail
  refine (NB.out w5).mono ?_
  rintro e w6 ⟨rfl, hb6⟩
  have Hb6 := Lib.hid (below_then Hb5.out hb6)
  have IT6 := Lib.hid (IT.out w6 Hb6.out)
  clear hb6 NB IT
  go_wp2_with fail
  refine IT6.out.mono ?_
  rintro e w7 ⟨rfl, hb7⟩
  have Hb7 := Lib.hid (below_then Hb6.out hb7)
  clear hb7
  go_wp2_with fail
  go_ret2
  exact ⟨rfl, Hb7.out⟩
set_option maxRecDepth 100000 in
set_option maxHeartbeats 2000000 in
theorem refRes_most (nm a b kn df : List UInt8) (lo hi : Nat) (no lg : Bool) (w : World) (ha : a.length ≤ 1000) (hb : b.length ≤ 1000) (hE : Env w) (h1 : keyFits nm a = 0) (h2 : keyFits nm b = 0) (hr : rowOf nm = some ⟨kn, 4, lo, hi, df, no, lg⟩) (n m : Nat) (hn : numR a = some n) (hm : numR b = some m) (hn40 : n < 1099511627776) (hm40 : m < 1099511627776) :
    Calls Tryz.prog 11 #[.string (S nm), .string (S a), .string (S b)] w (RetSI w (Lib.decDigits (max n m), 0)) := by
  have FA := refFits_any nm a w ha hE.mc
  unfold RetEN at FA
  rw [h1] at FA
  have FA := Lib.hid FA
  have FB := Lib.hid (fun W (h : Below w.heap.size w W) => show Calls Tryz.prog 14 #[.string (S nm), .string (S b)] W (RetEN W 0) from by
    have := refFits_any nm b W hb (hE.later h).mc
    rwa [h2] at this)
  have OF := Lib.hid (fun W => refOf_row (s := nm) W hr)
  have NA := Lib.hid (fun W => show Calls Tryz.prog 15 #[.string (S a)] W fun e w' => e = .returned (.int .i64 (n : Int)) ∧ Below W.heap.size W w' from by
    have := refNum_any a W (by omega)
    rwa [hn] at this)
  have NB := Lib.hid (fun W => show Calls Tryz.prog 15 #[.string (S b)] W fun e w' => e = .returned (.int .i64 (m : Int)) ∧ Below W.heap.size W w' from by
    have := refNum_any b W (by omega)
    rwa [hm] at this)
  have IT := Lib.hid (fun W (h : Below w.heap.size w W) => itoa_any (max n m) W (by omega) (hE.later h))
  have hmm : ((max n m : Nat) : Int) = max (n : Int) (m : Int) := by omega
  rw [hmm] at IT
  clear hmm hn hm hn40 hm40
  have sum1 : ¬ 9223372036854775807 < a.length + 1 := by omega
  have sum2 : ¬ 9223372036854775807 < a.length + 1 + b.length := by omega
  clear hE h1 h2 hr
  go_enter Tryz.func11, Tryz.ntmps11
  go_wp2_with fail
  refine FA.out.mono ?_
  rintro e w1 ⟨rfl, hb1⟩
  have Hb1 := Lib.hid hb1
  have FB1 := Lib.hid (FB.out w1 hb1)
  clear hb1 FB FA
  go_wp2_with fail
  refine FB1.out.mono ?_
  rintro e w2 ⟨rfl, hb2⟩
  have Hb2 := Lib.hid (below_then Hb1.out hb2)
  clear hb2 FB1
  go_wp2_with fail
  refine (OF.out w2).mono ?_
  rintro e w3 ⟨rfl, hb3⟩
  obtain ⟨w4, hw4⟩ : ∃ w4, w3.alloc (.cells #[.string (S kn), .int .i64 4, .int .i64 (lo : Int), .int .i64 (hi : Int), .string (S df), .bool no, .bool lg] 56) = w4 := ⟨_, rfl⟩
  have Hb4 := Lib.hid (show Below w.heap.size w w4 by rw [← hw4]; exact (below_then Hb2.out hb3).alloc (below_then Hb2.out hb3).size _)
  have bK : Blk w4 w3.heap.size #[.string (S kn), .int .i64 4, .int .i64 (lo : Int), .int .i64 (hi : Int), .string (S df), .bool no, .bool lg] 56 := by rw [← hw4]; exact Blk.new w3 _ _
  obtain ⟨c0, c1, c2, c3, c4, c5, c6⟩ := bK.seven
  clear hb3 bK OF
  go_wp2_with fail
  refine (NA.out w4).mono ?_
  rintro e w5 ⟨rfl, hb5⟩
  have Hb5 := Lib.hid (below_then Hb4.out hb5)
  clear hb5 NA
  go_wp2_with fail
  refine (NB.out w5).mono ?_
  rintro e w6 ⟨rfl, hb6⟩
  have Hb6 := Lib.hid (below_then Hb5.out hb6)
  have IT6 := Lib.hid (IT.out w6 Hb6.out)
  clear hb6 NB IT
  go_wp2_with fail
  refine IT6.out.mono ?_
  rintro e w7 ⟨rfl, hb7⟩
  have Hb7 := Lib.hid (below_then Hb6.out hb7)
  clear hb7
  go_wp2_with fail
  go_ret2
  exact ⟨rfl, Hb7.out⟩
set_option maxRecDepth 100000 in
set_option maxHeartbeats 2000000 in
theorem refRes_first (nm a b kn df : List UInt8) (lo hi : Nat) (no lg : Bool) (w : World) (ha : a.length ≤ 1000) (hb : b.length ≤ 1000) (hE : Env w) (h1 : keyFits nm a = 0) (h2 : keyFits nm b = 0) (hr : rowOf nm = some ⟨kn, 5, lo, hi, df, no, lg⟩) :
    Calls Tryz.prog 11 #[.string (S nm), .string (S a), .string (S b)] w (RetSI w (firstN (firstR a b))) := by
  have FA := refFits_any nm a w ha hE.mc
  unfold RetEN at FA
  rw [h1] at FA
  have FA := Lib.hid FA
  have FB := Lib.hid (fun W (h : Below w.heap.size w W) => show Calls Tryz.prog 14 #[.string (S nm), .string (S b)] W (RetEN W 0) from by
    have := refFits_any nm b W hb (hE.later h).mc
    rwa [h2] at this)
  have OF := Lib.hid (fun W => refOf_row (s := nm) W hr)
  have SP := Lib.hid (fun W (h : Below w.heap.size w W) => split44_any a W (by omega) (hE.later h).mc)
  have hsp := split1_sum 44 a.length a (Nat.le_refl _)
  have CW := Lib.hid (fun (x : List UInt8) W (h : Below w.heap.size w W) (h1 : x.length ≤ 1000) (h2 : (44 : UInt8) ∉ x) => containsW_any b x W hb h1 h2 (hE.later h).mc)
  have hms := fun x (hx : x ∈ split1 44 a) => mem_split 44 a.length a x (Nat.le_refl _) hx
  have HA := fun l (hl : split1 44 a = l) k (hk : k < l.length) => @firstR_at a b l hl k hk
  have HN := fun l (hl : split1 44 a = l) => @firstR_not a b l hl
  obtain ⟨l, hl⟩ : ∃ l, split1 44 a = l := ⟨_, rfl⟩
  rw [hl] at SP hsp hms
  have HAt := Lib.hid (HA l hl)
  have HNo := Lib.hid (HN l hl)
  have Hms := Lib.hid hms
  have Hlen := Lib.hid (fun x (hx : x ∈ l) => show x.length ≤ 1000 from Nat.le_trans (hsp.1 x hx) ha)
  have hll : l.length ≤ 1001 := by have := hsp.2; omega
  obtain ⟨r, hr2⟩ : ∃ r, firstR a b = r := ⟨_, rfl⟩
  rw [hr2] at HAt HNo ⊢
  have sb1 : ¬ 9223372036854775807 < b.length + 1 := by omega
  have sb2 : ¬ 9223372036854775807 < 1 + b.length := by omega
  have sb3 : ¬ 9223372036854775807 < b.length + 1 + 1 := by omega
  have sb4 : ¬ 9223372036854775807 < 1 + b.length + 1 := by omega
  clear hsp hms HA HN hl hr2
  have sum1 : ¬ 9223372036854775807 < a.length + 1 := by omega
  have sum2 : ¬ 9223372036854775807 < a.length + 1 + b.length := by omega
  clear hE h1 h2 hr
  go_enter Tryz.func11, Tryz.ntmps11
  go_wp2_with fail
  refine FA.out.mono ?_
  rintro e w1 ⟨rfl, hb1⟩
  have Hb1 := Lib.hid hb1
  have FB1 := Lib.hid (FB.out w1 hb1)
  clear hb1 FB FA
  go_wp2_with fail
  refine FB1.out.mono ?_
  rintro e w2 ⟨rfl, hb2⟩
  have Hb2 := Lib.hid (below_then Hb1.out hb2)
  clear hb2 FB1
  go_wp2_with fail
  refine (OF.out w2).mono ?_
  rintro e w3 ⟨rfl, hb3⟩
  obtain ⟨w4, hw4⟩ : ∃ w4, w3.alloc (.cells #[.string (S kn), .int .i64 5, .int .i64 (lo : Int), .int .i64 (hi : Int), .string (S df), .bool no, .bool lg] 56) = w4 := ⟨_, rfl⟩
  have Hb4 := Lib.hid (show Below w.heap.size w w4 by rw [← hw4]; exact (below_then Hb2.out hb3).alloc (below_then Hb2.out hb3).size _)
  have bK : Blk w4 w3.heap.size #[.string (S kn), .int .i64 5, .int .i64 (lo : Int), .int .i64 (hi : Int), .string (S df), .bool no, .bool lg] 56 := by rw [← hw4]; exact Blk.new w3 _ _
  obtain ⟨c0, c1, c2, c3, c4, c5, c6⟩ := bK.seven
  clear hb3 bK OF
  have SP4 := Lib.hid (SP.out w4 Hb4.out)
  clear SP
  go_wp2_with fail
  refine SP4.out.mono ?_
  rintro e W ⟨rfl, hcell, hlt0, hbel⟩
  have Hcell := Lib.hid hcell
  have HbW := Lib.hid (below_then Hb4.out hbel)
  clear hcell hlt0 hbel SP4 hw4 c0 c1 c2 c3 c4 c5 c6
  go_wp2_with fail
  go_loopw [67] (fun i wr => ∃ k : Nat, k ≤ l.length ∧ i = .int .i64 k ∧ Hid (∀ i (hi : i < l.length), i < k → l[i] ∉ split1 44 b) ∧ wr = W) (fun i _ => l.length - (intOf i).toNat)
  case atStart => exact ⟨0, by omega, rfl, Lib.hid (fun i hi h => by omega), rfl⟩
  case round =>
    obtain ⟨k, hk, rfl, Hno, rfl⟩ := hrel
    by_cases hlt : k < l.length
    · have hki : (k : Int) < (l.length : Int) := by omega
      have hck : wr.cell? ⟨w4.heap.size, k, none⟩ = some (.string (S l[k])) := Hcell.out k hlt
      have hmem : l[k] ∈ l := List.getElem_mem hlt
      have hx1 := Hlen.out _ hmem
      have hx2 := Hms.out _ hmem
      have HA2 := Lib.hid (HAt.out k hlt Hno.out)
      obtain ⟨x, hx⟩ : ∃ x, l[k] = x := ⟨_, rfl⟩
      rw [hx] at hck hx1 hx2 HA2
      have Hx := Lib.hid hx
      have C := Lib.hid (CW.out x wr HbW.out hx1 hx2)
      have sx1 : ¬ 9223372036854775807 < x.length + 1 := by omega
      have sx2 : ¬ 9223372036854775807 < 1 + x.length := by omega
      have sx3 : ¬ 9223372036854775807 < x.length + 1 + 1 := by omega
      have sx4 : ¬ 9223372036854775807 < 1 + x.length + 1 := by omega
      clear hx hmem hx1 hx2
      by_cases hin : x ∈ split1 44 b
      · have HR := Lib.hid (HA2.out hin)
        rw [decide_eq_true hin] at C
        clear hin
        go_wp2_with fail
        refine C.out.mono ?_
        rintro e w' ⟨rfl, rfl⟩
        go_wp2_with fail
        go_ret2
        rw [HR.out]
        exact ⟨rfl, HbW.out⟩
      · have Hin := Lib.hid hin
        rw [decide_eq_false hin] at C
        clear hin
        go_wp2_with fail
        refine C.out.mono ?_
        rintro e w' ⟨rfl, rfl⟩
        go_wp2_with fail
        go_roundw
        case rel => exact ⟨k + 1, by omega, by go_num, Lib.hid (fun i hi h => by
          rcases Nat.lt_or_ge i k with h' | h'
          · exact Hno.out i hi h'
          · obtain rfl : i = k := by omega
            rw [Hx.out]; exact Hin.out), by first | rfl | trivial⟩
        case measure => simp [intOf]; omega
    · have HR := Lib.hid (HNo.out (fun i hi => Hno.out i hi (by omega)))
      obtain rfl : k = l.length := by omega
      clear hlt
      go_wp2_with fail
      go_ret2
      rw [HR.out]
      exact ⟨rfl, HbW.out⟩
set_option maxRecDepth 100000 in
set_option maxHeartbeats 2000000 in
theorem refRes_told (nm a b kn df : List UInt8) (lo hi : Nat) (no lg : Bool) (w : World) (ha : a.length ≤ 1000) (hb : b.length ≤ 1000) (hE : Env w) (h1 : keyFits nm a = 0) (h2 : keyFits nm b = 0) (hr : rowOf nm = some ⟨kn, 6, lo, hi, df, no, lg⟩) :
    Calls Tryz.prog 11 #[.string (S nm), .string (S a), .string (S b)] w (RetSI w (a, 0)) := by
  have FA := refFits_any nm a w ha hE.mc
  unfold RetEN at FA
  rw [h1] at FA
  have FA := Lib.hid FA
  have FB := Lib.hid (fun W (h : Below w.heap.size w W) => show Calls Tryz.prog 14 #[.string (S nm), .string (S b)] W (RetEN W 0) from by
    have := refFits_any nm b W hb (hE.later h).mc
    rwa [h2] at this)
  have OF := Lib.hid (fun W => refOf_row (s := nm) W hr)
  have sum1 : ¬ 9223372036854775807 < a.length + 1 := by omega
  have sum2 : ¬ 9223372036854775807 < a.length + 1 + b.length := by omega
  clear hE h1 h2 hr
  go_enter Tryz.func11, Tryz.ntmps11
  go_wp2_with fail
  refine FA.out.mono ?_
  rintro e w1 ⟨rfl, hb1⟩
  have Hb1 := Lib.hid hb1
  have FB1 := Lib.hid (FB.out w1 hb1)
  clear hb1 FB FA
  go_wp2_with fail
  refine FB1.out.mono ?_
  rintro e w2 ⟨rfl, hb2⟩
  have Hb2 := Lib.hid (below_then Hb1.out hb2)
  clear hb2 FB1
  go_wp2_with fail
  refine (OF.out w2).mono ?_
  rintro e w3 ⟨rfl, hb3⟩
  obtain ⟨w4, hw4⟩ : ∃ w4, w3.alloc (.cells #[.string (S kn), .int .i64 6, .int .i64 (lo : Int), .int .i64 (hi : Int), .string (S df), .bool no, .bool lg] 56) = w4 := ⟨_, rfl⟩
  have Hb4 := Lib.hid (show Below w.heap.size w w4 by rw [← hw4]; exact (below_then Hb2.out hb3).alloc (below_then Hb2.out hb3).size _)
  have bK : Blk w4 w3.heap.size #[.string (S kn), .int .i64 6, .int .i64 (lo : Int), .int .i64 (hi : Int), .string (S df), .bool no, .bool lg] 56 := by rw [← hw4]; exact Blk.new w3 _ _
  obtain ⟨c0, c1, c2, c3, c4, c5, c6⟩ := bK.seven
  clear hb3 bK OF
  go_wp2_with fail
  go_ret2
  exact ⟨rfl, Hb4.out⟩
set_option maxRecDepth 100000 in
set_option maxHeartbeats 2000000 in
theorem refRes_number (nm a b kn df : List UInt8) (lo hi : Nat) (no lg : Bool) (w : World) (ha : a.length ≤ 1000) (hb : b.length ≤ 1000) (hE : Env w) (h1 : keyFits nm a = 0) (h2 : keyFits nm b = 0) (hr : rowOf nm = some ⟨kn, 7, lo, hi, df, no, lg⟩) :
    Calls Tryz.prog 11 #[.string (S nm), .string (S a), .string (S b)] w (RetSI w (a, 0)) := by
  have FA := refFits_any nm a w ha hE.mc
  unfold RetEN at FA
  rw [h1] at FA
  have FA := Lib.hid FA
  have FB := Lib.hid (fun W (h : Below w.heap.size w W) => show Calls Tryz.prog 14 #[.string (S nm), .string (S b)] W (RetEN W 0) from by
    have := refFits_any nm b W hb (hE.later h).mc
    rwa [h2] at this)
  have OF := Lib.hid (fun W => refOf_row (s := nm) W hr)
  have sum1 : ¬ 9223372036854775807 < a.length + 1 := by omega
  have sum2 : ¬ 9223372036854775807 < a.length + 1 + b.length := by omega
  clear hE h1 h2 hr
  go_enter Tryz.func11, Tryz.ntmps11
  go_wp2_with fail
  refine FA.out.mono ?_
  rintro e w1 ⟨rfl, hb1⟩
  have Hb1 := Lib.hid hb1
  have FB1 := Lib.hid (FB.out w1 hb1)
  clear hb1 FB FA
  go_wp2_with fail
  refine FB1.out.mono ?_
  rintro e w2 ⟨rfl, hb2⟩
  have Hb2 := Lib.hid (below_then Hb1.out hb2)
  clear hb2 FB1
  go_wp2_with fail
  refine (OF.out w2).mono ?_
  rintro e w3 ⟨rfl, hb3⟩
  obtain ⟨w4, hw4⟩ : ∃ w4, w3.alloc (.cells #[.string (S kn), .int .i64 7, .int .i64 (lo : Int), .int .i64 (hi : Int), .string (S df), .bool no, .bool lg] 56) = w4 := ⟨_, rfl⟩
  have Hb4 := Lib.hid (show Below w.heap.size w w4 by rw [← hw4]; exact (below_then Hb2.out hb3).alloc (below_then Hb2.out hb3).size _)
  have bK : Blk w4 w3.heap.size #[.string (S kn), .int .i64 7, .int .i64 (lo : Int), .int .i64 (hi : Int), .string (S df), .bool no, .bool lg] 56 := by rw [← hw4]; exact Blk.new w3 _ _
  obtain ⟨c0, c1, c2, c3, c4, c5, c6⟩ := bK.seven
  clear hb3 bK OF
  go_wp2_with fail
  go_ret2
  exact ⟨rfl, Hb4.out⟩
theorem refResult_any (nm a b : List UInt8) (w : World) (ha : a.length ≤ 1000) (hb : b.length ≤ 1000) (hE : Env w) :
    Calls Tryz.prog 11 #[.string (S nm), .string (S a), .string (S b)] w (RetSI w (keyRes nm a b)) := by
  by_cases h1 : keyFits nm a = 0
  · by_cases h2 : keyFits nm b = 0
    · obtain ⟨k, hr, f1⟩ := keyFits_row h1
      obtain ⟨k', hr', f2⟩ := keyFits_row h2
      obtain rfl : k = k' := Option.some.inj (hr.symm.trans hr')
      have hk := rowOf_ok hr
      rw [keyRes_ok hr f1 f2]
      have hc : k.kd = 1 ∨ k.kd = 2 ∨ k.kd = 3 ∨ k.kd = 4 ∨ k.kd = 5 ∨ k.kd = 6 ∨ k.kd = 7 := by omega
      obtain ⟨kn, kd, lo, hi, df, no, lg⟩ := k
      simp only at hc
      rcases hc with rfl | rfl | rfl | rfl | rfl | rfl | rfl
      · rw [resOk_and _ _ rfl]
        exact refRes_and nm a b kn df lo hi no lg w ha hb hE h1 h2 hr _ _ (yes_or (fitK_yes0 (.inl rfl) f1)) (yes_or (fitK_yes0 (.inl rfl) f2))
      · rw [resOk_or _ _ rfl]
        exact refRes_or nm a b kn df lo hi no lg w ha hb hE h1 h2 hr _ _ (yes_or (fitK_yes0 (.inr rfl) f1)) (yes_or (fitK_yes0 (.inr rfl) f2))
      · obtain ⟨n, hn, n1, n2⟩ := fitK_num0 (.inl rfl) f1
        obtain ⟨m, hm, m1, m2⟩ := fitK_num0 (.inl rfl) f2
        rw [resOk_least _ _ rfl, numD_of hn, numD_of hm]
        exact refRes_least nm a b kn df lo hi no lg w ha hb hE h1 h2 hr n m hn hm (numR_lt hn) (numR_lt hm)
      · obtain ⟨n, hn, n1, n2⟩ := fitK_num0 (.inr (.inl rfl)) f1
        obtain ⟨m, hm, m1, m2⟩ := fitK_num0 (.inr (.inl rfl)) f2
        rw [resOk_most _ _ rfl, numD_of hn, numD_of hm]
        exact refRes_most nm a b kn df lo hi no lg w ha hb hE h1 h2 hr n m hn hm (numR_lt hn) (numR_lt hm)
      · rw [resOk_first _ _ rfl]
        have := refRes_first nm a b kn df lo hi no lg w ha hb hE h1 h2 hr
        unfold firstN at this
        cases hf : firstR a b with
        | none => rw [hf] at this; exact this
        | some x => rw [hf] at this; exact this
      · rw [resOk_told _ _ (.inl rfl)]
        exact refRes_told nm a b kn df lo hi no lg w ha hb hE h1 h2 hr
      · rw [resOk_told _ _ (.inr rfl)]
        exact refRes_number nm a b kn df lo hi no lg w ha hb hE h1 h2 hr
    · exact refRes_bad nm a b w ha hb hE.mc (.inr h2)
  · exact refRes_bad nm a b w ha hb hE.mc (.inl h1)
end Go.Proofs.YtikcgnalcchlpaaGreatDoor
namespace Go.Proofs.YtikcgnalcchlpaaGreatDoor
open Go.RowKit
set_option linter.unusedVariables false
set_option maxRecDepth 100000 in
set_option maxHeartbeats 1000000 in
theorem keysResults_any (nm a b : List UInt8) (w : World) (h1 : nm.length ≤ 140737488351232) (h2 : a.length ≤ 140737488351232) (h3 : b.length ≤ 140737488351232) (hE : Env w) (hg : ErrCell w) :
    Calls Tryz.prog 4 #[.string (S nm), .string (S a), .string (S b)] w fun e w' => e = .returned (.bool true) ∧ Below w.heap.size w w' := by
  by_cases hbig : 600 < nm.length + a.length + b.length
  · have hbig' : (600 : Int) < (nm.length : Int) + (a.length : Int) + (b.length : Int) := by omega
    clear hE hg
    go_enter Tryz.func4, Tryz.ntmps4
    go_wp2_with fail
    go_ret
    exact ⟨rfl, Below.refl _ _⟩
  have hbig' : (nm.length : Int) + (a.length : Int) + (b.length : Int) ≤ 600 := by omega
  have R1 := refResult_any nm a b w (by omega) (by omega) hE
  have R2 := fun W (h : Below w.heap.size w W) => result_any nm a b W (by omega) (by omega) (hE.later h)
  have F1 := fun W (h : Below w.heap.size w W) => fits_any nm a W (by omega) (hE.later h)
  have F2 := fun W (h : Below w.heap.size w W) => refFits_any nm a W (by omega) (hE.later h).mc
  have BA := Lib.hid (fun (n : Int) W (h : Below w.heap.size w W) => bare_any n W (hg.later h))
  unfold RetSI at R1
  unfold RetSN at R2
  unfold RetErrN at F1
  unfold RetEN at F2
  obtain ⟨⟨s, n⟩, hsn⟩ : ∃ q, keyRes nm a b = q := ⟨_, rfl⟩
  rw [hsn] at R1 R2
  simp only at R1 R2
  obtain ⟨f, hf⟩ : ∃ f : Nat, keyFits nm a = f := ⟨_, rfl⟩
  rw [hf] at F1 F2
  have BN := BA.out (n : Int)
  have BF := BA.out (f : Int)
  obtain ⟨N, hN⟩ : ∃ N : Int, (n : Int) = N := ⟨_, rfl⟩
  obtain ⟨F, hF⟩ : ∃ F : Int, (f : Int) = F := ⟨_, rfl⟩
  rw [hN] at R1 R2 BN
  rw [hF] at F1 F2 BF
  obtain ⟨eN, heN⟩ : ∃ eN, errV N = eN := ⟨_, rfl⟩
  obtain ⟨eF, heF⟩ : ∃ eF, errV F = eF := ⟨_, rfl⟩
  rw [heN] at R2 BN
  rw [heF] at F1 BF
  have R1 := Lib.hid R1
  have R2 := Lib.hid R2
  have F1 := Lib.hid F1
  have F2 := Lib.hid F2
  have BN := Lib.hid BN
  have BF := Lib.hid BF
  have e1 : (s == s) = true := by simp
  clear hE hg hbig hsn hf hN hF heN heF BA
  go_enter Tryz.func4, Tryz.ntmps4
  go_wp2_with fail
  refine R1.out.mono ?_
  rintro e w1 ⟨rfl, hb1⟩
  have Hb1 := Lib.hid hb1
  clear hb1
  go_wp2_with fail
  refine (R2.out w1 Hb1.out).mono ?_
  rintro e w2 ⟨rfl, hb2⟩
  have Hb2 := Lib.hid (below_then Hb1.out hb2)
  clear hb2
  go_wp2_with fail
  refine (BN.out w2 Hb2.out).mono ?_
  rintro e w3 ⟨rfl, hb3⟩
  have Hb3 := Lib.hid (below_then Hb2.out hb3)
  clear hb3
  go_wp2_with fail
  refine (F1.out w3 Hb3.out).mono ?_
  rintro e w4 ⟨rfl, hb4⟩
  have Hb4 := Lib.hid (below_then Hb3.out hb4)
  clear hb4
  go_wp2_with fail
  refine (F2.out w4 Hb4.out).mono ?_
  rintro e w5 ⟨rfl, hb5⟩
  have Hb5 := Lib.hid (below_then Hb4.out hb5)
  clear hb5
  go_wp2_with fail
  refine (BF.out w5 Hb5.out).mono ?_
  rintro e w6 ⟨rfl, hb6⟩
  have Hb6 := Lib.hid (below_then Hb5.out hb6)
  clear hb6
  go_wp2_with fail
  go_ret
  exact ⟨rfl, Hb6.out⟩
end Go.Proofs.YtikcgnalcchlpaaGreatDoor
