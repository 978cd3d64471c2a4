/- Several texts in one: keys.Fits, numbers, yesOrNo.  | keys.first: the first word of an offer that one has.  | keys.numbers: the numbers that two values are.  | keys.Result: what comes of an offer, and of what one has.  | quaymasterkeep.keyed; keys' contracts at a known result.  -/
import Derived.Test.YteapbjeapnmloaaGreatDoorGE
import Derived.Test.YteapbjeapnmloaaGreatDoorGF
import Derived.Test.YteapbjeapnmloaaGreatDoorGA
import Derived.LoopN
import Derived.Test.YteapbjeapnmloaaGreatDoorGC
namespace Go.Proofs.YteapbjeapnmloaaGreatDoor
open Go.RowKit
theorem of_row {s nm df : List UInt8} {kd lo hi : Nat} {no lg : Bool} (w : World) (h : rowOf s = some ⟨nm, kd, lo, hi, df, no, lg⟩) : Calls Tryz.prog 30 #[.string (S s)] w fun e W' => e = .returned (.tuple #[.agg #[.string (S nm), .int .i64 (kd : Int), .int .i64 (lo : Int), .int .i64 (hi : Int), .string (S df), .bool no, .bool lg], .nilIface]) ∧ Below w.heap.size w W' := of_some w h
theorem of_no {s : List UInt8} (w : World) (h : rowOf s = none) : Calls Tryz.prog 30 #[.string (S s)] w fun e W' => e = .returned (.tuple #[.agg #[.string (S []), .int .i64 0, .int .i64 0, .int .i64 0, .string (S []), .bool false, .bool false], .iface 38 (.int .i64 5)]) ∧ Below w.heap.size w W' := of_none w h
theorem numE_fit (k : Ke) (v : List UInt8) (hk : k.kd = 3 ∨ k.kd = 4 ∨ k.kd = 7) : (numE v (k.lo : Int) (k.hi : Int)).2 = ((fitK k v : Nat) : Int) := by
  rw [fitK_num hk]
  cases hn : numR v with
  | none => rw [numE_none hn]; rfl
  | some n =>
    simp only
    by_cases h : n < k.lo ∨ k.hi < n
    · rw [numE_off hn (by omega), if_pos h]; rfl
    · rw [numE_in hn (by omega) (by omega), if_neg h]; rfl
/-- an error without a place, by its number -/
def RetErrN (w : World) (n : Nat) (e : Ending) (w' : World) : Prop := e = .returned (errV (n : Int)) ∧ Below w.heap.size w w'
set_option maxRecDepth 100000 in
set_option maxHeartbeats 1000000 in
theorem fits_any (nm v : List UInt8) (w : World) (hv : v.length ≤ 1000) (hE : Env w) :
    Calls Tryz.prog 28 #[.string (S nm), .string (S v)] w (RetErrN w (keyFits nm v)) := by
  cases hr : rowOf nm with
  | none =>
    have C := Lib.hid (of_no w hr)
    have R := Lib.hid (show keyFits nm v = 5 by unfold keyFits; rw [hr])
    clear hr hE
    go_enter Tryz.func28, Tryz.ntmps28
    go_wp2_with fail
    refine C.out.mono ?_
    rintro e w1 ⟨rfl, hb1⟩
    have Hb1 := Lib.hid (hb1.alloc hb1.size (.cells #[.string (S []), .int .i64 0, .int .i64 0, .int .i64 0, .string (S []), .bool false, .bool false] 48))
    clear hb1
    go_wp2_with fail
    go_ret
    rw [R.out]
    exact ⟨rfl, Hb1.out⟩
  | some k =>
    have hkk := rowOf_ok hr
    have hR := show keyFits nm v = fitK k v by unfold keyFits; rw [hr]
    rw [hR]
    clear hR
    obtain ⟨kn, kd, lo, hi, df, no, lg⟩ := k
    have C0 := of_row w hr
    obtain ⟨K, hK⟩ : ∃ K : Int, (kd : Int) = K := ⟨_, rfl⟩
    rw [hK] at C0
    have C := Lib.hid C0
    clear C0
    have LI := Lib.hid (fun W (h : Below w.heap.size w W) => list_any v W hv (hE.later h).mc)
    have NU := Lib.hid (fun W (h : Below w.heap.size w W) => numeral_any v (lo : Int) (hi : Int) W (by omega) (hE.later h))
    have NF := Lib.hid (numE_fit ⟨kn, kd, lo, hi, df, no, lg⟩ v)
    have FL := Lib.hid (@fitK_list ⟨kn, kd, lo, hi, df, no, lg⟩ v)
    have FY := Lib.hid (@fitK_yes ⟨kn, kd, lo, hi, df, no, lg⟩ v)
    have FT := Lib.hid (@fitK_told ⟨kn, kd, lo, hi, df, no, lg⟩ v)
    have h1 := hkk.2.2.1
    have h7 := hkk.2.2.2.1
    simp only at h1 h7
    clear hkk hr hE
    obtain ⟨r, hr⟩ : ∃ r, fitK ⟨kn, kd, lo, hi, df, no, lg⟩ v = r := ⟨_, rfl⟩
    rw [hr] at NF FL FY FT ⊢
    clear hr
    go_enter Tryz.func28, Tryz.ntmps28
    go_wp2_with fail
    refine C.out.mono ?_
    rintro e w1 ⟨rfl, hb1⟩
    obtain ⟨w2, hw2⟩ : ∃ w2, w1.alloc (.cells #[.string (S kn), .int .i64 K, .int .i64 (lo : Int), .int .i64 (hi : Int), .string (S df), .bool no, .bool lg] 48) = w2 := ⟨_, rfl⟩
    have hb2 : Below w.heap.size w w2 := by rw [← hw2]; exact hb1.alloc hb1.size _
    have Hb2 := Lib.hid hb2
    have bK : Blk w2 w1.heap.size #[.string (S kn), .int .i64 K, .int .i64 (lo : Int), .int .i64 (hi : Int), .string (S df), .bool no, .bool lg] 48 := by rw [← hw2]; exact Blk.new w1 _ _
    obtain ⟨_, c1, c2, c3, _, _, _⟩ := bK.seven
    clear bK
    have LI := Lib.hid (LI.out w2 hb2)
    have NU := Lib.hid (NU.out w2 hb2)
    clear hb1 hb2 C
    have hc : (kd = 1 ∧ K = 1) ∨ (kd = 2 ∧ K = 2) ∨ (kd = 3 ∧ K = 3) ∨ (kd = 4 ∧ K = 4) ∨ (kd = 5 ∧ K = 5) ∨ (kd = 6 ∧ K = 6) ∨ (kd = 7 ∧ K = 7) := by omega
    clear h1 h7 hK
    rcases hc with ⟨rfl, rfl⟩ | ⟨rfl, rfl⟩ | ⟨rfl, rfl⟩ | ⟨rfl, rfl⟩ | ⟨rfl, rfl⟩ | ⟨rfl, rfl⟩ | ⟨rfl, rfl⟩
    · have E := Lib.hid (FY.out (.inl rfl))
      by_cases hy : v = yesL
      · subst hy
        rw [if_pos (.inl rfl)] at E
        unfold yesL
        go_wp2_with fail
        go_ret
        rw [E.out]
        exact ⟨rfl, Hb2.out⟩
      · by_cases hn : v = noL
        · subst hn
          rw [if_pos (.inr rfl)] at E
          unfold noL
          go_wp2_with fail
          go_ret
          rw [E.out]
          exact ⟨rfl, Hb2.out⟩
        · rw [if_neg (by rintro (h | h); exact hy h; exact hn h)] at E
          have g1 : ¬ v = [89, 101, 115] := hy
          have g2 : ¬ v = [78, 111] := hn
          have g3 : (v == [89, 101, 115]) = false := by simpa using g1
          have g4 : (v == [78, 111]) = false := by simpa using g2
          clear hy hn
          go_wp2_with fail
          go_ret
          rw [E.out]
          exact ⟨rfl, Hb2.out⟩
    · have E := Lib.hid (FY.out (.inr rfl))
      by_cases hy : v = yesL
      · subst hy
        rw [if_pos (.inl rfl)] at E
        unfold yesL
        go_wp2_with fail
        go_ret
        rw [E.out]
        exact ⟨rfl, Hb2.out⟩
      · by_cases hn : v = noL
        · subst hn
          rw [if_pos (.inr rfl)] at E
          unfold noL
          go_wp2_with fail
          go_ret
          rw [E.out]
          exact ⟨rfl, Hb2.out⟩
        · rw [if_neg (by rintro (h | h); exact hy h; exact hn h)] at E
          have g1 : ¬ v = [89, 101, 115] := hy
          have g2 : ¬ v = [78, 111] := hn
          have g3 : (v == [89, 101, 115]) = false := by simpa using g1
          have g4 : (v == [78, 111]) = false := by simpa using g2
          clear hy hn
          go_wp2_with fail
          go_ret
          rw [E.out]
          exact ⟨rfl, Hb2.out⟩
    · have E := NF.out (.inl rfl)
      unfold RetNI at NU
      rw [E] at NU
      clear E
      go_wp2_with fail
      refine NU.out.mono ?_
      rintro e w3 ⟨rfl, hb3⟩
      have Hb3 := Lib.hid (below_then Hb2.out hb3)
      clear hb3
      go_wp2_with fail
      go_ret
      exact ⟨rfl, Hb3.out⟩
    · have E := NF.out (.inr (.inl rfl))
      unfold RetNI at NU
      rw [E] at NU
      clear E
      go_wp2_with fail
      refine NU.out.mono ?_
      rintro e w3 ⟨rfl, hb3⟩
      have Hb3 := Lib.hid (below_then Hb2.out hb3)
      clear hb3
      go_wp2_with fail
      go_ret
      exact ⟨rfl, Hb3.out⟩
    · have E := Lib.hid (FL.out rfl)
      go_wp2_with fail
      refine LI.out.mono ?_
      rintro e w3 ⟨vl, rfl, _, hb3⟩
      have Hb3 := Lib.hid (below_then Hb2.out hb3)
      clear hb3
      go_wp2_with fail
      go_ret
      refine ⟨?_, Hb3.out⟩
      rw [E.out]
      unfold listN
      cases listR v <;> rfl
    · have E := Lib.hid (FT.out rfl)
      by_cases hv0 : v = []
      · subst hv0
        rw [if_pos rfl] at E
        go_wp2_with fail
        go_ret
        rw [E.out]
        exact ⟨rfl, Hb2.out⟩
      · rw [if_neg hv0] at E
        have hve : v.isEmpty = false := by cases v with | nil => exact absurd rfl hv0 | cons _ _ => rfl
        clear hv0
        go_wp2_with fail
        go_ret
        rw [E.out]
        exact ⟨rfl, Hb2.out⟩
    · have E := NF.out (.inr (.inr rfl))
      unfold RetNI at NU
      rw [E] at NU
      clear E
      go_wp2_with fail
      refine NU.out.mono ?_
      rintro e w3 ⟨rfl, hb3⟩
      have Hb3 := Lib.hid (below_then Hb2.out hb3)
      clear hb3
      go_wp2_with fail
      go_ret
      exact ⟨rfl, Hb3.out⟩
theorem yesOrNo_any (b : Bool) (w : World) : Calls Tryz.prog 67 #[.bool b] w fun e w' => e = .returned (.string (S (yesNo b))) ∧ w = w' := by
  cases b with
  | true =>
    go_enter Tryz.func67, Tryz.ntmps67
    go_wp2_with fail
    go_ret
    exact ⟨rfl, rfl⟩
  | false =>
    go_enter Tryz.func67, Tryz.ntmps67
    go_wp2_with fail
    go_ret
    exact ⟨rfl, rfl⟩
end Go.Proofs.YteapbjeapnmloaaGreatDoor
namespace Go.Proofs.YteapbjeapnmloaaGreatDoor
open Go Go.RowKit Go.Shelf Go.Maps
attribute [local go_sem] Oper.semAt_some
/-- three blocks more, for the second iterator -/
theorem seq_world (w : World) (s : List UInt8) : ∃ W0, ((w.alloc (.cells #[.string (S s)] 9)).alloc (.cells #[.string (S [44])] 9)).alloc (.cells #[.int .i64 0] 3) = W0 ∧ W0.heap.size = w.heap.size + 3 ∧ Below w.heap.size w W0 ∧ Blk W0 w.heap.size #[.string (S s)] 9 ∧ Blk W0 (w.heap.size + 1) #[.string (S [44])] 9 ∧ Blk W0 (w.heap.size + 2) #[.int .i64 0] 3 := by
  have f0 := ((Blk.new w #[.string (S s)] 9).alloc (.cells #[.string (S [44])] 9)).alloc (.cells #[.int .i64 0] 3)
  have f1 := (Blk.new (w.alloc (.cells #[.string (S s)] 9)) #[.string (S [44])] 9).alloc (.cells #[.int .i64 0] 3)
  have f2 := Blk.new ((w.alloc (.cells #[.string (S s)] 9)).alloc (.cells #[.string (S [44])] 9)) #[.int .i64 0] 3
  simp only [World.size_alloc] at f1 f2
  exact ⟨_, rfl, by simp, (((Below.refl _ w).alloc (Nat.le_refl _) _).alloc (by simp) _).alloc (by simp; omega) _, f0, f1, f2⟩
theorem first_world (w : World) (s : List UInt8) : ∃ W0, (((((((w.alloc (.cells #[.string (S [])] 9)).alloc (.cells #[.nilIface] 29)).alloc (.map #[] 0)).alloc (.cells #[.map (some (w.heap.size + 1 + 1))] 41)).alloc (.cells #[.string (S s)] 9)).alloc (.cells #[.string (S [44])] 9)).alloc (.cells #[.int .i64 0] 3)) = W0 ∧ W0.heap.size = w.heap.size + 7 ∧ Below w.heap.size w W0 ∧ Blk W0 (w.heap.size) #[.string (S [])] 9 ∧ Blk W0 (w.heap.size + 1) #[.nilIface] 29 ∧ BMap 9 W0 (w.heap.size + 1 + 1) 0 (fun _ => False) ∧ Blk W0 (w.heap.size + 1 + 1 + 1) #[.map (some (w.heap.size + 1 + 1))] 41 ∧ Blk W0 (w.heap.size + 1 + 1 + 1 + 1) #[.string (S s)] 9 ∧ Blk W0 (w.heap.size + 1 + 1 + 1 + 1 + 1) #[.string (S [44])] 9 ∧ Blk W0 (w.heap.size + 1 + 1 + 1 + 1 + 1 + 1) #[.int .i64 0] 3 := by
  obtain ⟨w1, h1⟩ : ∃ w1, w.alloc (.cells #[.string (S [])] 9) = w1 := ⟨_, rfl⟩
  have z1 : w1.heap.size = w.heap.size + 1 := by rw [← h1, World.size_alloc]
  have b1 : Below w.heap.size w w1 := by rw [← h1]; exact (Below.refl _ w).alloc (by omega) _
  have f0_1 : Blk w1 (w.heap.size) #[.string (S [])] 9 := by have := Blk.new w #[.string (S [])] 9; rw [h1] at this; exact this
  obtain ⟨w2, h2⟩ : ∃ w2, w1.alloc (.cells #[.nilIface] 29) = w2 := ⟨_, rfl⟩
  have z2 : w2.heap.size = w.heap.size + 1 + 1 := by rw [← h2, World.size_alloc, z1]
  have b2 : Below w.heap.size w w2 := by rw [← h2]; exact (b1).alloc (by omega) _
  have f1_2 : Blk w2 (w.heap.size + 1) #[.nilIface] 29 := by have := Blk.new w1 #[.nilIface] 29; rw [h2, z1] at this; exact this
  have f0_2 := f0_1.alloc (.cells #[.nilIface] 29)
  rw [h2] at f0_2
  obtain ⟨w3, h3⟩ : ∃ w3, w2.alloc (.map #[] 0) = w3 := ⟨_, rfl⟩
  have z3 : w3.heap.size = w.heap.size + 1 + 1 + 1 := by rw [← h3, World.size_alloc, z2]
  have b3 : Below w.heap.size w w3 := by rw [← h3]; exact (b2).alloc (by omega) _
  have f2_3 : BMap 9 w3 (w.heap.size + 1 + 1) 0 (fun _ => False) := by have := BMap.made 9 w2; rw [h3, z2] at this; exact this
  have f0_3 := f0_2.alloc (.map #[] 0)
  rw [h3] at f0_3
  have f1_3 := f1_2.alloc (.map #[] 0)
  rw [h3] at f1_3
  obtain ⟨w4, h4⟩ : ∃ w4, w3.alloc (.cells #[.map (some (w.heap.size + 1 + 1))] 41) = w4 := ⟨_, rfl⟩
  have z4 : w4.heap.size = w.heap.size + 1 + 1 + 1 + 1 := by rw [← h4, World.size_alloc, z3]
  have b4 : Below w.heap.size w w4 := by rw [← h4]; exact (b3).alloc (by omega) _
  have f3_4 : Blk w4 (w.heap.size + 1 + 1 + 1) #[.map (some (w.heap.size + 1 + 1))] 41 := by have := Blk.new w3 #[.map (some (w.heap.size + 1 + 1))] 41; rw [h4, z3] at this; exact this
  have f0_4 := f0_3.alloc (.cells #[.map (some (w.heap.size + 1 + 1))] 41)
  rw [h4] at f0_4
  have f1_4 := f1_3.alloc (.cells #[.map (some (w.heap.size + 1 + 1))] 41)
  rw [h4] at f1_4
  have f2_4 := f2_3.alloc (.cells #[.map (some (w.heap.size + 1 + 1))] 41)
  rw [h4] at f2_4
  obtain ⟨w5, h5⟩ : ∃ w5, w4.alloc (.cells #[.string (S s)] 9) = w5 := ⟨_, rfl⟩
  have z5 : w5.heap.size = w.heap.size + 1 + 1 + 1 + 1 + 1 := by rw [← h5, World.size_alloc, z4]
  have b5 : Below w.heap.size w w5 := by rw [← h5]; exact (b4).alloc (by omega) _
  have f4_5 : Blk w5 (w.heap.size + 1 + 1 + 1 + 1) #[.string (S s)] 9 := by have := Blk.new w4 #[.string (S s)] 9; rw [h5, z4] at this; exact this
  have f0_5 := f0_4.alloc (.cells #[.string (S s)] 9)
  rw [h5] at f0_5
  have f1_5 := f1_4.alloc (.cells #[.string (S s)] 9)
  rw [h5] at f1_5
  have f2_5 := f2_4.alloc (.cells #[.string (S s)] 9)
  rw [h5] at f2_5
  have f3_5 := f3_4.alloc (.cells #[.string (S s)] 9)
  rw [h5] at f3_5
  obtain ⟨w6, h6⟩ : ∃ w6, w5.alloc (.cells #[.string (S [44])] 9) = w6 := ⟨_, rfl⟩
  have z6 : w6.heap.size = w.heap.size + 1 + 1 + 1 + 1 + 1 + 1 := by rw [← h6, World.size_alloc, z5]
  have b6 : Below w.heap.size w w6 := by rw [← h6]; exact (b5).alloc (by omega) _
  have f5_6 : Blk w6 (w.heap.size + 1 + 1 + 1 + 1 + 1) #[.string (S [44])] 9 := by have := Blk.new w5 #[.string (S [44])] 9; rw [h6, z5] at this; exact this
  have f0_6 := f0_5.alloc (.cells #[.string (S [44])] 9)
  rw [h6] at f0_6
  have f1_6 := f1_5.alloc (.cells #[.string (S [44])] 9)
  rw [h6] at f1_6
  have f2_6 := f2_5.alloc (.cells #[.string (S [44])] 9)
  rw [h6] at f2_6
  have f3_6 := f3_5.alloc (.cells #[.string (S [44])] 9)
  rw [h6] at f3_6
  have f4_6 := f4_5.alloc (.cells #[.string (S [44])] 9)
  rw [h6] at f4_6
  obtain ⟨w7, h7⟩ : ∃ w7, w6.alloc (.cells #[.int .i64 0] 3) = w7 := ⟨_, rfl⟩
  have z7 : w7.heap.size = w.heap.size + 1 + 1 + 1 + 1 + 1 + 1 + 1 := by rw [← h7, World.size_alloc, z6]
  have b7 : Below w.heap.size w w7 := by rw [← h7]; exact (b6).alloc (by omega) _
  have f6_7 : Blk w7 (w.heap.size + 1 + 1 + 1 + 1 + 1 + 1) #[.int .i64 0] 3 := by have := Blk.new w6 #[.int .i64 0] 3; rw [h7, z6] at this; exact this
  have f0_7 := f0_6.alloc (.cells #[.int .i64 0] 3)
  rw [h7] at f0_7
  have f1_7 := f1_6.alloc (.cells #[.int .i64 0] 3)
  rw [h7] at f1_7
  have f2_7 := f2_6.alloc (.cells #[.int .i64 0] 3)
  rw [h7] at f2_7
  have f3_7 := f3_6.alloc (.cells #[.int .i64 0] 3)
  rw [h7] at f3_7
  have f4_7 := f4_6.alloc (.cells #[.int .i64 0] 3)
  rw [h7] at f4_7
  have f5_7 := f5_6.alloc (.cells #[.int .i64 0] 3)
  rw [h7] at f5_7
  exact ⟨w7, by rw [h1, h2, h3, h4, h5, h6, h7], by omega, b7, f0_7, f1_7, f2_7, f3_7, f4_7, f5_7, f6_7⟩
/-- a value and an error's number are returned -/
def RetSN (w : World) (r : List UInt8 × Nat) (e : Ending) (w' : World) : Prop := e = .returned (.tuple #[.string (S r.1), errV (r.2 : Int)]) ∧ Below w.heap.size w w'
def firstN (r : Option (List UInt8)) : List UInt8 × Nat := match r with | some x => (x, 0) | none => ([], 8)
theorem find_prefix {q : List (List UInt8)} {y : List UInt8} {l m : List (List UInt8)} (hp : q ++ [y] <+: l) (hq : ∀ z ∈ q, z ∉ m) (hy : y ∈ m) : l.find? (fun x => decide (x ∈ m)) = some y := by
  obtain ⟨r, hr⟩ := hp
  rw [← hr, List.append_assoc, List.find?_append, List.find?_eq_none.2 (fun x hx => by simpa using hq x hx)]
  simp [hy]
set_option maxRecDepth 100000 in
set_option maxHeartbeats 2000000 in
theorem first_in (a s : List UInt8) (w : World) (hla : a.length ≤ 1000) (hl : s.length ≤ 1000) (hm : MaxCell w) :
    CallsIn Fence.wide 6 Tryz.prog 70 #[.string (S a), .string (S s)] w (RetSN w (firstN (firstR a s))) := by
  have hmm := @run_makeMap Tryz.prog
  refine callsIn_of_wp_marks Tryz.func70 rfl trivial ?_ rfl
  simp only [Tryz.ntmps70, List.size_toArray, List.length_cons, List.length_nil, Nat.reduceAdd, Nat.reduceSub, Array.replicate_succ, Array.replicate_zero, List.push_toArray, List.append_toArray, List.nil_append, List.cons_append]
  gi_wp2_with fail
  refine ⟨trivial, (callsIn_wide.2 (splitSeq_any 44 s _)).mono ?_⟩
  rintro e w' ⟨rfl, rfl⟩
  unfold seqV
  simp only [World.size_alloc]
  clear hmm
  obtain ⟨W0, hW0, hsz, hB0, b0, b1, bM, bP, s0, s1, s2⟩ := first_world w s
  gi_wp2_with fail
  rw [hW0]
  clear hW0
  have hm0 := hm.later hB0
  have hg := hm.lt
  have hsplit := split1_sum 44 s.length s (Nat.le_refl _)
  have hsplita := split1_sum 44 a.length a (Nat.le_refl _)
  refine wpIn_rangeFunc_cell rfl (by decide) (gf := 120) rfl trivial (enters_of Tryz.func120 (by kernel_rfl) rfl)
    (splitSeq_stops 5 (by decide) w.heap.size (w.heap.size + 4) 44 s (by omega) W0 s0 s1 s2 hm0 hg (by omega)) (by omega) (by omega) (fun _ => rfl)
    (fun pre W => (Blk W w.heap.size #[.string (S [])] 9 ∧ Blk W (w.heap.size + 1) #[.nilIface] 29 ∧ Blk W (w.heap.size + 1 + 1 + 1) #[.map (some (w.heap.size + 1 + 1))] 41 ∧ BMap 9 W (w.heap.size + 1 + 1) pre.length (fun x => ∃ y ∈ pre, x = .string y)) ∧ w.heap.size + 7 ≤ W.heap.size ∧ Below w.heap.size w W)
    (fun _ _ _ => False)
    (by
      rintro pre W W' ⟨⟨h2, h3, h4, h5⟩, hz, h7⟩ hk
      exact ⟨⟨h2.off hk (by omega), h3.off hk (by omega), h4.off hk (by omega), h5.off hk (by omega) (by omega)⟩, Nat.le_trans hz hk.size, abOff_below (β := Unit) (by omega) (by omega) (Nat.le_refl _) () W W' h7 hk⟩)
    (fun _ _ _ _ h _ => h)
    ⟨⟨b0, b1, bP, bM.as (fun x => by simp)⟩, by omega, hB0⟩
    (fun x => { tmps := #[.string (S a), .string (S s), undef, undef, .pointer (some ⟨w.heap.size, 0, none⟩), .pointer (some ⟨w.heap.size + 1, 0, none⟩), .pointer (some ⟨w.heap.size + 1 + 1 + 1, 0, none⟩), .string (S x), undef, .map (some (w.heap.size + 1 + 1)), .string (S s), seqV (w.heap.size + 4), .string (S x), undef, undef, undef, undef, undef, undef, undef, undef, undef, undef], defers := [] })
    ?assign ?body ?done ?stop
  case assign =>
    intro l x W K hK
    gi_wp2
    exact hK
  case stop =>
    rintro D c pre W hD hp h hK
    exact h.elim
  case body =>
    rintro l pre x W ⟨⟨b0, b1, bP, bM⟩, hz, hB⟩ hpx
    have hpl := hpx.length_le
    rw [List.length_append, List.length_singleton] at hpl
    have hxl : x.length ≤ 1000 := Nat.le_trans (hsplit.1 x (hpx.subset (by simp))) hl
    have hkx := keyW x (by omega)
    have cP := bP.one
    obtain ⟨wm, hrun, bM', hgm⟩ := bM.put keyedS Tryz.underlying41 (by omega) hkx (by trivial)
    have hgmr : ∀ j, some (w.heap.size + 1 + 1) = some j → w.heap.size + 1 + 1 = j := fun j e => Option.some.inj e
    have b0m := b0.grown hgm (fun k e => by have := hgmr k e; omega)
    have b1m := b1.grown hgm (fun k e => by have := hgmr k e; omega)
    have bPm := bP.grown hgm (fun k e => by have := hgmr k e; omega)
    have K1 : KeptIn w.heap.size (w.heap.size + 4) (w.heap.size + 4 + 3) W wm := (KeptIn.refl _ _ _ _).grown hgm (by omega) (by omega) (fun k e => by have := hgmr k e; omega)
    have F1 : KeepsFrom W0.heap.size W wm := KeepsFrom.of_grownBy hgm (fun j e => by have := hgmr j e; omega)
    have B1 := hB.grown hgm hB.size (fun k e => by have := hgmr k e; omega)
    gi_wp2_with (gi_at_mapUpdate; refine wpListIn_mapUpdate_b rfl _ _ _ _ rfl wm hrun ?_)
    refine ⟨F1, K1, ⟨b0m, b1m, bPm, ?_⟩, Nat.le_trans hz hgm.size, B1⟩
    rw [List.length_append]
    exact bM'.as (fun y => ⟨fun h => by
      rcases h with rfl | ⟨z, hz, rfl⟩
      · exact ⟨x, by simp, rfl⟩
      · exact ⟨z, List.mem_append_left _ hz, rfl⟩, fun ⟨z, hz, e⟩ => by
      rcases List.mem_append.1 hz with hz | hz
      · exact .inr ⟨z, hz, e⟩
      · rw [List.mem_singleton.1 hz] at e; exact .inl e⟩)
  case done =>
    rintro D xs W hD rfl ⟨⟨b0, b1, bP, bM⟩, hz, hB⟩ hK
    have hDW : D < W.heap.size := (Array.getElem?_eq_some_iff.1 hK).1
    gi_wp2_with fail
    refine ⟨trivial, (callsIn_wide.2 (splitSeq_any 44 a _)).mono ?_⟩
    rintro e w' ⟨rfl, rfl⟩
    unfold seqV
    obtain ⟨W1, hW1, hsz1, hB1, t0, t1, t2⟩ := seq_world W a
    gi_wp2_with fail
    clear hW1
    have hb1' : Below w.heap.size w W1 := below_then hB hB1
    have hm1 := hm.later hb1'
    have hKl : W1.heap[D]? = some (.deferred (some [])) := (hB1.block D hDW).trans hK
    refine wpIn_rangeFunc_cell rfl (by decide) (gf := 120) rfl trivial (enters_of Tryz.func120 (by kernel_rfl) rfl)
      (splitSeq_stops 5 (by decide) w.heap.size W.heap.size 44 a (by omega) W1 t0 t1 t2 hm1 hg (by omega)) (by omega) (by omega) (fun _ => rfl)
      (fun pre V => (Blk V w.heap.size #[.string (S [])] 9 ∧ Blk V (w.heap.size + 1) #[.nilIface] 29 ∧ Blk V (w.heap.size + 1 + 1 + 1) #[.map (some (w.heap.size + 1 + 1))] 41 ∧ BMap 9 V (w.heap.size + 1 + 1) (split1 44 s).length (fun x => ∃ y ∈ split1 44 s, x = .string y)) ∧ V.heap[D]? = some (.deferred (some [])) ∧ (∀ z ∈ pre, z ∉ split1 44 s) ∧ Below w.heap.size w V)
      (fun c pre V => (c = .ret ∧ ∃ q y, pre = q ++ [y] ∧ (∀ z ∈ q, z ∉ split1 44 s) ∧ y ∈ split1 44 s ∧ Blk V w.heap.size #[.string (S y)] 9 ∧ Blk V (w.heap.size + 1) #[.nilIface] 29) ∧ V.heap[D]? = some (.deferred (some [])) ∧ Below w.heap.size w V)
      (by
        rintro pre V V' ⟨⟨h2, h3, h4, h5⟩, hd, hn, h7⟩ hk
        exact ⟨⟨h2.off hk (by omega), h3.off hk (by omega), h4.off hk (by omega), h5.off hk (by omega) (by omega)⟩, hk.same D _ hd (by omega) (.inr (by omega)), hn, abOff_below (β := Unit) (by omega) (by omega) (Nat.le_refl _) () V V' h7 hk⟩)
      (by
        rintro c pre V V' ⟨⟨h1, q, y, h2, h3, h4, h5, h6⟩, hd, h7⟩ hk
        exact ⟨⟨h1, q, y, h2, h3, h4, h5.off hk (by omega), h6.off hk (by omega)⟩, hk.same D _ hd (by omega) (.inr (by omega)), abOff_below (β := Unit) (by omega) (by omega) (Nat.le_refl _) () V V' h7 hk⟩)
      ⟨⟨b0.later hB1, b1.later hB1, bP.later hB1, bM.later hB1⟩, hKl, (fun z h => by cases h), hb1'⟩
      (fun x => { tmps := #[.string (S a), .string (S s), undef, undef, .pointer (some ⟨w.heap.size, 0, none⟩), .pointer (some ⟨w.heap.size + 1, 0, none⟩), .pointer (some ⟨w.heap.size + 1 + 1 + 1, 0, none⟩), undef, .string (S x), .map (some (w.heap.size + 1 + 1)), .string (S s), seqV (w.heap.size + 4), undef, undef, undef, .string (S a), seqV W.heap.size, .string (S x), undef, undef, undef, undef, undef], defers := [] })
      ?assign2 ?body2 ?done2 ?stop2
    case assign2 =>
      intro l x V K hK
      gi_wp2
      exact hK
    case body2 =>
      rintro l pre x V ⟨⟨b0, b1, bP, bM⟩, hd, hn, hB⟩ hpx
      have hxl : x.length ≤ 1000 := Nat.le_trans (hsplita.1 x (hpx.subset (by simp))) hla
      have hkx := keyW x (by omega)
      have cP := bP.one
      have c0 := b0.one
      have f0 := b0.frozen 0
      have c1 := b1.one
      have f1 := b1.frozen 0
      by_cases hmem : x ∈ split1 44 s
      · have hlook := (bM.look keyedS Tryz.underlying41 hkx).1 ⟨x, hmem, rfl⟩
        gi_wp2_with fail
        refine ⟨((KeepsOthers.setCell _ _ _).trans (KeepsOthers.setCell _ _ _)).from _, ⟨rfl, pre, x, rfl, hn, hmem, ?_, ?_⟩, ?_, ?_⟩
        · exact (b0.set 0 _).other (by omega) _
        · exact (b1.other (by omega) _).set 0 _
        · exact ((KeepsOthers.setCell _ _ _).trans (KeepsOthers.setCell _ _ _)).same D _ hd rfl
        · exact (hB.setCell (p := ⟨w.heap.size, 0, none⟩) (Nat.le_refl _) _).setCell (p := ⟨w.heap.size + 1, 0, none⟩) (Nat.le_succ _) _
      · have hlook := (bM.look keyedS Tryz.underlying41 hkx).2 (fun ⟨y, hy, e⟩ => hmem (by cases e; exact hy))
        gi_wp2_with fail
        exact ⟨KeepsFrom.refl _ _, KeptIn.refl _ _ _ _, ⟨b0, b1, bP, bM⟩, hd, (fun z hz => by
          rcases List.mem_append.1 hz with h | h
          · exact hn z h
          · rw [List.mem_singleton.1 h]; exact hmem), hB⟩
    case done2 =>
      rintro D2 xs V hD2 rfl ⟨⟨b0, b1, bP, bM⟩, hd, hn, hB⟩ hK2
      have c0 := b0.one
      have f0 := b0.frozen 0
      have c1 := b1.one
      have f1 := b1.frozen 0
      gi_wp2
      have k1 : KeepsOthers V ((V.setCell ⟨w.heap.size, 0, none⟩ (.string (S []))).setCell ⟨w.heap.size + 1, 0, none⟩ (.iface 38 (.int .i64 8))) := (KeepsOthers.setCell _ _ _).trans (KeepsOthers.setCell _ _ _)
      have g1 : Blk ((V.setCell ⟨w.heap.size, 0, none⟩ (.string (S []))).setCell ⟨w.heap.size + 1, 0, none⟩ (.iface 38 (.int .i64 8))) w.heap.size #[.string (S [])] 9 := (b0.set 0 _).other (by omega) _
      have g2 : Blk ((V.setCell ⟨w.heap.size, 0, none⟩ (.string (S []))).setCell ⟨w.heap.size + 1, 0, none⟩ (.iface 38 (.int .i64 8))) (w.heap.size + 1) #[.iface 38 (.int .i64 8)] 29 := (b1.other (by omega) _).set 0 _
      have hb2 := (hB.setCell (p := ⟨w.heap.size, 0, none⟩) (Nat.le_refl _) (.string (S []))).setCell (p := ⟨w.heap.size + 1, 0, none⟩) (Nat.le_succ _) (.iface 38 (.int .i64 8))
      have hK2' := k1.same D2 _ hK2 rfl
      have hd' : (World.putObj ((V.setCell ⟨w.heap.size, 0, none⟩ (.string (S []))).setCell ⟨w.heap.size + 1, 0, none⟩ (.iface 38 (.int .i64 8))) D2 (.deferred none)).heap[D]? = some (.deferred (some [])) := (World.putObj_heap_other (by omega)).trans (k1.same D _ hd rfl)
      have q0 := ((g1.put (.deferred none) (show w.heap.size ≠ D2 by omega)).put (.deferred none) (show w.heap.size ≠ D by omega)).one
      have q1 := ((g2.put (.deferred none) (show w.heap.size + 1 ≠ D2 by omega)).put (.deferred none) (show w.heap.size + 1 ≠ D by omega)).one
      have hb3 := (hb2.trans (belowK_b (w := w) (Nat.le_refl _) _ D2 _ (.deferred none) (by omega) hK2' rfl rfl)).trans (belowK_b (w := w) (Nat.le_refl _) _ D _ (.deferred none) (by omega) hd' rfl rfl)
      refine ⟨by simp, .inl ⟨_, _, rfl, run_takeDeferred hK2', by simp, .inl ⟨_, _, rfl, run_takeDeferred hd', ?_⟩⟩⟩
      have hf : firstR a s = none := by
        unfold firstR
        exact List.find?_eq_none.2 (fun x hx => by simpa using hn x hx)
      refine ⟨.tuple #[.string (S []), .iface 38 (.int .i64 8)], ?_, ?_, hb3⟩
      · clear hb3 hb2 g1 g2 k1 hK2' hd' c0 c1 f0 f1
        simp [results, Tryz.results70, go_sem, q0, q1]
      · rw [hf]
        rfl
    case stop2 =>
      rintro D2 c pre V hD2 hp ⟨⟨rfl, q, y, rfl, hq, hy, b0, b1⟩, hd, hB⟩ hK2
      gi_wp2
      have hd' : (World.putObj V D2 (.deferred none)).heap[D]? = some (.deferred (some [])) := (World.putObj_heap_other (by omega)).trans hd
      have q0 := ((b0.put (.deferred none) (show w.heap.size ≠ D2 by omega)).put (.deferred none) (show w.heap.size ≠ D by omega)).one
      have q1 := ((b1.put (.deferred none) (show w.heap.size + 1 ≠ D2 by omega)).put (.deferred none) (show w.heap.size + 1 ≠ D by omega)).one
      have hb3 := (hB.trans (belowK_b (w := w) (Nat.le_refl _) _ D2 _ (.deferred none) (by omega) hK2 rfl rfl)).trans (belowK_b (w := w) (Nat.le_refl _) _ D _ (.deferred none) (by omega) hd' rfl rfl)
      refine ⟨by simp, .inl ⟨_, _, rfl, run_takeDeferred hK2, by simp, .inl ⟨_, _, rfl, run_takeDeferred hd', ?_⟩⟩⟩
      have hf : firstR a s = some y := find_prefix hp hq hy
      refine ⟨.tuple #[.string (S y), .nilIface], ?_, ?_, hb3⟩
      · simp [results, Tryz.results70, go_sem, q0, q1]
      · rw [hf]
        rfl
theorem first_any (a s : List UInt8) (w : World) (hla : a.length ≤ 1000) (hl : s.length ≤ 1000) (hm : MaxCell w) : Calls Tryz.prog 70 #[.string (S a), .string (S s)] w (RetSN w (firstN (firstR a s))) :=
  (callsIn_wide (n := 6)).1 (first_in a s w hla hl hm)
end Go.Proofs.YteapbjeapnmloaaGreatDoor
namespace Go.Proofs.YteapbjeapnmloaaGreatDoor
open Go.RowKit
theorem numbers_world (w : World) (a b kn df : List UInt8) (lo hi K : Int) (no lg : Bool) : ∃ W0, ((((w.alloc (.cells #[.string (S a), .string (S b)] 114)).alloc (.cells #[.string (S kn), .int .i64 K, .int .i64 lo, .int .i64 hi, .string (S df), .bool no, .bool lg] 48)).alloc (.cells #[.int .i64 0, .int .i64 0] 116)).alloc (.cells #[.int .i64 0, .int .i64 0] 116)) = W0 ∧ Below w.heap.size w W0 ∧
    Blk W0 w.heap.size #[.string (S a), .string (S b)] 114 ∧ Blk W0 (w.heap.size + 1) #[.string (S kn), .int .i64 K, .int .i64 lo, .int .i64 hi, .string (S df), .bool no, .bool lg] 48 ∧ Blk W0 (w.heap.size + 1 + 1) #[.int .i64 0, .int .i64 0] 116 ∧ Blk W0 (w.heap.size + 1 + 1 + 1) #[.int .i64 0, .int .i64 0] 116 := by
  have f0 := Blk.new w #[.string (S a), .string (S b)] 114
  obtain ⟨w1, h1⟩ : ∃ w1, w.alloc (.cells #[.string (S a), .string (S b)] 114) = w1 := ⟨_, rfl⟩
  have z1 : w1.heap.size = w.heap.size + 1 := by rw [← h1, World.size_alloc]
  have b1 : Below w.heap.size w w1 := by rw [← h1]; exact (Below.refl _ w).alloc (Nat.le_refl _) _
  rw [h1] at f0 ⊢
  have f1 := Blk.new w1 #[.string (S kn), .int .i64 K, .int .i64 lo, .int .i64 hi, .string (S df), .bool no, .bool lg] 48
  have f0 := f0.alloc (.cells #[.string (S kn), .int .i64 K, .int .i64 lo, .int .i64 hi, .string (S df), .bool no, .bool lg] 48)
  obtain ⟨w2, h2⟩ : ∃ w2, w1.alloc (.cells #[.string (S kn), .int .i64 K, .int .i64 lo, .int .i64 hi, .string (S df), .bool no, .bool lg] 48) = w2 := ⟨_, rfl⟩
  have z2 : w2.heap.size = w.heap.size + 1 + 1 := by rw [← h2, World.size_alloc, z1]
  have b2 : Below w.heap.size w w2 := by rw [← h2]; exact b1.alloc b1.size _
  rw [h2] at f0 f1 ⊢
  rw [z1] at f1
  have f2 := Blk.new w2 #[.int .i64 0, .int .i64 0] 116
  have f0 := f0.alloc (.cells #[.int .i64 0, .int .i64 0] 116)
  have f1 := f1.alloc (.cells #[.int .i64 0, .int .i64 0] 116)
  obtain ⟨w3, h3⟩ : ∃ w3, w2.alloc (.cells #[.int .i64 0, .int .i64 0] 116) = w3 := ⟨_, rfl⟩
  have z3 : w3.heap.size = w.heap.size + 1 + 1 + 1 := by rw [← h3, World.size_alloc, z2]
  have b3 : Below w.heap.size w w3 := by rw [← h3]; exact b2.alloc b2.size _
  rw [h3] at f0 f1 f2 ⊢
  rw [z2] at f2
  have f3 := Blk.new w3 #[.int .i64 0, .int .i64 0] 116
  rw [z3] at f3
  exact ⟨_, rfl, b3.alloc b3.size _, f0.alloc _, f1.alloc _, f2.alloc _, f3⟩
theorem two_index0 (a b : List UInt8) (w : World) : (Instr.index 114 (.agg #[.string (S a), .string (S b)]) (.int .i64 0)).run Tryz.prog w = .ok (.string (S a)) w := by kernel_rfl
theorem two_index1 (a b : List UInt8) (w : World) : (Instr.index 114 (.agg #[.string (S a), .string (S b)]) (.int .i64 1)).run Tryz.prog w = .ok (.string (S b)) w := by kernel_rfl
set_option maxRecDepth 100000 in
set_option maxHeartbeats 1000000 in
theorem numbers_any (a b kn df : List UInt8) (lo hi K : Int) (no lg : Bool) (na nb : Int) (w : World) (ha : a.length ≤ 1000) (hb : b.length ≤ 1000) (hE : Env w) (h1 : numE a lo hi = (na, 0)) (h2 : numE b lo hi = (nb, 0)) :
    Calls Tryz.prog 68 #[.agg #[.string (S a), .string (S b)], .agg #[.string (S kn), .int .i64 K, .int .i64 lo, .int .i64 hi, .string (S df), .bool no, .bool lg]] w fun e w' => e = .returned (.agg #[.int .i64 na, .int .i64 nb]) ∧ Below w.heap.size w w' := by
  obtain ⟨W0, hW0, hB0, bV, bK, bR, bN⟩ := numbers_world w a b kn df lo hi K no lg
  have Hb0 := Lib.hid hB0
  have NA := Lib.hid (numeral_any a lo hi W0 (by omega) (hE.later hB0))
  rw [h1] at NA
  have NB := Lib.hid (fun W (h : Below w.heap.size w W) => show Calls Tryz.prog 59 #[.string (S b), .int .i64 lo, .int .i64 hi] W (RetNI W (nb, 0)) from by
    have := numeral_any b lo hi W (by omega) (hE.later h)
    rwa [h2] at this)
  obtain ⟨v0, v1⟩ := bV.two
  have HK := Lib.hid bK
  have HR := Lib.hid bR
  have HN := Lib.hid bN
  obtain ⟨_, _, k2, k3, _, _, _⟩ := bK.seven
  clear hB0 bV bK bR bN hE h1 h2
  have i0 := two_index0 a b
  have i1 := two_index1 a b
  go_enter Tryz.func68, Tryz.ntmps68
  go_wp2_with fail
  refine wp_loop_rounds 3 ?_
  rw [rounds_succ]
  go_wp2_with fail
  refine NA.out.mono ?_
  rintro e w1 ⟨rfl, hb1⟩
  have K1 := HK.out.later hb1
  have R1 := HR.out.later hb1
  have N1 := HN.out.later hb1
  obtain ⟨w2, hw2⟩ : ∃ w2, w1.setCell ⟨w.heap.size + 1 + 1 + 1, 0, none⟩ (.int .i64 na) = w2 := ⟨_, rfl⟩
  have Hb2 := Lib.hid (show Below w.heap.size w w2 by rw [← hw2]; exact (below_then Hb0.out hb1).setCell (p := ⟨w.heap.size + 1 + 1 + 1, 0, none⟩) (by show w.heap.size ≤ w.heap.size + 1 + 1 + 1; omega) _)
  have HK2 := Lib.hid (show Blk w2 (w.heap.size + 1) #[.string (S kn), .int .i64 K, .int .i64 lo, .int .i64 hi, .string (S df), .bool no, .bool lg] 48 by rw [← hw2]; exact K1.other (by omega) _)
  have HR2 := Lib.hid (show Blk w2 (w.heap.size + 1 + 1) #[.int .i64 0, .int .i64 0] 116 by rw [← hw2]; exact R1.other (by omega) _)
  have HN2 := Lib.hid (show Blk w2 (w.heap.size + 1 + 1 + 1) #[.int .i64 na, .int .i64 0] 116 by rw [← hw2]; exact N1.set 0 _)
  obtain ⟨p0, p1⟩ := N1.two
  have f0 := N1.frozen 0
  have f1 := N1.frozen 1
  obtain ⟨_, _, k2', k3', _, _, _⟩ := HK2.out.seven
  have NB2 := Lib.hid (NB.out w2 Hb2.out)
  clear hb1 K1 R1 N1 NA NB v0 v1 k2 k3
  go_wp2_with fail
  rw [rounds_succ]
  go_wp2_with fail
  refine NB2.out.mono ?_
  rintro e w3 ⟨rfl, hb3⟩
  have R3 := HR2.out.later hb3
  have N3 := HN2.out.later hb3
  obtain ⟨w4, hw4⟩ : ∃ w4, w3.setCell ⟨w.heap.size + 1 + 1 + 1, 1, none⟩ (.int .i64 nb) = w4 := ⟨_, rfl⟩
  have Hb4 := Lib.hid (show Below w.heap.size w w4 by rw [← hw4]; exact (below_then Hb2.out hb3).setCell (p := ⟨w.heap.size + 1 + 1 + 1, 1, none⟩) (by show w.heap.size ≤ w.heap.size + 1 + 1 + 1; omega) _)
  have HR4 := Lib.hid (show Blk w4 (w.heap.size + 1 + 1) #[.int .i64 0, .int .i64 0] 116 by rw [← hw4]; exact R3.other (by omega) _)
  have N4 : Blk w4 (w.heap.size + 1 + 1 + 1) #[.int .i64 na, .int .i64 nb] 116 := by rw [← hw4]; exact N3.set 1 _
  obtain ⟨s0, s1⟩ := N3.two
  have g0 := N3.frozen 0
  have g1 := N3.frozen 1
  obtain ⟨t0, t1⟩ := N4.two
  obtain ⟨r0, r1⟩ := HR4.out.two
  have u0 := HR4.out.frozen 0
  have u1 := HR4.out.frozen 1
  have HRf := Lib.hid ((HR4.out.set 0 (.int .i64 na)).set 1 (.int .i64 nb))
  clear hb3 R3 N3 N4 NB2 p0 p1 f0 f1 k2' k3'
  go_wp2_with fail
  rw [rounds_succ]
  go_wp2_with fail
  obtain ⟨q0, q1⟩ := Blk.two (HRf.out : Blk _ (w.heap.size + 1 + 1) #[.int .i64 na, .int .i64 nb] 116)
  refine bodyPost_ret (v := .agg #[.int .i64 na, .int .i64 nb]) (by simp [results, Tryz.results68, go_sem, q0, q1]) rfl ?_
  exact ⟨rfl, (Hb4.out.setCell (p := ⟨w.heap.size + 1 + 1, 0, none⟩) (by show w.heap.size ≤ w.heap.size + 1 + 1; omega) _).setCell (p := ⟨w.heap.size + 1 + 1, 1, none⟩) (by show w.heap.size ≤ w.heap.size + 1 + 1; omega) _⟩
end Go.Proofs.YteapbjeapnmloaaGreatDoor
namespace Go.Proofs.YteapbjeapnmloaaGreatDoor
open Go.RowKit
theorem errV_ne {n : Nat} (h : n ≠ 0) : errV (n : Int) = .iface 38 (.int .i64 (n : Int)) := errV_pos _ (by omega)
theorem keyRes_off {nm a b : List UInt8} (h : keyFits nm a ≠ 0) : keyRes nm a b = ([], keyFits nm a) := by
  unfold keyFits at h ⊢
  unfold keyRes
  cases hr : rowOf nm with
  | none => rfl
  | some k => rw [hr] at h; exact resK_off h
theorem keyRes_own {nm a b : List UInt8} (h1 : keyFits nm a = 0) (h : keyFits nm b ≠ 0) : keyRes nm a b = ([], keyFits nm b) := by
  unfold keyFits at h h1 ⊢
  unfold keyRes
  cases hr : rowOf nm with
  | none => rfl
  | some k => rw [hr] at h h1; exact resK_own h1 h
theorem keyFits_row {nm v : List UInt8} (h : keyFits nm v = 0) : ∃ k, rowOf nm = some k ∧ fitK k v = 0 := by
  unfold keyFits at h
  cases hr : rowOf nm with
  | none => rw [hr] at h; cases h
  | some k => rw [hr] at h; exact ⟨k, rfl, h⟩
set_option maxRecDepth 100000 in
set_option maxHeartbeats 2000000 in
theorem result_bad (nm a b : List UInt8) (w : World) (ha : a.length ≤ 1000) (hb : b.length ≤ 1000) (hE : Env w) (hbad : keyFits nm a ≠ 0 ∨ keyFits nm b ≠ 0) :
    Calls Tryz.prog 40 #[.string (S nm), .string (S a), .string (S b)] w (RetSN w (keyRes nm a b)) := by
  have i0 := two_index0 a b
  have i1 := two_index1 a b
  have hb0 := (Below.refl w.heap.size w).alloc (Nat.le_refl _) (.cells #[.string (S a), .string (S b)] 114)
  obtain ⟨W0, hW0⟩ : ∃ W0, w.alloc (.cells #[.string (S a), .string (S b)] 114) = W0 := ⟨_, rfl⟩
  have bV := Blk.new w #[.string (S a), .string (S b)] 114
  rw [hW0] at hb0 bV
  obtain ⟨v0, v1⟩ := bV.two
  have Hb0 := Lib.hid hb0
  have FA := fits_any nm a W0 ha (hE.later hb0)
  by_cases h1 : keyFits nm a = 0
  · have h2 : keyFits nm b ≠ 0 := hbad.resolve_left (fun h => h h1)
    have R := Lib.hid (keyRes_own (b := b) h1 h2)
    rw [h1] at FA
    have FA := Lib.hid FA
    have FB := Lib.hid (fun W (h : Below w.heap.size w W) => fits_any nm b W hb (hE.later h))
    have HX := Lib.hid (errV_ne h2)
    obtain ⟨n, hn⟩ : ∃ n, keyFits nm b = n := ⟨_, rfl⟩
    rw [hn] at R FB HX
    clear hE hb0 bV h1 h2 hbad hn
    go_enter Tryz.func40, Tryz.ntmps40
    go_wp2_with fail
    refine wp_loop_rounds 3 ?_
    rw [rounds_succ]
    go_wp2_with fail
    refine FA.out.mono ?_
    rintro e w1 ⟨rfl, hb1⟩
    have Hb1 := Lib.hid (below_then Hb0.out hb1)
    have FB1 := FB.out w1 Hb1.out
    unfold RetErrN at FB1
    rw [HX.out] at FB1
    have FB1 := Lib.hid FB1
    clear hb1
    rw [show errV ((0 : Nat) : Int) = .nilIface from rfl]
    go_wp2_with fail
    rw [rounds_succ]
    go_wp2_with fail
    refine FB1.out.mono ?_
    rintro e w2 ⟨rfl, hb2⟩
    have Hb2 := Lib.hid (below_then Hb1.out hb2)
    clear hb2
    go_wp2_with fail
    go_ret2
    rw [R.out]
    exact ⟨by rw [HX.out]; rfl, Hb2.out⟩
  · have R := Lib.hid (keyRes_off (b := b) h1)
    have HX := Lib.hid (errV_ne h1)
    obtain ⟨n, hn⟩ : ∃ n, keyFits nm a = n := ⟨_, rfl⟩
    unfold RetErrN at FA
    rw [hn] at R FA HX
    rw [HX.out] at FA
    have FA := Lib.hid FA
    clear hE hb0 bV h1 hbad hn
    go_enter Tryz.func40, Tryz.ntmps40
    go_wp2_with fail
    refine wp_loop_rounds 3 ?_
    rw [rounds_succ]
    go_wp2_with fail
    refine FA.out.mono ?_
    rintro e w1 ⟨rfl, hb1⟩
    have Hb1 := Lib.hid (below_then Hb0.out hb1)
    clear hb1
    go_wp2_with fail
    go_ret2
    rw [R.out]
    exact ⟨by rw [HX.out]; rfl, Hb1.out⟩
set_option maxRecDepth 100000 in
set_option maxHeartbeats 2000000 in
theorem result_and (nm a b kn df : List UInt8) (lo hi : Nat) (no lg : Bool) (w : World) (ha : a.length ≤ 1000) (hb : b.length ≤ 1000) (hE : Env w) (h1 : keyFits nm a = 0) (h2 : keyFits nm b = 0) (hr : rowOf nm = some ⟨kn, 1, lo, hi, df, no, lg⟩) (x y : Bool) (ya : (a = [89, 101, 115] ∧ x = true) ∨ (a = [78, 111] ∧ x = false)) (yb : (b = [89, 101, 115] ∧ y = true) ∨ (b = [78, 111] ∧ y = false)) :
    Calls Tryz.prog 40 #[.string (S nm), .string (S a), .string (S b)] w (RetSN w (yesNo (x && y), 0)) := by
  have i0 := two_index0 a b
  have i1 := two_index1 a b
  have hb0 := (Below.refl w.heap.size w).alloc (Nat.le_refl _) (.cells #[.string (S a), .string (S b)] 114)
  obtain ⟨W0, hW0⟩ : ∃ W0, w.alloc (.cells #[.string (S a), .string (S b)] 114) = W0 := ⟨_, rfl⟩
  have bV := Blk.new w #[.string (S a), .string (S b)] 114
  rw [hW0] at hb0 bV
  obtain ⟨v0, v1⟩ := bV.two
  have Hb0 := Lib.hid hb0
  have HV := Lib.hid bV
  have FA := fits_any nm a W0 ha (hE.later hb0)
  rw [h1] at FA
  have FA := Lib.hid FA
  have FB := Lib.hid (fun W (h : Below w.heap.size w W) => show Calls Tryz.prog 28 #[.string (S nm), .string (S b)] W (RetErrN W 0) from by
    have := fits_any nm b W hb (hE.later h)
    rwa [h2] at this)
  have OF := Lib.hid (fun W => of_row (s := nm) W hr)
  clear hE hb0 bV h1 h2 hr
  go_enter Tryz.func40, Tryz.ntmps40
  go_wp2_with fail
  refine wp_loop_rounds 3 ?_
  rw [rounds_succ]
  go_wp2_with fail
  refine FA.out.mono ?_
  rintro e w1 ⟨rfl, hb1⟩
  have Hb1 := Lib.hid (below_then Hb0.out hb1)
  have FB1 := Lib.hid (FB.out w1 Hb1.out)
  have HV1 := Lib.hid (HV.out.later hb1)
  clear hb1 FB FA v0 v1
  rw [show errV ((0 : Nat) : Int) = .nilIface from rfl]
  go_wp2_with fail
  rw [rounds_succ]
  go_wp2_with fail
  refine FB1.out.mono ?_
  rintro e w2 ⟨rfl, hb2⟩
  have Hb2 := Lib.hid (below_then Hb1.out hb2)
  have HV2 := Lib.hid (HV1.out.later hb2)
  clear hb2 FB1
  rw [show errV ((0 : Nat) : Int) = .nilIface from rfl]
  go_wp2_with fail
  rw [rounds_succ]
  go_wp2_with fail
  refine (OF.out w2).mono ?_
  rintro e w3 ⟨rfl, hb3⟩
  have hV3 := HV2.out.later hb3
  obtain ⟨w4, hw4⟩ : ∃ w4, w3.alloc (.cells #[.string (S kn), .int .i64 1, .int .i64 (lo : Int), .int .i64 (hi : Int), .string (S df), .bool no, .bool lg] 48) = w4 := ⟨_, rfl⟩
  have Hb4 := Lib.hid (show Below w.heap.size w w4 by rw [← hw4]; exact (below_then Hb2.out hb3).alloc (below_then Hb2.out hb3).size _)
  have hV4 : Blk w4 w.heap.size #[.string (S a), .string (S b)] 114 := by rw [← hw4]; exact hV3.alloc _
  have bK : Blk w4 w3.heap.size #[.string (S kn), .int .i64 1, .int .i64 (lo : Int), .int .i64 (hi : Int), .string (S df), .bool no, .bool lg] 48 := by rw [← hw4]; exact Blk.new w3 _ _
  obtain ⟨c0, c1, c2, c3, c4, c5, c6⟩ := bK.seven
  obtain ⟨v0, v1⟩ := hV4.two
  clear hb3 hV3 bK hV4 OF
  rcases ya with ⟨rfl, rfl⟩ | ⟨rfl, rfl⟩ <;> rcases yb with ⟨rfl, rfl⟩ | ⟨rfl, rfl⟩
  all_goals
    go_wp2_with fail
    refine (yesOrNo_any _ _).mono ?_
    rintro e w' ⟨rfl, rfl⟩
    go_wp2_with fail
    go_ret2
    exact ⟨rfl, Hb4.out⟩
set_option maxRecDepth 100000 in
set_option maxHeartbeats 2000000 in
theorem result_or (nm a b kn df : List UInt8) (lo hi : Nat) (no lg : Bool) (w : World) (ha : a.length ≤ 1000) (hb : b.length ≤ 1000) (hE : Env w) (h1 : keyFits nm a = 0) (h2 : keyFits nm b = 0) (hr : rowOf nm = some ⟨kn, 2, lo, hi, df, no, lg⟩) (x y : Bool) (ya : (a = [89, 101, 115] ∧ x = true) ∨ (a = [78, 111] ∧ x = false)) (yb : (b = [89, 101, 115] ∧ y = true) ∨ (b = [78, 111] ∧ y = false)) :
    Calls Tryz.prog 40 #[.string (S nm), .string (S a), .string (S b)] w (RetSN w (yesNo (x || y), 0)) := by
  have i0 := two_index0 a b
  have i1 := two_index1 a b
  have hb0 := (Below.refl w.heap.size w).alloc (Nat.le_refl _) (.cells #[.string (S a), .string (S b)] 114)
  obtain ⟨W0, hW0⟩ : ∃ W0, w.alloc (.cells #[.string (S a), .string (S b)] 114) = W0 := ⟨_, rfl⟩
  have bV := Blk.new w #[.string (S a), .string (S b)] 114
  rw [hW0] at hb0 bV
  obtain ⟨v0, v1⟩ := bV.two
  have Hb0 := Lib.hid hb0
  have HV := Lib.hid bV
  have FA := fits_any nm a W0 ha (hE.later hb0)
  rw [h1] at FA
  have FA := Lib.hid FA
  have FB := Lib.hid (fun W (h : Below w.heap.size w W) => show Calls Tryz.prog 28 #[.string (S nm), .string (S b)] W (RetErrN W 0) from by
    have := fits_any nm b W hb (hE.later h)
    rwa [h2] at this)
  have OF := Lib.hid (fun W => of_row (s := nm) W hr)
  clear hE hb0 bV h1 h2 hr
  go_enter Tryz.func40, Tryz.ntmps40
  go_wp2_with fail
  refine wp_loop_rounds 3 ?_
  rw [rounds_succ]
  go_wp2_with fail
  refine FA.out.mono ?_
  rintro e w1 ⟨rfl, hb1⟩
  have Hb1 := Lib.hid (below_then Hb0.out hb1)
  have FB1 := Lib.hid (FB.out w1 Hb1.out)
  have HV1 := Lib.hid (HV.out.later hb1)
  clear hb1 FB FA v0 v1
  rw [show errV ((0 : Nat) : Int) = .nilIface from rfl]
  go_wp2_with fail
  rw [rounds_succ]
  go_wp2_with fail
  refine FB1.out.mono ?_
  rintro e w2 ⟨rfl, hb2⟩
  have Hb2 := Lib.hid (below_then Hb1.out hb2)
  have HV2 := Lib.hid (HV1.out.later hb2)
  clear hb2 FB1
  rw [show errV ((0 : Nat) : Int) = .nilIface from rfl]
  go_wp2_with fail
  rw [rounds_succ]
  go_wp2_with fail
  refine (OF.out w2).mono ?_
  rintro e w3 ⟨rfl, hb3⟩
  have hV3 := HV2.out.later hb3
  obtain ⟨w4, hw4⟩ : ∃ w4, w3.alloc (.cells #[.string (S kn), .int .i64 2, .int .i64 (lo : Int), .int .i64 (hi : Int), .string (S df), .bool no, .bool lg] 48) = w4 := ⟨_, rfl⟩
  have Hb4 := Lib.hid (show Below w.heap.size w w4 by rw [← hw4]; exact (below_then Hb2.out hb3).alloc (below_then Hb2.out hb3).size _)
  have hV4 : Blk w4 w.heap.size #[.string (S a), .string (S b)] 114 := by rw [← hw4]; exact hV3.alloc _
  have bK : Blk w4 w3.heap.size #[.string (S kn), .int .i64 2, .int .i64 (lo : Int), .int .i64 (hi : Int), .string (S df), .bool no, .bool lg] 48 := by rw [← hw4]; exact Blk.new w3 _ _
  obtain ⟨c0, c1, c2, c3, c4, c5, c6⟩ := bK.seven
  obtain ⟨v0, v1⟩ := hV4.two
  clear hb3 hV3 bK hV4 OF
  rcases ya with ⟨rfl, rfl⟩ | ⟨rfl, rfl⟩ <;> rcases yb with ⟨rfl, rfl⟩ | ⟨rfl, rfl⟩
  all_goals
    go_wp2_with fail
    refine (yesOrNo_any _ _).mono ?_
    rintro e w' ⟨rfl, rfl⟩
    go_wp2_with fail
    go_ret2
    exact ⟨rfl, Hb4.out⟩
set_option maxRecDepth 100000 in
set_option maxHeartbeats 2000000 in
theorem result_least (nm a b kn df : List UInt8) (lo hi : Nat) (no lg : Bool) (w : World) (ha : a.length ≤ 1000) (hb : b.length ≤ 1000) (hE : Env w) (h1 : keyFits nm a = 0) (h2 : keyFits nm b = 0) (hr : rowOf nm = some ⟨kn, 3, lo, hi, df, no, lg⟩) (n m : Nat) (hn : numE a lo hi = ((n : Int), 0)) (hm : numE b lo hi = ((m : Int), 0)) (hn40 : n < 1099511627776) (hm40 : m < 1099511627776) :
    Calls Tryz.prog 40 #[.string (S nm), .string (S a), .string (S b)] w (RetSN w (Lib.decDigits (min n m), 0)) := by
  have i0 := two_index0 a b
  have i1 := two_index1 a b
  have hb0 := (Below.refl w.heap.size w).alloc (Nat.le_refl _) (.cells #[.string (S a), .string (S b)] 114)
  obtain ⟨W0, hW0⟩ : ∃ W0, w.alloc (.cells #[.string (S a), .string (S b)] 114) = W0 := ⟨_, rfl⟩
  have bV := Blk.new w #[.string (S a), .string (S b)] 114
  rw [hW0] at hb0 bV
  obtain ⟨v0, v1⟩ := bV.two
  have Hb0 := Lib.hid hb0
  have HV := Lib.hid bV
  have FA := fits_any nm a W0 ha (hE.later hb0)
  rw [h1] at FA
  have FA := Lib.hid FA
  have FB := Lib.hid (fun W (h : Below w.heap.size w W) => show Calls Tryz.prog 28 #[.string (S nm), .string (S b)] W (RetErrN W 0) from by
    have := fits_any nm b W hb (hE.later h)
    rwa [h2] at this)
  have OF := Lib.hid (fun W => of_row (s := nm) W hr)
  have NU := Lib.hid (fun W (h : Below w.heap.size w W) => numbers_any a b kn df (lo : Int) (hi : Int) 3 no lg (n : Int) (m : Int) W ha hb (hE.later h) hn hm)
  have IT := Lib.hid (fun W (h : Below w.heap.size w W) => itoa_any (min n m) W (by omega) (hE.later h))
  have hmm : ((min n m : Nat) : Int) = min (n : Int) (m : Int) := by omega
  rw [hmm] at IT
  clear hmm hn hm hn40 hm40
  clear hE hb0 bV h1 h2 hr
  go_enter Tryz.func40, Tryz.ntmps40
  go_wp2_with fail
  refine wp_loop_rounds 3 ?_
  rw [rounds_succ]
  go_wp2_with fail
  refine FA.out.mono ?_
  rintro e w1 ⟨rfl, hb1⟩
  have Hb1 := Lib.hid (below_then Hb0.out hb1)
  have FB1 := Lib.hid (FB.out w1 Hb1.out)
  have HV1 := Lib.hid (HV.out.later hb1)
  clear hb1 FB FA v0 v1
  rw [show errV ((0 : Nat) : Int) = .nilIface from rfl]
  go_wp2_with fail
  rw [rounds_succ]
  go_wp2_with fail
  refine FB1.out.mono ?_
  rintro e w2 ⟨rfl, hb2⟩
  have Hb2 := Lib.hid (below_then Hb1.out hb2)
  have HV2 := Lib.hid (HV1.out.later hb2)
  clear hb2 FB1
  rw [show errV ((0 : Nat) : Int) = .nilIface from rfl]
  go_wp2_with fail
  rw [rounds_succ]
  go_wp2_with fail
  refine (OF.out w2).mono ?_
  rintro e w3 ⟨rfl, hb3⟩
  have hV3 := HV2.out.later hb3
  obtain ⟨w4, hw4⟩ : ∃ w4, w3.alloc (.cells #[.string (S kn), .int .i64 3, .int .i64 (lo : Int), .int .i64 (hi : Int), .string (S df), .bool no, .bool lg] 48) = w4 := ⟨_, rfl⟩
  have Hb4 := Lib.hid (show Below w.heap.size w w4 by rw [← hw4]; exact (below_then Hb2.out hb3).alloc (below_then Hb2.out hb3).size _)
  have hV4 : Blk w4 w.heap.size #[.string (S a), .string (S b)] 114 := by rw [← hw4]; exact hV3.alloc _
  have bK : Blk w4 w3.heap.size #[.string (S kn), .int .i64 3, .int .i64 (lo : Int), .int .i64 (hi : Int), .string (S df), .bool no, .bool lg] 48 := by rw [← hw4]; exact Blk.new w3 _ _
  obtain ⟨c0, c1, c2, c3, c4, c5, c6⟩ := bK.seven
  obtain ⟨v0, v1⟩ := hV4.two
  clear hb3 hV3 bK hV4 OF
  have NU4 := Lib.hid (NU.out w4 Hb4.out)
  clear NU
  go_wp2_with fail
  refine NU4.out.mono ?_
  rintro e w5 ⟨rfl, hb5⟩
  obtain ⟨w6, hw6⟩ : ∃ w6, w5.alloc (.cells #[.int .i64 (n : Int), .int .i64 (m : Int)] 116) = w6 := ⟨_, rfl⟩
  have Hb6 := Lib.hid (show Below w.heap.size w w6 by rw [← hw6]; exact (below_then Hb4.out hb5).alloc (below_then Hb4.out hb5).size _)
  have b6 : Blk w6 w5.heap.size #[.int .i64 (n : Int), .int .i64 (m : Int)] 116 := by rw [← hw6]; exact Blk.new w5 _ _
  obtain ⟨d0, d1⟩ := b6.two
  have IT6 := Lib.hid (IT.out w6 Hb6.out)
  clear hb5 b6 NU4 IT
  go_wp2_with fail
  refine IT6.out.mono ?_
  rintro e w7 ⟨rfl, hb7⟩
  have Hb7 := Lib.hid (below_then Hb6.out hb7)
  clear hb7
  go_wp2_with fail
  go_ret2
  exact ⟨rfl, Hb7.out⟩
set_option maxRecDepth 100000 in
set_option maxHeartbeats 2000000 in
theorem result_most (nm a b kn df : List UInt8) (lo hi : Nat) (no lg : Bool) (w : World) (ha : a.length ≤ 1000) (hb : b.length ≤ 1000) (hE : Env w) (h1 : keyFits nm a = 0) (h2 : keyFits nm b = 0) (hr : rowOf nm = some ⟨kn, 4, lo, hi, df, no, lg⟩) (n m : Nat) (hn : numE a lo hi = ((n : Int), 0)) (hm : numE b lo hi = ((m : Int), 0)) (hn40 : n < 1099511627776) (hm40 : m < 1099511627776) :
    Calls Tryz.prog 40 #[.string (S nm), .string (S a), .string (S b)] w (RetSN w (Lib.decDigits (max n m), 0)) := by
  have i0 := two_index0 a b
  have i1 := two_index1 a b
  have hb0 := (Below.refl w.heap.size w).alloc (Nat.le_refl _) (.cells #[.string (S a), .string (S b)] 114)
  obtain ⟨W0, hW0⟩ : ∃ W0, w.alloc (.cells #[.string (S a), .string (S b)] 114) = W0 := ⟨_, rfl⟩
  have bV := Blk.new w #[.string (S a), .string (S b)] 114
  rw [hW0] at hb0 bV
  obtain ⟨v0, v1⟩ := bV.two
  have Hb0 := Lib.hid hb0
  have HV := Lib.hid bV
  have FA := fits_any nm a W0 ha (hE.later hb0)
  rw [h1] at FA
  have FA := Lib.hid FA
  have FB := Lib.hid (fun W (h : Below w.heap.size w W) => show Calls Tryz.prog 28 #[.string (S nm), .string (S b)] W (RetErrN W 0) from by
    have := fits_any nm b W hb (hE.later h)
    rwa [h2] at this)
  have OF := Lib.hid (fun W => of_row (s := nm) W hr)
  have NU := Lib.hid (fun W (h : Below w.heap.size w W) => numbers_any a b kn df (lo : Int) (hi : Int) 4 no lg (n : Int) (m : Int) W ha hb (hE.later h) hn hm)
  have IT := Lib.hid (fun W (h : Below w.heap.size w W) => itoa_any (max n m) W (by omega) (hE.later h))
  have hmm : ((max n m : Nat) : Int) = max (n : Int) (m : Int) := by omega
  rw [hmm] at IT
  clear hmm hn hm hn40 hm40
  clear hE hb0 bV h1 h2 hr
  go_enter Tryz.func40, Tryz.ntmps40
  go_wp2_with fail
  refine wp_loop_rounds 3 ?_
  rw [rounds_succ]
  go_wp2_with fail
  refine FA.out.mono ?_
  rintro e w1 ⟨rfl, hb1⟩
  have Hb1 := Lib.hid (below_then Hb0.out hb1)
  have FB1 := Lib.hid (FB.out w1 Hb1.out)
  have HV1 := Lib.hid (HV.out.later hb1)
  clear hb1 FB FA v0 v1
  rw [show errV ((0 : Nat) : Int) = .nilIface from rfl]
  go_wp2_with fail
  rw [rounds_succ]
  go_wp2_with fail
  refine FB1.out.mono ?_
  rintro e w2 ⟨rfl, hb2⟩
  have Hb2 := Lib.hid (below_then Hb1.out hb2)
  have HV2 := Lib.hid (HV1.out.later hb2)
  clear hb2 FB1
  rw [show errV ((0 : Nat) : Int) = .nilIface from rfl]
  go_wp2_with fail
  rw [rounds_succ]
  go_wp2_with fail
  refine (OF.out w2).mono ?_
  rintro e w3 ⟨rfl, hb3⟩
  have hV3 := HV2.out.later hb3
  obtain ⟨w4, hw4⟩ : ∃ w4, w3.alloc (.cells #[.string (S kn), .int .i64 4, .int .i64 (lo : Int), .int .i64 (hi : Int), .string (S df), .bool no, .bool lg] 48) = w4 := ⟨_, rfl⟩
  have Hb4 := Lib.hid (show Below w.heap.size w w4 by rw [← hw4]; exact (below_then Hb2.out hb3).alloc (below_then Hb2.out hb3).size _)
  have hV4 : Blk w4 w.heap.size #[.string (S a), .string (S b)] 114 := by rw [← hw4]; exact hV3.alloc _
  have bK : Blk w4 w3.heap.size #[.string (S kn), .int .i64 4, .int .i64 (lo : Int), .int .i64 (hi : Int), .string (S df), .bool no, .bool lg] 48 := by rw [← hw4]; exact Blk.new w3 _ _
  obtain ⟨c0, c1, c2, c3, c4, c5, c6⟩ := bK.seven
  obtain ⟨v0, v1⟩ := hV4.two
  clear hb3 hV3 bK hV4 OF
  have NU4 := Lib.hid (NU.out w4 Hb4.out)
  clear NU
  go_wp2_with fail
  refine NU4.out.mono ?_
  rintro e w5 ⟨rfl, hb5⟩
  obtain ⟨w6, hw6⟩ : ∃ w6, w5.alloc (.cells #[.int .i64 (n : Int), .int .i64 (m : Int)] 116) = w6 := ⟨_, rfl⟩
  have Hb6 := Lib.hid (show Below w.heap.size w w6 by rw [← hw6]; exact (below_then Hb4.out hb5).alloc (below_then Hb4.out hb5).size _)
  have b6 : Blk w6 w5.heap.size #[.int .i64 (n : Int), .int .i64 (m : Int)] 116 := by rw [← hw6]; exact Blk.new w5 _ _
  obtain ⟨d0, d1⟩ := b6.two
  have IT6 := Lib.hid (IT.out w6 Hb6.out)
  clear hb5 b6 NU4 IT
  go_wp2_with fail
  refine IT6.out.mono ?_
  rintro e w7 ⟨rfl, hb7⟩
  have Hb7 := Lib.hid (below_then Hb6.out hb7)
  clear hb7
  go_wp2_with fail
  go_ret2
  exact ⟨rfl, Hb7.out⟩
set_option maxRecDepth 100000 in
set_option maxHeartbeats 2000000 in
theorem result_first (nm a b kn df : List UInt8) (lo hi : Nat) (no lg : Bool) (w : World) (ha : a.length ≤ 1000) (hb : b.length ≤ 1000) (hE : Env w) (h1 : keyFits nm a = 0) (h2 : keyFits nm b = 0) (hr : rowOf nm = some ⟨kn, 5, lo, hi, df, no, lg⟩) :
    Calls Tryz.prog 40 #[.string (S nm), .string (S a), .string (S b)] w (RetSN w (firstN (firstR a b))) := by
  have i0 := two_index0 a b
  have i1 := two_index1 a b
  have hb0 := (Below.refl w.heap.size w).alloc (Nat.le_refl _) (.cells #[.string (S a), .string (S b)] 114)
  obtain ⟨W0, hW0⟩ : ∃ W0, w.alloc (.cells #[.string (S a), .string (S b)] 114) = W0 := ⟨_, rfl⟩
  have bV := Blk.new w #[.string (S a), .string (S b)] 114
  rw [hW0] at hb0 bV
  obtain ⟨v0, v1⟩ := bV.two
  have Hb0 := Lib.hid hb0
  have HV := Lib.hid bV
  have FA := fits_any nm a W0 ha (hE.later hb0)
  rw [h1] at FA
  have FA := Lib.hid FA
  have FB := Lib.hid (fun W (h : Below w.heap.size w W) => show Calls Tryz.prog 28 #[.string (S nm), .string (S b)] W (RetErrN W 0) from by
    have := fits_any nm b W hb (hE.later h)
    rwa [h2] at this)
  have OF := Lib.hid (fun W => of_row (s := nm) W hr)
  have FI := Lib.hid (fun W (h : Below w.heap.size w W) => first_any a b W ha hb (hE.later h).mc)
  clear hE hb0 bV h1 h2 hr
  go_enter Tryz.func40, Tryz.ntmps40
  go_wp2_with fail
  refine wp_loop_rounds 3 ?_
  rw [rounds_succ]
  go_wp2_with fail
  refine FA.out.mono ?_
  rintro e w1 ⟨rfl, hb1⟩
  have Hb1 := Lib.hid (below_then Hb0.out hb1)
  have FB1 := Lib.hid (FB.out w1 Hb1.out)
  have HV1 := Lib.hid (HV.out.later hb1)
  clear hb1 FB FA v0 v1
  rw [show errV ((0 : Nat) : Int) = .nilIface from rfl]
  go_wp2_with fail
  rw [rounds_succ]
  go_wp2_with fail
  refine FB1.out.mono ?_
  rintro e w2 ⟨rfl, hb2⟩
  have Hb2 := Lib.hid (below_then Hb1.out hb2)
  have HV2 := Lib.hid (HV1.out.later hb2)
  clear hb2 FB1
  rw [show errV ((0 : Nat) : Int) = .nilIface from rfl]
  go_wp2_with fail
  rw [rounds_succ]
  go_wp2_with fail
  refine (OF.out w2).mono ?_
  rintro e w3 ⟨rfl, hb3⟩
  have hV3 := HV2.out.later hb3
  obtain ⟨w4, hw4⟩ : ∃ w4, w3.alloc (.cells #[.string (S kn), .int .i64 5, .int .i64 (lo : Int), .int .i64 (hi : Int), .string (S df), .bool no, .bool lg] 48) = w4 := ⟨_, rfl⟩
  have Hb4 := Lib.hid (show Below w.heap.size w w4 by rw [← hw4]; exact (below_then Hb2.out hb3).alloc (below_then Hb2.out hb3).size _)
  have hV4 : Blk w4 w.heap.size #[.string (S a), .string (S b)] 114 := by rw [← hw4]; exact hV3.alloc _
  have bK : Blk w4 w3.heap.size #[.string (S kn), .int .i64 5, .int .i64 (lo : Int), .int .i64 (hi : Int), .string (S df), .bool no, .bool lg] 48 := by rw [← hw4]; exact Blk.new w3 _ _
  obtain ⟨c0, c1, c2, c3, c4, c5, c6⟩ := bK.seven
  obtain ⟨v0, v1⟩ := hV4.two
  clear hb3 hV3 bK hV4 OF
  have FI4 := Lib.hid (FI.out w4 Hb4.out)
  clear FI
  go_wp2_with fail
  refine FI4.out.mono ?_
  rintro e w5 ⟨rfl, hb5⟩
  have Hb5 := Lib.hid (below_then Hb4.out hb5)
  clear hb5
  go_wp2_with fail
  go_ret2
  exact ⟨rfl, Hb5.out⟩
set_option maxRecDepth 100000 in
set_option maxHeartbeats 2000000 in
theorem result_told (nm a b kn df : List UInt8) (lo hi : Nat) (no lg : Bool) (w : World) (ha : a.length ≤ 1000) (hb : b.length ≤ 1000) (hE : Env w) (h1 : keyFits nm a = 0) (h2 : keyFits nm b = 0) (hr : rowOf nm = some ⟨kn, 6, lo, hi, df, no, lg⟩) :
    Calls Tryz.prog 40 #[.string (S nm), .string (S a), .string (S b)] w (RetSN w (a, 0)) := by
  have i0 := two_index0 a b
  have i1 := two_index1 a b
  have hb0 := (Below.refl w.heap.size w).alloc (Nat.le_refl _) (.cells #[.string (S a), .string (S b)] 114)
  obtain ⟨W0, hW0⟩ : ∃ W0, w.alloc (.cells #[.string (S a), .string (S b)] 114) = W0 := ⟨_, rfl⟩
  have bV := Blk.new w #[.string (S a), .string (S b)] 114
  rw [hW0] at hb0 bV
  obtain ⟨v0, v1⟩ := bV.two
  have Hb0 := Lib.hid hb0
  have HV := Lib.hid bV
  have FA := fits_any nm a W0 ha (hE.later hb0)
  rw [h1] at FA
  have FA := Lib.hid FA
  have FB := Lib.hid (fun W (h : Below w.heap.size w W) => show Calls Tryz.prog 28 #[.string (S nm), .string (S b)] W (RetErrN W 0) from by
    have := fits_any nm b W hb (hE.later h)
    rwa [h2] at this)
  have OF := Lib.hid (fun W => of_row (s := nm) W hr)
  clear hE hb0 bV h1 h2 hr
  go_enter Tryz.func40, Tryz.ntmps40
  go_wp2_with fail
  refine wp_loop_rounds 3 ?_
  rw [rounds_succ]
  go_wp2_with fail
  refine FA.out.mono ?_
  rintro e w1 ⟨rfl, hb1⟩
  have Hb1 := Lib.hid (below_then Hb0.out hb1)
  have FB1 := Lib.hid (FB.out w1 Hb1.out)
  have HV1 := Lib.hid (HV.out.later hb1)
  clear hb1 FB FA v0 v1
  rw [show errV ((0 : Nat) : Int) = .nilIface from rfl]
  go_wp2_with fail
  rw [rounds_succ]
  go_wp2_with fail
  refine FB1.out.mono ?_
  rintro e w2 ⟨rfl, hb2⟩
  have Hb2 := Lib.hid (below_then Hb1.out hb2)
  have HV2 := Lib.hid (HV1.out.later hb2)
  clear hb2 FB1
  rw [show errV ((0 : Nat) : Int) = .nilIface from rfl]
  go_wp2_with fail
  rw [rounds_succ]
  go_wp2_with fail
  refine (OF.out w2).mono ?_
  rintro e w3 ⟨rfl, hb3⟩
  have hV3 := HV2.out.later hb3
  obtain ⟨w4, hw4⟩ : ∃ w4, w3.alloc (.cells #[.string (S kn), .int .i64 6, .int .i64 (lo : Int), .int .i64 (hi : Int), .string (S df), .bool no, .bool lg] 48) = w4 := ⟨_, rfl⟩
  have Hb4 := Lib.hid (show Below w.heap.size w w4 by rw [← hw4]; exact (below_then Hb2.out hb3).alloc (below_then Hb2.out hb3).size _)
  have hV4 : Blk w4 w.heap.size #[.string (S a), .string (S b)] 114 := by rw [← hw4]; exact hV3.alloc _
  have bK : Blk w4 w3.heap.size #[.string (S kn), .int .i64 6, .int .i64 (lo : Int), .int .i64 (hi : Int), .string (S df), .bool no, .bool lg] 48 := by rw [← hw4]; exact Blk.new w3 _ _
  obtain ⟨c0, c1, c2, c3, c4, c5, c6⟩ := bK.seven
  obtain ⟨v0, v1⟩ := hV4.two
  clear hb3 hV3 bK hV4 OF
  go_wp2_with fail
  go_ret2
  exact ⟨rfl, Hb4.out⟩
set_option maxRecDepth 100000 in
set_option maxHeartbeats 2000000 in
theorem result_number (nm a b kn df : List UInt8) (lo hi : Nat) (no lg : Bool) (w : World) (ha : a.length ≤ 1000) (hb : b.length ≤ 1000) (hE : Env w) (h1 : keyFits nm a = 0) (h2 : keyFits nm b = 0) (hr : rowOf nm = some ⟨kn, 7, lo, hi, df, no, lg⟩) :
    Calls Tryz.prog 40 #[.string (S nm), .string (S a), .string (S b)] w (RetSN w (a, 0)) := by
  have i0 := two_index0 a b
  have i1 := two_index1 a b
  have hb0 := (Below.refl w.heap.size w).alloc (Nat.le_refl _) (.cells #[.string (S a), .string (S b)] 114)
  obtain ⟨W0, hW0⟩ : ∃ W0, w.alloc (.cells #[.string (S a), .string (S b)] 114) = W0 := ⟨_, rfl⟩
  have bV := Blk.new w #[.string (S a), .string (S b)] 114
  rw [hW0] at hb0 bV
  obtain ⟨v0, v1⟩ := bV.two
  have Hb0 := Lib.hid hb0
  have HV := Lib.hid bV
  have FA := fits_any nm a W0 ha (hE.later hb0)
  rw [h1] at FA
  have FA := Lib.hid FA
  have FB := Lib.hid (fun W (h : Below w.heap.size w W) => show Calls Tryz.prog 28 #[.string (S nm), .string (S b)] W (RetErrN W 0) from by
    have := fits_any nm b W hb (hE.later h)
    rwa [h2] at this)
  have OF := Lib.hid (fun W => of_row (s := nm) W hr)
  clear hE hb0 bV h1 h2 hr
  go_enter Tryz.func40, Tryz.ntmps40
  go_wp2_with fail
  refine wp_loop_rounds 3 ?_
  rw [rounds_succ]
  go_wp2_with fail
  refine FA.out.mono ?_
  rintro e w1 ⟨rfl, hb1⟩
  have Hb1 := Lib.hid (below_then Hb0.out hb1)
  have FB1 := Lib.hid (FB.out w1 Hb1.out)
  have HV1 := Lib.hid (HV.out.later hb1)
  clear hb1 FB FA v0 v1
  rw [show errV ((0 : Nat) : Int) = .nilIface from rfl]
  go_wp2_with fail
  rw [rounds_succ]
  go_wp2_with fail
  refine FB1.out.mono ?_
  rintro e w2 ⟨rfl, hb2⟩
  have Hb2 := Lib.hid (below_then Hb1.out hb2)
  have HV2 := Lib.hid (HV1.out.later hb2)
  clear hb2 FB1
  rw [show errV ((0 : Nat) : Int) = .nilIface from rfl]
  go_wp2_with fail
  rw [rounds_succ]
  go_wp2_with fail
  refine (OF.out w2).mono ?_
  rintro e w3 ⟨rfl, hb3⟩
  have hV3 := HV2.out.later hb3
  obtain ⟨w4, hw4⟩ : ∃ w4, w3.alloc (.cells #[.string (S kn), .int .i64 7, .int .i64 (lo : Int), .int .i64 (hi : Int), .string (S df), .bool no, .bool lg] 48) = w4 := ⟨_, rfl⟩
  have Hb4 := Lib.hid (show Below w.heap.size w w4 by rw [← hw4]; exact (below_then Hb2.out hb3).alloc (below_then Hb2.out hb3).size _)
  have hV4 : Blk w4 w.heap.size #[.string (S a), .string (S b)] 114 := by rw [← hw4]; exact hV3.alloc _
  have bK : Blk w4 w3.heap.size #[.string (S kn), .int .i64 7, .int .i64 (lo : Int), .int .i64 (hi : Int), .string (S df), .bool no, .bool lg] 48 := by rw [← hw4]; exact Blk.new w3 _ _
  obtain ⟨c0, c1, c2, c3, c4, c5, c6⟩ := bK.seven
  obtain ⟨v0, v1⟩ := hV4.two
  clear hb3 hV3 bK hV4 OF
  go_wp2_with fail
  go_ret2
  exact ⟨rfl, Hb4.out⟩
theorem keyRes_ok {nm a b : List UInt8} {k : Ke} (hr : rowOf nm = some k) (h1 : fitK k a = 0) (h2 : fitK k b = 0) : keyRes nm a b = resOk k a b := by
  unfold keyRes
  rw [hr]
  exact resK_ok h1 h2
theorem numE_of {s : List UInt8} {lo hi n : Nat} (h : numR s = some n) (h1 : lo ≤ n) (h2 : n ≤ hi) : numE s (lo : Int) (hi : Int) = ((n : Int), 0) := numE_in h (by omega) (by omega)
theorem yes_or {a : List UInt8} (h : a = yesL ∨ a = noL) : (a = [89, 101, 115] ∧ decide (a = yesL) = true) ∨ (a = [78, 111] ∧ decide (a = yesL) = false) := by
  rcases h with rfl | rfl
  · exact .inl ⟨rfl, by decide⟩
  · exact .inr ⟨rfl, by decide⟩
theorem result_any (nm a b : List UInt8) (w : World) (ha : a.length ≤ 1000) (hb : b.length ≤ 1000) (hE : Env w) :
    Calls Tryz.prog 40 #[.string (S nm), .string (S a), .string (S b)] w (RetSN w (keyRes nm a b)) := by
  by_cases h1 : keyFits nm a = 0
  · by_cases h2 : keyFits nm b = 0
    · obtain ⟨k, hr, f1⟩ := keyFits_row h1
      obtain ⟨k', hr', f2⟩ := keyFits_row h2
      obtain rfl : k = k' := Option.some.inj (hr.symm.trans hr')
      have hk := rowOf_ok hr
      rw [keyRes_ok hr f1 f2]
      have hc : k.kd = 1 ∨ k.kd = 2 ∨ k.kd = 3 ∨ k.kd = 4 ∨ k.kd = 5 ∨ k.kd = 6 ∨ k.kd = 7 := by omega
      obtain ⟨kn, kd, lo, hi, df, no, lg⟩ := k
      simp only at hc
      rcases hc with rfl | rfl | rfl | rfl | rfl | rfl | rfl
      · rw [resOk_and _ _ rfl]
        exact result_and nm a b kn df lo hi no lg w ha hb hE h1 h2 hr _ _ (yes_or (fitK_yes0 (.inl rfl) f1)) (yes_or (fitK_yes0 (.inl rfl) f2))
      · rw [resOk_or _ _ rfl]
        exact result_or nm a b kn df lo hi no lg w ha hb hE h1 h2 hr _ _ (yes_or (fitK_yes0 (.inr rfl) f1)) (yes_or (fitK_yes0 (.inr rfl) f2))
      · obtain ⟨n, hn, n1, n2⟩ := fitK_num0 (.inl rfl) f1
        obtain ⟨m, hm, m1, m2⟩ := fitK_num0 (.inl rfl) f2
        rw [resOk_least _ _ rfl, numD_of hn, numD_of hm]
        exact result_least nm a b kn df lo hi no lg w ha hb hE h1 h2 hr n m (numE_of hn n1 n2) (numE_of hm m1 m2) (numR_lt hn) (numR_lt hm)
      · obtain ⟨n, hn, n1, n2⟩ := fitK_num0 (.inr (.inl rfl)) f1
        obtain ⟨m, hm, m1, m2⟩ := fitK_num0 (.inr (.inl rfl)) f2
        rw [resOk_most _ _ rfl, numD_of hn, numD_of hm]
        exact result_most nm a b kn df lo hi no lg w ha hb hE h1 h2 hr n m (numE_of hn n1 n2) (numE_of hm m1 m2) (numR_lt hn) (numR_lt hm)
      · rw [resOk_first _ _ rfl]
        have := result_first nm a b kn df lo hi no lg w ha hb hE h1 h2 hr
        unfold firstN at this
        cases hf : firstR a b with
        | none => rw [hf] at this; exact this
        | some x => rw [hf] at this; exact this
      · rw [resOk_told _ _ (.inl rfl)]
        exact result_told nm a b kn df lo hi no lg w ha hb hE h1 h2 hr
      · rw [resOk_told _ _ (.inr rfl)]
        exact result_number nm a b kn df lo hi no lg w ha hb hE h1 h2 hr
    · exact result_bad nm a b w ha hb hE (.inr h2)
  · exact result_bad nm a b w ha hb hE (.inl h1)
end Go.Proofs.YteapbjeapnmloaaGreatDoor
namespace Go.Proofs.YteapbjeapnmloaaGreatDoor
open Go.RowKit
theorem res_at {nm a b x : List UInt8} {n : Nat} {ev : Value} (w : World) (h : keyRes nm a b = (x, n)) (he : errV (n : Int) = ev) (ha : a.length ≤ 1000) (hb : b.length ≤ 1000) (hE : Env w) :
    Calls Tryz.prog 40 #[.string (S nm), .string (S a), .string (S b)] w fun e w' => e = .returned (.tuple #[.string (S x), ev]) ∧ Below w.heap.size w w' := by
  have C := result_any nm a b w ha hb hE
  unfold RetSN at C
  rw [h] at C
  simp only at C
  rw [he] at C
  exact C
theorem fits_at {nm v : List UInt8} {n : Nat} {ev : Value} (w : World) (h : keyFits nm v = n) (he : errV (n : Int) = ev) (hv : v.length ≤ 1000) (hE : Env w) :
    Calls Tryz.prog 28 #[.string (S nm), .string (S v)] w fun e w' => e = .returned ev ∧ Below w.heap.size w w' := by
  have C := fits_any nm v w hv hE
  unfold RetErrN at C
  rw [h, he] at C
  exact C
theorem dec1024 : Lib.decDigits 1024 = [49, 48, 50, 52] := by
  rw [dec_step (by decide), dec_step (by decide), dec_step (by decide), Lib.decDigits_one (by decide)]
  rfl
theorem kr1 : keyRes [73, 110, 105, 116, 105, 97, 108, 82, 50, 84] [78, 111] [89, 101, 115] = ([89, 101, 115], 0) := by kernel_rfl
theorem kr2 : keyRes [77, 97, 120, 66, 117, 114, 115, 116, 76, 101, 110, 103, 116, 104] [48, 120, 52, 48, 48] [50, 48, 52, 56] = (Lib.decDigits 1024, 0) := by kernel_rfl
theorem kr3 : keyRes [72, 101, 97, 100, 101, 114, 68, 105, 103, 101, 115, 116] [67, 82, 67, 51, 50, 67, 44, 78, 111, 110, 101] [78, 111, 110, 101, 44, 67, 82, 67, 51, 50, 67] = ([67, 82, 67, 51, 50, 67], 0) := by kernel_rfl
theorem kr4 : keyRes [72, 101, 97, 100, 101, 114, 68, 105, 103, 101, 115, 116] [88] [78, 111, 110, 101] = ([], 8) := by kernel_rfl
set_option maxRecDepth 100000 in
theorem keyed_any (w : World) (hE : Env w) (hg : ErrCell w) : Calls Tryz.prog 26 #[] w fun e w' => e = .returned (.bool true) ∧ Below w.heap.size w w' := by
  have k2 := kr2
  rw [dec1024] at k2
  have C1 := Lib.hid (res_at (ev := .nilIface) w kr1 rfl (by decide) (by decide) hE)
  have C2 := Lib.hid (fun W (h : Below w.heap.size w W) => res_at (ev := .nilIface) W k2 rfl (by decide) (by decide) (hE.later h))
  have C3 := Lib.hid (fun W (h : Below w.heap.size w W) => res_at (ev := .nilIface) W kr3 rfl (by decide) (by decide) (hE.later h))
  have C4 := Lib.hid (fun W (h : Below w.heap.size w W) => res_at (ev := .iface 38 (.int .i64 8)) W kr4 rfl (by decide) (by decide) (hE.later h))
  have T := Lib.hid (fun W (h : Below w.heap.size w W) => tell_err 8 W (hg.later h))
  clear hE hg k2
  go_enter Tryz.func26, Tryz.ntmps26
  go_wp2_with fail
  refine C1.out.mono ?_
  rintro e w1 ⟨rfl, hb1⟩
  have Hb1 := Lib.hid hb1
  clear hb1
  go_wp2_with fail
  refine (C2.out w1 Hb1.out).mono ?_
  rintro e w2 ⟨rfl, hb2⟩
  have Hb2 := Lib.hid (below_then Hb1.out hb2)
  clear hb2
  go_wp2_with fail
  refine (C3.out w2 Hb2.out).mono ?_
  rintro e w3 ⟨rfl, hb3⟩
  have Hb3 := Lib.hid (below_then Hb2.out hb3)
  clear hb3
  go_wp2_with fail
  refine (C4.out w3 Hb3.out).mono ?_
  rintro e w4 ⟨rfl, hb4⟩
  have Hb4 := Lib.hid (below_then Hb3.out hb4)
  clear hb4
  go_wp2_with fail
  refine (T.out w4 Hb4.out).mono ?_
  rintro e w5 ⟨rfl, hb5⟩
  have Hb5 := Lib.hid (below_then Hb4.out hb5)
  clear hb5
  go_wp2_with fail
  go_ret
  exact ⟨rfl, Hb5.out⟩
end Go.Proofs.YteapbjeapnmloaaGreatDoor
