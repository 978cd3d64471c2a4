/- Several texts in one: keys.Fits.  | keys.Fits at a known result.  -/
import Derived.Test.YtlcadichpcdgpaaGreatDoorGE
import Derived.Test.YtlcadichpcdgpaaGreatDoorGF
import Derived.Test.YtlcadichpcdgpaaGreatDoorGA
namespace Go.Proofs.YtlcadichpcdgpaaGreatDoor
open Go.RowKit
theorem of_row {s nm df : List UInt8} {kd lo hi : Nat} {no lg : Bool} (w : World) (h : rowOf s = some ⟨nm, kd, lo, hi, df, no, lg⟩) : Calls Tryz.prog 57 #[.string (S s)] w fun e W' => e = .returned (.tuple #[.agg #[.string (S nm), .int .i64 (kd : Int), .int .i64 (lo : Int), .int .i64 (hi : Int), .string (S df), .bool no, .bool lg], .nilIface]) ∧ Below w.heap.size w W' := of_some w h
theorem of_no {s : List UInt8} (w : World) (h : rowOf s = none) : Calls Tryz.prog 57 #[.string (S s)] w fun e W' => e = .returned (.tuple #[.agg #[.string (S []), .int .i64 0, .int .i64 0, .int .i64 0, .string (S []), .bool false, .bool false], .iface 42 (.int .i64 5)]) ∧ Below w.heap.size w W' := of_none w h
theorem numE_fit (k : Ke) (v : List UInt8) (hk : k.kd = 3 ∨ k.kd = 4 ∨ k.kd = 7) : (numE v (k.lo : Int) (k.hi : Int)).2 = ((fitK k v : Nat) : Int) := by
  rw [fitK_num hk]
  cases hn : numR v with
  | none => rw [numE_none hn]; rfl
  | some n =>
    simp only
    by_cases h : n < k.lo ∨ k.hi < n
    · rw [numE_off hn (by omega), if_pos h]; rfl
    · rw [numE_in hn (by omega) (by omega), if_neg h]; rfl
/-- an error without a place, by its number -/
def RetErrN (w : World) (n : Nat) (e : Ending) (w' : World) : Prop := e = .returned (errV (n : Int)) ∧ Below w.heap.size w w'
set_option maxRecDepth 100000 in
set_option maxHeartbeats 1000000 in
theorem fits_any (nm v : List UInt8) (w : World) (hv : v.length ≤ 1000) (hE : Env w) :
    Calls Tryz.prog 47 #[.string (S nm), .string (S v)] w (RetErrN w (keyFits nm v)) := by
  cases hr : rowOf nm with
  | none =>
    have C := Lib.hid (of_no w hr)
    have R := Lib.hid (show keyFits nm v = 5 by unfold keyFits; rw [hr])
    clear hr hE
    go_enter Tryz.func47, Tryz.ntmps47
    go_wp2_with fail
    refine C.out.mono ?_
    rintro e w1 ⟨rfl, hb1⟩
    have Hb1 := Lib.hid (hb1.alloc hb1.size (.cells #[.string (S []), .int .i64 0, .int .i64 0, .int .i64 0, .string (S []), .bool false, .bool false] 113))
    clear hb1
    go_wp2_with fail
    go_ret
    rw [R.out]
    exact ⟨rfl, Hb1.out⟩
  | some k =>
    have hkk := rowOf_ok hr
    have hR := show keyFits nm v = fitK k v by unfold keyFits; rw [hr]
    rw [hR]
    clear hR
    obtain ⟨kn, kd, lo, hi, df, no, lg⟩ := k
    have C0 := of_row w hr
    obtain ⟨K, hK⟩ : ∃ K : Int, (kd : Int) = K := ⟨_, rfl⟩
    rw [hK] at C0
    have C := Lib.hid C0
    clear C0
    have LI := Lib.hid (fun W (h : Below w.heap.size w W) => list_any v W hv (hE.later h).mc)
    have NU := Lib.hid (fun W (h : Below w.heap.size w W) => numeral_any v (lo : Int) (hi : Int) W (by omega) (hE.later h))
    have NF := Lib.hid (numE_fit ⟨kn, kd, lo, hi, df, no, lg⟩ v)
    have FL := Lib.hid (@fitK_list ⟨kn, kd, lo, hi, df, no, lg⟩ v)
    have FY := Lib.hid (@fitK_yes ⟨kn, kd, lo, hi, df, no, lg⟩ v)
    have FT := Lib.hid (@fitK_told ⟨kn, kd, lo, hi, df, no, lg⟩ v)
    have h1 := hkk.2.2.1
    have h7 := hkk.2.2.2.1
    simp only at h1 h7
    clear hkk hr hE
    obtain ⟨r, hr⟩ : ∃ r, fitK ⟨kn, kd, lo, hi, df, no, lg⟩ v = r := ⟨_, rfl⟩
    rw [hr] at NF FL FY FT ⊢
    clear hr
    go_enter Tryz.func47, Tryz.ntmps47
    go_wp2_with fail
    refine C.out.mono ?_
    rintro e w1 ⟨rfl, hb1⟩
    obtain ⟨w2, hw2⟩ : ∃ w2, w1.alloc (.cells #[.string (S kn), .int .i64 K, .int .i64 (lo : Int), .int .i64 (hi : Int), .string (S df), .bool no, .bool lg] 113) = w2 := ⟨_, rfl⟩
    have hb2 : Below w.heap.size w w2 := by rw [← hw2]; exact hb1.alloc hb1.size _
    have Hb2 := Lib.hid hb2
    have bK : Blk w2 w1.heap.size #[.string (S kn), .int .i64 K, .int .i64 (lo : Int), .int .i64 (hi : Int), .string (S df), .bool no, .bool lg] 113 := by rw [← hw2]; exact Blk.new w1 _ _
    obtain ⟨_, c1, c2, c3, _, _, _⟩ := bK.seven
    clear bK
    have LI := Lib.hid (LI.out w2 hb2)
    have NU := Lib.hid (NU.out w2 hb2)
    clear hb1 hb2 C
    have hc : (kd = 1 ∧ K = 1) ∨ (kd = 2 ∧ K = 2) ∨ (kd = 3 ∧ K = 3) ∨ (kd = 4 ∧ K = 4) ∨ (kd = 5 ∧ K = 5) ∨ (kd = 6 ∧ K = 6) ∨ (kd = 7 ∧ K = 7) := by omega
    clear h1 h7 hK
    rcases hc with ⟨rfl, rfl⟩ | ⟨rfl, rfl⟩ | ⟨rfl, rfl⟩ | ⟨rfl, rfl⟩ | ⟨rfl, rfl⟩ | ⟨rfl, rfl⟩ | ⟨rfl, rfl⟩
    · have E := Lib.hid (FY.out (.inl rfl))
      by_cases hy : v = yesL
      · subst hy
        rw [if_pos (.inl rfl)] at E
        unfold yesL
        go_wp2_with fail
        go_ret
        rw [E.out]
        exact ⟨rfl, Hb2.out⟩
      · by_cases hn : v = noL
        · subst hn
          rw [if_pos (.inr rfl)] at E
          unfold noL
          go_wp2_with fail
          go_ret
          rw [E.out]
          exact ⟨rfl, Hb2.out⟩
        · rw [if_neg (by rintro (h | h); exact hy h; exact hn h)] at E
          have g1 : ¬ v = [89, 101, 115] := hy
          have g2 : ¬ v = [78, 111] := hn
          have g3 : (v == [89, 101, 115]) = false := by simpa using g1
          have g4 : (v == [78, 111]) = false := by simpa using g2
          clear hy hn
          go_wp2_with fail
          go_ret
          rw [E.out]
          exact ⟨rfl, Hb2.out⟩
    · have E := Lib.hid (FY.out (.inr rfl))
      by_cases hy : v = yesL
      · subst hy
        rw [if_pos (.inl rfl)] at E
        unfold yesL
        go_wp2_with fail
        go_ret
        rw [E.out]
        exact ⟨rfl, Hb2.out⟩
      · by_cases hn : v = noL
        · subst hn
          rw [if_pos (.inr rfl)] at E
          unfold noL
          go_wp2_with fail
          go_ret
          rw [E.out]
          exact ⟨rfl, Hb2.out⟩
        · rw [if_neg (by rintro (h | h); exact hy h; exact hn h)] at E
          have g1 : ¬ v = [89, 101, 115] := hy
          have g2 : ¬ v = [78, 111] := hn
          have g3 : (v == [89, 101, 115]) = false := by simpa using g1
          have g4 : (v == [78, 111]) = false := by simpa using g2
          clear hy hn
          go_wp2_with fail
          go_ret
          rw [E.out]
          exact ⟨rfl, Hb2.out⟩
    · have E := NF.out (.inl rfl)
      unfold RetNI at NU
      rw [E] at NU
      clear E
      go_wp2_with fail
      refine NU.out.mono ?_
      rintro e w3 ⟨rfl, hb3⟩
      have Hb3 := Lib.hid (below_then Hb2.out hb3)
      clear hb3
      go_wp2_with fail
      go_ret
      exact ⟨rfl, Hb3.out⟩
    · have E := NF.out (.inr (.inl rfl))
      unfold RetNI at NU
      rw [E] at NU
      clear E
      go_wp2_with fail
      refine NU.out.mono ?_
      rintro e w3 ⟨rfl, hb3⟩
      have Hb3 := Lib.hid (below_then Hb2.out hb3)
      clear hb3
      go_wp2_with fail
      go_ret
      exact ⟨rfl, Hb3.out⟩
    · have E := Lib.hid (FL.out rfl)
      go_wp2_with fail
      refine LI.out.mono ?_
      rintro e w3 ⟨vl, rfl, _, hb3⟩
      have Hb3 := Lib.hid (below_then Hb2.out hb3)
      clear hb3
      go_wp2_with fail
      go_ret
      refine ⟨?_, Hb3.out⟩
      rw [E.out]
      unfold listN
      cases listR v <;> rfl
    · have E := Lib.hid (FT.out rfl)
      by_cases hv0 : v = []
      · subst hv0
        rw [if_pos rfl] at E
        go_wp2_with fail
        go_ret
        rw [E.out]
        exact ⟨rfl, Hb2.out⟩
      · rw [if_neg hv0] at E
        have hve : v.isEmpty = false := by cases v with | nil => exact absurd rfl hv0 | cons _ _ => rfl
        clear hv0
        go_wp2_with fail
        go_ret
        rw [E.out]
        exact ⟨rfl, Hb2.out⟩
    · have E := NF.out (.inr (.inr rfl))
      unfold RetNI at NU
      rw [E] at NU
      clear E
      go_wp2_with fail
      refine NU.out.mono ?_
      rintro e w3 ⟨rfl, hb3⟩
      have Hb3 := Lib.hid (below_then Hb2.out hb3)
      clear hb3
      go_wp2_with fail
      go_ret
      exact ⟨rfl, Hb3.out⟩
end Go.Proofs.YtlcadichpcdgpaaGreatDoor
namespace Go.Proofs.YtlcadichpcdgpaaGreatDoor
open Go.RowKit
theorem fits_at {nm v : List UInt8} {n : Nat} {ev : Value} (w : World) (h : keyFits nm v = n) (he : errV (n : Int) = ev) (hv : v.length ≤ 1000) (hE : Env w) :
    Calls Tryz.prog 47 #[.string (S nm), .string (S v)] w fun e w' => e = .returned ev ∧ Below w.heap.size w w' := by
  have C := fits_any nm v w hv hE
  unfold RetErrN at C
  rw [h, he] at C
  exact C
end Go.Proofs.YtlcadichpcdgpaaGreatDoor
