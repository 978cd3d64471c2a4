/- GatherSplits: any text in pieces is the document's. -/
import Derived.Test.YtildnpnpakhnjaaDoorSplitGo
import Derived.Test.YtildnpnpakhnjaaDoorEqS
import Derived.Test.YtildnpnpakhnjaaDoorBare
import Derived.Test.YtildnpnpakhnjaaDoorRefWithin
namespace Go.Proofs.YtildnpnpakhnjaaDoor
open Go.RowKit
set_option linter.unusedVariables false
theorem chunks_few {n : Nat} {r : List UInt8} (h : r.length ≤ n) : chunks n r = [r] := chunkF_few _ _ h
theorem chunks_more {n : Nat} {r : List UInt8} (hn : 1 ≤ n) (h : n < r.length) : chunks n r = r.take n :: chunks n (r.drop n) := by
  unfold chunks
  obtain ⟨f, hf⟩ : ∃ f, r.length = f + 1 := ⟨r.length - 1, by omega⟩
  rw [hf, chunkF_succ, if_neg (by omega), chunkF_fuel n hn f (r.drop n).length (r.drop n) (by simp; omega) (Nat.le_refl _)]
/-- pieces and a number are returned -/
def RetSN (w : World) (l : List (List UInt8)) (n : Int) (e : Ending) (w' : World) : Prop := ∃ v, e = .returned (.tuple #[v, .int .i64 n]) ∧ StrV w' v l ∧ Below w.heap.size w w'
set_option maxRecDepth 100000 in
set_option maxHeartbeats 1000000 in
theorem refSplit_any (s : List UInt8) (n : Nat) (w : World) (hl : s.length ≤ 100000) (h1 : 1 ≤ n) (h2 : n ≤ 20000) :
    Calls Tryd.prog 34 #[.string (S s), .int .i64 (n : Int)] w (RetSN w (chunks n s) 0) := by
  obtain ⟨i0, hi, hz0, hz1, hz2⟩ := infoSt
  have T := fun w => Lib.hid (within_true (n : Int) 1 20000 w (by omega) (by omega))
  have i1 : (1 : Int) ≤ (n : Int) := by omega
  have i2 : (n : Int) ≤ 20000 := by omega
  have i3 : (s.length : Int) ≤ 100000 := by omega
  go_enter Tryd.func34, Tryd.ntmps34
  go_wp2_with fail
  refine (T _).out.mono ?_
  rintro e w1 ⟨rfl, rfl⟩
  go_wp2_with fail
  go_loopw [6, 7] (fun x i wr => ∃ (k : Nat) (acc : List (List UInt8)), i = .int .i64 k ∧ k ≤ s.length + n ∧ acc.length ≤ k ∧ (((k = 0 ∨ k < s.length) ∧ acc ++ chunks n (s.drop k) = chunks n s) ∨ (0 < k ∧ s.length ≤ k ∧ acc = chunks n s)) ∧ StBuf w.heap.size wr x acc ∧ Below w.heap.size w wr) (fun _ i _ => s.length + n - (intOf i).toNat)
  case atStart => exact ⟨0, [], rfl, by omega, by simp, .inl ⟨.inl rfl, rfl⟩, StBuf.nil _ _, Below.refl _ _⟩
  case round =>
    obtain ⟨k, acc, rfl, hk, hal, hr, hbuf, hb⟩ := hrel
    have Hb := Lib.hid hb
    have Hbuf := Lib.hid hbuf
    have Hge := Lib.hid hbuf.ge
    have hsz := hb.size
    have Hal := Lib.hid hal
    obtain ⟨pv, cv, rfl⟩ := hbuf.form
    rcases hr with ⟨hk0, hr⟩ | ⟨hk0, hks, hr⟩
    · have Hk0 := Lib.hid hk0
      have i4 : (k : Int) ≤ (s.length : Int) := by omega
      have i5 : k ≤ s.length := by omega
      have hdl : (s.drop k).length = s.length - k := by simp
      -- which way the condition goes
      have hcond : ((k : Int) == 0) = true ∨ (((k : Int) == 0) = false ∧ (k : Int) < (s.length : Int)) := by
        by_cases h0 : k = 0
        · exact .inl (by simp [h0])
        · exact .inr ⟨by simpa using h0, by omega⟩
      by_cases hlast : s.length ≤ k + n
      · have hmin : min (s.length : Int) ((k : Int) + (n : Int)) = (s.length : Int) := by omega
        have htk : List.take (s.length - k) (List.drop k s) = List.drop k s := List.take_of_length_le (by simp)
        rw [chunks_few (by rw [hdl]; omega)] at hr
        have Hr := Lib.hid hr
        obtain ⟨x, hx⟩ : ∃ x, List.drop k s = x := ⟨_, rfl⟩
        rw [hx] at htk Hr
        obtain ⟨HA1, HA2, HA3, HA4, HA5⟩ := appS_sides x wr wr.heap.size acc.length w.heap.size rfl (by omega) (by omega)
        have HBa := Lib.hid (hbuf.alloc (.cells #[.string (S x)] 9))
        clear hb hbuf hr hk0 hal hdl
        rcases hcond with hc | ⟨hc, hc2⟩
        all_goals
          go_wp2_with (at_builtin; refine wpList_append_own _ rfl _ _ 53 rfl w.heap.size 9 i0 (.string (S [])) 1 16 Tryd.underlying53 hi hz0 hz1 hz2 rfl (by decide) (.slice pv acc.length cv) acc.length (strVs acc) rfl HBa.out ⟨wr.heap.size, 0, none⟩ 1 1 [.string (S x)] rfl rfl HA1.out HA2.out HA3.out HA4.out HA5.out ?_)
          intro v' wa hown hgrow hnil
          have hown' : StBuf w.heap.size wa v' (acc ++ [x]) := by
            unfold StBuf
            rw [strVs_app, List.length_append]
            exact hown
          have Hlow3 := Lib.hid ((Hb.out.alloc Hb.out.size (.cells #[.string (S x)] 9)).grown hgrow (by simp; omega) Hge.out)
          have Hown := Lib.hid hown'
          clear hown hown' hgrow hnil
          go_wp2_with fail
          go_roundw
          case rel => exact ⟨k + n, acc ++ [x], by go_num, by omega, by have := Hal.out; simp; omega, .inr ⟨by omega, hlast, Hr.out⟩, Hown.out, Hlow3.out⟩
          case measure => have := Hk0.out; simp [intOf]; omega
      · have hmin : min (s.length : Int) ((k : Int) + (n : Int)) = (k : Int) + (n : Int) := by omega
        have i6 : (k : Int) + (n : Int) ≤ (s.length : Int) := by omega
        have i7 : ((k : Int) + (n : Int)).toNat = k + n := by omega
        have i8 : (0 : Int) ≤ (k : Int) + (n : Int) := by omega
        have i9 : (k : Int) ≤ (k : Int) + (n : Int) := by omega
        have i10 : k + n - k = n := by omega
        rw [chunks_more h1 (by rw [hdl]; omega), List.append_cons, List.drop_drop] at hr
        have Hr := Lib.hid hr
        obtain ⟨x, hx⟩ : ∃ x, List.take n (List.drop k s) = x := ⟨_, rfl⟩
        rw [hx] at Hr
        obtain ⟨HA1, HA2, HA3, HA4, HA5⟩ := appS_sides x wr wr.heap.size acc.length w.heap.size rfl (by omega) (by omega)
        have HBa := Lib.hid (hbuf.alloc (.cells #[.string (S x)] 9))
        clear hb hbuf hr hk0 hal hdl
        rcases hcond with hc | ⟨hc, hc2⟩
        all_goals
          go_wp2_with (at_builtin; refine wpList_append_own _ rfl _ _ 53 rfl w.heap.size 9 i0 (.string (S [])) 1 16 Tryd.underlying53 hi hz0 hz1 hz2 rfl (by decide) (.slice pv acc.length cv) acc.length (strVs acc) rfl HBa.out ⟨wr.heap.size, 0, none⟩ 1 1 [.string (S x)] rfl rfl HA1.out HA2.out HA3.out HA4.out HA5.out ?_)
          intro v' wa hown hgrow hnil
          have hown' : StBuf w.heap.size wa v' (acc ++ [x]) := by
            unfold StBuf
            rw [strVs_app, List.length_append]
            exact hown
          have Hlow3 := Lib.hid ((Hb.out.alloc Hb.out.size (.cells #[.string (S x)] 9)).grown hgrow (by simp; omega) Hge.out)
          have Hown := Lib.hid hown'
          clear hown hown' hgrow hnil
          go_wp2_with fail
          go_roundw
          case rel => exact ⟨k + n, acc ++ [x], by go_num, by omega, by have := Hal.out; simp; omega, .inl ⟨.inr (by omega), Hr.out⟩, Hown.out, Hlow3.out⟩
          case measure => have := Hk0.out; simp [intOf]; omega
    · have hc : ((k : Int) == 0) = false := by simp; omega
      have hc2 : (s.length : Int) ≤ (k : Int) := by omega
      have Hr := Lib.hid hr
      clear hb hbuf hr hal
      go_wp2_with fail
      go_ret2
      rw [← Hr.out]
      exact ⟨_, rfl, Hbuf.out.strs, Hb.out⟩
theorem refSplit_bad (s : List UInt8) (n : Int) (w : World) (hn : n < 1 ∨ 20000 < n) :
    Calls Tryd.prog 34 #[.string (S s), .int .i64 n] w (RetSN w [] 2) := by
  have F := fun w => Lib.hid (within_false n 1 20000 w hn)
  clear hn
  go_enter Tryd.func34, Tryd.ntmps34
  go_wp2_with fail
  refine (F _).out.mono ?_
  rintro e w1 ⟨rfl, rfl⟩
  go_wp2_with fail
  go_ret2
  exact ⟨_, rfl, strV_nil _, Below.refl _ _⟩
set_option maxRecDepth 100000 in
set_option maxHeartbeats 2000000 in
theorem gatherSplits_any (s : List UInt8) (size : Int) (w : World) (hl : s.length ≤ 140737488351232) (_hwf : (Lit.int .i64 size).wf = true) (hg : ErrCell w) :
    Calls Tryd.prog 7 #[.string (S s), .int .i64 size] w fun e w' => e = .returned (.bool true) ∧ Below w.heap.size w w' := by
  by_cases h15 : 1500 < s.length
  · have i1 : (1500 : Int) < (s.length : Int) := by omega
    go_enter Tryd.func7, Tryd.ntmps7
    go_wp2_with fail
    go_ret
    exact ⟨rfl, Below.refl _ _⟩
  have i1 : (s.length : Int) ≤ 1500 := by omega
  have Hg := Lib.hid hg
  by_cases hs : 1 ≤ size ∧ size ≤ 20000
  · obtain ⟨n, rfl⟩ : ∃ n : Nat, size = n := ⟨size.toNat, by omega⟩
    have A1 := Lib.hid (refSplit_any s n w (by omega) (by omega) (by omega))
    have A2 := fun w => Lib.hid (gsplit_any s n w (by omega) (by omega) (by omega))
    have hlen : (chunks n s).length ≤ 140737488355328 := by
      rw [chunks_len n (by omega)]
      have hle : (s.length + n - 1) / n ≤ s.length + n - 1 := Nat.div_le_self _ _
      omega
    generalize chunks n s = cn at *
    clear hg h15 hs hl
    go_enter Tryd.func7, Tryd.ntmps7
    go_wp2_with fail
    refine A1.out.mono ?_
    rintro e w1 ⟨v1, rfl, hv1, hb1⟩
    have HV1 := Lib.hid hv1
    have Hb1 := Lib.hid hb1
    obtain ⟨p1, c1, rfl⟩ := hv1.form
    clear hv1 hb1 A1
    go_wp2_with fail
    refine (A2 _).out.mono ?_
    rintro e w2 ⟨v2, rfl, hv2, hb2⟩
    have HV1b := Lib.hid (HV1.out.later hb2)
    have HV2 := Lib.hid hv2.strs
    have Hb2 := Lib.hid (below_then Hb1.out hb2)
    obtain ⟨p2, c2, rfl⟩ := hv2.form
    clear hv2 hb2 A2 HV1 Hb1
    go_wp2_with fail
    refine (bare_nil _).mono ?_
    rintro e w3 ⟨rfl, rfl⟩
    have E := Lib.hid (equalS_same cn _ _ _ hlen HV1b.out HV2.out)
    go_wp2_with fail
    refine E.out.mono ?_
    rintro e w4 ⟨rfl, hb4⟩
    have Hb4 := Lib.hid (below_then Hb2.out hb4)
    clear hb4 E
    go_wp2_with fail
    go_ret
    exact ⟨rfl, Hb4.out⟩
  · have A1 := Lib.hid (refSplit_bad s size w (by omega))
    have A2 := fun w => Lib.hid (gsplit_bad s size w (by omega))
    clear hg h15 hs hl
    go_enter Tryd.func7, Tryd.ntmps7
    go_wp2_with fail
    refine A1.out.mono ?_
    rintro e w1 ⟨v1, rfl, hv1, hb1⟩
    have HV1 := Lib.hid hv1
    have Hb1 := Lib.hid hb1
    obtain ⟨p1, c1, rfl⟩ := hv1.form
    clear hv1 hb1 A1
    go_wp2_with fail
    refine (A2 _).out.mono ?_
    rintro e w2 ⟨rfl, rfl⟩
    have B := Lib.hid (bare_err 2 _ (Hg.out.later Hb1.out))
    go_wp2_with fail
    refine B.out.mono ?_
    rintro e w3 ⟨rfl, hb3⟩
    have Hb3 := Lib.hid (below_then Hb1.out hb3)
    have E := Lib.hid (equalS_same [] _ _ _ (by decide) (HV1.out.later hb3) (strV_nil _))
    clear hb3 B
    simp only [List.length_nil] at *
    go_wp2_with fail
    refine E.out.mono ?_
    rintro e w4 ⟨rfl, hb4⟩
    have Hb4 := Lib.hid (below_then Hb3.out hb4)
    clear hb4 E
    go_wp2_with fail
    go_ret
    exact ⟨rfl, Hb4.out⟩
end Go.Proofs.YtildnpnpakhnjaaDoor
