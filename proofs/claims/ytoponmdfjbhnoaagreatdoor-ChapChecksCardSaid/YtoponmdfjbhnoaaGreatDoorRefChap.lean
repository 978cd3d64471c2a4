/- ref.Response, ref.Check. -/
import Derived.Test.YtoponmdfjbhnoaaGreatDoorChapPlain
import Derived.Test.YtoponmdfjbhnoaaGreatDoorGB
import Derived.Test.YtoponmdfjbhnoaaGreatDoorRefBin3
import Derived.Test.YtoponmdfjbhnoaaGreatDoorRefIs
import Derived.Test.YtoponmdfjbhnoaaGreatDoorRefWithin
import Derived.Test.YtoponmdfjbhnoaaGreatDoorMd5Ref
namespace Go.Proofs.YtoponmdfjbhnoaaGreatDoor
open Go.RowKit
set_option linter.unusedVariables false
set_option maxRecDepth 100000 in
theorem refResp_any (id : Int) (s c : List UInt8) (w : World) :
    Calls Tryz.prog 4 #[.int .i64 id, .string (S s), .string (S c)] w fun e w' => e = .returned (.tuple #[.string (S (respL id s c).1), .int .i64 (respL id s c).2]) ∧ Below w.heap.size w w' := by
  by_cases hi : id < 0 ∨ 255 < id
  · rw [respL_range id s c hi]
    have W := Lib.hid (fun W => within_false id 0 255 W hi)
    show Calls _ _ _ _ fun e w' => e = .returned (.tuple #[.string (S []), .int .i64 2]) ∧ _
    clear hi
    go_enter Tryz.func4, Tryz.ntmps4
    go_wp2_with fail
    refine (W.out _).mono ?_
    rintro e w' ⟨rfl, rfl⟩
    go_wp2_with fail
    go_ret2
    exact ⟨rfl, Below.refl _ _⟩
  · have W1 := Lib.hid (fun W => within_true id 0 255 W (by omega) (by omega))
    by_cases h2 : 100 < s.length ∨ c.length = 0 ∨ 100 < c.length
    · rw [respL_limit id s c hi h2]
      show Calls _ _ _ _ fun e w' => e = .returned (.tuple #[.string (S []), .int .i64 4]) ∧ _
      clear hi
      by_cases a1 : 100 < s.length
      · have a1i : (100 : Int) < (s.length : Int) := by omega
        clear h2
        go_enter Tryz.func4, Tryz.ntmps4
        go_wp2_with fail
        refine (W1.out _).mono ?_
        rintro e w' ⟨rfl, rfl⟩
        go_wp2_with fail
        go_ret2
        exact ⟨rfl, Below.refl _ _⟩
      · have a1i : ¬ (100 : Int) < (s.length : Int) := by omega
        have W2 := Lib.hid (fun W => within_false (c.length : Int) 1 100 W (by omega))
        clear h2 a1
        go_enter Tryz.func4, Tryz.ntmps4
        go_wp2_with fail
        refine (W1.out _).mono ?_
        rintro e w' ⟨rfl, rfl⟩
        go_wp2_with fail
        refine (W2.out _).mono ?_
        rintro e w' ⟨rfl, rfl⟩
        go_wp2_with fail
        go_ret2
        exact ⟨rfl, Below.refl _ _⟩
    · rw [respL_good id s c hi h2]
      obtain ⟨k, rfl⟩ := Int.eq_ofNat_of_zero_le (show 0 ≤ id by omega)
      have hk : k ≤ 255 := by omega
      rw [Int.toNat_natCast]
      obtain ⟨y, hy⟩ : ∃ y : UInt8, UInt8.ofNat k = y := ⟨_, rfl⟩
      have hyk : (y.toNat : Int) = (k : Int) := by rw [← hy, UInt8.toNat_ofNat', Nat.mod_eq_of_lt (by omega)]
      rw [hy]
      have hcv := run_string_cells8 (P := Tryz.prog) 44 9 5 Tryz.underlying44 Tryz.underlying5 Tryz.underlying9 w [y] 1 1 5 (by simp)
      rw [show cells8 [y] = #[.int .u8 (k : Int)] by unfold cells8; rw [List.map_cons, hyk]; rfl] at hcv
      have hA := (Below.refl w.heap.size w).alloc (Nat.le_refl _) (.cells #[.int .u8 (k : Int)] 5)
      have M := Lib.hid (fun W => refMd5_any (([y] ++ s) ++ c) W (by simp; omega))
      rw [show ([y] ++ s) ++ c = y :: (s ++ c) by simp] at M
      obtain ⟨x, hx⟩ : ∃ x, md5L (y :: (s ++ c)) = x := ⟨_, rfl⟩
      rw [hx] at M ⊢
      have HA := Lib.hid hA
      have W2 := Lib.hid (fun W => within_true (c.length : Int) 1 100 W (by omega) (by omega))
      show Calls _ _ _ _ fun e w' => e = .returned (.tuple #[.string (S x), .int .i64 0]) ∧ _
      have a1i : ¬ (100 : Int) < (s.length : Int) := by omega
      have a3i : ¬ (100 : Int) < (c.length : Int) := by omega
      clear hx hA hy hyk hi h2
      go_enter Tryz.func4, Tryz.ntmps4
      go_wp2_with fail
      refine (W1.out _).mono ?_
      rintro e w' ⟨rfl, rfl⟩
      go_wp2_with fail
      refine (W2.out _).mono ?_
      rintro e w' ⟨rfl, rfl⟩
      go_wp2_with fail
      refine (M.out _).mono ?_
      rintro e w1 ⟨rfl, hb1⟩
      have Hb1 := Lib.hid (below_then HA.out hb1)
      clear hb1
      go_wp2_with fail
      go_ret2
      exact ⟨rfl, Hb1.out⟩
set_option maxRecDepth 100000 in
set_option maxHeartbeats 4000000 in
theorem refCheck_any (l : List Us) (v : Value) (name value c : List UInt8) (id : Int) (w : World) (hv : UsV w v l) (hl : l.length ≤ 140737488355328) (hvl : value.length ≤ 1000) (hT : LowT w) (hB : BruijnT w) :
    Calls Tryz.prog 11 #[v, .string (S name), .string (S value), .agg #[.int .i64 id, .string (S c)]] w fun e w' => e = .returned (.int .i64 (chkL l name value id c)) ∧ Below w.heap.size w w' := by
  obtain ⟨p, cc, rfl, _, hc⟩ := hv
  have Hc := Lib.hid hc
  have hA := (Below.refl w.heap.size w).alloc (Nat.le_refl _) (.cells #[.int .i64 id, .string (S c)] 24)
  have HK := Lib.hid (Blk.new w #[.int .i64 id, .string (S c)] 24)
  have HA := Lib.hid hA
  obtain ⟨t, n, pl, hrv⟩ : ∃ t n pl, readV value = (t, n, pl) := ⟨_, _, _, rfl⟩
  have B := fun W (hb : Below w.heap.size w W) => refBin_any value W hvl (hT.later hb) (hB.later hb)
  rw [hrv] at B
  have B := Lib.hid B
  obtain ⟨R, hR⟩ : ∃ R, chkL l name value id c = R := ⟨_, rfl⟩
  have HRn := Lib.hid (fun (h : usFind l name = none) => (chkL_none l name value id c h).symm.trans hR)
  have HRs := Lib.hid (fun (u : Us) (h : usFind l name = some u) => (chkL_of l name value t id c u n pl h hrv).symm.trans hR)
  rw [hR]
  clear hc hA hrv hR hT hB
  go_enter Tryz.func11, Tryz.ntmps11
  go_wp2_with fail
  go_loopw [17] (fun i wr => ∃ j : Nat, j ≤ l.length ∧ i = .int .i64 j ∧ Hid (usFind (l.drop j) name = usFind l name) ∧ Blk wr w.heap.size #[.int .i64 id, .string (S c)] 24 ∧ Below w.heap.size w wr) (fun i _ => l.length - (intOf i).toNat)
  case atStart => exact ⟨0, by omega, rfl, Lib.hid rfl, HK.out, HA.out⟩
  case round =>
    obtain ⟨j, hj, rfl, Hr, hk, hb⟩ := hrel
    by_cases hlt : j < l.length
    · obtain ⟨b, o, rfl, hcl⟩ := Hc.out (by omega)
      obtain ⟨q0, q1⟩ := hcl j hlt
      rw [← (bcell hb).1 b (o + j * 2) (block_lt_of_cell (w := w) (a := ⟨b, o + j * 2, none⟩) q0)] at q0
      rw [← (bcell hb).1 b (o + j * 2 + 1) (block_lt_of_cell (w := w) (a := ⟨b, o + j * 2 + 1, none⟩) q1)] at q1
      have hr := Hr.out
      rw [List.drop_eq_getElem_cons hlt] at hr
      obtain ⟨a, ha⟩ : ∃ a, l[j] = a := ⟨_, rfl⟩
      rw [ha] at q0 q1 hr
      obtain ⟨k, d⟩ := a
      simp only at q0 q1
      have e0 : usFind (⟨k, d⟩ :: l.drop (j + 1)) name = if k = name then some ⟨k, d⟩ else usFind (l.drop (j + 1)) name := rfl
      rw [e0] at hr
      have Hk1 := Lib.hid (hk.alloc (.cells #[.string (S k), .string (S d)] 26))
      have HU := Lib.hid (Blk.new wr #[.string (S k), .string (S d)] 26)
      have Hb1 := Lib.hid (hb.alloc hb.size (.cells #[.string (S k), .string (S d)] 26))
      clear hb hk hcl ha e0 Hr
      by_cases he : k = name
      · rw [if_pos he] at hr
        have hS : (k == name) = true := by rw [he]; simp
        have HRR := Lib.hid (HRs.out _ hr.symm)
        clear hr
        subst he
        go_wp2_with fail
        refine (B.out _ Hb1.out).mono ?_
        rintro e w2 ⟨rfl, hb2⟩
        have Hk2 := Lib.hid (Hk1.out.later hb2)
        have HU2 := Lib.hid (HU.out.later hb2)
        have Hb2 := Lib.hid (below_then Hb1.out hb2)
        clear hb2 q0 q1
        have hal := (Below.refl w2.heap.size w2).alloc (Nat.le_refl _) (.cells #[.int .i64 n, .int .i64 pl] 50)
        have HF := Lib.hid (Blk.new w2 #[.int .i64 n, .int .i64 pl] 50)
        have Hk3 := Lib.hid (Hk2.out.later hal)
        have HU3 := Lib.hid (HU2.out.later hal)
        have Hb3 := Lib.hid (below_then Hb2.out hal)
        clear hal Hk2 HU2 Hb2
        by_cases hn : n = 0
        · subst hn
          have I := Lib.hid (fun W => isF_good pl W)
          go_wp2_with fail
          refine (I.out _).mono ?_
          rintro e w4 ⟨rfl, hb4⟩
          have Hb4 := Lib.hid (below_then Hb3.out hb4)
          obtain ⟨d0, d1⟩ := (Hk3.out.later hb4).two
          obtain ⟨u0, u1⟩ := (HU3.out.later hb4).two
          have RS := refResp_any id d c w4
          clear hb4 I HF Hk3 HU3 Hb3
          rcases respL_ways id d c with ⟨e, -⟩ | ⟨e, -⟩ | ⟨x, e, -⟩
          · rw [e] at RS HRR
            rw [chkR_resp t [] 2 (by decide)] at HRR
            have RS := Lib.hid RS
            clear e
            go_wp2_with fail
            refine RS.out.mono ?_
            rintro e w5 ⟨rfl, hb5⟩
            have Hb5 := Lib.hid (below_then Hb4.out hb5)
            clear hb5
            go_wp2_with fail
            go_ret
            exact ⟨by rw [← HRR.out]; rfl, Hb5.out⟩
          · rw [e] at RS HRR
            rw [chkR_resp t [] 4 (by decide)] at HRR
            have RS := Lib.hid RS
            clear e
            go_wp2_with fail
            refine RS.out.mono ?_
            rintro e w5 ⟨rfl, hb5⟩
            have Hb5 := Lib.hid (below_then Hb4.out hb5)
            clear hb5
            go_wp2_with fail
            go_ret
            exact ⟨by rw [← HRR.out]; rfl, Hb5.out⟩
          · rw [e] at RS HRR
            have RS := Lib.hid RS
            clear e
            by_cases hx : t = x
            · subst hx
              rw [chkR_same t] at HRR
              have hne : (t == t) = true := by simp
              go_wp2_with fail
              refine RS.out.mono ?_
              rintro e w5 ⟨rfl, hb5⟩
              have Hb5 := Lib.hid (below_then Hb4.out hb5)
              clear hb5
              go_wp2_with fail
              go_ret
              exact ⟨by rw [← HRR.out]; rfl, Hb5.out⟩
            · rw [chkR_other t x hx] at HRR
              have hne : (t == x) = false := beq_eq_false_iff_ne.2 hx
              clear hx
              go_wp2_with fail
              refine RS.out.mono ?_
              rintro e w5 ⟨rfl, hb5⟩
              have Hb5 := Lib.hid (below_then Hb4.out hb5)
              clear hb5
              go_wp2_with fail
              go_ret
              exact ⟨by rw [← HRR.out]; rfl, Hb5.out⟩
        · have I := Lib.hid (fun W => isF_bad n pl W hn)
          rw [chkR_bad t n _ hn] at HRR
          go_wp2_with fail
          refine (I.out _).mono ?_
          rintro e w4 ⟨rfl, hb4⟩
          have Hb4 := Lib.hid (below_then Hb3.out hb4)
          obtain ⟨f0, f1⟩ := (HF.out.later hb4).two
          clear hb4
          go_wp2_with fail
          go_ret
          exact ⟨by rw [← HRR.out]; rfl, Hb4.out⟩
      · rw [if_neg he] at hr
        have hS : (k == name) = false := by rw [beq_eq_false_iff_ne]; exact he
        have Hr2 := Lib.hid hr
        clear hr he
        go_wp2_with fail
        go_roundw
        case rel => exact ⟨j + 1, by omega, by go_num, Hr2, Hk1.out, Hb1.out⟩
        case measure => simp [intOf]; omega
    · obtain rfl : j = l.length := by omega
      have HRR := Lib.hid (HRn.out (by rw [← Hr.out, List.drop_length]; rfl))
      have Hb := Lib.hid hb
      clear hb hk
      go_wp2_with fail
      go_ret
      exact ⟨by rw [← HRR.out]; rfl, Hb.out⟩
end Go.Proofs.YtoponmdfjbhnoaaGreatDoor
