/- Several texts in one: How much a target is told, as it is counted. No function of the program is walked here.  | quaymasterkeep.crowded: what a target is told is more than can be held.  -/
import Derived.Test.YtlcadichpcdgpaaGreatDoorGO
import Derived.Test.YtlcadichpcdgpaaGreatDoorGJ
namespace Go.Proofs.YtlcadichpcdgpaaGreatDoor
open Go.RowKit
set_option linter.unusedVariables false
theorem wrap64_add (a b : Int) : wrap64 (wrap64 a + b) = wrap64 (a + b) := by unfold wrap64; omega
/-- yes or no is returned; no: what is told is no more (as it is counted) -/
def RetCrowd (w : World) (c : Cf) (e : Ending) (w' : World) : Prop := ∃ b : Bool, e = .returned (.bool b) ∧ (b = false → wrap64 (crowdN c : Nat) ≤ 2500) ∧ Below w.heap.size w w'
theorem sum_take {α : Type} (f : α → Nat) (l : List α) (j : Nat) (h : j < l.length) : ((l.take (j + 1)).map f).sum = ((l.take j).map f).sum + f l[j] := by
  rw [List.take_add_one, List.getElem?_eq_getElem h, List.map_append, List.sum_append]; simp only [Option.toList_some, List.map_cons, List.map_nil, List.sum_cons, List.sum_nil, Nat.add_zero]
end Go.Proofs.YtlcadichpcdgpaaGreatDoor
namespace Go.Proofs.YtlcadichpcdgpaaGreatDoor
open Go.RowKit
set_option linter.unusedVariables false
set_option maxRecDepth 100000 in
set_option maxHeartbeats 4000000 in
theorem crowdedK_any (c : Cf) (vt vp vu vo : Value) (w : World) (hv : ConfAt w c vt vp vu vo) (hf : FitCf c) :
    Calls Tryz.prog 9 #[confV c vt vp vu vo] w (RetCrowd w c) := by
  obtain ⟨ts, ps, us, sn, ss, lim, own⟩ := c
  obtain ⟨pt, ct, rfl, _⟩ := hv.ts
  obtain ⟨pp, cp, rfl, _⟩ := hv.ps
  obtain ⟨pu, cu, rfl, _⟩ := hv.us
  obtain ⟨po, co, rfl⟩ := hv.own.form
  have hA := (Below.refl w.heap.size w).alloc (Nat.le_refl _) (.cells #[.slice pt ts.length ct, .slice pp ps.length cp, .slice pu us.length cu, .string (S sn), .string (S ss), .int .i64 lim, .slice po own.length co] 29)
  have HK := Lib.hid (Blk.new w #[.slice pt ts.length ct, .slice pp ps.length cp, .slice pu us.length cu, .string (S sn), .string (S ss), .int .i64 lim, .slice po own.length co] 29)
  have HV := Lib.hid (hv.later hA)
  have HA := Lib.hid hA
  have Hf := Lib.hid hf
  have hts := hf.ts.1
  have hps := hf.ps.1
  have hus := hf.us.1.1
  have hsn := hf.sn
  have hss := hf.ss
  simp only at hts hps hus hsn hss
  clear hv hA hf
  unfold confV
  simp only
  go_enter Tryz.func9, Tryz.ntmps9
  go_wp2_with fail
  generalize hW0 : w.alloc _ = w0 at HV HA HK ⊢
  clear hW0
  go_loopw [3, 13] (fun v3 i wr => ∃ j : Nat, j ≤ ts.length ∧ i = .int .i64 j ∧ v3 = .int .i64 (wrap64 (sumS (ts.take j) : Nat)) ∧ Below w0.heap.size w0 wr) (fun _ i _ => ts.length - (intOf i).toNat)
  case atStart => exact ⟨0, by omega, rfl, congrArg (Value.int .i64) (show (0 : Int) = wrap64 ((0 : Nat) : Int) by unfold wrap64; omega), Below.refl _ _⟩
  case round =>
    obtain ⟨j, hj, rfl, rfl, hb⟩ := hrel
    have Hb := Lib.hid hb
    by_cases hlt : j < ts.length
    · obtain ⟨b, o, rfl, q0⟩ := (HV.out.later hb).ts.cell hlt
      have hnext : sumS (ts.take (j + 1)) = sumS (ts.take j) + (1 + ts[j].length) := sum_take _ ts j hlt
      have hfl := Hf.out.ts.2 ts[j] (List.getElem_mem hlt)
      obtain ⟨a, ha⟩ : ∃ a, ts[j] = a := ⟨_, rfl⟩
      rw [ha] at q0 hnext hfl
      have hji : (j : Int) < (ts.length : Int) := by omega
      have hadd : wrap64 (wrap64 (sumS (ts.take j) : Nat) + (1 + (a.length : Int))) = wrap64 (sumS (ts.take (j + 1)) : Nat) := by
        rw [wrap64_add, hnext]; congr 1 <;> omega
      have Hadd := Lib.hid hadd
      generalize wrap64 (sumS (ts.take j) : Nat) = n0 at hadd Hadd ⊢
      clear hb hnext ha
      go_wp2_with fail
      go_roundw
      case rel => exact ⟨j + 1, by omega, by go_num, by first | rfl | (rw [← Hadd.out]) | go_num, Hb.out⟩
      case measure => simp [intOf]; omega
    · obtain rfl : j = ts.length := by omega
      rw [List.take_length]
      obtain ⟨k0, k1, k2, k3, k4, k5, k6⟩ := (HK.out.later hb).seven
      obtain ⟨n1, hn1⟩ : ∃ n1, sumS ts = n1 := ⟨_, rfl⟩
      have Hn1 := Lib.hid hn1
      rw [hn1]
      clear hn1
      clear hb
      go_wp2_with fail
      clear k0 k1 k2 k3 k4 k5 k6
      go_loopw [3, 26] (fun v3 i wr => ∃ j : Nat, j ≤ ps.length ∧ i = .int .i64 j ∧ v3 = .int .i64 (wrap64 (n1 + sumPo (ps.take j) : Nat)) ∧ Below w0.heap.size w0 wr) (fun _ i _ => ps.length - (intOf i).toNat)
      case atStart => exact ⟨0, by omega, rfl, rfl, Hb.out⟩
      case round =>
        clear Hb
        obtain ⟨j, hj, rfl, rfl, hb⟩ := hrel
        have Hb := Lib.hid hb
        by_cases hlt : j < ps.length
        · obtain ⟨b, o, rfl, q0, q1⟩ := (HV.out.later hb).ps.cell hlt
          have hnext : sumPo (ps.take (j + 1)) = sumPo (ps.take j) + (1 + ps[j].ad.length) := sum_take _ ps j hlt
          have hfl := (Hf.out.ps.2 ps[j] (List.getElem_mem hlt)).1
          obtain ⟨⟨a, g⟩, ha⟩ : ∃ a, ps[j] = a := ⟨_, rfl⟩
          rw [ha] at q0 q1 hnext hfl
          simp only at q0 q1 hnext hfl
          have hji : (j : Int) < (ps.length : Int) := by omega
          have hadd : wrap64 (wrap64 (n1 + sumPo (ps.take j) : Nat) + (1 + (a.length : Int))) = wrap64 (n1 + sumPo (ps.take (j + 1)) : Nat) := by
            rw [wrap64_add, hnext]; congr 1 <;> omega
          have Hadd := Lib.hid hadd
          have Hb2 := Lib.hid (hb.alloc hb.size (.cells #[.string (S a), .int .i64 g] 50))
          generalize wrap64 (n1 + sumPo (ps.take j) : Nat) = n0 at hadd Hadd ⊢
          clear hb hnext ha
          go_wp2_with fail
          go_roundw
          case rel => exact ⟨j + 1, by omega, by go_num, by first | rfl | (rw [← Hadd.out]) | go_num, Hb2.out⟩
          case measure => simp [intOf]; omega
        · obtain rfl : j = ps.length := by omega
          rw [List.take_length]
          obtain ⟨k0, k1, k2, k3, k4, k5, k6⟩ := (HK.out.later hb).seven
          obtain ⟨n2, hn2⟩ : ∃ n2, sumPo ps = n2 := ⟨_, rfl⟩
          have Hn2 := Lib.hid hn2
          rw [hn2]
          clear hn2
          clear hb
          go_wp2_with fail
          clear k0 k1 k2 k3 k4 k5 k6
          go_loopw [3, 40] (fun v3 i wr => ∃ j : Nat, j ≤ us.length ∧ i = .int .i64 j ∧ v3 = .int .i64 (wrap64 (n1 + n2 + sumUs (us.take j) : Nat)) ∧ Below w0.heap.size w0 wr) (fun _ i _ => us.length - (intOf i).toNat)
          case atStart => exact ⟨0, by omega, rfl, rfl, Hb.out⟩
          case round =>
            clear Hb
            obtain ⟨j, hj, rfl, rfl, hb⟩ := hrel
            have Hb := Lib.hid hb
            by_cases hlt : j < us.length
            · obtain ⟨b, o, rfl, q0, q1⟩ := (HV.out.later hb).us.cell hlt
              have hnext : sumUs (us.take (j + 1)) = sumUs (us.take j) + (1 + us[j].nm.length + us[j].sc.length) := sum_take _ us j hlt
              have hfl := Hf.out.us.1.2 us[j] (List.getElem_mem hlt)
              obtain ⟨⟨a, g⟩, ha⟩ : ∃ a, us[j] = a := ⟨_, rfl⟩
              rw [ha] at q0 q1 hnext hfl
              simp only at q0 q1 hnext hfl
              obtain ⟨hf1, hf2⟩ := hfl
              have hji : (j : Int) < (us.length : Int) := by omega
              have hadd : wrap64 (wrap64 (n1 + n2 + sumUs (us.take j) : Nat) + (1 + (a.length : Int) + (g.length : Int))) = wrap64 (n1 + n2 + sumUs (us.take (j + 1)) : Nat) := by
                rw [wrap64_add, hnext]; congr 1 <;> omega
              have Hadd := Lib.hid hadd
              have Hb2 := Lib.hid (hb.alloc hb.size (.cells #[.string (S a), .string (S g)] 26))
              generalize wrap64 (n1 + n2 + sumUs (us.take j) : Nat) = n0 at hadd Hadd ⊢
              clear hb hnext ha
              go_wp2_with fail
              go_roundw
              case rel => exact ⟨j + 1, by omega, by go_num, by first | rfl | (rw [← Hadd.out]) | go_num, Hb2.out⟩
              case measure => simp [intOf]; omega
            · obtain rfl : j = us.length := by omega
              rw [List.take_length]
              obtain ⟨k0, k1, k2, k3, k4, k5, k6⟩ := (HK.out.later hb).seven
              have T := Lib.hid (thickK_any own _ wr (HV.out.later hb).own (Hf.out.own.1.1))
              have hN : wrap64 (wrap64 (wrap64 (n1 + n2 + sumUs us : Nat) + (sn.length : Int)) + (ss.length : Int)) = wrap64 (crowdN (⟨ts, ps, us, sn, ss, lim, own⟩ : Cf) : Nat) := by
                rw [wrap64_add, Int.add_assoc, wrap64_add]
                show _ = wrap64 ((sumS ts + sumPo ps + sumUs us + sn.length + ss.length : Nat) : Int)
                rw [Hn1.out, Hn2.out]; congr 1 <;> omega
              obtain ⟨n0, hn0⟩ : ∃ n0, wrap64 (n1 + n2 + sumUs us : Nat) = n0 := ⟨_, rfl⟩
              rw [hn0] at hN ⊢
              obtain ⟨nA, hA2⟩ : ∃ nA, wrap64 (n0 + (sn.length : Int)) = nA := ⟨_, rfl⟩
              rw [hA2] at hN
              obtain ⟨nB, hB2⟩ : ∃ nB, wrap64 (nA + (ss.length : Int)) = nB := ⟨_, rfl⟩
              rw [hB2] at hN
              have HN := Lib.hid hN
              have HwE := Lib.hid (HA.out.trans (hb.mono HA.out.size))
              clear hb hn0 hN
              by_cases hc : 2500 < nB
              · go_wp2_with fail
                go_ret
                exact ⟨true, rfl, fun h => (by cases h), HwE.out⟩
              · go_wp2_with fail
                refine T.out.mono ?_
                rintro e w9 ⟨b9, rfl, hb9⟩
                have Hb9 := Lib.hid (below_then HwE.out hb9)
                clear hb9
                go_wp2_with fail
                go_ret
                exact ⟨_, rfl, fun _ => by rw [← HN.out]; omega, Hb9.out⟩
end Go.Proofs.YtlcadichpcdgpaaGreatDoor
