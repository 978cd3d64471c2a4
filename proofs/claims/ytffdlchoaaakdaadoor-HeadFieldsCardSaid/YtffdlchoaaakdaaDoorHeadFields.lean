/- HeadFields: fields lie within a head, behind what all have, none over another one. -/
import Derived.Test.YtffdlchoaaakdaaDoorFieldsMath
import Derived.Carry
namespace Go.Proofs.YtffdlchoaaakdaaDoor
open Go.RowKit
set_option linter.unusedVariables false
theorem litI (n : Nat) : (Lit.int .i64 (n : Int)) = LI n := rfl
set_option maxRecDepth 100000 in
set_option maxHeartbeats 2000000 in
theorem headFields_any (op : Int) (w : World) (_ha : (Lit.int .i64 op).wf = true) (hm : MaxCell w) :
    Calls Tryd.prog 6 #[.int .i64 op] w fun e w' => e = .returned (.bool true) ∧ Below w.heap.size w w' := by
  have H := Lib.hid (headed_any w hm)
  have Hm := Lib.hid hm
  cases hk : kindOf op with
  | none =>
    have F := fun w => Lib.hid (fields_none hk w)
    have N := fun w => Lib.hid (name_none hk w)
    clear hk hm
    go_enter Tryd.func6, Tryd.ntmps6
    go_wp2_with fail
    refine H.out.mono ?_
    rintro e w1 ⟨rfl, hb1⟩
    have Hb1 := Lib.hid hb1
    clear hb1 H
    go_wp2_with fail
    refine (F _).out.mono ?_
    rintro e w2 ⟨rfl, hb2⟩
    have Hb2 := Lib.hid (below_then Hb1.out hb2)
    clear hb2
    go_wp2_with fail
    refine (N _).out.mono ?_
    rintro e w3 ⟨rfl, hb3⟩
    have Hb3 := Lib.hid (below_then Hb2.out hb3)
    clear hb3
    go_wp2_with fail
    go_ret
    exact ⟨rfl, Hb3.out⟩
  | some k =>
    have K := Lib.hid (kindFacts hk)
    have Fs := fun w hm => Lib.hid (fields_some hk w hm)
    have N := fun w => Lib.hid (name_some hk w)
    have hl10 := K.out.len
    obtain ⟨hop0, hop1⟩ := kindOf_range hk
    have hnm0 := K.out.nm0
    clear hk hm
    go_enter Tryd.func6, Tryd.ntmps6
    go_wp2_with fail
    refine H.out.mono ?_
    rintro e w1 ⟨rfl, hb1⟩
    have Hb1 := Lib.hid hb1
    clear hb1 H
    go_wp2_with fail
    refine (Fs _ (Hm.out.later Hb1.out)).out.mono ?_
    rintro e w2 ⟨b, rfl, hlb, hF, hb2⟩
    have Hb2 := Lib.hid (below_then Hb1.out hb2)
    have HF := Lib.hid hF
    clear hb2 hF
    go_wp2_with fail
    refine (N _).out.mono ?_
    rintro e w3 ⟨rfl, hb3⟩
    have Hb3 := Lib.hid (below_then Hb2.out hb3)
    have HF3 := Blk.later HF.out hb3
    have hz3 := hb3.size
    have hb3lt : b < w3.heap.size := HF3.lt
    clear hb3 HF
    have hws : w.heap.size ≤ w3.heap.size := Hb3.out.size
    -- the literal of six
    have M0 := BMap.made 3 w3
    obtain ⟨u1, hr1, M1, g1⟩ := M0.put keyedI Tryd.underlying46 (by omega) (keyI 0 (by omega)) trivial
    obtain ⟨u2, hr2, M2, g2⟩ := M1.put keyedI Tryd.underlying46 (by omega) (keyI 1 (by omega)) trivial
    obtain ⟨u3, hr3, M3, g3⟩ := M2.put keyedI Tryd.underlying46 (by omega) (keyI 4 (by omega)) trivial
    obtain ⟨u4, hr4, M4, g4⟩ := M3.put keyedI Tryd.underlying46 (by omega) (keyI 5 (by omega)) trivial
    obtain ⟨u5, hr5, M5, g5⟩ := M4.put keyedI Tryd.underlying46 (by omega) (keyI 6 (by omega)) trivial
    obtain ⟨u6, hr6, M6, g6⟩ := M5.put keyedI Tryd.underlying46 (by omega) (keyI 7 (by omega)) trivial
    have M7 := M6.as (seen_start k.fs)
    have G := (((((g1.trans g2).trans g3).trans g4).trans g5).trans g6)
    have B0 := Hb3.out.alloc hws (.map #[] 0)
    have B6 := Below.grownB B0 G hws (by simp; omega)
    have F6 := Blk.otherB (Blk.alloc HF3 (.map #[] 0)) G (by omega)
    have hlt6 : w3.heap.size < u6.heap.size := M7.lt
    have hmm := @run_makeMap Tryd.prog
    have HM6 := Lib.hid (M7.alloc (.map #[] 0))
    have HN6 := Lib.hid ((BMap.made 9 u6).as (g := nameF k.fs 0) (fun x => ⟨fun h => h.elim, fun ⟨_, _, h, _⟩ => by omega⟩))
    have HF6 := Lib.hid (Blk.alloc F6 (.map #[] 0))
    have HB6 := Lib.hid (B6.alloc (by have := B6.size; omega) (.map #[] 0))
    clear M0 M1 M2 M3 M4 M5 M6 M7 g1 g2 g3 g4 g5 g6 G B0 B6 F6 HF3
    go_wp2_with (first | refine wpList_insert_b _ rfl _ _ _ _ rfl u1 hr1 ?_ | refine wpList_insert_b _ rfl _ _ _ _ rfl u2 hr2 ?_ | refine wpList_insert_b _ rfl _ _ _ _ rfl u3 hr3 ?_ | refine wpList_insert_b _ rfl _ _ _ _ rfl u4 hr4 ?_ | refine wpList_insert_b _ rfl _ _ _ _ rfl u5 hr5 ?_ | refine wpList_insert_b _ rfl _ _ _ _ rfl u6 hr6 ?_)
    clear hr1 hr2 hr3 hr4 hr5 hr6
    go_loopw [42] (fun i wr => ∃ j : Nat, j ≤ k.fs.length ∧ i = .int .i64 j ∧ BMap 3 wr w3.heap.size (6 + 8 * j) (seenF k.fs j) ∧ BMap 9 wr u6.heap.size j (nameF k.fs j) ∧ Flds wr b k.fs ∧ Below w.heap.size w wr) (fun i _ => k.fs.length - (intOf i).toNat)
    case atStart => exact ⟨0, by omega, rfl, HM6.out, HN6.out, HF6.out, HB6.out⟩
    case round =>
      obtain ⟨j, hj, rfl, hM, hN, hFr, hBr⟩ := hrel
      have HMr := Lib.hid hM
      have HNr := Lib.hid hN
      have HFr := Lib.hid hFr
      have HBr := Lib.hid hBr
      have ltM : w3.heap.size < wr.heap.size := hM.lt
      have ltN : u6.heap.size < wr.heap.size := hN.lt
      have ltF : b < wr.heap.size := Blk.lt hFr
      have leW : w.heap.size ≤ wr.heap.size := hBr.size
      clear hM hN hFr hBr
      by_cases hlt : j < k.fs.length
      · obtain ⟨q0, q1, q2⟩ := Flds.get HFr.out j hlt
        obtain ⟨f, hf⟩ : ∃ f, k.fs[j] = f := ⟨_, rfl⟩
        rw [hf] at q0 q1 q2
        have hmem : f ∈ k.fs := by rw [← hf]; exact List.getElem_mem hlt
        obtain ⟨o1, o2, o3, o4, o5, o6, o7⟩ := K.out.fok f hmem
        obtain ⟨o8, o9⟩ := part_name_lt K.out hmem
        have hwrap : IntKind.i64.wrap ((f.pos : Int) + (f.sz : Int)) = (f.pos : Int) + f.sz := IntWalk.i64_in _ (by omega)
        have NA := HNr.out.alloc (.cells #[.string (S f.nm), .int .i64 (f.pos : Int), .int .i64 (f.sz : Int)] 49)
        have L1 := (NA.look keyedS Tryd.underlying47 (keyS f.nm o8)).2 (name_not K.out.apart j hlt f hf)
        obtain ⟨v1, hr1, N1, G1⟩ := NA.put keyedS Tryd.underlying47 (by omega) (keyS f.nm o8) trivial
        have HN1 := Lib.hid (N1.as (name_step k.fs j hlt f hf))
        have X0 := Blk.new wr #[.string (S f.nm), .int .i64 (f.pos : Int), .int .i64 (f.sz : Int)] 49
        have HX1 := Lib.hid (Blk.otherB X0 G1 (by omega))
        have HM1 := Lib.hid (((HMr.out.alloc (.cells #[.string (S f.nm), .int .i64 (f.pos : Int), .int .i64 (f.sz : Int)] 49)).other G1 (by omega)).as (part_start k.fs j f))
        have HF1 := Lib.hid (Blk.otherB (Blk.alloc HFr.out (.cells #[.string (S f.nm), .int .i64 (f.pos : Int), .int .i64 (f.sz : Int)] 49)) G1 (by omega))
        have HB1 := Lib.hid (Below.grownB (HBr.out.alloc leW (.cells #[.string (S f.nm), .int .i64 (f.pos : Int), .int .i64 (f.sz : Int)] 49)) G1 (by omega) (by simp; omega))
        obtain ⟨x0, x1, x2⟩ := HX1.out.three
        have Hf := Lib.hid hf
        have hie : f.nm.isEmpty = false := by simpa using o9
        clear NA N1 G1 X0 hf o9 hmem
        go_wp2_with fail
        clear L1 hr1 q0 q1 q2 x0 x1 x2
        go_loopw [11] (fun y wi => ∃ m : Nat, f.pos ≤ m ∧ m ≤ f.pos + f.sz ∧ y = .int .i64 m ∧ BMap 3 wi w3.heap.size (6 + 8 * j + (m - f.pos)) (partF k.fs j f m) ∧ BMap 9 wi u6.heap.size (j + 1) (nameF k.fs (j + 1)) ∧ Flds wi b k.fs ∧ Blk wi wr.heap.size #[.string (S f.nm), .int .i64 (f.pos : Int), .int .i64 (f.sz : Int)] 49 ∧ Below w.heap.size w wi) (fun y _ => f.pos + f.sz - (intOf y).toNat)
        case atStart => exact ⟨f.pos, Nat.le_refl _, by omega, rfl, HM1.out.mono (by omega), HN1.out, HF1.out, HX1.out, HB1.out⟩
        case round =>
          obtain ⟨m, hm1, hm2, rfl, hM, hN, hFi, hXi, hBi⟩ := hrel
          have HNi := Lib.hid hN
          have HFi := Lib.hid hFi
          have HXi := Lib.hid hXi
          have HBi := Lib.hid hBi
          have leB := hBi.size
          have ltXi := hXi.lt
          obtain ⟨x0, x1, x2⟩ := hXi.three
          clear hN hFi hXi hBi
          by_cases hlm : m < f.pos + f.sz
          · have L2 := (hM.look keyedI Tryd.underlying46 (keyI m (by omega))).2 (part_not K.out j hlt f Hf.out m hm1 hlm)
            obtain ⟨v2, hr2, M2, G2⟩ := hM.put keyedI Tryd.underlying46 (by omega) (keyI m (by omega)) trivial
            have HM2 := Lib.hid ((M2.as (part_step k.fs j f m hm1)).mono (n' := 6 + 8 * j + (m + 1 - f.pos)) (by omega))
            have HN2 := Lib.hid (HNi.out.other G2 (by omega))
            have HF2 := Lib.hid (Blk.otherB HFi.out G2 (by omega))
            have HX2 := Lib.hid (Blk.otherB HXi.out G2 (by omega))
            have HB2 := Lib.hid (Below.grownB HBi.out G2 (by omega) leB)
            clear hM M2 G2
            go_wp2_with fail
            go_roundw
            case rel => exact ⟨m + 1, by omega, by omega, by go_num, HM2.out, HN2.out, HF2.out, HX2.out, HB2.out⟩
            case measure => simp [intOf]; omega
          · obtain rfl : m = f.pos + f.sz := by omega
            have HM2 := Lib.hid ((hM.as (part_end k.fs j hlt f Hf.out)).mono (n' := 6 + 8 * (j + 1)) (by omega))
            clear hM
            go_wp2_with fail
            go_roundw
            case rel => exact ⟨j + 1, by omega, by go_num, HM2.out, HNi.out, HFi.out, HBi.out⟩
            case measure => simp [intOf]; omega
      · obtain rfl : j = k.fs.length := by omega
        have L2 : (Instr.lookup 47 (.map (some u6.heap.size)) (.string (S [73, 84, 84])) false).run Tryd.prog wr = .ok (.bool true) wr := (HNr.out.look keyedS Tryd.underlying47 (keyS [73, 84, 84] (by decide))).1 (name_itt K.out)
        have hie : k.nm.isEmpty = false := by
          cases h : k.nm with
          | nil => rw [h] at hnm0; simp at hnm0
          | cons x l => rfl
        go_wp2_with fail
        go_ret
        exact ⟨rfl, HBr.out⟩
end Go.Proofs.YtffdlchoaaakdaaDoor
