/- ref.AhsWrite. -/
import Derived.Test.YtceinedicbdngaaDoorAhs
import Derived.Test.YtceinedicbdngaaDoorRefPad
import Derived.Test.YtceinedicbdngaaDoorRefNum
import Derived.Test.YtceinedicbdngaaDoorRefFault
namespace Go.Proofs.YtceinedicbdngaaDoor
open Go.RowKit
/-- two stores to the fault's block -/
theorem fault_set {w W : World} {x y : Int} (a b : Int) (h : Cell2 W w.heap.size x y) (hb : Below w.heap.size w W) :
    Cell2 ((W.setCell ⟨w.heap.size, 0, none⟩ (.int .i64 a)).setCell ⟨w.heap.size, 1, none⟩ (.int .i64 b)) w.heap.size a b ∧ Below w.heap.size w ((W.setCell ⟨w.heap.size, 0, none⟩ (.int .i64 a)).setCell ⟨w.heap.size, 1, none⟩ (.int .i64 b)) :=
  ⟨(Blk.set (Blk.set (show Blk W w.heap.size #[.int .i64 x, .int .i64 y] 26 from h) 0 (.int .i64 a)) 1 (.int .i64 b)), (hb.setCell (p := ⟨w.heap.size, 0, none⟩) (Nat.le_refl _) _).setCell (p := ⟨w.heap.size, 1, none⟩) (Nat.le_refl _) _⟩
theorem numV_2 (n : Nat) (h : n ≤ 2000) : numV n 2 = .tuple #[.string (S (be n 2)), .int .i64 0] := by
  have e : n / 2 ^ (8 * 2) = 0 := Nat.div_eq_of_lt (by omega)
  unfold numV
  rw [e, if_neg (by decide)]
set_option maxRecDepth 100000 in
theorem refWrite_ahs (l : List Ah) (v : Value) (w : World) (hv : AhsV w v l) (hf : fitA l) :
    Calls Tryd.prog 11 #[v] w (RetSF w (writeA l)) := by
  obtain ⟨p, c, rfl, _, hc⟩ := hv
  have Hc := Lib.hid hc
  have Hf := Lib.hid hf
  have hl47 := hf.1
  clear hc hf
  go_enter Tryd.func11, Tryd.ntmps11
  go_wp2_with fail
  go_loopw [4, 11] (fun x i wr => ∃ (j : Nat) (out : List UInt8), j ≤ l.length ∧ i = .int .i64 j ∧ x = .string (S out) ∧ out = wrL (l.take j) ∧ out.length ≤ 1020 ∧ rightF out.length j (l.drop j) = rightA l ∧ Cell2 wr w.heap.size 0 0 ∧ Below w.heap.size w wr) (fun _ i _ => l.length - (intOf i).toNat)
  case atStart => exact ⟨0, [], by omega, rfl, rfl, rfl, by decide, rfl, cell2_new w, (Below.refl _ _).alloc (Nat.le_refl _) _⟩
  case round =>
    obtain ⟨j, out, hj, rfl, rfl, hout, ho, hr, hF, hb⟩ := hrel
    have Hb := Lib.hid hb
    have HF := Lib.hid hF
    have Hout := Lib.hid hout
    clear hF hout
    by_cases hlt : j < l.length
    · obtain ⟨b, o, rfl, hcl⟩ := Hc.out (by omega)
      obtain ⟨h1, h2⟩ := hcl j hlt
      rw [← (bcell hb).1 b (o + j * 2) (block_lt_of_cell (w := w) (a := ⟨b, o + j * 2, none⟩) h1)] at h1
      rw [← (bcell hb).1 b (o + j * 2 + 1) (block_lt_of_cell (w := w) (a := ⟨b, o + j * 2 + 1, none⟩) h2)] at h2
      have hda := Hf.out.2 l[j] (List.getElem_mem hlt)
      have hst := List.take_succ_eq_append_getElem hlt
      rw [List.drop_eq_getElem_cons hlt, rightF_cons] at hr
      obtain ⟨⟨k, d⟩, ha⟩ : ∃ a, l[j] = a := ⟨_, rfl⟩
      rw [ha] at h1 h2 hr hda hst
      simp only at h1 h2 hr hda
      have Hr := Lib.hid hr
      have Hst := Lib.hid hst
      have hb1 := hb.alloc hb.size (.cells #[.int .i64 k, .string (S d)] 41)
      have Hb1 := Lib.hid hb1
      have HF1 := Lib.hid (HF.out.later ((Below.refl wr.heap.size wr).alloc (Nat.le_refl _) (.cells #[.int .i64 k, .string (S d)] 41)))
      have HK1 := Lib.hid (Blk.new wr #[.int .i64 k, .string (S d)] 41)
      clear hr hcl hb hb1 ha hst
      by_cases hk : k < 0 ∨ 255 < k
      · have Wf := fun w => Lib.hid (within_false k 0 255 w hk)
        have E : rightA l = (2, (j : Int)) := by rw [← Hr.out, if_pos hk]
        have E := Lib.hid (show writeA l = ([], 2, (j : Int)) by unfold writeA; rw [E]; rfl)
        clear hk Hr
        go_wp2_with fail
        refine (Wf _).out.mono ?_
        rintro e w2 ⟨rfl, rfl⟩
        obtain ⟨x0, x1⟩ := HF1.out.cells
        have hfz := HF1.out.frozen
        have f0 := hfz 0
        have f1 := hfz 1
        go_wp2_with fail
        obtain ⟨g1, g2⟩ := fault_set 2 (j : Int) HF1.out Hb1.out
        refine bodyPost_ret (v := .tuple #[.string (S []), .agg #[.int .i64 2, .int .i64 (j : Int)]]) (by simp [results, Tryd.results11, go_sem, x0, x1]) rfl ?_
        rw [E.out]
        exact ⟨rfl, g2⟩
      · have Wt := fun w => Lib.hid (within_true k 0 255 w (by omega) (by omega))
        obtain ⟨c, rfl⟩ : ∃ c : Nat, k = c := ⟨k.toNat, by omega⟩
        have hc256 : c < 256 := by omega
        rw [if_neg hk] at Hr
        clear hk
        by_cases hd2 : 2000 < d.length
        · have E : rightA l = (4, (j : Int)) := by rw [← Hr.out, if_pos (by unfold sizeA; simp only; omega)]
          have E := Lib.hid (show writeA l = ([], 4, (j : Int)) by unfold writeA; rw [E]; rfl)
          clear Hr
          go_wp2_with fail
          refine (Wt _).out.mono ?_
          rintro e w2 ⟨rfl, rfl⟩
          obtain ⟨x0, x1⟩ := HF1.out.cells
          have hfz := HF1.out.frozen
          have f0 := hfz 0
          have f1 := hfz 1
          go_wp2_with fail
          obtain ⟨g1, g2⟩ := fault_set 4 (j : Int) HF1.out Hb1.out
          refine bodyPost_ret (v := .tuple #[.string (S []), .agg #[.int .i64 4, .int .i64 (j : Int)]]) (by simp [results, Tryd.results11, go_sem, x0, x1]) rfl ?_
          rw [E.out]
          exact ⟨rfl, g2⟩
        · have hd2' : d.length ≤ 2000 := by omega
          have N := fun w => Lib.hid (number_in d.length 2 w (by decide) (by omega))
          rw [numV_2 _ hd2'] at N
          have e1 := wrap_u64_lt d.length (by omega)
          have hbl := be_len d.length 2
          have hpd := fun w => Lib.hid (refPadded_any (be d.length 2 ++ [UInt8.ofNat (c % 256)] ++ d) w (by simp [be_len]; omega))
          have hbe : be c 1 = [UInt8.ofNat (c % 256)] := by simp [be]
          have hwr : padded (be d.length 2 ++ [UInt8.ofNat (c % 256)] ++ d) = wrA ⟨(c : Int), d⟩ := by unfold wrA; simp only [Int.toNat_natCast]; rw [hbe]
          rw [hwr] at hpd
          have hsz := wrA_len ⟨(c : Int), d⟩
          have hpl := pad_le (3 + d.length)
          have hsz2 : (wrA ⟨(c : Int), d⟩).length ≤ 2010 := by rw [hsz]; unfold sizeA; simp only; omega
          rw [← hsz] at Hr
          obtain ⟨q, hq⟩ : ∃ q, wrA ⟨(c : Int), d⟩ = q := ⟨_, rfl⟩
          have hstep : wrL (l.take (j + 1)) = out ++ q := by rw [Hst.out, wrL_app, wrL_one, hq, Hout.out]
          rw [hq] at hpd hsz2 Hr
          have Hstep := Lib.hid hstep
          have hcv := fun w => run_string_new1 (P := Tryd.prog) 57 9 5 Tryd.underlying57 Tryd.underlying5 Tryd.underlying9 w c 5
          rw [show ((c : Int) % 256) = (c : Int) by omega] at hcv
          clear hbe hwr hsz hq hstep hpl Hst
          go_wp2_with fail
          refine (Wt _).out.mono ?_
          rintro e w2 ⟨rfl, rfl⟩
          go_wp2_with fail
          refine (N _).out.mono ?_
          rintro e w3 ⟨rfl, hb3⟩
          obtain ⟨q0, q1⟩ := (HK1.out.later hb3).two
          have HF3 := Lib.hid (HF1.out.later hb3)
          have Hb3 := Lib.hid (below_then Hb1.out hb3)
          have hz3 : wr.heap.size < w3.heap.size := (HK1.out.later hb3).lt
          clear hb3
          go_wp2_with fail
          refine (hpd _).out.mono ?_
          rintro e w4 ⟨rfl, rfl⟩
          have HF4 := Lib.hid (HF3.out.later ((Below.refl w3.heap.size w3).alloc (Nat.le_refl _) (.cells #[.int .u8 (c : Int)] 5)))
          have Hb4 := Lib.hid (Hb3.out.alloc Hb3.out.size (.cells #[.int .u8 (c : Int)] 5))
          by_cases hm : 1020 < out.length + q.length
          · have E : rightA l = (4, (j : Int)) := by rw [← Hr.out, if_pos hm]
            have E := Lib.hid (show writeA l = ([], 4, (j : Int)) by unfold writeA; rw [E]; rfl)
            obtain ⟨x0, x1⟩ := HF4.out.cells
            have hfz := HF4.out.frozen
            have f0 := hfz 0
            have f1 := hfz 1
            go_wp2_with fail
            obtain ⟨g1, g2⟩ := fault_set 4 (j : Int) HF4.out Hb4.out
            refine bodyPost_ret (v := .tuple #[.string (S []), .agg #[.int .i64 4, .int .i64 (j : Int)]]) (by simp [results, Tryd.results11, go_sem, x0, x1]) rfl ?_
            rw [E.out]
            exact ⟨rfl, g2⟩
          · rw [if_neg hm] at Hr
            clear q0 q1
            go_wp2_with fail
            go_roundw
            case rel => exact ⟨j + 1, out ++ q, by omega, by go_num, rfl, Hstep.out.symm, by simp; omega, by rw [List.length_append]; exact Hr.out, HF4.out, Hb4.out⟩
            case measure => simp [intOf]; omega
    · obtain rfl : j = l.length := by omega
      rw [List.drop_length] at hr
      have E : rightA l = (0, -1) := hr.symm
      have hw : writeA l = (wrL l, 0, -1) := by unfold writeA; rw [E]; rfl
      have ho2 := Hout.out
      rw [List.take_length] at ho2
      rw [← ho2] at hw
      have Hw := Lib.hid hw
      have G := fun w => Lib.hid (goodF w)
      clear hr hb hw E ho2
      go_wp2_with fail
      refine (G _).out.mono ?_
      rintro e w2 ⟨rfl, hb2⟩
      obtain ⟨x0, x1⟩ := (HF.out.later hb2).cells
      have hfz := (HF.out.later hb2).frozen
      have f0 := hfz 0
      have f1 := hfz 1
      have HF2 := Lib.hid (HF.out.later hb2)
      have Hb2 := Lib.hid (below_then Hb.out hb2)
      clear hb2
      go_wp2_with fail
      obtain ⟨g1, g2⟩ := fault_set 0 (-1) HF2.out Hb2.out
      refine bodyPost_ret (v := .tuple #[.string (S out), .agg #[.int .i64 0, .int .i64 (-1)]]) (by simp [results, Tryd.results11, go_sem, x0, x1]) rfl ?_
      rw [Hw.out]
      exact ⟨rfl, g2⟩
end Go.Proofs.YtceinedicbdngaaDoor
