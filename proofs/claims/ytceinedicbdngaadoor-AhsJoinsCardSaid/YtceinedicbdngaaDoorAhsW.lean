/- ahs.written, ahs.Write. -/
import Derived.Test.YtceinedicbdngaaDoorAhs
import Derived.Test.YtceinedicbdngaaDoorBuf
namespace Go.Proofs.YtceinedicbdngaaDoor
open Go.RowKit
theorem written_any (a : Ah) (w : World) (hk : 0 ≤ a.k ∧ a.k ≤ 255) (hd : a.d.length ≤ 2000) :
    Calls Tryd.prog 29 #[.agg #[.int .i64 a.k, .string (S a.d)]] w fun e w' => e = .returned (.string (S (wrA a))) ∧ Below w.heap.size w w' := by
  obtain ⟨k, d⟩ := a
  simp only at hk hd ⊢
  obtain ⟨c, rfl⟩ : ∃ c : Nat, k = c := ⟨k.toNat, by omega⟩
  have hc : c < 256 := by omega
  have P1 := fun w => Lib.hid (put_ok d.length 2 w (by decide) (Nat.div_eq_of_lt (by omega)))
  have P2 := fun w => Lib.hid (put_ok c 1 w (by decide) (Nat.div_eq_of_lt (by omega)))
  have P3 := fun w => Lib.hid (padded_any (be d.length 2 ++ be c 1 ++ d) w (by simp only [List.length_append, be_len]; omega))
  have E := Lib.hid (show wrA ⟨(c : Int), d⟩ = padded (be d.length 2 ++ be c 1 ++ d) from rfl)
  have l1 := be_len d.length 2
  have l2 := be_len c 1
  have e1 := wrap_u64_lt d.length (by omega)
  have e2 := wrap_u64_lt c (by omega)
  have hb0 := (Below.refl w.heap.size w).alloc (Nat.le_refl _) (.cells #[.int .i64 (c : Int), .string (S d)] 41)
  have Hb0 := Lib.hid hb0
  have hbk := Lib.hid (Blk.new w #[.int .i64 (c : Int), .string (S d)] 41)
  clear hb0
  go_enter Tryd.func29, Tryd.ntmps29
  go_wp2_with fail
  refine (P1 _).out.mono ?_
  rintro e w1 ⟨rfl, hb1⟩
  obtain ⟨q0, q1⟩ := (hbk.out.later hb1).two
  have hbk1 := Lib.hid (hbk.out.later hb1)
  have Hb1 := Lib.hid (below_then Hb0.out hb1)
  clear hb1
  go_wp2_with fail
  refine (P2 _).out.mono ?_
  rintro e w2 ⟨rfl, hb2⟩
  have Hb2 := Lib.hid (below_then Hb1.out hb2)
  have hbk2 := hbk1.out.later hb2
  clear q0 q1
  obtain ⟨q0, q1⟩ := hbk2.two
  clear hb2 hbk2
  go_wp2_with fail
  refine (P3 _).out.mono ?_
  rintro e w3 ⟨rfl, rfl⟩
  go_wp2_with fail
  go_ret
  rw [E.out]
  exact ⟨rfl, Hb2.out⟩
theorem info8w : (Tryd.prog.info? 5).map (fun i => (i.zero, i.size, i.bytes)) = some (some (.int .u8 0), 1, 1) := by kernel_rfl
theorem wrL_take_le (l : List Ah) (j : Nat) : (wrL (l.take j)).length ≤ (wrL l).length := by
  have h : (wrL l).length = (wrL (l.take j)).length + (wrL (l.drop j)).length := by rw [← List.length_append, ← wrL_app, List.take_append_drop]
  omega
set_option maxRecDepth 100000 in
theorem write_ahs (l : List Ah) (v : Value) (w : World) (hv : AhsV w v l) (hf : fitA l) :
    Calls Tryd.prog 12 #[v] w (RetSE w (writeA l)) := by
  have R := Lib.hid (right_ahs l v w hv hf)
  have hl47 := hf.1
  have HV := Lib.hid hv
  obtain ⟨i0, hi, hz0, hz1, hz2⟩ := info_parts info8w
  by_cases h0 : (rightA l).1 = 0
  · obtain ⟨hk, hs, hr⟩ := rightA_is l h0
    have Hk := Lib.hid hk
    have E := Lib.hid (writeA_ok hk hs)
    rw [hr] at R
    have hd := Lib.hid (data_lt hs)
    have Hf := Lib.hid hf
    clear hv hf h0 hr hk
    obtain ⟨p, c, rfl⟩ := HV.out.form
    go_enter Tryd.func12, Tryd.ntmps12
    go_wp2_with fail
    refine R.out.mono ?_
    rintro e w1 ⟨ev, rfl, he, hb1⟩
    obtain rfl := he.zero
    have Hb1 := Lib.hid hb1
    clear he hb1
    go_wp2_with fail
    go_loopw [5, 15] (fun b i wr => ∃ j : Nat, j ≤ l.length ∧ i = .int .i64 j ∧ Buf 5 w.heap.size wr b (wrL (l.take j)) ∧ Below w.heap.size w wr) (fun _ i _ => l.length - (intOf i).toNat)
    case atStart => exact ⟨0, by omega, rfl, buf_nil _ _ _, Hb1.out⟩
    case round =>
      obtain ⟨j, hj, rfl, hbuf, hb⟩ := hrel
      have Hb := Lib.hid hb
      have hsz := hb.size
      have hlj := wrL_take_le l j
      by_cases hlt : j < l.length
      · obtain ⟨p', c', hpe, _, hc⟩ := HV.out
        obtain ⟨b, o, rfl, hcl⟩ := hc (by omega)
        obtain ⟨h1, h2⟩ := hcl j hlt
        have hp : p = some ⟨b, o, none⟩ := by injection hpe
        subst hp
        rw [← (bcell hb).1 b (o + j * 2) (block_lt_of_cell (w := w) (a := ⟨b, o + j * 2, none⟩) h1)] at h1
        rw [← (bcell hb).1 b (o + j * 2 + 1) (block_lt_of_cell (w := w) (a := ⟨b, o + j * 2 + 1, none⟩) h2)] at h2
        obtain ⟨a, ha⟩ : ∃ a, l[j] = a := ⟨_, rfl⟩
        have hka := Hk.out l[j] (List.getElem_mem hlt)
        have hda : l[j].d.length ≤ 2000 := by
          have h1 : (wrL (l.take (j + 1))).length ≤ (wrL l).length := wrL_take_le l (j + 1)
          rw [List.take_succ_eq_append_getElem hlt, wrL_app, wrL_one, List.length_append, wrA_len] at h1
          unfold sizeA at h1; omega
        have hst := List.take_succ_eq_append_getElem hlt
        rw [ha] at h1 h2 hka hda hst
        have hla : (wrA a).length ≤ 3000 := by rw [wrA_len]; unfold sizeA; have := pad_le (3 + a.d.length); omega
        have W := fun w => Lib.hid (written_any a w hka hda)
        obtain ⟨k, d⟩ := a
        simp only at h1 h2 hka hda W
        have Hst := Lib.hid hst
        have hb1 := hb.alloc hb.size (.cells #[.int .i64 k, .string (S d)] 41)
        have Hb1 := Lib.hid hb1
        have HB2 := Lib.hid (hbuf.alloc (.cells #[.int .i64 k, .string (S d)] 41))
        have hz1' : w.heap.size ≤ (wr.alloc (.cells #[.int .i64 k, .string (S d)] 41)).heap.size := hb1.size
        have Hz := Lib.hid hz1'
        clear hst hcl hb hb1 hc hpe hbuf ha hka hda hz1'
        go_wp2_with fail
        refine (W _).out.mono ?_
        rintro e w2 ⟨rfl, hb2⟩
        have Hlo2 := Lib.hid (below_then Hb1.out hb2)
        have HB3 := Lib.hid (HB2.out.later hb2)
        have hz2' : w.heap.size ≤ w2.heap.size := Hlo2.out.size
        clear hb2 h1 h2
        go_wp2_with (at_builtin; refine wpList_append_buf rfl _ _ _ _ rfl 5 i0 Tryd.underlying57 hi hz0 hz1 hz2 w.heap.size _ (wrL (l.take j)) rfl HB3.out hz2' _ (wrA ⟨k, d⟩) rfl (src_string Tryd.underlying9 (wrA ⟨k, d⟩) _) (by omega) ?_; intro v3 w3 hb3 hlo3 hsz3 hg3)
        have HB4 := hb3
        rw [← wrL_one, ← wrL_app, ← Hst.out] at HB4
        have HB4 := Lib.hid HB4
        have Hlo4 := Lib.hid (Hlo2.out.trans hlo3)
        clear hb3 hlo3 hg3
        go_wp2_with fail
        go_roundw
        case rel => exact ⟨j + 1, by omega, by go_num, HB4.out, Hlo4.out⟩
        case measure => simp [intOf]; omega
      · obtain rfl : j = l.length := by omega
        rw [List.take_length] at hbuf
        have hcv := run_string_buf (P := Tryd.prog) 57 9 5 Tryd.underlying57 Tryd.underlying5 Tryd.underlying9 hbuf
        clear hb hbuf
        go_wp2_with fail
        go_ret2
        rw [E.out]
        exact ⟨_, rfl, .good, Hb.out⟩
  · have E := Lib.hid (show writeA l = ([], rightA l) by unfold writeA; rw [if_neg h0])
    obtain ⟨⟨n, q⟩, hr⟩ : ∃ r, rightA l = r := ⟨_, rfl⟩
    rw [hr] at R E h0
    clear hv hf hr
    obtain ⟨p, c, rfl⟩ := HV.out.form
    go_enter Tryd.func12, Tryd.ntmps12
    go_wp2_with fail
    refine R.out.mono ?_
    rintro e w1 ⟨ev, rfl, he, hb1⟩
    obtain ⟨t, x, rfl⟩ := he.iface h0
    have Hb1 := Lib.hid hb1
    have He := Lib.hid he
    clear he hb1
    go_wp2_with fail
    go_ret2
    rw [E.out]
    exact ⟨_, rfl, He.out, Hb1.out⟩
end Go.Proofs.YtceinedicbdngaaDoor
