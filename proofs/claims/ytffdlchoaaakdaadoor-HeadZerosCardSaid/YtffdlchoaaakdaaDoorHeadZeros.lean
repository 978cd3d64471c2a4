/- HeadZeros: what is no field is 0. -/
import Derived.Test.YtffdlchoaaakdaaDoorZeroIn
import Derived.Test.YtffdlchoaaakdaaDoorBase2
namespace Go.Proofs.YtffdlchoaaakdaaDoor
open Go.RowKit
set_option linter.unusedVariables false
theorem wf_u8z {n : Int} (h : (Lit.int .u8 n).wf = true) : ∃ b : UInt8, n = (b.toNat : Int) := by
  have h' : 0 ≤ n ∧ n ≤ 255 := by simpa [Lit.wf, IntKind.min, IntKind.max, IntKind.signed, IntKind.bits] using h
  refine ⟨UInt8.ofNat n.toNat, ?_⟩
  rw [UInt8.toNat_ofNat']
  omega
theorem Vals.formL {W : World} {v : Value} {l : List Nat} {n : Nat} (h : Vals W v l) (hn : l.length = n) : ∃ p c, v = .slice p n c := by
  obtain ⟨p, c, hv⟩ := h.form; exact ⟨p, c, by rw [hv, hn]⟩
theorem u8_zero (c : UInt8) : ((c.toNat : Int) == 0) = decide (c = 0) := by
  by_cases h : c = 0
  · subst h; rfl
  · rw [decide_eq_false h, beq_eq_false_iff_ne]
    intro h0
    exact h (UInt8.toNat_inj.1 (by simpa using h0))
set_option maxRecDepth 100000 in
set_option maxHeartbeats 1000000 in
theorem headZeros_any (op at0 c0 : Int) (w : World) (_ha : (Lit.int .i64 op).wf = true) (_hb : (Lit.int .i64 at0).wf = true) (hcw : (Lit.int .u8 c0).wf = true) (hm : MaxCell w) :
    Calls Tryd.prog 9 #[.int .i64 op, .int .i64 at0, .int .u8 c0] w fun e w' => e = .returned (.bool true) ∧ Below w.heap.size w w' := by
  obtain ⟨c, rfl⟩ := wf_u8z hcw
  have hb0 := (Below.refl w.heap.size w).alloc (Nat.le_refl _) (.cells #[.int .i64 at0] 3)
  have H := Lib.hid (headed_any _ (hm.later hb0))
  have Hm := Lib.hid hm
  have Hb0 := Lib.hid hb0
  cases hk : kindOf op with
  | none =>
    have F := fun w => Lib.hid (fields_none hk w)
    clear hk hm hcw hb0
    go_enter Tryd.func9, Tryd.ntmps9
    go_wp2_with fail
    refine H.out.mono ?_
    rintro e w1 ⟨rfl, hb1⟩
    have Hb1 := Lib.hid (below_then Hb0.out hb1)
    clear hb1 H
    go_wp2_with fail
    refine (F _).out.mono ?_
    rintro e w2 ⟨rfl, hb2⟩
    have Hb2 := Lib.hid (below_then Hb1.out hb2)
    clear hb2
    go_wp2_with fail
    go_ret
    exact ⟨rfl, Hb2.out⟩
  | some k =>
    have K := kindFacts hk
    have K0 := Lib.hid (Blk.new w #[.int .i64 at0] 3)
    have Fs := fun w hm => Lib.hid (fields_some hk w hm)
    have hl10 := K.len
    have P := fun w => Lib.hid (pick_any at0 48 w (by decide) (by decide))
    have ha48 := pickI_lt at0 48 (by decide)
    obtain ⟨a, haa⟩ : ∃ a, pickI at0 48 = a := ⟨_, rfl⟩
    rw [haa] at P ha48
    have MK := fun w hm => make_any op 0 [] [] (.slice none 0 0) (.slice none 0 0) w ⟨by decide, by decide⟩ hm (strV_nil w) (vals_nil w) (by decide) (by decide)
    rw [zero_make hk] at MK
    have MK2 := fun w hm => Lib.hid (MK w hm)
    have hzl : (zeroH op k).vs.length = k.fs.length := by simp [zeroH]
    have WW := fun v w hm hv => write_any (zeroH op k) v 0 0 w ⟨by show (-9223372036854775808 : Int) ≤ 0; decide, by show (0 : Int) ≤ 9223372036854775807; decide⟩ hm hv (by omega)
    rw [zero_write hk] at WW
    have WW2 := fun v w hm hv => Lib.hid (WW v w hm hv)
    have Hzl := Lib.hid hzl
    have ZR := fun h2 => Lib.hid (zero_read hk a c h2 ha48)
    have hs48 := headB_len (h := zeroH op k) hk 0 0
    obtain ⟨s, hs⟩ : ∃ s, headB (zeroH op k) 0 0 = s := ⟨_, rfl⟩
    rw [hs] at ZR hs48 WW2
    have Fok := Lib.hid (show ∀ f ∈ k.fs, f.pos ≤ 48 ∧ f.sz ≤ 8 from fun f hf => by have := K.fok f hf; omega)
    clear hk hm hcw hb0 haa MK WW hs K hzl
    go_enter Tryd.func9, Tryd.ntmps9
    go_wp2_with fail
    refine H.out.mono ?_
    rintro e w1 ⟨rfl, hb1⟩
    have K1 := Lib.hid (K0.out.later hb1)
    have Hb1 := Lib.hid (below_then Hb0.out hb1)
    clear hb1 H K0
    go_wp2_with fail
    refine (Fs _ (Hm.out.later Hb1.out)).out.mono ?_
    rintro e w2 ⟨b, rfl, hlb, hF, hb2⟩
    have K2 := Lib.hid (K1.out.later hb2)
    have Hb2 := Lib.hid (below_then Hb1.out hb2)
    have HF := Lib.hid hF
    have hne : b ≠ w.heap.size := by have := K1.out.lt; omega
    clear hb2 hF K1
    go_wp2_with fail
    refine (MK2 _ (Hm.out.later Hb2.out)).out.mono ?_
    rintro e w3 ⟨v3, ev3, rfl, hv3, he3, hb3⟩
    obtain rfl := he3.zero
    obtain ⟨p3, c3, rfl⟩ := hv3.formL Hzl.out
    have hbh := (Below.refl w3.heap.size w3).alloc (Nat.le_refl _) (.cells #[.int .i64 op, .bool false, .int .i64 0, .slice p3 k.fs.length c3] 24)
    have Hb3 := Lib.hid (below_then (below_then Hb2.out hb3) hbh)
    have K3 := Lib.hid ((K2.out.later hb3).later hbh)
    have HF3 := Lib.hid (Blk.later (Blk.later HF.out hb3) hbh)
    have WW3 := WW2 (.slice p3 k.fs.length c3) _ (Hm.out.later Hb3.out) (hv3.later hbh)
    clear hb3 hv3 he3 hbh HF K2 WW2 MK2
    unfold headV zeroH
    simp only
    go_wp2_with fail
    refine WW3.out.mono ?_
    rintro e w4 ⟨ev4, rfl, he4, hb4⟩
    obtain rfl := he4.zero
    have K4 := Lib.hid (K3.out.later hb4)
    have k4 := K4.out.one
    have f4 := K4.out.frozen 0
    have HF4 := Lib.hid (Blk.later HF3.out hb4)
    have Hb4 := Lib.hid (below_then Hb3.out hb4)
    clear hb4 he4 HF3 K3 WW3
    have hlen48 : ((s.length : Int) != 48) = false := by rw [hs48]; rfl
    go_wp2_with fail
    refine (P _).out.mono ?_
    rintro e w4' ⟨rfl, rfl⟩
    have hK5 := K4.out.set 0 (.int .i64 (a : Int))
    have hF5 := Blk.other (i := 0) HF4.out hne (.int .i64 (a : Int))
    have hB5 := Hb4.out.setCell (p := ⟨w.heap.size, 0, none⟩) (Nat.le_refl _) (.int .i64 (a : Int))
    obtain ⟨w5, h5⟩ : ∃ w5, w4.setCell ⟨w.heap.size, 0, none⟩ (.int .i64 (a : Int)) = w5 := ⟨_, rfl⟩
    rw [h5] at hK5 hF5 hB5
    have c5 := hK5.one
    by_cases h2 : a < 2
    · have HB5 := Lib.hid hB5
      clear hK5 hF5 hB5
      go_wp2_with fail
      go_ret
      exact ⟨rfl, HB5.out⟩
    · have h2' : 2 ≤ a := by omega
      obtain ⟨r, hr⟩ : ∃ r, readR (s.set a c) = r := ⟨_, rfl⟩
      have Z := ZR h2'
      obtain ⟨cap, hc1, hc2, hrun⟩ := run_bytes_S (P := Tryd.prog) 9 61 5 Tryd.underlying9 Tryd.underlying61 Tryd.underlying5 w5 s
      have hc2' := hc2 (by rw [hs48]; unfold maxLen; omega)
      unfold maxLen at hc2'
      rw [hs48] at hrun hc1
      clear hc2
      obtain ⟨T, hT⟩ : ∃ T, T = s ++ List.replicate (cap - 48) 0 := ⟨_, rfl⟩
      have hTl : T.length = cap := by rw [hT]; simp [hs48]; omega
      rw [← hT] at hrun
      obtain ⟨v0, hcell⟩ : ∃ v, (w5.alloc (.cells (cells8 T) 5 (cap, cap + 1))).cell? ⟨w5.heap.size, a, none⟩ = some v := by
        have hq := cells8_get T a (by omega)
        exact ⟨_, (World.cell?_alloc_mark w5 (cells8 T) 5 (cap, cap + 1) a).trans hq⟩
      have hfro : (w5.alloc (.cells (cells8 T) 5 (cap, cap + 1))).frozen? ⟨w5.heap.size, a, none⟩ = false := by
        rw [World.frozen?_alloc_mark]; simp; omega
      have hset := setCell_mark w5 (cells8 T) 5 (cap, cap + 1) a (.int .u8 (c.toNat : Int))
      rw [cells8_set] at hset
      have ck := (hK5.alloc (.cells (cells8 T) 5 (cap, cap + 1))).one
      have hK6 := hK5.alloc (.cells (cells8 (T.set a c)) 5 (cap, cap + 1))
      have hF6 := hF5.alloc (.cells (cells8 (T.set a c)) 5 (cap, cap + 1))
      have hB6 := hB5.alloc hB5.size (.cells (cells8 (T.set a c)) 5 (cap, cap + 1))
      have hY := bytesAt_drew (bytesAt_new w5 (T.set a c) 5 (cap, cap + 1))
      obtain ⟨w6, h6⟩ : ∃ w6, w5.alloc (.cells (cells8 (T.set a c)) 5 (cap, cap + 1)) = w6 := ⟨_, rfl⟩
      rw [h6] at hK6 hF6 hB6 hY hset
      have hcv1 := run_string_cells (P := Tryd.prog) 61 9 5 Tryd.underlying61 Tryd.underlying5 Tryd.underlying9 hY 48 cap (by simp; omega)
      have hk1 : (T.set a c).take 48 = s.set a c := by
        rw [hT, List.set_append_left _ _ (by omega), List.take_append_of_le_length (by simp; omega), List.take_of_length_le (by simp; omega)]
      rw [hk1] at hcv1
      have hB6d : Below w.heap.size w w6.drew := below_drewN hB6 1
      have RD := read_any (s.set a c) w6.drew (by rw [List.length_set]; omega) (Hm.out.later hB6d)
      rw [hr] at RD Z
      obtain ⟨rh, rw1, rd1, re⟩ := r
      have RD2 := Lib.hid RD
      have HK6 := Lib.hid hK6.drew
      have HF6 := Lib.hid (Blk.drew hF6)
      have HB6 := Lib.hid hB6d
      clear hr RD hK5 hF5 hB5 hK6 hF6 hB6 hB6d hY hk1 hT h6
      go_wp2_with fail
      refine RD2.out.mono ?_
      rintro e w7 ⟨v7, ev7, rfl, hv7, he7, hb7⟩
      obtain ⟨p7, c7, rfl⟩ := hv7.form
      have K8 := Lib.hid ((HK6.out.later hb7).alloc (.cells #[.int .i64 rh.op, .bool rh.now, .int .i64 rh.fl, .slice p7 rh.vs.length c7] 24))
      have k8 := K8.out.one
      have F8 := Lib.hid ((Blk.later HF6.out hb7).alloc (.cells #[.int .i64 rh.op, .bool rh.now, .int .i64 rh.fl, .slice p7 rh.vs.length c7] 24))
      have B8 := Lib.hid ((below_then HB6.out hb7).alloc (below_then HB6.out hb7).size (.cells #[.int .i64 rh.op, .bool rh.now, .int .i64 rh.fl, .slice p7 rh.vs.length c7] 24))
      have hu := u8_zero c
      clear hb7 hv7 hrun hcell hfro hset hcv1 RD2
      unfold headV
      simp only at he7 ⊢
      by_cases h48a : 4 ≤ a ∧ a < 8
      · obtain ⟨x1, x2, x3, hx⟩ := Z.out.1 (.inl (.inr (.inr (.inl h48a))))
        obtain rfl : re = 0 := by injection hx with _ hx; injection hx with _ hx; injection hx
        obtain ⟨h4a, h8a⟩ := h48a
        clear hx
        obtain rfl := he7.zero
        clear he7
        go_wp2_with fail
        go_ret
        exact ⟨rfl, B8.out⟩
      · have hno : a < 4 ∨ (4 ≤ a ∧ 8 ≤ a) := by omega
        by_cases hin : ∃ f ∈ k.fs, inF f a
        · obtain ⟨x1, x2, x3, hx⟩ := Z.out.1 (.inl (.inr (.inr (.inr hin))))
          obtain rfl : re = 0 := by injection hx with _ hx; injection hx with _ hx; injection hx
          clear hx h48a
          have CI := containsIn_any k.fs a b w.heap.size _ hl10 Fok.out F8.out K8.out.one
          rw [decide_eq_true hin] at CI
          have CI2 := Lib.hid CI
          clear CI hin
          obtain rfl := he7.zero
          clear he7
          rcases hno with hno | ⟨hn4, hn8⟩
          all_goals
            go_wp2_with fail
            refine CI2.out.mono ?_
            rintro e w9 ⟨rfl, hb9⟩
            have Hb9 := Lib.hid (below_then B8.out hb9)
            clear hb9
            go_wp2_with fail
            go_ret
            exact ⟨rfl, Hb9.out⟩
        · have hnf : ¬ freeK k a := by unfold freeK; rintro (h | h | h | h) <;> first | omega | exact hin h
          by_cases hc : c = 0
          · obtain ⟨x1, x2, x3, hx⟩ := Z.out.1 (.inr hc)
            obtain rfl : re = 0 := by injection hx with _ hx; injection hx with _ hx; injection hx
            rw [decide_eq_true hc] at hu
            clear hx h48a hnf hc
            have CI := containsIn_any k.fs a b w.heap.size _ hl10 Fok.out F8.out K8.out.one
            rw [decide_eq_false hin] at CI
            have CI2 := Lib.hid CI
            clear CI hin
            obtain rfl := he7.zero
            clear he7
            rcases hno with hno | ⟨hn4, hn8⟩
            all_goals
              go_wp2_with fail
              refine CI2.out.mono ?_
              rintro e w9 ⟨rfl, hb9⟩
              have Hb9 := Lib.hid (below_then B8.out hb9)
              clear hb9
              go_wp2_with fail
              go_ret
              exact ⟨rfl, Hb9.out⟩
          · have hx := Z.out.2 (fun h => h.elim hnf hc)
            obtain rfl : re = 3 := by injection hx with _ hx; injection hx with _ hx; injection hx
            rw [decide_eq_false hc] at hu
            clear hx h48a hnf hc
            have CI := containsIn_any k.fs a b w.heap.size _ hl10 Fok.out F8.out K8.out.one
            rw [decide_eq_false hin] at CI
            have CI2 := Lib.hid CI
            clear CI hin
            obtain ⟨t7, x7, rfl⟩ := he7.iface (by decide)
            clear he7
            rcases hno with hno | ⟨hn4, hn8⟩
            all_goals
              go_wp2_with fail
              refine CI2.out.mono ?_
              rintro e w9 ⟨rfl, hb9⟩
              have Hb9 := Lib.hid (below_then B8.out hb9)
              clear hb9
              go_wp2_with fail
              go_ret
              first | exact ⟨rfl, Hb9.out⟩ | exact ⟨ret_boolv (by rw [decide_eq_false (by omega)]; rfl), Hb9.out⟩
end Go.Proofs.YtffdlchoaaakdaaDoor
