/- HeadValues: each field has what it was told, all others are 0. -/
import Derived.Test.YtffdlchoaaakdaaDoorHeadMath3
namespace Go.Proofs.YtffdlchoaaakdaaDoor
open Go.RowKit
theorem strV_one {W : World} {b : Nat} {s : List UInt8} {t : TypeId} (h : Blk W b #[.string (S s)] t) : StrV W (.slice (some ⟨b, 0, none⟩) 1 1) [s] :=
  ⟨_, _, rfl, fun _ => ⟨b, 0, rfl, fun j hj => by
    obtain rfl : j = 0 := by simp at hj; omega
    exact h.one⟩⟩
theorem vals_one {W : World} {b n : Nat} {t : TypeId} (h : Blk W b #[.int .u64 (n : Int)] t) (hn : n < 2 ^ 64) : Vals W (.slice (some ⟨b, 0, none⟩) 1 1) [n] :=
  ⟨_, _, rfl, fun x hx => by rw [List.mem_singleton.1 hx]; exact hn, fun _ => ⟨b, 0, rfl, fun j hj => by
    obtain rfl : j = 0 := by simp at hj; omega
    exact h.one⟩⟩
theorem three_new (W : World) (a b c : Value) (n : Value) (s : Value) (t t1 t2 : TypeId) :
    Blk (((W.alloc (.cells #[a, b, c] t)).alloc (.cells #[s] t1)).alloc (.cells #[n] t2)) W.heap.size #[a, b, c] t ∧
    Blk (((W.alloc (.cells #[a, b, c] t)).alloc (.cells #[s] t1)).alloc (.cells #[n] t2)) (W.heap.size + 1) #[s] t1 ∧
    Blk (((W.alloc (.cells #[a, b, c] t)).alloc (.cells #[s] t1)).alloc (.cells #[n] t2)) (W.heap.size + 1 + 1) #[n] t2 ∧
    Below W.heap.size W (((W.alloc (.cells #[a, b, c] t)).alloc (.cells #[s] t1)).alloc (.cells #[n] t2)) := by
  have h1 := Blk.new (W.alloc (.cells #[a, b, c] t)) #[s] t1
  have h2 := Blk.new ((W.alloc (.cells #[a, b, c] t)).alloc (.cells #[s] t1)) #[n] t2
  rw [World.size_alloc] at h1
  rw [World.size_alloc, World.size_alloc] at h2
  exact ⟨((Blk.new W #[a, b, c] t).alloc _).alloc _, h1.alloc _, h2, (((Below.refl W.heap.size W).alloc (Nat.le_refl _) _).alloc (by simp) _).alloc (by simp; omega) _⟩
set_option maxRecDepth 100000 in
set_option maxHeartbeats 1000000 in
theorem headValues_any (op fl n0 which : Int) (w : World) (_ha : (Lit.int .i64 op).wf = true) (hfw : (Lit.int .i64 fl).wf = true) (hnw : (Lit.int .u64 n0).wf = true) (_hw : (Lit.int .i64 which).wf = true) (hm : MaxCell w) :
    Calls Tryd.prog 8 #[.int .i64 op, .int .i64 fl, .int .u64 n0, .int .i64 which] w fun e w' => e = .returned (.bool true) ∧ Below w.heap.size w w' := by
  have hfl : I64 fl := by simp [Lit.wf, IntKind.min, IntKind.max, IntKind.signed, IntKind.bits] at hfw; unfold I64; omega
  obtain ⟨n, rfl, hn⟩ := wf_u64 hnw
  have H := Lib.hid (headed_any w hm)
  have Hm := Lib.hid hm
  cases hk : kindOf op with
  | none =>
    have F := fun w => Lib.hid (fields_none hk w)
    clear hk hm hfl hfw hnw
    go_enter Tryd.func8, Tryd.ntmps8
    go_wp2_with fail
    refine H.out.mono ?_
    rintro e w1 ⟨rfl, hb1⟩
    have Hb1 := Lib.hid hb1
    clear hb1 H
    go_wp2_with fail
    refine (F _).out.mono ?_
    rintro e w2 ⟨rfl, hb2⟩
    have Hb2 := Lib.hid (below_then Hb1.out hb2)
    clear hb2
    go_wp2_with fail
    go_ret
    exact ⟨rfl, Hb2.out⟩
  | some k =>
    have K := kindFacts hk
    have Fs := fun w hm => Lib.hid (fields_some hk w hm)
    have hl10 := K.len
    have hl1 := K.len0
    have k1 := K.fl
    have P := fun w => Lib.hid (pick_any which k.fs.length w (by omega) (by omega))
    have hi := pickI_lt which k.fs.length (by omega)
    obtain ⟨i, hii⟩ : ∃ i, pickI which k.fs.length = i := ⟨_, rfl⟩
    rw [hii] at P hi
    have MM : ∀ vn vv w, MaxCell w → StrV w vn [k.fs[i].nm] → Vals w vv [n] → Calls Tryd.prog 24 #[.int .i64 op, .int .i64 fl, vn, vv] w (RetHead w (makeR op fl [k.fs[i].nm] [n])) :=
      fun vn vv w hm hs hv => make_any op fl [k.fs[i].nm] [n] vn vv w hfl hm hs hv (by simp) (by simp)
    rw [make_one hk i hi n] at MM
    have hl0 : ((k.fs.length : Int) == 0) = false := beq_eq_false_iff_ne.2 (by omega)
    have Fok := Lib.hid K.fok
    have Fl := fun w => Lib.hid (flags_some hk w)
    obtain ⟨f, hf⟩ : ∃ f, k.fs[i] = f := ⟨_, rfl⟩
    rw [hf] at MM
    have Hf := Lib.hid hf
    clear hii hnw hfw hm
    by_cases hok : flOk fl k.fl = true
    · rw [if_pos hok] at MM
      have h0f := (flOk_bd k1 hok).1
      have hA := andNot_yes fl k.fl k1 hfl.1 hfl.2 hok
      by_cases hbig : n / 2 ^ (8 * f.sz) = 0
      · rw [if_pos hbig] at MM
        have MM2 := fun vn vv w hm hs hv => Lib.hid (MM vn vv w hm hs hv)
        have RR := right_one (op := op) (fl := fl) hk i hi n
        rw [if_pos hok, hf, if_pos hbig] at RR
        have VV := fun j hj => Lib.hid (value_one (op := op) (fl := fl) hk i n j hj)
        have Hfl := Lib.hid hfl
        have Ap := Lib.hid K.apart
        have RA := Lib.hid RR
        clear hk MM hok K hfl hA hbig RR
        go_enter Tryd.func8, Tryd.ntmps8
        go_wp2_with fail
        refine H.out.mono ?_
        rintro e w1 ⟨rfl, hb1⟩
        have Hb1 := Lib.hid hb1
        clear hb1 H
        go_wp2_with fail
        refine (Fs _ (Hm.out.later Hb1.out)).out.mono ?_
        rintro e w2 ⟨b, rfl, hlb, hF, hb2⟩
        have Hb2 := Lib.hid (below_then Hb1.out hb2)
        have hltF : b < w2.heap.size := Blk.lt hF
        have HF := Lib.hid hF
        clear hb2 hF
        go_wp2_with fail
        refine (P _).out.mono ?_
        rintro e w2' ⟨rfl, rfl⟩
        obtain ⟨q0, q1, q2⟩ := Flds.get HF.out i hi
        rw [hf] at q0 q1 q2
        go_wp2_with fail
        obtain ⟨B0, B1, B2, B3⟩ := three_new w2 (.string (S f.nm)) (.int .i64 (f.pos : Int)) (.int .i64 (f.sz : Int)) (.int .u64 (n : Int)) (.string (S f.nm)) 49 9 52
        generalize ((w2.alloc (.cells #[.string (S f.nm), .int .i64 (f.pos : Int), .int .i64 (f.sz : Int)] 49)).alloc (.cells #[.string (S f.nm)] 9)).alloc (.cells #[.int .u64 (n : Int)] 52) = w3 at B0 B1 B2 B3 ⊢
        have Hb3 := Lib.hid (below_then Hb2.out B3)
        refine (MM2 _ _ w3 (Hm.out.later Hb3.out) (strV_one B1) (vals_one B2 hn)).out.mono ?_
        rintro e w4 ⟨v4, ev4, rfl, hv4, he4, hb4⟩
        obtain ⟨p4, c4, rfl⟩ := hv4.form
        have HF4 := Lib.hid (Blk.later HF.out (below_then B3 hb4 : Below w2.heap.size w2 w4))
        obtain rfl := he4.zero
        have Hb4 := Lib.hid ((below_then Hb3.out hb4).alloc (below_then Hb3.out hb4).size (.cells #[.int .i64 op, .bool false, .int .i64 fl, .slice p4 (oneVs k.fs.length i n).length c4] 24))
        have HB0 := Lib.hid ((B0.later hb4).alloc (.cells #[.int .i64 op, .bool false, .int .i64 fl, .slice p4 (oneVs k.fs.length i n).length c4] 24))
        have HH := Lib.hid (Blk.new w4 #[.int .i64 op, .bool false, .int .i64 fl, .slice p4 (oneVs k.fs.length i n).length c4] 24)
        have HV := Lib.hid (hv4.later ((Below.refl w4.heap.size w4).alloc (Nat.le_refl _) (.cells #[.int .i64 op, .bool false, .int .i64 fl, .slice p4 (oneVs k.fs.length i n).length c4] 24)))
        have HF5 := Lib.hid (Blk.alloc HF4.out (.cells #[.int .i64 op, .bool false, .int .i64 fl, .slice p4 (oneVs k.fs.length i n).length c4] 24))
        have hz4 : w2.heap.size < w4.heap.size := Nat.lt_of_lt_of_le (Blk.lt B0) hb4.size
        clear q0 q1 q2 B0 B1 B2 B3 hb4 hv4 he4
        unfold headV
        simp only
        go_wp2_with fail
        generalize w4.alloc (.cells #[.int .i64 op, .bool false, .int .i64 fl, .slice p4 (oneVs k.fs.length i n).length c4] 24) = w5 at HB0 HH HV HF5 Hb4 ⊢
        have hz5 : w4.heap.size < w5.heap.size := Blk.lt HH.out
        go_loopw [84] (fun i' wr => ∃ j : Nat, j ≤ k.fs.length ∧ i' = .int .i64 j ∧ Below w5.heap.size w5 wr) (fun i' _ => k.fs.length - (intOf i').toNat)
        case atStart => exact ⟨0, by omega, rfl, Below.refl _ _⟩
        case round =>
          obtain ⟨j, hj, rfl, hbw⟩ := hrel
          have Hbw := Lib.hid hbw
          have Hbr := Lib.hid (below_then Hb4.out hbw)
          by_cases hlt : j < k.fs.length
          · obtain ⟨g0, g1, g2⟩ := Flds.get (Blk.later HF5.out hbw) j hlt
            have V0 := VV j hlt
            have hne : i ≠ j → f.nm ≠ k.fs[j].nm := fun h => by rw [← Hf.out]; exact names_ne Ap.out hi hlt h
            have hsm : i = j → k.fs[j] = f := fun h => by subst h; exact Hf.out
            obtain ⟨g, hg⟩ : ∃ g, k.fs[j] = g := ⟨_, rfl⟩
            rw [hg] at g0 g1 g2 V0 hne hsm
            have hbx := (Below.refl wr.heap.size wr).alloc (Nat.le_refl _) (.cells #[.string (S g.nm), .int .i64 (g.pos : Int), .int .i64 (g.sz : Int)] 49)
            have V := value_any ⟨op, false, fl, oneVs k.fs.length i n⟩ (.slice p4 (oneVs k.fs.length i n).length c4) g.nm (wr.alloc (.cells #[.string (S g.nm), .int .i64 (g.pos : Int), .int .i64 (g.sz : Int)] 49))
              (Hm.out.later (below_then Hbr.out hbx)) (HV.out.later (below_then hbw hbx)) (by simp only [oneVs_len]; omega)
            rw [V0.out] at V
            have NB := Lib.hid (Blk.new wr #[.string (S g.nm), .int .i64 (g.pos : Int), .int .i64 (g.sz : Int)] 49)
            have HB6 := Lib.hid ((HB0.out.later hbw).alloc (.cells #[.string (S g.nm), .int .i64 (g.pos : Int), .int .i64 (g.sz : Int)] 49))
            have HH6 := ((HH.out.later hbw).alloc (.cells #[.string (S g.nm), .int .i64 (g.pos : Int), .int .i64 (g.sz : Int)] 49))
            have Hbx := Lib.hid (below_then hbw hbx)
            obtain ⟨h0, h1, h2, h3⟩ := HH6.four
            by_cases hij : i = j
            · obtain rfl := hsm hij
              rw [if_pos hij] at V
              have V2 := Lib.hid (V.mono (R' := fun e w' => e = .returned (.tuple #[.int .u64 (n : Int), .nilIface]) ∧ Below (wr.alloc (.cells #[.string (S g.nm), .int .i64 (g.pos : Int), .int .i64 (g.sz : Int)] 49)).heap.size (wr.alloc (.cells #[.string (S g.nm), .int .i64 (g.pos : Int), .int .i64 (g.sz : Int)] 49)) w') (by rintro e w' ⟨ev, rfl, he, hb⟩; obtain rfl := he.zero; exact ⟨rfl, hb⟩))
              have E1 := fun w => fd_same w g.nm g.pos g.sz
              have E2 := fun w => fd_same' w g.nm g.pos g.sz
              clear V V0 hne hsm hbx HH6 hij hbw Hf hg hf
              go_wp2_with fail
              refine V2.out.mono ?_
              rintro e w6 ⟨rfl, hb6⟩
              obtain ⟨x0, x1, x2⟩ := (NB.out.later hb6).three
              obtain ⟨y0, y1, y2⟩ := (HB6.out.later hb6).three
              have Hb6 := Lib.hid (below_then Hbx.out hb6)
              clear hb6
              go_wp2_with fail
              go_roundw
              case rel => exact ⟨j + 1, by omega, by go_num, Hb6.out⟩
              case measure => simp [intOf]; omega
            · have hnn := hne hij
              have hnn' := Ne.symm hnn
              rw [if_neg hij] at V
              have V2 := Lib.hid (V.mono (R' := fun e w' => e = .returned (.tuple #[.int .u64 0, .nilIface]) ∧ Below (wr.alloc (.cells #[.string (S g.nm), .int .i64 (g.pos : Int), .int .i64 (g.sz : Int)] 49)).heap.size (wr.alloc (.cells #[.string (S g.nm), .int .i64 (g.pos : Int), .int .i64 (g.sz : Int)] 49)) w') (by rintro e w' ⟨ev, rfl, he, hb⟩; obtain rfl := he.zero; exact ⟨rfl, hb⟩))
              have E1 := fun w => fd_other w g.pos f.pos g.sz f.sz hnn'
              have E2 := fun w => fd_other' w g.pos f.pos g.sz f.sz hnn'
              clear V V0 hne hsm hbx HH6 hij hbw hnn hnn' Hf hg hf
              go_wp2_with fail
              refine V2.out.mono ?_
              rintro e w6 ⟨rfl, hb6⟩
              obtain ⟨x0, x1, x2⟩ := (NB.out.later hb6).three
              obtain ⟨y0, y1, y2⟩ := (HB6.out.later hb6).three
              have Hb6 := Lib.hid (below_then Hbx.out hb6)
              clear hb6
              go_wp2_with fail
              go_roundw
              case rel => exact ⟨j + 1, by omega, by go_num, Hb6.out⟩
              case measure => simp [intOf]; omega
          · obtain ⟨h0, h1, h2, h3⟩ := (HH.out.later hbw).four
            have R := right_any ⟨op, false, fl, oneVs k.fs.length i n⟩ (.slice p4 (oneVs k.fs.length i n).length c4) wr Hfl.out (Hm.out.later Hbr.out) (HV.out.later hbw) (by simp only [oneVs_len]; omega)
            rw [RA.out] at R
            have R2 := Lib.hid R
            clear R hbw Hf hf
            go_wp2_with fail
            refine R2.out.mono ?_
            rintro e w6 ⟨ev, rfl, he, hb6⟩
            obtain rfl := he.zero
            have Hb6 := Lib.hid (below_then Hbr.out hb6)
            clear hb6
            go_wp2_with fail
            go_ret
            exact ⟨rfl, Hb6.out⟩
      · rw [if_neg hbig] at MM
        have MM2 := fun vn vv w hm hs hv => Lib.hid (MM vn vv w hm hs hv)
        have hsz := size_lt (n := n) hi K.fok hn (by rw [hf]; exact hbig)
        rw [hf] at hsz
        have e8 : IntKind.i64.wrap (8 * (f.sz : Int)) = 8 * f.sz := IntWalk.i64_in _ (by omega)
        have e80 : (0 : Int) ≤ 8 * (f.sz : Int) := by omega
        have e8n : (8 * (f.sz : Int)).toNat = 8 * f.sz := by omega
        have hq : ((n : Int) / 2 ^ (8 * f.sz) != 0) = true := by
          have : (n : Int) / 2 ^ (8 * f.sz) ≠ 0 := by exact_mod_cast hbig
          simpa using this
        clear hk MM hok K hfl
        go_enter Tryd.func8, Tryd.ntmps8
        go_wp2_with fail
        refine H.out.mono ?_
        rintro e w1 ⟨rfl, hb1⟩
        have Hb1 := Lib.hid hb1
        clear hb1 H
        go_wp2_with fail
        refine (Fs _ (Hm.out.later Hb1.out)).out.mono ?_
        rintro e w2 ⟨b, rfl, hlb, hF, hb2⟩
        have Hb2 := Lib.hid (below_then Hb1.out hb2)
        have hltF : b < w2.heap.size := Blk.lt hF
        have HF := Lib.hid hF
        clear hb2 hF
        go_wp2_with fail
        refine (P _).out.mono ?_
        rintro e w2' ⟨rfl, rfl⟩
        obtain ⟨q0, q1, q2⟩ := Flds.get HF.out i hi
        rw [hf] at q0 q1 q2
        go_wp2_with fail
        obtain ⟨B0, B1, B2, B3⟩ := three_new w2 (.string (S f.nm)) (.int .i64 (f.pos : Int)) (.int .i64 (f.sz : Int)) (.int .u64 (n : Int)) (.string (S f.nm)) 49 9 52
        generalize ((w2.alloc (.cells #[.string (S f.nm), .int .i64 (f.pos : Int), .int .i64 (f.sz : Int)] 49)).alloc (.cells #[.string (S f.nm)] 9)).alloc (.cells #[.int .u64 (n : Int)] 52) = w3 at B0 B1 B2 B3 ⊢
        have Hb3 := Lib.hid (below_then Hb2.out B3)
        refine (MM2 _ _ w3 (Hm.out.later Hb3.out) (strV_one B1) (vals_one B2 hn)).out.mono ?_
        rintro e w4 ⟨v4, ev4, rfl, hv4, he4, hb4⟩
        obtain ⟨p4, c4, rfl⟩ := hv4.form
        have HF4 := Lib.hid (Blk.later HF.out (below_then B3 hb4 : Below w2.heap.size w2 w4))
        obtain ⟨t4, x4, rfl⟩ := he4.iface (by show (2 : Int) ≠ 0; decide)
        have Hb4 := Lib.hid ((below_then Hb3.out hb4).alloc (below_then Hb3.out hb4).size (.cells #[.int .i64 0, .bool false, .int .i64 0, .slice p4 0 c4] 24))
        have HB0 := Lib.hid ((B0.later hb4).alloc (.cells #[.int .i64 0, .bool false, .int .i64 0, .slice p4 0 c4] 24))
        clear q0 q1 q2 B0 B1 B2 B3 hb4 hv4 he4
        unfold headV hd0
        simp only
        go_wp2_with fail
        refine (Fl _).out.mono ?_
        rintro e w5 ⟨rfl, hb5⟩
        obtain ⟨q0, q1, q2⟩ := (HB0.out.later hb5).three
        have Hb5 := Lib.hid (below_then Hb4.out hb5)
        clear hb5
        go_wp2_with fail
        go_ret
        exact ⟨rfl, Hb5.out⟩
    · rw [if_neg hok] at MM
      have MM2 := fun vn vv w hm hs hv => Lib.hid (MM vn vv w hm hs hv)
      have hok' : flOk fl k.fl = false := by simpa using hok
      have hA : fl < 0 ∨ (0 ≤ fl ∧ (bits .andNot .i64 fl (k.fl : Int) != 0) = true) := by
        by_cases h : fl < 0
        · exact .inl h
        · exact .inr ⟨by omega, andNot_no fl k.fl k1 hfl.1 hfl.2 hok'⟩
      clear hk MM hok hok' K hfl
      go_enter Tryd.func8, Tryd.ntmps8
      go_wp2_with fail
      refine H.out.mono ?_
      rintro e w1 ⟨rfl, hb1⟩
      have Hb1 := Lib.hid hb1
      clear hb1 H
      go_wp2_with fail
      refine (Fs _ (Hm.out.later Hb1.out)).out.mono ?_
      rintro e w2 ⟨b, rfl, hlb, hF, hb2⟩
      have Hb2 := Lib.hid (below_then Hb1.out hb2)
      have hltF : b < w2.heap.size := Blk.lt hF
      have HF := Lib.hid hF
      clear hb2 hF
      go_wp2_with fail
      refine (P _).out.mono ?_
      rintro e w2' ⟨rfl, rfl⟩
      obtain ⟨q0, q1, q2⟩ := Flds.get HF.out i hi
      rw [hf] at q0 q1 q2
      go_wp2_with fail
      obtain ⟨B0, B1, B2, B3⟩ := three_new w2 (.string (S f.nm)) (.int .i64 (f.pos : Int)) (.int .i64 (f.sz : Int)) (.int .u64 (n : Int)) (.string (S f.nm)) 49 9 52
      generalize ((w2.alloc (.cells #[.string (S f.nm), .int .i64 (f.pos : Int), .int .i64 (f.sz : Int)] 49)).alloc (.cells #[.string (S f.nm)] 9)).alloc (.cells #[.int .u64 (n : Int)] 52) = w3 at B0 B1 B2 B3 ⊢
      have Hb3 := Lib.hid (below_then Hb2.out B3)
      refine (MM2 _ _ w3 (Hm.out.later Hb3.out) (strV_one B1) (vals_one B2 hn)).out.mono ?_
      rintro e w4 ⟨v4, ev4, rfl, hv4, he4, hb4⟩
      obtain ⟨p4, c4, rfl⟩ := hv4.form
      have HF4 := Lib.hid (Blk.later HF.out (below_then B3 hb4 : Below w2.heap.size w2 w4))
      obtain ⟨t4, x4, rfl⟩ := he4.iface (by decide)
      have Hb4 := Lib.hid ((below_then Hb3.out hb4).alloc (below_then Hb3.out hb4).size (.cells #[.int .i64 0, .bool false, .int .i64 0, .slice p4 0 c4] 24))
      clear q0 q1 q2 B0 B1 B2 B3 hb4 hv4 he4
      unfold headV hd0
      simp only
      go_wp2_with fail
      refine (Fl _).out.mono ?_
      rintro e w5 ⟨rfl, hb5⟩
      have Hb5 := Lib.hid (below_then Hb4.out hb5)
      clear hb5
      rcases hA with hA | ⟨hA0, hA⟩
      all_goals
        go_wp2_with fail
        go_ret
        exact ⟨rfl, Hb5.out⟩
end Go.Proofs.YtffdlchoaaakdaaDoor
