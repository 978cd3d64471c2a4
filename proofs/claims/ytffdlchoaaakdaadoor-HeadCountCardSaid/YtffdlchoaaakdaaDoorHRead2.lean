/- head.Read where there is such an op. -/
import Derived.Test.YtffdlchoaaakdaaDoorHRead
import Derived.RegionTactic
import Derived.BigRegion
namespace Go.Proofs.YtffdlchoaaakdaaDoor
open Go.RowKit
def numsJ (fs : List Fd) (s : List UInt8) (j : Nat) : List Nat := (readVs fs s).take j ++ List.replicate (fs.length - j) 0
theorem readVs_len (fs : List Fd) (s : List UInt8) : (readVs fs s).length = fs.length := by simp [readVs]
theorem numsJ_0 (fs : List Fd) (s : List UInt8) : numsJ fs s 0 = List.replicate fs.length 0 := by simp [numsJ]
theorem numsJ_all (fs : List Fd) (s : List UInt8) : numsJ fs s fs.length = readVs fs s := by
  unfold numsJ; rw [Nat.sub_self, List.take_of_length_le (by rw [readVs_len]; exact Nat.le_refl _)]; simp
theorem numsJ_len (fs : List Fd) (s : List UInt8) (j : Nat) (hj : j ≤ fs.length) : (numsJ fs s j).length = fs.length := by
  unfold numsJ; rw [List.length_append, List.length_take, List.length_replicate, readVs_len]; omega
theorem numsJ_step (fs : List Fd) (s : List UInt8) (j : Nat) (hj : j < fs.length) : (numsJ fs s j).set j (val (cutB s fs[j].pos fs[j].sz)) = numsJ fs s (j + 1) := by
  unfold numsJ
  have hl : ((readVs fs s).take j).length = j := by rw [List.length_take, readVs_len]; omega
  rw [List.set_append_right _ _ (by omega), hl, Nat.sub_self, show fs.length - j = (fs.length - (j + 1)) + 1 by omega, List.replicate_succ, List.set_cons_zero, List.take_succ_eq_append_getElem (by rw [readVs_len]; exact hj), List.append_assoc]
  simp [readVs]
theorem readR_some (s : List UInt8) (k : Kd) (hl : s.length = 48) (b0 b1 : UInt8) (h0 : s[0]? = some b0) (h1 : s[1]? = some b1) (hlt : b0.toNat < 128) (hk : kindOf ((b0.toNat % 64 : Nat) : Int) = some k) (R : List UInt8 × Int × Int)
    (hR : writeR ⟨(b0.toNat : Int) % 64, decide (64 ≤ b0.toNat), (b1.toNat : Int), readVs k.fs s⟩ (val (List.take 1 (List.drop 4 s)) : Int) (val (List.take 3 (List.drop 5 s)) : Int) = R) :
    readR s = if R = (s, 0, -1) then (⟨(b0.toNat : Int) % 64, decide (64 ≤ b0.toNat), (b1.toNat : Int), readVs k.fs s⟩, val (List.take 1 (List.drop 4 s)), val (List.take 3 (List.drop 5 s)), 0) else (hd0, 0, 0, 3) := by
  have e0 := getD_some h0
  have e1 := getD_some h1
  have eH : readH k s = ⟨(b0.toNat : Int) % 64, decide (64 ≤ b0.toNat), (b1.toNat : Int), readVs k.fs s⟩ := by unfold readH; rw [e0, e1]; rfl
  have eW : readW s = val (List.take 1 (List.drop 4 s)) := rfl
  have eD : readD s = val (List.take 3 (List.drop 5 s)) := rfl
  unfold readR
  rw [if_neg (by omega), e0, if_neg (by omega), hk]
  simp only [eH, eW, eD, hR]
set_option maxRecDepth 100000 in
set_option maxHeartbeats 1000000 in
theorem read_some (s : List UInt8) (k : Kd) (w : World) (hm : MaxCell w) (hl : s.length = 48) (hl0 : 0 < s.length) (hl1 : 1 < s.length) (h : (s[0]'hl0).toNat < 128) (hk : kindOf (((s[0]'hl0).toNat % 64 : Nat) : Int) = some k) :
    Calls Tryd.prog 14 #[.string (S s)] w (RetRead w (readR s)) := by
  have hne : ((s.length : Int) != 48) = false := by rw [hl]; rfl
  have F := kindFacts hk
  have hl10 := F.len
  have hk1l := F.len0
  have Fok := Lib.hid F.fok
  have Hl := Lib.hid hl
  obtain ⟨b0, hb0⟩ : ∃ b, s[0]'hl0 = b := ⟨_, rfl⟩
  obtain ⟨b1, hb1⟩ : ∃ b, s[1]'hl1 = b := ⟨_, rfl⟩
  have C := fun w hm => Lib.hid (fields_some hk w hm)
  rw [hb0] at C h hk
  have RS := fun R hR => Lib.hid (readR_some s k hl b0 b1 (by rw [List.getElem?_eq_getElem hl0, hb0]) (by rw [List.getElem?_eq_getElem hl1, hb1]) h hk R hR)
  have hge : decide ((128 : Int) ≤ (b0.toNat : Int)) = false := by simp; omega
  have hop := andNot64 b0 h
  have hnw := and64 b0 h
  have Hh := Lib.hid h
  have Hm := Lib.hid hm
  have Hk := Lib.hid hk
  clear h hk hl hm F
  go_enter Tryd.func14, Tryd.ntmps14
  go_wp2_with fail
  have hb00 := (Below.refl w.heap.size w).alloc (Nat.le_refl _) (.cells #[.int .i64 0, .bool false, .int .i64 0, .slice none 0 0] 24)
  have C2 := Lib.hid (C _ (Hm.out.later hb00)).out
  clear C
  refine C2.out.mono ?_
  rintro e w1 ⟨b, rfl, hlb, hF, hb⟩
  have hkk := (Blk.new w #[.int .i64 0, .bool false, .int .i64 0, .slice none 0 0] 24).later hb
  obtain ⟨q0, q1, q2, q3⟩ := hkk.four
  have f0 := hkk.frozen 0
  have f1 := hkk.frozen 1
  have f2 := hkk.frozen 2
  have f3 := hkk.frozen 3
  have hz : w.heap.size < w1.heap.size := hkk.lt
  have Hkk := Lib.hid hkk
  have Hb := Lib.hid (below_then hb00 hb)
  have HF := Lib.hid hF
  have hmk := fun w => run_make_U w k.fs.length (by omega)
  have hbw1 : b < w1.heap.size := Blk.lt hF
  have hbw : b ≠ w.heap.size := by have := hlb; simp at this; omega
  have hb1l : (b1.toNat : Int) < 256 := by have := b1.toNat_lt; omega
  clear hb hkk hb00 hF C2
  go_wp2_with fail
  go_region
  have hk4 := four_stored (.int .i64 ((b0.toNat : Int) % 64)) (.bool (decide (64 ≤ b0.toNat))) (.int .i64 (b1.toNat : Int)) (.slice (some ⟨w1.heap.size, 0, none⟩) k.fs.length k.fs.length) Hkk.out (Nat.le_refl _) Hb.out
  have hs4 : ((((w1.setCell ⟨w.heap.size, 0, none⟩ (.int .i64 ((b0.toNat : Int) % 64))).setCell ⟨w.heap.size, 1, none⟩ (.bool (decide (64 ≤ b0.toNat)))).setCell ⟨w.heap.size, 2, none⟩ (.int .i64 (b1.toNat : Int))).setCell ⟨w.heap.size, 3, none⟩ (.slice (some ⟨w1.heap.size, 0, none⟩) k.fs.length k.fs.length)).heap.size = w1.heap.size := by simp
  have hF4 : Flds ((((w1.setCell ⟨w.heap.size, 0, none⟩ (.int .i64 ((b0.toNat : Int) % 64))).setCell ⟨w.heap.size, 1, none⟩ (.bool (decide (64 ≤ b0.toNat)))).setCell ⟨w.heap.size, 2, none⟩ (.int .i64 (b1.toNat : Int))).setCell ⟨w.heap.size, 3, none⟩ (.slice (some ⟨w1.heap.size, 0, none⟩) k.fs.length k.fs.length)) b k.fs := (((Blk.other HF.out hbw _).other hbw _).other hbw _).other hbw _
  generalize ((((w1.setCell ⟨w.heap.size, 0, none⟩ (.int .i64 ((b0.toNat : Int) % 64))).setCell ⟨w.heap.size, 1, none⟩ (.bool (decide (64 ≤ b0.toNat)))).setCell ⟨w.heap.size, 2, none⟩ (.int .i64 (b1.toNat : Int))).setCell ⟨w.heap.size, 3, none⟩ (.slice (some ⟨w1.heap.size, 0, none⟩) k.fs.length k.fs.length)) = w3 at hk4 hs4 hF4 ⊢
  have hN4 := Blk.new w3 (cellsU (List.replicate k.fs.length 0)) 52
  rw [hs4] at hN4
  have hK4 := hk4.1.alloc (.cells (cellsU (List.replicate k.fs.length 0)) 52)
  have hF5 : Flds (w3.alloc (.cells (cellsU (List.replicate k.fs.length 0)) 52)).drew b k.fs := Blk.alloc hF4 _
  have hB4 := hk4.2.alloc hk4.2.size (.cells (cellsU (List.replicate k.fs.length 0)) 52)
  have hBd := hB4.drew
  have hKd := hK4.drew
  have hNd := hN4.drew
  generalize (w3.alloc (.cells (cellsU (List.replicate k.fs.length 0)) 52)).drew = w4 at hKd hF5 hBd hNd ⊢
  have HK := Lib.hid hKd
  have HF4 := Lib.hid hF5
  have HB := Lib.hid hBd
  have HN := Lib.hid hNd
  have hN4lt : w1.heap.size < w4.heap.size := hNd.lt
  clear hk4 hs4 hF4 hN4 hK4 hF5 hB4 hBd hKd hNd q0 q1 q2 q3 f0 f1 f2 f3 Hkk HF hmk
  go_wp2_with fail
  go_loopw [49] (fun i wr => ∃ j : Nat, j ≤ k.fs.length ∧ i = .int .i64 j ∧ Nums wr w1.heap.size (numsJ k.fs s j) ∧ Below w1.heap.size w4 wr) (fun i _ => k.fs.length - (intOf i).toNat)
  case atStart => exact ⟨0, by omega, rfl, by rw [numsJ_0]; exact HN.out, Below.refl _ _⟩
  case round =>
    obtain ⟨j, hj, rfl, hkr, hbr⟩ := hrel
    have Hkr := Lib.hid hkr
    have Hbr := Lib.hid hbr
    by_cases hlt : j < k.fs.length
    · obtain ⟨q0, q1, q2⟩ := Flds.get (Blk.below HF4.out hbr hbw1) j hlt
      have hltF : b < wr.heap.size := by have := hbr.size; omega
      have hltB : w1.heap.size < wr.heap.size := Blk.lt hkr
      have hc3 := (Blk.below HK.out hbr hz).four.2.2.2
      have hzr : w.heap.size < wr.heap.size := Nat.lt_trans hz hltB
      have hstep := numsJ_step k.fs s j hlt
      obtain ⟨f, hf⟩ : ∃ f, k.fs[j] = f := ⟨_, rfl⟩
      obtain ⟨o1, o2, o3, o4, o5, o6⟩ := Fok.out f (by rw [← hf]; exact List.getElem_mem _)
      rw [hf] at q0 q1 q2 hstep
      have HS := Lib.hid hstep
      have hba := hbr.alloc (by have := hbr.size; omega) (.cells #[.string (S f.nm), .int .i64 (f.pos : Int), .int .i64 (f.sz : Int)] 49)
      have hka := Blk.alloc hkr (.cells #[.string (S f.nm), .int .i64 (f.pos : Int), .int .i64 (f.sz : Int)] 49)
      have e1 : IntKind.i64.wrap ((f.pos : Int) + (f.sz : Int)) = (f.pos : Int) + f.sz := IntWalk.i64_in _ (by omega)
      have e2 : ((f.pos : Int) + (f.sz : Int)).toNat = f.pos + f.sz := by omega
      have e3 : (0 : Int) ≤ (f.pos : Int) + (f.sz : Int) := by omega
      have e4 : (f.pos : Int) + (f.sz : Int) ≤ (s.length : Int) := by have := Hl.out; omega
      have e5 : (f.pos : Int) ≤ (f.pos : Int) + (f.sz : Int) := by omega
      have G : ∀ W, Calls Tryd.prog 33 #[.string (S (List.take f.sz (List.drop f.pos s)))] W fun e w'' => e = .returned (.int .u64 (val (cutB s f.pos f.sz) : Int)) ∧ w'' = W := fun W => (get1_any _ W (by have := List.length_take_le f.sz (List.drop f.pos s); omega)).mono fun _ _ ⟨h1, h2⟩ => ⟨h1, h2.symm⟩
      have c1 : (wr.alloc (.cells #[.string (S f.nm), .int .i64 (f.pos : Int), .int .i64 (f.sz : Int)] 49)).cell? ⟨w.heap.size, 3, none⟩ = some (.slice (some ⟨w1.heap.size, 0, none⟩) k.fs.length k.fs.length) := (World.cell?_alloc_lt _ _ ⟨w.heap.size, 3, none⟩ hzr).trans hc3
      obtain ⟨c3, c4, c5⟩ := (Blk.new wr #[.string (S f.nm), .int .i64 (f.pos : Int), .int .i64 (f.sz : Int)] 49).three
      have cj : (wr.alloc (.cells #[.string (S f.nm), .int .i64 (f.pos : Int), .int .i64 (f.sz : Int)] 49)).cell? ⟨w1.heap.size, j, none⟩ = _ := (Blk.cell hka j).trans (cellsU_get _ j (by rw [numsJ_len _ _ _ hj]; exact hlt))
      have fj := Blk.frozen hka j
      have hst := hka.set j (.int .u64 (val (cutB s f.pos f.sz) : Int))
      rw [cellsU_set, HS.out] at hst
      have hbs := hba.setCell (p := ⟨w1.heap.size, j, none⟩) (Nat.le_refl _) (.int .u64 (val (cutB s f.pos f.sz) : Int))
      have Hf := Lib.hid hf
      clear hbr hf o6 hkr hstep hba hka
      go_wp2_with fail
      clear q0 q1 q2 hc3
      generalize hW5 : wr.alloc (.cells #[.string (S f.nm), .int .i64 (f.pos : Int), .int .i64 (f.sz : Int)] 49) = W5 at c1 c3 c4 c5 cj fj hst hbs ⊢
      clear hW5
      have Hst := Lib.hid hst
      have Hbs := Lib.hid hbs
      clear hst hbs
      refine wp_region_still_tail 14 (by kernel_rfl) (by kernel_rfl) ?_
      simp only [List.take_succ_cons, List.take_zero, List.drop_succ_cons, List.drop_zero]
      change wpStill _ _ W5.drew _ _ _
      repeat still_step
      still_call (G _)
      repeat still_step
      refine wpStill_nil ?_
      change wpList _ _ _ _ _ W5.drew
      go_wp2_with fail
      go_roundw
      case rel => exact ⟨j + 1, by omega, by go_num, Hst.out, Hbs.out.drew⟩
      case measure => simp [intOf]; omega
    · have hjn : j = k.fs.length := by omega
      rw [hjn, numsJ_all] at hkr
      have hKr := Blk.below HK.out hbr hz
      obtain ⟨q0, q1, q2, q3⟩ := hKr.four
      have f0 := hKr.frozen 0
      have f1 := hKr.frozen 1
      have f2 := hKr.frozen 2
      have f3 := hKr.frozen 3
      have HKr := Lib.hid hKr
      have HNr := Lib.hid hkr
      clear hkr hbr hKr hjn Hkr
      have d1 : (4 : Int) ≤ (s.length : Int) := by have := Hl.out; omega
      have d2 : (5 : Int) ≤ (s.length : Int) := by have := Hl.out; omega
      have d3 : (8 : Int) ≤ (s.length : Int) := by have := Hl.out; omega
      have la : (List.take 1 (List.drop 4 s)).length ≤ 8 := by have := List.length_take_le 1 (List.drop 4 s); omega
      have lb : (List.take 3 (List.drop 5 s)).length ≤ 8 := by have := List.length_take_le 3 (List.drop 5 s); omega
      have va : val (List.take 1 (List.drop 4 s)) ≤ 255 := by have := val_lt 1 (cutB s 4 1) (cutB_len (by have := Hl.out; omega)); unfold cutB at this; omega
      have vb : val (List.take 3 (List.drop 5 s)) ≤ 16777215 := by have := val_lt 3 (cutB s 5 3) (cutB_len (by have := Hl.out; omega)); unfold cutB at this; omega
      have hx64 : ∀ x ∈ readVs k.fs s, x < 2 ^ 64 := fun x hx => by
        obtain ⟨f, hf, rfl⟩ := List.mem_map.1 hx
        have ho := Fok.out f hf
        have hvl := val_lt f.sz (cutB s f.pos f.sz) (cutB_len (by have := Hl.out; omega))
        exact Nat.lt_of_lt_of_le hvl (by
          have : (256 : Nat) ^ f.sz ≤ 256 ^ 8 := Nat.pow_le_pow_right (by decide) ho.2.2.2.1
          omega)
      have hvals : Vals wr (.slice (some ⟨w1.heap.size, 0, none⟩) k.fs.length k.fs.length) (readVs k.fs s) := by
        have := Nums.vals HNr.out hx64
        rwa [readVs_len] at this
      have hBr : Below w.heap.size w wr := HB.out.trans (Hbr.out.mono (Nat.le_of_lt hz))
      have hmr := Hm.out.later hBr
      have Wc := fun n => write_any ⟨(b0.toNat : Int) % 64, decide (64 ≤ b0.toNat), (b1.toNat : Int), readVs k.fs s⟩ (.slice (some ⟨w1.heap.size, 0, none⟩) k.fs.length k.fs.length) (val (List.take 1 (List.drop 4 s)) : Int) (val (List.take 3 (List.drop 5 s)) : Int) (wr.drewN n)
        ⟨by simp only; omega, by simp only; omega⟩ (show MaxCell (wr.drewN n) from hmr) (hvals.drewN n) (by simp only [readVs_len]; omega)
      obtain ⟨R, hR⟩ : ∃ R, writeR ⟨(b0.toNat : Int) % 64, decide (64 ≤ b0.toNat), (b1.toNat : Int), readVs k.fs s⟩ (val (List.take 1 (List.drop 4 s)) : Int) (val (List.take 3 (List.drop 5 s)) : Int) = R := ⟨_, rfl⟩
      rw [hR] at Wc
      unfold headV at Wc
      simp only at Wc
      have WC := fun n => Lib.hid (Wc n)
      have HR := Lib.hid hR
      have HBr := Lib.hid hBr
      have Hvals := Lib.hid hvals
      have vaI : (val (List.take 1 (List.drop 4 s)) : Int) ≤ 255 := by omega
      have vbI : (val (List.take 3 (List.drop 5 s)) : Int) ≤ 16777215 := by omega
      clear Wc hR hBr hmr hvals hx64 va vb Hbr
      go_wp2_with fail
      go_quiet ((go_at_call 33; first | exact quiet_left (get1_any _ _ la) | exact quiet_left (get1_any _ _ lb)))
      go_wp2_with fail
      refine (WC _).out.mono ?_
      clear WC
      rintro e w5 ⟨ev, rfl, he, hb5⟩
      have RSR := RS R HR.out
      clear RS
      have hK5 := Blk.later (HKr.out.drewN nq) hb5
      have hB5 : Below w.heap.size w w5 := below_then (below_drewN HBr.out nq) hb5
      have hV5 := Vals.later (Hvals.out.drewN nq) hb5
      clear q0 q1 q2 q3 f0 f1 f2 f3 hb5
      obtain ⟨q0, q1, q2, q3⟩ := hK5.four
      have f0 := hK5.frozen 0
      have f1 := hK5.frozen 1
      have f2 := hK5.frozen 2
      have f3 := hK5.frozen 3
      have K5 := Lib.hid hK5
      have B5 := Lib.hid hB5
      have V5 := Lib.hid hV5
      clear hK5 hB5 hV5 HR
      obtain ⟨r, n, p⟩ := R
      simp only at he
      have hfail : n ≠ 0 ∨ r ≠ s → readR s = (hd0, 0, 0, 3) := fun h => by
        rw [RSR.out, if_neg]
        intro e
        have e1 := congrArg (fun x => x.1) e
        have e2 := congrArg (fun x => x.2.1) e
        simp only at e1 e2
        rcases h with h | h
        · exact h e2
        · exact h e1
      have Hfail := Lib.hid hfail
      clear hfail
      cases he with
      | good =>
        by_cases hrs : r = s
        · have hne2 : (!r == s) = false := by simp [hrs]
          have hgood := Lib.hid (show readR s = _ from by rw [RSR.out, if_pos (by rw [hrs])])
          clear hrs
          go_wp2_with fail
          rw [hgood.out]
          obtain ⟨g1, g2⟩ := four_stored (.int .i64 ((b0.toNat : Int) % 64)) (.bool (decide (64 ≤ b0.toNat))) (.int .i64 (b1.toNat : Int)) (.slice (some ⟨w1.heap.size, 0, none⟩) k.fs.length k.fs.length) K5.out (Nat.le_refl _) B5.out
          refine bodyPost_ret (v := .tuple #[headV ⟨(b0.toNat : Int) % 64, decide (64 ≤ b0.toNat), (b1.toNat : Int), readVs k.fs s⟩ (.slice (some ⟨w1.heap.size, 0, none⟩) k.fs.length k.fs.length), .int .i64 (val (List.take 1 (List.drop 4 s)) : Int), .int .i64 (val (List.take 3 (List.drop 5 s)) : Int), .nilIface]) (by simp [results, Tryd.results14, go_sem, headV, q0, q1, q2, q3]) rfl ⟨_, _, rfl, ?_, .good, g2⟩
          exact vals_set4 V5.out _ hz
        · have hne2 : (!r == s) = true := by simp [hrs]
          have e := Hfail.out (.inr hrs)
          have E := Lib.hid e
          clear hrs e
          go_wp2_with fail
          rw [E.out]
          refine bodyPost_ret (v := .tuple #[headV hd0 (.slice none 0 0), .int .i64 0, .int .i64 0, .iface 25 (.int .i64 3)]) (by simp [results, Tryd.results14, go_sem, headV, hd0, q0, q1, q2, q3]) rfl ⟨_, _, rfl, vals_nil _, .bare 3 (by decide), ?_⟩
          exact (four_stored _ _ _ _ K5.out (Nat.le_refl _) B5.out).2
      | bare _ hn =>
        have E := Lib.hid (Hfail.out (.inl hn))
        go_wp2_with fail
        rw [E.out]
        refine bodyPost_ret (v := .tuple #[headV hd0 (.slice none 0 0), .int .i64 0, .int .i64 0, .iface 25 (.int .i64 3)]) (by simp [results, Tryd.results14, go_sem, headV, hd0, q0, q1, q2, q3]) rfl ⟨_, _, rfl, vals_nil _, .bare 3 (by decide), ?_⟩
        exact (four_stored _ _ _ _ K5.out (Nat.le_refl _) B5.out).2
      | placed bb _ _ hn h0 h1 =>
        have E := Lib.hid (Hfail.out (.inl hn))
        go_wp2_with fail
        rw [E.out]
        refine bodyPost_ret (v := .tuple #[headV hd0 (.slice none 0 0), .int .i64 0, .int .i64 0, .iface 25 (.int .i64 3)]) (by simp [results, Tryd.results14, go_sem, headV, hd0, q0, q1, q2, q3]) rfl ⟨_, _, rfl, vals_nil _, .bare 3 (by decide), ?_⟩
        exact (four_stored _ _ _ _ K5.out (Nat.le_refl _) B5.out).2
theorem read_any (s : List UInt8) (w : World) (hl : s.length ≤ 140737488351232) (hm : MaxCell w) : Calls Tryd.prog 14 #[.string (S s)] w (RetRead w (readR s)) := by
  by_cases h48 : s.length = 48
  · have hl0 : 0 < s.length := by omega
    have hl1 : 1 < s.length := by omega
    have e0 : s.getD 0 0 = s[0]'hl0 := by rw [List.getD_eq_getElem?_getD, List.getElem?_eq_getElem hl0]; rfl
    by_cases hh : 128 ≤ (s[0]'hl0).toNat
    · have e : readR s = (hd0, 0, 0, 3) := by unfold readR; rw [if_neg (by omega), e0, if_pos hh]
      rw [e]
      exact read_high s w h48 hl0 hh
    · cases hk : kindOf (((s[0]'hl0).toNat % 64 : Nat) : Int) with
      | none =>
        have e : readR s = (hd0, 0, 0, 1) := by unfold readR; rw [if_neg (by omega), e0, if_neg hh, hk]
        rw [e]
        exact read_none s w h48 hl0 (by omega) hk
      | some k => exact read_some s k w hm h48 hl0 hl1 (by omega) hk
  · have e : readR s = (hd0, 0, 0, 7) := by unfold readR; rw [if_pos h48]
    rw [e]
    exact read_few s w hl h48
end Go.Proofs.YtffdlchoaaakdaaDoor
