/- ref.HeadWrite: a head that can be written, not at once. Made by gen_rwrite.py. -/
import Derived.Test.YtffdlchoaaakdaaGreatDoorRefWrite2
namespace Go.Proofs.YtffdlchoaaakdaaGreatDoor
open Go Go.RowKit
set_option maxRecDepth 100000 in
set_option maxHeartbeats 4000000 in
theorem refWrite_later (op fl : Int) (vs : List Nat) (v : Value) (words data : Nat) (k : Kd) (w : World) (hk : kindOf op = some k) (hfl : I64 fl) (hv : Vals w v vs) (hll : vs.length ≤ 9223372036854775807) (hr : rightR ⟨op, false, fl, vs⟩ = (0, -1))
    (hw : words ≤ 255) (hd : data ≤ 16777215) :
    Calls Tryz.prog 20 #[.agg #[.int .i64 op, .bool false, .int .i64 fl, v], .int .i64 words, .int .i64 data] w (RetSF w (headB ⟨op, false, fl, vs⟩ words data, 0, -1)) := by
  have C : ∀ W, Vals W v vs → Calls Tryz.prog 16 #[.agg #[.int .i64 op, .bool false, .int .i64 fl, v]] W (RetF W (rightR ⟨op, false, fl, vs⟩)) := fun W hv => refRight_any ⟨op, false, fl, vs⟩ v W hfl hv hll
  obtain ⟨k', hk', hnow, hok, hlen, hbad⟩ := rightR_good hr
  obtain rfl : k' = k := Option.some.inj (hk'.symm.trans hk)
  rw [hr] at C
  have hHB := headB_eq (h := ⟨op, false, fl, vs⟩) hk words data
  clear hr hk'
  simp only at *
  obtain ⟨p, c, rfl, hx64, hcell⟩ := id hv
  have F := kindFacts hk
  have hop := kindOf_range hk
  have hflb := flOk_bd F.fl hok
  obtain ⟨bv, ov, rfl, hcv⟩ := hcell (by have := F.len0; omega)
  have hbv : bv < w.heap.size := block_lt_of_cell (w := w) (a := ⟨bv, ov + 0, none⟩) (hcv 0 (by have := F.len0; omega))
  have hb0 := ((Below.refl w.heap.size w).alloc (Nat.le_refl _) (.cells #[.int .i64 op, .bool false, .int .i64 fl, .slice (some ⟨bv, ov, none⟩) vs.length c] 24)).alloc (by simp) (.cells #[.int .i64 0, .int .i64 0] 49)
  have hC0 := cell2_new (w.alloc (.cells #[.int .i64 op, .bool false, .int .i64 fl, .slice (some ⟨bv, ov, none⟩) vs.length c] 24))
  rw [World.size_alloc] at hC0
  have hH0 := (Blk.new w #[.int .i64 op, .bool false, .int .i64 fl, .slice (some ⟨bv, ov, none⟩) vs.length c] 24).alloc (.cells #[.int .i64 0, .int .i64 0] 49)
  have C0 := Lib.hid (C _ (hv.later hb0))
  have Hb0 := Lib.hid hb0
  have HC0 := Lib.hid hC0
  have HH0 := Lib.hid hH0
  have W1 := Lib.hid (fun W => within_true words 0 255 W (by omega) (by omega))
  have W2 := Lib.hid (fun W => within_true data 0 16777215 W (by omega) (by omega))
  have HN := Lib.hid (number_fits data 3 (by decide) (by omega) (Nat.div_eq_of_lt (by omega)))
  have K := fun w => refKind_any op w
  rw [hk] at K
  have HK := Lib.hid K
  have HHB := Lib.hid hHB
  have Hcv := Lib.hid hcv
  have Hlen := Lib.hid hlen
  have HF := Lib.hid F
  have Fok := Lib.hid F.fok
  have hl10 := F.len
  have hvl : vs.length ≤ 10 := by omega
  have Hx := Lib.hid hx64
  have HBad := Lib.hid hbad
  have hdw : IntKind.u64.wrap (data : Int) = data := wrap_u64_lt data (by omega)
  have h64 : op + 64 ≤ 200 := by omega
  have e0 := Lib.hid (show IntKind.u8.wrap (op) = ((UInt8.ofNat (op.toNat + 0)).toNat : Int) by rw [UInt8.toNat_ofNat', wrap_u8_in (by omega) (by omega)]; omega)
  have e1 := Lib.hid (show IntKind.u8.wrap fl = ((UInt8.ofNat fl.toNat).toNat : Int) by rw [UInt8.toNat_ofNat', wrap_u8_in (by omega) (by omega)]; omega)
  have e4 := Lib.hid (show IntKind.u8.wrap (words : Int) = ((UInt8.ofNat words).toNat : Int) by rw [UInt8.toNat_ofNat', wrap_u8_in (by omega) (by omega)]; omega)
  have Hbase := Lib.hid (show [UInt8.ofNat (op.toNat + 0), UInt8.ofNat fl.toNat, 0, 0, UInt8.ofNat words] ++ be data 3 ++ List.replicate 40 0 = baseB ⟨op, false, fl, vs⟩ words data by
    unfold baseB
    simp [be, Nat.mod_eq_of_lt (show words < 256 by omega)])
  clear hb0 C hC0 hH0 hv K hHB hk hok hnow hcv hlen hx64 hcell hbad F
  go_enter Tryz.func20, Tryz.ntmps20
  go_wp2_with fail
  refine C0.out.mono ?_
  rintro e w1 ⟨rfl, hb⟩
  have Hb1 := Lib.hid (below_then Hb0.out hb)
  have HC1 := Lib.hid (HC0.out.later hb)
  have HH1 := Lib.hid (HH0.out.later hb)
  unfold faultV
  simp only
  clear hb
  go_wp2_with fail
  have hbn := (Below.refl w1.heap.size w1).alloc (Nat.le_refl _) (.cells #[.int .i64 0, .int .i64 (-1)] 49)
  have HC2 := Lib.hid (HC1.out.later hbn)
  have HH2 := Lib.hid (HH1.out.later hbn)
  have Hb2 := Lib.hid (below_then Hb1.out hbn)
  clear hbn
  refine (isF_good _ _).mono ?_
  rintro e w2 ⟨rfl, hb⟩
  have HC3 := Lib.hid (HC2.out.later hb)
  have HH3 := Lib.hid (HH2.out.later hb)
  have Hb3 := Lib.hid (below_then Hb2.out hb)
  clear hb
  obtain ⟨q0, q1, q2, q3⟩ := HH3.out.four
  go_wp2_with fail
  refine (W1.out _).mono ?_
  rintro e w3 ⟨rfl, rfl⟩
  go_wp2_with fail
  refine (W2.out _).mono ?_
  rintro e w3 ⟨rfl, rfl⟩
  go_wp2_with fail
  refine (HN.out _).mono ?_
  rintro e w4 ⟨rfl, hb⟩
  have HC4 := Lib.hid (HC3.out.later hb)
  have HH4 := Lib.hid (HH3.out.later hb)
  have Hb4 := Lib.hid (below_then Hb3.out hb)
  clear hb q0 q1 q2 q3
  go_wp2_with fail
  refine wp_region_flowC (by kernel_rfl) (by kernel_rfl) (wrPv (op) fl words w.heap.size (UInt8.ofNat (op.toNat + 0)) (UInt8.ofNat fl.toNat) (UInt8.ofNat words) (be data 3)) (wrPv_later _ _ _ _ _ _ _ _) ⟨?_, ?_, ?_, ?_, ?_, ?_, ?_, ?_, ?_, ?_, ?_, ?_, ?_, ?_, trivial⟩ ?_
  · intro a W hb hf hv
    exact opw_move rfl ⟨_, rfl, hf 9 rfl, Below.refl _ _⟩
  · intro a W hb hf hv
    have x : a.eval (.tmp 48) = .int .i64 (op) := hv 0 48 rfl
    exact opw_conv8 rfl x ⟨_, rfl, congrArg (Value.int .u8) e0.out, Below.refl _ _⟩
  · intro a W hb hf hv
    have x : a.eval (.tmp 3) = .pointer (some ⟨w.heap.size, 0, none⟩) := hf 3 rfl
    exact opw_fieldAddr2 rfl x ⟨_, rfl, rfl, Below.refl _ _⟩
  · intro a W hb hf hv
    have x : a.eval (.tmp 50) = .pointer (some ⟨w.heap.size, 2, none⟩) := hv 2 50 rfl
    exact opw_loadI rfl x (HH4.out.later hb).four.2.2.1 ⟨_, rfl, rfl, Below.refl _ _⟩
  · intro a W hb hf hv
    have x : a.eval (.tmp 51) = .int .i64 fl := hv 3 51 rfl
    exact opw_conv8 rfl x ⟨_, rfl, congrArg (Value.int .u8) e1.out, Below.refl _ _⟩
  · intro a W hb hf hv
    exact opw_move rfl ⟨_, rfl, hf 1 rfl, Below.refl _ _⟩
  · intro a W hb hf hv
    have x : a.eval (.tmp 53) = .int .i64 (words : Int) := hv 5 53 rfl
    exact opw_conv8 rfl x ⟨_, rfl, congrArg (Value.int .u8) e4.out, Below.refl _ _⟩
  · intro a W hb hf hv
    have x0 : a.eval (.tmp 49) = .int .u8 ((UInt8.ofNat (op.toNat + 0)).toNat : Int) := hv 1 49 rfl
    have x1 : a.eval (.tmp 52) = .int .u8 ((UInt8.ofNat fl.toNat).toNat : Int) := hv 4 52 rfl
    have x4 : a.eval (.tmp 54) = .int .u8 ((UInt8.ofNat words).toNat : Int) := hv 6 54 rfl
    exact opw_row5 rfl x0 x1 x4 ⟨_, rfl, ⟨_, rfl, Blk.new W _ _⟩, (Below.refl _ _).alloc (Nat.le_refl _) _⟩
  · intro a W hb hf hv
    obtain ⟨b, x, hB⟩ := hv 7 55 rfl
    exact opw_str5 (l := [UInt8.ofNat (op.toNat + 0), UInt8.ofNat fl.toNat, 0, 0, UInt8.ofNat words]) rfl x hB ⟨_, rfl, rfl, Below.refl _ _⟩
  · intro a W hb hf hv
    exact opw_move rfl ⟨_, rfl, hf 10 rfl, Below.refl _ _⟩
  · intro a W hb hf hv
    have x : a.eval (.tmp 56) = .string (S _) := hv 8 56 rfl
    have y : a.eval (.tmp 57) = .string (S _) := hv 9 57 rfl
    exact opw_addS rfl x y (by simp [be_len]) ⟨_, rfl, rfl, Below.refl _ _⟩
  · intro a W hb hf hv
    refine opw_call (f := 33) Tryz.func33 (by kernel_rfl) (by kernel_rfl) rfl rfl ?_
    simp only [List.map_toArray, List.map_cons, List.map_nil]
    exact (rep40_any W).mono fun (e : Ending) w' ⟨he, hb⟩ => ⟨_, he, _, rfl, rfl, hb⟩
  · intro a W hb hf hv
    have x : a.eval (.tmp 58) = .string (S _) := hv 10 58 rfl
    have y : a.eval (.tmp 59) = .string (S _) := hv 11 59 rfl
    exact opw_addS rfl x y (by simp [be_len]) ⟨_, rfl, rfl, Below.refl _ _⟩
  · intro a W hb hf hv
    exact opw_assign rfl ⟨_, rfl, hv 12 60 rfl, Below.refl _ _⟩
  intro l w5 hb hl hv
  obtain ⟨y0, y1, y2, y3, y4, y5, y6, y7, y8, y9, y10, y11, y12, y13, rfl⟩ := list14 hl
  obtain rfl : y0 = .int .i64 (op) := hv 0 _ rfl
  obtain rfl : y1 = .int .u8 ((UInt8.ofNat (op.toNat + 0)).toNat : Int) := hv 1 _ rfl
  obtain rfl : y2 = .pointer (some ⟨w.heap.size, 2, none⟩) := hv 2 _ rfl
  obtain rfl : y3 = .int .i64 fl := hv 3 _ rfl
  obtain rfl : y4 = .int .u8 ((UInt8.ofNat fl.toNat).toNat : Int) := hv 4 _ rfl
  obtain rfl : y5 = .int .i64 (words : Int) := hv 5 _ rfl
  obtain rfl : y6 = .int .u8 ((UInt8.ofNat words).toNat : Int) := hv 6 _ rfl
  obtain ⟨b7, rfl, _⟩ : ∃ b, y7 = .slice (some ⟨b, 0, none⟩) 5 5 ∧ _ := hv 7 _ rfl
  obtain rfl : y8 = .string (S [UInt8.ofNat (op.toNat + 0), UInt8.ofNat fl.toNat, 0, 0, UInt8.ofNat words]) := hv 8 _ rfl
  obtain rfl : y9 = .string (S (be data 3)) := hv 9 _ rfl
  obtain rfl : y10 = .string (S ([UInt8.ofNat (op.toNat + 0), UInt8.ofNat fl.toNat, 0, 0, UInt8.ofNat words] ++ be data 3)) := hv 10 _ rfl
  obtain rfl : y11 = .string (S (List.replicate 40 0)) := hv 11 _ rfl
  have g12 : y12 = .string (S ([UInt8.ofNat (op.toNat + 0), UInt8.ofNat fl.toNat, 0, 0, UInt8.ofNat words] ++ be data 3 ++ List.replicate 40 0)) := hv 12 _ rfl
  have g13 : y13 = .string (S ([UInt8.ofNat (op.toNat + 0), UInt8.ofNat fl.toNat, 0, 0, UInt8.ofNat words] ++ be data 3 ++ List.replicate 40 0)) := hv 13 _ rfl
  have hBl := baseB_len ⟨op, false, fl, vs⟩ words data
  rw [Hbase.out] at g12 g13
  obtain ⟨B, hB⟩ : ∃ B, baseB ⟨op, false, fl, vs⟩ words data = B := ⟨_, rfl⟩
  rw [hB] at g12 g13 hBl
  subst g12 g13
  have HHB' := HHB.out
  rw [hB] at HHB'
  have HHB2 := Lib.hid HHB'
  have HBl := Lib.hid hBl
  have Hb5 := Lib.hid (below_then Hb4.out hb)
  have HC5 := Lib.hid (HC4.out.later hb)
  have HH5 := Lib.hid (HH4.out.later hb)
  clear hv hl hB hBl HHB' hb
  simp only [List.map_cons, List.map_nil, puts, Act.put, List.setIfInBounds_toArray, List.set_cons_succ, List.set_cons_zero]
  obtain ⟨q0, q1, q2, q3⟩ := HH5.out.four
  have hz5 : w.heap.size < w5.heap.size := HH5.out.lt
  go_wp2_with fail
  refine (HK.out _).mono ?_
  rintro e w6 ⟨bf, rfl, hF, hb⟩
  have Hb6 := Lib.hid (below_then Hb5.out hb)
  have HC6 := Lib.hid (HC5.out.later hb)
  have HH6 := Lib.hid (HH5.out.later hb)
  have HF6 := Lib.hid hF
  clear hb hF q0 q1 q2 q3
  go_wp2_with fail
  go_loopw [12, 71] (fun sv i wr => ∃ j : Nat, j ≤ k'.fs.length ∧ i = .int .i64 j ∧ sv = .string (S (putN k'.fs vs B j)) ∧ Below w6.heap.size w6 wr) (fun _ i _ => k'.fs.length - (intOf i).toNat)
  case atStart => exact ⟨0, by omega, rfl, rfl, Below.refl _ _⟩
  case round =>
    obtain ⟨j, hj, rfl, rfl, hbw⟩ := hrel
    have Hbw := Lib.hid hbw
    have hPl : (putN k'.fs vs B j).length = 48 := by rw [putN_len (fun f hf => by rw [HBl.out]; exact (Fok.out f hf).2.1), HBl.out]
    by_cases hlt : j < k'.fs.length
    · obtain ⟨q0, q1, q2⟩ := Flds.get (Blk.later HF6.out hbw) j hlt
      obtain ⟨_, _, _, c3⟩ := (Blk.later HH6.out hbw).four
      have hjv : j < vs.length := by rw [Hlen.out]; exact hlt
      have hcj : wr.cell? ⟨bv, ov + j, none⟩ = some (.int .u64 (vs[j] : Int)) := by
        rw [(bcell (below_then Hb6.out hbw)).1 bv (ov + j) hbv]; exact Hcv.out j hjv
      have hstep := putN_step k'.fs vs B j hlt hjv
      have hgood := badVal_good HBad.out j hlt hjv
      obtain ⟨f, hf⟩ : ∃ f, k'.fs[j] = f := ⟨_, rfl⟩
      obtain ⟨x, hxj⟩ : ∃ x, vs[j] = x := ⟨_, rfl⟩
      obtain ⟨o1, o2, o3, o4, o5, o6⟩ := Fok.out f (by rw [← hf]; exact List.getElem_mem _)
      have hx64 : x < 2 ^ 64 := by rw [← hxj]; exact Hx.out _ (List.getElem_mem _)
      rw [hf, hxj] at hstep hgood
      rw [hf] at q0 q1 q2
      rw [hxj] at hcj
      obtain ⟨P, hP⟩ : ∃ P, putN k'.fs vs B j = P := ⟨_, rfl⟩
      rw [hP] at hPl hstep
      rw [hP]
      have Hstep := Lib.hid hstep
      have HNx := Lib.hid (number_fits x f.sz o4 hx64 hgood)
      obtain ⟨d0, d1, d2⟩ := (Blk.new wr #[.string (S f.nm), .int .i64 (f.pos : Int), .int .i64 (f.sz : Int)] 45).three
      have hba := (Below.refl wr.heap.size wr).alloc (Nat.le_refl _) (.cells #[.string (S f.nm), .int .i64 (f.pos : Int), .int .i64 (f.sz : Int)] 45)
      have Hba := Lib.hid hba
      have z3 : (wr.alloc (.cells #[.string (S f.nm), .int .i64 (f.pos : Int), .int .i64 (f.sz : Int)] 45)).cell? ⟨w.heap.size, 3, none⟩ = _ := (hba.cell (block_lt_of_cell c3)).trans c3
      have zj : (wr.alloc (.cells #[.string (S f.nm), .int .i64 (f.pos : Int), .int .i64 (f.sz : Int)] 45)).cell? ⟨bv, ov + j, none⟩ = _ := (hba.cell (block_lt_of_cell hcj)).trans hcj
      clear hbw hf hxj o6 hstep hgood hba hP hx64
      have hj0 : (0 : Int) ≤ (j : Int) := by omega
      go_wp2_with fail
      clear q0 q1 q2 c3 hcj
      generalize wr.alloc (.cells #[.string (S f.nm), .int .i64 (f.pos : Int), .int .i64 (f.sz : Int)] 45) = wa at Hba d0 d1 d2 z3 zj ⊢
      go_region_held3 (fun w' => Below wa.heap.size wa w' ∧ w'.cell? ⟨w.heap.size, 3, none⟩ = some (.slice (some ⟨bv, ov, none⟩) vs.length c) ∧ w'.cell? ⟨bv, ov + j, none⟩ = some (.int .u64 (x : Int)) ∧ w'.cell? ⟨wr.heap.size, 2, none⟩ = some (.int .i64 (f.sz : Int)))
        (first | assumption | exact ⟨Below.refl _ _, z3, zj, d2⟩ | exact ⟨(Below.refl _ _).drew, z3, zj, d2⟩ | exact keep3 (by assumption) hb')
        (first | ((with_reducible refine (HNx.out _).mono ?_); rintro e w' ⟨rfl, hb'⟩))
      have hl := (‹Below wa.heap.size wa w' ∧ _›).1
      have d1' : w'.cell? ⟨wr.heap.size, 1, none⟩ = some (.int .i64 (f.pos : Int)) := (hl.cell (block_lt_of_cell d1)).trans d1
      have d2' : w'.cell? ⟨wr.heap.size, 2, none⟩ = some (.int .i64 (f.sz : Int)) := (hl.cell (block_lt_of_cell d2)).trans d2
      have Hl := Lib.hid (below_then (below_then Hbw.out Hba.out) hl)
      have hbl : (be x f.sz).length = f.sz := be_len _ _
      obtain ⟨X, hX⟩ : ∃ X, be x f.sz = X := ⟨_, rfl⟩
      rw [hX] at hbl Hstep
      rw [hX]
      have g1 : IntKind.i64.wrap ((f.pos : Int) + (f.sz : Int)) = (f.pos : Int) + f.sz := IntWalk.i64_in _ (by omega)
      have g2 : ((f.pos : Int) + (f.sz : Int)).toNat = f.pos + f.sz := by omega
      have g3 : (0 : Int) ≤ (f.pos : Int) + (f.sz : Int) := by omega
      have g4 : (f.pos : Int) + (f.sz : Int) ≤ (P.length : Int) := by omega
      have g5 : (f.pos : Int) ≤ (P.length : Int) := by omega
      clear hl z3 zj d0 d1 d2 hX
      have n1 : ¬ 9223372036854775807 < (List.take f.pos P).length + X.length := by simp only [List.length_take]; omega
      have n2 : ¬ 9223372036854775807 < (List.take f.pos P ++ X).length + (List.drop (f.pos + f.sz) P).length := by simp only [List.length_append, List.length_take, List.length_drop]; omega
      go_wp2_with fail
      go_quiet (fail)
      go_wp2_with fail
      go_roundw
      case rel => exact ⟨j + 1, by omega, by go_num, by rw [← Hstep.out]; unfold splice; rw [hbl, List.take_of_length_le (show (List.drop (f.pos + f.sz) P).length ≤ 48 - (f.pos + f.sz) by simp only [List.length_drop]; omega), List.append_assoc], below_drewN Hl.out _⟩
      case measure => simp [intOf]; omega
    · obtain rfl : j = k'.fs.length := by omega
      have hend := putN_all k'.fs vs B Hlen.out
      rw [← HHB2.out] at hend
      have Hend := Lib.hid hend
      have HC7 := Lib.hid (HC6.out.later hbw)
      clear hbw hend
      go_wp2_with fail
      refine (goodF _).mono ?_
      rintro e w7 ⟨rfl, hb⟩
      have HC8 := HC7.out.later hb
      obtain ⟨d0, d1⟩ := HC8.cells
      have f0 := HC8.frozen 0
      have f1 := HC8.frozen 1
      have Hl2 := Lib.hid (below_then (below_then Hb6.out Hbw.out) hb)
      clear hb HC8
      go_wp2_with fail
      refine bodyPost_ret (v := .tuple #[.string (S (putN k'.fs vs B k'.fs.length)), .agg #[.int .i64 0, .int .i64 (-1)]]) (by simp [results, Tryz.results20, go_sem, d0, d1]) rfl ⟨?_, ?_⟩
      · rw [Hend.out]
      · exact (Hl2.out.setCell (by simp) _).setCell (by simp) _
end Go.Proofs.YtffdlchoaaakdaaGreatDoor
