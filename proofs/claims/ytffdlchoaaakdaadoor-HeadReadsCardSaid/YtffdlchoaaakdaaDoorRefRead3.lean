/- ref.HeadRead: a head whose flags may be. -/
import Derived.Test.YtffdlchoaaakdaaDoorRefRead2
import Derived.BigRegion
namespace Go.Proofs.YtffdlchoaaakdaaDoor
open Go.RowKit
/-- what stays through the reference's loops: the fields, the head with the values so far, what was there -/
structure RdS (w : World) (hb M bf base : Nat) (op fl : Int) (now : Bool) (k : Kd) (s : List UInt8) (j : Nat) (W : World) : Prop where
  fld : Flds W bf k.fs
  own : ∃ v, Blk W hb #[.int .i64 op, .bool now, .int .i64 fl, v] 24 ∧ NBuf base W v ((readVs k.fs s).take j)
  low : Below w.heap.size w W
  big : base ≤ W.heap.size
structure RdB (w : World) (hb M bf base : Nat) : Prop where
  h0 : w.heap.size ≤ hb
  m0 : w.heap.size ≤ M
  hB : hb < base
  mB : M < base
  fB : bf < base
  hM : hb ≠ M
  fM : bf ≠ M
  hf : bf ≠ hb
theorem RdS.later {w : World} {hb M bf base : Nat} {op fl : Int} {now : Bool} {k : Kd} {s : List UInt8} {j : Nat} {W W' : World} (h : RdS w hb M bf base op fl now k s j W) (hbl : Below W.heap.size W W') : RdS w hb M bf base op fl now k s j W' :=
  ⟨Blk.later h.fld hbl, h.own.imp fun _ hv => ⟨hv.1.later hbl, hv.2.later hbl⟩, below_then h.low hbl, Nat.le_trans h.big hbl.size⟩
theorem RdS.alloc {w : World} {hb M bf base : Nat} {op fl : Int} {now : Bool} {k : Kd} {s : List UInt8} {j : Nat} {W : World} (h : RdS w hb M bf base op fl now k s j W) (o : Obj) : RdS w hb M bf base op fl now k s j (W.alloc o) :=
  h.later ((Below.refl _ _).alloc (Nat.le_refl _) o)
theorem RdS.map {w : World} {hb M bf base : Nat} {op fl : Int} {now : Bool} {k : Kd} {s : List UInt8} {j : Nat} {W W' : World} (h : RdS w hb M bf base op fl now k s j W) (hB : RdB w hb M bf base) (hg : W.grownBy W' (some M)) : RdS w hb M bf base op fl now k s j W' :=
  ⟨Blk.otherB h.fld hg hB.fM, h.own.imp fun _ hv => ⟨hv.1.otherB hg hB.hM, hv.2.other hg hB.mB⟩, Below.grownB h.low hg hB.m0 h.low.size, Nat.le_trans h.big hg.size⟩
theorem rd_start {w u : World} {hb M bf : Nat} {k : Kd} (s : List UInt8) {x0 x1 x2 x3 : Value} (op fl : Int) (now : Bool) (hM : BMap 3 u M 6 (seenF k.fs 0)) (hF : Flds u bf k.fs) (hK : Blk u hb #[x0, x1, x2, x3] 24) (hB : Below w.heap.size w u) (B : RdB w hb M bf u.heap.size) :
    BMap 3 ((((u.setCell ⟨hb, 0, none⟩ (.int .i64 op)).setCell ⟨hb, 1, none⟩ (.bool now)).setCell ⟨hb, 2, none⟩ (.int .i64 fl)).setCell ⟨hb, 3, none⟩ (.slice none 0 0)) M 6 (seenF k.fs 0) ∧
    RdS w hb M bf u.heap.size op fl now k s 0 ((((u.setCell ⟨hb, 0, none⟩ (.int .i64 op)).setCell ⟨hb, 1, none⟩ (.bool now)).setCell ⟨hb, 2, none⟩ (.int .i64 fl)).setCell ⟨hb, 3, none⟩ (.slice none 0 0)) := by
  have hh := B.hM
  refine ⟨(((hM.other (grownBy_setCell _ ⟨hb, 0, none⟩ _) hh.symm).other (grownBy_setCell _ ⟨hb, 1, none⟩ _) hh.symm).other (grownBy_setCell _ ⟨hb, 2, none⟩ _) hh.symm).other (grownBy_setCell _ ⟨hb, 3, none⟩ _) hh.symm, ?_, ⟨.slice none 0 0, ?_, NBuf.nil _ _⟩, ?_, by simp⟩
  · exact (((Blk.other hF B.hf _).other B.hf _).other B.hf _).other B.hf _
  · have := (((hK.set 0 (.int .i64 op)).set 1 (.bool now)).set 2 (.int .i64 fl)).set 3 (.slice none 0 0)
    simpa using this
  · exact (((hB.setCell B.h0 _).setCell B.h0 _).setCell B.h0 _).setCell B.h0 _
theorem RdS.drew {w : World} {hb M bf base : Nat} {op fl : Int} {now : Bool} {k : Kd} {s : List UInt8} {j : Nat} {W : World} (h : RdS w hb M bf base op fl now k s j W) (n : Nat) : RdS w hb M bf base op fl now k s j (W.drewN n) :=
  ⟨h.fld, h.own, below_drewN h.low n, h.big⟩
theorem blk_apart {W : World} {b b' : Nat} {C C' : Array Value} {t t' : TypeId} (h : Blk W b C t) (h' : Blk W b' C' t') (hne : t ≠ t') : b ≠ b' := fun e => by
  subst e
  have := Option.some.inj (h.symm.trans h')
  injection this with _ ht _
  exact hne ht
theorem readVs_succ (fs : List Fd) (s : List UInt8) (j : Nat) (hj : j < fs.length) : (readVs fs s).take (j + 1) = (readVs fs s).take j ++ [val (cutB s fs[j].pos fs[j].sz)] := by
  rw [List.take_succ_eq_append_getElem (by rw [readVs_len]; exact hj)]
  simp [readVs]
theorem readVs_lt {k : Kd} (F : KindFacts k) (s : List UInt8) : ∀ x ∈ readVs k.fs s, x < 2 ^ 64 := by
  intro x hx
  obtain ⟨f, hf, rfl⟩ := List.mem_map.1 hx
  obtain ⟨_, _, _, h8, _⟩ := F.fok f hf
  have hl : (cutB s f.pos f.sz).length ≤ f.sz := by simp [cutB]; omega
  have h1 := val_lt _ (cutB s f.pos f.sz) rfl
  refine Nat.lt_of_lt_of_le h1 ?_
  have : 256 ^ (cutB s f.pos f.sz).length ≤ 256 ^ 8 := Nat.pow_le_pow_right (by decide) (by omega)
  exact this
theorem seen_free (k : Kd) (i : Nat) : seenF k.fs k.fs.length (LI i) ↔ freeK k i := by
  unfold seenF freeK lowP
  constructor
  · rintro ⟨i', e, h⟩
    obtain rfl := LI_inj e
    rcases h with h | ⟨x, hx, _, hin⟩
    · omega
    · exact .inr (.inr (.inr ⟨_, List.getElem_mem hx, hin⟩))
  · intro h
    refine ⟨i, rfl, ?_⟩
    rcases h with h | h | h | ⟨f, hf, hin⟩
    · exact .inl (.inl h)
    · exact .inl (.inr (.inl h))
    · exact .inl (.inr (.inr h))
    · obtain ⟨x, hx, rfl⟩ := List.mem_iff_getElem.1 hf
      exact .inr ⟨x, hx, hx, hin⟩
theorem unnumber_cut (s : List UInt8) (o n : Nat) (w : World) (hn : n ≤ 8) : Calls Tryd.prog 32 #[.string (S ((s.drop o).take n))] w fun e w' => e = .returned (.tuple #[.int .u64 (val (cutB s o n) : Nat), .int .i64 0]) ∧ Below w.heap.size w w' :=
  unnumber_ok _ w (by simp; omega)
theorem own_form {W : World} {base : Nat} {e : TypeId} {size : Nat} {v : Value} {n : Nat} {xs : List Value} (h : W.ownsRow base e size v n xs) : ∃ p c, v = .slice p n c := by
  rcases h.2 with ⟨rfl, h0⟩ | ⟨g, cap, cur, hv, _⟩
  · exact ⟨none, 0, by rw [h0]⟩
  · exact ⟨_, _, hv⟩
theorem infoU : ∃ i, Tryd.prog.info? 52 = some i ∧ i.zero = some (.int .u64 0) ∧ i.size = 1 ∧ i.bytes = 8 := info_parts (show (Tryd.prog.info? 52).map (fun i => (i.zero, i.size, i.bytes)) = some (some (.int .u64 0), 1, 8) by kernel_rfl)
theorem app_sides (x : Nat) (wu : World) (n base : Nat) (hn : n ≤ 10) (hb : base ≤ wu.heap.size) :
    Hid (∀ j u, ([.int .u64 (x : Int)] : List Value)[j]? = some u → (wu.alloc (.cells #[.int .u64 (x : Int)] 52)).cell? ((⟨wu.heap.size, 0, none⟩ : Addr).add j) = some u) ∧ Hid (∀ u ∈ ([.int .u64 (x : Int)] : List Value), u.oneCell' = true) ∧ Hid (n + 1 ≤ maxLen) ∧ Hid ((n + 1) * 8 ≤ 140737488355328) ∧ Hid (base ≤ (wu.alloc (.cells #[.int .u64 (x : Int)] 52)).heap.size) := by
  refine ⟨Lib.hid ?_, Lib.hid ?_, Lib.hid (by unfold maxLen; omega), Lib.hid (by omega), Lib.hid (by simp; omega)⟩
  · intro j u h
    cases j with
    | zero =>
      cases h
      simp [Addr.add]
    | succ j => simp at h
  · intro u hu
    rw [List.mem_singleton.1 hu]
    rfl
theorem rd_kept {base hb : Nat} {W W' : World} {v : Value} {l : List Nat} {C : Array Value} {t : TypeId} (hN : NBuf base W v l) (hK : Blk W hb C t) (hg : W.grownBy W' v.ownBlock) (h : hb < base) : Blk W' hb C t :=
  hK.grown hg (fun k hk => by have := hN.ge k hk; omega)
theorem rd_step {w : World} {hb M bf base : Nat} {op fl : Int} {now : Bool} {k : Kd} {s : List UInt8} {j : Nat} {W W' : World} {v v' : Value} {L : List Nat} {x : Nat} {n' : Nat} {P : Lit → Prop}
    (hN : NBuf base W v L) (hO : W'.ownsRow base 52 1 v' (L.length + 1) (numsV L ++ [.int .u64 (x : Int)])) (hg : W.grownBy W' v.ownBlock) (hK : Blk W hb #[.int .i64 op, .bool now, .int .i64 fl, v] 24)
    (hR : RdS w hb M bf base op fl now k s j W) (hM : BMap 3 W M n' P) (B : RdB w hb M bf base) (hvs : (readVs k.fs s).take (j + 1) = L ++ [x]) :
    BMap 3 (W'.setCell ⟨hb, 3, none⟩ v') M n' P ∧ RdS w hb M bf base op fl now k s (j + 1) (W'.setCell ⟨hb, 3, none⟩ v') := by
  have hge : ∀ k, v.ownBlock = some k → base ≤ k := hN.ge
  have kept : ∀ {b : Nat} {C : Array Value} {t : TypeId}, b < base → Blk W b C t → Blk W' b C t := fun hb h => h.grown hg (fun k hk => by have := hge k hk; omega)
  have hM1 : BMap 3 W' M n' P := hM.same (hg.block M hM.lt (fun e => by have := hge M e.symm; have := B.mB; omega))
  have hN1 : NBuf base W' v' (L ++ [x]) := by
    unfold NBuf
    have e1 : (L ++ [x]).length = L.length + 1 := by simp
    have e2 : numsV (L ++ [x]) = numsV L ++ [.int .u64 (x : Int)] := by simp [numsV]
    rw [e1, e2]
    exact hO
  have hK1 := kept B.hB hK
  refine ⟨hM1.other (grownBy_setCell _ ⟨hb, 3, none⟩ _) B.hM.symm, Blk.other (kept B.fB hR.fld) B.hf _, ⟨v', ?_, ?_⟩, ?_, ?_⟩
  · have := hK1.set 3 v'
    simpa using this
  · rw [hvs]
    exact hN1.set (a := ⟨hb, 3, none⟩) B.hB v'
  · have hlw : w.heap.size ≤ base := by have := B.h0; have := B.hB; omega
    refine ((hR.low.grown hg hR.low.size (fun k hk => by have := hge k hk; omega))).setCell B.h0 _
  · have := hg.size
    have := hR.big
    simp; omega
set_option maxRecDepth 100000 in
set_option maxHeartbeats 4000000 in
theorem refRead_some (s : List UInt8) (k : Kd) (w : World) (hl : s.length = 48) (hl0 : 0 < s.length) (hl1 : 1 < s.length) (h : (s[0]'hl0).toNat < 128) (hk : kindOf (((s[0]'hl0).toNat % 64 : Nat) : Int) = some k)
    (hg1 : 64 ≤ (s[0]'hl0).toNat → (s[0]'hl0).toNat % 64 < 32) (hg2 : (s[1]'hl1).toNat ||| k.fl = k.fl) : Calls Tryd.prog 13 #[.string (S s)] w (RetRR w (readR s)) := by
  have hne : ((s.length : Int) != 48) = false := by rw [hl]; rfl
  obtain ⟨b0, hb0⟩ : ∃ b, s[0]'hl0 = b := ⟨_, rfl⟩
  obtain ⟨b1, hb1⟩ : ∃ b, s[1]'hl1 = b := ⟨_, rfl⟩
  rw [hb0] at h hk hg1
  rw [hb1] at hg2
  have F := kindFacts hk
  have HRR := Lib.hid (readR_is hl (by rw [List.getElem?_eq_getElem hl0, hb0]) (by rw [List.getElem?_eq_getElem hl1, hb1]) h hk)
  have HG := Lib.hid (show _ ∧ _ from ⟨hg1, hg2⟩)
  have hq : ((b0.toNat : Int) / 128 % 256 == 1) = false := by rw [beq_eq_false_iff_ne]; omega
  have e64 : ((b0.toNat % 64 : Nat) : Int) = (b0.toNat : Int) % 64 := by omega
  have hr : (b0.toNat : Int) % 64 ≤ 63 := by omega
  have hr0 : 0 ≤ (b0.toNat : Int) % 64 := by omega
  have hb1l : (b1.toNat : Int) < 256 := by have := b1.toNat_lt; omega
  have C := refKind_any ((b0.toNat % 64 : Nat) : Int) (w.alloc (.cells #[.int .i64 0, .bool false, .int .i64 0, .slice none 0 0] 24))
  rw [hk, e64] at C
  have HC := Lib.hid C
  have hk0 := Lib.hid (Blk.new w #[.int .i64 0, .bool false, .int .i64 0, .slice none 0 0] 24)
  have Hb0 := Lib.hid ((Below.refl w.heap.size w).alloc (Nat.le_refl _) (.cells #[.int .i64 0, .bool false, .int .i64 0, .slice none 0 0] 24))
  have hA := (or_int b1.toNat k.fl (by have := b1.toNat_lt; omega) F.fl).2 hg2
  have hAA : ((k.fl : Int) != (k.fl : Int)) = false := by simp
  have HF0 := Lib.hid F
  have Hl := Lib.hid hl
  have hl10 := F.len
  have hsl : (s.length : Int) = 48 := by omega
  obtain ⟨now, hnow⟩ : ∃ b, decide (64 ≤ b0.toNat) = b := ⟨_, rfl⟩
  have Fok := Lib.hid F.fok
  have hcase : (((b0.toNat : Int) / 64 % 256 == 1) = true ∧ (b0.toNat : Int) % 64 < 32 ∧ now = true) ∨ (((b0.toNat : Int) / 64 % 256 == 1) = false ∧ now = false) := by
    by_cases h64 : 64 ≤ b0.toNat
    · exact .inl ⟨by rw [beq_iff_eq]; omega, by have := hg1 h64; omega, by rw [← hnow]; simpa using h64⟩
    · exact .inr ⟨by rw [beq_eq_false_iff_ne]; omega, by rw [← hnow]; simpa using h64⟩
  rw [hnow] at HRR
  clear h hl hk C e64 F hg1 hg2 hnow
  rcases hcase with ⟨g1, g2, hn⟩ | ⟨g1, hn⟩
  all_goals
    have Hn := Lib.hid hn
    clear hn
    go_enter Tryd.func13, Tryd.ntmps13
    go_wp2_with fail
    refine HC.out.mono ?_
    rintro e w1 ⟨bf, rfl, hF, hb⟩
    have hkk := hk0.out.later hb
    have Hkk := Lib.hid hkk
    have HF1 := Lib.hid hF
    have Hb := Lib.hid (below_then Hb0.out hb)
    have hz : w.heap.size < w1.heap.size := hkk.lt
    have hfz : bf < w1.heap.size := Blk.lt hF
    have hfm : bf ≠ w1.heap.size := by omega
    have hfh : bf ≠ w.heap.size := blk_apart hF hkk (by decide)
    have hws : w.heap.size ≤ w1.heap.size := by omega
    have M0 := BMap.made 3 w1
    obtain ⟨u1, hr1, M1, g1'⟩ := M0.put keyedI Tryd.underlying46 (by omega) (keyI 0 (by omega)) trivial
    obtain ⟨u2, hr2, M2, g2'⟩ := M1.put keyedI Tryd.underlying46 (by omega) (keyI 1 (by omega)) trivial
    obtain ⟨u3, hr3, M3, g3'⟩ := M2.put keyedI Tryd.underlying46 (by omega) (keyI 4 (by omega)) trivial
    obtain ⟨u4, hr4, M4, g4'⟩ := M3.put keyedI Tryd.underlying46 (by omega) (keyI 5 (by omega)) trivial
    obtain ⟨u5, hr5, M5, g5'⟩ := M4.put keyedI Tryd.underlying46 (by omega) (keyI 6 (by omega)) trivial
    obtain ⟨u6, hr6, M6, g6'⟩ := M5.put keyedI Tryd.underlying46 (by omega) (keyI 7 (by omega)) trivial
    have M7 := M6.as (seen_start k.fs)
    have G := (((((g1'.trans g2').trans g3').trans g4').trans g5').trans g6')
    have B0 := Hb.out.alloc hws (.map #[] 0)
    have B6 := Below.grownB B0 G hws (by simp; omega)
    have F6 := Blk.otherB (Blk.alloc hF (.map #[] 0)) G (by omega)
    have K6 := Blk.otherB (hkk.alloc (.map #[] 0)) G (by omega)
    have hlt6 : w1.heap.size < u6.heap.size := M7.lt
    have hmm := @run_makeMap Tryd.prog
    have HB := Lib.hid (show RdB w w.heap.size w1.heap.size bf u6.heap.size from ⟨Nat.le_refl _, by omega, by omega, by omega, by omega, by omega, by omega, hfh⟩)
    obtain ⟨S1, S2⟩ := rd_start s ((b0.toNat : Int) % 64) (b1.toNat : Int) now M7 F6 K6 B6 HB.out
    obtain ⟨q0, q1, q2, q3⟩ := K6.four
    have f0 := K6.frozen 0
    have f1 := K6.frozen 1
    have f2 := K6.frozen 2
    have f3 := K6.frozen 3
    have hlt7 : w.heap.size < u6.heap.size := by omega
    have HS1 := Lib.hid S1
    have HS2 := Lib.hid S2
    clear hb hkk hF S1 S2 M0 M1 M2 M3 M4 M5 M6 M7 g1' g2' g3' g4' g5' g6' G B0 B6 F6 K6
    obtain ⟨p0, p1, p2, p3⟩ := Hkk.out.four
    go_upto_region 11 with (fail)
    go_wp2_with (first | refine wpList_insert_b _ rfl _ _ _ _ rfl u1 hr1 ?_ | refine wpList_insert_b _ rfl _ _ _ _ rfl u2 hr2 ?_ | refine wpList_insert_b _ rfl _ _ _ _ rfl u3 hr3 ?_ | refine wpList_insert_b _ rfl _ _ _ _ rfl u4 hr4 ?_ | refine wpList_insert_b _ rfl _ _ _ _ rfl u5 hr5 ?_ | refine wpList_insert_b _ rfl _ _ _ _ rfl u6 hr6 ?_)
    clear hr1 hr2 hr3 hr4 hr5 hr6 p0 p1 p2 p3
    go_region
    rw [Hn.out] at HS1 HS2
    generalize ((((u6.setCell ⟨w.heap.size, 0, none⟩ (.int .i64 ((b0.toNat : Int) % 64))).setCell ⟨w.heap.size, 1, none⟩ (.bool _)).setCell ⟨w.heap.size, 2, none⟩ (.int .i64 (b1.toNat : Int))).setCell ⟨w.heap.size, 3, none⟩ (.slice none 0 0)) = w3 at HS1 HS2 ⊢
    have HM3 := Lib.hid (show BMap 3 w3.drew w1.heap.size 6 (seenF k.fs 0) from HS1.out)
    have HR3 := Lib.hid (show RdS w w.heap.size w1.heap.size bf u6.heap.size ((b0.toNat : Int) % 64) (b1.toNat : Int) _ k s 0 w3.drew from ⟨HS2.out.fld, HS2.out.own, HS2.out.low.drew, HS2.out.big⟩)
    clear HS1 HS2 q0 q1 q2 q3 f0 f1 f2 f3 Hkk HF1 hmm
    generalize w3.drew = w4 at HM3 HR3 ⊢
    go_wp2_with fail
    go_loopw [74] (fun i wr => ∃ j : Nat, j ≤ k.fs.length ∧ i = .int .i64 j ∧ BMap 3 wr w1.heap.size (6 + 8 * j) (seenF k.fs j) ∧ RdS w w.heap.size w1.heap.size bf u6.heap.size ((b0.toNat : Int) % 64) (b1.toNat : Int) _ k s j wr) (fun i _ => k.fs.length - (intOf i).toNat)
    case atStart => exact ⟨0, by omega, rfl, HM3.out, HR3.out⟩
    case round =>
      obtain ⟨j, hj, rfl, hM, hR⟩ := hrel
      have HMr := Lib.hid hM
      have HRr := Lib.hid hR
      have ltM : w1.heap.size < wr.heap.size := hM.lt
      clear hM hR
      by_cases hlt : j < k.fs.length
      · obtain ⟨q0, q1, q2⟩ := Flds.get HRr.out.fld j hlt
        obtain ⟨f, hf⟩ : ∃ f, k.fs[j] = f := ⟨_, rfl⟩
        rw [hf] at q0 q1 q2
        have hmem : f ∈ k.fs := by rw [← hf]; exact List.getElem_mem hlt
        obtain ⟨o1, o2, o3, o4, o5, o6⟩ := Fok.out f hmem
        have HR1 := Lib.hid (HRr.out.alloc (.cells #[.string (S f.nm), .int .i64 (f.pos : Int), .int .i64 (f.sz : Int)] 49))
        have HX1 := Lib.hid (Blk.new wr #[.string (S f.nm), .int .i64 (f.pos : Int), .int .i64 (f.sz : Int)] 49)
        have HM1 := Lib.hid ((HMr.out.alloc (.cells #[.string (S f.nm), .int .i64 (f.pos : Int), .int .i64 (f.sz : Int)] 49)).as (part_start k.fs j f))
        have Hf := Lib.hid hf
        clear hf hmem o6
        go_wp2_with fail
        clear q0 q1 q2
        go_loopw [80] (fun y wi => ∃ t : Nat, t ≤ f.sz ∧ y = .int .i64 t ∧ BMap 3 wi w1.heap.size (6 + 8 * j + t) (partF k.fs j f (f.pos + t)) ∧ Blk wi wr.heap.size #[.string (S f.nm), .int .i64 (f.pos : Int), .int .i64 (f.sz : Int)] 49 ∧ RdS w w.heap.size w1.heap.size bf u6.heap.size ((b0.toNat : Int) % 64) (b1.toNat : Int) _ k s j wi) (fun y _ => f.sz - (intOf y).toNat)
        case atStart => exact ⟨0, Nat.zero_le _, rfl, HM1.out, HX1.out, HR1.out⟩
        case round =>
          obtain ⟨t, ht, rfl, hM, hX, hR⟩ := hrel
          have HXi := Lib.hid hX
          have HRi := Lib.hid hR
          have ltXi := hX.lt
          obtain ⟨x0, x1, x2⟩ := hX.three
          by_cases hlm : t < f.sz
          · obtain ⟨v2, hr2, M2, G2⟩ := hM.put keyedI Tryd.underlying46 (by omega) (key := .int .i64 ((f.pos : Int) + (t : Int))) (kl := LI (f.pos + t)) (by rw [← Int.natCast_add]; exact keyI (f.pos + t) (by omega)) trivial
            have HM2 := Lib.hid (M2.as (part_step k.fs j f (f.pos + t) (by omega)))
            have HX2 := Lib.hid (Blk.otherB hX G2 (by omega))
            have HR2 := Lib.hid (hR.map HB.out G2)
            clear hM hX hR M2 G2
            go_wp2_with fail
            go_roundw
            case rel => exact ⟨t + 1, by omega, by go_num, HM2.out, HX2.out, HR2.out⟩
            case measure => simp [intOf]; omega
          · obtain rfl : t = f.sz := by omega
            have HM2 := Lib.hid ((hM.as (part_end k.fs j hlt f Hf.out)).mono (n' := 6 + 8 * (j + 1)) (by omega))
            have e1 : IntKind.i64.wrap ((f.pos : Int) + (f.sz : Int)) = (f.pos : Int) + f.sz := IntWalk.i64_in _ (by omega)
            have e2 : ((f.pos : Int) + (f.sz : Int)).toNat = f.pos + f.sz := by omega
            have e3 : (0 : Int) ≤ (f.pos : Int) + (f.sz : Int) := by omega
            have e4 : (f.pos : Int) + (f.sz : Int) ≤ (s.length : Int) := by have := Hl.out; omega
            have e5 : (f.pos : Int) ≤ (f.pos : Int) + (f.sz : Int) := by omega
            have U := Lib.hid (fun W => unnumber_cut s f.pos f.sz W o4)
            have hvs := readVs_succ k.fs s j hlt
            rw [Hf.out] at hvs
            obtain ⟨x, hxv⟩ : ∃ x, val (cutB s f.pos f.sz) = x := ⟨_, rfl⟩
            rw [hxv] at U hvs
            have Hvs := Lib.hid hvs
            clear hM hX hR hvs hxv
            go_wp2_with fail
            refine (U.out _).mono ?_
            rintro e wu ⟨rfl, hbu⟩
            have HMu := Lib.hid (HM2.out.later hbu)
            have HRu := Lib.hid (HRi.out.later hbu)
            clear hbu x0 x1 x2
            obtain ⟨L, hL⟩ : ∃ L, (readVs k.fs s).take j = L := ⟨_, rfl⟩
            have hLl : L.length ≤ 10 := by rw [← hL]; simp; omega
            obtain ⟨vo, hK, hN⟩ := HRu.out.own
            rw [hL] at hN Hvs
            obtain ⟨po, co, rfl⟩ := hN.form
            obtain ⟨c0, c1, c2, c3⟩ := hK.four
            have hbz : w.heap.size < wu.heap.size := hK.lt
            obtain ⟨HA1, HA2, HA3, HA4, HA5⟩ := app_sides x wu L.length u6.heap.size hLl HRu.out.big
            obtain ⟨i0, hi, hz0, hz1, hz2⟩ := infoU
            have HK := Lib.hid (hK.alloc (.cells #[.int .u64 (x : Int)] 52))
            have HN := Lib.hid (hN.alloc (.cells #[.int .u64 (x : Int)] 52))
            have HAl := Lib.hid (HRu.out.alloc (.cells #[.int .u64 (x : Int)] 52))
            have HMa := Lib.hid (HMu.out.alloc (.cells #[.int .u64 (x : Int)] 52))
            have HN' := Lib.hid (show World.ownsRow (wu.alloc (.cells #[.int .u64 (x : Int)] 52)) u6.heap.size 52 1 (.slice po L.length co) L.length (numsV L) from HN.out)
            clear hK hN hL
            go_wp2_with (at_builtin; refine wpList_append_own _ rfl _ _ 22 rfl u6.heap.size 52 i0 (.int .u64 0) 1 8 Tryd.underlying22 hi hz0 hz1 hz2 rfl (by decide) (.slice po L.length co) L.length (numsV L) rfl HN'.out ⟨wu.heap.size, 0, none⟩ 1 1 [.int .u64 (x : Int)] rfl rfl HA1.out HA2.out HA3.out HA4.out HA5.out ?_)
            intro v' wa hown hgrow hnil
            obtain ⟨p', c', rfl⟩ := own_form hown
            have hKa := rd_kept HN.out HK.out hgrow HB.out.hB
            obtain ⟨d0, d1, d2, d3⟩ := hKa.four
            have e3f := hKa.frozen 3
            have hza := hKa.lt
            obtain ⟨hMf, hRf⟩ := rd_step HN.out hown hgrow HK.out HAl.out HMa.out HB.out Hvs.out
            have HMf := Lib.hid hMf
            have HRf := Lib.hid hRf
            clear hKa hown hgrow hnil hMf hRf c0 c1 c2 c3
            go_wp2_with fail
            go_roundw
            case rel => exact ⟨j + 1, by omega, by go_num, HMf.out, HRf.out⟩
            case measure => simp [intOf]; omega
      · obtain rfl : j = k.fs.length := by omega
        have hlook := fun i (hi : i < 1000) => HMr.out.look keyedI Tryd.underlying46 (keyI i hi)
        have HLk := Lib.hid hlook
        clear hlook
        go_wp2_with fail
        go_loopw [111] (fun y wi => ∃ t : Nat, t ≤ 48 ∧ y = .int .i64 t ∧ (∀ x, x < t → ¬ freeK k x → s.getD x 0 = 0) ∧ wi = wr) (fun y _ => 48 - (intOf y).toNat)
        case atStart => exact ⟨0, by omega, rfl, fun x hx => absurd hx (Nat.not_lt_zero _), rfl⟩
        case round =>
          obtain ⟨t, ht, rfl, hz0, hwi⟩ := hrel
          subst hwi
          have Hz0 := Lib.hid hz0
          clear hz0
          by_cases hlm : t < 48
          · have htl : t < s.length := by have := Hl.out; omega
            have hLk := HLk.out t (by omega)
            by_cases hfr : freeK k t
            · have hrun := hLk.1 ((seen_free k t).2 hfr)
              have Hfr := Lib.hid hfr
              clear hLk hfr
              go_wp2_with fail
              go_roundw
              case rel => exact ⟨t + 1, by omega, by go_num, fun x hx hnf => by
                by_cases e : x = t
                · subst e; exact absurd Hfr.out hnf
                · exact Hz0.out x (by omega) hnf, by trivial⟩
              case measure => simp [intOf]; omega
            · have hrun := hLk.2 (fun h => hfr ((seen_free k t).1 h))
              have Hfr := Lib.hid hfr
              obtain ⟨c, hc⟩ : ∃ c, s[t]'htl = c := ⟨_, rfl⟩
              have hgd : s.getD t 0 = c := by rw [List.getD_eq_getElem?_getD, List.getElem?_eq_getElem htl, hc]; rfl
              have Hgd := Lib.hid hgd
              clear hLk hfr hgd
              by_cases hc0 : c = 0
              · have hcb : ((c.toNat : Int) != 0) = false := by subst hc0; rfl
                have Hc0 := Lib.hid hc0
                clear hc0
                go_wp2_with fail
                go_roundw
                case rel => exact ⟨t + 1, by omega, by go_num, fun x hx hnf => by
                  by_cases e : x = t
                  · subst e; rw [Hgd.out]; exact Hc0.out
                  · exact Hz0.out x (by omega) hnf, by trivial⟩
                case measure => simp [intOf]; omega
              · have hcb : ((c.toNat : Int) != 0) = true := by
                  rw [bne_iff_ne]
                  intro e
                  exact hc0 (UInt8.toNat_inj.1 (by simpa using e))
                have Hc0 := Lib.hid hc0
                clear hc0
                obtain ⟨vo, hK, hN⟩ := HRr.out.own
                obtain ⟨c0, c1, c2, c3⟩ := hK.four
                have f0 := hK.frozen 0
                have f1 := hK.frozen 1
                have f2 := hK.frozen 2
                have f3 := hK.frozen 3
                clear hK hN
                go_wp2_with fail
                refine bodyPost_ret (v := .tuple #[headV hd0 (.slice none 0 0), .int .i64 0, .int .i64 0, .int .i64 3]) (by simp [results, Tryd.results13, go_sem, headV, hd0, c0, c1, c2, c3]) rfl ?_
                rw [HRR.out.2 (fun h => Hc0.out (Hgd.out ▸ h.2.2 t hlm Hfr.out))]
                exact ⟨_, rfl, vals_nil _, (((HRr.out.low.setCell (Nat.le_refl _) _).setCell (Nat.le_refl _) _).setCell (Nat.le_refl _) _).setCell (Nat.le_refl _) _⟩
          · obtain rfl : t = 48 := by omega
            have hres := HRR.out.1 ⟨HG.out.1, HG.out.2, fun i hi hnf => Hz0.out i hi hnf⟩
            have Hres := Lib.hid hres
            have U := Lib.hid (fun W => unnumber_cut s 5 3 W (by omega))
            obtain ⟨x, hxv⟩ : ∃ x, readD s = x := ⟨_, rfl⟩
            have hxv' : val (cutB s 5 3) = x := hxv
            have hx3 : x < 16777216 := by
              rw [← hxv']
              have h1 := val_lt _ (cutB s 5 3) rfl
              have h2 : (cutB s 5 3).length ≤ 3 := by simp [cutB]; omega
              have h3 : 256 ^ (cutB s 5 3).length ≤ 256 ^ 3 := Nat.pow_le_pow_right (by decide) h2
              exact Nat.lt_of_lt_of_le h1 h3
            rw [hxv'] at U
            rw [hxv] at Hres
            have htl : 4 < s.length := by have := Hl.out; omega
            obtain ⟨b4, hb4⟩ : ∃ c, s[4]'htl = c := ⟨_, rfl⟩
            have h4 : readW s = b4.toNat := by
              unfold readW cutB
              rw [List.drop_eq_getElem_cons htl, hb4]
              simp [val]
            rw [h4] at Hres
            have hb4l : (b4.toNat : Int) < 256 := by have := b4.toNat_lt; omega
            have e8 : (8 : Int) ≤ (s.length : Int) := by have := Hl.out; omega
            clear hres hxv hxv' h4
            go_wp2_with fail
            refine (U.out _).mono ?_
            rintro e wu ⟨rfl, hbu⟩
            obtain ⟨vo, hK, hN⟩ := (HRr.out.later hbu).own
            obtain ⟨po, co, rfl⟩ := hN.form
            obtain ⟨c0, c1, c2, c3⟩ := hK.four
            have f0 := hK.frozen 0
            have f1 := hK.frozen 1
            have f2 := hK.frozen 2
            have f3 := hK.frozen 3
            have HK := Lib.hid hK
            have HN := Lib.hid hN
            have HRu := Lib.hid (HRr.out.later hbu)
            clear hK hN hbu
            go_wp2_with fail
            go_region
            go_wp2_with fail
            have hall : (readVs k.fs s).take k.fs.length = readVs k.fs s := List.take_of_length_le (by rw [readVs_len]; exact Nat.le_refl _)
            refine bodyPost_ret (v := .tuple #[headV ⟨(b0.toNat : Int) % 64, now, (b1.toNat : Int), readVs k.fs s⟩ (.slice po ((readVs k.fs s).take k.fs.length).length co), .int .i64 (b4.toNat : Int), .int .i64 (x : Int), .int .i64 0]) (by simp [results, Tryd.results13, go_sem, headV, c0, c1, c2, c3, Hn.out]) rfl ?_
            rw [Hres.out]
            refine ⟨_, rfl, ?_, ((((HRu.out.low.drew.setCell (Nat.le_refl _) _).setCell (Nat.le_refl _) _).setCell (Nat.le_refl _) _).setCell (Nat.le_refl _) _)⟩
            have hN4 := (((HN.out.set (a := ⟨w.heap.size, 0, none⟩) HB.out.hB (.int .i64 ((b0.toNat : Int) % 64))).set (a := ⟨w.heap.size, 1, none⟩) HB.out.hB (.bool now)).set (a := ⟨w.heap.size, 2, none⟩) HB.out.hB (.int .i64 (b1.toNat : Int))).set (a := ⟨w.heap.size, 3, none⟩) HB.out.hB (.slice po ((readVs k.fs s).take k.fs.length).length co)
            have hV := hN4.vals (fun x hx => readVs_lt HF0.out s x (List.mem_of_mem_take hx))
            rw [hall, Hn.out] at hV
            have hminv : min k.fs.length (readVs k.fs s).length = (readVs k.fs s).length := by rw [readVs_len]; exact Nat.min_self _
            rw [hminv, hall]
            exact hV
theorem refRead_any (s : List UInt8) (w : World) (hl : s.length ≤ 140737488351232) : Calls Tryd.prog 13 #[.string (S s)] w (RetRR w (readR s)) := by
  by_cases h48 : s.length = 48
  · have hl0 : 0 < s.length := by omega
    have hl1 : 1 < s.length := by omega
    have e0 : s.getD 0 0 = s[0] := by rw [List.getD_eq_getElem?_getD, List.getElem?_eq_getElem hl0]; rfl
    by_cases h : (s[0]'hl0).toNat < 128
    · cases hk : kindOf (((s[0]'hl0).toNat % 64 : Nat) : Int) with
      | none =>
        have e : readR s = (hd0, 0, 0, 1) := by unfold readR; rw [if_neg (by omega), e0, if_neg (by omega), hk]
        rw [e]
        exact refRead_none s w h48 hl0 h hk
      | some k =>
        by_cases hg : (64 ≤ (s[0]'hl0).toNat → (s[0]'hl0).toNat % 64 < 32) ∧ (s[1]'hl1).toNat ||| k.fl = k.fl
        · exact refRead_some s k w h48 hl0 hl1 h hk hg.1 hg.2
        · have e := (readR_is h48 (List.getElem?_eq_getElem hl0) (List.getElem?_eq_getElem hl1) h hk).2 (fun h => hg ⟨h.1, h.2.1⟩)
          rw [e]
          exact refRead_form s k w h48 hl0 hl1 h hk hg
    · have e : readR s = (hd0, 0, 0, 3) := by unfold readR; rw [if_neg (by omega), e0, if_pos (by omega)]
      rw [e]
      exact refRead_high s w h48 hl0 (by omega)
  · have e : readR s = (hd0, 0, 0, 7) := by unfold readR; rw [if_pos h48]
    rw [e]
    exact refRead_few s w h48 hl
end Go.Proofs.YtffdlchoaaakdaaDoor
