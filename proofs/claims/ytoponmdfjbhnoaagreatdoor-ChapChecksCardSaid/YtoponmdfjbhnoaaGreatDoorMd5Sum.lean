/- md5.ending, md5.Sum. -/
import Derived.Test.YtoponmdfjbhnoaaGreatDoorMd5All
import Derived.Test.YtoponmdfjbhnoaaGreatDoorShMd5
import Derived.Deep.RegionWith
namespace Go.Proofs.YtoponmdfjbhnoaaGreatDoor
open Go.RowKit
theorem repeatL_zero : ∀ c, Lib.repeatL [0] c = List.replicate c 0
  | 0 => rfl
  | c + 1 => by rw [Lib.repeatL, repeatL_zero c, List.replicate_succ]; rfl
theorem repeat0_any (c : Nat) (w : World) (hc : c ≤ 1000) :
    Calls Tryz.prog 38 #[.string (S [0]), .int .i64 c] w fun e w' => e = .returned (.string (S (List.replicate c 0))) ∧ Below w.heap.size w w' := by
  refine (Tryz.strings_Repeat (S [0]) c w (by omega) (by rw [S_size]; simp; omega)).mono ?_
  rintro e w' ⟨rfl, h⟩
  refine ⟨?_, h⟩
  rw [show (S [0]).data.toList = [0] from rfl, repeatL_zero]
  rfl
def mEnd (n : Nat) (z : Nat) : List UInt8 := 128 :: (List.replicate z 0 ++ (le4 (n * 8 % 4294967296) ++ le4 (n * 8 / 4294967296 % 4294967296)))
theorem mTail_end (n : Nat) : mTail n = mEnd n ((119 - n % 64) % 64) := by unfold mTail mEnd; rw [List.append_assoc]
set_option maxRecDepth 100000 in
theorem ending_any (r : List UInt8) (n : Nat) (w : World) (hr : r.length < 64) (hn : n ≤ 4294967280) :
    Calls Tryz.prog 22 #[.string (S r), .int .i64 n] w fun e w' => e = .returned (.string (S (r ++ mEnd n ((119 - r.length) % 64)))) ∧ Below w.heap.size w w' := by
  obtain ⟨z, hz⟩ : ∃ z, (119 - r.length) % 64 = z := ⟨_, rfl⟩
  have hzi : (128 - (r.length : Int) - 9) % 64 = (z : Int) := by omega
  have hz64 : z < 64 := by omega
  obtain ⟨lo, hlo⟩ : ∃ x, n * 8 % 4294967296 = x := ⟨_, rfl⟩
  obtain ⟨hi, hhi⟩ : ∃ x, n * 8 / 4294967296 % 4294967296 = x := ⟨_, rfl⟩
  have hloi : (n : Int) * 8 % 4294967296 = (lo : Int) := by omega
  have hhii : (n : Int) * 8 / 4294967296 = (hi : Int) := by omega
  have hres : mEnd n z = 128 :: (List.replicate z 0 ++ [lo, hi].flatMap le4) := by
    unfold mEnd; rw [hlo, hhi]; rfl
  rw [hz, hres]
  have hc0 : (0 : Int) ≤ 128 - (r.length : Int) - 9 := by omega
  have k1 := fun W => repeat0_any z W (by omega)
  have k2 := fun W b hc => lowestFirst_any [lo, hi] b 2 W (by simp) hc
  have hql : (List.replicate z (0 : UInt8)).length ≤ 64 := by rw [List.length_replicate]; omega
  have hl : ([lo, hi].flatMap le4).length = 8 := rfl
  generalize List.replicate z (0 : UInt8) = q at hql k1 ⊢
  generalize [lo, hi].flatMap le4 = f at hl k2 ⊢
  have K1 := Lib.hid k1
  have K2 := Lib.hid k2
  clear hz hlo hhi hres k1 k2
  go_enter Tryz.func22, Tryz.ntmps22
  go_wp2_with fail
  refine (K1.out _).mono ?_
  rintro e w1 ⟨rfl, hb1⟩
  have hcell : ∀ j (hj : j < [lo, hi].length), (w1.alloc (.cells #[.int .u32 (lo : Int), .int .u32 (hi : Int)] 55)).cell? ⟨w1.heap.size, j, none⟩ = some (.int .u32 ([lo, hi][j] : Int)) := fun j hj => by
    match j, hj with
    | 0, _ => simp
    | 1, _ => simp
  have Hcell := Lib.hid hcell
  clear hcell
  go_wp2_with fail
  refine (K2.out _ _ Hcell.out).mono ?_
  rintro e w2 ⟨rfl, hb2⟩
  go_wp2_with fail
  go_ret
  exact ⟨ret_S (by simp), below_then hb1 (((Below.refl _ _).alloc (Nat.le_refl _) _).trans (hb2.mono (by simp)))⟩
theorem end_len (n z : Nat) : (mEnd n z).length = z + 9 := by
  unfold mEnd
  simp [le4]
/-- a text's sum, as the program comes to it -/
theorem md5L_two (l : List UInt8) : md5L l = outM (stirsTo (stirsTo mInit (l.take (64 * (l.length / 64))) (l.length / 64)) (l.drop (64 * (l.length / 64)) ++ mEnd l.length ((119 - (l.drop (64 * (l.length / 64))).length) % 64)) ((l.drop (64 * (l.length / 64)) ++ mEnd l.length ((119 - (l.drop (64 * (l.length / 64))).length) % 64)).length / 64)) := by
  have hd : (l.drop (64 * (l.length / 64))).length = l.length % 64 := by rw [List.length_drop]; omega
  have ht : (l.take (64 * (l.length / 64))).length = 64 * (l.length / 64) := by rw [List.length_take]; omega
  unfold md5L
  rw [mTail_end, hd]
  have e : l ++ mEnd l.length ((119 - l.length % 64) % 64) = l.take (64 * (l.length / 64)) ++ (l.drop (64 * (l.length / 64)) ++ mEnd l.length ((119 - l.length % 64) % 64)) := by
    rw [← List.append_assoc, List.take_append_drop]
  rw [e]
  have hlen : (l.take (64 * (l.length / 64)) ++ (l.drop (64 * (l.length / 64)) ++ mEnd l.length ((119 - l.length % 64) % 64))).length / 64 = l.length / 64 + (l.drop (64 * (l.length / 64)) ++ mEnd l.length ((119 - l.length % 64) % 64)).length / 64 := by
    rw [List.length_append, ht]; omega
  rw [hlen, stirsTo_app _ _ _ _ ht]
theorem mInit_lt : Lt32 mInit := by unfold Lt32 mInit; decide
set_option maxRecDepth 100000 in
set_option maxHeartbeats 2000000 in
theorem md5Sum_any (l : List UInt8) (w : World) (hl : l.length ≤ 4294967200) (ht : MdTabs w) :
    Calls Tryz.prog 14 #[.string (S l)] w fun e w' => e = .returned (.string (S (md5L l))) ∧ Below w.heap.size w w' := by
  have Ht := Lib.hid ht
  clear ht
  have hmd := md5L_two l
  have hlt := List.length_take (i := 64 * (l.length / 64)) (l := l)
  have hld := List.length_drop (i := 64 * (l.length / 64)) (l := l)
  have c1 := fun W hW => stirAll_any mInit (l.take (64 * (l.length / 64))) W mInit_lt (by omega) hW
  have hq : (l.take (64 * (l.length / 64))).length / 64 = l.length / 64 := by omega
  rw [hq] at c1
  have hs1 := stirsTo_lt mInit (l.take (64 * (l.length / 64))) mInit_lt (l.length / 64)
  rcases hst1 : stirsTo mInit (l.take (64 * (l.length / 64))) (l.length / 64) with ⟨sa, sb, sc, sd⟩
  rw [hst1] at c1 hs1 hmd
  have c2 := fun W => ending_any (l.drop (64 * (l.length / 64))) l.length W (by omega) (by omega)
  have hel := end_len l.length ((119 - (l.drop (64 * (l.length / 64))).length) % 64)
  have hxl : (l.drop (64 * (l.length / 64)) ++ mEnd l.length ((119 - (l.drop (64 * (l.length / 64))).length) % 64)).length ≤ 4294967280 := by rw [List.length_append, hel]; omega
  obtain ⟨x, hx⟩ : ∃ x, l.drop (64 * (l.length / 64)) ++ mEnd l.length ((119 - (l.drop (64 * (l.length / 64))).length) % 64) = x := ⟨_, rfl⟩
  rw [hx] at c2 hmd hxl
  have c3 := fun W hW => stirAll_any (sa, sb, sc, sd) x W hs1 hxl hW
  have hs2 := stirsTo_lt (sa, sb, sc, sd) x hs1 (x.length / 64)
  rcases hst2 : stirsTo (sa, sb, sc, sd) x (x.length / 64) with ⟨ta, tb, tc, td⟩
  rw [hst2] at c3 hmd
  have e0 : st4 mInit = #[.int .u32 1732584193, .int .u32 4023233417, .int .u32 2562383102, .int .u32 271733878] := rfl
  have e1 : st4 (sa, sb, sc, sd) = #[.int .u32 (sa : Int), .int .u32 (sb : Int), .int .u32 (sc : Int), .int .u32 (sd : Int)] := rfl
  have e2 : st4 (ta, tb, tc, td) = #[.int .u32 (ta : Int), .int .u32 (tb : Int), .int .u32 (tc : Int), .int .u32 (td : Int)] := rfl
  rw [e0, e1] at c1
  rw [e1, e2] at c3
  obtain ⟨p, hp⟩ : ∃ p, l.take (64 * (l.length / 64)) = p := ⟨_, rfl⟩
  obtain ⟨r, hr⟩ : ∃ r, l.drop (64 * (l.length / 64)) = r := ⟨_, rfl⟩
  rw [hp] at c1
  rw [hr] at c2
  have hout : md5L l = [ta, tb, tc, td].flatMap le4 := by
    rw [hmd]; unfold outM; simp
  have C1 := Lib.hid c1
  have C2 := Lib.hid c2
  have C3 := Lib.hid c3
  have Hout := Lib.hid hout
  obtain ⟨m, hm⟩ : ∃ m, 64 * (l.length / 64) = m := ⟨_, rfl⟩
  rw [hm] at hp hr
  have hmi : (l.length : Int) - (l.length : Int) % 64 = (m : Int) := by omega
  have hml : (m : Int) ≤ (l.length : Int) := by omega
  have hm0 : (0 : Int) ≤ (m : Int) := by omega
  have hr2 : r.take (l.length - m) = r := by rw [← hr, List.take_of_length_le (by rw [List.length_drop]; omega)]
  clear c1 c2 c3 hmd hout hst1 hst2 hx hq hs1 hs2 hel hlt hld e0 e1 e2 hm hxl
  go_enter Tryz.func14, Tryz.ntmps14
  go_wp2_with fail
  have h4 : At4 (w.alloc (.cells #[.int .u32 1732584193, .int .u32 4023233417, .int .u32 2562383102, .int .u32 271733878] 59)) w.heap.size mInit := heap_alloc_new w _
  have hlow : Below w.heap.size w (w.alloc (.cells #[.int .u32 1732584193, .int .u32 4023233417, .int .u32 2562383102, .int .u32 271733878] 59)) := (Below.refl _ _).alloc (Nat.le_refl _) _
  have H4 := Lib.hid h4
  have Hlow := Lib.hid hlow
  have Ht1 := Lib.hid (Ht.out.later hlow)
  clear h4 hlow
  obtain ⟨W1, hW⟩ : ∃ W1, w.alloc (.cells #[.int .u32 1732584193, .int .u32 4023233417, .int .u32 2562383102, .int .u32 271733878] 59) = W1 := ⟨_, rfl⟩
  rw [hW] at H4 Hlow Ht1 ⊢
  clear hW
  obtain ⟨q0, q1, q2, q3⟩ := H4.out.cells
  have f0 := H4.out.frozen 0
  have f1 := H4.out.frozen 1
  have f2 := H4.out.frozen 2
  have f3 := H4.out.frozen 3
  simp only [mInit] at q0 q1 q2 q3
  go_region_with (first
    | (go_at_call 21; refine (C1.out _ (Ht1.out.drawn 1)).mono ?_; rintro e w' ⟨rfl, hb'⟩; have g0 := keepcell (W := W1.drew) hb' q0; have g1 := keepcell (W := W1.drew) hb' q1; have g2 := keepcell (W := W1.drew) hb' q2; have g3 := keepcell (W := W1.drew) hb' q3; have e0 := keepfrozen (W := W1.drew) hb' q0 f0; have e1 := keepfrozen (W := W1.drew) hb' q1 f1; have e2 := keepfrozen (W := W1.drew) hb' q2 f2; have e3 := keepfrozen (W := W1.drew) hb' q3 f3))
  have hne := Nat.le_refl w.heap.size
  have a1 := (H4.out.later (((Below.refl _ _).drew).trans hb')).stored sa sb sc sd
  have a2 := ((((Hlow.out.trans ((((Below.refl _ _).drew).trans hb').mono Hlow.out.size)).setCell (p := ⟨w.heap.size, 0, none⟩) hne (.int .u32 sa)).setCell (p := ⟨w.heap.size, 1, none⟩) hne (.int .u32 sb)).setCell (p := ⟨w.heap.size, 2, none⟩) hne (.int .u32 sc)).setCell (p := ⟨w.heap.size, 3, none⟩) hne (.int .u32 sd)
  have A1 := Lib.hid a1
  have A2 := Lib.hid a2
  clear a1 a2 g0 g1 g2 g3 e0 e1 e2 e3 f0 f1 f2 f3 q0 q1 q2 q3
  go_wp2_with fail
  obtain ⟨W2, hW⟩ : ∃ W2, (((w'.setCell ⟨w.heap.size, 0, none⟩ (.int .u32 sa)).setCell ⟨w.heap.size, 1, none⟩ (.int .u32 sb)).setCell ⟨w.heap.size, 2, none⟩ (.int .u32 sc)).setCell ⟨w.heap.size, 3, none⟩ (.int .u32 sd) = W2 := ⟨_, rfl⟩
  rw [hW] at A1 A2 ⊢
  clear hW
  have Ht2 := Lib.hid (Ht.out.later A2.out)
  obtain ⟨q0, q1, q2, q3⟩ := A1.out.cells
  have f0 := A1.out.frozen 0
  have f1 := A1.out.frozen 1
  have f2 := A1.out.frozen 2
  have f3 := A1.out.frozen 3
  simp only at q0 q1 q2 q3
  go_region_with (first
    | (go_at_call 22; (with_reducible refine (C2.out _).mono ?_); rintro e v1 ⟨rfl, hv1⟩; have g0 := keepcell (W := W2.drew) hv1 q0; have g1 := keepcell (W := W2.drew) hv1 q1; have g2 := keepcell (W := W2.drew) hv1 q2; have g3 := keepcell (W := W2.drew) hv1 q3)
    | (go_at_call 21; have hmd := Ht2.out.later (((Below.refl _ _).drew).trans hv1); (with_reducible refine (C3.out _ hmd).mono ?_); clear hmd; rintro e v2 ⟨rfl, hv2⟩; have g0 := keepcell hv2 (keepcell (W := W2.drew) hv1 q0); have g1 := keepcell hv2 (keepcell (W := W2.drew) hv1 q1); have g2 := keepcell hv2 (keepcell (W := W2.drew) hv1 q2); have g3 := keepcell hv2 (keepcell (W := W2.drew) hv1 q3); have e0 := keepfrozen hv2 (keepcell (W := W2.drew) hv1 q0) (keepfrozen (W := W2.drew) hv1 q0 f0); have e1 := keepfrozen hv2 (keepcell (W := W2.drew) hv1 q1) (keepfrozen (W := W2.drew) hv1 q1 f1); have e2 := keepfrozen hv2 (keepcell (W := W2.drew) hv1 q2) (keepfrozen (W := W2.drew) hv1 q2 f2); have e3 := keepfrozen hv2 (keepcell (W := W2.drew) hv1 q3) (keepfrozen (W := W2.drew) hv1 q3 f3)))
  all_goals
    have hbb : Below W2.heap.size W2 v2 := below_then (((Below.refl _ _).drew).trans hv1) hv2
    have b1 := (A1.out.later hbb).stored ta tb tc td
    have b2 := ((((A2.out.trans (hbb.mono A2.out.size)).setCell (p := ⟨w.heap.size, 0, none⟩) hne (.int .u32 ta)).setCell (p := ⟨w.heap.size, 1, none⟩) hne (.int .u32 tb)).setCell (p := ⟨w.heap.size, 2, none⟩) hne (.int .u32 tc)).setCell (p := ⟨w.heap.size, 3, none⟩) hne (.int .u32 td)
    have B1 := Lib.hid b1
    have B2 := Lib.hid b2
    clear b1 b2 g0 g1 g2 g3 e0 e1 e2 e3 f0 f1 f2 f3 q0 q1 q2 q3
    go_wp2_with fail
    obtain ⟨W3, hW⟩ : ∃ W3, (((v2.setCell ⟨w.heap.size, 0, none⟩ (.int .u32 ta)).setCell ⟨w.heap.size, 1, none⟩ (.int .u32 tb)).setCell ⟨w.heap.size, 2, none⟩ (.int .u32 tc)).setCell ⟨w.heap.size, 3, none⟩ (.int .u32 td) = W3 := ⟨_, rfl⟩
    rw [hW] at B1 B2 ⊢
    clear hW
    obtain ⟨q0, q1, q2, q3⟩ := B1.out.cells
    simp only at q0 q1 q2 q3
    have hcell : ∀ j (hj : j < [ta, tb, tc, td].length), W3.cell? ⟨w.heap.size, j, none⟩ = some (.int .u32 ([ta, tb, tc, td][j] : Int)) := fun j hj => by
      match j, hj with
      | 0, _ => exact q0
      | 1, _ => exact q1
      | 2, _ => exact q2
      | 3, _ => exact q3
    have hcall := lowestFirst_any [ta, tb, tc, td] w.heap.size 4 W3 (by simp) hcell
    rw [← Hout.out] at hcall
    refine hcall.mono ?_
    rintro e W4 ⟨rfl, hb4⟩
    clear hcall hcell q0 q1 q2 q3
    go_wp2_with fail
    go_ret
    exact ⟨rfl, below_then B2.out hb4⟩
end Go.Proofs.YtoponmdfjbhnoaaGreatDoor
