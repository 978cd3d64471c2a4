/- LA20: several texts in one. -/
import Derived.Below
import Derived.BigQuiet
import Derived.BigRegion
import Derived.Deep.QuietTactic
import Derived.Deep.RegionLaw
import Derived.Deep.RegionWith
import Derived.Lib.SliceRun
import Derived.OrdersHeld
import Derived.StillTailTactics
import Derived.Test.YtjbbbpgcegcbaaaGreatDoorLA01
import Derived.Test.YtjbbbpgcegcbaaaGreatDoorLA03
import Derived.Test.YtjbbbpgcegcbaaaGreatDoorLA09
import Derived.Test.YtjbbbpgcegcbaaaGreatDoorLA10
import Derived.Test.YtjbbbpgcegcbaaaGreatDoorLA15
import Derived.Test.YtjbbbpgcegcbaaaGreatDoorLA16
import Derived.Test.YtjbbbpgcegcbaaaGreatDoorLA19
namespace Go.Proofs.YtjbbbpgcegcbaaaGreatDoor
open Go.RowKit
theorem repeatL_zero : ∀ c, Lib.repeatL [0] c = List.replicate c 0
 | 0 => rfl
 | c + 1 => by rw [Lib.repeatL, repeatL_zero c, List.replicate_succ]; rfl
theorem repeat0_any (c : Nat) (w : World) (hc : c ≤ 1000) :
  Calls Tryz.prog 122 #[.string (S [0]), .int .i64 c] w fun e w' => e = .returned (.string (S (List.replicate c 0))) ∧ Below w.heap.size w w' := by
 refine (Tryz.strings_Repeat (S [0]) c w (by omega) (by rw [S_size]; simp; omega)).mono ?_
 rintro e w' ⟨rfl, h⟩
 refine ⟨?_, h⟩
 rw [show (S [0]).data.toList = [0] from rfl, repeatL_zero]
 rfl
def mEnd (n : Nat) (z : Nat) : List UInt8 := 128 :: (List.replicate z 0 ++ (le4 (n * 8 % 4294967296) ++ le4 (n * 8 / 4294967296 % 4294967296)))
theorem mTail_end (n : Nat) : mTail n = mEnd n ((119 - n % 64) % 64) := by unfold mTail mEnd; rw [List.append_assoc]
set_option maxRecDepth 100000 in
theorem ending_any (r : List UInt8) (n : Nat) (w : World) (hr : r.length < 64) (hn : n ≤ 4294967280) :
  Calls Tryz.prog 84 #[.string (S r), .int .i64 n] w fun e w' => e = .returned (.string (S (r ++ mEnd n ((119 - r.length) % 64)))) ∧ Below w.heap.size w w' := by
 obtain ⟨z, hz⟩ : ∃ z, (119 - r.length) % 64 = z := ⟨_, rfl⟩
 have hzi : (128 - (r.length : Int) - 9) % 64 = (z : Int) := by omega
 have hz64 : z < 64 := by omega
 obtain ⟨lo, hlo⟩ : ∃ x, n * 8 % 4294967296 = x := ⟨_, rfl⟩
 obtain ⟨hi, hhi⟩ : ∃ x, n * 8 / 4294967296 % 4294967296 = x := ⟨_, rfl⟩
 have hloi : (n : Int) * 8 % 4294967296 = (lo : Int) := by omega
 have hhii : (n : Int) * 8 / 4294967296 = (hi : Int) := by omega
 have hres : mEnd n z = 128 :: (List.replicate z 0 ++ [lo, hi].flatMap le4) := by
  unfold mEnd; rw [hlo, hhi]; rfl
 rw [hz, hres]
 have hc0 : (0 : Int) ≤ 128 - (r.length : Int) - 9 := by omega
 have k1 := fun W => repeat0_any z W (by omega)
 have k2 := fun W b hc => lowestFirst_any [lo, hi] b 2 W (by simp) hc
 have hql : (List.replicate z (0 : UInt8)).length ≤ 64 := by rw [List.length_replicate]; omega
 have hl : ([lo, hi].flatMap le4).length = 8 := rfl
 generalize List.replicate z (0 : UInt8) = q at hql k1 ⊢
 generalize [lo, hi].flatMap le4 = f at hl k2 ⊢
 have K1 := Lib.hid k1
 have K2 := Lib.hid k2
 clear hz hlo hhi hres k1 k2
 go_enter Tryz.func84, Tryz.ntmps84
 go_wp2_with fail
 refine (K1.out _).mono ?_
 rintro e w1 ⟨rfl, hb1⟩
 have hcell : ∀ j (hj : j < [lo, hi].length), (w1.alloc (.cells #[.int .u32 (lo : Int), .int .u32 (hi : Int)] 66)).cell? ⟨w1.heap.size, j, none⟩ = some (.int .u32 ([lo, hi][j] : Int)) := fun j hj => by
  match j, hj with
  | 0, _ => simp
  | 1, _ => simp
 have Hcell := Lib.hid hcell
 clear hcell
 go_wp2_with fail
 refine (K2.out _ _ Hcell.out).mono ?_
 rintro e w2 ⟨rfl, hb2⟩
 go_wp2_with fail
 go_ret
 exact ⟨ret_S (by simp), below_then hb1 (((Below.refl _ _).alloc (Nat.le_refl _) _).trans (hb2.mono (by simp)))⟩
theorem end_len (n z : Nat) : (mEnd n z).length = z + 9 := by
 unfold mEnd
 simp [le4]
theorem md5L_two (l : List UInt8) : md5L l = outM (stirsTo (stirsTo mInit (l.take (64 * (l.length / 64))) (l.length / 64)) (l.drop (64 * (l.length / 64)) ++ mEnd l.length ((119 - (l.drop (64 * (l.length / 64))).length) % 64)) ((l.drop (64 * (l.length / 64)) ++ mEnd l.length ((119 - (l.drop (64 * (l.length / 64))).length) % 64)).length / 64)) := by
 have hd : (l.drop (64 * (l.length / 64))).length = l.length % 64 := by rw [List.length_drop]; omega
 have ht : (l.take (64 * (l.length / 64))).length = 64 * (l.length / 64) := by rw [List.length_take]; omega
 unfold md5L
 rw [mTail_end, hd]
 have e : l ++ mEnd l.length ((119 - l.length % 64) % 64) = l.take (64 * (l.length / 64)) ++ (l.drop (64 * (l.length / 64)) ++ mEnd l.length ((119 - l.length % 64) % 64)) := by
  rw [← List.append_assoc, List.take_append_drop]
 rw [e]
 have hlen : (l.take (64 * (l.length / 64)) ++ (l.drop (64 * (l.length / 64)) ++ mEnd l.length ((119 - l.length % 64) % 64))).length / 64 = l.length / 64 + (l.drop (64 * (l.length / 64)) ++ mEnd l.length ((119 - l.length % 64) % 64)).length / 64 := by
  rw [List.length_append, ht]; omega
 rw [hlen, stirsTo_app _ _ _ _ ht]
theorem mInit_lt : Lt32 mInit := by unfold Lt32 mInit; decide
set_option maxRecDepth 100000 in
set_option maxHeartbeats 2000000 in
theorem md5Sum_any (l : List UInt8) (w : World) (hl : l.length ≤ 4294967200) (ht : MdTabs w) :
  Calls Tryz.prog 54 #[.string (S l)] w fun e w' => e = .returned (.string (S (md5L l))) ∧ Below w.heap.size w w' := by
 have Ht := Lib.hid ht
 clear ht
 have hmd := md5L_two l
 have hlt := List.length_take (i := 64 * (l.length / 64)) (l := l)
 have hld := List.length_drop (i := 64 * (l.length / 64)) (l := l)
 have c1 := fun W hW => stirAll_any mInit (l.take (64 * (l.length / 64))) W mInit_lt (by omega) hW
 have hq : (l.take (64 * (l.length / 64))).length / 64 = l.length / 64 := by omega
 rw [hq] at c1
 have hs1 := stirsTo_lt mInit (l.take (64 * (l.length / 64))) mInit_lt (l.length / 64)
 rcases hst1 : stirsTo mInit (l.take (64 * (l.length / 64))) (l.length / 64) with ⟨sa, sb, sc, sd⟩
 rw [hst1] at c1 hs1 hmd
 have c2 := fun W => ending_any (l.drop (64 * (l.length / 64))) l.length W (by omega) (by omega)
 have hel := end_len l.length ((119 - (l.drop (64 * (l.length / 64))).length) % 64)
 have hxl : (l.drop (64 * (l.length / 64)) ++ mEnd l.length ((119 - (l.drop (64 * (l.length / 64))).length) % 64)).length ≤ 4294967280 := by rw [List.length_append, hel]; omega
 obtain ⟨x, hx⟩ : ∃ x, l.drop (64 * (l.length / 64)) ++ mEnd l.length ((119 - (l.drop (64 * (l.length / 64))).length) % 64) = x := ⟨_, rfl⟩
 rw [hx] at c2 hmd hxl
 have c3 := fun W hW => stirAll_any (sa, sb, sc, sd) x W hs1 hxl hW
 have hs2 := stirsTo_lt (sa, sb, sc, sd) x hs1 (x.length / 64)
 rcases hst2 : stirsTo (sa, sb, sc, sd) x (x.length / 64) with ⟨ta, tb, tc, td⟩
 rw [hst2] at c3 hmd
 have e0 : st4 mInit = #[.int .u32 1732584193, .int .u32 4023233417, .int .u32 2562383102, .int .u32 271733878] := rfl
 have e1 : st4 (sa, sb, sc, sd) = #[.int .u32 (sa : Int), .int .u32 (sb : Int), .int .u32 (sc : Int), .int .u32 (sd : Int)] := rfl
 have e2 : st4 (ta, tb, tc, td) = #[.int .u32 (ta : Int), .int .u32 (tb : Int), .int .u32 (tc : Int), .int .u32 (td : Int)] := rfl
 rw [e0, e1] at c1
 rw [e1, e2] at c3
 obtain ⟨p, hp⟩ : ∃ p, l.take (64 * (l.length / 64)) = p := ⟨_, rfl⟩
 obtain ⟨r, hr⟩ : ∃ r, l.drop (64 * (l.length / 64)) = r := ⟨_, rfl⟩
 rw [hp] at c1
 rw [hr] at c2
 have hout : md5L l = [ta, tb, tc, td].flatMap le4 := by
  rw [hmd]; unfold outM; simp
 have C1 := Lib.hid c1
 have C2 := Lib.hid c2
 have C3 := Lib.hid c3
 have Hout := Lib.hid hout
 obtain ⟨m, hm⟩ : ∃ m, 64 * (l.length / 64) = m := ⟨_, rfl⟩
 rw [hm] at hp hr
 have hmi : (l.length : Int) - (l.length : Int) % 64 = (m : Int) := by omega
 have hml : (m : Int) ≤ (l.length : Int) := by omega
 have hm0 : (0 : Int) ≤ (m : Int) := by omega
 have hr2 : r.take (l.length - m) = r := by rw [← hr, List.take_of_length_le (by rw [List.length_drop]; omega)]
 clear c1 c2 c3 hmd hout hst1 hst2 hx hq hs1 hs2 hel hlt hld e0 e1 e2 hm hxl
 go_enter Tryz.func54, Tryz.ntmps54
 go_wp2_with fail
 have h4 : At4 (w.alloc (.cells #[.int .u32 1732584193, .int .u32 4023233417, .int .u32 2562383102, .int .u32 271733878] 154)) w.heap.size mInit := heap_alloc_new w _
 have hlow : Below w.heap.size w (w.alloc (.cells #[.int .u32 1732584193, .int .u32 4023233417, .int .u32 2562383102, .int .u32 271733878] 154)) := (Below.refl _ _).alloc (Nat.le_refl _) _
 have H4 := Lib.hid h4
 have Hlow := Lib.hid hlow
 have Ht1 := Lib.hid (Ht.out.later hlow)
 clear h4 hlow
 obtain ⟨W1, hW⟩ : ∃ W1, w.alloc (.cells #[.int .u32 1732584193, .int .u32 4023233417, .int .u32 2562383102, .int .u32 271733878] 154) = W1 := ⟨_, rfl⟩
 rw [hW] at H4 Hlow Ht1 ⊢
 clear hW
 obtain ⟨q0, q1, q2, q3⟩ := H4.out.cells
 have f0 := H4.out.frozen 0
 have f1 := H4.out.frozen 1
 have f2 := H4.out.frozen 2
 have f3 := H4.out.frozen 3
 simp only [mInit] at q0 q1 q2 q3
 go_region_with (first
  | (go_at_call 83; refine (C1.out _ (Ht1.out.drawn 1)).mono ?_; rintro e w' ⟨rfl, hb'⟩; have g0 := keepcell (W := W1.drew) hb' q0; have g1 := keepcell (W := W1.drew) hb' q1; have g2 := keepcell (W := W1.drew) hb' q2; have g3 := keepcell (W := W1.drew) hb' q3; have e0 := keepfrozen (W := W1.drew) hb' q0 f0; have e1 := keepfrozen (W := W1.drew) hb' q1 f1; have e2 := keepfrozen (W := W1.drew) hb' q2 f2; have e3 := keepfrozen (W := W1.drew) hb' q3 f3))
 have hne := Nat.le_refl w.heap.size
 have a1 := (H4.out.later (((Below.refl _ _).drew).trans hb')).stored sa sb sc sd
 have a2 := ((((Hlow.out.trans ((((Below.refl _ _).drew).trans hb').mono Hlow.out.size)).setCell (p := ⟨w.heap.size, 0, none⟩) hne (.int .u32 sa)).setCell (p := ⟨w.heap.size, 1, none⟩) hne (.int .u32 sb)).setCell (p := ⟨w.heap.size, 2, none⟩) hne (.int .u32 sc)).setCell (p := ⟨w.heap.size, 3, none⟩) hne (.int .u32 sd)
 have A1 := Lib.hid a1
 have A2 := Lib.hid a2
 clear a1 a2 g0 g1 g2 g3 e0 e1 e2 e3 f0 f1 f2 f3 q0 q1 q2 q3
 go_wp2_with fail
 obtain ⟨W2, hW⟩ : ∃ W2, (((w'.setCell ⟨w.heap.size, 0, none⟩ (.int .u32 sa)).setCell ⟨w.heap.size, 1, none⟩ (.int .u32 sb)).setCell ⟨w.heap.size, 2, none⟩ (.int .u32 sc)).setCell ⟨w.heap.size, 3, none⟩ (.int .u32 sd) = W2 := ⟨_, rfl⟩
 rw [hW] at A1 A2 ⊢
 clear hW
 have Ht2 := Lib.hid (Ht.out.later A2.out)
 obtain ⟨q0, q1, q2, q3⟩ := A1.out.cells
 have f0 := A1.out.frozen 0
 have f1 := A1.out.frozen 1
 have f2 := A1.out.frozen 2
 have f3 := A1.out.frozen 3
 simp only at q0 q1 q2 q3
 go_region_with (first
  | (go_at_call 84; (with_reducible refine (C2.out _).mono ?_); rintro e v1 ⟨rfl, hv1⟩; have g0 := keepcell (W := W2.drew) hv1 q0; have g1 := keepcell (W := W2.drew) hv1 q1; have g2 := keepcell (W := W2.drew) hv1 q2; have g3 := keepcell (W := W2.drew) hv1 q3)
  | (go_at_call 83; have hmd := Ht2.out.later (((Below.refl _ _).drew).trans hv1); (with_reducible refine (C3.out _ hmd).mono ?_); clear hmd; rintro e v2 ⟨rfl, hv2⟩; have g0 := keepcell hv2 (keepcell (W := W2.drew) hv1 q0); have g1 := keepcell hv2 (keepcell (W := W2.drew) hv1 q1); have g2 := keepcell hv2 (keepcell (W := W2.drew) hv1 q2); have g3 := keepcell hv2 (keepcell (W := W2.drew) hv1 q3); have e0 := keepfrozen hv2 (keepcell (W := W2.drew) hv1 q0) (keepfrozen (W := W2.drew) hv1 q0 f0); have e1 := keepfrozen hv2 (keepcell (W := W2.drew) hv1 q1) (keepfrozen (W := W2.drew) hv1 q1 f1); have e2 := keepfrozen hv2 (keepcell (W := W2.drew) hv1 q2) (keepfrozen (W := W2.drew) hv1 q2 f2); have e3 := keepfrozen hv2 (keepcell (W := W2.drew) hv1 q3) (keepfrozen (W := W2.drew) hv1 q3 f3)))
 all_goals
  have hbb : Below W2.heap.size W2 v2 := below_then (((Below.refl _ _).drew).trans hv1) hv2
  have b1 := (A1.out.later hbb).stored ta tb tc td
  have b2 := ((((A2.out.trans (hbb.mono A2.out.size)).setCell (p := ⟨w.heap.size, 0, none⟩) hne (.int .u32 ta)).setCell (p := ⟨w.heap.size, 1, none⟩) hne (.int .u32 tb)).setCell (p := ⟨w.heap.size, 2, none⟩) hne (.int .u32 tc)).setCell (p := ⟨w.heap.size, 3, none⟩) hne (.int .u32 td)
  have B1 := Lib.hid b1
  have B2 := Lib.hid b2
  clear b1 b2 g0 g1 g2 g3 e0 e1 e2 e3 f0 f1 f2 f3 q0 q1 q2 q3
  go_wp2_with fail
  obtain ⟨W3, hW⟩ : ∃ W3, (((v2.setCell ⟨w.heap.size, 0, none⟩ (.int .u32 ta)).setCell ⟨w.heap.size, 1, none⟩ (.int .u32 tb)).setCell ⟨w.heap.size, 2, none⟩ (.int .u32 tc)).setCell ⟨w.heap.size, 3, none⟩ (.int .u32 td) = W3 := ⟨_, rfl⟩
  rw [hW] at B1 B2 ⊢
  clear hW
  obtain ⟨q0, q1, q2, q3⟩ := B1.out.cells
  simp only at q0 q1 q2 q3
  have hcell : ∀ j (hj : j < [ta, tb, tc, td].length), W3.cell? ⟨w.heap.size, j, none⟩ = some (.int .u32 ([ta, tb, tc, td][j] : Int)) := fun j hj => by
   match j, hj with
   | 0, _ => exact q0
   | 1, _ => exact q1
   | 2, _ => exact q2
   | 3, _ => exact q3
  have hcall := lowestFirst_any [ta, tb, tc, td] w.heap.size 4 W3 (by simp) hcell
  rw [← Hout.out] at hcall
  refine hcall.mono ?_
  rintro e W4 ⟨rfl, hb4⟩
  clear hcall hcell q0 q1 q2 q3
  go_wp2_with fail
  go_ret
  exact ⟨rfl, below_then B2.out hb4⟩
end Go.Proofs.YtjbbbpgcegcbaaaGreatDoor
namespace Go.Proofs.YtjbbbpgcegcbaaaGreatDoor
open Go.RowKit
set_option linter.unusedVariables false
set_option maxRecDepth 100000 in
theorem response_any (id : Int) (s c : List UInt8) (w : World) (ht : MdTabs w) :
  Calls Tryz.prog 16 #[.int .i64 id, .string (S s), .string (S c)] w fun e w' => e = .returned (.tuple #[.string (S (respL id s c).1), errV (respL id s c).2]) ∧ Below w.heap.size w w' := by
 rcases respL_ways id s c with ⟨e, h⟩ | ⟨e, h⟩ | ⟨x, e, hx, hm, h0, h1, h2, h3, h4⟩
 ·rw [e]
  clear e ht
  show Calls _ _ _ _ fun e w' => e = .returned (.tuple #[.string (S []), .iface 56 (.int .i64 2)]) ∧ _
  rcases h with h | h
  ·go_enter Tryz.func16, Tryz.ntmps16
   go_wp2_with fail
   go_ret2
   exact ⟨rfl, Below.refl _ _⟩
  ·have h' : ¬ id < 0 := by omega
   go_enter Tryz.func16, Tryz.ntmps16
   go_wp2_with fail
   go_ret2
   exact ⟨rfl, Below.refl _ _⟩
 ·by_cases hi : id < 0 ∨ 255 < id
  ·rw [respL_range id s c hi] at e
   simp at e
  ·rw [e]
   clear e ht
   show Calls _ _ _ _ fun e w' => e = .returned (.tuple #[.string (S []), .iface 56 (.int .i64 4)]) ∧ _
   have i1 : ¬ id < 0 := by omega
   have i2 : ¬ 255 < id := by omega
   clear hi
   by_cases a1 : 100 < s.length
   ·have a1i : (100 : Int) < (s.length : Int) := by omega
    go_enter Tryz.func16, Tryz.ntmps16
    go_wp2_with fail
    go_ret2
    exact ⟨rfl, Below.refl _ _⟩
   ·have a1i : ¬ (100 : Int) < (s.length : Int) := by omega
    by_cases a2 : c.length = 0
    ·have a2i : (c.length : Int) = 0 := by omega
     go_enter Tryz.func16, Tryz.ntmps16
     go_wp2_with fail
     go_ret2
     exact ⟨rfl, Below.refl _ _⟩
    ·have a2i : ¬ (c.length : Int) = 0 := by omega
     have a3i : (100 : Int) < (c.length : Int) := by omega
     go_enter Tryz.func16, Tryz.ntmps16
     go_wp2_with fail
     go_ret2
     exact ⟨rfl, Below.refl _ _⟩
 ·rw [e]
  clear e
  obtain ⟨k, rfl⟩ := Int.eq_ofNat_of_zero_le h0
  have hk : k ≤ 255 := by omega
  rw [Int.toNat_natCast] at hm
  obtain ⟨y, hy⟩ : ∃ y : UInt8, UInt8.ofNat k = y := ⟨_, rfl⟩
  have hyk : (y.toNat : Int) = (k : Int) := by rw [← hy, UInt8.toNat_ofNat', Nat.mod_eq_of_lt (by omega)]
  rw [hy] at hm
  have hcv := run_string_cells8 (P := Tryz.prog) 116 9 5 Tryz.underlying116 Tryz.underlying5 Tryz.underlying9 w [y] 1 1 5 (by simp)
  rw [show cells8 [y] = #[.int .u8 (k : Int)] by unfold cells8; rw [List.map_cons, hyk]; rfl] at hcv
  have hA := (Below.refl w.heap.size w).alloc (Nat.le_refl _) (.cells #[.int .u8 (k : Int)] 5)
  have M := md5Sum_any (([y] ++ s) ++ c) _ (by simp; omega) (ht.later hA)
  rw [show ([y] ++ s) ++ c = y :: (s ++ c) by simp, ← hm] at M
  have M := Lib.hid M
  have HA := Lib.hid hA
  show Calls _ _ _ _ fun e w' => e = .returned (.tuple #[.string (S x), .nilIface]) ∧ _
  have i1 : ¬ (k : Int) < 0 := by omega
  have i2 : ¬ (255 : Int) < (k : Int) := by omega
  have a1i : ¬ (100 : Int) < (s.length : Int) := by omega
  have a2i : ((c.length : Int) == 0) = false := by rw [beq_eq_false_iff_ne]; omega
  have a2n : ¬ c = [] := fun e => by rw [e] at h3; simp at h3
  have a3i : ¬ (100 : Int) < (c.length : Int) := by omega
  clear hm hx hA hy hyk ht
  go_enter Tryz.func16, Tryz.ntmps16
  go_wp2_with fail
  refine M.out.mono ?_
  rintro e w1 ⟨rfl, hb1⟩
  have Hb1 := Lib.hid (below_then HA.out hb1)
  clear hb1
  go_wp2_with fail
  go_ret2
  exact ⟨rfl, Hb1.out⟩
def usR (o : Option Us) : Value := match o with
 | some u => .tuple #[.agg #[.string (S u.nm), .string (S u.sc)], .bool true]
 | none => .tuple #[.agg #[.string (S []), .string (S [])], .bool false]
set_option maxRecDepth 100000 in
theorem findU_any (l : List Us) (name : List UInt8) (v : Value) (w : World) (hv : UsV w v l) (hl : l.length ≤ 140737488355328) :
  Calls Tryz.prog 15 #[v, .string (S name)] w fun e w' => e = .returned (usR (usFind l name)) ∧ Below w.heap.size w w' := by
 obtain ⟨p, c, rfl, _, hc⟩ := hv
 have Hc := Lib.hid hc
 have HB0 := Lib.hid ((Below.refl w.heap.size w).alloc (Nat.le_refl _) (.cells #[.string (S []), .string (S [])] 26))
 have HK0 := Lib.hid (Blk.new w #[.string (S []), .string (S [])] 26)
 clear hc
 go_enter Tryz.func15, Tryz.ntmps15
 go_wp2_with fail
 go_loopw [10] (fun i wr => ∃ j : Nat, j ≤ l.length ∧ i = .int .i64 j ∧ usFind (l.drop j) name = usFind l name ∧ Blk wr w.heap.size #[.string (S []), .string (S [])] 26 ∧ Below w.heap.size w wr) (fun i _ => l.length - (intOf i).toNat)
 case atStart => exact ⟨0, by omega, rfl, rfl, HK0.out, HB0.out⟩
 case round =>
  obtain ⟨j, hj, rfl, hr, hk, hb⟩ := hrel
  have Hb := Lib.hid hb
  by_cases hlt : j < l.length
  ·obtain ⟨b, o, rfl, hcl⟩ := Hc.out (by omega)
   obtain ⟨h1, h2⟩ := hcl j hlt
   rw [← (bcell hb).1 b (o + j * 2) (block_lt_of_cell (w := w) (a := ⟨b, o + j * 2, none⟩) h1)] at h1
   rw [← (bcell hb).1 b (o + j * 2 + 1) (block_lt_of_cell (w := w) (a := ⟨b, o + j * 2 + 1, none⟩) h2)] at h2
   obtain ⟨a, ha⟩ : ∃ a, l[j] = a := ⟨_, rfl⟩
   rw [List.drop_eq_getElem_cons hlt] at hr
   rw [ha] at h1 h2 hr
   obtain ⟨k, d⟩ := a
   simp only at h1 h2
   have hk1 := hk.alloc (.cells #[.string (S k), .string (S d)] 26)
   obtain ⟨q0, q1⟩ := hk1.two
   have f0 := hk1.frozen 0
   have f1 := hk1.frozen 1
   have Hk1 := Lib.hid hk1
   have Hb1 := Lib.hid (hb.alloc hb.size (.cells #[.string (S k), .string (S d)] 26))
   have e0 : usFind (⟨k, d⟩ :: l.drop (j + 1)) name = if k = name then some ⟨k, d⟩ else usFind (l.drop (j + 1)) name := rfl
   rw [e0] at hr
   have Hr := Lib.hid hr
   clear hr hcl hb ha e0 hk hk1
   by_cases hk : k = name
   ·rw [if_pos hk] at Hr
    subst hk
    go_wp2_with fail
    refine bodyPost_ret (v := .tuple #[.agg #[.string (S k), .string (S d)], .bool true]) (by simp [results, Tryz.results15, go_sem, q0, q1]) rfl ?_
    rw [← Hr.out]
    exact ⟨rfl, (Hb1.out.setCell (Nat.le_refl _) _).setCell (Nat.le_refl _) _⟩
   ·rw [if_neg hk] at Hr
    have hS : (k == name) = false := by
     rw [beq_eq_false_iff_ne]
     exact hk
    go_wp2_with fail
    go_roundw
    case rel => exact ⟨j + 1, by omega, by go_num, Hr.out, Hk1.out, Hb1.out⟩
    case measure => simp [intOf]; omega
  ·obtain rfl : j = l.length := by omega
   have Hr := Lib.hid hr
   obtain ⟨q0, q1⟩ := hk.two
   have f0 := hk.frozen 0
   have f1 := hk.frozen 1
   clear hr hb hk
   go_wp2_with fail
   refine bodyPost_ret (v := .tuple #[.agg #[.string (S []), .string (S [])], .bool false]) (by simp [results, Tryz.results15, go_sem, q0, q1]) rfl ?_
   rw [← Hr.out, List.drop_length]
   exact ⟨rfl, (Hb.out.setCell (Nat.le_refl _) _).setCell (Nat.le_refl _) _⟩
set_option maxRecDepth 100000 in
theorem check_none (l : List Us) (v : Value) (name value c : List UInt8) (id : Int) (w : World) (hv : UsV w v l) (hl : l.length ≤ 140737488355328) (h : usFind l name = none) :
  Calls Tryz.prog 55 #[v, .string (S name), .string (S value), .agg #[.int .i64 id, .string (S c)]] w fun e w' => e = .returned (errV 8) ∧ Below w.heap.size w w' := by
 have hA := (Below.refl w.heap.size w).alloc (Nat.le_refl _) (.cells #[.int .i64 id, .string (S c)] 31)
 have F := findU_any l name v _ (hv.later hA) hl
 rw [h] at F
 have F := Lib.hid F
 have HA := Lib.hid hA
 obtain ⟨p, cc, rfl, _⟩ := hv
 clear hA h
 show Calls _ _ _ _ fun e w' => e = .returned (.iface 56 (.int .i64 8)) ∧ _
 go_enter Tryz.func55, Tryz.ntmps55
 go_wp2_with fail
 refine F.out.mono ?_
 rintro e w1 ⟨he, hb1⟩
 obtain rfl := he
 have Hb1 := Lib.hid (below_then HA.out hb1)
 clear hb1
 simp only [usR]
 go_wp2_with fail
 go_ret
 exact ⟨rfl, Hb1.out.alloc Hb1.out.size _⟩
set_option maxRecDepth 100000 in
theorem check_some (l : List Us) (v : Value) (name value c : List UInt8) (id : Int) (u : Us) (w : World) (hv : UsV w v l) (hl : l.length ≤ 140737488355328) (hvl : value.length ≤ 4294967270) (ht : MdTabs w) (hg : ErrCell w) (h : usFind l name = some u) :
  Calls Tryz.prog 55 #[v, .string (S name), .string (S value), .agg #[.int .i64 id, .string (S c)]] w fun e w' => e = .returned (errV (chkR ((readV value).1, (readV value).2.1) (respL id u.sc c))) ∧ Below w.heap.size w w' := by
 have hA := (Below.refl w.heap.size w).alloc (Nat.le_refl _) (.cells #[.int .i64 id, .string (S c)] 31)
 have HK := Lib.hid (Blk.new w #[.int .i64 id, .string (S c)] 31)
 have F := findU_any l name v _ (hv.later hA) hl
 rw [h] at F
 have F := Lib.hid F
 have HA := Lib.hid hA
 obtain ⟨p, cc, rfl, _⟩ := hv
 obtain ⟨t, n, pl, hrv⟩ : ∃ t n pl, readV value = (t, n, pl) := ⟨_, _, _, rfl⟩
 have C := fun W => read_any value W hvl
 rw [hrv] at C
 have C := Lib.hid C
 rw [hrv]
 obtain ⟨nm, sc⟩ := u
 have Ht := Lib.hid ht
 have Hg := Lib.hid hg
 clear hA h hrv ht hg
 have fin : ∃ R, errV (chkR (t, n) (respL id sc c)) = R := ⟨_, rfl⟩
 obtain ⟨R, hR⟩ := fin
 show Calls _ _ _ _ fun e w' => e = .returned (errV (chkR (t, n) (respL id sc c))) ∧ _
 rw [hR]
 have HR := Lib.hid hR
 clear hR
 go_enter Tryz.func55, Tryz.ntmps55
 go_wp2_with fail
 refine F.out.mono ?_
 rintro e w1 ⟨he, hb1⟩
 obtain rfl := he
 have hb1' := below_then HA.out hb1
 have HK1 := Lib.hid (HK.out.later hb1)
 clear hb1 F HK
 simp only [usR]
 have hw2 := hb1'.alloc hb1'.size (.cells #[.string (S nm), .string (S sc)] 26)
 have HU := Lib.hid (Blk.new w1 #[.string (S nm), .string (S sc)] 26)
 have HK2 := Lib.hid (HK1.out.later ((Below.refl w1.heap.size w1).alloc (Nat.le_refl _) (.cells #[.string (S nm), .string (S sc)] 26)))
 have Hw2 := Lib.hid hw2
 clear hb1' hw2 HK1
 go_wp2_with fail
 refine (C.out _).mono ?_
 rintro e w3 ⟨ev, rfl, he, hb3⟩
 have Hb3 := Lib.hid (below_then Hw2.out hb3)
 have HU3 := Lib.hid (HU.out.later hb3)
 have HK3 := Lib.hid (HK2.out.later hb3)
 have He := Lib.hid he
 clear he hb3 HU HK2 Hw2 C
 by_cases hn : n = 0
 ·subst hn
  rw [He.out.zero]
  clear He
  obtain ⟨q0, q1⟩ := HK3.out.two
  obtain ⟨u0, u1⟩ := HU3.out.two
  have RS := response_any id sc c w3 (Ht.out.later Hb3.out)
  rcases respL_ways id sc c with ⟨e, -⟩ | ⟨e, -⟩ | ⟨x, e, -⟩
  ·rw [e] at RS HR
   rw [show errV ((([] : List UInt8), (2 : Int)).2) = .iface 56 (.int .i64 2) from rfl] at RS
   rw [chkR_resp t [] 2 (by decide), show errV 2 = .iface 56 (.int .i64 2) from rfl] at HR
   have RS := Lib.hid RS
   clear e
   go_wp2_with fail
   refine RS.out.mono ?_
   rintro e w4 ⟨rfl, hb4⟩
   have Hb4 := Lib.hid (below_then Hb3.out hb4)
   clear hb4
   go_wp2_with fail
   go_ret
   exact ⟨by rw [← HR.out]; rfl, Hb4.out⟩
  ·rw [e] at RS HR
   rw [show errV ((([] : List UInt8), (4 : Int)).2) = .iface 56 (.int .i64 4) from rfl] at RS
   rw [chkR_resp t [] 4 (by decide), show errV 4 = .iface 56 (.int .i64 4) from rfl] at HR
   have RS := Lib.hid RS
   clear e
   go_wp2_with fail
   refine RS.out.mono ?_
   rintro e w4 ⟨rfl, hb4⟩
   have Hb4 := Lib.hid (below_then Hb3.out hb4)
   clear hb4
   go_wp2_with fail
   go_ret
   exact ⟨by rw [← HR.out]; rfl, Hb4.out⟩
  ·rw [e] at RS HR
   rw [show errV ((x, (0 : Int)).2) = .nilIface from rfl] at RS
   have RS := Lib.hid RS
   clear e
   by_cases hx : t = x
   ·subst hx
    rw [chkR_same t, errV_0] at HR
    have hne : (t == t) = true := by simp
    go_wp2_with fail
    refine RS.out.mono ?_
    rintro e w4 ⟨rfl, hb4⟩
    have Hb4 := Lib.hid (below_then Hb3.out hb4)
    clear hb4
    go_wp2_with fail
    go_ret
    exact ⟨by rw [← HR.out]; rfl, Hb4.out⟩
   ·rw [chkR_other t x hx, show errV 13 = .iface 56 (.int .i64 13) from rfl] at HR
    have hne : (t == x) = false := beq_eq_false_iff_ne.2 hx
    clear hx
    go_wp2_with fail
    refine RS.out.mono ?_
    rintro e w4 ⟨rfl, hb4⟩
    have Hb4 := Lib.hid (below_then Hb3.out hb4)
    clear hb4
    go_wp2_with fail
    go_ret
    exact ⟨by rw [← HR.out]; rfl, Hb4.out⟩
 ·rw [chkR_bad t n _ hn, errV_pos n hn] at HR
  obtain ⟨ty, xv, hev⟩ := He.out.iface hn
  subst hev
  have T := Lib.hid (tell_is He.out (Hg.out.later Hb3.out))
  go_wp2_with fail
  refine T.out.mono ?_
  rintro e w4 ⟨rfl, hb4⟩
  have Hb4 := Lib.hid (below_then Hb3.out hb4)
  clear hb4
  go_wp2_with fail
  go_ret
  exact ⟨by rw [← HR.out]; rfl, Hb4.out⟩
theorem check_any (l : List Us) (v : Value) (name value c : List UInt8) (id : Int) (w : World) (hv : UsV w v l) (hl : l.length ≤ 140737488355328) (hvl : value.length ≤ 4294967270) (ht : MdTabs w) (hg : ErrCell w) :
  Calls Tryz.prog 55 #[v, .string (S name), .string (S value), .agg #[.int .i64 id, .string (S c)]] w fun e w' => e = .returned (errV (chkL l name value id c)) ∧ Below w.heap.size w w' := by
 unfold chkL
 cases h : usFind l name with
 | none => exact check_none l v name value c id w hv hl h
 | some u => exact check_some l v name value c id u w hv hl hvl ht hg h
end Go.Proofs.YtjbbbpgcegcbaaaGreatDoor
namespace Go.Proofs.YtjbbbpgcegcbaaaGreatDoor
open Go Go.RowKit
theorem call_in {P : Program} {o : Oper} {a : Act} {w : World} {f : FuncId} {fn : Func} {x : Operand} {args : Array Operand} {ts : Array TypeId} {K : Act → World → Prop} {Q : Exit → Act → World → Prop} {post : Ending → World → Prop} {vs : Array Value}
  (ho : o.op = .call { callee := .value x, args := args, argTypes := ts }) (hf : P.funcs[f]? = some fn) (hname : (fn.name == "runtime.NumGoroutine") = false) (hb : fn.body.isNone = false)
  (hx : a.eval x = .func (.func f) #[] #[]) (hvs : args.map a.eval = vs) (hC : Calls P f vs w post) (h : ∀ e w', post e w' → ∃ v, e = .returned v ∧ K (a.put o.dst v) w') :
  Oper.wp P o a w K Q := by
 have hrun : (execOp a.eval o).run P w = .ok (.enter f (args.map a.eval)) w := by
  have h1 : fn.name ≠ "runtime.NumGoroutine" := by simpa using hname
  have h2 : fn.body ≠ none := fun h => by rw [h] at hb; cases hb
  unfold execOp
  rw [ho]
  simp [resolve, invoke, hx, Deferred.ofValue, callFunc, run_program, hf, h1, h2]
 unfold Oper.wp
 rw [hrun, hvs, Oper.upon_enter]
 refine hC.mono ?_
 intro e w' hp
 obtain ⟨v, rfl, hK⟩ := h e w' hp
 exact hK
theorem step_append_run {P : Program} {ops : Array Oper} {o : Oper} {a : Act} {w w' : World} {K : Act → World → Prop} {Q : Exit → Act → World → Prop} {E : Prop} {v x v' : Value} {s y : Operand} {t u : TypeId}
  (hgd : o.guard = none) (ho : o.op = .call { callee := .builtin .append, args := #[s, y], argTypes := #[t, u] }) (hs : a.eval s = v) (hy : a.eval y = x)
  (hrun : (Builtin.append_ #[t, u] o.type #[v, x]).run P w = .ok v' w') (hK : K (a.put o.dst v') w') :
  if Region.wanted o (yielded ops a.tmps) = true then Oper.wp P o a w K Q else E := by
 have hw : Region.wanted o (yielded ops a.tmps) = true := by simp [Region.wanted, hgd]
 rw [if_pos hw]
 unfold Oper.wp
 simp [execOp, ho, resolve, invoke, builtin, hs, hy, hrun, Result.andThen]
 exact hK
variable {ops : Array Oper} {S : World → Prop} {o : Oper} {a : Act}
theorem takeN {P : Program} {Q : Exit → Act → World → Prop} {md : Region.Mode} {i : Nat} {oi : Oper} (v : Value) {fuel : Nat} {listed : Array Bool} {w : World} (d : Option Tmp) (hi : ops[i]? = some oi) (hd : oi.dst = d)
  (hs : Region.noSelect ops = true) (hf : Region.free md ops listed i = true) (hr : (Region.ready md ops listed).contains i = true)
  (hQ : ∀ c a w, Q (.panic c) (a.put d v) w → Q (.panic c) a w) (hy : YieldsIf P ops S oi v a) (hS : S w)
  (h : wpAnyH P md ops Q S fuel (listed.setIfInBounds i true) (a.put d v) w) : wpAnyH P md ops Q S (fuel + 1) listed a w := by
 subst hd
 exact wpAnyH_take hi hs hf hr hQ hy hS h
theorem wantN {P : Program} {Q : Exit → Act → World → Prop} {i : Nat} {K : Act → World → Prop} {w : World} (hi : ops[i]? = some o) (hg : Region.wanted o (yielded ops a.tmps) = true) (h : Oper.wp P o a w K Q) : wpOp P ops Q i K a w := by
 unfold wpOp
 simp only [hi]
 rw [if_pos hg]
 exact .inl h
theorem callN {P : Program} {Q : Exit → Act → World → Prop} {w : World} {f : FuncId} {fn : Func} {x : Operand} {args : Array Operand} {ts : Array TypeId} {K : Act → World → Prop} (d : Option Tmp) (hd : o.dst = d) (hf : P.funcs[f]? = some fn) (hname : (fn.name == "runtime.NumGoroutine") = false) (hb : fn.body.isNone = false)
  (ho : o.op = .call { callee := .value x, args := args, argTypes := ts }) (hx : a.eval x = .func (.func f) #[] #[])
  (hC : Calls P f (args.map a.eval) w fun e w' => ∃ v, e = .returned v ∧ K (a.put d v) w') : Oper.wp P o a w K Q := by
 subst hd
 exact call_in ho hf hname hb hx rfl hC (fun _ _ h => h)
theorem callQ {P : Program} {o : Oper} {a : Act} {Q : Exit → Act → World → Prop} {w : World} {f : FuncId} {fn : Func} {x : Operand} {args : Array Operand} {ts : Array TypeId} {K : Act → World → Prop} (d : Option Tmp) (hd : o.dst = d) (hf : P.funcs[f]? = some fn) (hname : (fn.name == "runtime.NumGoroutine") = false) (hb : fn.body.isNone = false)
  (ho : o.op = .call { callee := .value x, args := args, argTypes := ts }) (hx : a.eval x = .func (.func f) #[] #[])
  (hC : Calls P f (args.map a.eval) w fun e w' => (∃ v, e = .returned v ∧ K (a.put d v) w') ∨ ∃ ch, e = .panicked ch ∧ Q (.panic ch) a w') : Oper.wp P o a w K Q := by
 subst hd
 have hrun : (execOp a.eval o).run P w = .ok (.enter f (args.map a.eval)) w := by
  have h1 : fn.name ≠ "runtime.NumGoroutine" := by simpa using hname
  have h2 : fn.body ≠ none := fun h => by rw [h] at hb; cases hb
  unfold execOp
  rw [ho]
  simp [resolve, invoke, hx, Deferred.ofValue, callFunc, run_program, hf, h1, h2]
 unfold Oper.wp
 rw [hrun, Oper.upon_enter]
 refine hC.mono ?_
 intro e w' hp
 rcases hp with ⟨v, rfl, hK⟩ | ⟨ch, rfl, hq⟩
 ·exact hK
 ·exact hq
end Go.Proofs.YtjbbbpgcegcbaaaGreatDoor
namespace Go.Proofs.YtjbbbpgcegcbaaaGreatDoor
open Go Go.RowKit
set_option linter.unusedVariables false
theorem stands_any (l : List Pr) (v : Value) (key : List UInt8) (w : World) (hv : PrsV w v l) (hl : l.length ≤ 140737488355328) :
  Calls Tryz.prog 78 #[v, .string (S key)] w fun e w' => e = .returned (.bool (prFind l key).isSome) ∧ Below w.heap.size w w' := by
 have FP := find_prs l key v w hv hl
 obtain ⟨p, c, rfl⟩ := hv.form
 obtain ⟨r, hfr⟩ : ∃ r, prFind l key = r := ⟨_, rfl⟩
 rw [hfr] at FP ⊢
 have FP := Lib.hid FP
 clear hv hfr
 cases r with
 | none =>
  go_enter Tryz.func78, Tryz.ntmps78
  go_wp2_with fail
  refine FP.out.mono ?_
  unfold findR
  rintro e w' ⟨rfl, hb'⟩
  have Hb' := Lib.hid hb'
  clear hb'
  go_wp2_with fail
  go_ret
  exact ⟨rfl, Hb'.out⟩
 | some x =>
  go_enter Tryz.func78, Tryz.ntmps78
  go_wp2_with fail
  refine FP.out.mono ?_
  unfold findR
  rintro e w' ⟨rfl, hb'⟩
  have Hb' := Lib.hid hb'
  clear hb'
  go_wp2_with fail
  go_ret
  exact ⟨rfl, Hb'.out⟩
def RetPB (w : World) (l : List Pr) (e : Ending) (w' : World) : Prop := ∃ v, e = .returned v ∧ PrBuf w.heap.size w' v l ∧ Below w.heap.size w w'
set_option maxRecDepth 100000 in
theorem cloneP_any (l : List Pr) (v : Value) (w : World) (hv : PrsV w v l) (hl : l.length * 32 ≤ 140737488351232) :
  Calls Tryz.prog 44 #[v] w (RetPB w l) := by
 obtain ⟨i0, hi, hz0, hz1, hz2⟩ := infoPr
 have EN : ∀ (p : Option Addr) (n c : Nat) (W : World), (binOp .eql 27 (.slice p n c) (.slice none 0 0)).run Tryz.prog W = .ok (.bool p.isNone) W := fun p n c W => by
  exact Lib.run_eql_slice_nil W 27 60 p n c 0 0 Tryz.underlying27
 obtain ⟨p, c, rfl, hlc, hc⟩ := hv
 cases p with
 | none =>
  have h0 : l = [] := by
   rcases Nat.eq_zero_or_pos l.length with h | h
   ·exact List.eq_nil_of_length_eq_zero h
   ·obtain ⟨b, o, hp, _⟩ := hc h; cases hp
  subst h0
  clear hc
  go_enter Tryz.func44, Tryz.ntmps44
  go_wp2_with fail
  go_ret
  exact ⟨_, rfl, PrBuf.nil _ _, Below.refl _ _⟩
 | some a =>
  have hb0 := (Below.refl w.heap.size w).alloc (Nat.le_refl _) (.cells #[] 60)
  have hbuf : PrBuf w.heap.size (w.alloc (.cells #[] 60)) (.slice (some ⟨w.heap.size, 0, none⟩) 0 0) [] :=
   ⟨rfl, .inr ⟨w.heap.size, 0, #[], rfl, Nat.le_refl _, heap_alloc_new w _, Nat.le_refl _, Nat.zero_le _, rfl, rfl⟩⟩
  have HB := Lib.hid hbuf
  have Hb0 := Lib.hid hb0
  have h1 : ∀ j u, (prsVs l)[j]? = some u → (w.alloc (.cells #[] 60)).cell? (a.add j) = some u := fun j u hu => by
   have hlt : j < (prsVs l).length := by
    rcases Nat.lt_or_ge j (prsVs l).length with h | h
    ·exact h
    ·rw [List.getElem?_eq_none h] at hu; cases hu
   rw [prsVs_len] at hlt
   obtain ⟨b, o, hp, hcell⟩ := hc (by omega)
   cases hp
   obtain ⟨i, q, rfl, hq⟩ : ∃ i q, j = i * 2 + q ∧ q < 2 := ⟨j / 2, j % 2, by omega, by omega⟩
   obtain ⟨g0, g1⟩ := prsVs_get l i (by omega)
   obtain ⟨c0, c1⟩ := hcell i (by omega)
   have e0 : (⟨b, o, none⟩ : Addr).add (i * 2 + q) = ⟨b, o + i * 2 + q, none⟩ := by rw [Addr.add_lit, Nat.add_assoc]
   rw [e0]
   have hq' : q = 0 ∨ q = 1 := by omega
   rcases hq' with rfl | rfl
   ·rw [Nat.add_zero] at hu ⊢
    rw [g0] at hu
    rw [hb0.cell (p := ⟨b, o + i * 2, none⟩) (block_lt_of_cell c0), c0]; exact hu
   ·rw [g1] at hu
    rw [hb0.cell (p := ⟨b, o + i * 2 + 1, none⟩) (block_lt_of_cell c1), c1]; exact hu
  have H1 := Lib.hid h1
  have H2 := Lib.hid (prsVs_one l)
  have H3 := Lib.hid (show 0 + l.length ≤ maxLen by unfold maxLen; omega)
  have H4 := Lib.hid (show (0 + l.length) * 32 ≤ 140737488355328 by omega)
  have H5 := Lib.hid (show w.heap.size ≤ (w.alloc (.cells #[] 60)).heap.size by simp)
  have H6 := Lib.hid (prsVs_len l)
  clear hb0 hbuf h1 hc hl
  go_enter Tryz.func44, Tryz.ntmps44
  go_wp2_with (at_builtin; refine wpList_append_own _ rfl _ _ 27 rfl w.heap.size 60 i0 (.agg #[.string (S []), .string (S [])]) 2 32 Tryz.underlying27 hi hz0 hz1 hz2 rfl (by decide) (.slice (some ⟨w.heap.size, 0, none⟩) 0 0) 0 [] rfl HB.out a l.length c (prsVs l) rfl H6.out H1.out H2.out H3.out H4.out H5.out ?_)
  intro v' wa hown hgrow hnil
  have hown' : PrBuf w.heap.size wa v' l := by
   unfold PrBuf
   exact hown
  have Hlow := Lib.hid (Hb0.out.grown hgrow (by simp) (fun k hk => by simp [Value.ownBlock] at hk; omega))
  have Hown := Lib.hid hown'
  clear hown hown' hgrow hnil
  go_wp2_with fail
  go_ret
  exact ⟨_, rfl, Hown.out, Hlow.out⟩
end Go.Proofs.YtjbbbpgcegcbaaaGreatDoor
namespace Go.Proofs.YtjbbbpgcegcbaaaGreatDoor
open Go.RowKit
set_option maxRecDepth 100000 in
theorem right_prs (l : List Pr) (v : Value) (w : World) (hv : PrsV w v l) (hf : fitPs l) :
  Calls Tryz.prog 77 #[v] w (RetE w (prRight l)) := by
 obtain ⟨p, c, rfl, _, hc⟩ := hv
 have Hc := Lib.hid hc
 have Hf := Lib.hid hf
 have hl47 := hf.1
 clear hc hf
 by_cases h60 : 60 < l.length
 ·have E := Lib.hid (show prRight l = (4, -1) by unfold prRight; rw [if_pos h60])
  go_enter Tryz.func77, Tryz.ntmps77
  go_wp2_with fail
  go_ret
  rw [E.out]
  exact ⟨_, rfl, .bare 4 (by decide), Below.refl _ _⟩
 have E := Lib.hid (show prRight l = prRightF 0 l by unfold prRight; rw [if_neg h60])
 go_enter Tryz.func77, Tryz.ntmps77
 go_wp2_with fail
 go_loopw [12] (fun i wr => ∃ j : Nat, j ≤ l.length ∧ i = .int .i64 j ∧ prRightF j (l.drop j) = prRight l ∧ Below w.heap.size w wr) (fun i _ => l.length - (intOf i).toNat)
 case atStart => exact ⟨0, by omega, rfl, by rw [E.out]; rfl, Below.refl _ _⟩
 case round =>
  obtain ⟨j, hj, rfl, hr, hb⟩ := hrel
  have Hb := Lib.hid hb
  by_cases hlt : j < l.length
  ·obtain ⟨b, o, rfl, hcl⟩ := Hc.out (by omega)
   obtain ⟨h1, h2⟩ := hcl j hlt
   rw [← (bcell hb).1 b (o + j * 2) (block_lt_of_cell (w := w) (a := ⟨b, o + j * 2, none⟩) h1)] at h1
   rw [← (bcell hb).1 b (o + j * 2 + 1) (block_lt_of_cell (w := w) (a := ⟨b, o + j * 2 + 1, none⟩) h2)] at h2
   obtain ⟨a, ha⟩ : ∃ a, l[j] = a := ⟨_, rfl⟩
   have hda := Hf.out.2 l[j] (List.getElem_mem hlt)
   rw [List.drop_eq_getElem_cons hlt, prRightF_cons] at hr
   rw [ha] at h1 h2 hr hda
   have WW := fun W => Lib.hid (wrong_pr a W hda.1 hda.2)
   obtain ⟨n, hn⟩ : ∃ n, wrongP a = n := ⟨_, rfl⟩
   rw [hn] at hr
   simp only [hn] at WW
   obtain ⟨k, d⟩ := a
   simp only at h1 h2 WW
   have Hr := Lib.hid hr
   have Hb1 := Lib.hid (hb.alloc hb.size (.cells #[.string (S k), .string (S d)] 60))
   clear hr hcl hb ha hda hn
   by_cases h0 : n = 0
   ·subst h0
    rw [if_pos rfl] at Hr
    go_wp2_with fail
    refine (WW _).out.mono ?_
    rintro e w2 ⟨rfl, hb2⟩
    have Hb2 := Lib.hid (below_then Hb1.out hb2)
    clear hb2
    go_wp2_with fail
    go_roundw
    case rel => exact ⟨j + 1, by omega, by go_num, Hr.out, Hb2.out⟩
    case measure => simp [intOf]; omega
   ·rw [if_neg h0] at Hr
    have hd0 : (n != 0) = true := by simpa using h0
    go_wp2_with fail
    refine (WW _).out.mono ?_
    rintro e w2 ⟨rfl, hb2⟩
    have Hb2 := Lib.hid (below_then Hb1.out hb2)
    clear hb2
    go_wp2_with fail
    go_ret
    rw [← Hr.out]
    exact ⟨_, rfl, .placed _ n j h0 (by simp) (by simp), Hb2.out.alloc Hb2.out.size _⟩
  ·obtain rfl : j = l.length := by omega
   have Hr := Lib.hid hr
   clear hr hb
   go_wp2_with fail
   go_ret
   rw [← Hr.out, List.drop_length]
   exact ⟨_, rfl, .good, Hb.out⟩
end Go.Proofs.YtjbbbpgcegcbaaaGreatDoor
