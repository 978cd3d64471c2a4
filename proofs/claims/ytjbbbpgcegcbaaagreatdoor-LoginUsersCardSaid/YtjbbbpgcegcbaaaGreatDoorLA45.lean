/- LA45: several texts in one. -/
import Derived.RegionTactic
import Derived.Test.YtjbbbpgcegcbaaaGreatDoorRows
import Derived.Test.YtjbbbpgcegcbaaaGreatDoorLA01
import Derived.Test.YtjbbbpgcegcbaaaGreatDoorLA07
import Derived.Test.YtjbbbpgcegcbaaaGreatDoorLA39
import Derived.Test.YtjbbbpgcegcbaaaGreatDoorLA41
namespace Go.Proofs.YtjbbbpgcegcbaaaGreatDoor
open Go Go.RowKit
set_option linter.unusedVariables false
structure ExtOut (W : World) (K : Nat → Prop) (lb : Nat) (m : LgM) (c : Cf) (q : Lq) : Prop where
 mine : PrsV (offW (fun k => m.H lb k ∨ K k) W) m.mv q.mine
 ts : StrV (offW (fun k => m.H lb k ∨ K k) W) m.vt c.ts
 us : UsV (offW (fun k => m.H lb k ∨ K k) W) m.vu c.us
structure LB (w0 W : World) (lb : Nat) (m : LgM) (c : Cf) (d : Dw) (q : Lq) (s : Lg) (K : Nat → Prop) : Prop where
 ls : LS w0 W lb m c d q s
 ap : ∀ k, m.H lb k → ¬ K k
 lt : ∀ k, K k → k < W.heap.size
 ext : ExtOut W K lb m c q
section
variable {w0 w W W' : World} {lb : Nat} {m m' : LgM} {c : Cf} {d : Dw} {q q' : Lq} {s s' : Lg} {K K' : Nat → Prop}
theorem ExtOut.later (h : ExtOut W K lb m c q) (hb : Below W.heap.size W W') : ExtOut W' K lb m c q :=
 ⟨h.mine.later (Keeps.of hb _).off', h.ts.later (Keeps.of hb _).off', h.us.later (Keeps.of hb _).off'⟩
theorem LB.later (h : LB w0 W lb m c d q s K) (hb : Below W.heap.size W W') : LB w0 W' lb m c d q s K :=
 ⟨h.ls.later hb, h.ap, fun k hk => Nat.lt_of_lt_of_le (h.lt k hk) hb.size, h.ext.later hb⟩
theorem LB.step (h : LB w0 W lb m c d q s K) (hl : LS w0 W' lb m' c d q' s') (hk : Keeps W.heap.size W W' (m.H lb) (m'.H lb)) (e : m'.mv = m.mv ∧ m'.vt = m.vt ∧ m'.vu = m.vu) : LB w0 W' lb m' c d q' s' K := by
 have em : q'.mine = q.mine := hl.ok.mine.trans h.ls.ok.mine.symm
 have ho : Below (offW (fun k => m.H lb k ∨ K k) W).heap.size (offW (fun k => m.H lb k ∨ K k) W) (offW (fun k => m'.H lb k ∨ K k) W') := (hk.wide' K).off'
 refine ⟨hl, fun k hk' hK => ?_, fun k hK => Nat.lt_of_lt_of_le (h.lt k hK) hk.size, ?_⟩
 ·rcases hk.old k hk' with h1 | h1
  ·exact h.ap k h1 hK
  ·have := h.lt k hK; omega
 ·refine ⟨?_, ?_, ?_⟩
  ·rw [e.1, em]; exact h.ext.mine.later ho
  ·rw [e.2.1]; exact h.ext.ts.later ho
  ·rw [e.2.2]; exact h.ext.us.later ho
theorem LB.beside (h : LB w0 W lb m c d q s K) (hk : Keeps W.heap.size W W' K K') (hlt : ∀ k, K' k → k < W'.heap.size) (hK : ∀ k, K k → w0.heap.size ≤ k) : LB w0 W' lb m c d q s K' := by
 have ho : Below (offW (fun k => m.H lb k ∨ K k) W).heap.size (offW (fun k => m.H lb k ∨ K k) W) (offW (fun k => m.H lb k ∨ K' k) W') := (hk.wide (m.H lb)).off'
 refine ⟨⟨Keeps.from h.ls.low hk hK, h.ls.log.other hk h.ap h.ext.mine h.ext.ts h.ext.us, h.ls.sim, h.ls.ok⟩, fun k hh hK' => ?_, hlt, ⟨h.ext.mine.later ho, h.ext.ts.later ho, h.ext.us.later ho⟩⟩
 rcases hk.old k hK' with h1 | h1
 ·exact h.ap k hh h1
 ·have := (h.ls.log.ge k hh).2; omega
theorem LB.wider (h : LB w0 W lb m c d q s K) (hb : Below W.heap.size W W') (hK : ∀ k, K k → K' k) (hnew : ∀ k, K' k → K k ∨ W.heap.size ≤ k) (hlt : ∀ k, K' k → k < W'.heap.size) : LB w0 W' lb m c d q s K' := by
 have hk : Keeps W.heap.size W W' (fun k => m.H lb k ∨ K k) (fun k => m.H lb k ∨ K' k) := ⟨hb.os, hb.tape, hb.output, hb.size, fun k hk _ => hb.block k hk, fun k h => h.imp_right (hK k), fun k h => by
  rcases h with h | h
  ·exact .inl (.inl h)
  ·exact (hnew k h).imp .inr (fun h => h)⟩
 refine ⟨h.ls.later hb, fun k hh hK' => ?_, hlt, ⟨h.ext.mine.later hk.off', h.ext.ts.later hk.off', h.ext.us.later hk.off'⟩⟩
 rcases hnew k hK' with h1 | h1
 ·exact h.ap k hh h1
 ·have := (h.ls.log.ge k hh).2; omega
end
theorem off_swap (H K : Nat → Prop) (W : World) : offW (fun k => H k ∨ K k) W = offW (fun k => K k ∨ H k) W := by
 congr 1
 funext k
 exact propext Or.comm
theorem PrsV.offO {H : Nat → Prop} {w W : World} {v : Value} {l : List Pr} (h : PrsV W v l) (ho : OwnV w v) (hH : ∀ k, H k → k < w.heap.size) : PrsV (offW H W) v l := by
 obtain ⟨p, c, rfl, hl0, hc⟩ := h
 refine ⟨p, c, rfl, hl0, fun hl => ?_⟩
 obtain ⟨b, o, hp, hcell⟩ := hc hl
 have hb : ¬ H b := fun hh => by
  have h1 := ho b (by rw [hp]; simp [Value.ownBlock])
  have h2 := hH b hh
  omega
 exact ⟨b, o, hp, fun j hj => ⟨by rw [off_to (a := ⟨b, o + j * 2, none⟩) hb]; exact (hcell j hj).1, by rw [off_to (a := ⟨b, o + j * 2 + 1, none⟩) hb]; exact (hcell j hj).2⟩⟩
theorem UsV.offO {H : Nat → Prop} {w W : World} {v : Value} {l : List Us} (h : UsV W v l) (ho : OwnV w v) (hH : ∀ k, H k → k < w.heap.size) : UsV (offW H W) v l := by
 obtain ⟨p, c, rfl, hl0, hc⟩ := h
 refine ⟨p, c, rfl, hl0, fun hl => ?_⟩
 obtain ⟨b, o, hp, hcell⟩ := hc hl
 have hb : ¬ H b := fun hh => by
  have h1 := ho b (by rw [hp]; simp [Value.ownBlock])
  have h2 := hH b hh
  omega
 exact ⟨b, o, hp, fun j hj => ⟨by rw [off_to (a := ⟨b, o + j * 2, none⟩) hb]; exact (hcell j hj).1, by rw [off_to (a := ⟨b, o + j * 2 + 1, none⟩) hb]; exact (hcell j hj).2⟩⟩
theorem StrV.offO {H : Nat → Prop} {w W : World} {v : Value} {l : List (List UInt8)} (h : StrV W v l) (ho : OwnV w v) (hH : ∀ k, H k → k < w.heap.size) : StrV (offW H W) v l := by
 obtain ⟨p, c, rfl, hc⟩ := h
 refine ⟨p, c, rfl, fun hl => ?_⟩
 obtain ⟨b, o, hp, hcell⟩ := hc hl
 have hb : ¬ H b := fun hh => by
  have h1 := ho b (by rw [hp]; simp [Value.ownBlock])
  have h2 := hH b hh
  omega
 exact ⟨b, o, hp, fun j hj => by rw [off_to (a := ⟨b, o + j, none⟩) hb]; exact hcell j hj⟩
theorem PdusV.off {K : Nat → Prop} {W : World} {v : Value} {l : List Pd} (h : PdusV (offW K W) v l) : PdusV W v l := by
 obtain ⟨p, c, hv, hc⟩ := h
 refine ⟨p, c, hv, fun hl => ?_⟩
 obtain ⟨b, o, hp, hcell⟩ := hc hl
 refine ⟨b, o, hp, fun j hj => ?_⟩
 obtain ⟨vv, va, hP, c0, c1, c2, c3, c4, c5⟩ := hcell j hj
 exact ⟨vv, va, hP.off, off_cell c0, off_cell c1, off_cell c2, off_cell c3, off_cell c4, off_cell c5⟩
theorem PdusV.sub {H K : Nat → Prop} {W : World} {v : Value} {l : List Pd} (h : PdusV (offW K W) v l) (hs : ∀ k, H k → K k) : PdusV (offW H W) v l := by rw [off_sub W hs] at h; exact h.off
theorem two_start {w0 wY W : World} {lb1 lb2 : Nat} {m1 m2 : LgM} {c1 c2 : Cf} {d : Dw} {q1 q2 : Lq} {s1 s2 : Lg} (hx : LS w0 wY lb1 m1 c1 d q1 s1) (hy : LS wY W lb2 m2 c2 d q2 s2) (ho : OwnV wY m2.mv ∧ OwnV wY m2.vt ∧ OwnV wY m2.vu) :
  LB w0 W lb1 m1 c1 d q1 s1 (m2.H lb2) ∧ LB w0 W lb2 m2 c2 d q2 s2 (m1.H lb1) := by
 have hb := hy.low
 have h1 : ∀ k, m1.H lb1 k → k < wY.heap.size := fun k hk => (hx.log.ge k hk).2
 have h2 : ∀ k, m2.H lb2 k → wY.heap.size ≤ k := fun k hk => (hy.log.ge k hk).1
 have hk : Keeps wY.heap.size wY W (m1.H lb1) (fun k => m1.H lb1 k ∨ m2.H lb2 k) := ⟨hb.os, hb.tape, hb.output, hb.size, fun k hk _ => hb.block k hk, fun k h => .inl h, fun k h => h.elim .inl (fun h => .inr (h2 k h))⟩
 refine ⟨⟨hx.later hb, fun k a b => by have := h1 k a; have := h2 k b; omega, fun k hk => (hy.log.ge k hk).2, ⟨hx.log.mine.later hk.off', hx.log.ts.later hk.off', hx.log.us.later hk.off'⟩⟩, ?_⟩
 refine ⟨hy.base hx.low, fun k a b => by have := h1 k b; have := h2 k a; omega, fun k hk => Nat.lt_of_lt_of_le (h1 k hk) hb.size, ⟨?_, ?_, ?_⟩⟩
 ·have := hy.log.mine.offO ho.1 h1; rw [off_two, off_swap] at this; exact this
 ·have := hy.log.ts.offO ho.2.1 h1; rw [off_two, off_swap] at this; exact this
 ·have := hy.log.us.offO ho.2.2 h1; rw [off_two, off_swap] at this; exact this
end Go.Proofs.YtjbbbpgcegcbaaaGreatDoor
namespace Go.Proofs.YtjbbbpgcegcbaaaGreatDoor
def turnAt (l : List UInt8) (i : Nat) : List UInt8 := l.set (i / 8) (l.getD (i / 8) 0 ^^^ UInt8.ofNat (2 ^ (i % 8)))
theorem turnAt_len (l : List UInt8) (i : Nat) : (turnAt l i).length = l.length := by simp [turnAt]
def tn (l : List UInt8) (first v : Nat) : Nat → List UInt8
 | 0 => l
 | k + 1 => if v / 2 ^ k % 2 = 1 ∧ (first + k) / 8 < l.length then turnAt (tn l first v k) (first + k) else tn l first v k
theorem tn_len (l : List UInt8) (first v : Nat) : ∀ k, (tn l first v k).length = l.length
 | 0 => rfl
 | k + 1 => by
  unfold tn
  split
  ·rw [turnAt_len, tn_len l first v k]
  ·exact tn_len l first v k
end Go.Proofs.YtjbbbpgcegcbaaaGreatDoor
namespace Go.Proofs.YtjbbbpgcegcbaaaGreatDoor
open Go.RowKit
set_option linter.unusedVariables false
theorem bit_walk (v k : Nat) (hv : v < 2 ^ 32) : bits .and .u32 ((v : Int) / 2 ^ k) 1 = ((v / 2 ^ k % 2 : Nat) : Int) := by
 have hd : v / 2 ^ k < 2 ^ 32 := Nat.lt_of_le_of_lt (Nat.div_le_self _ _) hv
 rw [show (v : Int) / 2 ^ k = ((v / 2 ^ k : Nat) : Int) from by rw [Int.natCast_ediv, Int.natCast_pow]; rfl, show (1 : Int) = ((1 : Nat) : Int) from rfl, u32_and_nat _ 1 hd (by decide), Nat.and_one_is_mod]
def turnRow (l : List UInt8) (first v cap k : Nat) : List UInt8 := tn l first v k ++ List.replicate (cap - l.length) 0
theorem turnRow_len (l : List UInt8) (first v cap k : Nat) (h : l.length ≤ cap) : (turnRow l first v cap k).length = cap := by
 unfold turnRow; rw [List.length_append, tn_len, List.length_replicate]; omega
theorem xor_walk (x : UInt8) (j : Nat) (hj : j < 8) : bits .xor .u8 (x.toNat : Int) (2 ^ j % 256) = ((x ^^^ UInt8.ofNat (2 ^ j)).toNat : Int) := by
 have h2 : (2 : Nat) ^ j < 256 := Nat.pow_lt_pow_right (by decide) hj
 have e : ((2 : Int) ^ j % 256) = ((2 ^ j : Nat) : Int) := by
  have : ((2 : Int) ^ j) = ((2 ^ j : Nat) : Int) := by rw [Int.natCast_pow]; rfl
  rw [this]
  generalize 2 ^ j = q at h2
  omega
 rw [e, u8_xor_nat _ _ x.toNat_lt h2, UInt8.toNat_xor, UInt8.toNat_ofNat', Nat.mod_eq_of_lt (by simpa using h2)]
theorem cells8_at (l : List UInt8) (i : Nat) (y : UInt8) (h : l[i]? = some y) : (cells8 l)[i]? = some (.int .u8 (y.toNat : Int)) := by simp [cells8, h]
theorem turn_step (l : List UInt8) (first v cap k : Nat) (y : UInt8) (hb : v / 2 ^ k % 2 = 1) (hin : (first + k) / 8 < l.length) (hy : (turnRow l first v cap k)[(first + k) / 8]? = some y) :
  (turnRow l first v cap k).set ((first + k) / 8) (y ^^^ UInt8.ofNat (2 ^ ((first + k) % 8))) = turnRow l first v cap (k + 1) := by
 have hl2 : (first + k) / 8 < (tn l first v k).length := by rw [tn_len]; exact hin
 have e1 : tn l first v (k + 1) = turnAt (tn l first v k) (first + k) := by conv => lhs; unfold tn; rw [if_pos ⟨hb, hin⟩]
 unfold turnRow at *
 rw [List.getElem?_append_left hl2] at hy
 rw [e1, List.set_append_left _ _ hl2]
 unfold turnAt
 rw [List.getD_eq_getElem?_getD, hy]
 rfl
set_option maxRecDepth 100000 in
theorem turned_any (l : List UInt8) (first v : Nat) (w : World) (hl : l.length ≤ 200000) (hf : first ≤ 10000000) (hv : v < 2 ^ 32) :
  Calls Tryz.prog 26 #[.string (S l), .int .i64 first, .int .u32 v] w fun e w' => e = .returned (.string (S (tn l first v 32))) ∧ Below w.heap.size w w' := by
 obtain ⟨cap, hc1, hc2, hrun⟩ := run_bytes_S (P := Tryz.prog) 9 116 5 Tryz.underlying9 Tryz.underlying116 Tryz.underlying5 w l
 have hc2' := hc2 (by unfold maxLen; omega)
 unfold maxLen at hc2'
 clear hc2
 have Hv := Lib.hid hv
 clear hv
 go_enter Tryz.func26, Tryz.ntmps26
 go_wp2_with fail
 clear hrun
 go_loopg [12] 33 (fun g c wr => ∃ k m : Nat, k ≤ 32 ∧ g + k = 33 ∧ c = .int .i64 k ∧ wr = (w.alloc (.cells (cells8 (turnRow l first v cap k)) 5 (cap, cap + 1))).drewN m)
 case atStart => exact ⟨0, 1, by omega, by omega, rfl, rfl⟩
 case round =>
  obtain ⟨k, m, hk, hg, rfl, rfl⟩ := hrel
  have Hg := Lib.hid hg
  clear hg
  by_cases hlt : k < 32
  ·have hki : (k : Int) < 32 := by omega
   have hbw := bit_walk v k Hv.out
   rcases Nat.mod_two_eq_zero_or_one (v / 2 ^ k) with hb | hb
   ·rw [hb] at hbw
    have hrow : turnRow l first v cap k = turnRow l first v cap (k + 1) := by
     unfold turnRow; rw [show tn l first v (k + 1) = tn l first v k from by conv => lhs; unfold tn; rw [if_neg (by rw [hb]; rintro ⟨h0, _⟩; cases h0)]]
    have Hrow := Lib.hid hrow
    clear hb hrow
    go_wp2_with fail
    go_roundg (gk - 1)
    case measure => have := Hg.out; omega
    case rel => exact ⟨k + 1, m, by omega, by have := Hg.out; omega, by go_num, by rw [Hrow.out]⟩
   ·rw [hb] at hbw
    by_cases hin : (first + k) / 8 < l.length
    ·have hd : decide (((first : Int) + (k : Int)) / 8 < (l.length : Int)) = true := decide_eq_true (by omega)
     obtain ⟨y, hy⟩ : ∃ y, (turnRow l first v cap k)[(first + k) / 8]? = some y := ⟨_, List.getElem?_eq_getElem (by rw [turnRow_len _ _ _ _ _ hc1]; omega)⟩
     have hcell := (World.cell?_alloc_mark w (cells8 (turnRow l first v cap k)) 5 (cap, cap + 1) ((first + k) / 8)).trans (cells8_at _ _ y hy)
     have hfro : (w.alloc (.cells (cells8 (turnRow l first v cap k)) 5 (cap, cap + 1))).frozen? ⟨w.heap.size, (first + k) / 8, none⟩ = false := by
      rw [World.frozen?_alloc_mark]; simp; omega
     have hx := xor_walk y ((first + k) % 8) (Nat.mod_lt _ (by decide))
     have hwd : ((w.alloc (.cells (cells8 (turnRow l first v cap k)) 5 (cap, cap + 1))).drewN (m + 1)).setCell ⟨w.heap.size, (first + k) / 8, none⟩ (.int .u8 ((y ^^^ UInt8.ofNat (2 ^ ((first + k) % 8))).toNat : Int)) = (w.alloc (.cells (cells8 (turnRow l first v cap (k + 1))) 5 (cap, cap + 1))).drewN (m + 1) := by
      rw [← turn_step l first v cap k y hb hin hy, ← cells8_set, ← setCell_mark]; rfl
     clear hy
     clear hb
     go_wp2_with fail
     go_region
     all_goals
      go_wp2_with fail
      go_roundg (gk - 1)
      case measure => have := Hg.out; omega
      case rel => exact ⟨k + 1, m + 1, by omega, by have := Hg.out; omega, by go_num, by first | rfl | exact hwd⟩
    ·have hd : decide (((first : Int) + (k : Int)) / 8 < (l.length : Int)) = false := decide_eq_false (by omega)
     have hrow : turnRow l first v cap k = turnRow l first v cap (k + 1) := by
      unfold turnRow; rw [show tn l first v (k + 1) = tn l first v k from by conv => lhs; unfold tn; rw [if_neg (by rintro ⟨_, h0⟩; exact hin h0)]]
     have Hrow := Lib.hid hrow
     clear hb hrow
     go_wp2_with fail
     go_roundg (gk - 1)
     case measure => have := Hg.out; omega
     case rel => exact ⟨k + 1, m, by omega, by have := Hg.out; omega, by go_num, by rw [Hrow.out]⟩
  ·have hkl : k = 32 := by omega
   subst hkl
   have hB : BytesAt ((w.alloc (.cells (cells8 (turnRow l first v cap 32)) 5 (cap, cap + 1))).drewN m) w.heap.size (turnRow l first v cap 32) := bytesAt_drewN (bytesAt_new _ _ _ _) m
   have hcv := run_string_cells (P := Tryz.prog) 116 9 5 Tryz.underlying116 Tryz.underlying5 Tryz.underlying9 hB l.length cap (by rw [turnRow_len _ _ _ _ _ hc1]; exact hc1)
   have htk : (turnRow l first v cap 32).take l.length = tn l first v 32 := by
    unfold turnRow
    rw [List.take_append_of_le_length (by rw [tn_len]; exact Nat.le_refl _), List.take_of_length_le (by rw [tn_len]; exact Nat.le_refl _)]
   rw [htk] at hcv
   clear hB htk
   go_wp2_with fail
   go_ret
   exact ⟨rfl, below_drewN ((Below.refl _ _).alloc (Nat.le_refl _) _) m⟩
end Go.Proofs.YtjbbbpgcegcbaaaGreatDoor
