/- LA03: several texts in one. -/
import Derived.Lib.Bytealg
import Derived.Shelf.Small.Strs
import Derived.Shelf.Strings.Prefix
import Derived.Test.YtjbbbpgcegcbaaaGreatDoorProg
import Derived.Test.YtjbbbpgcegcbaaaGreatDoorRows
import Derived.Test.YtjbbbpgcegcbaaaGreatDoorLA01
import Derived.Test.YtjbbbpgcegcbaaaGreatDoorLA02
namespace Go.Proofs.YtjbbbpgcegcbaaaGreatDoor
open Go.RowKit
inductive ErrIs (W : World) : Value → Int → Int → Prop
 | good : ErrIs W .nilIface 0 (-1)
 | bare (n : Int) (hn : n ≠ 0) : ErrIs W (.iface 56 (.int .i64 n)) n (-1)
 | placed (b : Nat) (n p : Int) (hn : n ≠ 0) (h0 : W.cell? ⟨b, 0, none⟩ = some (.int .i64 n)) (h1 : W.cell? ⟨b, 1, none⟩ = some (.int .i64 p)) : ErrIs W (.iface 120 (.pointer (some ⟨b, 0, none⟩))) n p
theorem ErrIs.later {w w' : World} {v : Value} {n p : Int} (h : ErrIs w v n p) (hb : Below w.heap.size w w') : ErrIs w' v n p := by
 cases h with
 | good => exact .good
 | bare _ hn => exact .bare _ hn
 | placed b _ _ hn h0 h1 =>
  have hlt := block_lt_of_cell (w := w) (a := ⟨b, 0, none⟩) h0
  exact .placed b _ _ hn (by rw [(bcell hb).1 b 0 hlt]; exact h0) (by rw [(bcell hb).1 b 1 hlt]; exact h1)
theorem ErrIs.zero {w : World} {v : Value} {p : Int} (h : ErrIs w v 0 p) : v = .nilIface := by
 generalize hn : (0 : Int) = n at h
 cases h with
 | good => rfl
 | bare _ h => exact absurd hn.symm h
 | placed _ _ _ h => exact absurd hn.symm h
theorem ErrIs.iface {W : World} {v : Value} {n p : Int} (h : ErrIs W v n p) (hn : n ≠ 0) : ∃ t x, v = .iface t x := by
 cases h with
 | good => exact absurd rfl hn
 | bare => exact ⟨_, _, rfl⟩
 | placed => exact ⟨_, _, rfl⟩
def I64 (n : Int) : Prop := -9223372036854775808 ≤ n ∧ n ≤ 9223372036854775807
def RetE (w : World) (r : Int × Int) (e : Ending) (w' : World) : Prop := ∃ v, e = .returned v ∧ ErrIs w' v r.1 r.2 ∧ Below w.heap.size w w'
def RetSE (w : World) (r : List UInt8 × Int × Int) (e : Ending) (w' : World) : Prop :=
 ∃ v, e = .returned (.tuple #[.string (S r.1), v]) ∧ ErrIs w' v r.2.1 r.2.2 ∧ Below w.heap.size w w'
theorem tell_at (b : Nat) (n : Int) (w : World) (hg : ErrCell w) (hp : w.cell? ⟨b, 0, none⟩ = some (.int .i64 n)) :
  Calls Tryz.prog 18 #[.iface 120 (.pointer (some ⟨b, 0, none⟩))] w fun e w' => e = .returned (.int .i64 n) ∧ Below w.heap.size w w' := by
 have hb : Below w.heap.size w (w.alloc (.cells #[.int .i64 0] 56)) := (Below.refl _ _).alloc (Nat.le_refl _) _
 have hg1 : ErrCell (w.alloc (.cells #[.int .i64 0] 56)) := hg.later hb
 have hp1 : (w.alloc (.cells #[.int .i64 0] 56)).cell? ⟨b, 0, none⟩ = some (.int .i64 n) := by
  rw [(bcell hb).1 b 0 (block_lt_of_cell (w := w) (a := ⟨b, 0, none⟩) hp)]; exact hp
 have Hg1 := Lib.hid hg1
 have Hp1 := Lib.hid hp1
 clear hg hg1 hp1 hb
 go_enter Tryz.func18, Tryz.ntmps18
 go_wp2_with fail
 refine (as_hit_at n b ⟨w.heap.size, 0, none⟩ (.int .i64 0) _ Hg1.out Hp1.out (by simp) (by simp)).mono ?_
 rintro e w' ⟨rfl, rfl⟩
 go_wp2_with fail
 go_ret
 exact ⟨rfl, ((((((Below.refl _ _).alloc (Nat.le_refl _) _).alloc (by simp) _).alloc (by first | (simp; done) | (simp; omega)) _).alloc (by first | (simp; done) | (simp; omega)) _).alloc (by first | (simp; done) | (simp; omega)) _)⟩
theorem tell_is {w : World} {v : Value} {n p : Int} (h : ErrIs w v n p) (hg : ErrCell w) :
  Calls Tryz.prog 18 #[v] w fun e w' => e = .returned (.int .i64 n) ∧ Below w.heap.size w w' := by
 cases h with
 | good => exact (tell_nil w).mono fun _ _ ⟨h1, h2⟩ => ⟨h1, by rw [← h2]; exact Below.refl _ _⟩
 | bare => exact tell_err n w hg
 | placed b _ _ _ h0 _ => exact tell_at b n w hg h0
theorem digit_any (c : UInt8) (w : World) :
  Calls Tryz.prog 100 #[.int .u8 (c.toNat : Int)] w fun e w' => e = .returned (.tuple #[.int .u8 ((hexN c : Nat) : Int), .bool (hexV c).isSome]) ∧ w = w' := by
 have hc := c.toNat_lt
 have hcases : (c.toNat < 48 ∨ (57 < c.toNat ∧ c.toNat < 65) ∨ (70 < c.toNat ∧ c.toNat < 97) ∨ 102 < c.toNat) ∨ (48 ≤ c.toNat ∧ c.toNat ≤ 57) ∨ (97 ≤ c.toNat ∧ c.toNat ≤ 102) ∨ (65 ≤ c.toNat ∧ c.toNat ≤ 70) := by omega
 rcases hcases with (h | ⟨h, h2⟩ | ⟨h, h2⟩ | h) | ⟨h, h2⟩ | ⟨h, h2⟩ | ⟨h, h2⟩
 all_goals
  first
  | have hv : hexV c = none := by unfold hexV; rw [if_neg (by omega), if_neg (by omega), if_neg (by omega)]
  | have hv : hexV c = some (c.toNat - 48) := by unfold hexV; rw [if_pos (by omega)]
  | have hv : hexV c = some (c.toNat - 87) := by unfold hexV; rw [if_neg (by omega), if_pos (by omega)]
  | have hv : hexV c = some (c.toNat - 55) := by unfold hexV; rw [if_neg (by omega), if_neg (by omega), if_pos (by omega)]
  have Hv := Lib.hid hv
  clear hv
  go_enter Tryz.func100, Tryz.ntmps100
  go_wp2_with fail
  go_ret2
  refine ⟨?_, rfl⟩
  unfold hexN
  rw [Hv.out]
  simp
  try omega
theorem wrong_any (n : Nat) (w : World) (hn : n ≤ 140737488351232) :
  Calls Tryz.prog 101 #[.int .i64 n] w fun e w' => ∃ v, e = .returned v ∧ ErrIs w' v 3 (2 + n) ∧ Below w.heap.size w w' := by
 go_enter Tryz.func101, Tryz.ntmps101
 go_wp2_with fail
 go_ret
 exact ⟨_, rfl, .placed _ _ _ (by decide) (by simp) (by simp), (Below.refl _ _).alloc (Nat.le_refl _) _⟩
theorem or_nib (x : UInt8) (n : Nat) (hn : n < 16) : bits .or .u8 ((x.toNat : Int) * 16 % 256) (n : Int) = ((UInt8.ofNat (x.toNat % 16 * 16 + n)).toNat : Int) := by
 have e : (x.toNat : Int) * 16 % 256 = ((x.toNat % 16 * 16 : Nat) : Int) := by omega
 have hb : x.toNat % 16 * 16 < 256 := by omega
 rw [e, u8_or_nat _ _ hb (by omega)]
 have hn4 : n < 2 ^ 4 := hn
 have := nat_join (x.toNat % 16) 4 n hn4
 rw [show (2 : Nat) ^ 4 = 16 from rfl] at this
 rw [this, UInt8.toNat_ofNat', Nat.mod_eq_of_lt (show x.toNat % 16 * 16 + n < 2 ^ 8 by omega)]
theorem info8r : (Tryz.prog.info? 5).map (fun i => (i.zero, i.size, i.bytes)) = some (some (.int .u8 0), 1, 1) := by kernel_rfl
theorem readDigits_odd (l : List UInt8) (w : World) (hl : l.length ≤ 4294967280) (ho : l.length % 2 ≠ 0) :
  Calls Tryz.prog 67 #[.string (S l)] w fun e w' => e = .returned (.tuple #[.string (S []), .iface 56 (.int .i64 7)]) ∧ w = w' := by
 have h : ((l.length : Int) % 2 != 0) = true := by rw [bne_iff_ne]; omega
 clear ho
 go_enter Tryz.func67, Tryz.ntmps67
 go_wp2_with fail
 go_ret2
 exact ⟨rfl, rfl⟩
set_option maxRecDepth 100000 in
theorem readDigits_loop (l : List UInt8) (m : Nat) (w : World) (hl : l.length ≤ 4294967280) (ho : l.length % 2 = 0) (hm : m ≤ l.length) (hgood : ∀ j (hj : j < l.length), j < m → (hexV l[j]).isSome = true) (hbad : ∀ (hj : m < l.length), (hexV l[m]).isSome = false)
  (r : List UInt8 × Int × Int) (hr1 : m < l.length → r = ([], 3, 2 + (m : Int))) (hr2 : ¬ m < l.length → r = (unhex l, 0, -1)) :
  Calls Tryz.prog 67 #[.string (S l)] w (RetSE w r) := by
 obtain ⟨i0, hi, hz0, hz1, hz2⟩ := info_parts info8r
 have hmk := fun w => run_make_bytes (P := Tryz.prog) w 116 5 i0 Tryz.underlying116 hi hz0 hz1 hz2 .i64 .i64 (l.length / 2) (by omega)
 simp only [Int.natCast_ediv, Int.cast_ofNat_Int] at hmk
 have h : ((l.length : Int) % 2 != 0) = false := by rw [Bool.eq_false_iff, Ne, bne_iff_ne]; omega
 have hH0 := hexRow_0 l
 rw [← hH0] at hmk
 have Ho := Lib.hid ho
 have Hgood := Lib.hid hgood
 have Hbad := Lib.hid hbad
 have Hr1 := Lib.hid hr1
 have Hr2 := Lib.hid hr2
 clear ho hH0 hgood hbad hr1 hr2
 go_enter Tryz.func67, Tryz.ntmps67
 go_wp2_with fail
 clear hmk h
 go_loopg [19] (l.length + 1) (fun g c wr => ∃ k : Nat, k ≤ m ∧ g + k = l.length + 1 ∧ c = .int .i64 k ∧ wr = w.alloc (.cells (cells8 (hexRow l k)) 5))
 case atStart => exact ⟨0, by omega, by omega, rfl, rfl⟩
 case round =>
  obtain ⟨k, hk, hg, rfl, rfl⟩ := hrel
  have Hg := Lib.hid hg
  clear hg
  by_cases hlt : k < m
  ·have hkl : k < l.length := by omega
   have hki : (k : Int) < (l.length : Int) := by omega
   have hv : (hexV l[k]).isSome = true := Hgood.out k hkl hlt
   have hlen := hexRow_len l k
   have hi2 : k / 2 < (hexRow l k).length := by rw [hlen]; have := Ho.out; omega
   have hst := hexRow_step l k hkl Ho.out hi2
   have hc := cells8_get (hexRow l k) (k / 2) hi2
   have hx1 : 0 ≤ (k : Int) / 2 := by omega
   have hx2 : (k : Int) / 2 < (l.length : Int) / 2 := by have := Ho.out; omega
   obtain ⟨x, hx⟩ : ∃ x, (hexRow l k)[k / 2]'hi2 = x := ⟨_, rfl⟩
   rw [hx] at hst hc
   have hst2 : (cells8 (hexRow l k)).setIfInBounds (k / 2) (.int .u8 ((UInt8.ofNat (x.toNat % 16 * 16 + hexN l[k])).toNat : Int)) = cells8 (hexRow l (k + 1)) := by rw [cells8_set, hst]
   have hor := or_nib x (hexN l[k]) (hexN_lt _)
   obtain ⟨y, hy⟩ : ∃ y, UInt8.ofNat (x.toNat % 16 * 16 + hexN l[k]) = y := ⟨_, rfl⟩
   rw [hy] at hor hst2
   clear hst hlen hx hi2 hy
   go_wp2_with fail
   refine (digit_any _ _).mono ?_
   rintro e w2 ⟨rfl, rfl⟩
   rw [hv]
   go_wp2_with fail
   go_roundg (gk - 1)
   case measure => have := Hg.out; omega
   case rel => exact ⟨k + 1, by omega, by have := Hg.out; omega, by go_num, rfl⟩
  ·have hkm : k = m := by omega
   subst hkm
   clear hlt
   by_cases hkl : k < l.length
   ·have hki : (k : Int) < (l.length : Int) := by omega
    have hv : (hexV l[k]).isSome = false := Hbad.out hkl
    have hb : Below w.heap.size w (w.alloc (.cells (cells8 (hexRow l k)) 5)) := (Below.refl _ _).alloc (Nat.le_refl _) _
    go_wp2_with fail
    refine (digit_any _ _).mono ?_
    rintro e w2 ⟨rfl, rfl⟩
    rw [hv]
    go_wp2_with fail
    refine (wrong_any k _ (by omega)).mono ?_
    rintro e w3 ⟨v, rfl, he, hb3⟩
    go_wp2_with fail
    go_ret2
    rw [Hr1.out hkl]
    exact ⟨v, rfl, he, below_then hb hb3⟩
   ·have hkl2 : k = l.length := by omega
    subst hkl2
    clear hkl
    have hlen := hexRow_len l l.length
    have hcv := run_string_buf (P := Tryz.prog) 116 9 5 Tryz.underlying116 Tryz.underlying5 Tryz.underlying9 (buf_block w 5 (hexRow l l.length) (l.length / 2) hlen.symm (by omega) w.heap.size (Nat.le_refl _))
    rw [show hexRow l l.length = unhex l from rfl] at *
    clear hlen
    go_wp2_with fail
    go_ret2
    rw [Hr2.out (Nat.lt_irrefl _)]
    exact ⟨_, rfl, .good, (Below.refl _ _).alloc (Nat.le_refl _) _⟩
theorem readDigits_any (l : List UInt8) (w : World) (hl : l.length ≤ 4294967280) :
  Calls Tryz.prog 67 #[.string (S l)] w (RetSE w (readHex l)) := by
 by_cases ho : l.length % 2 = 0
 ·cases hf : l.findIdx? (fun c => (hexV c).isNone) with
  | some m =>
   obtain ⟨hm, hp, hall⟩ := List.findIdx?_eq_some_iff_getElem.1 hf
   have e : readHex l = ([], 3, 2 + (m : Int)) := by unfold readHex; rw [if_neg (by omega), hf]
   rw [e]
   have h := readDigits_loop l m w hl ho (by omega) (fun j hj hjm => by
    have := hall j hjm; cases h : hexV l[j] <;> simp_all) (fun hj => by cases h : hexV l[m] <;> simp_all) _ (fun _ => rfl) (fun h => absurd hm h)
   exact h
  | none =>
   have hall := List.findIdx?_eq_none_iff.1 hf
   have e : readHex l = (unhex l, 0, -1) := by unfold readHex; rw [if_neg (by omega), hf]
   rw [e]
   have h := readDigits_loop l l.length w hl ho (Nat.le_refl _) (fun j hj _ => by
    have := hall l[j] (List.getElem_mem hj); cases h : hexV l[j] <;> simp_all) (fun hj => absurd hj (by omega)) _ (fun h => absurd h (Nat.lt_irrefl _)) (fun _ => rfl)
   exact h
 ·have e : readHex l = ([], 7, -1) := by unfold readHex; rw [if_pos (by omega)]
  rw [e]
  exact (readDigits_odd l w hl ho).mono fun _ _ ⟨h1, h2⟩ => ⟨_, h1, .bare _ (by decide), by rw [← h2]; exact Below.refl _ _⟩
end Go.Proofs.YtjbbbpgcegcbaaaGreatDoor
namespace Go.Proofs
open Go.Shelf
def Tryz.lays137_ren : Go.Shelf.Ren := ⟨fun | 137 => 103 | 217 => 141 | 266 => 171 | n => n, fun | 9 => 9 | 5 => 5 | 3 => 3 | n => n, fun | n => n⟩
theorem Tryz.lays137 : Go.Proofs.Lays.n137 Tryz.prog Tryz.lays137_ren := {
 mixed := by kernel_rfl
 f137 := Tryz.func103.trans (congrArg some (by kernel_rfl))
 f217 := Tryz.func141.trans (congrArg some (by kernel_rfl))
 f266 := Tryz.func171.trans (congrArg some (by kernel_rfl))
 t3 := Tryz.underlying3
 a3 := Tryz.isAgg3
 z3 := Tryz.sizeOf3
 v3 := Tryz.zeroValue3
 t5 := Tryz.underlying5
 a5 := Tryz.isAgg5
 z5 := Tryz.sizeOf5
 v5 := Tryz.zeroValue5
 t9 := Tryz.underlying9
 a9 := Tryz.isAgg9
 z9 := Tryz.sizeOf9
 v9 := Tryz.zeroValue9 }
open Go.RowKit in
theorem Tryz.strings_IndexByte (s : ByteArray) (c : Int) (w : World) :
  Calls Tryz.prog 103 #[.string s, .int .u8 c] w fun e w' => e = .returned (.int .i64 (Lib.indexByte s.data.toList c.toNat.toUInt8)) ∧ w' = w := Any.strings_IndexByte Tryz.lays137 s c w
def Tryz.lays100_ren : Go.Shelf.Ren := ⟨fun | 100 => 140 | 207 => 170 | n => n, fun | 9 => 9 | 4 => 4 | 3 => 3 | n => n, fun | n => n⟩
theorem Tryz.lays100 : Go.Proofs.Lays.n100 Tryz.prog Tryz.lays100_ren := {
 mixed := by kernel_rfl
 f100 := Tryz.func140.trans (congrArg some (by kernel_rfl))
 f207 := Tryz.func170.trans (congrArg some (by kernel_rfl))
 t3 := Tryz.underlying3
 a3 := Tryz.isAgg3
 z3 := Tryz.sizeOf3
 v3 := Tryz.zeroValue3
 t4 := Tryz.underlying4
 a4 := Tryz.isAgg4
 z4 := Tryz.sizeOf4
 v4 := Tryz.zeroValue4
 t9 := Tryz.underlying9
 a9 := Tryz.isAgg9
 z9 := Tryz.sizeOf9
 v9 := Tryz.zeroValue9 }
open Go.RowKit Go.Lib in
theorem Tryz.strings_HasSuffix (s p : ByteArray) (w : World) (hs : s.size ≤ 9223372036854775807) :
  Calls Tryz.prog 140 #[.string s, .string p] w fun e w' => e = .returned (.bool (Lib.hasSuffix s.data.toList p.data.toList)) ∧ w' = w := Any.strings_HasSuffix Tryz.lays100 s p w hs
end Go.Proofs
namespace Go.Proofs.YtjbbbpgcegcbaaaGreatDoor
def letN (c : UInt8) : Int := Lib.indexByte letterTab c
theorem letN_bd (c : UInt8) : -1 ≤ letN c ∧ letN c < 64 := by
 have h : ∀ n : Fin 256, -1 ≤ letN (UInt8.ofNat n.1) ∧ letN (UInt8.ofNat n.1) < 64 := by decide +kernel
 have := h ⟨c.toNat, c.toNat_lt⟩
 simpa using this
def stepL (st : Nat × Nat × List UInt8) (n : Nat) : Nat × Nat × List UInt8 :=
 if 2 ≤ st.2.1 then ((st.1 * 64 + n) % 2 ^ (st.2.1 - 2), st.2.1 - 2, st.2.2 ++ [UInt8.ofNat ((st.1 * 64 + n) / 2 ^ (st.2.1 - 2))]) else (st.1 * 64 + n, st.2.1 + 6, st.2.2)
def runL (l : List UInt8) : Nat × Nat × List UInt8 := l.foldl (fun st c => stepL st (letN c).toNat) (0, 0, [])
theorem runL_snoc (l : List UInt8) (c : UInt8) : runL (l ++ [c]) = stepL (runL l) (letN c).toNat := by simp [runL]
def LInv (st : Nat × Nat × List UInt8) (k : Nat) : Prop := (st.2.1 = 0 ∨ st.2.1 = 2 ∨ st.2.1 = 4 ∨ st.2.1 = 6) ∧ st.1 < 2 ^ st.2.1 ∧ 8 * st.2.2.length + st.2.1 = 6 * k
theorem stepL_inv (st : Nat × Nat × List UInt8) (k n : Nat) (hn : n < 64) (h : LInv st k) : LInv (stepL st n) (k + 1) := by
 obtain ⟨a, s, o⟩ := st
 obtain ⟨hs, ha, hk⟩ := h
 simp only at hs ha hk
 rcases hs with rfl | rfl | rfl | rfl
 all_goals simp [stepL, LInv]
 all_goals omega
theorem runL_inv (l : List UInt8) : LInv (runL l) l.length := by
 have h : ∀ (l : List UInt8) (st : Nat × Nat × List UInt8) (k : Nat), LInv st k → LInv (l.foldl (fun st c => stepL st (letN c).toNat) st) (k + l.length) := by
  intro l
  induction l with
  | nil => intro st k h; exact h
  | cons c l ih =>
   intro st k h
   rw [List.foldl_cons, List.length_cons, show k + (l.length + 1) = (k + 1) + l.length from by omega]
   exact ih _ _ (stepL_inv _ _ _ (by have := letN_bd c; omega) h)
 have := h l (0, 0, []) 0 ⟨.inl rfl, by decide, rfl⟩
 rw [Nat.zero_add] at this
 exact this
def eqs (l : List UInt8) : Nat := if Lib.hasSuffix l [61, 61] then 2 else if Lib.hasSuffix l [61] then 1 else 0
theorem eqs_len (l : List UInt8) : eqs l ≤ l.length := by
 unfold eqs
 split
 ·rename_i h
  have := (List.isSuffixOf_iff_suffix.1 h).length_le
  simpa using this
 ·split
  ·rename_i h
   have := (List.isSuffixOf_iff_suffix.1 h).length_le
   simpa using this
  ·omega
def readLet (l : List UInt8) : List UInt8 × Int × Int :=
 if l.length % 4 ≠ 0 then ([], 7, -1) else match (l.take (l.length - eqs l)).findIdx? (fun c => letN c < 0) with
  | some i => ([], 3, 2 + (i : Int))
  | none => if (runL (l.take (l.length - eqs l))).1 ≠ 0 then ([], 3, 2 + ((l.length - eqs l - 1 : Nat) : Int)) else ((runL (l.take (l.length - eqs l))).2.2, 0, -1)
end Go.Proofs.YtjbbbpgcegcbaaaGreatDoor
namespace Go.Proofs.YtjbbbpgcegcbaaaGreatDoor
open Go.RowKit
theorem S_data (l : List UInt8) : (S l).data.toList = l := rfl
theorem equals_any (l : List UInt8) (w : World) (hl : l.length ≤ 4294967280) :
  Calls Tryz.prog 102 #[.string (S l)] w fun e w' => e = .returned (.int .i64 ((eqs l : Nat) : Int)) ∧ w = w' := by
 have hs : (S l).size ≤ 9223372036854775807 := by rw [S_size]; omega
 have h1 := fun W => Tryz.strings_HasSuffix (S l) (S [61, 61]) W hs
 have h2 := fun W => Tryz.strings_HasSuffix (S l) (S [61]) W hs
 rw [S_data, S_data] at h1 h2
 have H1 := Lib.hid h1
 have H2 := Lib.hid h2
 clear h1 h2
 unfold eqs
 cases q1 : Lib.hasSuffix l [61, 61] <;> cases q2 : Lib.hasSuffix l [61]
 all_goals
  rw [q1] at H1
  rw [q2] at H2
  go_enter Tryz.func102, Tryz.ntmps102
  go_wp2_with fail
  refine (H1.out _).mono ?_
  rintro e w' ⟨rfl, hw⟩
  rw [hw]
  clear hw
  go_wp2_with fail
  try (refine (H2.out _).mono ?_; rintro e w2 ⟨rfl, hw⟩; rw [hw]; clear hw; go_wp2_with fail)
  go_ret
  exact ⟨rfl, rfl⟩
theorem index_any (c : UInt8) (w : World) :
  Calls Tryz.prog 103 #[.string (S letterTab), .int .u8 (c.toNat : Int)] w fun e w' => e = .returned (.int .i64 (letN c)) ∧ w = w' := by
 refine (Tryz.strings_IndexByte (S letterTab) _ w).mono ?_
 rintro e w' ⟨rfl, hw⟩
 refine ⟨?_, hw.symm⟩
 rw [S_data]
 simp [letN]
theorem readLetters_odd (l : List UInt8) (w : World) (hl : l.length ≤ 4294967280) (ho : l.length % 4 ≠ 0) :
  Calls Tryz.prog 68 #[.string (S l)] w fun e w' => e = .returned (.tuple #[.string (S []), .iface 56 (.int .i64 7)]) ∧ w = w' := by
 have h : ((l.length : Int) % 4 != 0) = true := by rw [bne_iff_ne]; omega
 clear ho
 go_enter Tryz.func68, Tryz.ntmps68
 go_wp2_with fail
 go_ret2
 exact ⟨rfl, rfl⟩
theorem or6 (a n h : Nat) (ha : a < 64) (hn : n < 64) (hh : a * 64 + n = h) : bits .or .i64 ((a : Int) * 64) (n : Int) = (h : Int) := by
 have e : (a : Int) * 64 = ((a * 64 : Nat) : Int) := by omega
 rw [e, i64_or_nat _ _ (by omega) (by omega), ← hh]
 have h6 : n < 2 ^ 6 := hn
 have := nat_join a 6 n h6
 rw [show (2 : Nat) ^ 6 = 64 from rfl] at this
 rw [this]
theorem byte_of (h d : Nat) (hd : h / d < 256) : ∃ y : UInt8, UInt8.ofNat (h / d) = y ∧ (h : Int) / (d : Int) = (y.toNat : Int) := by
 refine ⟨_, rfl, ?_⟩
 rw [UInt8.toNat_ofNat', Nat.mod_eq_of_lt (show h / d < 2 ^ 8 from hd), Int.natCast_ediv]
set_option maxRecDepth 100000 in
set_option maxHeartbeats 2000000 in
theorem readLetters_loop (l : List UInt8) (m p : Nat) (w : World) (hl : l.length ≤ 4294967280) (ho : l.length % 4 = 0) (hm : m = l.length - eqs l) (hp : p ≤ m) (hgood : ∀ j (hj : j < l.length), j < p → 0 ≤ letN l[j]) (hbad : ∀ (hj : p < l.length), p < m → letN l[p] < 0)
  (r : List UInt8 × Int × Int) (hr1 : p < m → r = ([], 3, 2 + (p : Int))) (hr2 : ¬ p < m → (runL (l.take m)).1 ≠ 0 → r = ([], 3, 2 + ((m - 1 : Nat) : Int))) (hr3 : ¬ p < m → (runL (l.take m)).1 = 0 → r = ((runL (l.take m)).2.2, 0, -1)) :
  Calls Tryz.prog 68 #[.string (S l)] w (RetSE w r) := by
 obtain ⟨i0, hi, hz0, hz1, hz2⟩ := info_parts info8r
 have hmk := fun w => run_make_buf (P := Tryz.prog) w 116 5 i0 Tryz.underlying116 hi hz0 hz1 hz2 .i64 .i64 (l.length / 4 * 3) (by omega)
 simp only [Int.natCast_mul, Int.natCast_ediv, Int.cast_ofNat_Int] at hmk
 have h : ((l.length : Int) % 4 != 0) = false := by rw [Bool.eq_false_iff, Ne, bne_iff_ne]; omega
 have he := eqs_len l
 have hml : m ≤ l.length := by omega
 have hme : (l.length : Int) - ((eqs l : Nat) : Int) = (m : Int) := by omega
 have Ho := Lib.hid ho
 have Hgood := Lib.hid hgood
 have Hbad := Lib.hid hbad
 have Hr1 := Lib.hid hr1
 have Hr2 := Lib.hid hr2
 have Hr3 := Lib.hid hr3
 clear ho hm hgood hbad hr1 hr2 hr3 he
 go_enter Tryz.func68, Tryz.ntmps68
 go_wp2_with fail
 refine (equals_any _ _ hl).mono ?_
 rintro e w' ⟨rfl, rfl⟩
 go_wp2_with fail
 clear hmk h hme
 have hb0 := buf_made w 5 (l.length / 4 * 3) (by omega) w.heap.size (Nat.le_refl _)
 have hl0 : Below w.heap.size w (w.alloc (.cells (madeCells #[.int .u8 0] (l.length / 4 * 3)) 5)) := (Below.refl _ _).alloc (Nat.le_refl _) _
 go_loopg [5, 6, 7, 26] (l.length + 1) (fun g v a s c wr => ∃ (k : Nat) (st : Nat × Nat × List UInt8), k ≤ p ∧ g + k = l.length + 1 ∧ c = .int .i64 k ∧ runL (l.take k) = st ∧ a = .int .i64 (st.1 : Nat) ∧ s = .int .i64 (st.2.1 : Nat) ∧ Buf 5 w.heap.size wr v st.2.2 ∧ Below w.heap.size w wr)
 case atStart => exact ⟨0, (0, 0, []), by omega, by omega, rfl, rfl, rfl, rfl, hb0, hl0⟩
 case round =>
  obtain ⟨k, st, hk, hg, rfl, hst, rfl, rfl, hb, hlo⟩ := hrel
  have Hg := Lib.hid hg
  have Hst := Lib.hid hst
  clear hg hb0 hl0
  by_cases hlt : k < p
  ·have hkl : k < l.length := by omega
   have hki : (k : Int) < (m : Int) := by omega
   have hki2 : (k : Int) < (l.length : Int) := by omega
   have hv := Hgood.out k hkl hlt
   have hbd := letN_bd l[k]
   obtain ⟨n, hn⟩ : ∃ n : Nat, (letN l[k]).toNat = n := ⟨_, rfl⟩
   have hn2 : letN l[k] = (n : Int) := by omega
   have hn64 : n < 64 := by omega
   have hinv := runL_inv (l.take k)
   have hnew : runL (l.take (k + 1)) = stepL st n := by rw [List.take_succ_eq_append_getElem hkl, runL_snoc, hst, hn]
   rw [hst, List.length_take, Nat.min_eq_left (by omega)] at hinv
   clear hn hv hbd hst
   obtain ⟨a, s, o⟩ := st
   obtain ⟨hs, ha, hso⟩ := hinv
   have Hnew := Lib.hid hnew
   have Hn2 := Lib.hid hn2
   simp only at hs ha hso hb
   clear hnew hn2 hki2
   have hsz := hlo.size
   rcases hs with rfl | rfl | rfl | rfl
   ·have ha' : a < 1 := ha
    obtain rfl : a = 0 := by omega
    clear ha
    obtain ⟨h, hh⟩ : ∃ h, n = h := ⟨_, rfl⟩
    have hor := or6 0 n h (by omega) hn64 (by omega)
    simp only [Int.cast_ofNat_Int, Int.zero_mul] at hor
    have hres : stepL (0, 0, o) n = (h, 6, o) := by simp [stepL]; exact hh
    rw [hres] at Hnew
    clear hres hh
    go_wp2_with fail
    refine (index_any _ _).mono ?_
    rintro e w2 ⟨rfl, rfl⟩
    rw [Hn2.out]
    go_wp2_with fail
    go_roundg (gk - 1)
    case measure => have := Hg.out; omega
    case rel => exact ⟨k + 1, (h, 6, o), by omega, by have := Hg.out; omega, by go_num, Hnew.out, rfl, rfl, hb, hlo⟩
   ·have ha' : a < 4 := ha
    clear ha
    obtain ⟨h, hh⟩ : ∃ h, a * 64 + n = h := ⟨_, rfl⟩
    have hor := or6 a n h (by omega) hn64 hh
    have hh2 : h < 256 := by omega
    obtain ⟨y, hy, hyi⟩ := byte_of h 1 (by omega)
    have hmask : bits .and .i64 (h : Int) 0 = ((h % 1 : Nat) : Int) := i64_mask h 0 (by omega) (by decide)
    have hres : stepL (a, 2, o) n = (h % 1, 0, o ++ [y]) := by simp only [stepL]; rw [if_pos (by decide), hh, ← hy]
    obtain ⟨z, hz⟩ : ∃ z, h % 1 = z := ⟨_, rfl⟩
    rw [hz] at hmask hres
    have hy1 : y.toNat = h := by rw [← hy, UInt8.toNat_ofNat', Nat.div_one]; exact Nat.mod_eq_of_lt hh2
    subst hy1
    clear hyi hh2
    have hh2 : y.toNat < 256 := y.toNat_lt
    rw [hres] at Hnew
    clear hres hh hy hz
    go_wp2_with fail
    refine (index_any _ _).mono ?_
    rintro e w2 ⟨rfl, rfl⟩
    rw [Hn2.out]
    have hlen : o.length ≤ l.length := by omega
    go_wp2_with (at_builtin; refine wpList_append_buf rfl _ _ _ _ rfl 5 i0 Tryz.underlying116 hi hz0 hz1 hz2 w.heap.size _ o rfl (hb.alloc _) (by simp; omega) _ [y] rfl (src_lit Tryz.underlying116 wr [y] 5 (0, 0) 1 1 rfl) (by simp; omega) ?_; intro v3 w3 hb3 hlo3 hsz3 _)
    have hlo4 : Below w.heap.size w w3 := (hlo.alloc (by omega) _).trans hlo3
    go_roundg (gk - 1)
    case measure => have := Hg.out; omega
    case rel => exact ⟨k + 1, (z, 0, o ++ [y]), by omega, by have := Hg.out; omega, by go_num, Hnew.out, rfl, rfl, hb3, hlo4⟩
   ·have ha' : a < 16 := ha
    clear ha
    obtain ⟨h, hh⟩ : ∃ h, a * 64 + n = h := ⟨_, rfl⟩
    have hor := or6 a n h (by omega) hn64 hh
    have hh2 : h < 1024 := by omega
    obtain ⟨y, hy, hyi⟩ := byte_of h 4 (by omega)
    have hmask : bits .and .i64 (h : Int) 3 = ((h % 4 : Nat) : Int) := i64_mask h 2 (by omega) (by decide)
    have hres : stepL (a, 4, o) n = (h % 4, 2, o ++ [y]) := by simp only [stepL]; rw [if_pos (by decide), hh, ← hy]
    obtain ⟨z, hz⟩ : ∃ z, h % 4 = z := ⟨_, rfl⟩
    rw [hz] at hmask hres
    simp only [Int.cast_ofNat_Int] at hyi
    rw [hres] at Hnew
    clear hres hh hy hz
    go_wp2_with fail
    refine (index_any _ _).mono ?_
    rintro e w2 ⟨rfl, rfl⟩
    rw [Hn2.out]
    have hlen : o.length ≤ l.length := by omega
    go_wp2_with (at_builtin; refine wpList_append_buf rfl _ _ _ _ rfl 5 i0 Tryz.underlying116 hi hz0 hz1 hz2 w.heap.size _ o rfl (hb.alloc _) (by simp; omega) _ [y] rfl (src_lit Tryz.underlying116 wr [y] 5 (0, 0) 1 1 rfl) (by simp; omega) ?_; intro v3 w3 hb3 hlo3 hsz3 _)
    have hlo4 : Below w.heap.size w w3 := (hlo.alloc (by omega) _).trans hlo3
    go_roundg (gk - 1)
    case measure => have := Hg.out; omega
    case rel => exact ⟨k + 1, (z, 2, o ++ [y]), by omega, by have := Hg.out; omega, by go_num, Hnew.out, rfl, rfl, hb3, hlo4⟩
   ·have ha' : a < 64 := ha
    clear ha
    obtain ⟨h, hh⟩ : ∃ h, a * 64 + n = h := ⟨_, rfl⟩
    have hor := or6 a n h (by omega) hn64 hh
    have hh2 : h < 4096 := by omega
    obtain ⟨y, hy, hyi⟩ := byte_of h 16 (by omega)
    have hmask : bits .and .i64 (h : Int) 15 = ((h % 16 : Nat) : Int) := i64_mask h 4 (by omega) (by decide)
    have hres : stepL (a, 6, o) n = (h % 16, 4, o ++ [y]) := by simp only [stepL]; rw [if_pos (by decide), hh, ← hy]
    obtain ⟨z, hz⟩ : ∃ z, h % 16 = z := ⟨_, rfl⟩
    rw [hz] at hmask hres
    simp only [Int.cast_ofNat_Int] at hyi
    rw [hres] at Hnew
    clear hres hh hy hz
    go_wp2_with fail
    refine (index_any _ _).mono ?_
    rintro e w2 ⟨rfl, rfl⟩
    rw [Hn2.out]
    have hlen : o.length ≤ l.length := by omega
    go_wp2_with (at_builtin; refine wpList_append_buf rfl _ _ _ _ rfl 5 i0 Tryz.underlying116 hi hz0 hz1 hz2 w.heap.size _ o rfl (hb.alloc _) (by simp; omega) _ [y] rfl (src_lit Tryz.underlying116 wr [y] 5 (0, 0) 1 1 rfl) (by simp; omega) ?_; intro v3 w3 hb3 hlo3 hsz3 _)
    have hlo4 : Below w.heap.size w w3 := (hlo.alloc (by omega) _).trans hlo3
    go_roundg (gk - 1)
    case measure => have := Hg.out; omega
    case rel => exact ⟨k + 1, (z, 4, o ++ [y]), by omega, by have := Hg.out; omega, by go_num, Hnew.out, rfl, rfl, hb3, hlo4⟩
  ·have hkp : k = p := by omega
   subst hkp
   clear hlt
   by_cases hkm : k < m
   ·have hki : (k : Int) < (m : Int) := by omega
    have hki2 : (k : Int) < (l.length : Int) := by omega
    have hv := Hbad.out (by omega) hkm
    have hbd := letN_bd (l[k]'(by omega))
    have hv1 : letN (l[k]'(by omega)) = -1 := by omega
    clear hbd hv hst
    have Hv := Lib.hid hv1
    clear hv1
    go_wp2_with fail
    refine (index_any _ _).mono ?_
    rintro e w2 ⟨rfl, rfl⟩
    rw [Hv.out]
    go_wp2_with fail
    refine (wrong_any k _ (by omega)).mono ?_
    rintro e w3 ⟨v, rfl, he, hb3⟩
    go_wp2_with fail
    go_ret2
    rw [Hr1.out hkm]
    exact ⟨v, rfl, he, below_then hlo hb3⟩
   ·have hkm2 : k = m := by omega
    subst hkm2
    clear hkm
    have hcv := run_string_buf (P := Tryz.prog) 116 9 5 Tryz.underlying116 Tryz.underlying5 Tryz.underlying9 hb
    have hR2 := Hr2.out (Nat.lt_irrefl _)
    have hR3 := Hr3.out (Nat.lt_irrefl _)
    rw [hst] at hR2 hR3
    have HR2 := Lib.hid hR2
    have HR3 := Lib.hid hR3
    clear hR2 hR3 hst
    obtain ⟨a, s, o⟩ := st
    simp only at hcv hb
    by_cases ha : a = 0
    ·subst ha
     go_wp2_with fail
     go_ret2
     rw [HR3.out (by trivial)]
     exact ⟨_, rfl, .good, hlo⟩
    ·have hane : ((a : Int) != 0) = true := by rw [bne_iff_ne]; omega
     have hk1 : 0 < k := by
      rcases Nat.eq_zero_or_pos k with h0 | h0
      ·exfalso; apply ha
       have := Hst.out
       rw [h0] at this
       have h2 : runL (l.take 0) = (0, 0, []) := rfl
       rw [h2] at this
       exact (congrArg Prod.fst this).symm
      ·exact h0
     have hkk : (k : Int) - 1 = ((k - 1 : Nat) : Int) := by omega
     obtain ⟨q, hq⟩ : ∃ q, k - 1 = q := ⟨_, rfl⟩
     have hql : q ≤ 140737488351232 := by omega
     have hR := HR2.out ha
     rw [hq] at hkk hR
     have HR := Lib.hid hR
     clear hR hq
     go_wp2_with fail
     refine (wrong_any q _ hql).mono ?_
     rintro e w3 ⟨v, rfl, he, hb3⟩
     go_wp2_with fail
     go_ret2
     rw [HR.out]
     exact ⟨v, rfl, he, below_then hlo hb3⟩
theorem readLetters_any (l : List UInt8) (w : World) (hl : l.length ≤ 4294967280) :
  Calls Tryz.prog 68 #[.string (S l)] w (RetSE w (readLet l)) := by
 by_cases ho : l.length % 4 = 0
 ·have he := eqs_len l
  have hlen : (l.take (l.length - eqs l)).length = l.length - eqs l := by rw [List.length_take]; omega
  cases hf : (l.take (l.length - eqs l)).findIdx? (fun c => decide (letN c < 0)) with
  | some m =>
   obtain ⟨hm, hp, hall⟩ := List.findIdx?_eq_some_iff_getElem.1 hf
   have e : readLet l = ([], 3, 2 + (m : Int)) := by unfold readLet; rw [if_neg (by omega), hf]
   rw [e]
   exact readLetters_loop l _ m w hl ho rfl (by omega) (fun j hj hjm => by
    have := hall j hjm
    simp only [List.getElem_take] at this
    simpa using this) (fun hj _ => by simpa using hp) _ (fun _ => rfl) (fun h _ => absurd hm (by omega)) (fun h _ => absurd hm (by omega))
  | none =>
   have hall := List.findIdx?_eq_none_iff.1 hf
   have hg : ∀ j (hj : j < l.length), j < l.length - eqs l → 0 ≤ letN l[j] := fun j hj hjm => by
    have hj2 : j < (l.take (l.length - eqs l)).length := by omega
    have hmem := List.getElem_mem hj2
    rw [List.getElem_take] at hmem
    have := hall l[j] hmem
    simpa using this
   by_cases hz : (runL (l.take (l.length - eqs l))).1 = 0
   ·have e : readLet l = ((runL (l.take (l.length - eqs l))).2.2, 0, -1) := by unfold readLet; rw [if_neg (by omega), hf]; simp only; rw [if_neg (by omega)]
    rw [e]
    exact readLetters_loop l _ (l.length - eqs l) w hl ho rfl (Nat.le_refl _) hg (fun _ h => absurd h (Nat.lt_irrefl _)) _ (fun h => absurd h (Nat.lt_irrefl _)) (fun _ h => absurd hz h) (fun _ _ => rfl)
   ·have e : readLet l = ([], 3, 2 + ((l.length - eqs l - 1 : Nat) : Int)) := by unfold readLet; rw [if_neg (by omega), hf]; simp only; rw [if_pos (by omega)]
    rw [e]
    exact readLetters_loop l _ (l.length - eqs l) w hl ho rfl (Nat.le_refl _) hg (fun _ h => absurd h (Nat.lt_irrefl _)) _ (fun h => absurd h (Nat.lt_irrefl _)) (fun _ _ => rfl) (fun _ h => absurd h hz)
 ·have e : readLet l = ([], 7, -1) := by unfold readLet; rw [if_pos (by omega)]
  rw [e]
  exact (readLetters_odd l w hl ho).mono fun _ _ ⟨h1, h2⟩ => ⟨_, h1, .bare _ (by decide), by rw [← h2]; exact Below.refl _ _⟩
def readV (l : List UInt8) : List UInt8 × Int × Int :=
 match l with
 | a :: b :: r => if a = 48 then (if b = 120 ∨ b = 88 then readHex r else if b = 98 ∨ b = 66 then readLet r else ([], 3, -1)) else ([], 3, -1)
 | _ => ([], 3, -1)
theorem readV_hex (r : List UInt8) (b : UInt8) (hb : b = 120 ∨ b = 88) : readV (48 :: b :: r) = readHex r := by simp only [readV, if_true]; rw [if_pos hb]
theorem readV_b64 (r : List UInt8) (b : UInt8) (hb : b = 98 ∨ b = 66) : readV (48 :: b :: r) = readLet r := by
 simp only [readV, if_true]
 rw [if_neg (by rcases hb with rfl | rfl <;> decide), if_pos hb]
theorem read_short (l : List UInt8) (w : World) (h : l.length < 2) :
  Calls Tryz.prog 23 #[.string (S l)] w (RetSE w ([], 3, -1)) := by
 go_enter Tryz.func23, Tryz.ntmps23
 go_wp2_with fail
 go_ret2
 exact ⟨_, rfl, .bare _ (by decide), Below.refl _ _⟩
theorem u8_ne (a : UInt8) (n : Nat) (h : a ≠ UInt8.ofNat n) (hn : n < 256) : ((a.toNat : Int) == (n : Int)) = false ∧ ((a.toNat : Int) != (n : Int)) = true := by
 have hne : (a.toNat : Int) ≠ (n : Int) := by
  intro hx
  apply h
  apply UInt8.toNat_inj.1
  rw [UInt8.toNat_ofNat', Nat.mod_eq_of_lt (show n < 2 ^ 8 from hn)]; omega
 exact ⟨beq_false_of_ne hne, bne_iff_ne.2 hne⟩
theorem read_pair (a b : UInt8) (r : List UInt8) (w : World) (hl : r.length ≤ 4294967270) :
  Calls Tryz.prog 23 #[.string (S (a :: b :: r))] w (RetSE w (readV (a :: b :: r))) := by
 by_cases ha : a = 48
 ·subst ha
  by_cases hx : b = 120 ∨ b = 88
  ·rw [readV_hex r b hx]
   rcases hx with rfl | rfl
   all_goals
    go_enter Tryz.func23, Tryz.ntmps23
    go_wp2_with fail
    refine (readDigits_any r _ (by omega)).mono ?_
    rintro e w' ⟨v, rfl, he, hb⟩
    go_wp2_with fail
    go_ret2
    exact ⟨v, rfl, he, hb⟩
  ·by_cases hy : b = 98 ∨ b = 66
   ·rw [readV_b64 r b hy]
    rcases hy with rfl | rfl
    all_goals
     go_enter Tryz.func23, Tryz.ntmps23
     go_wp2_with fail
     refine (readLetters_any r _ (by omega)).mono ?_
     rintro e w' ⟨v, rfl, he, hb⟩
     go_wp2_with fail
     go_ret2
     exact ⟨v, rfl, he, hb⟩
   ·obtain ⟨h1, _⟩ := u8_ne b 120 (fun h => hx (.inl h)) (by decide)
    obtain ⟨h2, _⟩ := u8_ne b 88 (fun h => hx (.inr h)) (by decide)
    obtain ⟨h3, _⟩ := u8_ne b 98 (fun h => hy (.inl h)) (by decide)
    obtain ⟨h4, _⟩ := u8_ne b 66 (fun h => hy (.inr h)) (by decide)
    have e : readV (48 :: b :: r) = ([], 3, -1) := by simp only [readV, if_true]; rw [if_neg hx, if_neg hy]
    rw [e]
    clear hx hy e
    simp only [Int.cast_ofNat_Int] at h1 h2 h3 h4
    go_enter Tryz.func23, Tryz.ntmps23
    go_wp2_with fail
    go_ret2
    exact ⟨_, rfl, .bare _ (by decide), Below.refl _ _⟩
 ·obtain ⟨h1, h2⟩ := u8_ne a 48 ha (by decide)
  have e : readV (a :: b :: r) = ([], 3, -1) := by simp only [readV]; rw [if_neg ha]
  rw [e]
  clear e ha
  simp only [Int.cast_ofNat_Int] at h1 h2
  go_enter Tryz.func23, Tryz.ntmps23
  go_wp2_with fail
  go_ret2
  exact ⟨_, rfl, .bare _ (by decide), Below.refl _ _⟩
theorem read_any (l : List UInt8) (w : World) (hl : l.length ≤ 4294967270) :
  Calls Tryz.prog 23 #[.string (S l)] w (RetSE w (readV l)) := by
 match l, hl with
 | [], _ => exact read_short [] w (by decide)
 | [a], _ => exact read_short [a] w (by simp)
 | a :: b :: r, hl => exact read_pair a b r w (by simp at hl; omega)
end Go.Proofs.YtjbbbpgcegcbaaaGreatDoor
namespace Go.Proofs.YtjbbbpgcegcbaaaGreatDoor
open Go.RowKit
set_option linter.unusedVariables false
def chkR (rv : List UInt8 × Int) (rs : List UInt8 × Int) : Int := if rv.2 ≠ 0 then rv.2 else if rs.2 ≠ 0 then rs.2 else if rv.1 = rs.1 then 0 else 13
def chkU (o : Option Us) (value : List UInt8) (id : Int) (c : List UInt8) : Int :=
 match o with
 | none => 8
 | some u => chkR ((readV value).1, (readV value).2.1) (respL id u.sc c)
def chkL (l : List Us) (name value : List UInt8) (id : Int) (c : List UInt8) : Int := chkU (usFind l name) value id c
theorem chkR_bad (t : List UInt8) (e : Int) (rs : List UInt8 × Int) (h : e ≠ 0) : chkR (t, e) rs = e := by unfold chkR; rw [if_pos h]
theorem chkR_resp (t x : List UInt8) (e : Int) (h : e ≠ 0) : chkR (t, 0) (x, e) = e := by unfold chkR; rw [if_neg (by simp), if_pos h]
theorem chkR_same (t : List UInt8) : chkR (t, 0) (t, 0) = 0 := by unfold chkR; rw [if_neg (by simp), if_neg (by simp), if_pos rfl]
theorem chkR_other (t x : List UInt8) (h : t ≠ x) : chkR (t, 0) (x, 0) = 13 := by unfold chkR; rw [if_neg (by simp), if_neg (by simp), if_neg h]
theorem chkL_of (l : List Us) (name value t : List UInt8) (id : Int) (c : List UInt8) (u : Us) (e p : Int) (h : usFind l name = some u) (hv : readV value = (t, e, p)) : chkL l name value id c = chkR (t, e) (respL id u.sc c) := by
 unfold chkL; rw [h]; show chkR ((readV value).1, (readV value).2.1) _ = _; rw [hv]
theorem chkL_none (l : List Us) (name value : List UInt8) (id : Int) (c : List UInt8) (h : usFind l name = none) : chkL l name value id c = 8 := by
 unfold chkL; rw [h]; rfl
end Go.Proofs.YtjbbbpgcegcbaaaGreatDoor
