/- LA01: several texts in one. -/
import Derived.Below
import Derived.BigQuiet
import Derived.Deep.DeepFit
import Derived.Deep.LoopGhost
import Derived.Deep.QuietTactic
import Derived.Deep.RegionWith
import Derived.Laws.BitsAllLaws
import Derived.Lib.Hide
import Derived.Lib.Strings
import Derived.Outline
import Derived.WalkKit
import Derived.WalkLawsBesides
import Derived.WalkSpells
namespace Go.Proofs.YtjbbbpgcegcbaaaGreatDoor
open Go.RowKit
def S (l : List UInt8) : ByteArray := ⟨l.toArray⟩
@[go_sem] theorem S_size (l : List UInt8) : (S l).size = l.length := by simp [S, ByteArray.size]
@[go_sem] theorem S_append (a b : List UInt8) : S a ++ S b = S (a ++ b) := by apply ByteArray.ext; simp [S]
@[go_sem] theorem S_extract (l : List UInt8) (a b : Nat) : (S l).extract a b = S ((l.drop a).take (b - a)) := ByteArray.extract_mk l a b
@[go_sem] theorem S_toList (l : List UInt8) : (S l).toList = l := by rw [Lib.toList_data]; simp [S]
@[go_sem] theorem S_mk (l : List UInt8) : ByteArray.mk l.toArray = S l := rfl
@[go_sem] theorem S_get (l : List UInt8) (i : Nat) (h : i < (S l).size) : (S l)[i]'h = l[i]'(by rw [S_size] at h; exact h) := by simp [S, ByteArray.getElem_eq_getElem_data]
theorem S_of (s : ByteArray) : ∃ l, s = S l := ⟨s.data.toList, by apply ByteArray.ext; simp [S]⟩
theorem S_inj {a b : List UInt8} (h : S a = S b) : a = b := by have := congrArg ByteArray.toList h; simpa [S_toList] using this
theorem ret_int {k : IntKind} {a b : Int} (h : a = b) : Ending.returned (.int k a) = .returned (.int k b) := by rw [h]
theorem ret_S {a b : List UInt8} (h : a = b) : Ending.returned (.string (S a)) = .returned (.string (S b)) := by rw [h]
theorem below_drewN {B : Nat} {a w : World} (h : Below B a w) (n : Nat) : Below B a (w.drewN n) := ⟨h.os, h.tape, h.output, h.size, h.block⟩
theorem quiet_add_left {P : Program} {f : FuncId} {args : Array Value} {w : World} {a n : Nat} {v : Value}
  (h : Calls P f args (w.drewN (a + n)) fun e w' => e = .returned v ∧ w.drewN (a + n) = w') :
  Calls P f args (w.drewN (a + n)) fun e w'' => e = .returned v ∧ ∃ m, w'' = w.drewN (a + m) :=
 h.mono fun _ _ ⟨he, hm⟩ => ⟨he, n, hm.symm⟩
theorem bcell {W w1 : World} (hb : Below W.heap.size W w1) : (∀ b o, b < W.heap.size → w1.cell? ⟨b, o, none⟩ = W.cell? ⟨b, o, none⟩) ∧ (∀ b o, b < W.heap.size → w1.frozen? ⟨b, o, none⟩ = W.frozen? ⟨b, o, none⟩) :=
 ⟨fun b o h => hb.cell (p := ⟨b, o, none⟩) h, fun b o h => hb.frozen (p := ⟨b, o, none⟩) h⟩
def cells8 (l : List UInt8) : Array Value := (l.map fun b => Value.int .u8 (b.toNat : Int)).toArray
@[go_sem] theorem cells8_size (l : List UInt8) : (cells8 l).size = l.length := by simp [cells8]
theorem cells8_set (l : List UInt8) (i : Nat) (b : UInt8) : (cells8 l).setIfInBounds i (.int .u8 (b.toNat : Int)) = cells8 (l.set i b) := by
 simp [cells8, List.map_set]
theorem cells8_get (l : List UInt8) (i : Nat) (h : i < l.length) : (cells8 l)[i]? = some (.int .u8 (l[i].toNat : Int)) := by
 simp [cells8, List.getElem?_eq_getElem h]
theorem run_string_mark {P : Program} (src dst e : TypeId) (hs : P.underlying src = some (.slice e)) (he : P.underlying e = some (.int .u8)) (hd : P.underlying dst = some .string)
  (w : World) (l : List UInt8) (n c : Nat) (t : TypeId) (fr : Nat × Nat) (hn : n ≤ l.length) :
  (convert src dst (.slice (some ⟨w.heap.size, 0, none⟩) n c)).run P (w.alloc (.cells (cells8 l) t fr)) = .ok (.string (S (l.take n))) (w.alloc (.cells (cells8 l) t fr)) := by
 have hl : (l.take n).length = n := by simp; omega
 have h := run_convert_bytes_back (P := P) (w.alloc (.cells (cells8 l) t fr)) src dst e ⟨w.heap.size, 0, none⟩ c (l.take n) hs he hd (fun j hj => by
  have hj' : j < l.length := by omega
  have e1 : (⟨w.heap.size, 0, none⟩ : Addr).add j = ⟨w.heap.size, j, none⟩ := by simp [Addr.add]; omega
  rw [e1, World.cell?_alloc_mark, cells8_get l j hj']
  simp [List.getElem_take])
 rw [hl] at h
 exact h
theorem run_string_cells8 {P : Program} (src dst e : TypeId) (hs : P.underlying src = some (.slice e)) (he : P.underlying e = some (.int .u8)) (hd : P.underlying dst = some .string)
  (w : World) (l : List UInt8) (n c : Nat) (t : TypeId) (hn : n ≤ l.length) :
  (convert src dst (.slice (some ⟨w.heap.size, 0, none⟩) n c)).run P (w.alloc (.cells (cells8 l) t)) = .ok (.string (S (l.take n))) (w.alloc (.cells (cells8 l) t)) :=
 run_string_mark src dst e hs he hd w l n c t (0, 0) hn
theorem run_string_at {P : Program} (src dst e : TypeId) (hs : P.underlying src = some (.slice e)) (he : P.underlying e = some (.int .u8)) (hd : P.underlying dst = some .string)
  (w : World) (b o : Nat) (l : List UInt8) (c : Nat) (hc : ∀ j (hj : j < l.length), w.cell? ⟨b, o + j, none⟩ = some (.int .u8 (l[j].toNat : Int))) :
  (convert src dst (.slice (some ⟨b, o, none⟩) l.length c)).run P w = .ok (.string (S l)) w :=
 run_convert_bytes_back (P := P) w src dst e ⟨b, o, none⟩ c l hs he hd (fun j hj => by
  have e1 : (⟨b, o, none⟩ : Addr).add j = ⟨b, o + j, none⟩ := by simp [Addr.add]
  rw [e1]; exact hc j hj)
theorem run_bytes_S {P : Program} (src dst e : TypeId) (hs : P.underlying src = some .string) (hd : P.underlying dst = some (.slice e)) (he : P.underlying e = some (.int .u8)) (w : World) (l : List UInt8) :
  ∃ cap, l.length ≤ cap ∧ (l.length ≤ maxLen → cap ≤ maxLen) ∧ (convert src dst (.string (S l))).run P w = .ok (.slice (some ⟨w.heap.size, 0, none⟩) l.length cap) (w.alloc (.cells (cells8 (l ++ List.replicate (cap - l.length) 0)) e (cap, cap + 1))).drew := by
 have h := run_bytes_of_string (P := P) w src dst e (S l) hs hd he
 have hge := grownCap_ge w (S l).size 0 e
 have hle := grownCap_le_maxLen w (S l).size 0 e
 generalize grownCap w (S l).size 0 e = cap at h hge hle
 rw [S_size] at hge hle h
 have e1 : bytesRow (S l) cap = cells8 (l ++ List.replicate (cap - l.length) 0) := by
  unfold bytesRow cells8
  rw [S_size]
  simp [S]
 have e2 : (cells8 (l ++ List.replicate (cap - l.length) 0)).size = cap := by simp [cells8_size]; omega
 rw [e1, e2] at h
 exact ⟨cap, hge, hle, h⟩
theorem setCell_mark (w : World) (C : Array Value) (t : TypeId) (fr : Nat × Nat) (i : Nat) (v : Value) : (w.alloc (.cells C t fr)).setCell ⟨w.heap.size, i, none⟩ v = w.alloc (.cells (C.setIfInBounds i v) t fr) := by
 have hm : ∀ (a : Array Obj) (x : Obj) (f : Obj → Obj), (a.push x).modify a.size f = a.push (f x) := by
  intro a x f
  apply Array.ext
  ·simp
  ·intro i h1 h2
   simp only [Array.getElem_modify, Array.getElem_push]
   by_cases h : a.size = i
   ·subst h
    simp
   ·have hi : i < a.size := by simp at h1; omega
    simp [h, hi]
 unfold World.setCell
 show ({ w.alloc (.cells C t fr) with heap := (w.heap.push (.cells C t fr)).modify w.heap.size _ } : World) = _
 rw [hm]
 rfl
theorem wrap_u64_lt (n : Nat) (h : n < 18446744073709551616) : IntKind.u64.wrap (n : Int) = n := by
 have e : (2 : Int) ^ IntKind.u64.bits = 18446744073709551616 := by decide
 have s : IntKind.u64.signed = false := rfl
 unfold IntKind.wrap
 simp only [e, s, Bool.false_and, Bool.false_eq_true, if_false]
 omega
theorem below_then {w w1 w2 : World} (h : Below w.heap.size w w1) (k : Below w1.heap.size w1 w2) : Below w.heap.size w w2 := h.trans (k.mono h.size)
theorem below_drawn {w : World} (n : Nat) : Below w.heap.size w (w.drewN n) := below_drewN (Below.refl _ _) n
theorem u8_mod (x : Nat) : (UInt8.ofNat (x % 256)).toNat = x % 256 := by rw [UInt8.toNat_ofNat']; omega
theorem iA {α : Type} {l : List α} {i : Nat} {a : α} : l.toArray.setIfInBounds i a = (l.set i a).toArray := List.setIfInBounds_toArray ..
theorem iB {α : Type} {x : α} {xs : List α} {n : Nat} {a : α} : (x :: xs).set (n + 1) a = x :: xs.set n a := List.set_cons_succ ..
theorem iC {α : Type} {x : α} {xs : List α} {a : α} : (x :: xs).set 0 a = a :: xs := List.set_cons_zero ..
end Go.Proofs.YtjbbbpgcegcbaaaGreatDoor
namespace Go.Proofs.YtjbbbpgcegcbaaaGreatDoor
theorem ofInt_i64 (a : Nat) (ha : a < 18446744073709551616) : (BitVec.ofInt 64 (a : Int)).toNat = a := by
 rw [BitVec.ofInt_natCast, BitVec.toNat_ofNat]; exact Nat.mod_eq_of_lt (by omega)
theorem wrap_i64_nat (n : Nat) (h : n < 9223372036854775808) : IntKind.i64.wrap (n : Int) = n := by
 rw [IntKind.wrap_i64]; omega
theorem i64_and_nat (a b : Nat) (ha : a < 9223372036854775808) (hb : b < 9223372036854775808) : bits .and .i64 (a : Int) (b : Int) = ((a &&& b : Nat) : Int) := by
 have hx : a &&& b < 2 ^ 63 := Nat.and_lt_two_pow _ (by omega)
 show IntKind.i64.wrap ((BitVec.ofInt 64 (a : Int) &&& BitVec.ofInt 64 (b : Int)).toNat : Int) = _
 rw [BitVec.toNat_and, ofInt_i64 a (by omega), ofInt_i64 b (by omega)]
 exact wrap_i64_nat _ (by omega)
theorem i64_or_nat (a b : Nat) (ha : a < 9223372036854775808) (hb : b < 9223372036854775808) : bits .or .i64 (a : Int) (b : Int) = ((a ||| b : Nat) : Int) := by
 have hx : a ||| b < 2 ^ 63 := Nat.or_lt_two_pow (by omega) (by omega)
 show IntKind.i64.wrap ((BitVec.ofInt 64 (a : Int) ||| BitVec.ofInt 64 (b : Int)).toNat : Int) = _
 rw [BitVec.toNat_or, ofInt_i64 a (by omega), ofInt_i64 b (by omega)]
 exact wrap_i64_nat _ (by omega)
theorem nat_join (x k y : Nat) (h : y < 2 ^ k) : x * 2 ^ k ||| y = x * 2 ^ k + y := by
 have := Nat.shiftLeft_add_eq_or_of_lt h x
 rw [Nat.shiftLeft_eq] at this
 exact this.symm
theorem i64_mask (n k : Nat) (hn : n < 9223372036854775808) (hk : 2 ^ k - 1 < 9223372036854775808) : bits .and .i64 (n : Int) ((2 ^ k - 1 : Nat) : Int) = ((n % 2 ^ k : Nat) : Int) := by
 rw [i64_and_nat n _ hn hk, Nat.and_two_pow_sub_one_eq_mod]
abbrev St := Nat × Nat × Nat × Nat
def mK : List Nat := [3614090360, 3905402710, 606105819, 3250441966, 4118548399, 1200080426, 2821735955, 4249261313, 1770035416, 2336552879, 4294925233, 2304563134, 1804603682, 4254626195, 2792965006, 1236535329, 4129170786, 3225465664, 643717713, 3921069994, 3593408605, 38016083, 3634488961, 3889429448, 568446438, 3275163606, 4107603335, 1163531501, 2850285829, 4243563512, 1735328473, 2368359562, 4294588738, 2272392833, 1839030562, 4259657740, 2763975236, 1272893353, 4139469664, 3200236656, 681279174, 3936430074, 3572445317, 76029189, 3654602809, 3873151461, 530742520, 3299628645, 4096336452, 1126891415, 2878612391, 4237533241, 1700485571, 2399980690, 4293915773, 2240044497, 1873313359, 4264355552, 2734768916, 1309151649, 4149444226, 3174756917, 718787259, 3951481745]
def mSl : List Nat := [7, 12, 17, 22, 5, 9, 14, 20, 4, 11, 16, 23, 6, 10, 15, 21]
def mS (i : Nat) : Nat := mSl.getD (i / 16 * 4 + i % 4) 0
def mF (i b c d : Nat) : Nat :=
 if i / 16 = 0 then (b &&& c) ||| ((4294967295 - b) &&& d) else if i / 16 = 1 then (b &&& d) ||| (c &&& (4294967295 - d)) else if i / 16 = 2 then b ^^^ c ^^^ d else c ^^^ (b ||| (4294967295 - d))
def mG (i : Nat) : Nat := if i / 16 = 0 then i else if i / 16 = 1 then (5 * i + 1) % 16 else if i / 16 = 2 then (3 * i + 5) % 16 else 7 * i % 16
def rot (x k : Nat) : Nat := (x * 2 ^ k % 4294967296) ||| (x / 2 ^ (32 - k))
def mSum (ws : List Nat) (i : Nat) (s : St) : Nat := (s.1 + mF i s.2.1 s.2.2.1 s.2.2.2 + mK.getD i 0 + ws.getD (mG i) 0) % 4294967296
def mStep (ws : List Nat) (i : Nat) (s : St) : St := (s.2.2.2, (s.2.1 + rot (mSum ws i s) (mS i)) % 4294967296, s.2.1, s.2.2.1)
def mRun (ws : List Nat) (s : St) : Nat → St
 | 0 => s
 | k + 1 => mStep ws k (mRun ws s k)
def Lt32 (s : St) : Prop := s.1 < 4294967296 ∧ s.2.1 < 4294967296 ∧ s.2.2.1 < 4294967296 ∧ s.2.2.2 < 4294967296
theorem mStep_lt (ws : List Nat) (i : Nat) (s : St) (h : Lt32 s) : Lt32 (mStep ws i s) := ⟨h.2.2.2, Nat.mod_lt _ (by decide), h.2.1, h.2.2.1⟩
theorem mRun_lt (ws : List Nat) (s : St) (h : Lt32 s) : ∀ k, Lt32 (mRun ws s k)
 | 0 => h
 | k + 1 => mStep_lt ws k _ (mRun_lt ws s h k)
def mAdd (s t : St) : St := ((s.1 + t.1) % 4294967296, (s.2.1 + t.2.1) % 4294967296, (s.2.2.1 + t.2.2.1) % 4294967296, (s.2.2.2 + t.2.2.2) % 4294967296)
def mStir (s : St) (ws : List Nat) : St := mAdd s (mRun ws s 64)
theorem mStir_lt (s : St) (ws : List Nat) : Lt32 (mStir s ws) := ⟨Nat.mod_lt _ (by decide), Nat.mod_lt _ (by decide), Nat.mod_lt _ (by decide), Nat.mod_lt _ (by decide)⟩
def wAt (l : List UInt8) (i j : Nat) : Nat :=
 (if 4 * j < i then (l.getD (4 * j) 0).toNat else 0) + (if 4 * j + 1 < i then (l.getD (4 * j + 1) 0).toNat * 256 else 0) + (if 4 * j + 2 < i then (l.getD (4 * j + 2) 0).toNat * 65536 else 0) + (if 4 * j + 3 < i then (l.getD (4 * j + 3) 0).toNat * 16777216 else 0)
def wRow (l : List UInt8) (i : Nat) : List Nat := (List.range 16).map (wAt l i)
def wordsL (l : List UInt8) : List Nat := wRow l 64
theorem wRow_len (l : List UInt8) (i : Nat) : (wRow l i).length = 16 := by simp [wRow]
theorem wRow_0 (l : List UInt8) : wRow l 0 = List.replicate 16 0 := by
 have : wAt l 0 = fun _ => 0 := by funext j; simp [wAt]
 unfold wRow
 rw [this]; rfl
theorem wAt_lt (l : List UInt8) (i j : Nat) : wAt l i j < 4294967296 := by
 unfold wAt
 have h0 := (l.getD (4 * j) 0).toNat_lt
 have h1 := (l.getD (4 * j + 1) 0).toNat_lt
 have h2 := (l.getD (4 * j + 2) 0).toNat_lt
 have h3 := (l.getD (4 * j + 3) 0).toNat_lt
 repeat' split
 all_goals omega
theorem wAt_step (l : List UInt8) (i : Nat) : wAt l (i + 1) (i / 4) = wAt l i (i / 4) + (l.getD i 0).toNat * 2 ^ (8 * (i % 4)) ∧ wAt l i (i / 4) < 2 ^ (8 * (i % 4)) := by
 obtain ⟨q, r, hr, rfl⟩ : ∃ q r, r < 4 ∧ i = 4 * q + r := ⟨i / 4, i % 4, Nat.mod_lt _ (by decide), by omega⟩
 have e1 : (4 * q + r) / 4 = q := by omega
 have e2 : (4 * q + r) % 4 = r := by omega
 rw [e1, e2]
 have h0 := (l.getD (4 * q) 0).toNat_lt
 have h1 := (l.getD (4 * q + 1) 0).toNat_lt
 have h2 := (l.getD (4 * q + 2) 0).toNat_lt
 unfold wAt
 generalize hb0 : (l.getD (4 * q) 0).toNat = b0 at *
 generalize hb1 : (l.getD (4 * q + 1) 0).toNat = b1 at *
 generalize hb2 : (l.getD (4 * q + 2) 0).toNat = b2 at *
 generalize hb3 : (l.getD (4 * q + 3) 0).toNat = b3 at *
 match r, hr with
 | 0, _ =>
  rw [if_pos (show 4 * q < 4 * q + 0 + 1 by omega), if_neg (show ¬ 4 * q + 1 < 4 * q + 0 + 1 by omega), if_neg (show ¬ 4 * q + 2 < 4 * q + 0 + 1 by omega), if_neg (show ¬ 4 * q + 3 < 4 * q + 0 + 1 by omega), if_neg (show ¬ 4 * q < 4 * q + 0 by omega), if_neg (show ¬ 4 * q + 1 < 4 * q + 0 by omega), if_neg (show ¬ 4 * q + 2 < 4 * q + 0 by omega), if_neg (show ¬ 4 * q + 3 < 4 * q + 0 by omega)]
  constructor
  ·rw [show (l.getD (4 * q + 0) 0).toNat = b0 from hb0]; omega
  ·omega
 | 1, _ =>
  rw [if_pos (show 4 * q < 4 * q + 1 + 1 by omega), if_pos (show 4 * q + 1 < 4 * q + 1 + 1 by omega), if_neg (show ¬ 4 * q + 2 < 4 * q + 1 + 1 by omega), if_neg (show ¬ 4 * q + 3 < 4 * q + 1 + 1 by omega), if_pos (show 4 * q < 4 * q + 1 by omega), if_neg (show ¬ 4 * q + 1 < 4 * q + 1 by omega), if_neg (show ¬ 4 * q + 2 < 4 * q + 1 by omega), if_neg (show ¬ 4 * q + 3 < 4 * q + 1 by omega)]
  constructor
  ·rw [show (l.getD (4 * q + 1) 0).toNat = b1 from hb1]; omega
  ·omega
 | 2, _ =>
  rw [if_pos (show 4 * q < 4 * q + 2 + 1 by omega), if_pos (show 4 * q + 1 < 4 * q + 2 + 1 by omega), if_pos (show 4 * q + 2 < 4 * q + 2 + 1 by omega), if_neg (show ¬ 4 * q + 3 < 4 * q + 2 + 1 by omega), if_pos (show 4 * q < 4 * q + 2 by omega), if_pos (show 4 * q + 1 < 4 * q + 2 by omega), if_neg (show ¬ 4 * q + 2 < 4 * q + 2 by omega), if_neg (show ¬ 4 * q + 3 < 4 * q + 2 by omega)]
  constructor
  ·rw [show (l.getD (4 * q + 2) 0).toNat = b2 from hb2]; omega
  ·omega
 | 3, _ =>
  rw [if_pos (show 4 * q < 4 * q + 3 + 1 by omega), if_pos (show 4 * q + 1 < 4 * q + 3 + 1 by omega), if_pos (show 4 * q + 2 < 4 * q + 3 + 1 by omega), if_pos (show 4 * q + 3 < 4 * q + 3 + 1 by omega), if_pos (show 4 * q < 4 * q + 3 by omega), if_pos (show 4 * q + 1 < 4 * q + 3 by omega), if_pos (show 4 * q + 2 < 4 * q + 3 by omega), if_neg (show ¬ 4 * q + 3 < 4 * q + 3 by omega)]
  constructor
  ·rw [show (l.getD (4 * q + 3) 0).toNat = b3 from hb3]; omega
  ·omega
theorem wAt_other (l : List UInt8) (i j : Nat) (h : j ≠ i / 4) : wAt l (i + 1) j = wAt l i j := by
 have a0 : (4 * j < i + 1) = (4 * j < i) := by apply propext; omega
 have a1 : (4 * j + 1 < i + 1) = (4 * j + 1 < i) := by apply propext; omega
 have a2 : (4 * j + 2 < i + 1) = (4 * j + 2 < i) := by apply propext; omega
 have a3 : (4 * j + 3 < i + 1) = (4 * j + 3 < i) := by apply propext; omega
 unfold wAt
 simp only [a0, a1, a2, a3]
theorem wRow_step (l : List UInt8) (i : Nat) : (wRow l i).set (i / 4) (wAt l i (i / 4) ||| (l.getD i 0).toNat * 2 ^ (8 * (i % 4))) = wRow l (i + 1) := by
 obtain ⟨s1, s2⟩ := wAt_step l i
 have e : wAt l i (i / 4) ||| (l.getD i 0).toNat * 2 ^ (8 * (i % 4)) = wAt l (i + 1) (i / 4) := by
  rw [Nat.or_comm, nat_join _ _ _ s2, s1, Nat.add_comm]
 rw [e]
 apply List.ext_getElem
 ·simp [wRow]
 ·intro j h1 h2
  simp only [wRow, List.getElem_set, List.getElem_map, List.getElem_range]
  split
  ·rename_i hj; rw [hj]
  ·rename_i hj; rw [wAt_other l i j (fun e => hj e.symm)]
def stirsTo (s : St) (l : List UInt8) : Nat → St
 | 0 => s
 | i + 1 => mStir (stirsTo s l i) (wordsL ((l.drop (64 * i)).take 64))
theorem stirsTo_lt (s : St) (l : List UInt8) (h : Lt32 s) : ∀ i, Lt32 (stirsTo s l i)
 | 0 => h
 | _ + 1 => mStir_lt _ _
theorem stirsTo_front (s : St) (x y : List UInt8) : ∀ i, 64 * i ≤ x.length → stirsTo s (x ++ y) i = stirsTo s x i
 | 0, _ => rfl
 | i + 1, h => by
  simp only [stirsTo]
  rw [stirsTo_front s x y i (by omega), List.drop_append_of_le_length (by omega), List.take_append_of_le_length (by rw [List.length_drop]; omega)]
theorem stirsTo_app (s : St) (x y : List UInt8) (m : Nat) (hx : x.length = 64 * m) : ∀ j, stirsTo s (x ++ y) (m + j) = stirsTo (stirsTo s x m) y j
 | 0 => stirsTo_front s x y m (by omega)
 | j + 1 => by
  show mStir (stirsTo s (x ++ y) (m + j)) _ = mStir _ _
  rw [stirsTo_app s x y m hx j]
  have e : (x ++ y).drop (64 * (m + j)) = y.drop (64 * j) := by
   rw [List.drop_append, List.drop_eq_nil_of_le (by omega), List.nil_append, show 64 * (m + j) - x.length = 64 * j from by omega]
  show mStir _ (wordsL (((x ++ y).drop (64 * (m + j))).take 64)) = _
  rw [e]
def mInit : St := (1732584193, 4023233417, 2562383102, 271733878)
def le4 (n : Nat) : List UInt8 := [UInt8.ofNat (n % 256), UInt8.ofNat (n / 256 % 256), UInt8.ofNat (n / 65536 % 256), UInt8.ofNat (n / 16777216 % 256)]
def mTail (n : Nat) : List UInt8 := 128 :: (List.replicate ((119 - n % 64) % 64) 0 ++ le4 (n * 8 % 4294967296) ++ le4 (n * 8 / 4294967296 % 4294967296))
def outM (s : St) : List UInt8 := le4 s.1 ++ le4 s.2.1 ++ le4 s.2.2.1 ++ le4 s.2.2.2
def md5L (l : List UInt8) : List UInt8 := outM (stirsTo mInit (l ++ mTail l.length) ((l ++ mTail l.length).length / 64))
end Go.Proofs.YtjbbbpgcegcbaaaGreatDoor
namespace Go.Proofs.YtjbbbpgcegcbaaaGreatDoor
open Go.RowKit
set_option linter.unusedVariables false
def errV (n : Int) : Value := if n = 0 then .nilIface else .iface 56 (.int .i64 n)
theorem errV_0 : errV 0 = .nilIface := rfl
theorem errV_pos (n : Int) (h : n ≠ 0) : errV n = .iface 56 (.int .i64 n) := by unfold errV; rw [if_neg h]
structure Us where
 nm : List UInt8
 sc : List UInt8
def usFind : List Us → List UInt8 → Option Us
 | [], _ => none
 | u :: l, n => if u.nm = n then some u else usFind l n
theorem usFind_name : ∀ (l : List Us) (n : List UInt8) (u : Us), usFind l n = some u → u.nm = n ∧ u ∈ l
 | [], _, _, h => by cases h
 | x :: l, n, u, h => by
  simp only [usFind] at h
  by_cases e : x.nm = n
  ·rw [if_pos e] at h
   obtain rfl := Option.some.inj h
   exact ⟨e, List.mem_cons_self⟩
  ·rw [if_neg e] at h
   obtain ⟨h1, h2⟩ := usFind_name l n u h
   exact ⟨h1, List.mem_cons_of_mem _ h2⟩
def respL (id : Int) (s c : List UInt8) : List UInt8 × Int :=
 if id < 0 ∨ 255 < id then ([], 2) else if 100 < s.length ∨ c.length = 0 ∨ 100 < c.length then ([], 4) else (md5L (UInt8.ofNat id.toNat :: (s ++ c)), 0)
theorem respL_range (id : Int) (s c : List UInt8) (h : id < 0 ∨ 255 < id) : respL id s c = ([], 2) := by unfold respL; rw [if_pos h]
theorem respL_limit (id : Int) (s c : List UInt8) (h : ¬ (id < 0 ∨ 255 < id)) (h2 : 100 < s.length ∨ c.length = 0 ∨ 100 < c.length) : respL id s c = ([], 4) := by unfold respL; rw [if_neg h, if_pos h2]
theorem respL_good (id : Int) (s c : List UInt8) (h : ¬ (id < 0 ∨ 255 < id)) (h2 : ¬ (100 < s.length ∨ c.length = 0 ∨ 100 < c.length)) : respL id s c = (md5L (UInt8.ofNat id.toNat :: (s ++ c)), 0) := by unfold respL; rw [if_neg h, if_neg h2]
theorem md5L_len16 (l : List UInt8) : (md5L l).length = 16 := by unfold md5L outM; simp [le4]
theorem respL_ways (id : Int) (s c : List UInt8) : (respL id s c = ([], 2) ∧ (id < 0 ∨ 255 < id)) ∨ (respL id s c = ([], 4) ∧ (100 < s.length ∨ c.length = 0 ∨ 100 < c.length)) ∨ (∃ x, respL id s c = (x, 0) ∧ x.length = 16 ∧ x = md5L (UInt8.ofNat id.toNat :: (s ++ c)) ∧ 0 ≤ id ∧ id ≤ 255 ∧ s.length ≤ 100 ∧ 0 < c.length ∧ c.length ≤ 100) := by
 by_cases h : id < 0 ∨ 255 < id
 ·exact .inl ⟨respL_range id s c h, h⟩
 ·by_cases h2 : 100 < s.length ∨ c.length = 0 ∨ 100 < c.length
  ·exact .inr (.inl ⟨respL_limit id s c h h2, h2⟩)
  ·exact .inr (.inr ⟨_, respL_good id s c h h2, md5L_len16 _, rfl, by omega, by omega, by omega, by omega, by omega⟩)
end Go.Proofs.YtjbbbpgcegcbaaaGreatDoor
namespace Go.Proofs.YtjbbbpgcegcbaaaGreatDoor
def digC (n : Nat) : UInt8 := UInt8.ofNat (if n < 10 then 48 + n else 87 + n)
def hexOf : List UInt8 → List UInt8
 | [] => []
 | b :: l => digC (b.toNat / 16) :: digC (b.toNat % 16) :: hexOf l
theorem hexOf_app (a b : List UInt8) : hexOf (a ++ b) = hexOf a ++ hexOf b := by
 induction a with
 | nil => rfl
 | cons x a ih => simp [hexOf, ih]
theorem hexOf_len (l : List UInt8) : (hexOf l).length = 2 * l.length := by
 induction l with
 | nil => rfl
 | cons x a ih => simp [hexOf, ih]; omega
theorem hexOf_snoc (l : List UInt8) (b : UInt8) : hexOf (l ++ [b]) = hexOf l ++ [digC (b.toNat / 16), digC (b.toNat % 16)] := by rw [hexOf_app]; rfl
def hexL (l : List UInt8) : List UInt8 := 48 :: 120 :: hexOf l
theorem hexL_len (l : List UInt8) : (hexL l).length = 2 + 2 * l.length := by simp [hexL, hexOf_len]; omega
def hexDigits : List UInt8 := [48, 49, 50, 51, 52, 53, 54, 55, 56, 57, 97, 98, 99, 100, 101, 102]
theorem hexDigits_get (n : Nat) (h : n < 16) : hexDigits[n]'h = digC n := by
 have : ∀ n : Fin 16, hexDigits[n.1]'n.2 = digC n.1 := by decide
 exact this ⟨n, h⟩
theorem and15 (n : Nat) (h : n < 256) : bits .and .u8 (n : Int) 15 = (n : Int) % 16 := by
 rw [show (15 : Int) = ((15 : Nat) : Int) from rfl, u8_and_nat n 15 h (by decide), show (15 : Nat) = 2 ^ 4 - 1 from rfl, Nat.and_two_pow_sub_one_eq_mod]
 rfl
theorem hexDigits_at (n : Int) (m : Nat) (hn : n = m) (h : n.toNat < ([48, 49, 50, 51, 52, 53, 54, 55, 56, 57, 97, 98, 99, 100, 101, 102] : List UInt8).length) :
  ([48, 49, 50, 51, 52, 53, 54, 55, 56, 57, 97, 98, 99, 100, 101, 102] : List UInt8)[n.toNat]'h = digC m := by
 subst hn
 exact hexDigits_get m h
def letterTab : List UInt8 := [65, 66, 67, 68, 69, 70, 71, 72, 73, 74, 75, 76, 77, 78, 79, 80, 81, 82, 83, 84, 85, 86, 87, 88, 89, 90, 97, 98, 99, 100, 101, 102, 103, 104, 105, 106, 107, 108, 109, 110, 111, 112, 113, 114, 115, 116, 117, 118, 119, 120, 121, 122, 48, 49, 50, 51, 52, 53, 54, 55, 56, 57, 43, 47]
def lett (n : Nat) : UInt8 := letterTab.getD n 61
def four : List UInt8 → List UInt8
 | [a] => [lett (a.toNat / 4), lett (a.toNat % 4 * 16), 61, 61]
 | [a, b] => [lett (a.toNat / 4), lett (a.toNat % 4 * 16 + b.toNat / 16), lett (b.toNat % 16 * 4), 61]
 | [a, b, c] => [lett (a.toNat / 4), lett (a.toNat % 4 * 16 + b.toNat / 16), lett (b.toNat % 16 * 4 + c.toNat / 64), lett (c.toNat % 64)]
 | _ => []
def hexV (c : UInt8) : Option Nat :=
 if 48 ≤ c.toNat ∧ c.toNat ≤ 57 then some (c.toNat - 48) else if 97 ≤ c.toNat ∧ c.toNat ≤ 102 then some (c.toNat - 87) else if 65 ≤ c.toNat ∧ c.toNat ≤ 70 then some (c.toNat - 55) else none
theorem hexV_lt (c : UInt8) (n : Nat) (h : hexV c = some n) : n < 16 := by
 unfold hexV at h
 split at h
 ·have := Option.some.inj h; omega
 ·split at h
  ·have := Option.some.inj h; omega
  ·split at h
   ·have := Option.some.inj h; omega
   ·cases h
def hexN (c : UInt8) : Nat := (hexV c).getD 0
theorem hexN_lt (c : UInt8) : hexN c < 16 := by
 unfold hexN
 cases h : hexV c with
 | none => decide
 | some n => exact hexV_lt c n h
def hexRow : List UInt8 → Nat → List UInt8
 | a :: b :: r, i => UInt8.ofNat (if i = 0 then 0 else if i = 1 then hexN a else hexN a * 16 + hexN b) :: hexRow r (i - 2)
 | _, _ => []
def unhex (l : List UInt8) : List UInt8 := hexRow l l.length
theorem hexRow_len : ∀ (l : List UInt8) (i : Nat), (hexRow l i).length = l.length / 2
 | [], _ => rfl
 | [_], _ => by simp [hexRow]
 | a :: b :: r, i => by simp only [hexRow, List.length_cons, hexRow_len r]; omega
theorem hexRow_0 : ∀ (l : List UInt8), hexRow l 0 = List.replicate (l.length / 2) 0
 | [] => rfl
 | [_] => by simp [hexRow]
 | a :: b :: r => by
  have e : (a :: b :: r).length / 2 = r.length / 2 + 1 := by simp only [List.length_cons]; omega
  rw [e, List.replicate_succ, ← hexRow_0 r]
  rfl
theorem hexRow_step : ∀ (l : List UInt8) (i : Nat) (h : i < l.length) (_ : l.length % 2 = 0) (h2 : i / 2 < (hexRow l i).length),
  (hexRow l i).set (i / 2) (UInt8.ofNat (((hexRow l i)[i / 2]'h2).toNat % 16 * 16 + hexN l[i])) = hexRow l (i + 1)
 | [], i, h, _, _ => absurd h (by simp)
 | [_], _, _, he, _ => absurd he (by simp)
 | a :: b :: r, 0, _, _, _ => by
  simp only [hexRow, Nat.zero_div, List.set_cons_zero, List.getElem_cons_zero, if_true]
  simp
 | a :: b :: r, 1, _, _, _ => by
  have ha := hexN_lt a
  have hb := hexN_lt b
  simp only [hexRow, show 1 / 2 = 0 from rfl, List.set_cons_zero, List.getElem_cons_zero, if_true]
  simp [Nat.mod_eq_of_lt (show hexN a < 256 by omega), Nat.mod_eq_of_lt ha]
 | a :: b :: r, i + 2, h, he, h2 => by
  have hr : i < r.length := by simp at h; omega
  have hre : r.length % 2 = 0 := by simp at he; omega
  have e : (i + 2) / 2 = i / 2 + 1 := by omega
  have hl := hexRow_len r i
  have ih := hexRow_step r i hr hre (by rw [hl]; omega)
  simp only [hexRow, e, List.set_cons_succ, List.getElem_cons_succ, Nat.add_sub_cancel, if_neg (show ¬ i + 2 = 0 by omega), if_neg (show ¬ i + 2 = 1 by omega), if_neg (show ¬ i + 2 + 1 = 0 by omega), if_neg (show ¬ i + 2 + 1 = 1 by omega)]
  rw [ih, show i + 2 + 1 - 2 = i + 1 from by omega]
def readHex (l : List UInt8) : List UInt8 × Int × Int :=
 if l.length % 2 ≠ 0 then ([], 7, -1) else match l.findIdx? (fun c => (hexV c).isNone) with
  | some i => ([], 3, 2 + (i : Int))
  | none => (unhex l, 0, -1)
end Go.Proofs.YtjbbbpgcegcbaaaGreatDoor
namespace Go.Proofs.YtjbbbpgcegcbaaaGreatDoor
open Go.RowKit
def BytesAt (W : World) (b : Nat) (l : List UInt8) : Prop := ∀ j, W.cell? ⟨b, j, none⟩ = (cells8 l)[j]?
theorem bytesAt_new (w : World) (l : List UInt8) (t : TypeId) (fr : Nat × Nat) : BytesAt (w.alloc (.cells (cells8 l) t fr)) w.heap.size l := fun j => World.cell?_alloc_mark w _ t fr j
theorem bytesAt_drew {W : World} {b : Nat} {l : List UInt8} (h : BytesAt W b l) : BytesAt W.drew b l := h
theorem bytesAt_drewN {W : World} {b : Nat} {l : List UInt8} (h : BytesAt W b l) (n : Nat) : BytesAt (W.drewN n) b l := h
theorem bytesAt_get {W : World} {b : Nat} {l : List UInt8} (h : BytesAt W b l) (j : Nat) (hj : j < l.length) : W.cell? ⟨b, j, none⟩ = some (.int .u8 (l[j].toNat : Int)) := by
 rw [h j, cells8_get l j hj]
theorem run_string_cells {P : Program} (src dst e : TypeId) (hs : P.underlying src = some (.slice e)) (he : P.underlying e = some (.int .u8)) (hd : P.underlying dst = some .string)
  {W : World} {b : Nat} {l : List UInt8} (h : BytesAt W b l) (n c : Nat) (hn : n ≤ l.length) :
  (convert src dst (.slice (some ⟨b, 0, none⟩) n c)).run P W = .ok (.string (S (l.take n))) W := by
 have hl : (l.take n).length = n := by simp; omega
 have h := run_convert_bytes_back (P := P) W src dst e ⟨b, 0, none⟩ c (l.take n) hs he hd (fun j hj => by
  have hj' : j < l.length := by omega
  have e1 : (⟨b, 0, none⟩ : Addr).add j = ⟨b, j, none⟩ := by simp [Addr.add]; omega
  rw [e1, bytesAt_get h j hj']
  simp [List.getElem_take])
 rw [hl] at h
 exact h
end Go.Proofs.YtjbbbpgcegcbaaaGreatDoor
