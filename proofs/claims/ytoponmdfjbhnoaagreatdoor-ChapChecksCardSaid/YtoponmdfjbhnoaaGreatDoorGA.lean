/- Several texts in one: Plain vocabulary of the texts of this seat: strings as lists of bytes. No program stands in it.  | Bits of int: and, or, of numbers that are not negative. No program stands in it.  | MD5 as plain numbers. No program stands in it.  | An error by its number.  | Users; responses; who is let in.  | An error value told by its number and its place.  | A block known whole: its cells, not frozen. No program stands in it.  | More plain vocabulary: blocks of bytes in any world.  | Numbers in bytes, the highest first. No program stands in it.  | Bytes as values: hexadecimal digits, Base64, as lists of bytes. No program stands in it.  | A number's lowest digits. No program stands in it.  | Digits of a base as numbers. No program stands in it.  | Bits as text, in sixes and in eights. No program stands in it.  | Letters as bytes: the reading, as plain lists. No program stands in it.  | The reference's reading of values: digits two by two, letters as bits, bits by eights. No program stands in it.  | A guarded operation behind one that was not wanted: for the walk of regions. No program stands in it.  -/
import Derived.WalkKit
import Derived.WalkSpells
import Derived.WalkLawsBesides
import Derived.Below
import Derived.Lib.Hide
import Derived.Laws.BitsAllLaws
import Derived.Lib.Strings
import Derived.Outline
import Derived.BigQuiet
import Derived.Deep.QuietTactic
import Derived.Deep.RegionWith
import Derived.Deep.LoopGhost
import Derived.Deep.DeepFit
import Derived.Test.YtoponmdfjbhnoaaGreatDoorRows
import Derived.RangeFuncNested
import Derived.RangeFuncBound
import Derived.Lib.Bytealg
import Derived.Lib.IndexLaws
namespace Go.Proofs.YtoponmdfjbhnoaaGreatDoor
open Go.RowKit

/-- a string of these bytes -/
def S (l : List UInt8) : ByteArray := ⟨l.toArray⟩
@[go_sem] theorem S_size (l : List UInt8) : (S l).size = l.length := by simp [S, ByteArray.size]
@[go_sem] theorem S_append (a b : List UInt8) : S a ++ S b = S (a ++ b) := by apply ByteArray.ext; simp [S]
@[go_sem] theorem S_extract (l : List UInt8) (a b : Nat) : (S l).extract a b = S ((l.drop a).take (b - a)) := ByteArray.extract_mk l a b
@[go_sem] theorem S_toList (l : List UInt8) : (S l).toList = l := by rw [Lib.toList_data]; simp [S]
@[go_sem] theorem S_mk (l : List UInt8) : ByteArray.mk l.toArray = S l := rfl
@[go_sem] theorem S_get (l : List UInt8) (i : Nat) (h : i < (S l).size) : (S l)[i]'h = l[i]'(by rw [S_size] at h; exact h) := by simp [S, ByteArray.getElem_eq_getElem_data]
theorem S_of (s : ByteArray) : ∃ l, s = S l := ⟨s.data.toList, by apply ByteArray.ext; simp [S]⟩
theorem S_inj {a b : List UInt8} (h : S a = S b) : a = b := by have := congrArg ByteArray.toList h; simpa [S_toList] using this
theorem ret_int {k : IntKind} {a b : Int} (h : a = b) : Ending.returned (.int k a) = .returned (.int k b) := by rw [h]
theorem ret_S {a b : List UInt8} (h : a = b) : Ending.returned (.string (S a)) = .returned (.string (S b)) := by rw [h]
theorem below_drewN {B : Nat} {a w : World} (h : Below B a w) (n : Nat) : Below B a (w.drewN n) := ⟨h.os, h.tape, h.output, h.size, h.block⟩
theorem quiet_add_left {P : Program} {f : FuncId} {args : Array Value} {w : World} {a n : Nat} {v : Value}
    (h : Calls P f args (w.drewN (a + n)) fun e w' => e = .returned v ∧ w.drewN (a + n) = w') :
    Calls P f args (w.drewN (a + n)) fun e w'' => e = .returned v ∧ ∃ m, w'' = w.drewN (a + m) :=
  h.mono fun _ _ ⟨he, hm⟩ => ⟨he, n, hm.symm⟩
theorem quiet_left {P : Program} {f : FuncId} {args : Array Value} {w : World} {n : Nat} {v : Value}
    (h : Calls P f args (w.drewN n) fun e w' => e = .returned v ∧ w.drewN n = w') : Calls P f args (w.drewN n) fun e w'' => e = .returned v ∧ ∃ m, w'' = w.drewN m :=
  h.mono fun _ _ ⟨he, hm⟩ => ⟨he, n, hm.symm⟩
theorem bcell {W w1 : World} (hb : Below W.heap.size W w1) : (∀ b o, b < W.heap.size → w1.cell? ⟨b, o, none⟩ = W.cell? ⟨b, o, none⟩) ∧ (∀ b o, b < W.heap.size → w1.frozen? ⟨b, o, none⟩ = W.frozen? ⟨b, o, none⟩) :=
  ⟨fun b o h => hb.cell (p := ⟨b, o, none⟩) h, fun b o h => hb.frozen (p := ⟨b, o, none⟩) h⟩
/-- cells of bytes -/
def cells8 (l : List UInt8) : Array Value := (l.map fun b => Value.int .u8 (b.toNat : Int)).toArray
@[go_sem] theorem cells8_size (l : List UInt8) : (cells8 l).size = l.length := by simp [cells8]
theorem cells8_set (l : List UInt8) (i : Nat) (b : UInt8) : (cells8 l).setIfInBounds i (.int .u8 (b.toNat : Int)) = cells8 (l.set i b) := by
  simp [cells8, List.map_set]
theorem cells8_get (l : List UInt8) (i : Nat) (h : i < l.length) : (cells8 l)[i]? = some (.int .u8 (l[i].toNat : Int)) := by
  simp [cells8, List.getElem?_eq_getElem h]
theorem run_string_mark {P : Program} (src dst e : TypeId) (hs : P.underlying src = some (.slice e)) (he : P.underlying e = some (.int .u8)) (hd : P.underlying dst = some .string)
    (w : World) (l : List UInt8) (n c : Nat) (t : TypeId) (fr : Nat × Nat) (hn : n ≤ l.length) :
    (convert src dst (.slice (some ⟨w.heap.size, 0, none⟩) n c)).run P (w.alloc (.cells (cells8 l) t fr)) = .ok (.string (S (l.take n))) (w.alloc (.cells (cells8 l) t fr)) := by
  have hl : (l.take n).length = n := by simp; omega
  have h := run_convert_bytes_back (P := P) (w.alloc (.cells (cells8 l) t fr)) src dst e ⟨w.heap.size, 0, none⟩ c (l.take n) hs he hd (fun j hj => by
    have hj' : j < l.length := by omega
    have e1 : (⟨w.heap.size, 0, none⟩ : Addr).add j = ⟨w.heap.size, j, none⟩ := by simp [Addr.add]; omega
    rw [e1, World.cell?_alloc_mark, cells8_get l j hj']
    simp [List.getElem_take])
  rw [hl] at h
  exact h
theorem run_string_cells8 {P : Program} (src dst e : TypeId) (hs : P.underlying src = some (.slice e)) (he : P.underlying e = some (.int .u8)) (hd : P.underlying dst = some .string)
    (w : World) (l : List UInt8) (n c : Nat) (t : TypeId) (hn : n ≤ l.length) :
    (convert src dst (.slice (some ⟨w.heap.size, 0, none⟩) n c)).run P (w.alloc (.cells (cells8 l) t)) = .ok (.string (S (l.take n))) (w.alloc (.cells (cells8 l) t)) :=
  run_string_mark src dst e hs he hd w l n c t (0, 0) hn
/-- the same in any world whose cells there are these bytes -/
theorem run_string_at {P : Program} (src dst e : TypeId) (hs : P.underlying src = some (.slice e)) (he : P.underlying e = some (.int .u8)) (hd : P.underlying dst = some .string)
    (w : World) (b o : Nat) (l : List UInt8) (c : Nat) (hc : ∀ j (hj : j < l.length), w.cell? ⟨b, o + j, none⟩ = some (.int .u8 (l[j].toNat : Int))) :
    (convert src dst (.slice (some ⟨b, o, none⟩) l.length c)).run P w = .ok (.string (S l)) w :=
  run_convert_bytes_back (P := P) w src dst e ⟨b, o, none⟩ c l hs he hd (fun j hj => by
    have e1 : (⟨b, o, none⟩ : Addr).add j = ⟨b, o + j, none⟩ := by simp [Addr.add]
    rw [e1]; exact hc j hj)
/-- a string's bytes in new memory -/
theorem run_bytes_S {P : Program} (src dst e : TypeId) (hs : P.underlying src = some .string) (hd : P.underlying dst = some (.slice e)) (he : P.underlying e = some (.int .u8)) (w : World) (l : List UInt8) :
    ∃ cap, l.length ≤ cap ∧ (l.length ≤ maxLen → cap ≤ maxLen) ∧ (convert src dst (.string (S l))).run P w = .ok (.slice (some ⟨w.heap.size, 0, none⟩) l.length cap) (w.alloc (.cells (cells8 (l ++ List.replicate (cap - l.length) 0)) e (cap, cap + 1))).drew := by
  have h := run_bytes_of_string (P := P) w src dst e (S l) hs hd he
  have hge := grownCap_ge w (S l).size 0 e
  have hle := grownCap_le_maxLen w (S l).size 0 e
  generalize grownCap w (S l).size 0 e = cap at h hge hle
  rw [S_size] at hge hle h
  have e1 : bytesRow (S l) cap = cells8 (l ++ List.replicate (cap - l.length) 0) := by
    unfold bytesRow cells8
    rw [S_size]
    simp [S]
  have e2 : (cells8 (l ++ List.replicate (cap - l.length) 0)).size = cap := by simp [cells8_size]; omega
  rw [e1, e2] at h
  exact ⟨cap, hge, hle, h⟩
theorem setCell_mark (w : World) (C : Array Value) (t : TypeId) (fr : Nat × Nat) (i : Nat) (v : Value) : (w.alloc (.cells C t fr)).setCell ⟨w.heap.size, i, none⟩ v = w.alloc (.cells (C.setIfInBounds i v) t fr) := by
  have hm : ∀ (a : Array Obj) (x : Obj) (f : Obj → Obj), (a.push x).modify a.size f = a.push (f x) := by
    intro a x f
    apply Array.ext
    · simp
    · intro i h1 h2
      simp only [Array.getElem_modify, Array.getElem_push]
      by_cases h : a.size = i
      · subst h
        simp
      · have hi : i < a.size := by simp at h1; omega
        simp [h, hi]
  unfold World.setCell
  show ({ w.alloc (.cells C t fr) with heap := (w.heap.push (.cells C t fr)).modify w.heap.size _ } : World) = _
  rw [hm]
  rfl
theorem wrap_u64_lt (n : Nat) (h : n < 18446744073709551616) : IntKind.u64.wrap (n : Int) = n := by
  have e : (2 : Int) ^ IntKind.u64.bits = 18446744073709551616 := by decide
  have s : IntKind.u64.signed = false := rfl
  unfold IntKind.wrap
  simp only [e, s, Bool.false_and, Bool.false_eq_true, if_false]
  omega
theorem shl_or8 (v b : Nat) (hb : b < 256) (hv : v * 256 + b < 18446744073709551616) :
    bits .or .u64 (IntKind.u64.wrap ((v : Int) * 256)) (IntKind.u64.wrap (b : Int)) = ((v * 256 + b : Nat) : Int) := by
  have e : (v : Int) * 256 = ((v * 256 : Nat) : Int) := by omega
  have h1 : v * 256 < 18446744073709551616 := Nat.lt_of_le_of_lt (Nat.le_add_right _ _) hv
  have h2 : b < 18446744073709551616 := Nat.lt_of_le_of_lt (Nat.le_add_left _ _) hv
  rw [e, wrap_u64_lt (v * 256) h1, wrap_u64_lt b h2, u64_or_nat _ _ h1 h2]
  have h := Nat.shiftLeft_add_eq_or_of_lt (b := b) (i := 8) hb v
  rw [Nat.shiftLeft_eq] at h
  have e2 : v * 2 ^ 8 = v * 256 := rfl
  rw [e2] at h
  rw [h]
theorem below_then {w w1 w2 : World} (h : Below w.heap.size w w1) (k : Below w1.heap.size w1 w2) : Below w.heap.size w w2 := h.trans (k.mono h.size)
theorem below_drawn {w : World} (n : Nat) : Below w.heap.size w (w.drewN n) := below_drewN (Below.refl _ _) n
theorem u8_mod (x : Nat) : (UInt8.ofNat (x % 256)).toNat = x % 256 := by rw [UInt8.toNat_ofNat']; omega
theorem byte_cast (n k : Nat) : ((UInt8.ofNat (n / 2 ^ (8 * k) % 256)).toNat : Int) = (n : Int) / 2 ^ (8 * k) % 256 := by
  rw [u8_mod, Int.natCast_emod, Int.natCast_ediv, Int.natCast_pow]; rfl
theorem run_string_new1 {P : Program} (src dst e : TypeId) (hs : P.underlying src = some (.slice e)) (he : P.underlying e = some (.int .u8)) (hd : P.underlying dst = some .string)
    (w : World) (n : Nat) (t : TypeId) :
    (convert src dst (.slice (some ⟨w.heap.size, 0, none⟩) 1 1)).run P (w.alloc (.cells #[.int .u8 ((n : Int) % 256)] t)) = .ok (.string (S [UInt8.ofNat (n % 256)])) (w.alloc (.cells #[.int .u8 ((n : Int) % 256)] t)) := by
  have h := run_string_cells8 src dst e hs he hd w [UInt8.ofNat (n % 256)] 1 1 t (by simp)
  have e1 : cells8 [UInt8.ofNat (n % 256)] = #[.int .u8 ((n : Int) % 256)] := by
    unfold cells8
    simp only [List.map_cons, List.map_nil, u8_mod, Int.natCast_emod]; rfl
  rw [e1] at h
  exact h
end Go.Proofs.YtoponmdfjbhnoaaGreatDoor
namespace Go.Proofs.YtoponmdfjbhnoaaGreatDoor
theorem ofInt_i64 (a : Nat) (ha : a < 18446744073709551616) : (BitVec.ofInt 64 (a : Int)).toNat = a := by
  rw [BitVec.ofInt_natCast, BitVec.toNat_ofNat]; exact Nat.mod_eq_of_lt (by omega)
theorem wrap_i64_nat (n : Nat) (h : n < 9223372036854775808) : IntKind.i64.wrap (n : Int) = n := by
  rw [IntKind.wrap_i64]; omega
theorem i64_and_nat (a b : Nat) (ha : a < 9223372036854775808) (hb : b < 9223372036854775808) : bits .and .i64 (a : Int) (b : Int) = ((a &&& b : Nat) : Int) := by
  have hx : a &&& b < 2 ^ 63 := Nat.and_lt_two_pow _ (by omega)
  show IntKind.i64.wrap ((BitVec.ofInt 64 (a : Int) &&& BitVec.ofInt 64 (b : Int)).toNat : Int) = _
  rw [BitVec.toNat_and, ofInt_i64 a (by omega), ofInt_i64 b (by omega)]
  exact wrap_i64_nat _ (by omega)
theorem i64_or_nat (a b : Nat) (ha : a < 9223372036854775808) (hb : b < 9223372036854775808) : bits .or .i64 (a : Int) (b : Int) = ((a ||| b : Nat) : Int) := by
  have hx : a ||| b < 2 ^ 63 := Nat.or_lt_two_pow (by omega) (by omega)
  show IntKind.i64.wrap ((BitVec.ofInt 64 (a : Int) ||| BitVec.ofInt 64 (b : Int)).toNat : Int) = _
  rw [BitVec.toNat_or, ofInt_i64 a (by omega), ofInt_i64 b (by omega)]
  exact wrap_i64_nat _ (by omega)
theorem nat_join (x k y : Nat) (h : y < 2 ^ k) : x * 2 ^ k ||| y = x * 2 ^ k + y := by
  have := Nat.shiftLeft_add_eq_or_of_lt h x
  rw [Nat.shiftLeft_eq] at this
  exact this.symm
/-- n & (2^k - 1) -/
theorem i64_mask (n k : Nat) (hn : n < 9223372036854775808) (hk : 2 ^ k - 1 < 9223372036854775808) : bits .and .i64 (n : Int) ((2 ^ k - 1 : Nat) : Int) = ((n % 2 ^ k : Nat) : Int) := by
  rw [i64_and_nat n _ hn hk, Nat.and_two_pow_sub_one_eq_mod]
end Go.Proofs.YtoponmdfjbhnoaaGreatDoor
namespace Go.Proofs.YtoponmdfjbhnoaaGreatDoor
abbrev St := Nat × Nat × Nat × Nat
def mK : List Nat := [3614090360, 3905402710, 606105819, 3250441966, 4118548399, 1200080426, 2821735955, 4249261313, 1770035416, 2336552879, 4294925233, 2304563134, 1804603682, 4254626195, 2792965006, 1236535329, 4129170786, 3225465664, 643717713, 3921069994, 3593408605, 38016083, 3634488961, 3889429448, 568446438, 3275163606, 4107603335, 1163531501, 2850285829, 4243563512, 1735328473, 2368359562, 4294588738, 2272392833, 1839030562, 4259657740, 2763975236, 1272893353, 4139469664, 3200236656, 681279174, 3936430074, 3572445317, 76029189, 3654602809, 3873151461, 530742520, 3299628645, 4096336452, 1126891415, 2878612391, 4237533241, 1700485571, 2399980690, 4293915773, 2240044497, 1873313359, 4264355552, 2734768916, 1309151649, 4149444226, 3174756917, 718787259, 3951481745]
def mSl : List Nat := [7, 12, 17, 22, 5, 9, 14, 20, 4, 11, 16, 23, 6, 10, 15, 21]
def mS (i : Nat) : Nat := mSl.getD (i / 16 * 4 + i % 4) 0
def mF (i b c d : Nat) : Nat :=
  if i / 16 = 0 then (b &&& c) ||| ((4294967295 - b) &&& d) else if i / 16 = 1 then (b &&& d) ||| (c &&& (4294967295 - d)) else if i / 16 = 2 then b ^^^ c ^^^ d else c ^^^ (b ||| (4294967295 - d))
def mG (i : Nat) : Nat := if i / 16 = 0 then i else if i / 16 = 1 then (5 * i + 1) % 16 else if i / 16 = 2 then (3 * i + 5) % 16 else 7 * i % 16
def rot (x k : Nat) : Nat := (x * 2 ^ k % 4294967296) ||| (x / 2 ^ (32 - k))
def mSum (ws : List Nat) (i : Nat) (s : St) : Nat := (s.1 + mF i s.2.1 s.2.2.1 s.2.2.2 + mK.getD i 0 + ws.getD (mG i) 0) % 4294967296
def mStep (ws : List Nat) (i : Nat) (s : St) : St := (s.2.2.2, (s.2.1 + rot (mSum ws i s) (mS i)) % 4294967296, s.2.1, s.2.2.1)
def mRun (ws : List Nat) (s : St) : Nat → St
  | 0 => s
  | k + 1 => mStep ws k (mRun ws s k)
def Lt32 (s : St) : Prop := s.1 < 4294967296 ∧ s.2.1 < 4294967296 ∧ s.2.2.1 < 4294967296 ∧ s.2.2.2 < 4294967296
theorem mStep_lt (ws : List Nat) (i : Nat) (s : St) (h : Lt32 s) : Lt32 (mStep ws i s) := ⟨h.2.2.2, Nat.mod_lt _ (by decide), h.2.1, h.2.2.1⟩
theorem mRun_lt (ws : List Nat) (s : St) (h : Lt32 s) : ∀ k, Lt32 (mRun ws s k)
  | 0 => h
  | k + 1 => mStep_lt ws k _ (mRun_lt ws s h k)
def mAdd (s t : St) : St := ((s.1 + t.1) % 4294967296, (s.2.1 + t.2.1) % 4294967296, (s.2.2.1 + t.2.2.1) % 4294967296, (s.2.2.2 + t.2.2.2) % 4294967296)
def mStir (s : St) (ws : List Nat) : St := mAdd s (mRun ws s 64)
theorem mStir_lt (s : St) (ws : List Nat) : Lt32 (mStir s ws) := ⟨Nat.mod_lt _ (by decide), Nat.mod_lt _ (by decide), Nat.mod_lt _ (by decide), Nat.mod_lt _ (by decide)⟩
/-- word j, as far as the first i bytes tell it -/
def wAt (l : List UInt8) (i j : Nat) : Nat :=
  (if 4 * j < i then (l.getD (4 * j) 0).toNat else 0) + (if 4 * j + 1 < i then (l.getD (4 * j + 1) 0).toNat * 256 else 0) + (if 4 * j + 2 < i then (l.getD (4 * j + 2) 0).toNat * 65536 else 0) + (if 4 * j + 3 < i then (l.getD (4 * j + 3) 0).toNat * 16777216 else 0)
def wRow (l : List UInt8) (i : Nat) : List Nat := (List.range 16).map (wAt l i)
def wordsL (l : List UInt8) : List Nat := wRow l 64
theorem wRow_len (l : List UInt8) (i : Nat) : (wRow l i).length = 16 := by simp [wRow]
theorem wRow_0 (l : List UInt8) : wRow l 0 = List.replicate 16 0 := by
  have : wAt l 0 = fun _ => 0 := by funext j; simp [wAt]
  unfold wRow
  rw [this]; rfl
theorem wAt_lt (l : List UInt8) (i j : Nat) : wAt l i j < 4294967296 := by
  unfold wAt
  have h0 := (l.getD (4 * j) 0).toNat_lt
  have h1 := (l.getD (4 * j + 1) 0).toNat_lt
  have h2 := (l.getD (4 * j + 2) 0).toNat_lt
  have h3 := (l.getD (4 * j + 3) 0).toNat_lt
  repeat' split
  all_goals omega
/-- a byte more -/
theorem wAt_step (l : List UInt8) (i : Nat) : wAt l (i + 1) (i / 4) = wAt l i (i / 4) + (l.getD i 0).toNat * 2 ^ (8 * (i % 4)) ∧ wAt l i (i / 4) < 2 ^ (8 * (i % 4)) := by
  obtain ⟨q, r, hr, rfl⟩ : ∃ q r, r < 4 ∧ i = 4 * q + r := ⟨i / 4, i % 4, Nat.mod_lt _ (by decide), by omega⟩
  have e1 : (4 * q + r) / 4 = q := by omega
  have e2 : (4 * q + r) % 4 = r := by omega
  rw [e1, e2]
  have h0 := (l.getD (4 * q) 0).toNat_lt
  have h1 := (l.getD (4 * q + 1) 0).toNat_lt
  have h2 := (l.getD (4 * q + 2) 0).toNat_lt
  unfold wAt
  generalize hb0 : (l.getD (4 * q) 0).toNat = b0 at *
  generalize hb1 : (l.getD (4 * q + 1) 0).toNat = b1 at *
  generalize hb2 : (l.getD (4 * q + 2) 0).toNat = b2 at *
  generalize hb3 : (l.getD (4 * q + 3) 0).toNat = b3 at *
  match r, hr with
  | 0, _ =>
    rw [if_pos (show 4 * q < 4 * q + 0 + 1 by omega), if_neg (show ¬ 4 * q + 1 < 4 * q + 0 + 1 by omega), if_neg (show ¬ 4 * q + 2 < 4 * q + 0 + 1 by omega), if_neg (show ¬ 4 * q + 3 < 4 * q + 0 + 1 by omega), if_neg (show ¬ 4 * q < 4 * q + 0 by omega), if_neg (show ¬ 4 * q + 1 < 4 * q + 0 by omega), if_neg (show ¬ 4 * q + 2 < 4 * q + 0 by omega), if_neg (show ¬ 4 * q + 3 < 4 * q + 0 by omega)]
    constructor
    · rw [show (l.getD (4 * q + 0) 0).toNat = b0 from hb0]; omega
    · omega
  | 1, _ =>
    rw [if_pos (show 4 * q < 4 * q + 1 + 1 by omega), if_pos (show 4 * q + 1 < 4 * q + 1 + 1 by omega), if_neg (show ¬ 4 * q + 2 < 4 * q + 1 + 1 by omega), if_neg (show ¬ 4 * q + 3 < 4 * q + 1 + 1 by omega), if_pos (show 4 * q < 4 * q + 1 by omega), if_neg (show ¬ 4 * q + 1 < 4 * q + 1 by omega), if_neg (show ¬ 4 * q + 2 < 4 * q + 1 by omega), if_neg (show ¬ 4 * q + 3 < 4 * q + 1 by omega)]
    constructor
    · rw [show (l.getD (4 * q + 1) 0).toNat = b1 from hb1]; omega
    · omega
  | 2, _ =>
    rw [if_pos (show 4 * q < 4 * q + 2 + 1 by omega), if_pos (show 4 * q + 1 < 4 * q + 2 + 1 by omega), if_pos (show 4 * q + 2 < 4 * q + 2 + 1 by omega), if_neg (show ¬ 4 * q + 3 < 4 * q + 2 + 1 by omega), if_pos (show 4 * q < 4 * q + 2 by omega), if_pos (show 4 * q + 1 < 4 * q + 2 by omega), if_neg (show ¬ 4 * q + 2 < 4 * q + 2 by omega), if_neg (show ¬ 4 * q + 3 < 4 * q + 2 by omega)]
    constructor
    · rw [show (l.getD (4 * q + 2) 0).toNat = b2 from hb2]; omega
    · omega
  | 3, _ =>
    rw [if_pos (show 4 * q < 4 * q + 3 + 1 by omega), if_pos (show 4 * q + 1 < 4 * q + 3 + 1 by omega), if_pos (show 4 * q + 2 < 4 * q + 3 + 1 by omega), if_pos (show 4 * q + 3 < 4 * q + 3 + 1 by omega), if_pos (show 4 * q < 4 * q + 3 by omega), if_pos (show 4 * q + 1 < 4 * q + 3 by omega), if_pos (show 4 * q + 2 < 4 * q + 3 by omega), if_neg (show ¬ 4 * q + 3 < 4 * q + 3 by omega)]
    constructor
    · rw [show (l.getD (4 * q + 3) 0).toNat = b3 from hb3]; omega
    · omega
theorem wAt_other (l : List UInt8) (i j : Nat) (h : j ≠ i / 4) : wAt l (i + 1) j = wAt l i j := by
  have a0 : (4 * j < i + 1) = (4 * j < i) := by apply propext; omega
  have a1 : (4 * j + 1 < i + 1) = (4 * j + 1 < i) := by apply propext; omega
  have a2 : (4 * j + 2 < i + 1) = (4 * j + 2 < i) := by apply propext; omega
  have a3 : (4 * j + 3 < i + 1) = (4 * j + 3 < i) := by apply propext; omega
  unfold wAt
  simp only [a0, a1, a2, a3]
theorem wRow_step (l : List UInt8) (i : Nat) : (wRow l i).set (i / 4) (wAt l i (i / 4) ||| (l.getD i 0).toNat * 2 ^ (8 * (i % 4))) = wRow l (i + 1) := by
  obtain ⟨s1, s2⟩ := wAt_step l i
  have e : wAt l i (i / 4) ||| (l.getD i 0).toNat * 2 ^ (8 * (i % 4)) = wAt l (i + 1) (i / 4) := by
    rw [Nat.or_comm, nat_join _ _ _ s2, s1, Nat.add_comm]
  rw [e]
  apply List.ext_getElem
  · simp [wRow]
  · intro j h1 h2
    simp only [wRow, List.getElem_set, List.getElem_map, List.getElem_range]
    split
    · rename_i hj; rw [hj]
    · rename_i hj; rw [wAt_other l i j (fun e => hj e.symm)]
def stirsTo (s : St) (l : List UInt8) : Nat → St
  | 0 => s
  | i + 1 => mStir (stirsTo s l i) (wordsL ((l.drop (64 * i)).take 64))
theorem stirsTo_lt (s : St) (l : List UInt8) (h : Lt32 s) : ∀ i, Lt32 (stirsTo s l i)
  | 0 => h
  | _ + 1 => mStir_lt _ _
theorem stirsTo_front (s : St) (x y : List UInt8) : ∀ i, 64 * i ≤ x.length → stirsTo s (x ++ y) i = stirsTo s x i
  | 0, _ => rfl
  | i + 1, h => by
    simp only [stirsTo]
    rw [stirsTo_front s x y i (by omega), List.drop_append_of_le_length (by omega), List.take_append_of_le_length (by rw [List.length_drop]; omega)]
theorem stirsTo_app (s : St) (x y : List UInt8) (m : Nat) (hx : x.length = 64 * m) : ∀ j, stirsTo s (x ++ y) (m + j) = stirsTo (stirsTo s x m) y j
  | 0 => stirsTo_front s x y m (by omega)
  | j + 1 => by
    show mStir (stirsTo s (x ++ y) (m + j)) _ = mStir _ _
    rw [stirsTo_app s x y m hx j]
    have e : (x ++ y).drop (64 * (m + j)) = y.drop (64 * j) := by
      rw [List.drop_append, List.drop_eq_nil_of_le (by omega), List.nil_append, show 64 * (m + j) - x.length = 64 * j from by omega]
    show mStir _ (wordsL (((x ++ y).drop (64 * (m + j))).take 64)) = _
    rw [e]
def mInit : St := (1732584193, 4023233417, 2562383102, 271733878)
/-- four bytes, the lowest first -/
def le4 (n : Nat) : List UInt8 := [UInt8.ofNat (n % 256), UInt8.ofNat (n / 256 % 256), UInt8.ofNat (n / 65536 % 256), UInt8.ofNat (n / 16777216 % 256)]
def mZeros (n : Nat) : Nat := (119 - n) % 64
/-- what stands behind a text of n bytes -/
def mTail (n : Nat) : List UInt8 := 128 :: (List.replicate ((119 - n % 64) % 64) 0 ++ le4 (n * 8 % 4294967296) ++ le4 (n * 8 / 4294967296 % 4294967296))
def outM (s : St) : List UInt8 := le4 s.1 ++ le4 s.2.1 ++ le4 s.2.2.1 ++ le4 s.2.2.2
def md5L (l : List UInt8) : List UInt8 := outM (stirsTo mInit (l ++ mTail l.length) ((l ++ mTail l.length).length / 64))
end Go.Proofs.YtoponmdfjbhnoaaGreatDoor
namespace Go.Proofs.YtoponmdfjbhnoaaGreatDoor
open Go.RowKit
set_option linter.unusedVariables false
/-- an error: nil for 0, else that Errno -/
def errV (n : Int) : Value := if n = 0 then .nilIface else .iface 27 (.int .i64 n)
theorem errV_0 : errV 0 = .nilIface := rfl
theorem errV_pos (n : Int) (h : n ≠ 0) : errV n = .iface 27 (.int .i64 n) := by unfold errV; rw [if_neg h]
end Go.Proofs.YtoponmdfjbhnoaaGreatDoor
namespace Go.Proofs.YtoponmdfjbhnoaaGreatDoor
open Go.RowKit
set_option linter.unusedVariables false
structure Us where
  nm : List UInt8
  sc : List UInt8
theorem Us.eta (u : Us) : u = ⟨u.nm, u.sc⟩ := rfl
def usFind : List Us → List UInt8 → Option Us
  | [], _ => none
  | u :: l, n => if u.nm = n then some u else usFind l n
theorem usFind_app : ∀ (l m : List Us) (n : List UInt8), usFind (l ++ m) n = (usFind l n).or (usFind m n)
  | [], m, n => by simp [usFind]
  | u :: l, m, n => by
    simp only [List.cons_append, usFind]
    by_cases h : u.nm = n
    · rw [if_pos h, if_pos h]; rfl
    · rw [if_neg h, if_neg h]; exact usFind_app l m n
theorem usFind_name : ∀ (l : List Us) (n : List UInt8) (u : Us), usFind l n = some u → u.nm = n ∧ u ∈ l
  | [], _, _, h => by cases h
  | x :: l, n, u, h => by
    simp only [usFind] at h
    by_cases e : x.nm = n
    · rw [if_pos e] at h
      obtain rfl := Option.some.inj h
      exact ⟨e, List.mem_cons_self⟩
    · rw [if_neg e] at h
      obtain ⟨h1, h2⟩ := usFind_name l n u h
      exact ⟨h1, List.mem_cons_of_mem _ h2⟩
/-- a response, and its error's number -/
def respL (id : Int) (s c : List UInt8) : List UInt8 × Int :=
  if id < 0 ∨ 255 < id then ([], 2) else if 100 < s.length ∨ c.length = 0 ∨ 100 < c.length then ([], 4) else (md5L (UInt8.ofNat id.toNat :: (s ++ c)), 0)
theorem respL_range (id : Int) (s c : List UInt8) (h : id < 0 ∨ 255 < id) : respL id s c = ([], 2) := by unfold respL; rw [if_pos h]
theorem respL_limit (id : Int) (s c : List UInt8) (h : ¬ (id < 0 ∨ 255 < id)) (h2 : 100 < s.length ∨ c.length = 0 ∨ 100 < c.length) : respL id s c = ([], 4) := by unfold respL; rw [if_neg h, if_pos h2]
theorem respL_good (id : Int) (s c : List UInt8) (h : ¬ (id < 0 ∨ 255 < id)) (h2 : ¬ (100 < s.length ∨ c.length = 0 ∨ 100 < c.length)) : respL id s c = (md5L (UInt8.ofNat id.toNat :: (s ++ c)), 0) := by unfold respL; rw [if_neg h, if_neg h2]
theorem md5L_len16 (l : List UInt8) : (md5L l).length = 16 := by unfold md5L outM; simp [le4]
theorem respL_ways (id : Int) (s c : List UInt8) : (respL id s c = ([], 2) ∧ (id < 0 ∨ 255 < id)) ∨ (respL id s c = ([], 4) ∧ (100 < s.length ∨ c.length = 0 ∨ 100 < c.length)) ∨ (∃ x, respL id s c = (x, 0) ∧ x.length = 16 ∧ x = md5L (UInt8.ofNat id.toNat :: (s ++ c)) ∧ 0 ≤ id ∧ id ≤ 255 ∧ s.length ≤ 100 ∧ 0 < c.length ∧ c.length ≤ 100) := by
  by_cases h : id < 0 ∨ 255 < id
  · exact .inl ⟨respL_range id s c h, h⟩
  · by_cases h2 : 100 < s.length ∨ c.length = 0 ∨ 100 < c.length
    · exact .inr (.inl ⟨respL_limit id s c h h2, h2⟩)
    · exact .inr (.inr ⟨_, respL_good id s c h h2, md5L_len16 _, rfl, by omega, by omega, by omega, by omega, by omega⟩)
end Go.Proofs.YtoponmdfjbhnoaaGreatDoor
namespace Go.Proofs.YtoponmdfjbhnoaaGreatDoor
open Go.RowKit
/-- the error v, in world W, has this number (0: nil) at this place (-1: none) -/
inductive ErrIs (W : World) : Value → Int → Int → Prop
  | good : ErrIs W .nilIface 0 (-1)
  | bare (n : Int) (hn : n ≠ 0) : ErrIs W (.iface 27 (.int .i64 n)) n (-1)
  | placed (b : Nat) (n p : Int) (hn : n ≠ 0) (h0 : W.cell? ⟨b, 0, none⟩ = some (.int .i64 n)) (h1 : W.cell? ⟨b, 1, none⟩ = some (.int .i64 p)) : ErrIs W (.iface 63 (.pointer (some ⟨b, 0, none⟩))) n p
theorem ErrIs.later {w w' : World} {v : Value} {n p : Int} (h : ErrIs w v n p) (hb : Below w.heap.size w w') : ErrIs w' v n p := by
  cases h with
  | good => exact .good
  | bare _ hn => exact .bare _ hn
  | placed b _ _ hn h0 h1 =>
    have hlt := block_lt_of_cell (w := w) (a := ⟨b, 0, none⟩) h0
    exact .placed b _ _ hn (by rw [(bcell hb).1 b 0 hlt]; exact h0) (by rw [(bcell hb).1 b 1 hlt]; exact h1)
theorem ErrIs.drawn {w : World} {v : Value} {n p : Int} (h : ErrIs w v n p) (k : Nat) : ErrIs (w.drewN k) v n p := by
  cases h with
  | good => exact .good
  | bare _ hn => exact .bare _ hn
  | placed b _ _ hn h0 h1 => exact .placed b _ _ hn h0 h1
theorem ErrIs.zero {w : World} {v : Value} {p : Int} (h : ErrIs w v 0 p) : v = .nilIface := by
  generalize hn : (0 : Int) = n at h
  cases h with
  | good => rfl
  | bare _ h => exact absurd hn.symm h
  | placed _ _ _ h => exact absurd hn.symm h
theorem ErrIs.iface {W : World} {v : Value} {n p : Int} (h : ErrIs W v n p) (hn : n ≠ 0) : ∃ t x, v = .iface t x := by
  cases h with
  | good => exact absurd rfl hn
  | bare => exact ⟨_, _, rfl⟩
  | placed => exact ⟨_, _, rfl⟩
def I64 (n : Int) : Prop := -9223372036854775808 ≤ n ∧ n ≤ 9223372036854775807
/-- an error is returned; memory grows -/
def RetE (w : World) (r : Int × Int) (e : Ending) (w' : World) : Prop := ∃ v, e = .returned v ∧ ErrIs w' v r.1 r.2 ∧ Below w.heap.size w w'
/-- a string and an error are returned; memory grows -/
def RetSE (w : World) (r : List UInt8 × Int × Int) (e : Ending) (w' : World) : Prop :=
  ∃ v, e = .returned (.tuple #[.string (S r.1), v]) ∧ ErrIs w' v r.2.1 r.2.2 ∧ Below w.heap.size w w'
end Go.Proofs.YtoponmdfjbhnoaaGreatDoor
namespace Go.Proofs.YtoponmdfjbhnoaaGreatDoor
open Go.RowKit
def Blk (W : World) (b : Nat) (C : Array Value) (t : TypeId) : Prop := W.heap[b]? = some (.cells C t (0, 0))
theorem Blk.new (w : World) (C : Array Value) (t : TypeId) : Blk (w.alloc (.cells C t)) w.heap.size C t := World.alloc_heap_new w _
theorem Blk.lt {W : World} {b : Nat} {C : Array Value} {t : TypeId} (h : Blk W b C t) : b < W.heap.size := (Array.getElem?_eq_some_iff.1 h).1
theorem Blk.cell {W : World} {b : Nat} {C : Array Value} {t : TypeId} (h : Blk W b C t) (i : Nat) : W.cell? ⟨b, i, none⟩ = C[i]? := by
  have h' : W.heap[b]? = some (.cells C t (0, 0)) := h
  unfold World.cell?
  simp [h']
theorem Blk.frozen {W : World} {b : Nat} {C : Array Value} {t : TypeId} (h : Blk W b C t) (i : Nat) : W.frozen? ⟨b, i, none⟩ = false := by
  have h' : W.heap[b]? = some (.cells C t (0, 0)) := h
  unfold World.frozen?
  simp [h']
theorem Blk.later {W W' : World} {b : Nat} {C : Array Value} {t : TypeId} (h : Blk W b C t) (hb : Below W.heap.size W W') : Blk W' b C t := (hb.block b h.lt).trans h
theorem Blk.below {B : Nat} {W W' : World} {b : Nat} {C : Array Value} {t : TypeId} (h : Blk W b C t) (hb : Below B W W') (hlt : b < B) : Blk W' b C t := (hb.block b hlt).trans h
theorem Blk.alloc {W : World} {b : Nat} {C : Array Value} {t : TypeId} (h : Blk W b C t) (o : Obj) : Blk (W.alloc o) b C t := h.later ((Below.refl _ _).alloc (Nat.le_refl _) _)
theorem Blk.drew {W : World} {b : Nat} {C : Array Value} {t : TypeId} (h : Blk W b C t) : Blk W.drew b C t := h
theorem Blk.drewN {W : World} {b : Nat} {C : Array Value} {t : TypeId} (h : Blk W b C t) (n : Nat) : Blk (W.drewN n) b C t := h
theorem setCell_heap_same {w : World} {b i : Nat} {C : Array Value} {t : TypeId} {fr : Nat × Nat} (h : w.heap[b]? = some (.cells C t fr)) (v : Value) : (w.setCell ⟨b, i, none⟩ v).heap[b]? = some (.cells (C.setIfInBounds i v) t fr) := by
  have hlt : b < w.heap.size := (Array.getElem?_eq_some_iff.1 h).1
  have hv : w.heap[b] = .cells C t fr := (Array.getElem?_eq_some_iff.1 h).2
  unfold World.setCell
  show (w.heap.modify b _)[b]? = _
  rw [Array.getElem?_eq_getElem (by simpa using hlt), Array.getElem_modify]
  simp [hv]
theorem setCell_heap_other {w : World} {b i k : Nat} (hne : k ≠ b) (v : Value) : (w.setCell ⟨b, i, none⟩ v).heap[k]? = w.heap[k]? := by
  unfold World.setCell
  show (w.heap.modify b _)[k]? = _
  simp [Array.getElem?_modify, Ne.symm hne]
theorem Blk.set {W : World} {b : Nat} {C : Array Value} {t : TypeId} (h : Blk W b C t) (i : Nat) (v : Value) : Blk (W.setCell ⟨b, i, none⟩ v) b (C.setIfInBounds i v) t := setCell_heap_same h v
theorem Blk.other {W : World} {b b' i : Nat} {C : Array Value} {t : TypeId} (h : Blk W b C t) (hne : b ≠ b') (v : Value) : Blk (W.setCell ⟨b', i, none⟩ v) b C t := (setCell_heap_other hne v).trans h
theorem Blk.put {W : World} {b D : Nat} {C : Array Value} {t : TypeId} (h : Blk W b C t) (o : Obj) (hne : b ≠ D) : Blk (W.putObj D o) b C t := (World.putObj_heap_other (fun e => hne e)).trans h
theorem Blk.own {β : Type} (b : Nat) (f : β → Array Value) (t : TypeId) : Own (fun s W => Blk W b (f s) t) := fun s X Y row hs hg hrow => by
  have hs' : X.heap[b]? = some (.cells (f s) t (0, 0)) := hs
  refine (hg.block b (Array.getElem?_eq_some_iff.1 hs').1 (fun e => ?_)).trans hs'
  obtain ⟨o, ho, hc⟩ := hrow b e.symm
  rw [hs'] at ho
  cases ho
  cases hc
theorem own_const {β : Type} (p : β → Prop) : Own (fun s (_ : World) => p s) := fun _ _ _ _ h _ _ => h
theorem Blk.one {W : World} {b : Nat} {x : Value} {t : TypeId} (h : Blk W b #[x] t) : W.cell? ⟨b, 0, none⟩ = some x := h.cell 0
theorem Blk.two {W : World} {b : Nat} {x y : Value} {t : TypeId} (h : Blk W b #[x, y] t) : W.cell? ⟨b, 0, none⟩ = some x ∧ W.cell? ⟨b, 1, none⟩ = some y := ⟨h.cell 0, h.cell 1⟩
theorem Blk.three {W : World} {b : Nat} {x y z : Value} {t : TypeId} (h : Blk W b #[x, y, z] t) : W.cell? ⟨b, 0, none⟩ = some x ∧ W.cell? ⟨b, 1, none⟩ = some y ∧ W.cell? ⟨b, 2, none⟩ = some z := ⟨h.cell 0, h.cell 1, h.cell 2⟩
theorem Blk.four {W : World} {b : Nat} {x y z u : Value} {t : TypeId} (h : Blk W b #[x, y, z, u] t) : W.cell? ⟨b, 0, none⟩ = some x ∧ W.cell? ⟨b, 1, none⟩ = some y ∧ W.cell? ⟨b, 2, none⟩ = some z ∧ W.cell? ⟨b, 3, none⟩ = some u := ⟨h.cell 0, h.cell 1, h.cell 2, h.cell 3⟩
end Go.Proofs.YtoponmdfjbhnoaaGreatDoor
namespace Go.Proofs.YtoponmdfjbhnoaaGreatDoor
open Go.RowKit
/-- block b holds these bytes -/
def BytesAt (W : World) (b : Nat) (l : List UInt8) : Prop := ∀ j, W.cell? ⟨b, j, none⟩ = (cells8 l)[j]?
theorem bytesAt_new (w : World) (l : List UInt8) (t : TypeId) (fr : Nat × Nat) : BytesAt (w.alloc (.cells (cells8 l) t fr)) w.heap.size l := fun j => World.cell?_alloc_mark w _ t fr j
theorem bytesAt_drew {W : World} {b : Nat} {l : List UInt8} (h : BytesAt W b l) : BytesAt W.drew b l := h
theorem bytesAt_drewN {W : World} {b : Nat} {l : List UInt8} (h : BytesAt W b l) (n : Nat) : BytesAt (W.drewN n) b l := h
theorem bytesAt_later {W W' : World} {b : Nat} {l : List UInt8} (h : BytesAt W b l) (hb : Below W.heap.size W W') (hlt : b < W.heap.size) : BytesAt W' b l := fun j => by
  rw [(bcell hb).1 b j hlt]; exact h j
theorem bytesAt_get {W : World} {b : Nat} {l : List UInt8} (h : BytesAt W b l) (j : Nat) (hj : j < l.length) : W.cell? ⟨b, j, none⟩ = some (.int .u8 (l[j].toNat : Int)) := by
  rw [h j, cells8_get l j hj]
theorem run_string_cells {P : Program} (src dst e : TypeId) (hs : P.underlying src = some (.slice e)) (he : P.underlying e = some (.int .u8)) (hd : P.underlying dst = some .string)
    {W : World} {b : Nat} {l : List UInt8} (h : BytesAt W b l) (n c : Nat) (hn : n ≤ l.length) :
    (convert src dst (.slice (some ⟨b, 0, none⟩) n c)).run P W = .ok (.string (S (l.take n))) W := by
  have hl : (l.take n).length = n := by simp; omega
  have h := run_convert_bytes_back (P := P) W src dst e ⟨b, 0, none⟩ c (l.take n) hs he hd (fun j hj => by
    have hj' : j < l.length := by omega
    have e1 : (⟨b, 0, none⟩ : Addr).add j = ⟨b, j, none⟩ := by simp [Addr.add]; omega
    rw [e1, bytesAt_get h j hj']
    simp [List.getElem_take])
  rw [hl] at h
  exact h
end Go.Proofs.YtoponmdfjbhnoaaGreatDoor
namespace Go.Proofs.YtoponmdfjbhnoaaGreatDoor
open Go.RowKit
/-- n bytes of 0 -/
def zs (n : Nat) : List UInt8 := List.replicate n 0
@[go_sem] theorem zs_len (n : Nat) : (zs n).length = n := by simp [zs]
theorem take_zs (n : Nat) (h : n ≤ 3) : List.take n [0, 0, 0] = zs n := by
  match n, h with
  | 0, _ => rfl
  | 1, _ => rfl
  | 2, _ => rfl
  | 3, _ => rfl
/-- n in so many bytes, the highest first -/
def be (n : Nat) : Nat → List UInt8
  | 0 => []
  | k + 1 => UInt8.ofNat (n / 2 ^ (8 * k) % 256) :: be n k
theorem be_len (n k : Nat) : (be n k).length = k := by induction k <;> simp [be, *]
/-- what stands in the eight bytes behind k rounds -/
def putRow (n size k : Nat) : List UInt8 := zs (size - k) ++ be n k ++ zs (8 - size)
theorem putRow_len (n size k : Nat) (hk : k ≤ size) (h : size ≤ 8) : (putRow n size k).length = 8 := by
  simp only [putRow, List.length_append, zs_len, be_len]; omega
theorem putRow_0 (n size : Nat) (h : size ≤ 8) : putRow n size 0 = zs 8 := by
  simp only [putRow, be, zs, List.append_nil, List.replicate_append_replicate]; congr 1; omega
theorem putRow_step (n size k : Nat) (hk : k < size) : (putRow n size k).set (size - 1 - k) (UInt8.ofNat (n / 2 ^ (8 * k) % 256)) = putRow n size (k + 1) := by
  unfold putRow
  obtain ⟨d, hd⟩ : ∃ d, size - k = d + 1 := ⟨size - k - 1, by omega⟩
  have e1 : size - 1 - k = d := by omega
  have e2 : size - (k + 1) = d := by omega
  rw [hd, e1, e2]
  have hz : zs (d + 1) = zs d ++ [0] := by simp [zs, List.replicate_succ']
  rw [hz, List.append_assoc, List.append_assoc, List.set_append_right _ _ (by simp [zs])]
  simp [zs, be]
/-- the number that bytes are, the highest first -/
def val (l : List UInt8) : Nat := l.foldl (fun n b => n * 256 + b.toNat) 0
theorem val_snoc (l : List UInt8) (b : UInt8) : val (l ++ [b]) = val l * 256 + b.toNat := by simp [val]
theorem val_lt : ∀ (n : Nat) (l : List UInt8), l.length = n → val l < 256 ^ n
  | 0, l, h => by
    have : l = [] := List.length_eq_zero_iff.1 h
    subst this; decide
  | n + 1, l, h => by
    rcases List.eq_nil_or_concat l with rfl | ⟨m, b, rfl⟩
    · simp at h
    · rw [List.concat_eq_append, val_snoc]
      have hm : m.length = n := by simpa using h
      have := val_lt n m hm
      have hb := b.toNat_lt
      rw [Nat.pow_succ]; omega
theorem take_succ_snoc (l : List UInt8) (k : Nat) (h : k < l.length) : l.take (k + 1) = l.take k ++ [l[k]] := by
  rw [List.take_succ_eq_append_getElem h]
theorem val_cons (b : UInt8) (l : List UInt8) : val (b :: l) = b.toNat * 256 ^ l.length + val l := by
  have h : ∀ (l : List UInt8) (n : Nat), l.foldl (fun n b => n * 256 + b.toNat) n = n * 256 ^ l.length + val l := by
    intro l
    induction l with
    | nil => intro n; simp [val]
    | cons c l ih =>
      intro n
      have e : val (c :: l) = l.foldl (fun n b => n * 256 + b.toNat) (0 * 256 + c.toNat) := rfl
      rw [List.foldl_cons, ih, e, ih, List.length_cons, Nat.pow_succ]
      rw [Nat.zero_mul, Nat.zero_add, Nat.add_mul, Nat.mul_assoc, Nat.mul_comm 256, Nat.add_assoc]
  show l.foldl (fun n b => n * 256 + b.toNat) (0 * 256 + b.toNat) = _
  rw [h l (0 * 256 + b.toNat), Nat.zero_mul, Nat.zero_add]
theorem val_be' (n : Nat) : ∀ k, val (be n k) = n % 256 ^ k
  | 0 => by simp [be, val, Nat.mod_one]
  | k + 1 => by
    show val (_ :: be n k) = _
    rw [val_cons, val_be' n k, be_len, u8_mod, Nat.pow_mul, show (2 : Nat) ^ 8 = 256 from rfl, Nat.pow_succ, Nat.mod_mul, Nat.mul_comm (256 ^ k), Nat.add_comm]
theorem val_be (n k : Nat) (h : n < 2 ^ (8 * k)) : val (be n k) = n := by
  rw [val_be', Nat.mod_eq_of_lt]
  rw [Nat.pow_mul] at h; exact h
theorem be_val : ∀ (l : List UInt8), be (val l) l.length = l
  | [] => rfl
  | b :: l => by
    have hl := val_lt l.length l rfl
    have hb := b.toNat_lt
    have e1 : val (b :: l) / 2 ^ (8 * l.length) % 256 = b.toNat := by
      rw [val_cons, Nat.pow_mul, show (2 : Nat) ^ 8 = 256 from rfl, Nat.add_comm, Nat.add_mul_div_right _ _ (Nat.pow_pos (by decide)), Nat.div_eq_of_lt hl, Nat.zero_add, Nat.mod_eq_of_lt hb]
    have e2 : ∀ (k : Nat), k ≤ l.length → be (val (b :: l)) k = be (val l) k := by
      intro k
      induction k with
      | zero => intro _; rfl
      | succ k ih =>
        intro hk
        show _ :: _ = _ :: _
        rw [ih (by omega)]
        congr 2
        rw [val_cons, Nat.pow_mul, show (2 : Nat) ^ 8 = 256 from rfl]
        obtain ⟨d, hd⟩ : ∃ d, l.length = k + 1 + d := ⟨l.length - (k + 1), by omega⟩
        rw [hd, Nat.pow_add, Nat.pow_succ, show b.toNat * (256 ^ k * 256 * 256 ^ d) = (b.toNat * 256 ^ d) * 256 * 256 ^ k from by ac_rfl]
        rw [Nat.add_comm, Nat.add_mul_div_right _ _ (Nat.pow_pos (by decide)), Nat.add_mul_mod_self_right]
    show _ :: _ = _
    rw [e1, e2 l.length (Nat.le_refl _), be_val l]
    simp
end Go.Proofs.YtoponmdfjbhnoaaGreatDoor
namespace Go.Proofs.YtoponmdfjbhnoaaGreatDoor
def digC (n : Nat) : UInt8 := UInt8.ofNat (if n < 10 then 48 + n else 87 + n)
def hexOf : List UInt8 → List UInt8
  | [] => []
  | b :: l => digC (b.toNat / 16) :: digC (b.toNat % 16) :: hexOf l
theorem hexOf_app (a b : List UInt8) : hexOf (a ++ b) = hexOf a ++ hexOf b := by
  induction a with
  | nil => rfl
  | cons x a ih => simp [hexOf, ih]
theorem hexOf_len (l : List UInt8) : (hexOf l).length = 2 * l.length := by
  induction l with
  | nil => rfl
  | cons x a ih => simp [hexOf, ih]; omega
theorem hexOf_snoc (l : List UInt8) (b : UInt8) : hexOf (l ++ [b]) = hexOf l ++ [digC (b.toNat / 16), digC (b.toNat % 16)] := by rw [hexOf_app]; rfl
def hexL (l : List UInt8) : List UInt8 := 48 :: 120 :: hexOf l
theorem hexL_len (l : List UInt8) : (hexL l).length = 2 + 2 * l.length := by simp [hexL, hexOf_len]; omega
def hexDigits : List UInt8 := [48, 49, 50, 51, 52, 53, 54, 55, 56, 57, 97, 98, 99, 100, 101, 102]
theorem hexDigits_get (n : Nat) (h : n < 16) : hexDigits[n]'h = digC n := by
  have : ∀ n : Fin 16, hexDigits[n.1]'n.2 = digC n.1 := by decide
  exact this ⟨n, h⟩
theorem and15 (n : Nat) (h : n < 256) : bits .and .u8 (n : Int) 15 = (n : Int) % 16 := by
  rw [show (15 : Int) = ((15 : Nat) : Int) from rfl, u8_and_nat n 15 h (by decide), show (15 : Nat) = 2 ^ 4 - 1 from rfl, Nat.and_two_pow_sub_one_eq_mod]
  rfl
theorem hexDigits_at (n : Int) (m : Nat) (hn : n = m) (h : n.toNat < ([48, 49, 50, 51, 52, 53, 54, 55, 56, 57, 97, 98, 99, 100, 101, 102] : List UInt8).length) :
    ([48, 49, 50, 51, 52, 53, 54, 55, 56, 57, 97, 98, 99, 100, 101, 102] : List UInt8)[n.toNat]'h = digC m := by
  subst hn
  exact hexDigits_get m h
def letterTab : List UInt8 := [65, 66, 67, 68, 69, 70, 71, 72, 73, 74, 75, 76, 77, 78, 79, 80, 81, 82, 83, 84, 85, 86, 87, 88, 89, 90, 97, 98, 99, 100, 101, 102, 103, 104, 105, 106, 107, 108, 109, 110, 111, 112, 113, 114, 115, 116, 117, 118, 119, 120, 121, 122, 48, 49, 50, 51, 52, 53, 54, 55, 56, 57, 43, 47]
def lett (n : Nat) : UInt8 := letterTab.getD n 61
theorem lett_at (n : Int) (m : Nat) (hn : n = m) (h : n.toNat < ([65, 66, 67, 68, 69, 70, 71, 72, 73, 74, 75, 76, 77, 78, 79, 80, 81, 82, 83, 84, 85, 86, 87, 88, 89, 90, 97, 98, 99, 100, 101, 102, 103, 104, 105, 106, 107, 108, 109, 110, 111, 112, 113, 114, 115, 116, 117, 118, 119, 120, 121, 122, 48, 49, 50, 51, 52, 53, 54, 55, 56, 57, 43, 47] : List UInt8).length) :
    ([65, 66, 67, 68, 69, 70, 71, 72, 73, 74, 75, 76, 77, 78, 79, 80, 81, 82, 83, 84, 85, 86, 87, 88, 89, 90, 97, 98, 99, 100, 101, 102, 103, 104, 105, 106, 107, 108, 109, 110, 111, 112, 113, 114, 115, 116, 117, 118, 119, 120, 121, 122, 48, 49, 50, 51, 52, 53, 54, 55, 56, 57, 43, 47] : List UInt8)[n.toNat]'h = lett m := by
  subst hn
  have h' : m < letterTab.length := h
  unfold lett
  rw [List.getD_eq_getElem?_getD, List.getElem?_eq_getElem h']
  rfl
/-- four letters of three bytes, two, or one -/
def four : List UInt8 → List UInt8
  | [a] => [lett (a.toNat / 4), lett (a.toNat % 4 * 16), 61, 61]
  | [a, b] => [lett (a.toNat / 4), lett (a.toNat % 4 * 16 + b.toNat / 16), lett (b.toNat % 16 * 4), 61]
  | [a, b, c] => [lett (a.toNat / 4), lett (a.toNat % 4 * 16 + b.toNat / 16), lett (b.toNat % 16 * 4 + c.toNat / 64), lett (c.toNat % 64)]
  | _ => []
def lettersOf : List UInt8 → List UInt8
  | [] => []
  | [a] => four [a]
  | [a, b] => four [a, b]
  | a :: b :: c :: l => four [a, b, c] ++ lettersOf l
def b64L (l : List UInt8) : List UInt8 := 48 :: 98 :: lettersOf l
theorem lettersOf_three (c l : List UInt8) (h : c.length % 3 = 0) : lettersOf (c ++ l) = lettersOf c ++ lettersOf l := by
  match c with
  | [] => rfl
  | [_] => simp at h
  | [_, _] => simp at h
  | x :: y :: z :: r =>
    have hr : r.length % 3 = 0 := by simp at h; omega
    show four [x, y, z] ++ lettersOf (r ++ l) = (four [x, y, z] ++ lettersOf r) ++ lettersOf l
    rw [lettersOf_three r l hr, List.append_assoc]
theorem lettersOf_len (l : List UInt8) : (lettersOf l).length = (l.length + 2) / 3 * 4 := by
  match l with
  | [] => rfl
  | [_] => simp [lettersOf, four]
  | [_, _] => simp [lettersOf, four]
  | x :: y :: z :: r =>
    show (four [x, y, z] ++ lettersOf r).length = _
    rw [List.length_append, lettersOf_len r]
    simp [four]; omega
theorem lettersOf_end (l : List UInt8) (h0 : 0 < l.length) (h3 : l.length ≤ 3) : lettersOf l = four l := by
  match l with
  | [] => simp at h0
  | [_] => rfl
  | [_, _] => rfl
  | [x, y, z] => simp [lettersOf]
  | _ :: _ :: _ :: _ :: _ => simp at h3
theorem take_three (l : List UInt8) (k : Nat) (h : 3 * k < l.length) : b64L (l.take (3 * k)) ++ four ((l.drop (3 * k)).take 3) = b64L (l.take (3 * (k + 1))) := by
  have e : l.take (3 * (k + 1)) = l.take (3 * k) ++ (l.drop (3 * k)).take 3 := by
    rw [show 3 * (k + 1) = 3 * k + 3 from by omega, List.take_add]
  have hl : ((l.drop (3 * k)).take 3).length = min 3 (l.length - 3 * k) := by simp
  unfold b64L
  rw [e, lettersOf_three _ _ (by rw [List.length_take]; omega), lettersOf_end ((l.drop (3 * k)).take 3) (by omega) (by omega)]
  rfl
theorem chunk_short (l : List UInt8) (k : Nat) (h : l.length < 3 * k + 3) : (l.drop (3 * k)).take (l.length - 3 * k) = (l.drop (3 * k)).take 3 := by
  rw [List.take_of_length_le (by simp), List.take_of_length_le (by simp; omega)]
/-- the number that a hexadecimal digit is -/
def hexV (c : UInt8) : Option Nat :=
  if 48 ≤ c.toNat ∧ c.toNat ≤ 57 then some (c.toNat - 48) else if 97 ≤ c.toNat ∧ c.toNat ≤ 102 then some (c.toNat - 87) else if 65 ≤ c.toNat ∧ c.toNat ≤ 70 then some (c.toNat - 55) else none
theorem hexV_lt (c : UInt8) (n : Nat) (h : hexV c = some n) : n < 16 := by
  unfold hexV at h
  split at h
  · have := Option.some.inj h; omega
  · split at h
    · have := Option.some.inj h; omega
    · split at h
      · have := Option.some.inj h; omega
      · cases h
def hexN (c : UInt8) : Nat := (hexV c).getD 0
theorem hexN_lt (c : UInt8) : hexN c < 16 := by
  unfold hexN
  cases h : hexV c with
  | none => decide
  | some n => exact hexV_lt c n h
/-- what stands in the row behind i digits -/
def hexRow : List UInt8 → Nat → List UInt8
  | a :: b :: r, i => UInt8.ofNat (if i = 0 then 0 else if i = 1 then hexN a else hexN a * 16 + hexN b) :: hexRow r (i - 2)
  | _, _ => []
def unhex (l : List UInt8) : List UInt8 := hexRow l l.length
theorem hexRow_len : ∀ (l : List UInt8) (i : Nat), (hexRow l i).length = l.length / 2
  | [], _ => rfl
  | [_], _ => by simp [hexRow]
  | a :: b :: r, i => by simp only [hexRow, List.length_cons, hexRow_len r]; omega
theorem hexRow_0 : ∀ (l : List UInt8), hexRow l 0 = List.replicate (l.length / 2) 0
  | [] => rfl
  | [_] => by simp [hexRow]
  | a :: b :: r => by
    have e : (a :: b :: r).length / 2 = r.length / 2 + 1 := by simp only [List.length_cons]; omega
    rw [e, List.replicate_succ, ← hexRow_0 r]
    rfl
theorem hexRow_step : ∀ (l : List UInt8) (i : Nat) (h : i < l.length) (_ : l.length % 2 = 0) (h2 : i / 2 < (hexRow l i).length),
    (hexRow l i).set (i / 2) (UInt8.ofNat (((hexRow l i)[i / 2]'h2).toNat % 16 * 16 + hexN l[i])) = hexRow l (i + 1)
  | [], i, h, _, _ => absurd h (by simp)
  | [_], _, _, he, _ => absurd he (by simp)
  | a :: b :: r, 0, _, _, _ => by
    simp only [hexRow, Nat.zero_div, List.set_cons_zero, List.getElem_cons_zero, if_true]
    simp
  | a :: b :: r, 1, _, _, _ => by
    have ha := hexN_lt a
    have hb := hexN_lt b
    simp only [hexRow, show 1 / 2 = 0 from rfl, List.set_cons_zero, List.getElem_cons_zero, if_true]
    simp [Nat.mod_eq_of_lt (show hexN a < 256 by omega), Nat.mod_eq_of_lt ha]
  | a :: b :: r, i + 2, h, he, h2 => by
    have hr : i < r.length := by simp at h; omega
    have hre : r.length % 2 = 0 := by simp at he; omega
    have e : (i + 2) / 2 = i / 2 + 1 := by omega
    have hl := hexRow_len r i
    have ih := hexRow_step r i hr hre (by rw [hl]; omega)
    simp only [hexRow, e, List.set_cons_succ, List.getElem_cons_succ, Nat.add_sub_cancel, if_neg (show ¬ i + 2 = 0 by omega), if_neg (show ¬ i + 2 = 1 by omega), if_neg (show ¬ i + 2 + 1 = 0 by omega), if_neg (show ¬ i + 2 + 1 = 1 by omega)]
    rw [ih, show i + 2 + 1 - 2 = i + 1 from by omega]
/-- the bytes that digits are; which error; where -/
def readHex (l : List UInt8) : List UInt8 × Int × Int :=
  if l.length % 2 ≠ 0 then ([], 7, -1) else match l.findIdx? (fun c => (hexV c).isNone) with
    | some i => ([], 3, 2 + (i : Int))
    | none => (unhex l, 0, -1)
end Go.Proofs.YtoponmdfjbhnoaaGreatDoor
namespace Go.Proofs.YtoponmdfjbhnoaaGreatDoor
/-- the k lowest digits of n, the highest first -/
def lowD (b n : Nat) : Nat → List UInt8
  | 0 => []
  | k + 1 => digC (n / b ^ k % b) :: lowD b n k
theorem lowD_len (b n : Nat) : ∀ k, (lowD b n k).length = k
  | 0 => rfl
  | k + 1 => by simp [lowD, lowD_len b n k]
def fmtRow (b n k : Nat) : List UInt8 := List.replicate (65 - k) 0 ++ lowD b n k
theorem fmtRow_len (b n k : Nat) (h : k ≤ 65) : (fmtRow b n k).length = 65 := by simp [fmtRow, lowD_len]; omega
theorem fmtRow_step (b n k : Nat) (h : k < 65) : (fmtRow b n k).set (64 - k) (digC (n / b ^ k % b)) = fmtRow b n (k + 1) := by
  unfold fmtRow
  rw [show 65 - k = (64 - k) + 1 from by omega, List.replicate_succ', List.append_assoc, List.set_append, if_neg (by simp)]
  rw [show 65 - (k + 1) = 64 - k from by omega]
  simp [lowD]
theorem fmtRow_drop (b n k : Nat) : (fmtRow b n k).drop (65 - k) = lowD b n k := by
  unfold fmtRow
  rw [List.drop_append, List.drop_of_length_le (by simp)]
  simp
end Go.Proofs.YtoponmdfjbhnoaaGreatDoor
namespace Go.Proofs.YtoponmdfjbhnoaaGreatDoor
def lowB (c : UInt8) : Nat := (c ||| 32).toNat
def digV (c : UInt8) : Nat := if 48 ≤ c.toNat ∧ c.toNat ≤ 57 then c.toNat - 48 else lowB c - 87
def isDig (b : Nat) (c : UInt8) : Bool := ((decide (48 ≤ c.toNat) && decide (c.toNat ≤ 57)) || (decide (97 ≤ lowB c) && decide (lowB c ≤ 122))) && decide (digV c < b)
def valB (b : Nat) (l : List UInt8) : Nat := l.foldl (fun n c => n * b + digV c) 0
theorem valB_snoc (b : Nat) (l : List UInt8) (c : UInt8) : valB b (l ++ [c]) = valB b l * b + digV c := by simp [valB]
theorem isDig_lt {b : Nat} {c : UInt8} (h : isDig b c = true) : digV c < b := by
  unfold isDig at h
  simp only [Bool.and_eq_true, decide_eq_true_eq] at h
  exact h.2
theorem isDig_or {b : Nat} {c : UInt8} (h : isDig b c = true) : (48 ≤ c.toNat ∧ c.toNat ≤ 57) ∨ ((97 ≤ lowB c ∧ lowB c ≤ 122) ∧ ¬ (48 ≤ c.toNat ∧ c.toNat ≤ 57)) := by
  unfold isDig at h
  simp only [Bool.and_eq_true, Bool.or_eq_true, decide_eq_true_eq] at h
  rcases Classical.em (48 ≤ c.toNat ∧ c.toNat ≤ 57) with g | g
  · exact .inl g
  · rcases h.1 with h1 | h1
    · exact absurd h1 g
    · exact .inr ⟨h1, g⟩
theorem valB_take_lt (b : Nat) (hb : 1 ≤ b) (l : List UInt8) (hd : ∀ c ∈ l, isDig b c = true) : ∀ k, k ≤ l.length → valB b (l.take k) < b ^ k
  | 0, _ => by simp [valB]
  | k + 1, hk => by
    have hlt : k < l.length := by omega
    rw [List.take_succ_eq_append_getElem hlt, valB_snoc]
    have ih := valB_take_lt b hb l hd k (by omega)
    have hc := isDig_lt (hd _ (List.getElem_mem hlt))
    have : valB b (l.take k) + 1 ≤ b ^ k := ih
    have h2 : (valB b (l.take k) + 1) * b ≤ b ^ k * b := Nat.mul_le_mul_right _ this
    rw [Nat.add_mul] at h2
    rw [Nat.pow_succ]
    omega
theorem lowB_or (c : UInt8) : bits .or .u8 (c.toNat : Int) 32 = ((lowB c : Nat) : Int) := by
  have h : ∀ n : Fin 256, bits .or .u8 (((UInt8.ofNat n.1).toNat : Nat) : Int) 32 = ((lowB (UInt8.ofNat n.1) : Nat) : Int) := by decide +kernel
  have := h ⟨c.toNat, c.toNat_lt⟩
  rwa [show UInt8.ofNat c.toNat = c from by simp] at this
theorem isDig_ne {b : Nat} {c : UInt8} (h : isDig b c = true) (g : c.toNat < 48 ∨ 57 < c.toNat) : c.toNat ≠ 95 := fun e => by
  have hc : c = 95 := UInt8.toNat_inj.1 e
  subst hc
  rcases isDig_or h with h1 | h1
  · revert h1; decide
  · revert h1; decide
theorem lowB_lt (c : UInt8) : lowB c < 256 := (c ||| 32).toNat_lt
end Go.Proofs.YtoponmdfjbhnoaaGreatDoor
namespace Go.Proofs.YtoponmdfjbhnoaaGreatDoor
/-- the bits of bytes, as text -/
def bitsOf : List UInt8 → List UInt8
  | [] => []
  | b :: l => lowD 2 b.toNat 8 ++ bitsOf l
theorem bitsOf_app (a b : List UInt8) : bitsOf (a ++ b) = bitsOf a ++ bitsOf b := by
  induction a with
  | nil => rfl
  | cons x a ih => simp [bitsOf, ih]
theorem bitsOf_snoc (l : List UInt8) (b : UInt8) : bitsOf (l ++ [b]) = bitsOf l ++ lowD 2 b.toNat 8 := by rw [bitsOf_app]; simp [bitsOf]
theorem bitsOf_len (l : List UInt8) : (bitsOf l).length = 8 * l.length := by
  induction l with
  | nil => rfl
  | cons x a ih => simp [bitsOf, ih, lowD_len]; omega
theorem digC_two (n : Nat) (h : n < 2) : isDig 2 (digC n) = true ∧ digV (digC n) = n := by
  have : ∀ k : Fin 2, isDig 2 (digC k.1) = true ∧ digV (digC k.1) = k.1 := by decide
  exact this ⟨n, h⟩
theorem lowD_two (n : Nat) : ∀ (k : Nat) (c : UInt8), c ∈ lowD 2 n k → isDig 2 c = true
  | 0, c, h => by simp [lowD] at h
  | k + 1, c, h => by
    simp only [lowD, List.mem_cons] at h
    rcases h with rfl | h
    · exact (digC_two _ (Nat.mod_lt _ (by decide))).1
    · exact lowD_two n k c h
theorem bitsOf_two (l : List UInt8) : ∀ c ∈ bitsOf l, isDig 2 c = true := by
  induction l with
  | nil => intro c h; simp [bitsOf] at h
  | cons x a ih =>
    intro c h
    rcases List.mem_append.1 h with h | h
    · exact lowD_two _ _ _ h
    · exact ih c h
theorem low8 (n : Nat) : lowD 2 n 8 = [digC (n / 128 % 2), digC (n / 64 % 2), digC (n / 32 % 2), digC (n / 16 % 2), digC (n / 8 % 2), digC (n / 4 % 2), digC (n / 2 % 2), digC (n % 2)] := by
  simp only [lowD, Nat.pow_zero, Nat.div_one, Nat.reducePow]
theorem low6 (n : Nat) : lowD 2 n 6 = [digC (n / 32 % 2), digC (n / 16 % 2), digC (n / 8 % 2), digC (n / 4 % 2), digC (n / 2 % 2), digC (n % 2)] := by
  simp only [lowD, Nat.pow_zero, Nat.div_one, Nat.reducePow]
theorem val6 (a b c d e f : Nat) (ha : a < 2) (hb : b < 2) (hc : c < 2) (hd : d < 2) (he : e < 2) (hf : f < 2) :
    valB 2 [digC a, digC b, digC c, digC d, digC e, digC f] = 32 * a + 16 * b + 8 * c + 4 * d + 2 * e + f := by
  simp only [valB, List.foldl_cons, List.foldl_nil, (digC_two a ha).2, (digC_two b hb).2, (digC_two c hc).2, (digC_two d hd).2, (digC_two e he).2, (digC_two f hf).2]
  omega
/-- letters of bits, by sixes -/
def sixes : List UInt8 → List UInt8
  | a :: b :: c :: d :: e :: f :: r => lett (valB 2 [a, b, c, d, e, f]) :: sixes r
  | _ => []
theorem sixes_step (r : List UInt8) (h : 6 ≤ r.length) : sixes r = lett (valB 2 (r.take 6)) :: sixes (r.drop 6) := by
  match r, h with
  | a :: b :: c :: d :: e :: f :: r, _ => simp [sixes]
theorem sixes_len : ∀ (r : List UInt8), (sixes r).length = r.length / 6
  | [] => rfl
  | [_] => by simp [sixes]
  | [_, _] => by simp [sixes]
  | [_, _, _] => by simp [sixes]
  | [_, _, _, _] => by simp [sixes]
  | [_, _, _, _, _] => by simp [sixes]
  | a :: b :: c :: d :: e :: f :: r => by simp only [sixes, List.length_cons, sixes_len r]; omega
def padBits (l : List UInt8) : List UInt8 := bitsOf l ++ List.replicate ((6 - 8 * l.length % 6) % 6) 48
theorem padBits_two (l : List UInt8) : ∀ c ∈ padBits l, isDig 2 c = true := by
  intro c h
  rcases List.mem_append.1 h with h | h
  · exact bitsOf_two l c h
  · rw [(List.mem_replicate.1 h).2]; decide
theorem padBits_len (l : List UInt8) : (padBits l).length = 8 * l.length + (6 - 8 * l.length % 6) % 6 := by simp [padBits, bitsOf_len]
theorem sixes_three (x y z : UInt8) (r : List UInt8) : sixes (lowD 2 x.toNat 8 ++ (lowD 2 y.toNat 8 ++ (lowD 2 z.toNat 8 ++ r))) = four [x, y, z] ++ sixes r := by
  have hx := x.toNat_lt
  have hy := y.toNat_lt
  have hz := z.toNat_lt
  simp only [low8, List.cons_append, List.nil_append, sixes, four]
  rw [val6 _ _ _ _ _ _ (by omega) (by omega) (by omega) (by omega) (by omega) (by omega), val6 _ _ _ _ _ _ (by omega) (by omega) (by omega) (by omega) (by omega) (by omega), val6 _ _ _ _ _ _ (by omega) (by omega) (by omega) (by omega) (by omega) (by omega), val6 _ _ _ _ _ _ (by omega) (by omega) (by omega) (by omega) (by omega) (by omega)]
  have e1 : 32 * (x.toNat / 128 % 2) + 16 * (x.toNat / 64 % 2) + 8 * (x.toNat / 32 % 2) + 4 * (x.toNat / 16 % 2) + 2 * (x.toNat / 8 % 2) + x.toNat / 4 % 2 = x.toNat / 4 := by omega
  have e2 : 32 * (x.toNat / 2 % 2) + 16 * (x.toNat % 2) + 8 * (y.toNat / 128 % 2) + 4 * (y.toNat / 64 % 2) + 2 * (y.toNat / 32 % 2) + y.toNat / 16 % 2 = x.toNat % 4 * 16 + y.toNat / 16 := by omega
  have e3 : 32 * (y.toNat / 8 % 2) + 16 * (y.toNat / 4 % 2) + 8 * (y.toNat / 2 % 2) + 4 * (y.toNat % 2) + 2 * (z.toNat / 128 % 2) + z.toNat / 64 % 2 = y.toNat % 16 * 4 + z.toNat / 64 := by omega
  have e4 : 32 * (z.toNat / 32 % 2) + 16 * (z.toNat / 16 % 2) + 8 * (z.toNat / 8 % 2) + 4 * (z.toNat / 4 % 2) + 2 * (z.toNat / 2 % 2) + z.toNat % 2 = z.toNat % 64 := by omega
  rw [e1, e2, e3, e4]
theorem sixes_letters (l : List UInt8) : sixes (padBits l) ++ List.replicate ((4 - (sixes (padBits l)).length % 4) % 4) 61 = lettersOf l := by
  match l with
  | [] => simp [padBits, bitsOf, sixes, lettersOf]
  | [x] =>
    have hx := x.toNat_lt
    have e1 : 32 * (x.toNat / 128 % 2) + 16 * (x.toNat / 64 % 2) + 8 * (x.toNat / 32 % 2) + 4 * (x.toNat / 16 % 2) + 2 * (x.toNat / 8 % 2) + x.toNat / 4 % 2 = x.toNat / 4 := by omega
    have e2 : 32 * (x.toNat / 2 % 2) + 16 * (x.toNat % 2) + 8 * 0 + 4 * 0 + 2 * 0 + 0 = x.toNat % 4 * 16 := by omega
    have h : sixes (padBits [x]) = [lett (x.toNat / 4), lett (x.toNat % 4 * 16)] := by
      have hp : padBits [x] = lowD 2 x.toNat 8 ++ [digC 0, digC 0, digC 0, digC 0] := by
        have hz : ([digC 0, digC 0, digC 0, digC 0] : List UInt8) = List.replicate 4 48 := by decide
        rw [hz]; simp [padBits, bitsOf]
      rw [hp]
      simp only [low8, List.cons_append, List.nil_append, sixes]
      rw [val6 _ _ _ _ _ _ (by omega) (by omega) (by omega) (by omega) (by omega) (by omega), val6 _ _ _ _ _ _ (by omega) (by omega) (by omega) (by omega) (by omega) (by omega), e1, e2]
    rw [h]; rfl
  | [x, y] =>
    have hx := x.toNat_lt
    have hy := y.toNat_lt
    have e1 : 32 * (x.toNat / 128 % 2) + 16 * (x.toNat / 64 % 2) + 8 * (x.toNat / 32 % 2) + 4 * (x.toNat / 16 % 2) + 2 * (x.toNat / 8 % 2) + x.toNat / 4 % 2 = x.toNat / 4 := by omega
    have e2 : 32 * (x.toNat / 2 % 2) + 16 * (x.toNat % 2) + 8 * (y.toNat / 128 % 2) + 4 * (y.toNat / 64 % 2) + 2 * (y.toNat / 32 % 2) + y.toNat / 16 % 2 = x.toNat % 4 * 16 + y.toNat / 16 := by omega
    have e3 : 32 * (y.toNat / 8 % 2) + 16 * (y.toNat / 4 % 2) + 8 * (y.toNat / 2 % 2) + 4 * (y.toNat % 2) + 2 * 0 + 0 = y.toNat % 16 * 4 := by omega
    have h : sixes (padBits [x, y]) = [lett (x.toNat / 4), lett (x.toNat % 4 * 16 + y.toNat / 16), lett (y.toNat % 16 * 4)] := by
      have hp : padBits [x, y] = lowD 2 x.toNat 8 ++ (lowD 2 y.toNat 8 ++ [digC 0, digC 0]) := by
        have hz : ([digC 0, digC 0] : List UInt8) = List.replicate 2 48 := by decide
        rw [hz]; simp [padBits, bitsOf]
      rw [hp]
      simp only [low8, List.cons_append, List.nil_append, sixes]
      rw [val6 _ _ _ _ _ _ (by omega) (by omega) (by omega) (by omega) (by omega) (by omega), val6 _ _ _ _ _ _ (by omega) (by omega) (by omega) (by omega) (by omega) (by omega), val6 _ _ _ _ _ _ (by omega) (by omega) (by omega) (by omega) (by omega) (by omega), e1, e2, e3]
    rw [h]; rfl
  | x :: y :: z :: r =>
    have hp : padBits (x :: y :: z :: r) = lowD 2 x.toNat 8 ++ (lowD 2 y.toNat 8 ++ (lowD 2 z.toNat 8 ++ padBits r)) := by
      unfold padBits
      have : 8 * (x :: y :: z :: r).length % 6 = 8 * r.length % 6 := by simp only [List.length_cons]; omega
      rw [this]
      simp [bitsOf]
    have ih := sixes_letters r
    have hl : (four [x, y, z]).length = 4 := rfl
    rw [hp, sixes_three, List.length_append, hl, Nat.add_mod_left, List.append_assoc, ih]
    rfl
end Go.Proofs.YtoponmdfjbhnoaaGreatDoor
namespace Go.Proofs.YtoponmdfjbhnoaaGreatDoor
/-- a letter's number, -1 if it is none -/
def letN (c : UInt8) : Int := Lib.indexByte letterTab c
theorem letN_bd (c : UInt8) : -1 ≤ letN c ∧ letN c < 64 := by
  have h : ∀ n : Fin 256, -1 ≤ letN (UInt8.ofNat n.1) ∧ letN (UInt8.ofNat n.1) < 64 := by decide +kernel
  have := h ⟨c.toNat, c.toNat_lt⟩
  simpa using this
def stepL (st : Nat × Nat × List UInt8) (n : Nat) : Nat × Nat × List UInt8 :=
  if 2 ≤ st.2.1 then ((st.1 * 64 + n) % 2 ^ (st.2.1 - 2), st.2.1 - 2, st.2.2 ++ [UInt8.ofNat ((st.1 * 64 + n) / 2 ^ (st.2.1 - 2))]) else (st.1 * 64 + n, st.2.1 + 6, st.2.2)
def runL (l : List UInt8) : Nat × Nat × List UInt8 := l.foldl (fun st c => stepL st (letN c).toNat) (0, 0, [])
theorem runL_snoc (l : List UInt8) (c : UInt8) : runL (l ++ [c]) = stepL (runL l) (letN c).toNat := by simp [runL]
def LInv (st : Nat × Nat × List UInt8) (k : Nat) : Prop := (st.2.1 = 0 ∨ st.2.1 = 2 ∨ st.2.1 = 4 ∨ st.2.1 = 6) ∧ st.1 < 2 ^ st.2.1 ∧ 8 * st.2.2.length + st.2.1 = 6 * k
theorem stepL_inv (st : Nat × Nat × List UInt8) (k n : Nat) (hn : n < 64) (h : LInv st k) : LInv (stepL st n) (k + 1) := by
  obtain ⟨a, s, o⟩ := st
  obtain ⟨hs, ha, hk⟩ := h
  simp only at hs ha hk
  rcases hs with rfl | rfl | rfl | rfl
  all_goals simp [stepL, LInv]
  all_goals omega
theorem runL_inv (l : List UInt8) : LInv (runL l) l.length := by
  have h : ∀ (l : List UInt8) (st : Nat × Nat × List UInt8) (k : Nat), LInv st k → LInv (l.foldl (fun st c => stepL st (letN c).toNat) st) (k + l.length) := by
    intro l
    induction l with
    | nil => intro st k h; exact h
    | cons c l ih =>
      intro st k h
      rw [List.foldl_cons, List.length_cons, show k + (l.length + 1) = (k + 1) + l.length from by omega]
      exact ih _ _ (stepL_inv _ _ _ (by have := letN_bd c; omega) h)
  have := h l (0, 0, []) 0 ⟨.inl rfl, by decide, rfl⟩
  rw [Nat.zero_add] at this
  exact this
/-- the bytes that letters are; which error; where -/
def eqs (l : List UInt8) : Nat := if Lib.hasSuffix l [61, 61] then 2 else if Lib.hasSuffix l [61] then 1 else 0
theorem eqs_le (l : List UInt8) : eqs l ≤ 2 := by unfold eqs; split <;> (try split) <;> omega
theorem eqs_len (l : List UInt8) : eqs l ≤ l.length := by
  unfold eqs
  split
  · rename_i h
    have := (List.isSuffixOf_iff_suffix.1 h).length_le
    simpa using this
  · split
    · rename_i h
      have := (List.isSuffixOf_iff_suffix.1 h).length_le
      simpa using this
    · omega
def readLet (l : List UInt8) : List UInt8 × Int × Int :=
  if l.length % 4 ≠ 0 then ([], 7, -1) else match (l.take (l.length - eqs l)).findIdx? (fun c => letN c < 0) with
    | some i => ([], 3, 2 + (i : Int))
    | none => if (runL (l.take (l.length - eqs l))).1 ≠ 0 then ([], 3, 2 + ((l.length - eqs l - 1 : Nat) : Int)) else ((runL (l.take (l.length - eqs l))).2.2, 0, -1)
end Go.Proofs.YtoponmdfjbhnoaaGreatDoor
namespace Go.Proofs.YtoponmdfjbhnoaaGreatDoor
/-- the digits that the reference looks a byte up in -/
def hexAll : List UInt8 := [48, 49, 50, 51, 52, 53, 54, 55, 56, 57, 97, 98, 99, 100, 101, 102, 65, 66, 67, 68, 69, 70]
theorem hexAll_at (c : UInt8) : (Lib.indexByte hexAll c < 0 ↔ (hexV c).isNone = true) := by
  have h : ∀ n : Fin 256, (Lib.indexByte hexAll (UInt8.ofNat n.1) < 0 ↔ (hexV (UInt8.ofNat n.1)).isNone = true) := by decide +kernel
  have := h ⟨c.toNat, c.toNat_lt⟩
  simpa using this
theorem hexV_dig (c : UInt8) (h : (hexV c).isNone = false) : isDig 16 c = true ∧ digV c = hexN c := by
  have g : ∀ n : Fin 256, (hexV (UInt8.ofNat n.1)).isNone = false → isDig 16 (UInt8.ofNat n.1) = true ∧ digV (UInt8.ofNat n.1) = hexN (UInt8.ofNat n.1) := by decide +kernel
  have := g ⟨c.toNat, c.toNat_lt⟩
  simp only [UInt8.ofNat_toNat] at this
  exact this h
theorem valB_app (b : Nat) (x y : List UInt8) : valB b (x ++ y) = valB b x * b ^ y.length + valB b y := by
  have h : ∀ (y : List UInt8) (n : Nat), y.foldl (fun n c => n * b + digV c) n = n * b ^ y.length + y.foldl (fun n c => n * b + digV c) 0 := by
    intro y
    induction y with
    | nil => intro n; simp
    | cons c y ih =>
      intro n
      rw [List.foldl_cons, List.foldl_cons, ih (n * b + digV c), ih (0 * b + digV c), List.length_cons, Nat.pow_succ, Nat.zero_mul, Nat.zero_add, Nat.add_mul, Nat.mul_assoc, Nat.mul_comm b, Nat.add_assoc]
  unfold valB
  rw [List.foldl_append, h]
theorem valB_lt (b : Nat) (hb : 1 ≤ b) (l : List UInt8) (hd : ∀ c ∈ l, isDig b c = true) : valB b l < b ^ l.length := by
  have := valB_take_lt b hb l hd l.length (Nat.le_refl _)
  rwa [List.take_length] at this
/-- two digits, one byte -/
def pairs : List UInt8 → List UInt8
  | a :: b :: r => UInt8.ofNat (valB 16 [a, b]) :: pairs r
  | _ => []
theorem pairs_step (r : List UInt8) (h : 2 ≤ r.length) : pairs r = UInt8.ofNat (valB 16 (r.take 2)) :: pairs (r.drop 2) := by
  match r, h with
  | a :: b :: r, _ => simp [pairs]
theorem pairs_row : ∀ (l : List UInt8) (i : Nat), l.length ≤ i → (∀ c ∈ l, (hexV c).isNone = false) → pairs l = hexRow l i
  | [], _, _, _ => rfl
  | [_], _, _, _ => by simp [pairs, hexRow]
  | a :: b :: r, i, hi, hg => by
    simp only [List.length_cons] at hi
    have h1 := (hexV_dig a (hg a (by simp))).2
    have h2 := (hexV_dig b (hg b (by simp))).2
    simp only [pairs, hexRow]
    rw [if_neg (by omega), if_neg (by omega), pairs_row r (i - 2) (by omega) (fun c hc => hg c (by simp [hc]))]
    simp [valB, h1, h2]
theorem pairs_unhex (l : List UInt8) (hg : ∀ c ∈ l, (hexV c).isNone = false) : pairs l = unhex l := pairs_row l l.length (Nat.le_refl _) hg
theorem pairs_len : ∀ (l : List UInt8), (pairs l).length = l.length / 2
  | [] => rfl
  | [_] => by simp [pairs]
  | a :: b :: r => by simp only [pairs, List.length_cons, pairs_len r]; omega
/-- the reference strikes one =, then, if there was one, another -/
theorem strike_one (l : List UInt8) : Lib.trimSuffix l [61] = l.take (l.length - (if Lib.hasSuffix l [61] then 1 else 0)) := by
  unfold Lib.trimSuffix
  cases h : Lib.hasSuffix l [61]
  · simp
  · simp
theorem suf_two (l : List UInt8) : Lib.hasSuffix l [61, 61] = true ↔ ∃ k, l = k ++ [61, 61] := by
  unfold Lib.hasSuffix
  rw [List.isSuffixOf_iff_suffix]
  exact ⟨fun ⟨k, h⟩ => ⟨k, h.symm⟩, fun ⟨k, h⟩ => ⟨k, h.symm⟩⟩
theorem suf_one (l : List UInt8) : Lib.hasSuffix l [61] = true ↔ ∃ k, l = k ++ [61] := by
  unfold Lib.hasSuffix
  rw [List.isSuffixOf_iff_suffix]
  exact ⟨fun ⟨k, h⟩ => ⟨k, h.symm⟩, fun ⟨k, h⟩ => ⟨k, h.symm⟩⟩
theorem strike (l : List UInt8) : (Lib.trimSuffix l [61] = l ∧ l.take (l.length - eqs l) = l) ∨ (Lib.trimSuffix l [61] ≠ l ∧ Lib.trimSuffix (Lib.trimSuffix l [61]) [61] = l.take (l.length - eqs l)) := by
  cases h1 : Lib.hasSuffix l [61]
  · left
    have h2 : Lib.hasSuffix l [61, 61] = false := by
      cases h2 : Lib.hasSuffix l [61, 61]
      · rfl
      · obtain ⟨k, rfl⟩ := (suf_two l).1 h2
        have : Lib.hasSuffix (k ++ [61, 61]) [61] = true := (suf_one _).2 ⟨k ++ [61], by simp⟩
        rw [h1] at this; cases this
    refine ⟨?_, ?_⟩
    · unfold Lib.trimSuffix; rw [h1]; rfl
    · unfold eqs; rw [h1, h2]; simp
  · right
    obtain ⟨k, rfl⟩ := (suf_one l).1 h1
    have ht : Lib.trimSuffix (k ++ [61]) [61] = k := by unfold Lib.trimSuffix; rw [h1]; simp
    rw [ht]
    refine ⟨fun e => ?_, ?_⟩
    · have := congrArg List.length e
      simp at this
    · cases h2 : Lib.hasSuffix k [61]
      · have h3 : Lib.hasSuffix (k ++ [61]) [61, 61] = false := by
          cases h3 : Lib.hasSuffix (k ++ [61]) [61, 61]
          · rfl
          · obtain ⟨j, hj⟩ := (suf_two _).1 h3
            have hj2 : k ++ [61] = (j ++ [61]) ++ [61] := by rw [hj]; simp
            have hk : k = j ++ [61] := List.append_cancel_right hj2
            have : Lib.hasSuffix k [61] = true := (suf_one _).2 ⟨j, hk⟩
            rw [h2] at this; cases this
        unfold eqs
        rw [h3, h1]
        unfold Lib.trimSuffix
        rw [h2]
        simp
      · obtain ⟨j, rfl⟩ := (suf_one k).1 h2
        have h3 : Lib.hasSuffix (j ++ [61] ++ [61]) [61, 61] = true := (suf_two _).2 ⟨j, by simp⟩
        unfold eqs
        rw [h3]
        unfold Lib.trimSuffix
        rw [h2]
        simp
/-- letters as bits -/
def sixBits : List UInt8 → List UInt8
  | [] => []
  | c :: l => lowD 2 (letN c).toNat 6 ++ sixBits l
theorem sixBits_app (a b : List UInt8) : sixBits (a ++ b) = sixBits a ++ sixBits b := by
  induction a with
  | nil => rfl
  | cons x a ih => simp [sixBits, ih]
theorem sixBits_snoc (l : List UInt8) (c : UInt8) : sixBits (l ++ [c]) = sixBits l ++ lowD 2 (letN c).toNat 6 := by rw [sixBits_app]; simp [sixBits]
theorem sixBits_len (l : List UInt8) : (sixBits l).length = 6 * l.length := by
  induction l with
  | nil => rfl
  | cons x a ih => simp [sixBits, ih, lowD_len]; omega
theorem sixBits_two (l : List UInt8) : ∀ c ∈ sixBits l, isDig 2 c = true := by
  induction l with
  | nil => intro c h; simp [sixBits] at h
  | cons x a ih =>
    intro c h
    rcases List.mem_append.1 h with h | h
    · exact lowD_two _ _ _ h
    · exact ih c h
/-- bits as bytes, and what is left -/
def octs : List UInt8 → List UInt8 × List UInt8
  | a :: b :: c :: d :: e :: f :: g :: h :: r => (UInt8.ofNat (valB 2 [a, b, c, d, e, f, g, h]) :: (octs r).1, (octs r).2)
  | r => ([], r)
theorem octs_step (r : List UInt8) (h : 8 ≤ r.length) : octs r = (UInt8.ofNat (valB 2 (r.take 8)) :: (octs (r.drop 8)).1, (octs (r.drop 8)).2) := by
  match r, h with
  | a :: b :: c :: d :: e :: f :: g :: h :: r, _ => simp [octs]
theorem octs_short (r : List UInt8) (h : r.length < 8) : octs r = ([], r) := by
  match r, h with
  | [], _ => rfl
  | [_], _ => rfl
  | [_, _], _ => rfl
  | [_, _, _], _ => rfl
  | [_, _, _, _], _ => rfl
  | [_, _, _, _, _], _ => rfl
  | [_, _, _, _, _, _], _ => rfl
  | [_, _, _, _, _, _, _], _ => rfl
theorem octs_app (s : List UInt8) : ∀ (n : Nat) (x : List UInt8), x.length ≤ n → octs (x ++ s) = ((octs x).1 ++ (octs ((octs x).2 ++ s)).1, (octs ((octs x).2 ++ s)).2)
  | 0, x, h => by
    obtain rfl : x = [] := List.eq_nil_of_length_eq_zero (by omega)
    rw [octs_short [] (by decide)]
    rfl
  | n + 1, x, h => by
    by_cases h8 : 8 ≤ x.length
    · have ih := octs_app s n (x.drop 8) (by rw [List.length_drop]; omega)
      rw [octs_step (x ++ s) (by rw [List.length_append]; omega), octs_step x h8, List.take_append_of_le_length h8, List.drop_append_of_le_length h8, ih]
      rfl
    · rw [octs_short x (by omega)]
      rfl
theorem val_low (n : Nat) : ∀ k, valB 2 (lowD 2 n k) = n % 2 ^ k
  | 0 => by simp [lowD, valB, Nat.mod_one]
  | k + 1 => by
    have h := valB_app 2 [digC (n / 2 ^ k % 2)] (lowD 2 n k)
    have hd := (digC_two (n / 2 ^ k % 2) (Nat.mod_lt _ (by decide))).2
    have h1 : valB 2 [digC (n / 2 ^ k % 2)] = n / 2 ^ k % 2 := by simp [valB, hd]
    show valB 2 ([digC (n / 2 ^ k % 2)] ++ lowD 2 n k) = _
    rw [h, val_low n k, lowD_len, h1, Nat.mod_pow_succ, Nat.mul_comm, Nat.add_comm]
theorem octs_run : ∀ (n : Nat) (l : List UInt8), l.length = n → (∀ c ∈ l, 0 ≤ letN c) →
    (octs (sixBits l)).1 = (runL l).2.2 ∧ (octs (sixBits l)).2.length = (runL l).2.1 ∧ valB 2 (octs (sixBits l)).2 = (runL l).1 ∧ (∀ c ∈ (octs (sixBits l)).2, isDig 2 c = true)
  | 0, l, h, _ => by
    obtain rfl : l = [] := List.eq_nil_of_length_eq_zero h
    exact ⟨rfl, rfl, rfl, fun c hc => by cases hc⟩
  | n + 1, l, h, hg => by
    have hne : l ≠ [] := by intro e; rw [e] at h; cases h
    obtain ⟨k, c, rfl⟩ : ∃ k c, l = k ++ [c] := ⟨l.dropLast, l.getLast hne, (List.dropLast_concat_getLast hne).symm⟩
    have hk : k.length = n := by simp at h; exact h
    obtain ⟨i1, i2, i3, i4⟩ := octs_run n k hk (fun x hx => hg x (by simp [hx]))
    have hinv := runL_inv k
    have hc := letN_bd c
    have hc0 := hg c (by simp)
    rw [sixBits_snoc, octs_app _ _ _ (Nat.le_refl _), runL_snoc, i1]
    generalize (octs (sixBits k)).2 = lo at i2 i3 i4 ⊢
    obtain ⟨m, hm⟩ : ∃ m : Nat, (letN c).toNat = m := ⟨_, rfl⟩
    have hm64 : m < 64 := by omega
    rw [hm]
    generalize runL k = st at i2 i3 hinv ⊢
    obtain ⟨a, s, o⟩ := st
    obtain ⟨hs, ha, _⟩ := hinv
    simp only at hs ha i2 i3 ⊢
    have hdy : ∀ x ∈ lo ++ lowD 2 m 6, isDig 2 x = true := fun x hx => by
      rcases List.mem_append.1 hx with hx | hx
      · exact i4 x hx
      · exact lowD_two _ _ _ hx
    have hv : valB 2 (lo ++ lowD 2 m 6) = a * 64 + m := by
      rw [valB_app, val_low, lowD_len, i3, Nat.mod_eq_of_lt (show m < 2 ^ 6 from hm64)]
    have hyl : (lo ++ lowD 2 m 6).length = s + 6 := by rw [List.length_append, lowD_len, i2]
    generalize lo ++ lowD 2 m 6 = y at hdy hv hyl ⊢
    by_cases h2 : 2 ≤ s
    · have hst : stepL (a, s, o) m = ((a * 64 + m) % 2 ^ (s - 2), s - 2, o ++ [UInt8.ofNat ((a * 64 + m) / 2 ^ (s - 2))]) := by simp only [stepL]; rw [if_pos h2]
      have hdl : (y.drop 8).length = s - 2 := by rw [List.length_drop]; omega
      have hdd : ∀ x ∈ y.drop 8, isDig 2 x = true := fun x hx => hdy x (List.mem_of_mem_drop hx)
      have hsp := valB_app 2 (y.take 8) (y.drop 8)
      have hlt := valB_lt 2 (by decide) (y.drop 8) hdd
      rw [List.take_append_drop, hv, hdl] at hsp
      rw [hdl] at hlt
      have hdiv : (a * 64 + m) / 2 ^ (s - 2) = valB 2 (y.take 8) := by
        rw [hsp, Nat.mul_comm, Nat.mul_add_div (Nat.pow_pos (by decide)), Nat.div_eq_of_lt hlt, Nat.add_zero]
      have hmod : (a * 64 + m) % 2 ^ (s - 2) = valB 2 (y.drop 8) := by
        rw [hsp, Nat.mul_comm, Nat.mul_add_mod, Nat.mod_eq_of_lt hlt]
      rw [hst, hdiv, hmod, octs_step y (by omega), octs_short (y.drop 8) (by rw [hdl]; omega)]
      exact ⟨rfl, hdl, rfl, hdd⟩
    · have hst : stepL (a, s, o) m = (a * 64 + m, s + 6, o) := by simp only [stepL]; rw [if_neg h2]
      rw [hst, octs_short y (by omega)]
      exact ⟨by simp, hyl, hv, hdy⟩
theorem dig_two (c : UInt8) (h : isDig 2 c = true) : c = 48 ∨ c = 49 := by
  have g : ∀ n : Fin 256, isDig 2 (UInt8.ofNat n.1) = true → UInt8.ofNat n.1 = 48 ∨ UInt8.ofNat n.1 = 49 := by decide +kernel
  have := g ⟨c.toNat, c.toNat_lt⟩
  simp only [UInt8.ofNat_toNat] at this
  exact this h
theorem has_one : ∀ (l : List UInt8), (∀ c ∈ l, isDig 2 c = true) → (0 ≤ Lib.indexByte l 49 ↔ valB 2 l ≠ 0)
  | [], _ => by simp [Lib.indexByte, valB]
  | c :: l, h => by
    have ih := has_one l (fun x hx => h x (by simp [hx]))
    have hv := valB_app 2 [c] l
    have hge := Lib.indexByte_ge l 49
    rw [List.singleton_append] at hv
    rcases dig_two c (h c (by simp)) with rfl | rfl
    · have h0 : valB 2 [48] = 0 := by decide
      rw [h0, Nat.zero_mul, Nat.zero_add] at hv
      rw [hv, ← ih]
      show 0 ≤ (if ((48 : UInt8) == 49) = true then (0 : Int) else if (Lib.indexByte l 49 == -1) = true then -1 else Lib.indexByte l 49 + 1) ↔ _
      rw [if_neg (by decide)]
      by_cases hx : Lib.indexByte l 49 = -1
      · rw [hx]; decide
      · rw [if_neg (by simpa using hx)]; omega
    · have h1 : valB 2 [49] = 1 := by decide
      rw [h1, Nat.one_mul] at hv
      have hp : 0 < 2 ^ l.length := Nat.pow_pos (by decide)
      have h2 : Lib.indexByte (49 :: l) 49 = 0 := by
        show (if ((49 : UInt8) == 49) = true then (0 : Int) else _) = 0
        rw [if_pos (by decide)]
      rw [h2, hv]
      exact ⟨fun _ => by omega, fun _ => by decide⟩
end Go.Proofs.YtoponmdfjbhnoaaGreatDoor
namespace Go.Proofs.YtoponmdfjbhnoaaGreatDoor
@[go_sem] theorem yielded_undef (f : Bool → Option Bool) (g : Option Value → Option Bool) : Go.yielded.match_1 (fun _ => Option Bool) (some undef) f g = g (some undef) := rfl
end Go.Proofs.YtoponmdfjbhnoaaGreatDoor
