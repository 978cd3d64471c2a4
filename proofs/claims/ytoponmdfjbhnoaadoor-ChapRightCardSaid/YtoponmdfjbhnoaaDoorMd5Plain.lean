/- MD5 as plain numbers. No program stands in it. -/
import Derived.Test.YtoponmdfjbhnoaaDoorBits
namespace Go.Proofs.YtoponmdfjbhnoaaDoor
abbrev St := Nat × Nat × Nat × Nat
def mK : List Nat := [3614090360, 3905402710, 606105819, 3250441966, 4118548399, 1200080426, 2821735955, 4249261313, 1770035416, 2336552879, 4294925233, 2304563134, 1804603682, 4254626195, 2792965006, 1236535329, 4129170786, 3225465664, 643717713, 3921069994, 3593408605, 38016083, 3634488961, 3889429448, 568446438, 3275163606, 4107603335, 1163531501, 2850285829, 4243563512, 1735328473, 2368359562, 4294588738, 2272392833, 1839030562, 4259657740, 2763975236, 1272893353, 4139469664, 3200236656, 681279174, 3936430074, 3572445317, 76029189, 3654602809, 3873151461, 530742520, 3299628645, 4096336452, 1126891415, 2878612391, 4237533241, 1700485571, 2399980690, 4293915773, 2240044497, 1873313359, 4264355552, 2734768916, 1309151649, 4149444226, 3174756917, 718787259, 3951481745]
def mSl : List Nat := [7, 12, 17, 22, 5, 9, 14, 20, 4, 11, 16, 23, 6, 10, 15, 21]
def mS (i : Nat) : Nat := mSl.getD (i / 16 * 4 + i % 4) 0
def mF (i b c d : Nat) : Nat :=
  if i / 16 = 0 then (b &&& c) ||| ((4294967295 - b) &&& d) else if i / 16 = 1 then (b &&& d) ||| (c &&& (4294967295 - d)) else if i / 16 = 2 then b ^^^ c ^^^ d else c ^^^ (b ||| (4294967295 - d))
def mG (i : Nat) : Nat := if i / 16 = 0 then i else if i / 16 = 1 then (5 * i + 1) % 16 else if i / 16 = 2 then (3 * i + 5) % 16 else 7 * i % 16
def rot (x k : Nat) : Nat := (x * 2 ^ k % 4294967296) ||| (x / 2 ^ (32 - k))
def mSum (ws : List Nat) (i : Nat) (s : St) : Nat := (s.1 + mF i s.2.1 s.2.2.1 s.2.2.2 + mK.getD i 0 + ws.getD (mG i) 0) % 4294967296
def mStep (ws : List Nat) (i : Nat) (s : St) : St := (s.2.2.2, (s.2.1 + rot (mSum ws i s) (mS i)) % 4294967296, s.2.1, s.2.2.1)
def mRun (ws : List Nat) (s : St) : Nat → St
  | 0 => s
  | k + 1 => mStep ws k (mRun ws s k)
def Lt32 (s : St) : Prop := s.1 < 4294967296 ∧ s.2.1 < 4294967296 ∧ s.2.2.1 < 4294967296 ∧ s.2.2.2 < 4294967296
theorem mStep_lt (ws : List Nat) (i : Nat) (s : St) (h : Lt32 s) : Lt32 (mStep ws i s) := ⟨h.2.2.2, Nat.mod_lt _ (by decide), h.2.1, h.2.2.1⟩
theorem mRun_lt (ws : List Nat) (s : St) (h : Lt32 s) : ∀ k, Lt32 (mRun ws s k)
  | 0 => h
  | k + 1 => mStep_lt ws k _ (mRun_lt ws s h k)
def mAdd (s t : St) : St := ((s.1 + t.1) % 4294967296, (s.2.1 + t.2.1) % 4294967296, (s.2.2.1 + t.2.2.1) % 4294967296, (s.2.2.2 + t.2.2.2) % 4294967296)
def mStir (s : St) (ws : List Nat) : St := mAdd s (mRun ws s 64)
theorem mStir_lt (s : St) (ws : List Nat) : Lt32 (mStir s ws) := ⟨Nat.mod_lt _ (by decide), Nat.mod_lt _ (by decide), Nat.mod_lt _ (by decide), Nat.mod_lt _ (by decide)⟩
/-- word j, as far as the first i bytes tell it -/
def wAt (l : List UInt8) (i j : Nat) : Nat :=
  (if 4 * j < i then (l.getD (4 * j) 0).toNat else 0) + (if 4 * j + 1 < i then (l.getD (4 * j + 1) 0).toNat * 256 else 0) + (if 4 * j + 2 < i then (l.getD (4 * j + 2) 0).toNat * 65536 else 0) + (if 4 * j + 3 < i then (l.getD (4 * j + 3) 0).toNat * 16777216 else 0)
def wRow (l : List UInt8) (i : Nat) : List Nat := (List.range 16).map (wAt l i)
def wordsL (l : List UInt8) : List Nat := wRow l 64
theorem wRow_len (l : List UInt8) (i : Nat) : (wRow l i).length = 16 := by simp [wRow]
theorem wRow_0 (l : List UInt8) : wRow l 0 = List.replicate 16 0 := by
  have : wAt l 0 = fun _ => 0 := by funext j; simp [wAt]
  unfold wRow
  rw [this]; rfl
theorem wAt_lt (l : List UInt8) (i j : Nat) : wAt l i j < 4294967296 := by
  unfold wAt
  have h0 := (l.getD (4 * j) 0).toNat_lt
  have h1 := (l.getD (4 * j + 1) 0).toNat_lt
  have h2 := (l.getD (4 * j + 2) 0).toNat_lt
  have h3 := (l.getD (4 * j + 3) 0).toNat_lt
  repeat' split
  all_goals omega
/-- a byte more -/
theorem wAt_step (l : List UInt8) (i : Nat) : wAt l (i + 1) (i / 4) = wAt l i (i / 4) + (l.getD i 0).toNat * 2 ^ (8 * (i % 4)) ∧ wAt l i (i / 4) < 2 ^ (8 * (i % 4)) := by
  obtain ⟨q, r, hr, rfl⟩ : ∃ q r, r < 4 ∧ i = 4 * q + r := ⟨i / 4, i % 4, Nat.mod_lt _ (by decide), by omega⟩
  have e1 : (4 * q + r) / 4 = q := by omega
  have e2 : (4 * q + r) % 4 = r := by omega
  rw [e1, e2]
  have h0 := (l.getD (4 * q) 0).toNat_lt
  have h1 := (l.getD (4 * q + 1) 0).toNat_lt
  have h2 := (l.getD (4 * q + 2) 0).toNat_lt
  unfold wAt
  generalize hb0 : (l.getD (4 * q) 0).toNat = b0 at *
  generalize hb1 : (l.getD (4 * q + 1) 0).toNat = b1 at *
  generalize hb2 : (l.getD (4 * q + 2) 0).toNat = b2 at *
  generalize hb3 : (l.getD (4 * q + 3) 0).toNat = b3 at *
  match r, hr with
  | 0, _ =>
    rw [if_pos (show 4 * q < 4 * q + 0 + 1 by omega), if_neg (show ¬ 4 * q + 1 < 4 * q + 0 + 1 by omega), if_neg (show ¬ 4 * q + 2 < 4 * q + 0 + 1 by omega), if_neg (show ¬ 4 * q + 3 < 4 * q + 0 + 1 by omega), if_neg (show ¬ 4 * q < 4 * q + 0 by omega), if_neg (show ¬ 4 * q + 1 < 4 * q + 0 by omega), if_neg (show ¬ 4 * q + 2 < 4 * q + 0 by omega), if_neg (show ¬ 4 * q + 3 < 4 * q + 0 by omega)]
    constructor
    · rw [show (l.getD (4 * q + 0) 0).toNat = b0 from hb0]; omega
    · omega
  | 1, _ =>
    rw [if_pos (show 4 * q < 4 * q + 1 + 1 by omega), if_pos (show 4 * q + 1 < 4 * q + 1 + 1 by omega), if_neg (show ¬ 4 * q + 2 < 4 * q + 1 + 1 by omega), if_neg (show ¬ 4 * q + 3 < 4 * q + 1 + 1 by omega), if_pos (show 4 * q < 4 * q + 1 by omega), if_neg (show ¬ 4 * q + 1 < 4 * q + 1 by omega), if_neg (show ¬ 4 * q + 2 < 4 * q + 1 by omega), if_neg (show ¬ 4 * q + 3 < 4 * q + 1 by omega)]
    constructor
    · rw [show (l.getD (4 * q + 1) 0).toNat = b1 from hb1]; omega
    · omega
  | 2, _ =>
    rw [if_pos (show 4 * q < 4 * q + 2 + 1 by omega), if_pos (show 4 * q + 1 < 4 * q + 2 + 1 by omega), if_pos (show 4 * q + 2 < 4 * q + 2 + 1 by omega), if_neg (show ¬ 4 * q + 3 < 4 * q + 2 + 1 by omega), if_pos (show 4 * q < 4 * q + 2 by omega), if_pos (show 4 * q + 1 < 4 * q + 2 by omega), if_neg (show ¬ 4 * q + 2 < 4 * q + 2 by omega), if_neg (show ¬ 4 * q + 3 < 4 * q + 2 by omega)]
    constructor
    · rw [show (l.getD (4 * q + 2) 0).toNat = b2 from hb2]; omega
    · omega
  | 3, _ =>
    rw [if_pos (show 4 * q < 4 * q + 3 + 1 by omega), if_pos (show 4 * q + 1 < 4 * q + 3 + 1 by omega), if_pos (show 4 * q + 2 < 4 * q + 3 + 1 by omega), if_pos (show 4 * q + 3 < 4 * q + 3 + 1 by omega), if_pos (show 4 * q < 4 * q + 3 by omega), if_pos (show 4 * q + 1 < 4 * q + 3 by omega), if_pos (show 4 * q + 2 < 4 * q + 3 by omega), if_neg (show ¬ 4 * q + 3 < 4 * q + 3 by omega)]
    constructor
    · rw [show (l.getD (4 * q + 3) 0).toNat = b3 from hb3]; omega
    · omega
theorem wAt_other (l : List UInt8) (i j : Nat) (h : j ≠ i / 4) : wAt l (i + 1) j = wAt l i j := by
  have a0 : (4 * j < i + 1) = (4 * j < i) := by apply propext; omega
  have a1 : (4 * j + 1 < i + 1) = (4 * j + 1 < i) := by apply propext; omega
  have a2 : (4 * j + 2 < i + 1) = (4 * j + 2 < i) := by apply propext; omega
  have a3 : (4 * j + 3 < i + 1) = (4 * j + 3 < i) := by apply propext; omega
  unfold wAt
  simp only [a0, a1, a2, a3]
theorem wRow_step (l : List UInt8) (i : Nat) : (wRow l i).set (i / 4) (wAt l i (i / 4) ||| (l.getD i 0).toNat * 2 ^ (8 * (i % 4))) = wRow l (i + 1) := by
  obtain ⟨s1, s2⟩ := wAt_step l i
  have e : wAt l i (i / 4) ||| (l.getD i 0).toNat * 2 ^ (8 * (i % 4)) = wAt l (i + 1) (i / 4) := by
    rw [Nat.or_comm, nat_join _ _ _ s2, s1, Nat.add_comm]
  rw [e]
  apply List.ext_getElem
  · simp [wRow]
  · intro j h1 h2
    simp only [wRow, List.getElem_set, List.getElem_map, List.getElem_range]
    split
    · rename_i hj; rw [hj]
    · rename_i hj; rw [wAt_other l i j (fun e => hj e.symm)]
def stirsTo (s : St) (l : List UInt8) : Nat → St
  | 0 => s
  | i + 1 => mStir (stirsTo s l i) (wordsL ((l.drop (64 * i)).take 64))
theorem stirsTo_lt (s : St) (l : List UInt8) (h : Lt32 s) : ∀ i, Lt32 (stirsTo s l i)
  | 0 => h
  | _ + 1 => mStir_lt _ _
theorem stirsTo_front (s : St) (x y : List UInt8) : ∀ i, 64 * i ≤ x.length → stirsTo s (x ++ y) i = stirsTo s x i
  | 0, _ => rfl
  | i + 1, h => by
    simp only [stirsTo]
    rw [stirsTo_front s x y i (by omega), List.drop_append_of_le_length (by omega), List.take_append_of_le_length (by rw [List.length_drop]; omega)]
theorem stirsTo_app (s : St) (x y : List UInt8) (m : Nat) (hx : x.length = 64 * m) : ∀ j, stirsTo s (x ++ y) (m + j) = stirsTo (stirsTo s x m) y j
  | 0 => stirsTo_front s x y m (by omega)
  | j + 1 => by
    show mStir (stirsTo s (x ++ y) (m + j)) _ = mStir _ _
    rw [stirsTo_app s x y m hx j]
    have e : (x ++ y).drop (64 * (m + j)) = y.drop (64 * j) := by
      rw [List.drop_append, List.drop_eq_nil_of_le (by omega), List.nil_append, show 64 * (m + j) - x.length = 64 * j from by omega]
    show mStir _ (wordsL (((x ++ y).drop (64 * (m + j))).take 64)) = _
    rw [e]
def mInit : St := (1732584193, 4023233417, 2562383102, 271733878)
/-- four bytes, the lowest first -/
def le4 (n : Nat) : List UInt8 := [UInt8.ofNat (n % 256), UInt8.ofNat (n / 256 % 256), UInt8.ofNat (n / 65536 % 256), UInt8.ofNat (n / 16777216 % 256)]
def mZeros (n : Nat) : Nat := (119 - n) % 64
/-- what stands behind a text of n bytes -/
def mTail (n : Nat) : List UInt8 := 128 :: (List.replicate ((119 - n % 64) % 64) 0 ++ le4 (n * 8 % 4294967296) ++ le4 (n * 8 / 4294967296 % 4294967296))
def outM (s : St) : List UInt8 := le4 s.1 ++ le4 s.2.1 ++ le4 s.2.2.1 ++ le4 s.2.2.2
def md5L (l : List UInt8) : List UInt8 := outM (stirsTo mInit (l ++ mTail l.length) ((l ++ mTail l.length).length / 64))
end Go.Proofs.YtoponmdfjbhnoaaDoor
