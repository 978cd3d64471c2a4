/- Several texts in one: Plain vocabulary of the texts of this seat: strings as lists of bytes. No program stands in it.  | More plain vocabulary: blocks of bytes in any world.  | Numbers in bytes, the highest first. No program stands in it.  | The table of heads: op, name, flags, fields (name, where it begins, how many bytes). No program stands in it.  | Heads as lists of bytes and numbers: what is right, what a field has, what is made, written, read. No function of the program is walked here.  | Heads: what is written is read; what must be 0. No function of the program is walked here.  | CRC-32C as plain numbers: bit by bit, byte by byte; that both come to the same. No program stands in it.  | CRC-32C sees bits that are turned within thirty-two. No program stands in it.  | An error by its number.  | Contracts of field.Put.  | Contracts of field.Get.  | Contracts of package field: Pad, zeros, Padded, Unpad.  | field.Unpad as one total function.  | Additional headers as bytes: how they are written, what is wrong with them, what bytes are. No program stands in it.  -/
import Derived.WalkKit
import Derived.WalkSpells
import Derived.WalkLawsBesides
import Derived.Below
import Derived.Lib.Hide
import Derived.Laws.BitsAllLaws
import Derived.Lib.Strings
import Derived.Outline
import Derived.BigQuiet
import Derived.Deep.QuietTactic
import Derived.Deep.RegionWith
import Derived.Deep.LoopGhost
import Derived.Deep.DeepFit
import Derived.Test.YtlkikkfbennmnaaGreatDoorRows
namespace Go.Proofs.YtlkikkfbennmnaaGreatDoor
open Go.RowKit

/-- a string of these bytes -/
def S (l : List UInt8) : ByteArray := ⟨l.toArray⟩
@[go_sem] theorem S_size (l : List UInt8) : (S l).size = l.length := by simp [S, ByteArray.size]
@[go_sem] theorem S_append (a b : List UInt8) : S a ++ S b = S (a ++ b) := by apply ByteArray.ext; simp [S]
@[go_sem] theorem S_extract (l : List UInt8) (a b : Nat) : (S l).extract a b = S ((l.drop a).take (b - a)) := ByteArray.extract_mk l a b
@[go_sem] theorem S_toList (l : List UInt8) : (S l).toList = l := by rw [Lib.toList_data]; simp [S]
@[go_sem] theorem S_mk (l : List UInt8) : ByteArray.mk l.toArray = S l := rfl
@[go_sem] theorem S_get (l : List UInt8) (i : Nat) (h : i < (S l).size) : (S l)[i]'h = l[i]'(by rw [S_size] at h; exact h) := by simp [S, ByteArray.getElem_eq_getElem_data]
theorem S_of (s : ByteArray) : ∃ l, s = S l := ⟨s.data.toList, by apply ByteArray.ext; simp [S]⟩
theorem S_inj {a b : List UInt8} (h : S a = S b) : a = b := by have := congrArg ByteArray.toList h; simpa [S_toList] using this
theorem ret_int {k : IntKind} {a b : Int} (h : a = b) : Ending.returned (.int k a) = .returned (.int k b) := by rw [h]
theorem ret_S {a b : List UInt8} (h : a = b) : Ending.returned (.string (S a)) = .returned (.string (S b)) := by rw [h]
theorem below_drewN {B : Nat} {a w : World} (h : Below B a w) (n : Nat) : Below B a (w.drewN n) := ⟨h.os, h.tape, h.output, h.size, h.block⟩
theorem quiet_add_left {P : Program} {f : FuncId} {args : Array Value} {w : World} {a n : Nat} {v : Value}
    (h : Calls P f args (w.drewN (a + n)) fun e w' => e = .returned v ∧ w.drewN (a + n) = w') :
    Calls P f args (w.drewN (a + n)) fun e w'' => e = .returned v ∧ ∃ m, w'' = w.drewN (a + m) :=
  h.mono fun _ _ ⟨he, hm⟩ => ⟨he, n, hm.symm⟩
theorem quiet_left {P : Program} {f : FuncId} {args : Array Value} {w : World} {n : Nat} {v : Value}
    (h : Calls P f args (w.drewN n) fun e w' => e = .returned v ∧ w.drewN n = w') : Calls P f args (w.drewN n) fun e w'' => e = .returned v ∧ ∃ m, w'' = w.drewN m :=
  h.mono fun _ _ ⟨he, hm⟩ => ⟨he, n, hm.symm⟩
theorem bcell {W w1 : World} (hb : Below W.heap.size W w1) : (∀ b o, b < W.heap.size → w1.cell? ⟨b, o, none⟩ = W.cell? ⟨b, o, none⟩) ∧ (∀ b o, b < W.heap.size → w1.frozen? ⟨b, o, none⟩ = W.frozen? ⟨b, o, none⟩) :=
  ⟨fun b o h => hb.cell (p := ⟨b, o, none⟩) h, fun b o h => hb.frozen (p := ⟨b, o, none⟩) h⟩
/-- cells of bytes -/
def cells8 (l : List UInt8) : Array Value := (l.map fun b => Value.int .u8 (b.toNat : Int)).toArray
@[go_sem] theorem cells8_size (l : List UInt8) : (cells8 l).size = l.length := by simp [cells8]
theorem cells8_set (l : List UInt8) (i : Nat) (b : UInt8) : (cells8 l).setIfInBounds i (.int .u8 (b.toNat : Int)) = cells8 (l.set i b) := by
  simp [cells8, List.map_set]
theorem cells8_get (l : List UInt8) (i : Nat) (h : i < l.length) : (cells8 l)[i]? = some (.int .u8 (l[i].toNat : Int)) := by
  simp [cells8, List.getElem?_eq_getElem h]
theorem run_string_mark {P : Program} (src dst e : TypeId) (hs : P.underlying src = some (.slice e)) (he : P.underlying e = some (.int .u8)) (hd : P.underlying dst = some .string)
    (w : World) (l : List UInt8) (n c : Nat) (t : TypeId) (fr : Nat × Nat) (hn : n ≤ l.length) :
    (convert src dst (.slice (some ⟨w.heap.size, 0, none⟩) n c)).run P (w.alloc (.cells (cells8 l) t fr)) = .ok (.string (S (l.take n))) (w.alloc (.cells (cells8 l) t fr)) := by
  have hl : (l.take n).length = n := by simp; omega
  have h := run_convert_bytes_back (P := P) (w.alloc (.cells (cells8 l) t fr)) src dst e ⟨w.heap.size, 0, none⟩ c (l.take n) hs he hd (fun j hj => by
    have hj' : j < l.length := by omega
    have e1 : (⟨w.heap.size, 0, none⟩ : Addr).add j = ⟨w.heap.size, j, none⟩ := by simp [Addr.add]; omega
    rw [e1, World.cell?_alloc_mark, cells8_get l j hj']
    simp [List.getElem_take])
  rw [hl] at h
  exact h
theorem run_string_cells8 {P : Program} (src dst e : TypeId) (hs : P.underlying src = some (.slice e)) (he : P.underlying e = some (.int .u8)) (hd : P.underlying dst = some .string)
    (w : World) (l : List UInt8) (n c : Nat) (t : TypeId) (hn : n ≤ l.length) :
    (convert src dst (.slice (some ⟨w.heap.size, 0, none⟩) n c)).run P (w.alloc (.cells (cells8 l) t)) = .ok (.string (S (l.take n))) (w.alloc (.cells (cells8 l) t)) :=
  run_string_mark src dst e hs he hd w l n c t (0, 0) hn
/-- the same in any world whose cells there are these bytes -/
theorem run_string_at {P : Program} (src dst e : TypeId) (hs : P.underlying src = some (.slice e)) (he : P.underlying e = some (.int .u8)) (hd : P.underlying dst = some .string)
    (w : World) (b o : Nat) (l : List UInt8) (c : Nat) (hc : ∀ j (hj : j < l.length), w.cell? ⟨b, o + j, none⟩ = some (.int .u8 (l[j].toNat : Int))) :
    (convert src dst (.slice (some ⟨b, o, none⟩) l.length c)).run P w = .ok (.string (S l)) w :=
  run_convert_bytes_back (P := P) w src dst e ⟨b, o, none⟩ c l hs he hd (fun j hj => by
    have e1 : (⟨b, o, none⟩ : Addr).add j = ⟨b, o + j, none⟩ := by simp [Addr.add]
    rw [e1]; exact hc j hj)
/-- a string's bytes in new memory -/
theorem run_bytes_S {P : Program} (src dst e : TypeId) (hs : P.underlying src = some .string) (hd : P.underlying dst = some (.slice e)) (he : P.underlying e = some (.int .u8)) (w : World) (l : List UInt8) :
    ∃ cap, l.length ≤ cap ∧ (l.length ≤ maxLen → cap ≤ maxLen) ∧ (convert src dst (.string (S l))).run P w = .ok (.slice (some ⟨w.heap.size, 0, none⟩) l.length cap) (w.alloc (.cells (cells8 (l ++ List.replicate (cap - l.length) 0)) e (cap, cap + 1))).drew := by
  have h := run_bytes_of_string (P := P) w src dst e (S l) hs hd he
  have hge := grownCap_ge w (S l).size 0 e
  have hle := grownCap_le_maxLen w (S l).size 0 e
  generalize grownCap w (S l).size 0 e = cap at h hge hle
  rw [S_size] at hge hle h
  have e1 : bytesRow (S l) cap = cells8 (l ++ List.replicate (cap - l.length) 0) := by
    unfold bytesRow cells8
    rw [S_size]
    simp [S]
  have e2 : (cells8 (l ++ List.replicate (cap - l.length) 0)).size = cap := by simp [cells8_size]; omega
  rw [e1, e2] at h
  exact ⟨cap, hge, hle, h⟩
theorem setCell_mark (w : World) (C : Array Value) (t : TypeId) (fr : Nat × Nat) (i : Nat) (v : Value) : (w.alloc (.cells C t fr)).setCell ⟨w.heap.size, i, none⟩ v = w.alloc (.cells (C.setIfInBounds i v) t fr) := by
  have hm : ∀ (a : Array Obj) (x : Obj) (f : Obj → Obj), (a.push x).modify a.size f = a.push (f x) := by
    intro a x f
    apply Array.ext
    · simp
    · intro i h1 h2
      simp only [Array.getElem_modify, Array.getElem_push]
      by_cases h : a.size = i
      · subst h
        simp
      · have hi : i < a.size := by simp at h1; omega
        simp [h, hi]
  unfold World.setCell
  show ({ w.alloc (.cells C t fr) with heap := (w.heap.push (.cells C t fr)).modify w.heap.size _ } : World) = _
  rw [hm]
  rfl
theorem wrap_u64_lt (n : Nat) (h : n < 18446744073709551616) : IntKind.u64.wrap (n : Int) = n := by
  have e : (2 : Int) ^ IntKind.u64.bits = 18446744073709551616 := by decide
  have s : IntKind.u64.signed = false := rfl
  unfold IntKind.wrap
  simp only [e, s, Bool.false_and, Bool.false_eq_true, if_false]
  omega
theorem shl_or8 (v b : Nat) (hb : b < 256) (hv : v * 256 + b < 18446744073709551616) :
    bits .or .u64 (IntKind.u64.wrap ((v : Int) * 256)) (IntKind.u64.wrap (b : Int)) = ((v * 256 + b : Nat) : Int) := by
  have e : (v : Int) * 256 = ((v * 256 : Nat) : Int) := by omega
  have h1 : v * 256 < 18446744073709551616 := Nat.lt_of_le_of_lt (Nat.le_add_right _ _) hv
  have h2 : b < 18446744073709551616 := Nat.lt_of_le_of_lt (Nat.le_add_left _ _) hv
  rw [e, wrap_u64_lt (v * 256) h1, wrap_u64_lt b h2, u64_or_nat _ _ h1 h2]
  have h := Nat.shiftLeft_add_eq_or_of_lt (b := b) (i := 8) hb v
  rw [Nat.shiftLeft_eq] at h
  have e2 : v * 2 ^ 8 = v * 256 := rfl
  rw [e2] at h
  rw [h]
theorem below_then {w w1 w2 : World} (h : Below w.heap.size w w1) (k : Below w1.heap.size w1 w2) : Below w.heap.size w w2 := h.trans (k.mono h.size)
theorem below_drawn {w : World} (n : Nat) : Below w.heap.size w (w.drewN n) := below_drewN (Below.refl _ _) n
theorem u8_mod (x : Nat) : (UInt8.ofNat (x % 256)).toNat = x % 256 := by rw [UInt8.toNat_ofNat']; omega
theorem byte_cast (n k : Nat) : ((UInt8.ofNat (n / 2 ^ (8 * k) % 256)).toNat : Int) = (n : Int) / 2 ^ (8 * k) % 256 := by
  rw [u8_mod, Int.natCast_emod, Int.natCast_ediv, Int.natCast_pow]; rfl
theorem run_string_new1 {P : Program} (src dst e : TypeId) (hs : P.underlying src = some (.slice e)) (he : P.underlying e = some (.int .u8)) (hd : P.underlying dst = some .string)
    (w : World) (n : Nat) (t : TypeId) :
    (convert src dst (.slice (some ⟨w.heap.size, 0, none⟩) 1 1)).run P (w.alloc (.cells #[.int .u8 ((n : Int) % 256)] t)) = .ok (.string (S [UInt8.ofNat (n % 256)])) (w.alloc (.cells #[.int .u8 ((n : Int) % 256)] t)) := by
  have h := run_string_cells8 src dst e hs he hd w [UInt8.ofNat (n % 256)] 1 1 t (by simp)
  have e1 : cells8 [UInt8.ofNat (n % 256)] = #[.int .u8 ((n : Int) % 256)] := by
    unfold cells8
    simp only [List.map_cons, List.map_nil, u8_mod, Int.natCast_emod]; rfl
  rw [e1] at h
  exact h
end Go.Proofs.YtlkikkfbennmnaaGreatDoor
namespace Go.Proofs.YtlkikkfbennmnaaGreatDoor
open Go.RowKit
/-- block b holds these bytes -/
def BytesAt (W : World) (b : Nat) (l : List UInt8) : Prop := ∀ j, W.cell? ⟨b, j, none⟩ = (cells8 l)[j]?
theorem bytesAt_new (w : World) (l : List UInt8) (t : TypeId) (fr : Nat × Nat) : BytesAt (w.alloc (.cells (cells8 l) t fr)) w.heap.size l := fun j => World.cell?_alloc_mark w _ t fr j
theorem bytesAt_drew {W : World} {b : Nat} {l : List UInt8} (h : BytesAt W b l) : BytesAt W.drew b l := h
theorem bytesAt_drewN {W : World} {b : Nat} {l : List UInt8} (h : BytesAt W b l) (n : Nat) : BytesAt (W.drewN n) b l := h
theorem bytesAt_later {W W' : World} {b : Nat} {l : List UInt8} (h : BytesAt W b l) (hb : Below W.heap.size W W') (hlt : b < W.heap.size) : BytesAt W' b l := fun j => by
  rw [(bcell hb).1 b j hlt]; exact h j
theorem bytesAt_get {W : World} {b : Nat} {l : List UInt8} (h : BytesAt W b l) (j : Nat) (hj : j < l.length) : W.cell? ⟨b, j, none⟩ = some (.int .u8 (l[j].toNat : Int)) := by
  rw [h j, cells8_get l j hj]
theorem run_string_cells {P : Program} (src dst e : TypeId) (hs : P.underlying src = some (.slice e)) (he : P.underlying e = some (.int .u8)) (hd : P.underlying dst = some .string)
    {W : World} {b : Nat} {l : List UInt8} (h : BytesAt W b l) (n c : Nat) (hn : n ≤ l.length) :
    (convert src dst (.slice (some ⟨b, 0, none⟩) n c)).run P W = .ok (.string (S (l.take n))) W := by
  have hl : (l.take n).length = n := by simp; omega
  have h := run_convert_bytes_back (P := P) W src dst e ⟨b, 0, none⟩ c (l.take n) hs he hd (fun j hj => by
    have hj' : j < l.length := by omega
    have e1 : (⟨b, 0, none⟩ : Addr).add j = ⟨b, j, none⟩ := by simp [Addr.add]; omega
    rw [e1, bytesAt_get h j hj']
    simp [List.getElem_take])
  rw [hl] at h
  exact h
end Go.Proofs.YtlkikkfbennmnaaGreatDoor
namespace Go.Proofs.YtlkikkfbennmnaaGreatDoor
open Go.RowKit
/-- n bytes of 0 -/
def zs (n : Nat) : List UInt8 := List.replicate n 0
@[go_sem] theorem zs_len (n : Nat) : (zs n).length = n := by simp [zs]
theorem take_zs (n : Nat) (h : n ≤ 3) : List.take n [0, 0, 0] = zs n := by
  match n, h with
  | 0, _ => rfl
  | 1, _ => rfl
  | 2, _ => rfl
  | 3, _ => rfl
/-- n in so many bytes, the highest first -/
def be (n : Nat) : Nat → List UInt8
  | 0 => []
  | k + 1 => UInt8.ofNat (n / 2 ^ (8 * k) % 256) :: be n k
theorem be_len (n k : Nat) : (be n k).length = k := by induction k <;> simp [be, *]
/-- what stands in the eight bytes behind k rounds -/
def putRow (n size k : Nat) : List UInt8 := zs (size - k) ++ be n k ++ zs (8 - size)
theorem putRow_len (n size k : Nat) (hk : k ≤ size) (h : size ≤ 8) : (putRow n size k).length = 8 := by
  simp only [putRow, List.length_append, zs_len, be_len]; omega
theorem putRow_0 (n size : Nat) (h : size ≤ 8) : putRow n size 0 = zs 8 := by
  simp only [putRow, be, zs, List.append_nil, List.replicate_append_replicate]; congr 1; omega
theorem putRow_step (n size k : Nat) (hk : k < size) : (putRow n size k).set (size - 1 - k) (UInt8.ofNat (n / 2 ^ (8 * k) % 256)) = putRow n size (k + 1) := by
  unfold putRow
  obtain ⟨d, hd⟩ : ∃ d, size - k = d + 1 := ⟨size - k - 1, by omega⟩
  have e1 : size - 1 - k = d := by omega
  have e2 : size - (k + 1) = d := by omega
  rw [hd, e1, e2]
  have hz : zs (d + 1) = zs d ++ [0] := by simp [zs, List.replicate_succ']
  rw [hz, List.append_assoc, List.append_assoc, List.set_append_right _ _ (by simp [zs])]
  simp [zs, be]
/-- the number that bytes are, the highest first -/
def val (l : List UInt8) : Nat := l.foldl (fun n b => n * 256 + b.toNat) 0
theorem val_snoc (l : List UInt8) (b : UInt8) : val (l ++ [b]) = val l * 256 + b.toNat := by simp [val]
theorem val_lt : ∀ (n : Nat) (l : List UInt8), l.length = n → val l < 256 ^ n
  | 0, l, h => by
    have : l = [] := List.length_eq_zero_iff.1 h
    subst this; decide
  | n + 1, l, h => by
    rcases List.eq_nil_or_concat l with rfl | ⟨m, b, rfl⟩
    · simp at h
    · rw [List.concat_eq_append, val_snoc]
      have hm : m.length = n := by simpa using h
      have := val_lt n m hm
      have hb := b.toNat_lt
      rw [Nat.pow_succ]; omega
theorem take_succ_snoc (l : List UInt8) (k : Nat) (h : k < l.length) : l.take (k + 1) = l.take k ++ [l[k]] := by
  rw [List.take_succ_eq_append_getElem h]
theorem val_cons (b : UInt8) (l : List UInt8) : val (b :: l) = b.toNat * 256 ^ l.length + val l := by
  have h : ∀ (l : List UInt8) (n : Nat), l.foldl (fun n b => n * 256 + b.toNat) n = n * 256 ^ l.length + val l := by
    intro l
    induction l with
    | nil => intro n; simp [val]
    | cons c l ih =>
      intro n
      have e : val (c :: l) = l.foldl (fun n b => n * 256 + b.toNat) (0 * 256 + c.toNat) := rfl
      rw [List.foldl_cons, ih, e, ih, List.length_cons, Nat.pow_succ]
      rw [Nat.zero_mul, Nat.zero_add, Nat.add_mul, Nat.mul_assoc, Nat.mul_comm 256, Nat.add_assoc]
  show l.foldl (fun n b => n * 256 + b.toNat) (0 * 256 + b.toNat) = _
  rw [h l (0 * 256 + b.toNat), Nat.zero_mul, Nat.zero_add]
theorem val_be' (n : Nat) : ∀ k, val (be n k) = n % 256 ^ k
  | 0 => by simp [be, val, Nat.mod_one]
  | k + 1 => by
    show val (_ :: be n k) = _
    rw [val_cons, val_be' n k, be_len, u8_mod, Nat.pow_mul, show (2 : Nat) ^ 8 = 256 from rfl, Nat.pow_succ, Nat.mod_mul, Nat.mul_comm (256 ^ k), Nat.add_comm]
theorem val_be (n k : Nat) (h : n < 2 ^ (8 * k)) : val (be n k) = n := by
  rw [val_be', Nat.mod_eq_of_lt]
  rw [Nat.pow_mul] at h; exact h
theorem be_val : ∀ (l : List UInt8), be (val l) l.length = l
  | [] => rfl
  | b :: l => by
    have hl := val_lt l.length l rfl
    have hb := b.toNat_lt
    have e1 : val (b :: l) / 2 ^ (8 * l.length) % 256 = b.toNat := by
      rw [val_cons, Nat.pow_mul, show (2 : Nat) ^ 8 = 256 from rfl, Nat.add_comm, Nat.add_mul_div_right _ _ (Nat.pow_pos (by decide)), Nat.div_eq_of_lt hl, Nat.zero_add, Nat.mod_eq_of_lt hb]
    have e2 : ∀ (k : Nat), k ≤ l.length → be (val (b :: l)) k = be (val l) k := by
      intro k
      induction k with
      | zero => intro _; rfl
      | succ k ih =>
        intro hk
        show _ :: _ = _ :: _
        rw [ih (by omega)]
        congr 2
        rw [val_cons, Nat.pow_mul, show (2 : Nat) ^ 8 = 256 from rfl]
        obtain ⟨d, hd⟩ : ∃ d, l.length = k + 1 + d := ⟨l.length - (k + 1), by omega⟩
        rw [hd, Nat.pow_add, Nat.pow_succ, show b.toNat * (256 ^ k * 256 * 256 ^ d) = (b.toNat * 256 ^ d) * 256 * 256 ^ k from by ac_rfl]
        rw [Nat.add_comm, Nat.add_mul_div_right _ _ (Nat.pow_pos (by decide)), Nat.add_mul_mod_self_right]
    show _ :: _ = _
    rw [e1, e2 l.length (Nat.le_refl _), be_val l]
    simp
end Go.Proofs.YtlkikkfbennmnaaGreatDoor
namespace Go.Proofs.YtlkikkfbennmnaaGreatDoor
structure Fd where
  nm : List UInt8
  pos : Nat
  sz : Nat
  deriving DecidableEq
structure Kd where
  op : Nat
  nm : List UInt8
  fl : Nat
  fs : List Fd
  tx : List UInt8
/-- NopOut -/
def kd0 : Kd := ⟨0, [78, 111, 112, 79, 117, 116], 128,
  [⟨[76, 85, 78], 8, 8⟩, ⟨[73, 84, 84], 16, 4⟩, ⟨[84, 84, 84], 20, 4⟩, ⟨[67, 109, 100, 83, 78], 24, 4⟩, ⟨[69, 120, 112, 83, 116, 97, 116, 83, 78], 28, 4⟩],
  [76, 85, 78, 32, 56, 32, 56, 44, 32, 73, 84, 84, 32, 49, 54, 32, 52, 44, 32, 84, 84, 84, 32, 50, 48, 32, 52, 44, 32, 67, 109, 100, 83, 78, 32, 50, 52, 32, 52, 44, 32, 69, 120, 112, 83, 116, 97, 116, 83, 78, 32, 50, 56, 32, 52]⟩
/-- ScsiCommand -/
def kd1 : Kd := ⟨1, [83, 99, 115, 105, 67, 111, 109, 109, 97, 110, 100], 231,
  [⟨[76, 85, 78], 8, 8⟩, ⟨[73, 84, 84], 16, 4⟩, ⟨[76, 101, 110, 103, 116, 104], 20, 4⟩, ⟨[67, 109, 100, 83, 78], 24, 4⟩, ⟨[69, 120, 112, 83, 116, 97, 116, 83, 78], 28, 4⟩, ⟨[67, 100, 98, 65], 32, 8⟩, ⟨[67, 100, 98, 66], 40, 8⟩],
  [76, 85, 78, 32, 56, 32, 56, 44, 32, 73, 84, 84, 32, 49, 54, 32, 52, 44, 32, 76, 101, 110, 103, 116, 104, 32, 50, 48, 32, 52, 44, 32, 67, 109, 100, 83, 78, 32, 50, 52, 32, 52, 44, 32, 69, 120, 112, 83, 116, 97, 116, 83, 78, 32, 50, 56, 32, 52, 44, 32, 67, 100, 98, 65, 32, 51, 50, 32, 56, 44, 32, 67, 100, 98, 66, 32, 52, 48, 32, 56]⟩
/-- TaskRequest -/
def kd2 : Kd := ⟨2, [84, 97, 115, 107, 82, 101, 113, 117, 101, 115, 116], 255,
  [⟨[76, 85, 78], 8, 8⟩, ⟨[73, 84, 84], 16, 4⟩, ⟨[82, 101, 102, 84, 97, 103], 20, 4⟩, ⟨[67, 109, 100, 83, 78], 24, 4⟩, ⟨[69, 120, 112, 83, 116, 97, 116, 83, 78], 28, 4⟩, ⟨[82, 101, 102, 67, 109, 100, 83, 78], 32, 4⟩, ⟨[69, 120, 112, 68, 97, 116, 97, 83, 78], 36, 4⟩],
  [76, 85, 78, 32, 56, 32, 56, 44, 32, 73, 84, 84, 32, 49, 54, 32, 52, 44, 32, 82, 101, 102, 84, 97, 103, 32, 50, 48, 32, 52, 44, 32, 67, 109, 100, 83, 78, 32, 50, 52, 32, 52, 44, 32, 69, 120, 112, 83, 116, 97, 116, 83, 78, 32, 50, 56, 32, 52, 44, 32, 82, 101, 102, 67, 109, 100, 83, 78, 32, 51, 50, 32, 52, 44, 32, 69, 120, 112, 68, 97, 116, 97, 83, 78, 32, 51, 54, 32, 52]⟩
/-- LoginRequest -/
def kd3 : Kd := ⟨3, [76, 111, 103, 105, 110, 82, 101, 113, 117, 101, 115, 116], 207,
  [⟨[86, 101, 114, 115, 105, 111, 110, 77, 97, 120], 2, 1⟩, ⟨[86, 101, 114, 115, 105, 111, 110, 77, 105, 110], 3, 1⟩, ⟨[73, 83, 73, 68], 8, 6⟩, ⟨[84, 83, 73, 72], 14, 2⟩, ⟨[73, 84, 84], 16, 4⟩, ⟨[67, 73, 68], 20, 2⟩, ⟨[67, 109, 100, 83, 78], 24, 4⟩, ⟨[69, 120, 112, 83, 116, 97, 116, 83, 78], 28, 4⟩],
  [86, 101, 114, 115, 105, 111, 110, 77, 97, 120, 32, 50, 32, 49, 44, 32, 86, 101, 114, 115, 105, 111, 110, 77, 105, 110, 32, 51, 32, 49, 44, 32, 73, 83, 73, 68, 32, 56, 32, 54, 44, 32, 84, 83, 73, 72, 32, 49, 52, 32, 50, 44, 32, 73, 84, 84, 32, 49, 54, 32, 52, 44, 32, 67, 73, 68, 32, 50, 48, 32, 50, 44, 32, 67, 109, 100, 83, 78, 32, 50, 52, 32, 52, 44, 32, 69, 120, 112, 83, 116, 97, 116, 83, 78, 32, 50, 56, 32, 52]⟩
/-- TextRequest -/
def kd4 : Kd := ⟨4, [84, 101, 120, 116, 82, 101, 113, 117, 101, 115, 116], 192,
  [⟨[76, 85, 78], 8, 8⟩, ⟨[73, 84, 84], 16, 4⟩, ⟨[84, 84, 84], 20, 4⟩, ⟨[67, 109, 100, 83, 78], 24, 4⟩, ⟨[69, 120, 112, 83, 116, 97, 116, 83, 78], 28, 4⟩],
  [76, 85, 78, 32, 56, 32, 56, 44, 32, 73, 84, 84, 32, 49, 54, 32, 52, 44, 32, 84, 84, 84, 32, 50, 48, 32, 52, 44, 32, 67, 109, 100, 83, 78, 32, 50, 52, 32, 52, 44, 32, 69, 120, 112, 83, 116, 97, 116, 83, 78, 32, 50, 56, 32, 52]⟩
/-- DataOut -/
def kd5 : Kd := ⟨5, [68, 97, 116, 97, 79, 117, 116], 128,
  [⟨[76, 85, 78], 8, 8⟩, ⟨[73, 84, 84], 16, 4⟩, ⟨[84, 84, 84], 20, 4⟩, ⟨[69, 120, 112, 83, 116, 97, 116, 83, 78], 28, 4⟩, ⟨[68, 97, 116, 97, 83, 78], 36, 4⟩, ⟨[79, 102, 102, 115, 101, 116], 40, 4⟩],
  [76, 85, 78, 32, 56, 32, 56, 44, 32, 73, 84, 84, 32, 49, 54, 32, 52, 44, 32, 84, 84, 84, 32, 50, 48, 32, 52, 44, 32, 69, 120, 112, 83, 116, 97, 116, 83, 78, 32, 50, 56, 32, 52, 44, 32, 68, 97, 116, 97, 83, 78, 32, 51, 54, 32, 52, 44, 32, 79, 102, 102, 115, 101, 116, 32, 52, 48, 32, 52]⟩
/-- LogoutRequest -/
def kd6 : Kd := ⟨6, [76, 111, 103, 111, 117, 116, 82, 101, 113, 117, 101, 115, 116], 255,
  [⟨[73, 84, 84], 16, 4⟩, ⟨[67, 73, 68], 20, 2⟩, ⟨[67, 109, 100, 83, 78], 24, 4⟩, ⟨[69, 120, 112, 83, 116, 97, 116, 83, 78], 28, 4⟩],
  [73, 84, 84, 32, 49, 54, 32, 52, 44, 32, 67, 73, 68, 32, 50, 48, 32, 50, 44, 32, 67, 109, 100, 83, 78, 32, 50, 52, 32, 52, 44, 32, 69, 120, 112, 83, 116, 97, 116, 83, 78, 32, 50, 56, 32, 52]⟩
/-- Snack -/
def kd7 : Kd := ⟨16, [83, 110, 97, 99, 107], 143,
  [⟨[76, 85, 78], 8, 8⟩, ⟨[73, 84, 84], 16, 4⟩, ⟨[84, 84, 84], 20, 4⟩, ⟨[69, 120, 112, 83, 116, 97, 116, 83, 78], 28, 4⟩, ⟨[66, 101, 103, 82, 117, 110], 40, 4⟩, ⟨[82, 117, 110, 76, 101, 110, 103, 116, 104], 44, 4⟩],
  [76, 85, 78, 32, 56, 32, 56, 44, 32, 73, 84, 84, 32, 49, 54, 32, 52, 44, 32, 84, 84, 84, 32, 50, 48, 32, 52, 44, 32, 69, 120, 112, 83, 116, 97, 116, 83, 78, 32, 50, 56, 32, 52, 44, 32, 66, 101, 103, 82, 117, 110, 32, 52, 48, 32, 52, 44, 32, 82, 117, 110, 76, 101, 110, 103, 116, 104, 32, 52, 52, 32, 52]⟩
/-- NopIn -/
def kd8 : Kd := ⟨32, [78, 111, 112, 73, 110], 128,
  [⟨[76, 85, 78], 8, 8⟩, ⟨[73, 84, 84], 16, 4⟩, ⟨[84, 84, 84], 20, 4⟩, ⟨[83, 116, 97, 116, 83, 78], 24, 4⟩, ⟨[69, 120, 112, 67, 109, 100, 83, 78], 28, 4⟩, ⟨[77, 97, 120, 67, 109, 100, 83, 78], 32, 4⟩],
  [76, 85, 78, 32, 56, 32, 56, 44, 32, 73, 84, 84, 32, 49, 54, 32, 52, 44, 32, 84, 84, 84, 32, 50, 48, 32, 52, 44, 32, 83, 116, 97, 116, 83, 78, 32, 50, 52, 32, 52, 44, 32, 69, 120, 112, 67, 109, 100, 83, 78, 32, 50, 56, 32, 52, 44, 32, 77, 97, 120, 67, 109, 100, 83, 78, 32, 51, 50, 32, 52]⟩
/-- ScsiResponse -/
def kd9 : Kd := ⟨33, [83, 99, 115, 105, 82, 101, 115, 112, 111, 110, 115, 101], 158,
  [⟨[82, 101, 115, 112, 111, 110, 115, 101], 2, 1⟩, ⟨[83, 116, 97, 116, 117, 115], 3, 1⟩, ⟨[73, 84, 84], 16, 4⟩, ⟨[83, 110, 97, 99, 107, 84, 97, 103], 20, 4⟩, ⟨[83, 116, 97, 116, 83, 78], 24, 4⟩, ⟨[69, 120, 112, 67, 109, 100, 83, 78], 28, 4⟩, ⟨[77, 97, 120, 67, 109, 100, 83, 78], 32, 4⟩, ⟨[69, 120, 112, 68, 97, 116, 97, 83, 78], 36, 4⟩, ⟨[66, 105, 100, 105, 82, 101, 115, 105, 100, 117, 97, 108], 40, 4⟩, ⟨[82, 101, 115, 105, 100, 117, 97, 108], 44, 4⟩],
  [82, 101, 115, 112, 111, 110, 115, 101, 32, 50, 32, 49, 44, 32, 83, 116, 97, 116, 117, 115, 32, 51, 32, 49, 44, 32, 73, 84, 84, 32, 49, 54, 32, 52, 44, 32, 83, 110, 97, 99, 107, 84, 97, 103, 32, 50, 48, 32, 52, 44, 32, 83, 116, 97, 116, 83, 78, 32, 50, 52, 32, 52, 44, 32, 69, 120, 112, 67, 109, 100, 83, 78, 32, 50, 56, 32, 52, 44, 32, 77, 97, 120, 67, 109, 100, 83, 78, 32, 51, 50, 32, 52, 44, 32, 69, 120, 112, 68, 97, 116, 97, 83, 78, 32, 51, 54, 32, 52, 44, 32, 66, 105, 100, 105, 82, 101, 115, 105, 100, 117, 97, 108, 32, 52, 48, 32, 52, 44, 32, 82, 101, 115, 105, 100, 117, 97, 108, 32, 52, 52, 32, 52]⟩
/-- TaskResponse -/
def kd10 : Kd := ⟨34, [84, 97, 115, 107, 82, 101, 115, 112, 111, 110, 115, 101], 128,
  [⟨[82, 101, 115, 112, 111, 110, 115, 101], 2, 1⟩, ⟨[73, 84, 84], 16, 4⟩, ⟨[83, 116, 97, 116, 83, 78], 24, 4⟩, ⟨[69, 120, 112, 67, 109, 100, 83, 78], 28, 4⟩, ⟨[77, 97, 120, 67, 109, 100, 83, 78], 32, 4⟩],
  [82, 101, 115, 112, 111, 110, 115, 101, 32, 50, 32, 49, 44, 32, 73, 84, 84, 32, 49, 54, 32, 52, 44, 32, 83, 116, 97, 116, 83, 78, 32, 50, 52, 32, 52, 44, 32, 69, 120, 112, 67, 109, 100, 83, 78, 32, 50, 56, 32, 52, 44, 32, 77, 97, 120, 67, 109, 100, 83, 78, 32, 51, 50, 32, 52]⟩
/-- LoginResponse -/
def kd11 : Kd := ⟨35, [76, 111, 103, 105, 110, 82, 101, 115, 112, 111, 110, 115, 101], 207,
  [⟨[86, 101, 114, 115, 105, 111, 110, 77, 97, 120], 2, 1⟩, ⟨[86, 101, 114, 115, 105, 111, 110, 65, 99, 116, 105, 118, 101], 3, 1⟩, ⟨[73, 83, 73, 68], 8, 6⟩, ⟨[84, 83, 73, 72], 14, 2⟩, ⟨[73, 84, 84], 16, 4⟩, ⟨[83, 116, 97, 116, 83, 78], 24, 4⟩, ⟨[69, 120, 112, 67, 109, 100, 83, 78], 28, 4⟩, ⟨[77, 97, 120, 67, 109, 100, 83, 78], 32, 4⟩, ⟨[83, 116, 97, 116, 117, 115, 67, 108, 97, 115, 115], 36, 1⟩, ⟨[83, 116, 97, 116, 117, 115, 68, 101, 116, 97, 105, 108], 37, 1⟩],
  [86, 101, 114, 115, 105, 111, 110, 77, 97, 120, 32, 50, 32, 49, 44, 32, 86, 101, 114, 115, 105, 111, 110, 65, 99, 116, 105, 118, 101, 32, 51, 32, 49, 44, 32, 73, 83, 73, 68, 32, 56, 32, 54, 44, 32, 84, 83, 73, 72, 32, 49, 52, 32, 50, 44, 32, 73, 84, 84, 32, 49, 54, 32, 52, 44, 32, 83, 116, 97, 116, 83, 78, 32, 50, 52, 32, 52, 44, 32, 69, 120, 112, 67, 109, 100, 83, 78, 32, 50, 56, 32, 52, 44, 32, 77, 97, 120, 67, 109, 100, 83, 78, 32, 51, 50, 32, 52, 44, 32, 83, 116, 97, 116, 117, 115, 67, 108, 97, 115, 115, 32, 51, 54, 32, 49, 44, 32, 83, 116, 97, 116, 117, 115, 68, 101, 116, 97, 105, 108, 32, 51, 55, 32, 49]⟩
/-- TextResponse -/
def kd12 : Kd := ⟨36, [84, 101, 120, 116, 82, 101, 115, 112, 111, 110, 115, 101], 192,
  [⟨[76, 85, 78], 8, 8⟩, ⟨[73, 84, 84], 16, 4⟩, ⟨[84, 84, 84], 20, 4⟩, ⟨[83, 116, 97, 116, 83, 78], 24, 4⟩, ⟨[69, 120, 112, 67, 109, 100, 83, 78], 28, 4⟩, ⟨[77, 97, 120, 67, 109, 100, 83, 78], 32, 4⟩],
  [76, 85, 78, 32, 56, 32, 56, 44, 32, 73, 84, 84, 32, 49, 54, 32, 52, 44, 32, 84, 84, 84, 32, 50, 48, 32, 52, 44, 32, 83, 116, 97, 116, 83, 78, 32, 50, 52, 32, 52, 44, 32, 69, 120, 112, 67, 109, 100, 83, 78, 32, 50, 56, 32, 52, 44, 32, 77, 97, 120, 67, 109, 100, 83, 78, 32, 51, 50, 32, 52]⟩
/-- DataIn -/
def kd13 : Kd := ⟨37, [68, 97, 116, 97, 73, 110], 199,
  [⟨[83, 116, 97, 116, 117, 115], 3, 1⟩, ⟨[76, 85, 78], 8, 8⟩, ⟨[73, 84, 84], 16, 4⟩, ⟨[84, 84, 84], 20, 4⟩, ⟨[83, 116, 97, 116, 83, 78], 24, 4⟩, ⟨[69, 120, 112, 67, 109, 100, 83, 78], 28, 4⟩, ⟨[77, 97, 120, 67, 109, 100, 83, 78], 32, 4⟩, ⟨[68, 97, 116, 97, 83, 78], 36, 4⟩, ⟨[79, 102, 102, 115, 101, 116], 40, 4⟩, ⟨[82, 101, 115, 105, 100, 117, 97, 108], 44, 4⟩],
  [83, 116, 97, 116, 117, 115, 32, 51, 32, 49, 44, 32, 76, 85, 78, 32, 56, 32, 56, 44, 32, 73, 84, 84, 32, 49, 54, 32, 52, 44, 32, 84, 84, 84, 32, 50, 48, 32, 52, 44, 32, 83, 116, 97, 116, 83, 78, 32, 50, 52, 32, 52, 44, 32, 69, 120, 112, 67, 109, 100, 83, 78, 32, 50, 56, 32, 52, 44, 32, 77, 97, 120, 67, 109, 100, 83, 78, 32, 51, 50, 32, 52, 44, 32, 68, 97, 116, 97, 83, 78, 32, 51, 54, 32, 52, 44, 32, 79, 102, 102, 115, 101, 116, 32, 52, 48, 32, 52, 44, 32, 82, 101, 115, 105, 100, 117, 97, 108, 32, 52, 52, 32, 52]⟩
/-- LogoutResponse -/
def kd14 : Kd := ⟨38, [76, 111, 103, 111, 117, 116, 82, 101, 115, 112, 111, 110, 115, 101], 128,
  [⟨[82, 101, 115, 112, 111, 110, 115, 101], 2, 1⟩, ⟨[73, 84, 84], 16, 4⟩, ⟨[83, 116, 97, 116, 83, 78], 24, 4⟩, ⟨[69, 120, 112, 67, 109, 100, 83, 78], 28, 4⟩, ⟨[77, 97, 120, 67, 109, 100, 83, 78], 32, 4⟩, ⟨[84, 105, 109, 101, 50, 87, 97, 105, 116], 40, 2⟩, ⟨[84, 105, 109, 101, 50, 82, 101, 116, 97, 105, 110], 42, 2⟩],
  [82, 101, 115, 112, 111, 110, 115, 101, 32, 50, 32, 49, 44, 32, 73, 84, 84, 32, 49, 54, 32, 52, 44, 32, 83, 116, 97, 116, 83, 78, 32, 50, 52, 32, 52, 44, 32, 69, 120, 112, 67, 109, 100, 83, 78, 32, 50, 56, 32, 52, 44, 32, 77, 97, 120, 67, 109, 100, 83, 78, 32, 51, 50, 32, 52, 44, 32, 84, 105, 109, 101, 50, 87, 97, 105, 116, 32, 52, 48, 32, 50, 44, 32, 84, 105, 109, 101, 50, 82, 101, 116, 97, 105, 110, 32, 52, 50, 32, 50]⟩
/-- R2T -/
def kd15 : Kd := ⟨49, [82, 50, 84], 128,
  [⟨[76, 85, 78], 8, 8⟩, ⟨[73, 84, 84], 16, 4⟩, ⟨[84, 84, 84], 20, 4⟩, ⟨[83, 116, 97, 116, 83, 78], 24, 4⟩, ⟨[69, 120, 112, 67, 109, 100, 83, 78], 28, 4⟩, ⟨[77, 97, 120, 67, 109, 100, 83, 78], 32, 4⟩, ⟨[82, 50, 84, 83, 78], 36, 4⟩, ⟨[79, 102, 102, 115, 101, 116], 40, 4⟩, ⟨[76, 101, 110, 103, 116, 104], 44, 4⟩],
  [76, 85, 78, 32, 56, 32, 56, 44, 32, 73, 84, 84, 32, 49, 54, 32, 52, 44, 32, 84, 84, 84, 32, 50, 48, 32, 52, 44, 32, 83, 116, 97, 116, 83, 78, 32, 50, 52, 32, 52, 44, 32, 69, 120, 112, 67, 109, 100, 83, 78, 32, 50, 56, 32, 52, 44, 32, 77, 97, 120, 67, 109, 100, 83, 78, 32, 51, 50, 32, 52, 44, 32, 82, 50, 84, 83, 78, 32, 51, 54, 32, 52, 44, 32, 79, 102, 102, 115, 101, 116, 32, 52, 48, 32, 52, 44, 32, 76, 101, 110, 103, 116, 104, 32, 52, 52, 32, 52]⟩
/-- Async -/
def kd16 : Kd := ⟨50, [65, 115, 121, 110, 99], 128,
  [⟨[76, 85, 78], 8, 8⟩, ⟨[73, 84, 84], 16, 4⟩, ⟨[83, 116, 97, 116, 83, 78], 24, 4⟩, ⟨[69, 120, 112, 67, 109, 100, 83, 78], 28, 4⟩, ⟨[77, 97, 120, 67, 109, 100, 83, 78], 32, 4⟩, ⟨[69, 118, 101, 110, 116], 36, 1⟩, ⟨[86, 67, 111, 100, 101], 37, 1⟩, ⟨[80, 97, 114, 97, 109, 101, 116, 101, 114, 49], 38, 2⟩, ⟨[80, 97, 114, 97, 109, 101, 116, 101, 114, 50], 40, 2⟩, ⟨[80, 97, 114, 97, 109, 101, 116, 101, 114, 51], 42, 2⟩],
  [76, 85, 78, 32, 56, 32, 56, 44, 32, 73, 84, 84, 32, 49, 54, 32, 52, 44, 32, 83, 116, 97, 116, 83, 78, 32, 50, 52, 32, 52, 44, 32, 69, 120, 112, 67, 109, 100, 83, 78, 32, 50, 56, 32, 52, 44, 32, 77, 97, 120, 67, 109, 100, 83, 78, 32, 51, 50, 32, 52, 44, 32, 69, 118, 101, 110, 116, 32, 51, 54, 32, 49, 44, 32, 86, 67, 111, 100, 101, 32, 51, 55, 32, 49, 44, 32, 80, 97, 114, 97, 109, 101, 116, 101, 114, 49, 32, 51, 56, 32, 50, 44, 32, 80, 97, 114, 97, 109, 101, 116, 101, 114, 50, 32, 52, 48, 32, 50, 44, 32, 80, 97, 114, 97, 109, 101, 116, 101, 114, 51, 32, 52, 50, 32, 50]⟩
/-- Reject -/
def kd17 : Kd := ⟨63, [82, 101, 106, 101, 99, 116], 128,
  [⟨[82, 101, 97, 115, 111, 110], 2, 1⟩, ⟨[73, 84, 84], 16, 4⟩, ⟨[83, 116, 97, 116, 83, 78], 24, 4⟩, ⟨[69, 120, 112, 67, 109, 100, 83, 78], 28, 4⟩, ⟨[77, 97, 120, 67, 109, 100, 83, 78], 32, 4⟩, ⟨[68, 97, 116, 97, 83, 78], 36, 4⟩],
  [82, 101, 97, 115, 111, 110, 32, 50, 32, 49, 44, 32, 73, 84, 84, 32, 49, 54, 32, 52, 44, 32, 83, 116, 97, 116, 83, 78, 32, 50, 52, 32, 52, 44, 32, 69, 120, 112, 67, 109, 100, 83, 78, 32, 50, 56, 32, 52, 44, 32, 77, 97, 120, 67, 109, 100, 83, 78, 32, 51, 50, 32, 52, 44, 32, 68, 97, 116, 97, 83, 78, 32, 51, 54, 32, 52]⟩
def kinds : List Kd := [kd0, kd1, kd2, kd3, kd4, kd5, kd6, kd7, kd8, kd9, kd10, kd11, kd12, kd13, kd14, kd15, kd16, kd17]
def kindOf (op : Int) : Option Kd := kinds.find? fun k => decide ((k.op : Int) = op)
end Go.Proofs.YtlkikkfbennmnaaGreatDoor
namespace Go.Proofs.YtlkikkfbennmnaaGreatDoor
open Go.RowKit
structure Hd where
  op : Int
  now : Bool
  fl : Int
  vs : List Nat
def hd0 : Hd := ⟨0, false, 0, []⟩
def idxName : List Fd → List UInt8 → Option Nat
  | [], _ => none
  | f :: fs, n => if f.nm = n then some 0 else (idxName fs n).map (· + 1)
def flOk (fl : Int) (mask : Nat) : Bool := decide (0 ≤ fl) && (fl.toNat &&& mask == fl.toNat)
def badVal : List Fd → List Nat → Option Nat
  | f :: fs, v :: vs => if v / 2 ^ (8 * f.sz) = 0 then (badVal fs vs).map (· + 1) else some 0
  | _, _ => none
def rightK (k : Kd) (now : Bool) (op : Int) (fl : Int) (vs : List Nat) : Int × Int :=
  if (now && decide (32 ≤ op)) || !flOk fl k.fl then (3, -1)
  else if vs.length ≠ k.fs.length then (7, -1)
  else match badVal k.fs vs with
    | some i => (2, (i : Int))
    | none => (0, -1)
def rightR (h : Hd) : Int × Int :=
  match kindOf h.op with
  | none => (1, -1)
  | some k => rightK k h.now h.op h.fl h.vs
def valueK (k : Kd) (vs : List Nat) (n : List UInt8) : Nat × Int :=
  match idxName k.fs n with
  | none => (0, 5)
  | some i => if i < vs.length then (vs.getD i 0, 0) else (0, 7)
def valueR (h : Hd) (n : List UInt8) : Nat × Int :=
  match kindOf h.op with
  | none => (0, 1)
  | some k => valueK k h.vs n
/-- name by name: the values so far; and what is wrong -/
def fill (fs : List Fd) : List (List UInt8) → List Nat → List Nat → List Nat × Int
  | [], _, acc => (acc, 0)
  | n :: ns, vs, acc => match idxName fs n with
    | none => (acc, 5)
    | some j => match vs with
      | [] => (acc, 7)
      | v :: vs => fill fs ns vs (acc.set j v)
def makeR (op fl : Int) (ns : List (List UInt8)) (vs : List Nat) : Hd × Int × Int :=
  match kindOf op with
  | none => (hd0, 1, -1)
  | some k =>
    let r := fill k.fs ns vs (List.replicate k.fs.length 0)
    if r.2 ≠ 0 then (hd0, r.2, -1)
    else
      let e := rightR ⟨op, false, fl, r.1⟩
      if e.1 ≠ 0 then (hd0, e) else (⟨op, false, fl, r.1⟩, 0, -1)
def baseB (h : Hd) (words data : Nat) : List UInt8 :=
  [UInt8.ofNat (h.op.toNat + if h.now then 64 else 0), UInt8.ofNat h.fl.toNat, 0, 0] ++ be words 1 ++ be data 3 ++ List.replicate 40 0
def splice (l : List UInt8) (o : Nat) (r : List UInt8) : List UInt8 := l.take o ++ r ++ l.drop (o + r.length)
def putAll : List Fd → List Nat → List UInt8 → List UInt8
  | f :: fs, v :: vs, l => putAll fs vs (splice l f.pos (be v f.sz))
  | _, _, l => l
def headB (h : Hd) (words data : Nat) : List UInt8 :=
  match kindOf h.op with
  | none => []
  | some k => putAll k.fs h.vs (baseB h words data)
def writeR (h : Hd) (words data : Int) : List UInt8 × Int × Int :=
  let r := rightR h
  if r.1 ≠ 0 then ([], r)
  else if words < 0 ∨ 255 < words ∨ data < 0 ∨ 16777215 < data then ([], 4, -1)
  else (headB h words.toNat data.toNat, 0, -1)
def cutB (l : List UInt8) (o n : Nat) : List UInt8 := (l.drop o).take n
def readVs (fs : List Fd) (s : List UInt8) : List Nat := fs.map fun f => val (cutB s f.pos f.sz)
def readH (k : Kd) (s : List UInt8) : Hd := ⟨((s.getD 0 0).toNat % 64 : Nat), decide (64 ≤ (s.getD 0 0).toNat), ((s.getD 1 0).toNat : Nat), readVs k.fs s⟩
def readW (s : List UInt8) : Nat := val (cutB s 4 1)
def readD (s : List UInt8) : Nat := val (cutB s 5 3)
def readR (s : List UInt8) : Hd × Nat × Nat × Int :=
  if s.length ≠ 48 then (hd0, 0, 0, 7)
  else if 128 ≤ (s.getD 0 0).toNat then (hd0, 0, 0, 3)
  else match kindOf ((s.getD 0 0).toNat % 64 : Nat) with
    | none => (hd0, 0, 0, 1)
    | some k => if writeR (readH k s) (readW s) (readD s) = (s, 0, -1) then (readH k s, readW s, readD s, 0) else (hd0, 0, 0, 3)

-- what each row of the table keeps
def apartF : List Fd → Bool
  | [] => true
  | f :: fs => fs.all (fun g => decide (f.pos + f.sz ≤ g.pos ∨ g.pos + g.sz ≤ f.pos) && decide (f.nm ≠ g.nm)) && apartF fs
def fieldOk (f : Fd) : Bool := decide (2 ≤ f.pos) && decide (f.pos + f.sz ≤ 48) && decide (1 ≤ f.sz) && decide (f.sz ≤ 8) && decide (f.pos + f.sz ≤ 4 ∨ 8 ≤ f.pos) && decide (0 < f.nm.length) && decide (f.nm.length < 50)
def kindOk (k : Kd) : Bool := decide (k.op < 64) && decide (0 < k.fl) && decide (k.fl < 256) && decide (1 ≤ k.fs.length) && decide (k.fs.length ≤ 10) && k.fs.all fieldOk && apartF k.fs && decide (0 < k.nm.length) && decide (k.nm.length < 50) && (idxName k.fs [73, 84, 84]).isSome
theorem kinds_ok : kinds.all kindOk = true := by decide +kernel
theorem kindOf_mem {op : Int} {k : Kd} (h : kindOf op = some k) : k ∈ kinds ∧ (k.op : Int) = op := by
  unfold kindOf at h
  exact ⟨List.mem_of_find?_eq_some h, by have := List.find?_some h; simpa using this⟩
theorem kindOf_ok {op : Int} {k : Kd} (h : kindOf op = some k) : kindOk k = true := List.all_eq_true.1 kinds_ok k (kindOf_mem h).1
structure KindFacts (k : Kd) : Prop where
  op : k.op < 64
  fl0 : 0 < k.fl
  fl : k.fl < 256
  len0 : 1 ≤ k.fs.length
  len : k.fs.length ≤ 10
  fok : ∀ f ∈ k.fs, 2 ≤ f.pos ∧ f.pos + f.sz ≤ 48 ∧ 1 ≤ f.sz ∧ f.sz ≤ 8 ∧ (f.pos + f.sz ≤ 4 ∨ 8 ≤ f.pos) ∧ 0 < f.nm.length ∧ f.nm.length < 50
  apart : apartF k.fs = true
  nm0 : 0 < k.nm.length
  nm : k.nm.length < 50
  itt : ∃ i, idxName k.fs [73, 84, 84] = some i
theorem kindFacts {op : Int} {k : Kd} (h : kindOf op = some k) : KindFacts k := by
  have hk := kindOf_ok h
  unfold kindOk at hk
  simp only [Bool.and_eq_true, decide_eq_true_eq] at hk
  obtain ⟨⟨⟨⟨⟨⟨⟨⟨⟨h1, h2⟩, h3⟩, h4⟩, h5⟩, h6⟩, h7⟩, h8⟩, h9⟩, h10⟩ := hk
  refine ⟨h1, h2, h3, h4, h5, fun f hf => ?_, h7, h8, h9, Option.isSome_iff_exists.1 h10⟩
  have := List.all_eq_true.1 h6 f hf
  unfold fieldOk at this
  simp only [Bool.and_eq_true, decide_eq_true_eq] at this
  obtain ⟨⟨⟨⟨⟨⟨a, b⟩, c⟩, d⟩, e⟩, f1⟩, f2⟩ := this
  exact ⟨a, b, c, d, e, f1, f2⟩
theorem kindOf_range {op : Int} {k : Kd} (h : kindOf op = some k) : 0 ≤ op ∧ op < 64 := by
  have h1 := (kindFacts h).op
  have h2 := (kindOf_mem h).2
  omega
-- names
theorem idxName_lt {fs : List Fd} {n : List UInt8} {i : Nat} : idxName fs n = some i → i < fs.length := by
  induction fs generalizing i with
  | nil => intro h; cases h
  | cons f fs ih =>
    intro h
    unfold idxName at h
    split at h
    · cases h; simp
    · cases hx : idxName fs n with
      | none => rw [hx] at h; cases h
      | some j => rw [hx] at h; cases h; have := ih hx; simp; omega
theorem idxName_at {fs : List Fd} {n : List UInt8} {i : Nat} (h : idxName fs n = some i) : (fs[i]'(idxName_lt h)).nm = n := by
  induction fs generalizing i with
  | nil => cases h
  | cons f fs ih =>
    have h' := h
    unfold idxName at h
    split at h
    · cases h; assumption
    · cases hx : idxName fs n with
      | none => rw [hx] at h; cases h
      | some j => rw [hx] at h; cases h; simpa using ih hx
theorem idxName_none {fs : List Fd} {n : List UInt8} (h : idxName fs n = none) : ∀ f ∈ fs, f.nm ≠ n := by
  induction fs with
  | nil => intro f hf; cases hf
  | cons f fs ih =>
    unfold idxName at h
    split at h
    · cases h
    · rename_i hn
      have hx : idxName fs n = none := by cases hx : idxName fs n with | none => rfl | some j => rw [hx] at h; cases h
      intro g hg
      rcases List.mem_cons.1 hg with rfl | hg
      · exact hn
      · exact ih hx g hg
/-- how a walk finds it: none ahead of k, then that one -/
theorem idxName_first {fs : List Fd} {n : List UInt8} {k : Nat} (hk : k < fs.length) (h0 : ∀ j (hj : j < k), (fs[j]'(by omega)).nm ≠ n) (h1 : (fs[k]'hk).nm = n) : idxName fs n = some k := by
  induction fs generalizing k with
  | nil => simp at hk
  | cons f fs ih =>
    unfold idxName
    cases k with
    | zero => rw [if_pos (by simpa using h1)]
    | succ k =>
      rw [if_neg (by simpa using h0 0 (by omega))]
      rw [ih (k := k) (by simpa using hk) (fun j hj => by have := h0 (j + 1) (by omega); simpa using this) (by simpa using h1)]
      rfl
theorem idxName_all {fs : List Fd} {n : List UInt8} (h0 : ∀ j (hj : j < fs.length), (fs[j]'hj).nm ≠ n) : idxName fs n = none := by
  cases h : idxName fs n with
  | none => rfl
  | some i => exact absurd (idxName_at h) (h0 i (idxName_lt h))
theorem badVal_first {fs : List Fd} {vs : List Nat} {k : Nat} (hk : k < fs.length) (hv : k < vs.length) (h0 : ∀ j (hj : j < k), (vs[j]'(by omega)) / 2 ^ (8 * (fs[j]'(by omega)).sz) = 0) (h1 : vs[k] / 2 ^ (8 * fs[k].sz) ≠ 0) : badVal fs vs = some k := by
  induction fs generalizing k vs with
  | nil => simp at hk
  | cons f fs ih =>
    cases vs with
    | nil => simp at hv
    | cons v vs =>
      unfold badVal
      cases k with
      | zero => rw [if_neg (by simpa using h1)]
      | succ k =>
        rw [if_pos (by simpa using h0 0 (by omega))]
        rw [ih (k := k) (vs := vs) (by simpa using hk) (by simpa using hv) (fun j hj => by have := h0 (j + 1) (by omega); simpa using this) (by simpa using h1)]
        rfl
theorem badVal_none {fs : List Fd} {vs : List Nat} (hl : vs.length = fs.length) (h0 : ∀ j (hj : j < fs.length), (vs[j]'(by omega)) / 2 ^ (8 * (fs[j]'hj).sz) = 0) : badVal fs vs = none := by
  induction fs generalizing vs with
  | nil => rfl
  | cons f fs ih =>
    cases vs with
    | nil => rfl
    | cons v vs =>
      unfold badVal
      have h00 : v / 2 ^ (8 * f.sz) = 0 := h0 0 (by simp)
      rw [if_pos h00, ih (by simpa using hl) (fun j hj => by have := h0 (j + 1) (by simpa using hj); simpa using this)]
      rfl
theorem badVal_good {fs : List Fd} {vs : List Nat} (h : badVal fs vs = none) : ∀ j (hj : j < fs.length) (hv : j < vs.length), vs[j] / 2 ^ (8 * fs[j].sz) = 0 := by
  induction fs generalizing vs with
  | nil => intro j hj; simp at hj
  | cons f fs ih =>
    cases vs with
    | nil => intro j _ hv; simp at hv
    | cons v vs =>
      unfold badVal at h
      split at h
      · rename_i h0
        have hx : badVal fs vs = none := by cases hx : badVal fs vs with | none => rfl | some j => rw [hx] at h; cases h
        intro j hj hv
        cases j with
        | zero => simpa using h0
        | succ j => simpa using ih hx j (by simpa using hj) (by simpa using hv)
      · cases h
-- bytes
theorem splice_len {l r : List UInt8} {o : Nat} (h : o + r.length ≤ l.length) : (splice l o r).length = l.length := by
  unfold splice; simp; omega
theorem splice_get {l r : List UInt8} {o : Nat} (h : o + r.length ≤ l.length) (i : Nat) :
    (splice l o r)[i]? = if o ≤ i ∧ i < o + r.length then r[i - o]? else l[i]? := by
  unfold splice
  have ho : (l.take o).length = o := by simp; omega
  by_cases h1 : i < o
  · rw [if_neg (by omega), List.append_assoc, List.getElem?_append_left (by omega), List.getElem?_take_of_lt h1]
  · by_cases h2 : i < o + r.length
    · rw [if_pos ⟨by omega, h2⟩, List.append_assoc, List.getElem?_append_right (by omega), ho, List.getElem?_append_left (by omega)]
    · rw [if_neg (by omega), List.append_assoc, List.getElem?_append_right (by omega), ho, List.getElem?_append_right (by omega), List.getElem?_drop]
      congr 1; omega
theorem putAll_len {fs : List Fd} {vs : List Nat} {l : List UInt8} (h : ∀ f ∈ fs, f.pos + f.sz ≤ l.length) : (putAll fs vs l).length = l.length := by
  induction fs generalizing vs l with
  | nil => rfl
  | cons f fs ih =>
    cases vs with
    | nil => rfl
    | cons v vs =>
      have h1 := splice_len (l := l) (r := be v f.sz) (o := f.pos) (by rw [be_len]; exact h f List.mem_cons_self)
      show (putAll fs vs (splice l f.pos (be v f.sz))).length = _
      rw [ih (by intro g hg; rw [h1]; exact h g (List.mem_cons_of_mem _ hg)), h1]
def inF (f : Fd) (i : Nat) : Prop := f.pos ≤ i ∧ i < f.pos + f.sz
instance (f : Fd) (i : Nat) : Decidable (inF f i) := by unfold inF; infer_instance
theorem cutB_len {s : List UInt8} {o n : Nat} (h : o + n ≤ s.length) : (cutB s o n).length = n := by unfold cutB; simp; omega
theorem cutB_get {s : List UInt8} {o n i : Nat} (h : i < n) : (cutB s o n)[i]? = s[o + i]? := by
  unfold cutB; rw [List.getElem?_take_of_lt h, List.getElem?_drop]
theorem be_cut {s : List UInt8} {o n : Nat} (h : o + n ≤ s.length) : be (val (cutB s o n)) n = cutB s o n := by
  have := be_val (cutB s o n)
  rwa [cutB_len h] at this
/-- fields with what stands in s: s there, l elsewhere -/
theorem putAll_read {fs : List Fd} {s l : List UInt8} (h : ∀ f ∈ fs, f.pos + f.sz ≤ s.length) (hl : l.length = s.length) (i : Nat) :
    (putAll fs (readVs fs s) l)[i]? = if ∃ f ∈ fs, inF f i then s[i]? else l[i]? := by
  induction fs generalizing l with
  | nil => simp [putAll]
  | cons f fs ih =>
    have hf := h f List.mem_cons_self
    have h1 := splice_len (l := l) (r := be (val (cutB s f.pos f.sz)) f.sz) (o := f.pos) (by rw [be_len, hl]; exact hf)
    show (putAll fs (readVs fs s) (splice l f.pos (be (val (cutB s f.pos f.sz)) f.sz)))[i]? = _
    rw [ih (fun g hg => h g (List.mem_cons_of_mem _ hg)) (by rw [h1]; exact hl)]
    by_cases hx : ∃ g ∈ fs, inF g i
    · obtain ⟨g, hg, hi⟩ := hx
      rw [if_pos ⟨g, hg, hi⟩, if_pos ⟨g, List.mem_cons_of_mem _ hg, hi⟩]
    · rw [if_neg hx, splice_get (by rw [be_len, hl]; exact hf), be_len]
      by_cases hy : inF f i
      · rw [if_pos (by exact hy), if_pos ⟨f, List.mem_cons_self, hy⟩, be_cut hf, cutB_get (by have := hy.1; have := hy.2; omega)]
        congr 1; have := hy.1; omega
      · rw [if_neg (by exact hy), if_neg]
        rintro ⟨g, hg, hi⟩
        rcases List.mem_cons.1 hg with rfl | hg
        · exact hy hi
        · exact hx ⟨g, hg, hi⟩
theorem putAll_other {fs : List Fd} {vs : List Nat} {l : List UInt8} (h : ∀ f ∈ fs, f.pos + f.sz ≤ l.length) (i : Nat) (hi : ∀ f ∈ fs, ¬ inF f i) : (putAll fs vs l)[i]? = l[i]? := by
  induction fs generalizing vs l with
  | nil => rfl
  | cons f fs ih =>
    cases vs with
    | nil => rfl
    | cons v vs =>
      have hf := h f List.mem_cons_self
      have h1 := splice_len (l := l) (r := be v f.sz) (o := f.pos) (by rw [be_len]; exact hf)
      show (putAll fs vs (splice l f.pos (be v f.sz)))[i]? = _
      rw [ih (by intro g hg; rw [h1]; exact h g (List.mem_cons_of_mem _ hg)) (fun g hg => hi g (List.mem_cons_of_mem _ hg)), splice_get (by rw [be_len]; exact hf), be_len]
      exact if_neg (hi f List.mem_cons_self)
theorem apartF_cons {f : Fd} {fs : List Fd} (h : apartF (f :: fs) = true) : (∀ g ∈ fs, (f.pos + f.sz ≤ g.pos ∨ g.pos + g.sz ≤ f.pos) ∧ f.nm ≠ g.nm) ∧ apartF fs = true := by
  unfold apartF at h
  simp only [Bool.and_eq_true] at h
  refine ⟨fun g hg => ?_, h.2⟩
  have := List.all_eq_true.1 h.1 g hg
  simpa using this
/-- each field has what was put there -/
theorem putAll_get {fs : List Fd} {vs : List Nat} {l : List UInt8} (h : ∀ f ∈ fs, f.pos + f.sz ≤ l.length) (ha : apartF fs = true) (j : Nat) (hj : j < fs.length) (hv : j < vs.length) :
    cutB (putAll fs vs l) fs[j].pos fs[j].sz = be vs[j] fs[j].sz := by
  induction fs generalizing vs l j with
  | nil => simp at hj
  | cons f fs ih =>
    cases vs with
    | nil => simp at hv
    | cons v vs =>
      have hf := h f List.mem_cons_self
      have h1 := splice_len (l := l) (r := be v f.sz) (o := f.pos) (by rw [be_len]; exact hf)
      have hr : ∀ g ∈ fs, g.pos + g.sz ≤ (splice l f.pos (be v f.sz)).length := by intro g hg; rw [h1]; exact h g (List.mem_cons_of_mem _ hg)
      obtain ⟨hd, ha'⟩ := apartF_cons ha
      show cutB (putAll fs vs (splice l f.pos (be v f.sz))) _ _ = _
      cases j with
      | succ j => exact ih hr ha' j (by simpa using hj) (by simpa using hv)
      | zero =>
        show cutB (putAll fs vs (splice l f.pos (be v f.sz))) f.pos f.sz = be v f.sz
        apply List.ext_getElem?
        intro i
        by_cases hi : i < f.sz
        · rw [cutB_get hi, putAll_other hr _ (fun g hg hx => by have := (hd g hg).1; have h2 := hx.1; have h3 := hx.2; omega), splice_get (by rw [be_len]; exact hf), be_len, if_pos ⟨by omega, by omega⟩]
          congr 1; omega
        · have h2 : (cutB (putAll fs vs (splice l f.pos (be v f.sz))) f.pos f.sz).length ≤ f.sz := by unfold cutB; simp; omega
          have h3 := be_len v f.sz
          rw [List.getElem?_eq_none (by omega), List.getElem?_eq_none (by omega)]
end Go.Proofs.YtlkikkfbennmnaaGreatDoor
namespace Go.Proofs.YtlkikkfbennmnaaGreatDoor
open Go.RowKit
theorem baseB_len (h : Hd) (w d : Nat) : (baseB h w d).length = 48 := by simp [baseB, be_len]
theorem baseB_0 (h : Hd) (w d : Nat) : (baseB h w d)[0]? = some (UInt8.ofNat (h.op.toNat + if h.now then 64 else 0)) := rfl
theorem baseB_1 (h : Hd) (w d : Nat) : (baseB h w d)[1]? = some (UInt8.ofNat h.fl.toNat) := rfl
theorem baseB_w (h : Hd) (w d : Nat) : cutB (baseB h w d) 4 1 = be w 1 := rfl
theorem baseB_d (h : Hd) (w d : Nat) : cutB (baseB h w d) 5 3 = be d 3 := rfl
theorem baseB_0s (h : Hd) (w d i : Nat) (hi : i < 48) (h1 : 2 ≤ i) (h2 : i < 4 ∨ 8 ≤ i) : (baseB h w d)[i]? = some 0 := by
  have e : baseB h w d = ([UInt8.ofNat (h.op.toNat + if h.now then 64 else 0), UInt8.ofNat h.fl.toNat] ++ ([0, 0] ++ (be w 1 ++ be d 3 ++ List.replicate 40 0))) := by simp [baseB]
  rw [e, List.getElem?_append_right (by simpa using h1)]
  rcases h2 with h2 | h2
  · have : i = 2 ∨ i = 3 := by omega
    rcases this with rfl | rfl <;> rfl
  · rw [List.getElem?_append_right (by simp; omega), List.getElem?_append_right (by simp [be_len]; omega), List.getElem?_replicate]
    simp [be_len]; omega
theorem headB_eq {h : Hd} {k : Kd} (hk : kindOf h.op = some k) (w d : Nat) : headB h w d = putAll k.fs h.vs (baseB h w d) := by unfold headB; rw [hk]
theorem fields_in {k : Kd} (F : KindFacts k) (h : Hd) (w d : Nat) : ∀ f ∈ k.fs, f.pos + f.sz ≤ (baseB h w d).length := fun f hf => by rw [baseB_len]; exact (F.fok f hf).2.1
theorem headB_len {h : Hd} {k : Kd} (hk : kindOf h.op = some k) (w d : Nat) : (headB h w d).length = 48 := by
  rw [headB_eq hk, putAll_len (fields_in (kindFacts hk) h w d), baseB_len]
def freeK (k : Kd) (i : Nat) : Prop := i = 0 ∨ i = 1 ∨ (4 ≤ i ∧ i < 8) ∨ ∃ f ∈ k.fs, inF f i
instance (k : Kd) (i : Nat) : Decidable (freeK k i) := by unfold freeK; infer_instance
theorem headB_base {h : Hd} {k : Kd} (hk : kindOf h.op = some k) (w d i : Nat) (hi : ¬ ∃ f ∈ k.fs, inF f i) : (headB h w d)[i]? = (baseB h w d)[i]? := by
  rw [headB_eq hk]
  exact putAll_other (fields_in (kindFacts hk) h w d) i fun f hf hx => hi ⟨f, hf, hx⟩
theorem low_free {k : Kd} (F : KindFacts k) (i : Nat) (hi : i < 2 ∨ (4 ≤ i ∧ i < 8)) : ¬ ∃ f ∈ k.fs, inF f i := by
  rintro ⟨f, hf, h1, h2⟩
  have := F.fok f hf
  omega
theorem headB_0 {h : Hd} {k : Kd} (hk : kindOf h.op = some k) (w d : Nat) : (headB h w d)[0]? = some (UInt8.ofNat (h.op.toNat + if h.now then 64 else 0)) := by
  rw [headB_base hk w d 0 (low_free (kindFacts hk) 0 (by omega)), baseB_0]
theorem headB_1 {h : Hd} {k : Kd} (hk : kindOf h.op = some k) (w d : Nat) : (headB h w d)[1]? = some (UInt8.ofNat h.fl.toNat) := by
  rw [headB_base hk w d 1 (low_free (kindFacts hk) 1 (by omega)), baseB_1]
theorem cutB_same {a b : List UInt8} {o n : Nat} (h : ∀ i, o ≤ i → i < o + n → a[i]? = b[i]?) : cutB a o n = cutB b o n := by
  apply List.ext_getElem?
  intro i
  by_cases hi : i < n
  · rw [cutB_get hi, cutB_get hi, h (o + i) (by omega) (by omega)]
  · have l1 : (cutB a o n).length ≤ n := by unfold cutB; simp; omega
    have l2 : (cutB b o n).length ≤ n := by unfold cutB; simp; omega
    rw [List.getElem?_eq_none (by omega), List.getElem?_eq_none (by omega)]
theorem headB_w {h : Hd} {k : Kd} (hk : kindOf h.op = some k) (w d : Nat) : cutB (headB h w d) 4 1 = be w 1 := by
  rw [cutB_same (b := baseB h w d) fun i h1 h2 => headB_base hk w d i (low_free (kindFacts hk) i (by omega)), baseB_w]
theorem headB_d {h : Hd} {k : Kd} (hk : kindOf h.op = some k) (w d : Nat) : cutB (headB h w d) 5 3 = be d 3 := by
  rw [cutB_same (b := baseB h w d) fun i h1 h2 => headB_base hk w d i (low_free (kindFacts hk) i (by omega)), baseB_d]
theorem getD_some {l : List UInt8} {i : Nat} {b : UInt8} (h : l[i]? = some b) : l.getD i 0 = b := by rw [List.getD_eq_getElem?_getD, h]; rfl
theorem flOk_bd {fl : Int} {m : Nat} (hm : m < 256) (h : flOk fl m = true) : 0 ≤ fl ∧ fl < 256 := by
  unfold flOk at h
  simp only [Bool.and_eq_true, decide_eq_true_eq, beq_iff_eq] at h
  have := Nat.and_le_right (n := fl.toNat) (m := m)
  omega
theorem rightR_good {h : Hd} (hr : rightR h = (0, -1)) : ∃ k, kindOf h.op = some k ∧ (h.now = true → h.op < 32) ∧ flOk h.fl k.fl = true ∧ h.vs.length = k.fs.length ∧ badVal k.fs h.vs = none := by
  unfold rightR at hr
  cases hk : kindOf h.op with
  | none => rw [hk] at hr; simp at hr
  | some k =>
    rw [hk] at hr
    simp only [rightK] at hr
    split at hr
    · simp at hr
    · rename_i h1
      split at hr
      · simp at hr
      · rename_i h2
        split at hr
        · simp at hr
        · rename_i h3
          simp only [Bool.or_eq_true, Bool.and_eq_true, decide_eq_true_eq, Bool.not_eq_true', not_or, not_and] at h1
          exact ⟨k, rfl, fun hn => by have := h1.1 hn; omega, by simpa using h1.2, by omega, h3⟩
theorem rightR_mk {h : Hd} {k : Kd} (hk : kindOf h.op = some k) (h1 : h.now = true → h.op < 32) (h2 : flOk h.fl k.fl = true) (h3 : h.vs.length = k.fs.length) (h4 : badVal k.fs h.vs = none) : rightR h = (0, -1) := by
  unfold rightR
  rw [hk]
  simp only [rightK]
  rw [if_neg, if_neg (by omega), h4]
  simp only [Bool.or_eq_true, Bool.and_eq_true, decide_eq_true_eq, Bool.not_eq_true', not_or, not_and]
  exact ⟨fun hn => by have := h1 hn; omega, by simp [h2]⟩
theorem rightR_0 {h : Hd} : (rightR h).1 = 0 → rightR h = (0, -1) := by
  unfold rightR
  cases kindOf h.op with
  | none => intro h; simp at h
  | some k =>
    simp only [rightK]
    split
    · intro h; simp at h
    · split
      · intro h; simp at h
      · split
        · intro h; simp at h
        · intro _; rfl
/-- what is written is read -/
theorem read_write {h : Hd} (hr : rightR h = (0, -1)) {w d : Nat} (hw : w ≤ 255) (hd : d ≤ 16777215) : readR (headB h w d) = (h, w, d, 0) := by
  obtain ⟨k, hk, h1, h2, h3, h4⟩ := rightR_good hr
  have F := kindFacts hk
  have hop := (kindOf_mem hk).2
  have ho := F.op
  have hfl := flOk_bd F.fl h2
  have hlen := headB_len hk w d
  have e0 := getD_some (headB_0 hk w d)
  have e1 := getD_some (headB_1 hk w d)
  have b0 : (UInt8.ofNat (h.op.toNat + if h.now then 64 else 0)).toNat = h.op.toNat + if h.now then 64 else 0 := by
    rw [UInt8.toNat_ofNat']; split <;> omega
  have b1 : (UInt8.ofNat h.fl.toNat).toNat = h.fl.toNat := by rw [UInt8.toNat_ofNat']; omega
  have hm : ((h.op.toNat + if h.now then 64 else 0) % 64 : Nat) = h.op.toNat := by split <;> omega
  have hmi : ((h.op.toNat : Nat) : Int) = h.op := by omega
  have hvs : readVs k.fs (headB h w d) = h.vs := by
    apply List.ext_getElem (by simp [readVs, h3])
    intro j hj1 hj2
    have hj : j < k.fs.length := by simpa [readVs] using hj1
    have hb := badVal_good h4 j hj hj2
    have hg := putAll_get (vs := h.vs) (fields_in F h w d) F.apart j hj hj2
    have hx : val (cutB (headB h w d) k.fs[j].pos k.fs[j].sz) = h.vs[j] := by
      rw [headB_eq hk, hg, val_be]
      exact (Nat.div_eq_zero_iff.1 hb).resolve_left (by have := Nat.pow_pos (n := 8 * k.fs[j].sz) (show 0 < 2 by decide); omega)
    have hy : (readVs k.fs (headB h w d))[j] = val (cutB (headB h w d) k.fs[j].pos k.fs[j].sz) := by simp [readVs]
    rw [hy, hx]
  have hH : readH k (headB h w d) = h := by
    unfold readH
    rw [e0, e1, b0, b1, hm, hvs, hmi]
    have hn : decide (64 ≤ h.op.toNat + if h.now then 64 else 0) = h.now := by cases hn : h.now <;> simp <;> omega
    rw [hn, Int.toNat_of_nonneg hfl.1]
  have hW : readW (headB h w d) = w := by unfold readW; rw [headB_w hk, val_be _ _ (by omega)]
  have hD : readD (headB h w d) = d := by unfold readD; rw [headB_d hk, val_be _ _ (by omega)]
  unfold readR
  rw [if_neg (by omega), e0, b0, if_neg (by split <;> omega), hm, hmi, hk]
  simp only [hH, hW, hD]
  rw [if_pos]
  unfold writeR
  simp only [hr]
  rw [if_neg (by simp), if_neg (by omega)]
  simp
theorem nat_or_eq (a m : Nat) : a ||| m = m ↔ a &&& m = a := by
  constructor
  · intro h
    rw [← h]
    apply Nat.eq_of_testBit_eq; intro i
    simp only [Nat.testBit_and, Nat.testBit_or]
    cases a.testBit i <;> simp
  · intro h
    rw [← h]
    apply Nat.eq_of_testBit_eq; intro i
    simp only [Nat.testBit_and, Nat.testBit_or]
    cases a.testBit i <;> cases m.testBit i <;> rfl
/-- 48 bytes that are written so: which -/
theorem write_read {s : List UInt8} {k : Kd} (hs : s.length = 48) (h0 : (s.getD 0 0).toNat < 128) (hk : kindOf ((s.getD 0 0).toNat % 64 : Nat) = some k) :
    writeR (readH k s) (readW s) (readD s) = (s, 0, -1) ↔ (64 ≤ (s.getD 0 0).toNat → (s.getD 0 0).toNat % 64 < 32) ∧ (s.getD 1 0).toNat ||| k.fl = k.fl ∧ ∀ i, i < 48 → ¬ freeK k i → s.getD i 0 = 0 := by
  have F := kindFacts hk
  have hkH : kindOf (readH k s).op = some k := hk
  have hin : ∀ f ∈ k.fs, f.pos + f.sz ≤ s.length := fun f hf => by rw [hs]; exact (F.fok f hf).2.1
  have hlen : (readVs k.fs s).length = k.fs.length := by simp [readVs]
  have hbad : badVal k.fs (readVs k.fs s) = none := by
    apply badVal_none hlen
    intro j hj
    simp only [readVs, List.getElem_map]
    apply Nat.div_eq_of_lt
    have := val_lt k.fs[j].sz (cutB s k.fs[j].pos k.fs[j].sz) (cutB_len (hin _ (List.getElem_mem _)))
    rwa [Nat.pow_mul]
  have hw : readW s ≤ 255 := by have := val_lt 1 (cutB s 4 1) (cutB_len (by omega)); unfold readW; omega
  have hd : readD s ≤ 16777215 := by have := val_lt 3 (cutB s 5 3) (cutB_len (by omega)); unfold readD; omega
  have hfl : flOk (readH k s).fl k.fl = true ↔ (s.getD 1 0).toNat ||| k.fl = k.fl := by
    unfold flOk readH
    simp only [Bool.and_eq_true, decide_eq_true_eq, beq_iff_eq, Int.toNat_natCast]
    rw [nat_or_eq]
    exact ⟨fun h => h.2, fun h => ⟨by omega, h⟩⟩
  have hnow : ((readH k s).now = true → (readH k s).op < 32) ↔ (64 ≤ (s.getD 0 0).toNat → (s.getD 0 0).toNat % 64 < 32) := by
    unfold readH
    simp only [decide_eq_true_eq]
    constructor <;> intro h h' <;> have := h h' <;> omega
  have hget : ∀ i, i < 48 → ((headB (readH k s) (readW s) (readD s))[i]? = s[i]? ↔ freeK k i ∨ s.getD i 0 = 0) := by
    intro i hi
    have hsi : s[i]? = some (s.getD i 0) := by rw [List.getD_eq_getElem?_getD, List.getElem?_eq_getElem (by omega)]; rfl
    by_cases hf : ∃ f ∈ k.fs, inF f i
    · have : (headB (readH k s) (readW s) (readD s))[i]? = s[i]? := by
        rw [headB_eq hkH]
        show (putAll k.fs (readVs k.fs s) _)[i]? = _
        rw [putAll_read hin (by rw [baseB_len, hs]), if_pos hf]
      exact ⟨fun _ => .inl (.inr (.inr (.inr hf))), fun _ => this⟩
    · rw [headB_base hkH _ _ i hf]
      by_cases h1 : i = 0
      · subst h1
        have : (baseB (readH k s) (readW s) (readD s))[0]? = s[0]? := by
          rw [baseB_0, hsi]
          congr 1
          apply UInt8.toNat_inj.1
          rw [UInt8.toNat_ofNat']
          unfold readH
          simp only [decide_eq_true_eq, Int.toNat_natCast]
          split <;> omega
        exact ⟨fun _ => .inl (.inl rfl), fun _ => this⟩
      · by_cases h2 : i = 1
        · subst h2
          have : (baseB (readH k s) (readW s) (readD s))[1]? = s[1]? := by
            rw [baseB_1, hsi]
            congr 1
            apply UInt8.toNat_inj.1
            rw [UInt8.toNat_ofNat']
            unfold readH
            simp only [Int.toNat_natCast]
            have := (s.getD 1 0).toNat_lt
            omega
          exact ⟨fun _ => .inl (.inr (.inl rfl)), fun _ => this⟩
        · by_cases h3 : 4 ≤ i ∧ i < 8
          · have : (baseB (readH k s) (readW s) (readD s))[i]? = s[i]? := by
              by_cases h4 : i = 4
              · subst h4
                have e : (cutB (baseB (readH k s) (readW s) (readD s)) 4 1)[0]? = (be (readW s) 1)[0]? := by rw [baseB_w]
                rw [cutB_get (by decide)] at e
                rw [show (4 : Nat) = 4 + 0 from rfl, e]
                unfold readW
                rw [be_cut (by omega), cutB_get (by decide)]
              · obtain ⟨j, rfl, hj⟩ : ∃ j, i = 5 + j ∧ j < 3 := ⟨i - 5, by omega, by omega⟩
                have e : (cutB (baseB (readH k s) (readW s) (readD s)) 5 3)[j]? = (be (readD s) 3)[j]? := by rw [baseB_d]
                rw [cutB_get hj] at e
                rw [e]
                unfold readD
                rw [be_cut (by omega), cutB_get hj]
            exact ⟨fun _ => .inl (.inr (.inr (.inl h3))), fun _ => this⟩
          · rw [baseB_0s _ _ _ i hi (by omega) (by omega), hsi]
            constructor
            · intro h; right; exact (Option.some.inj h).symm
            · rintro (h | h)
              · rcases h with h | h | h | h
                · exact absurd h h1
                · exact absurd h h2
                · exact absurd h h3
                · exact absurd h hf
              · rw [h]
  constructor
  · intro h
    have hr : rightR (readH k s) = (0, -1) := by
      apply rightR_0
      apply Decidable.byContradiction
      intro hn
      unfold writeR at h
      simp only [hn, ne_eq, not_false_eq_true, if_true] at h
      have h2 := congrArg (fun x => x.2.1) h
      exact hn h2
    obtain ⟨k', hk', a, b, _, _⟩ := rightR_good hr
    obtain rfl : k = k' := Option.some.inj (hkH.symm.trans hk')
    have hB : headB (readH k s) (readW s) (readD s) = s := by
      unfold writeR at h
      simp only [hr] at h
      rw [if_neg (by simp), if_neg (by omega)] at h
      have h2 := congrArg (fun x => x.1) h
      simpa using h2
    refine ⟨hnow.1 a, hfl.1 b, fun i hi hf => ?_⟩
    exact ((hget i hi).1 (by rw [hB])).resolve_left hf
  · rintro ⟨a, b, c⟩
    have hr : rightR (readH k s) = (0, -1) := rightR_mk hkH (hnow.2 a) (hfl.2 b) hlen hbad
    have hB : headB (readH k s) (readW s) (readD s) = s := by
      apply List.ext_getElem?
      intro i
      by_cases hi : i < 48
      · exact (hget i hi).2 (by by_cases hf : freeK k i; exact .inl hf; exact .inr (c i hi hf))
      · rw [List.getElem?_eq_none (by rw [headB_len hkH]; omega), List.getElem?_eq_none (by omega)]
    unfold writeR
    simp only [hr]
    rw [if_neg (by simp), if_neg (by omega)]
    simp [hB]
end Go.Proofs.YtlkikkfbennmnaaGreatDoor
namespace Go.Proofs.YtlkikkfbennmnaaGreatDoor
def poly : Nat := 2197175160
/-- one bit -/
def cbit (n : Nat) : Nat := n / 2 ^^^ (if n % 2 = 1 then poly else 0)
def cbits : Nat → Nat → Nat
  | 0, n => n
  | k + 1, n => cbit (cbits k n)
def eff (b : Nat) : Nat := cbits 8 b
def cstep (n : Nat) (b : UInt8) : Nat := n / 256 ^^^ eff (n % 256 ^^^ b.toNat)
def crcRaw (l : List UInt8) : Nat := l.foldl cstep 4294967295
def crcSum (l : List UInt8) : Nat := 4294967295 ^^^ crcRaw l
theorem crcRaw_snoc (l : List UInt8) (b : UInt8) : crcRaw (l ++ [b]) = cstep (crcRaw l) b := by simp [crcRaw]
theorem cbit_lt (n : Nat) (h : n < 2 ^ 32) : cbit n < 2 ^ 32 := by
  unfold cbit
  apply Nat.xor_lt_two_pow
  · omega
  · split <;> decide
theorem cbits_lt (n : Nat) (h : n < 2 ^ 32) : ∀ k, cbits k n < 2 ^ 32
  | 0 => h
  | k + 1 => cbit_lt _ (cbits_lt n h k)
theorem xor_ite (p q : Bool) (c : Nat) : (if (p ^^ q) = true then c else 0) = (if p = true then c else 0) ^^^ (if q = true then c else 0) := by
  cases p <;> cases q <;> simp
theorem odd_xor (a b : Nat) : ((a ^^^ b) % 2 = 1) = ((decide (a % 2 = 1) ^^ decide (b % 2 = 1)) = true) := by
  have h := Nat.xor_mod_two_eq_one (a := a) (b := b)
  by_cases h1 : a % 2 = 1 <;> by_cases h2 : b % 2 = 1 <;> simp [h1, h2] at h ⊢ <;> omega
theorem cbit_xor (a b : Nat) : cbit (a ^^^ b) = cbit a ^^^ cbit b := by
  unfold cbit
  rw [Nat.xor_div_two]
  have e : (if (a ^^^ b) % 2 = 1 then poly else 0) = (if a % 2 = 1 then poly else 0) ^^^ (if b % 2 = 1 then poly else 0) := by
    have := xor_ite (decide (a % 2 = 1)) (decide (b % 2 = 1)) poly
    simp only [odd_xor]
    simpa using this
  rw [e]
  ac_rfl
theorem cbits_xor (a b : Nat) : ∀ k, cbits k (a ^^^ b) = cbits k a ^^^ cbits k b
  | 0 => rfl
  | k + 1 => by simp only [cbits, cbits_xor a b k, cbit_xor]
theorem cbit_even (a : Nat) : cbit (a * 2) = a := by
  unfold cbit
  rw [if_neg (by omega)]
  simp
theorem cbits_shift (a : Nat) : ∀ k j, cbits k (a * 2 ^ (k + j)) = a * 2 ^ j
  | 0, j => by simp [cbits]
  | k + 1, j => by
    show cbit (cbits k _) = _
    rw [show k + 1 + j = k + (j + 1) from by omega, cbits_shift a k (j + 1), Nat.pow_succ, ← Nat.mul_assoc, cbit_even]
theorem split256 (n : Nat) : n = (n / 256 * 256) ^^^ (n % 256) := by
  have h := Nat.shiftLeft_add_eq_or_of_lt (b := n % 256) (i := 8) (Nat.mod_lt _ (by decide)) (n / 256)
  have h2 : (n / 256 * 256) ^^^ (n % 256) = (n / 256 * 256) ||| (n % 256) := by
    apply Nat.eq_of_testBit_eq
    intro i
    rw [Nat.testBit_xor, Nat.testBit_or]
    by_cases hi : i < 8
    · have : (n / 256 * 256).testBit i = false := by
        show (n / 256 * 2 ^ 8).testBit i = false
        rw [Nat.testBit_mul_two_pow]; simp; omega
      rw [this]; simp
    · have : (n % 256).testBit i = false := by
        apply Nat.testBit_lt_two_pow
        exact Nat.lt_of_lt_of_le (Nat.mod_lt _ (by decide)) (Nat.pow_le_pow_right (n := 2) (by decide) (show 8 ≤ i by omega))
      rw [this]; simp
  rw [Nat.shiftLeft_eq] at h
  rw [h2, show (n / 256 * 256) = n / 256 * 2 ^ 8 from rfl, ← h]
  omega
/-- a byte at once is its eight bits -/
theorem cbits_byte (n b : Nat) : cbits 8 (n ^^^ b) = n / 256 ^^^ eff (n % 256 ^^^ b) := by
  have h : n ^^^ b = (n / 256 * 256) ^^^ (n % 256 ^^^ b) := by
    conv => lhs; rw [split256 n]
    ac_rfl
  rw [h, cbits_xor]
  congr 1
  have := cbits_shift (n / 256) 8 0
  simpa using this
/-- one bit, asked together with a text's bit -/
def rbit (n t : Nat) : Nat := n / 2 ^^^ (if (n % 2 ^^^ t) = 1 then poly else 0)
def rbits : Nat → Nat → Nat → Nat
  | 0, n, _ => n
  | k + 1, n, b => rbit (rbits k n b) (b / 2 ^ k % 2)
theorem rbit_eq (n b : Nat) : rbit n (b % 2) ^^^ (b / 2) = cbit (n ^^^ b) := by
  unfold rbit cbit
  rw [Nat.xor_div_two]
  have e : (n % 2 ^^^ b % 2) = (n ^^^ b) % 2 := by
    rw [show (2 : Nat) = 2 ^ 1 from rfl, Nat.xor_mod_two_pow]
  rw [e]
  ac_rfl
theorem rbits_eq (n b : Nat) : ∀ k, rbits k n b ^^^ (b / 2 ^ k) = cbits k (n ^^^ b)
  | 0 => by simp [rbits, cbits]
  | k + 1 => by
    show rbit (rbits k n b) (b / 2 ^ k % 2) ^^^ _ = cbit _
    rw [← rbits_eq n b k, ← rbit_eq, Nat.pow_succ, Nat.div_div_eq_div_mul]
theorem rbits_byte (n : Nat) (b : UInt8) : rbits 8 n b.toNat = cstep n b := by
  have h := rbits_eq n b.toNat 8
  rw [show b.toNat / 2 ^ 8 = 0 from Nat.div_eq_of_lt b.toNat_lt, Nat.xor_zero] at h
  rw [h, cbits_byte]; rfl
theorem rbit_lt (n t : Nat) (h : n < 2 ^ 32) : rbit n t < 2 ^ 32 := by
  unfold rbit
  apply Nat.xor_lt_two_pow
  · omega
  · split <;> decide
theorem rbits_lt (n b : Nat) (h : n < 2 ^ 32) : ∀ k, rbits k n b < 2 ^ 32
  | 0 => h
  | k + 1 => rbit_lt _ _ (rbits_lt n b h k)
theorem eff_lt (b : Nat) (h : b < 2 ^ 32) : eff b < 2 ^ 32 := cbits_lt b h 8
theorem cstep_lt (n : Nat) (b : UInt8) (h : n < 2 ^ 32) : cstep n b < 2 ^ 32 := by rw [← rbits_byte]; exact rbits_lt _ _ h 8
theorem crcRaw_lt (l : List UInt8) : crcRaw l < 2 ^ 32 := by
  unfold crcRaw
  have : ∀ (l : List UInt8) (n : Nat), n < 2 ^ 32 → l.foldl cstep n < 2 ^ 32 := by
    intro l
    induction l with
    | nil => intro n h; exact h
    | cons b l ih => intro n h; exact ih _ (cstep_lt n b h)
  exact this l _ (by decide)
theorem crcSum_lt (l : List UInt8) : crcSum l < 2 ^ 32 := Nat.xor_lt_two_pow (by decide) (crcRaw_lt l)
/-- four bytes, the lowest first -/
def le (n : Nat) : Nat → List UInt8
  | 0 => []
  | k + 1 => le n k ++ [UInt8.ofNat (n / 2 ^ (8 * k) % 256)]
theorem le_len (n k : Nat) : (le n k).length = k := by induction k <;> simp [le, *]
def digest (l : List UInt8) : List UInt8 := le (crcSum l) 4
end Go.Proofs.YtlkikkfbennmnaaGreatDoor
namespace Go.Proofs.YtlkikkfbennmnaaGreatDoor
/-- bit i of a text -/
def tbit (l : List UInt8) (i : Nat) : Nat := (l.getD (i / 8) 0).toNat / 2 ^ (i % 8) % 2
theorem tbit_lt (l : List UInt8) (i : Nat) : tbit l i < 2 := Nat.mod_lt _ (by decide)
/-- bits fed into a state, one by one -/
def stB (n : Nat) (f : Nat → Nat) : Nat → Nat
  | 0 => n
  | k + 1 => rbit (stB n f k) (f k)
theorem rbit_lin (a b s t : Nat) (hs : s < 2) (ht : t < 2) : rbit a s ^^^ rbit b t = rbit (a ^^^ b) (s ^^^ t) := by
  unfold rbit
  have e : ((a ^^^ b) % 2 ^^^ (s ^^^ t)) = (a % 2 ^^^ s) ^^^ (b % 2 ^^^ t) := by
    rw [show (a ^^^ b) % 2 = a % 2 ^^^ b % 2 from by rw [show (2 : Nat) = 2 ^ 1 from rfl, Nat.xor_mod_two_pow]]
    ac_rfl
  rw [e, Nat.xor_div_two]
  have h1 : (a % 2 ^^^ s) < 2 := Nat.xor_lt_two_pow (n := 1) (Nat.mod_lt _ (by decide)) hs
  have h2 : (b % 2 ^^^ t) < 2 := Nat.xor_lt_two_pow (n := 1) (Nat.mod_lt _ (by decide)) ht
  have h3 : ∀ x y : Nat, x < 2 → y < 2 → (if x ^^^ y = 1 then poly else 0) = (if x = 1 then poly else 0) ^^^ (if y = 1 then poly else 0) := by
    intro x y hx hy
    rcases (show x = 0 ∨ x = 1 by omega) with rfl | rfl <;> rcases (show y = 0 ∨ y = 1 by omega) with rfl | rfl <;> simp
  rw [h3 _ _ h1 h2]
  ac_rfl
theorem stB_lin (n m : Nat) (f g : Nat → Nat) (hf : ∀ i, f i < 2) (hg : ∀ i, g i < 2) : ∀ k, stB n f k ^^^ stB m g k = stB (n ^^^ m) (fun i => f i ^^^ g i) k
  | 0 => rfl
  | k + 1 => by
    show rbit _ _ ^^^ rbit _ _ = rbit _ _
    rw [rbit_lin _ _ _ _ (hf k) (hg k), stB_lin n m f g hf hg k]
theorem stB_congr (n : Nat) (f g : Nat → Nat) : ∀ k, (∀ i, i < k → f i = g i) → stB n f k = stB n g k
  | 0, _ => rfl
  | k + 1, h => by
    show rbit _ _ = rbit _ _
    rw [stB_congr n f g k (fun i hi => h i (by omega)), h k (by omega)]
theorem stB_add (n : Nat) (f : Nat → Nat) (j : Nat) : ∀ k, stB n f (j + k) = stB (stB n f j) (fun i => f (j + i)) k
  | 0 => rfl
  | k + 1 => by
    show rbit (stB n f (j + k)) (f (j + k)) = rbit _ _
    rw [stB_add n f j k]
theorem rbit_0 (n : Nat) : rbit n 0 = cbit n := by unfold rbit cbit; rw [Nat.xor_zero]
theorem stB_zero (n : Nat) : ∀ k, stB n (fun _ => 0) k = cbits k n
  | 0 => rfl
  | k + 1 => by
    show rbit _ 0 = cbit _
    rw [rbit_0, stB_zero n k]
theorem stB_value (n v : Nat) : ∀ k, stB n (fun i => v / 2 ^ i % 2) k = rbits k n v
  | 0 => rfl
  | k + 1 => by
    show rbit _ _ = rbit _ _
    rw [stB_value n v k]
theorem xor_zero_eq (a b : Nat) (h : a ^^^ b = 0) : a = b := by
  have h2 := congrArg (fun x => x ^^^ b) h
  simp only [Nat.xor_assoc, Nat.xor_self, Nat.xor_zero, Nat.zero_xor] at h2
  exact h2
theorem cbit_zero (n : Nat) (h : n < 2 ^ 32) (h0 : cbit n = 0) : n = 0 := by
  unfold cbit at h0
  have h1 := xor_zero_eq _ _ h0
  by_cases h2 : n % 2 = 1
  · rw [if_pos h2] at h1
    unfold poly at h1
    omega
  · rw [if_neg h2] at h1; omega
theorem cbits_zero (n : Nat) (h : n < 2 ^ 32) : ∀ k, cbits k n = 0 → n = 0
  | 0, h0 => h0
  | k + 1, h0 => cbits_zero n h k (cbit_zero _ (cbits_lt n h k) h0)
theorem rbits_low (n v k : Nat) : ∀ j, j ≤ k → rbits j n v = rbits j n (v % 2 ^ k)
  | 0, _ => rfl
  | j + 1, h => by
    show rbit _ _ = rbit _ _
    rw [rbits_low n v k j (by omega)]
    congr 1
    obtain ⟨d, rfl⟩ : ∃ d, k = j + 1 + d := ⟨k - (j + 1), by omega⟩
    rw [show 2 ^ (j + 1 + d) = 2 ^ j * (2 * 2 ^ d) from by rw [Nat.pow_add, Nat.pow_succ]; ac_rfl, Nat.mod_mul_right_div_self, Nat.mod_mul_right_mod]
/-- bits of a value v, from bit p on, in N bits in all: what they come to is nothing only if those of v that are within are nothing -/
theorem burst (v p N j : Nat) (e : Nat → Nat) (hj : j ≤ 32) (hN : p + j ≤ N) (h0 : ∀ i, i < p → e i = 0) (h1 : ∀ i, i < j → e (p + i) = v / 2 ^ i % 2) (h2 : ∀ i, p + j ≤ i → e i = 0)
    (hz : stB 0 e N = 0) : v % 2 ^ j = 0 := by
  obtain ⟨d, rfl⟩ : ∃ d, N = p + j + d := ⟨N - (p + j), by omega⟩
  rw [stB_add 0 e (p + j) d] at hz
  rw [stB_congr _ _ (fun _ => 0) d (fun i _ => h2 _ (by omega)), stB_zero, stB_add 0 e p j] at hz
  rw [stB_congr 0 e (fun _ => 0) p (fun i hi => h0 i hi), stB_zero] at hz
  rw [stB_congr _ _ (fun i => v / 2 ^ i % 2) j (fun i hi => h1 i hi), stB_value] at hz
  have hc0 : cbits p 0 = 0 := by
    have := cbits_shift 0 p 0
    simpa using this
  rw [hc0, rbits_low 0 v j j (Nat.le_refl _)] at hz
  have hlt : v % 2 ^ j < 2 ^ j := Nat.mod_lt _ (Nat.two_pow_pos _)
  have hlt32 : v % 2 ^ j < 2 ^ 32 := Nat.lt_of_lt_of_le hlt (Nat.pow_le_pow_right (by decide) hj)
  have hq := rbits_eq 0 (v % 2 ^ j) j
  rw [Nat.div_eq_of_lt hlt, Nat.xor_zero, Nat.zero_xor] at hq
  rw [hq] at hz
  exact cbits_zero _ hlt32 j (cbits_zero _ (cbits_lt _ hlt32 j) d hz)
/-- four bytes as a number, the lowest first -/
def leV (l : List UInt8) : Nat := (l.getD 0 0).toNat ^^^ (l.getD 1 0).toNat * 2 ^ 8 ^^^ (l.getD 2 0).toNat * 2 ^ 16 ^^^ (l.getD 3 0).toNat * 2 ^ 24
theorem cbits_add (n : Nat) (j : Nat) : ∀ k, cbits (j + k) n = cbits k (cbits j n)
  | 0 => rfl
  | k + 1 => by show cbit (cbits (j + k) n) = cbit _; rw [cbits_add n j k]
theorem raw_four (x : List UInt8) (b0 b1 b2 b3 : UInt8) : crcRaw (x ++ [b0, b1, b2, b3]) = cbits 32 (crcRaw x ^^^ leV [b0, b1, b2, b3]) := by
  have hs : ∀ (b : UInt8) k, cbits k (b.toNat * 2 ^ k) = b.toNat := fun b k => by have := cbits_shift b.toNat k 0; simpa using this
  have hc : ∀ n (b : UInt8), cstep n b = cbits 8 (n ^^^ b.toNat) := fun n b => (cbits_byte n b.toNat).symm
  have e : crcRaw (x ++ [b0, b1, b2, b3]) = cstep (cstep (cstep (cstep (crcRaw x) b0) b1) b2) b3 := by simp [crcRaw]
  rw [e]
  simp only [hc]
  have e1 : cbits 8 (crcRaw x ^^^ b0.toNat) ^^^ b1.toNat = cbits 8 (crcRaw x ^^^ b0.toNat ^^^ b1.toNat * 2 ^ 8) := by rw [cbits_xor _ (b1.toNat * 2 ^ 8), hs b1 8]
  rw [e1, ← cbits_add]
  have e2 : cbits (8 + 8) (crcRaw x ^^^ b0.toNat ^^^ b1.toNat * 2 ^ 8) ^^^ b2.toNat = cbits (8 + 8) (crcRaw x ^^^ b0.toNat ^^^ b1.toNat * 2 ^ 8 ^^^ b2.toNat * 2 ^ 16) := by rw [cbits_xor _ (b2.toNat * 2 ^ 16)]; congr 1; exact (hs b2 16).symm
  rw [e2, ← cbits_add]
  have e3 : cbits (8 + 8 + 8) (crcRaw x ^^^ b0.toNat ^^^ b1.toNat * 2 ^ 8 ^^^ b2.toNat * 2 ^ 16) ^^^ b3.toNat = cbits (8 + 8 + 8) (crcRaw x ^^^ b0.toNat ^^^ b1.toNat * 2 ^ 8 ^^^ b2.toNat * 2 ^ 16 ^^^ b3.toNat * 2 ^ 24) := by rw [cbits_xor _ (b3.toNat * 2 ^ 24)]; congr 1; exact (hs b3 24).symm
  rw [e3, ← cbits_add]
  show cbits 32 _ = cbits 32 _
  congr 1
  unfold leV
  simp only [List.getD_cons_zero, List.getD_cons_succ]
  ac_rfl
theorem leV_le (v : Nat) (h : v < 2 ^ 32) : leV (le v 4) = v := by
  have h0 : ∀ x, (UInt8.ofNat (x % 256)).toNat = x % 256 := u8_mod
  have e : le v 4 = [UInt8.ofNat (v / 2 ^ (8 * 0) % 256), UInt8.ofNat (v / 2 ^ (8 * 1) % 256), UInt8.ofNat (v / 2 ^ (8 * 2) % 256), UInt8.ofNat (v / 2 ^ (8 * 3) % 256)] := rfl
  rw [e]
  unfold leV
  simp only [List.getD_cons_zero, List.getD_cons_succ, h0]
  apply Nat.eq_of_testBit_eq
  intro i
  simp only [Nat.testBit_xor, Nat.testBit_mul_two_pow, show (256 : Nat) = 2 ^ 8 from rfl, Nat.testBit_mod_two_pow, Nat.testBit_div_two_pow]
  rcases (show i < 8 ∨ (8 ≤ i ∧ i < 16) ∨ (16 ≤ i ∧ i < 24) ∨ (24 ≤ i ∧ i < 32) ∨ 32 ≤ i by omega) with h1 | ⟨h1, h2⟩ | ⟨h1, h2⟩ | ⟨h1, h2⟩ | h1
  · simp [h1, show ¬ 8 ≤ i by omega, show ¬ 16 ≤ i by omega, show ¬ 24 ≤ i by omega]
  · simp [h1, show ¬ i < 8 by omega, show i - 8 < 8 by omega, show ¬ 16 ≤ i by omega, show ¬ 24 ≤ i by omega]
  · simp [h1, show ¬ i < 8 by omega, show 8 ≤ i by omega, show ¬ i - 8 < 8 by omega, show i - 16 < 8 by omega, show ¬ 24 ≤ i by omega]
  · simp [h1, show ¬ i < 8 by omega, show 8 ≤ i by omega, show ¬ i - 8 < 8 by omega, show 16 ≤ i by omega, show ¬ i - 16 < 8 by omega, show i - 24 < 8 by omega]
  · have hv : v.testBit i = false := Nat.testBit_lt_two_pow (Nat.lt_of_lt_of_le h (Nat.pow_le_pow_right (by decide) h1))
    simp [hv, show ¬ i < 8 by omega, show ¬ i - 8 < 8 by omega, show ¬ i - 16 < 8 by omega, show ¬ i - 24 < 8 by omega]
theorem rv_st (l : List UInt8) : ∀ i, i ≤ 8 * l.length → crcRaw (l.take (i / 8)) = stB 4294967295 (tbit l) (8 * (i / 8)) := by
  have key : ∀ k, k ≤ l.length → crcRaw (l.take k) = stB 4294967295 (tbit l) (8 * k) := by
    intro k
    induction k with
    | zero => intro _; simp [crcRaw, stB]
    | succ k ih =>
      intro hk
      have hlt : k < l.length := by omega
      rw [← List.take_append_getElem hlt, crcRaw_snoc, ih (by omega), ← rbits_byte, show 8 * (k + 1) = 8 * k + 8 from by omega, stB_add]
      have hc : ∀ i, i < 8 → tbit l (8 * k + i) = l[k].toNat / 2 ^ i % 2 := by
        intro i hi
        unfold tbit
        rw [show (8 * k + i) / 8 = k from by omega, show (8 * k + i) % 8 = i from by omega]
        simp [List.getD_eq_getElem?_getD, List.getElem?_eq_getElem hlt]
      rw [stB_congr _ _ (fun i => l[k].toNat / 2 ^ i % 2) 8 hc, stB_value]
  intro i hi
  exact key (i / 8) (by omega)
theorem raw_st (l : List UInt8) : crcRaw l = stB 4294967295 (tbit l) (8 * l.length) := by
  have h := rv_st l (8 * l.length) (Nat.le_refl _)
  rw [show 8 * l.length / 8 = l.length from by omega, List.take_length] at h
  exact h
theorem four (l : List UInt8) (h : l.length = 4) : ∃ a b c d, l = [a, b, c, d] := by
  match l, h with
  | [a, b, c, d], _ => exact ⟨a, b, c, d, rfl⟩
/-- a text with its digest behind it: always the same residue -/
theorem residue (x d : List UInt8) (h : d = digest x) : crcRaw (x ++ d) = cbits 32 4294967295 := by
  obtain ⟨a, b, c, e, he⟩ := four d (by rw [h]; exact le_len _ _)
  rw [he, raw_four, ← he, h]
  unfold digest
  rw [leV_le _ (crcSum_lt x)]
  unfold crcSum
  rw [show crcRaw x ^^^ (4294967295 ^^^ crcRaw x) = (crcRaw x ^^^ crcRaw x) ^^^ 4294967295 from by ac_rfl, Nat.xor_self, Nat.zero_xor]
/-! bits turned, one by one -/
def turnAt (l : List UInt8) (i : Nat) : List UInt8 := l.set (i / 8) (l.getD (i / 8) 0 ^^^ UInt8.ofNat (2 ^ (i % 8)))
theorem turnAt_len (l : List UInt8) (i : Nat) : (turnAt l i).length = l.length := by simp [turnAt]
theorem bit_xor_pow (x : UInt8) (j m : Nat) (hj : j < 8) : (x ^^^ UInt8.ofNat (2 ^ j)).toNat / 2 ^ m % 2 = x.toNat / 2 ^ m % 2 ^^^ (if m = j then 1 else 0) := by
  have hp : (UInt8.ofNat (2 ^ j)).toNat = 2 ^ j := by
    rw [UInt8.toNat_ofNat']
    exact Nat.mod_eq_of_lt (Nat.pow_lt_pow_right (by decide) hj)
  have hb : ∀ y : Nat, y / 2 ^ m % 2 = (y.testBit m).toNat := fun y => by rw [Nat.testBit_eq_decide_div_mod_eq]; rcases Nat.mod_two_eq_zero_or_one (y / 2 ^ m) with h | h <;> simp [h]
  rw [UInt8.toNat_xor, hp, hb, hb, Nat.testBit_xor, Nat.testBit_two_pow]
  by_cases h : m = j
  · subst h; cases x.toNat.testBit m <;> simp
  · have h' : ¬ j = m := fun e => h e.symm
    simp [h, h']
theorem tbit_turn (l : List UInt8) (i k : Nat) (hi : i / 8 < l.length) : tbit (turnAt l i) k = tbit l k ^^^ (if k = i then 1 else 0) := by
  unfold tbit turnAt
  by_cases h : k / 8 = i / 8
  · rw [h]
    have e : (l.set (i / 8) (l.getD (i / 8) 0 ^^^ UInt8.ofNat (2 ^ (i % 8)))).getD (i / 8) 0 = l.getD (i / 8) 0 ^^^ UInt8.ofNat (2 ^ (i % 8)) := by
      simp [List.getD_eq_getElem?_getD, hi]
    rw [e, bit_xor_pow _ _ _ (Nat.mod_lt _ (by decide))]
    congr 1
    by_cases hk : k = i
    · subst hk; simp
    · rw [if_neg hk, if_neg (by omega)]
  · have e : (l.set (i / 8) (l.getD (i / 8) 0 ^^^ UInt8.ofNat (2 ^ (i % 8)))).getD (k / 8) 0 = l.getD (k / 8) 0 := by
      have h' : ¬ i / 8 = k / 8 := fun e => h e.symm
      simp [List.getD_eq_getElem?_getD, h']
    rw [e, if_neg (by intro h2; exact h (by rw [h2])), Nat.xor_zero]
/-- bits turned from one on, as a number has them -/
def tn (l : List UInt8) (first v : Nat) : Nat → List UInt8
  | 0 => l
  | k + 1 => if v / 2 ^ k % 2 = 1 ∧ (first + k) / 8 < l.length then turnAt (tn l first v k) (first + k) else tn l first v k
theorem tn_len (l : List UInt8) (first v : Nat) : ∀ k, (tn l first v k).length = l.length
  | 0 => rfl
  | k + 1 => by
    unfold tn
    split
    · rw [turnAt_len, tn_len l first v k]
    · exact tn_len l first v k
theorem tn_bit (l : List UInt8) (first v i : Nat) : ∀ k, tbit (tn l first v k) i = tbit l i ^^^ (if first ≤ i ∧ i < first + k ∧ i / 8 < l.length ∧ v / 2 ^ (i - first) % 2 = 1 then 1 else 0)
  | 0 => by
    show tbit l i = _
    rw [if_neg (by omega), Nat.xor_zero]
  | k + 1 => by
    unfold tn
    by_cases hc : v / 2 ^ k % 2 = 1 ∧ (first + k) / 8 < l.length
    · rw [if_pos hc, tbit_turn _ _ _ (by rw [tn_len]; exact hc.2), tn_bit l first v i k, Nat.xor_assoc]
      congr 1
      by_cases hi : i = first + k
      · subst hi
        rw [if_pos rfl, if_neg (by omega), if_pos ⟨by omega, by omega, hc.2, by rw [show first + k - first = k from by omega]; exact hc.1⟩]
        rfl
      · rw [if_neg hi, Nat.xor_zero]
        by_cases h2 : first ≤ i ∧ i < first + k ∧ i / 8 < l.length ∧ v / 2 ^ (i - first) % 2 = 1
        · rw [if_pos h2, if_pos ⟨h2.1, by omega, h2.2.2⟩]
        · rw [if_neg h2, if_neg (by intro h3; exact h2 ⟨h3.1, by omega, h3.2.2⟩)]
    · rw [if_neg hc, tn_bit l first v i k]
      congr 1
      by_cases hi : i = first + k
      · subst hi
        rw [if_neg (by omega), if_neg (by intro h3; exact hc ⟨by have := h3.2.2.2; rwa [show first + k - first = k from by omega] at this, h3.2.2.1⟩)]
      · by_cases h2 : first ≤ i ∧ i < first + k ∧ i / 8 < l.length ∧ v / 2 ^ (i - first) % 2 = 1
        · rw [if_pos h2, if_pos ⟨h2.1, by omega, h2.2.2⟩]
        · rw [if_neg h2, if_neg (by intro h3; exact h2 ⟨h3.1, by omega, h3.2.2⟩)]
theorem low_bit (v j k : Nat) (h : v % 2 ^ j = 0) (hk : k < j) : v / 2 ^ k % 2 = 0 := by
  obtain ⟨d, rfl⟩ : ∃ d, j = k + 1 + d := ⟨j - (k + 1), by omega⟩
  have e : (v % 2 ^ (k + 1 + d)) / 2 ^ k % 2 = v / 2 ^ k % 2 := by
    rw [show 2 ^ (k + 1 + d) = 2 ^ k * (2 * 2 ^ d) from by rw [Nat.pow_add, Nat.pow_succ]; ac_rfl, Nat.mod_mul_right_div_self, Nat.mod_mul_right_mod]
  rw [h, Nat.zero_div] at e
  exact e.symm
theorem tn_same (l : List UInt8) (first v j : Nat) (h : v % 2 ^ j = 0) (hj : ∀ k, j ≤ k → k < 32 → ¬ (first + k) / 8 < l.length) : ∀ k, k ≤ 32 → tn l first v k = l
  | 0, _ => rfl
  | k + 1, hk => by
    unfold tn
    rw [tn_same l first v j h hj k (by omega)]
    by_cases hkj : k < j
    · rw [if_neg (by rw [low_bit v j k h hkj]; rintro ⟨h0, _⟩; cases h0)]
    · rw [if_neg (by rintro ⟨_, h1⟩; exact hj k (by omega) (by omega) h1)]
/-- BITS THAT ARE TURNED CLOSE TOGETHER ARE SEEN: a text with its digest, with bits turned within thirty-two: the digest fits just if nothing is turned -/
theorem burst_seen (s : List UInt8) (first v : Nat) (hf : first < 8 * (s ++ digest s).length) :
    (digest ((tn (s ++ digest s) first v 32).take s.length) == (tn (s ++ digest s) first v 32).drop s.length) = (tn (s ++ digest s) first v 32 == s ++ digest s) := by
  rw [Bool.eq_iff_iff, beq_iff_eq, beq_iff_eq]
  constructor
  · intro h
    have hu : crcRaw (tn (s ++ digest s) first v 32) = cbits 32 4294967295 := by
      have := residue _ _ h.symm
      rwa [List.take_append_drop] at this
    have ht : crcRaw (s ++ digest s) = cbits 32 4294967295 := residue s _ rfl
    rw [raw_st, tn_len] at hu
    rw [raw_st] at ht
    have hlin := stB_lin 4294967295 4294967295 (tbit (tn (s ++ digest s) first v 32)) (tbit (s ++ digest s)) (tbit_lt _) (tbit_lt _) (8 * (s ++ digest s).length)
    rw [hu, ht, Nat.xor_self, Nat.xor_self] at hlin
    generalize hT : s ++ digest s = t at *
    have he : ∀ i, tbit (tn t first v 32) i ^^^ tbit t i = if first ≤ i ∧ i < first + 32 ∧ i / 8 < t.length ∧ v / 2 ^ (i - first) % 2 = 1 then 1 else 0 := by
      intro i
      rw [tn_bit]
      generalize tbit t i = x
      rw [show x ^^^ (if first ≤ i ∧ i < first + 32 ∧ i / 8 < t.length ∧ v / 2 ^ (i - first) % 2 = 1 then 1 else 0) ^^^ x = (x ^^^ x) ^^^ (if first ≤ i ∧ i < first + 32 ∧ i / 8 < t.length ∧ v / 2 ^ (i - first) % 2 = 1 then 1 else 0) from by ac_rfl, Nat.xor_self, Nat.zero_xor]
    obtain ⟨j, hj⟩ : ∃ j, j = min 32 (8 * t.length - first) := ⟨_, rfl⟩
    have hz := burst v first (8 * t.length) j (fun i => tbit (tn t first v 32) i ^^^ tbit t i) (by omega) (by omega)
      (fun i hi => by show _ ^^^ _ = _; rw [he, if_neg (by omega)])
      (fun i hi => by
        show _ ^^^ _ = _
        rw [he, show first + i - first = i from by omega]
        rcases Nat.mod_two_eq_zero_or_one (v / 2 ^ i) with h0 | h0
        · rw [if_neg (by rw [h0]; omega), h0]
        · rw [if_pos ⟨by omega, by omega, by omega, h0⟩, h0])
      (fun i hi => by show _ ^^^ _ = _; rw [he, if_neg (by omega)])
      hlin.symm
    exact tn_same t first v j hz (fun k h1 h2 => by omega) 32 (Nat.le_refl _)
  · intro h
    rw [h, List.take_left', List.drop_left'] <;> rfl
end Go.Proofs.YtlkikkfbennmnaaGreatDoor
namespace Go.Proofs.YtlkikkfbennmnaaGreatDoor
open Go.RowKit
set_option linter.unusedVariables false
/-- an error: nil for 0, else that Errno -/
def errV (n : Int) : Value := if n = 0 then .nilIface else .iface 51 (.int .i64 n)
theorem errV_0 : errV 0 = .nilIface := rfl
theorem errV_pos (n : Int) (h : n ≠ 0) : errV n = .iface 51 (.int .i64 n) := by unfold errV; rw [if_neg h]
end Go.Proofs.YtlkikkfbennmnaaGreatDoor
namespace Go.Proofs.YtlkikkfbennmnaaGreatDoor
open Go.RowKit
theorem put_range (n size : Int) (w : World) (h : size < 0 ∨ 8 < size) :
    Calls Tryz.prog 79 #[.int .u64 n, .int .i64 size] w fun e w' => e = .returned (.tuple #[.string (S []), .iface 51 (.int .i64 2)]) ∧ w = w' := by
  by_cases h1 : size < 0
  · go_enter Tryz.func79, Tryz.ntmps79
    go_wp2_with fail
    go_ret2
    exact ⟨rfl, rfl⟩
  · have h2 : 8 < size := by omega
    go_enter Tryz.func79, Tryz.ntmps79
    go_wp2_with fail
    go_ret2
    exact ⟨rfl, rfl⟩
theorem put_limit (n size : Nat) (w : World) (h : size ≤ 8) (hb : n / 2 ^ (8 * size) ≠ 0) :
    Calls Tryz.prog 79 #[.int .u64 n, .int .i64 size] w fun e w' => e = .returned (.tuple #[.string (S []), .iface 51 (.int .i64 4)]) ∧ w = w' := by
  have hq : ((n : Int) / 2 ^ (8 * size) != 0) = true := by
    rw [bne_iff_ne]; intro h0; apply hb; exact_mod_cast h0
  go_enter Tryz.func79, Tryz.ntmps79
  go_wp2_with fail
  all_goals (go_ret2; exact ⟨rfl, rfl⟩)
theorem put_ok (n size : Nat) (w : World) (h : size ≤ 8) (hb : n / 2 ^ (8 * size) = 0) :
    Calls Tryz.prog 79 #[.int .u64 n, .int .i64 size] w fun e w' => e = .returned (.tuple #[.string (S (be n size)), .nilIface]) ∧ Below w.heap.size w w' := by
  have hq : ((n : Int) / 2 ^ (8 * size) != 0) = false := by
    have : (n : Int) / 2 ^ (8 * size) = 0 := by exact_mod_cast hb
    rw [this]; rfl
  have hA : (#[Value.int IntKind.u8 0, Value.int IntKind.u8 0, Value.int IntKind.u8 0, Value.int IntKind.u8 0,
          Value.int IntKind.u8 0, Value.int IntKind.u8 0, Value.int IntKind.u8 0, Value.int IntKind.u8 0] : Array Value) = cells8 (zs 8) := rfl
  go_enter Tryz.func79, Tryz.ntmps79
  go_wp2_with fail
  go_loopg [22] 9 (fun g c wr => ∃ k : Nat, k ≤ size ∧ g + k = 9 ∧ c = .int .i64 k ∧ wr = w.alloc (.cells (cells8 (putRow n size k)) 210))
  case atStart => exact ⟨0, by omega, by omega, rfl, by rw [putRow_0 n size h]⟩
  case round =>
    obtain ⟨k, hk, hg, rfl, rfl⟩ := hrel
    have hlen := putRow_len n size k hk h
    by_cases hlt : k < size
    · have Hg := Lib.hid hg
      clear hg
      have hc := cells8_get (putRow n size k) (size - 1 - k) (by omega)
      have hst : (cells8 (putRow n size k)).setIfInBounds (size - 1 - k) (.int .u8 ((n : Int) / 2 ^ (8 * k) % 256)) = cells8 (putRow n size (k + 1)) := by
        rw [← byte_cast, cells8_set, putRow_step n size k hlt]
      go_wp2
      go_roundg (gk - 1)
      case measure => have := Hg.out; omega
      case rel => exact ⟨k + 1, by omega, by have := Hg.out; omega, by go_num, rfl⟩
    · have hks : k = size := by omega
      subst hks
      have hrow : putRow n k k = be n k ++ zs (8 - k) := by simp [putRow, zs]
      have hcv := run_string_cells8 (P := Tryz.prog) 63 9 5 Tryz.underlying63 Tryz.underlying5 Tryz.underlying9 w (be n k ++ zs (8 - k)) k 8 210 (by simp [be_len])
      have htk : (be n k ++ zs (8 - k)).take k = be n k := by
        have := be_len n k
        rw [List.take_append_of_le_length (by omega), List.take_of_length_le (by omega)]
      rw [htk] at hcv
      clear htk hg
      go_wp2
      go_ret2
      exact ⟨rfl, (Below.refl _ _).alloc (Nat.le_refl _) _⟩
end Go.Proofs.YtlkikkfbennmnaaGreatDoor
namespace Go.Proofs.YtlkikkfbennmnaaGreatDoor
open Go.RowKit
theorem get_limit (l : List UInt8) (w : World) (h : 8 < l.length) :
    Calls Tryz.prog 67 #[.string (S l)] w fun e w' => e = .returned (.tuple #[.int .u64 0, .iface 51 (.int .i64 4)]) ∧ w = w' := by
  go_enter Tryz.func67, Tryz.ntmps67
  go_wp2_with fail
  go_ret2
  exact ⟨rfl, rfl⟩
theorem get_ok (l : List UInt8) (w : World) (h : l.length ≤ 8) :
    Calls Tryz.prog 67 #[.string (S l)] w fun e w' => e = .returned (.tuple #[.int .u64 (val l : Nat), .nilIface]) ∧ w = w' := by
  go_enter Tryz.func67, Tryz.ntmps67
  go_wp2_with fail
  go_loopg [4, 12] 9 (fun g v c wr => ∃ k : Nat, k ≤ l.length ∧ g + k = 9 ∧ c = .int .i64 k ∧ v = .int .u64 (val (l.take k) : Nat) ∧ wr = w)
  case atStart => exact ⟨0, by omega, by omega, rfl, rfl, rfl⟩
  case round =>
    obtain ⟨k, hk, hg, rfl, rfl, rfl⟩ := hrel
    have Hg := Lib.hid hg
    clear hg
    by_cases hlt : k < l.length
    · have hv := val_snoc (l.take k) l[k]
      rw [← take_succ_snoc l k hlt] at hv
      have hlen : (l.take (k + 1)).length = k + 1 := by simp; omega
      have hlt2 := val_lt (k + 1) (l.take (k + 1)) hlen
      have hpow : 256 ^ (k + 1) ≤ 256 ^ 8 := Nat.pow_le_pow_right (by decide) (by omega)
      have hor := shl_or8 (val (l.take k)) l[k].toNat l[k].toNat_lt (by rw [← hv]; exact Nat.lt_of_lt_of_le hlt2 hpow)
      rw [← hv] at hor
      clear hv hlen hlt2 hpow
      go_wp2
      go_roundg (gk - 1)
      case measure => have := Hg.out; omega
      case rel => exact ⟨k + 1, by omega, by have := Hg.out; omega, by go_num, rfl, rfl⟩
    · have hkl : k = l.length := by omega
      subst hkl
      go_wp2
      go_ret2
      exact ⟨by simp, rfl⟩
end Go.Proofs.YtlkikkfbennmnaaGreatDoor
namespace Go.Proofs.YtlkikkfbennmnaaGreatDoor
open Go.RowKit
def padI (n : Int) : Int := if n < 0 then 0 else (4 - n % 4) % 4
theorem padI_nat (n : Nat) : padI n = (((4 - n % 4) % 4 : Nat) : Int) := by unfold padI; rw [if_neg (by omega)]; omega
theorem padI_bd (n : Int) : 0 ≤ padI n ∧ padI n ≤ 3 := by unfold padI; split <;> omega
theorem pad_any (n : Int) (w : World) : Calls Tryz.prog 76 #[.int .i64 n] w fun e w' => e = .returned (.int .i64 (padI n)) ∧ w = w' := by
  by_cases h : n < 0
  · go_enter Tryz.func76, Tryz.ntmps76
    go_wp2
    go_ret
    exact ⟨ret_int (by unfold padI; rw [if_pos ‹n < 0›]), rfl⟩
  · have h0 : 0 ≤ n := by omega
    go_enter Tryz.func76, Tryz.ntmps76
    go_wp2
    go_ret
    exact ⟨ret_int (by unfold padI; rw [if_neg (by omega)]; omega), rfl⟩
theorem zeros_any (n : Int) (w : World) (h0 : 0 ≤ n) (h3 : n ≤ 3) :
    Calls Tryz.prog 75 #[.int .i64 n] w fun e w' => e = .returned (.string (S (zs n.toNat))) ∧ w = w' := by
  have ht := take_zs n.toNat (by omega)
  go_enter Tryz.func75, Tryz.ntmps75
  go_wp2
  go_ret
  exact ⟨ret_S rfl, rfl⟩
def pad (n : Nat) : Nat := (4 - n % 4) % 4
theorem padI_pad (n : Nat) : padI n = (pad n : Int) := padI_nat n
theorem pad_le (n : Nat) : pad n ≤ 3 := by unfold pad; omega
def padded (l : List UInt8) : List UInt8 := l ++ zs (pad l.length)
theorem padded_any (l : List UInt8) (w : World) (hm : l.length ≤ 4294967280) :
    Calls Tryz.prog 49 #[.string (S l)] w fun e w' => e = .returned (.string (S (padded l))) ∧ w = w' := by
  have hp := pad_le l.length
  go_enter Tryz.func49, Tryz.ntmps49
  go_wp2_with fail
  refine (pad_any _ _).mono ?_
  rintro e w' ⟨rfl, rfl⟩
  rw [padI_pad]
  go_wp2_with fail
  refine (zeros_any _ _ (by omega) (by omega)).mono ?_
  rintro e w' ⟨rfl, rfl⟩
  go_wp2_with fail
  go_ret
  exact ⟨ret_S rfl, rfl⟩
theorem unpad_neg (l : List UInt8) (n : Int) (w : World) (h : n < 0) :
    Calls Tryz.prog 98 #[.string (S l), .int .i64 n] w fun e w' => e = .returned (.tuple #[.string (S []), .int .i64 0, .iface 51 (.int .i64 2)]) ∧ w = w' := by
  go_enter Tryz.func98, Tryz.ntmps98
  go_wp2_with fail
  go_ret3
  exact ⟨rfl, rfl⟩
theorem unpad_few (l : List UInt8) (n : Nat) (w : World) (hl : l.length ≤ 4294967280) (h : l.length < n ∨ l.length < n + pad n) :
    Calls Tryz.prog 98 #[.string (S l), .int .i64 n] w fun e w' => e = .returned (.tuple #[.string (S []), .int .i64 0, .iface 51 (.int .i64 7)]) ∧ w = w' := by
  have hp := pad_le n
  by_cases h1 : l.length < n
  · have hd : decide ((l.length : Int) < n) = true := by simpa using h1
    go_enter Tryz.func98, Tryz.ntmps98
    go_wp2_with fail
    refine (pad_any _ _).mono ?_
    rintro e w' ⟨rfl, rfl⟩
    rw [padI_pad]
    go_wp2_with fail
    go_ret3
    exact ⟨rfl, rfl⟩
  · have hd : decide ((l.length : Int) < n) = false := by simpa using h1
    go_enter Tryz.func98, Tryz.ntmps98
    go_wp2_with fail
    refine (pad_any _ _).mono ?_
    rintro e w' ⟨rfl, rfl⟩
    rw [padI_pad]
    go_wp2_with fail
    go_ret3
    exact ⟨rfl, rfl⟩
theorem unpad_bad (l : List UInt8) (n : Nat) (w : World) (hl : l.length ≤ 4294967280) (h : n + pad n ≤ l.length) (hb : ((l.drop n).take (pad n) == zs (pad n)) = false) :
    Calls Tryz.prog 98 #[.string (S l), .int .i64 n] w fun e w' => e = .returned (.tuple #[.string (S []), .int .i64 0, .iface 51 (.int .i64 3)]) ∧ ∃ m, w' = w.drewN m := by
  have hp := pad_le n
  have h1 : ¬ l.length < n := by omega
  have hd : decide ((l.length : Int) < n) = false := by simpa using h1
  go_enter Tryz.func98, Tryz.ntmps98
  go_wp2_with fail
  refine (pad_any _ _).mono ?_
  rintro e w' ⟨rfl, rfl⟩
  rw [padI_pad]
  go_wp2_with fail
  go_quiet ((go_at_call 75; exact quiet_left (zeros_any _ _ (by omega) (by omega))))
  go_wp2_with fail
  go_ret3
  exact ⟨rfl, _, rfl⟩
theorem unpad_ok (l : List UInt8) (n : Nat) (w : World) (hl : l.length ≤ 4294967280) (h : n + pad n ≤ l.length) (hb : ((l.drop n).take (pad n) == zs (pad n)) = true) :
    Calls Tryz.prog 98 #[.string (S l), .int .i64 n] w fun e w' => e = .returned (.tuple #[.string (S (l.take n)), .int .i64 (n + pad n : Nat), .nilIface]) ∧ ∃ m, w' = w.drewN m := by
  have hp := pad_le n
  have h1 : ¬ l.length < n := by omega
  have hd : decide ((l.length : Int) < n) = false := by simpa using h1
  go_enter Tryz.func98, Tryz.ntmps98
  go_wp2_with fail
  refine (pad_any _ _).mono ?_
  rintro e w' ⟨rfl, rfl⟩
  rw [padI_pad]
  go_wp2_with fail
  go_quiet ((go_at_call 75; exact quiet_left (zeros_any _ _ (by omega) (by omega))))
  go_wp2_with fail
  go_ret3
  exact ⟨by simp, _, rfl⟩
end Go.Proofs.YtlkikkfbennmnaaGreatDoor
namespace Go.Proofs.YtlkikkfbennmnaaGreatDoor
open Go.RowKit
set_option linter.unusedVariables false
/-- Unpad's error, text and length -/
def unpE (l : List UInt8) (n : Int) : Int :=
  if n < 0 then 2 else if l.length < n.toNat + pad n.toNat then 7 else if ((l.drop n.toNat).take (pad n.toNat) == zs (pad n.toNat)) = true then 0 else 3
def unpS (l : List UInt8) (n : Int) : List UInt8 := if unpE l n = 0 then l.take n.toNat else []
def unpK (l : List UInt8) (n : Int) : Int := if unpE l n = 0 then ((n.toNat + pad n.toNat : Nat) : Int) else 0
theorem unpad_all (l : List UInt8) (n : Int) (w : World) (hl : l.length ≤ 4294967280) :
    Calls Tryz.prog 98 #[.string (S l), .int .i64 n] w fun e w' => e = .returned (.tuple #[.string (S (unpS l n)), .int .i64 (unpK l n), errV (unpE l n)]) ∧ Below w.heap.size w w' := by
  unfold unpS unpK
  by_cases h : n < 0
  · have he : unpE l n = 2 := by unfold unpE; rw [if_pos h]
    rw [he, errV_pos 2 (by decide)]
    exact (unpad_neg l n w h).mono fun e w' ⟨he, hw⟩ => ⟨he, hw ▸ Below.refl _ _⟩
  · obtain ⟨k, rfl⟩ := Int.eq_ofNat_of_zero_le (show 0 ≤ n by omega)
    rw [Int.toNat_natCast]
    by_cases hf : l.length < k + pad k
    · have he : unpE l k = 7 := by unfold unpE; rw [if_neg h, Int.toNat_natCast, if_pos hf]
      rw [he, errV_pos 7 (by decide)]
      exact (unpad_few l k w hl (.inr hf)).mono fun e w' ⟨he, hw⟩ => ⟨he, hw ▸ Below.refl _ _⟩
    · by_cases hz : ((l.drop k).take (pad k) == zs (pad k)) = true
      · have he : unpE l k = 0 := by unfold unpE; rw [if_neg h, Int.toNat_natCast, if_neg hf, if_pos hz]
        rw [he, errV_0]
        exact (unpad_ok l k w hl (by omega) hz).mono fun e w' ⟨he, m, hw⟩ => ⟨he, hw ▸ below_drawn m⟩
      · have he : unpE l k = 3 := by unfold unpE; rw [if_neg h, Int.toNat_natCast, if_neg hf, if_neg hz]
        rw [he, errV_pos 3 (by decide)]
        exact (unpad_bad l k w hl (by omega) (by simpa using hz)).mono fun e w' ⟨he, m, hw⟩ => ⟨he, hw ▸ below_drawn m⟩
end Go.Proofs.YtlkikkfbennmnaaGreatDoor
namespace Go.Proofs.YtlkikkfbennmnaaGreatDoor
open Go.RowKit
/-- a header: its kind, its data -/
structure Ah where
  k : Int
  d : List UInt8
def sizeA (a : Ah) : Nat := 3 + a.d.length + pad (3 + a.d.length)
def wrA (a : Ah) : List UInt8 := padded (be a.d.length 2 ++ be a.k.toNat 1 ++ a.d)
theorem wrA_len (a : Ah) : (wrA a).length = sizeA a := by
  have e : (be a.d.length 2 ++ be a.k.toNat 1 ++ a.d).length = 3 + a.d.length := by
    simp only [List.length_append, be_len]
  unfold wrA padded sizeA
  rw [List.length_append, zs_len, e]
theorem sizeA_pos (a : Ah) : 3 ≤ sizeA a := by unfold sizeA; omega
theorem sizeA_4 (a : Ah) : sizeA a % 4 = 0 := by unfold sizeA pad; omega
def wrL (l : List Ah) : List UInt8 := l.flatMap wrA
theorem wrL_nil : wrL [] = [] := rfl
theorem wrL_cons (a : Ah) (l : List Ah) : wrL (a :: l) = wrA a ++ wrL l := rfl
theorem wrL_app (l m : List Ah) : wrL (l ++ m) = wrL l ++ wrL m := by simp [wrL]
theorem wrL_one (a : Ah) : wrL [a] = wrA a := by simp [wrL]
theorem wrL_4 : ∀ l : List Ah, (wrL l).length % 4 = 0
  | [] => rfl
  | a :: l => by
    have := wrL_4 l
    have := sizeA_4 a
    rw [wrL_cons, List.length_append, wrA_len]; omega
/-- what is wrong: the error's number, its place -/
def rightF : Nat → Nat → List Ah → Int × Int
  | _, _, [] => (0, -1)
  | all, i, a :: l => if a.k < 0 ∨ 255 < a.k then (2, (i : Int)) else if 1020 < all + sizeA a then (4, (i : Int)) else rightF (all + sizeA a) (i + 1) l
theorem rightF_cons (all i : Nat) (a : Ah) (l : List Ah) : rightF all i (a :: l) = if a.k < 0 ∨ 255 < a.k then (2, (i : Int)) else if 1020 < all + sizeA a then (4, (i : Int)) else rightF (all + sizeA a) (i + 1) l := rfl
def rightA (l : List Ah) : Int × Int := rightF 0 0 l
def writeA (l : List Ah) : List UInt8 × Int × Int := if (rightA l).1 = 0 then (wrL l, 0, -1) else ([], rightA l)
/-- the kinds are what they may be -/
def okK (l : List Ah) : Prop := ∀ a ∈ l, 0 ≤ a.k ∧ a.k ≤ 255
theorem rightF_ok : ∀ (l : List Ah) (all i : Nat), okK l → all + (wrL l).length ≤ 1020 → rightF all i l = (0, -1)
  | [], _, _, _, _ => rfl
  | a :: l, all, i, hk, hs => by
    have ha := hk a (List.mem_cons_self ..)
    rw [wrL_cons, List.length_append, wrA_len] at hs
    unfold rightF
    rw [if_neg (by omega), if_neg (by omega)]
    exact rightF_ok l _ _ (fun b hb => hk b (List.mem_cons_of_mem _ hb)) (by omega)
theorem rightF_is : ∀ (l : List Ah) (all i : Nat), (rightF all i l).1 = 0 → okK l ∧ (l ≠ [] → all + (wrL l).length ≤ 1020) ∧ rightF all i l = (0, -1)
  | [], _, _, _ => ⟨fun _ h => absurd h List.not_mem_nil, fun h => absurd rfl h, rfl⟩
  | a :: l, all, i, h => by
    unfold rightF at h ⊢
    by_cases h1 : a.k < 0 ∨ 255 < a.k
    · rw [if_pos h1] at h; exact absurd h (by simp)
    · rw [if_neg h1] at h ⊢
      by_cases h2 : 1020 < all + sizeA a
      · rw [if_pos h2] at h; exact absurd h (by simp)
      · rw [if_neg h2] at h ⊢
        obtain ⟨k1, k2, k3⟩ := rightF_is l _ _ h
        refine ⟨fun b hb => ?_, fun _ => ?_, k3⟩
        · rcases List.mem_cons.1 hb with rfl | hb
          · omega
          · exact k1 b hb
        · rw [wrL_cons, List.length_append, wrA_len]
          by_cases hl : l = []
          · subst hl; simp [wrL_nil]; omega
          · have := k2 hl; omega
theorem rightA_is (l : List Ah) (h : (rightA l).1 = 0) : okK l ∧ (wrL l).length ≤ 1020 ∧ rightA l = (0, -1) := by
  obtain ⟨k1, k2, k3⟩ := rightF_is l 0 0 h
  refine ⟨k1, ?_, k3⟩
  by_cases hl : l = []
  · subst hl; simp [wrL_nil]
  · have := k2 hl; omega
theorem rightA_ok {l : List Ah} (hk : okK l) (hs : (wrL l).length ≤ 1020) : rightA l = (0, -1) := rightF_ok l 0 0 hk (by omega)
theorem writeA_ok {l : List Ah} (hk : okK l) (hs : (wrL l).length ≤ 1020) : writeA l = (wrL l, 0, -1) := by
  unfold writeA
  rw [rightA_ok hk hs, if_pos rfl]
theorem rightF_n : ∀ (l : List Ah) (all i : Nat), (rightF all i l).1 = 0 ∨ (rightF all i l).1 = 2 ∨ (rightF all i l).1 = 4
  | [], _, _ => .inl rfl
  | a :: l, all, i => by
    unfold rightF
    split
    · exact .inr (.inl rfl)
    · split
      · exact .inr (.inr rfl)
      · exact rightF_n l _ _
theorem rightF_app : ∀ (l m : List Ah) (all i : Nat), okK l → all + (wrL l).length ≤ 1020 → rightF all i (l ++ m) = rightF (all + (wrL l).length) (i + l.length) m
  | [], m, all, i, _, _ => by simp [wrL_nil]
  | a :: l, m, all, i, hk, hs => by
    have ha := hk a (List.mem_cons_self ..)
    rw [wrL_cons, List.length_append, wrA_len] at hs ⊢
    rw [List.cons_append, rightF_cons]
    rw [if_neg (by omega), if_neg (by omega)]
    rw [rightF_app l m _ _ (fun b hb => hk b (List.mem_cons_of_mem _ hb)) (by omega)]
    rw [List.length_cons, show all + sizeA a + (wrL l).length = all + (sizeA a + (wrL l).length) by omega, show i + 1 + l.length = i + (l.length + 1) by omega]
theorem rightF_much : ∀ (l : List Ah) (all i : Nat), okK l → l ≠ [] → 1020 < all + (wrL l).length → (rightF all i l).1 = 4
  | [], _, _, _, h, _ => absurd rfl h
  | a :: l, all, i, hk, _, hs => by
    have ha := hk a (List.mem_cons_self ..)
    rw [wrL_cons, List.length_append, wrA_len] at hs
    unfold rightF
    rw [if_neg (by omega)]
    by_cases h2 : 1020 < all + sizeA a
    · rw [if_pos h2]
    · rw [if_neg h2]
      by_cases hl : l = []
      · subst hl; simp [wrL_nil] at hs; omega
      · exact rightF_much l _ _ (fun b hb => hk b (List.mem_cons_of_mem _ hb)) hl (by omega)
/-- what bytes begin with: an error's number, else 0 and the header -/
def firstA (s : List UInt8) : Int × Ah :=
  if s.length < 3 then (7, ⟨0, []⟩) else
  if s.length < 3 + val (s.take 2) + pad (3 + val (s.take 2)) then (7, ⟨0, []⟩) else
  if ((s.drop (3 + val (s.take 2))).take (pad (3 + val (s.take 2))) == zs (pad (3 + val (s.take 2)))) = true then (0, ⟨((s.getD 2 0).toNat : Int), (s.drop 3).take (val (s.take 2))⟩) else (3, ⟨0, []⟩)
/-- the headers that bytes from place p on are, behind those that are read -/
def readF : Nat → Nat → List UInt8 → List Ah → List Ah × Int × Int
  | 0, _, _, acc => (acc, 0, -1)
  | f + 1, p, s, acc => if s = [] then (acc, 0, -1) else if (firstA s).1 = 0 then readF f (p + sizeA (firstA s).2) (s.drop (sizeA (firstA s).2)) (acc ++ [(firstA s).2]) else ([], (firstA s).1, (p : Int))
theorem readF_succ (f p : Nat) (s : List UInt8) (acc : List Ah) : readF (f + 1) p s acc = if s = [] then (acc, 0, -1) else if (firstA s).1 = 0 then readF f (p + sizeA (firstA s).2) (s.drop (sizeA (firstA s).2)) (acc ++ [(firstA s).2]) else ([], (firstA s).1, (p : Int)) := rfl
def readA (s : List UInt8) : List Ah × Int × Int := if 1020 < s.length then ([], 4, -1) else readF s.length 0 s []
theorem firstA_few {s : List UInt8} (h : s.length < 3) : firstA s = (7, ⟨0, []⟩) := by unfold firstA; rw [if_pos h]
theorem firstA_more {s : List UInt8} (h : 3 ≤ s.length) (h2 : s.length < 3 + val (s.take 2) + pad (3 + val (s.take 2))) : firstA s = (7, ⟨0, []⟩) := by
  unfold firstA; rw [if_neg (by omega), if_pos h2]
theorem firstA_form {s : List UInt8} (h : 3 ≤ s.length) (h2 : 3 + val (s.take 2) + pad (3 + val (s.take 2)) ≤ s.length) (h3 : ((s.drop (3 + val (s.take 2))).take (pad (3 + val (s.take 2))) == zs (pad (3 + val (s.take 2)))) = false) : firstA s = (3, ⟨0, []⟩) := by
  unfold firstA; rw [if_neg (by omega), if_neg (by omega), h3]; rfl
theorem firstA_ok {s : List UInt8} (h : 3 ≤ s.length) (h2 : 3 + val (s.take 2) + pad (3 + val (s.take 2)) ≤ s.length) (h3 : ((s.drop (3 + val (s.take 2))).take (pad (3 + val (s.take 2))) == zs (pad (3 + val (s.take 2)))) = true) :
    firstA s = (0, ⟨((s.getD 2 0).toNat : Int), (s.drop 3).take (val (s.take 2))⟩) := by
  unfold firstA; rw [if_neg (by omega), if_neg (by omega), if_pos h3]
theorem sizeA_of {s : List UInt8} {x : Int} {n : Nat} (h2 : 3 + n + pad (3 + n) ≤ s.length) : sizeA ⟨x, (s.drop 3).take n⟩ = 3 + n + pad (3 + n) := by
  have e : ((s.drop 3).take n).length = n := by simp; omega
  unfold sizeA
  simp only
  rw [e]
theorem val2_lt (s : List UInt8) : val (s.take 2) < 65536 := by
  have h := val_lt (s.take 2).length (s.take 2) rfl
  have h2 : (s.take 2).length ≤ 2 := List.length_take_le _ _
  have h3 : 256 ^ (s.take 2).length ≤ 256 ^ 2 := Nat.pow_le_pow_right (by decide) h2
  omega
theorem firstA_n (s : List UInt8) : (firstA s).1 = 0 ∨ (firstA s).1 = 7 ∨ (firstA s).1 = 3 := by
  unfold firstA
  split
  · exact .inr (.inl rfl)
  · split
    · exact .inr (.inl rfl)
    · split
      · exact .inl rfl
      · exact .inr (.inr rfl)
/-- where it is read, the bytes begin with what is written -/
theorem firstA_wr {s : List UInt8} (h : (firstA s).1 = 0) : (0 ≤ (firstA s).2.k ∧ (firstA s).2.k ≤ 255) ∧ sizeA (firstA s).2 ≤ s.length ∧ wrA (firstA s).2 = s.take (sizeA (firstA s).2) := by
  by_cases h1 : s.length < 3
  · rw [firstA_few h1] at h; exact absurd h (by decide)
  by_cases h2 : s.length < 3 + val (s.take 2) + pad (3 + val (s.take 2))
  · rw [firstA_more (by omega) h2] at h; exact absurd h (by decide)
  cases h3 : ((s.drop (3 + val (s.take 2))).take (pad (3 + val (s.take 2))) == zs (pad (3 + val (s.take 2)))) with
  | false => rw [firstA_form (by omega) (by omega) h3] at h; exact absurd h (by decide)
  | true =>
    rw [firstA_ok (by omega) (by omega) h3]
    simp only
    rw [sizeA_of (by omega)]
    match s, h1 with
    | a :: b :: c :: t, _ =>
      have e2 : List.take 2 (a :: b :: c :: t) = [a, b] := rfl
      simp only [e2] at *
      obtain ⟨n, hn⟩ : ∃ n, val [a, b] = n := ⟨_, rfl⟩
      have hb : be n 2 = [a, b] := by rw [← hn]; exact be_val [a, b]
      have hc1 : be c.toNat 1 = [c] := by
        have := be_val [c]
        rwa [show val [c] = c.toNat by simp [val]] at this
      rw [hn] at h2 h3 ⊢
      have hcl := c.toNat_lt
      simp only [List.length_cons] at h2 ⊢
      have hd : List.drop (3 + n) (a :: b :: c :: t) = t.drop n := by rw [show 3 + n = n + 3 by omega]; rfl
      rw [hd] at h3
      have h3' := eq_of_beq h3
      refine ⟨⟨by simp, by simp; omega⟩, by omega, ?_⟩
      have hl : ((List.drop 3 (a :: b :: c :: t)).take n).length = n := by simp; omega
      unfold wrA padded
      simp only
      rw [hl, hb]
      have e4 : (([c].getD 0 0).toNat : Int) = (c.toNat : Int) := rfl
      have e5 : be ((((a :: b :: c :: t).getD 2 0).toNat : Int)).toNat 1 = [c] := by
        show be (((c.toNat : Nat) : Int)).toNat 1 = [c]
        rw [Int.toNat_natCast]; exact hc1
      rw [e5]
      have e6 : ([a, b] ++ [c] ++ List.take n (List.drop 3 (a :: b :: c :: t))).length = 3 + n := by
        rw [List.length_append, hl]; rfl
      rw [e6, ← h3']
      have e7 : List.take (3 + n + pad (3 + n)) (a :: b :: c :: t) = [a, b] ++ [c] ++ t.take (n + pad (3 + n)) := by
        rw [show 3 + n + pad (3 + n) = (n + pad (3 + n)) + 3 by omega]; rfl
      rw [e7, List.take_add]
      show ([a, b] ++ [c] ++ List.take n t) ++ List.take (pad (3 + n)) (List.drop n t) = _
      rw [List.append_assoc]
/-- what is written is read, whatever stands behind -/
theorem firstA_of (a : Ah) (t : List UInt8) (hk : 0 ≤ a.k ∧ a.k ≤ 255) (hd : a.d.length < 65536) : firstA (wrA a ++ t) = (0, a) := by
  obtain ⟨k, d⟩ := a
  simp only at hk hd
  obtain ⟨c, rfl⟩ : ∃ c : Nat, k = c := ⟨k.toNat, by omega⟩
  have hc : c < 256 := by omega
  have e2 : val (be d.length 2) = d.length := val_be _ _ (by omega)
  obtain ⟨x, y, hxy⟩ : ∃ x y, be d.length 2 = [x, y] := ⟨_, _, rfl⟩
  obtain ⟨z, hz⟩ : ∃ z, be c 1 = [z] := ⟨_, rfl⟩
  have ez : z.toNat = c := by
    have := val_be c 1 (by omega)
    rw [hz] at this
    simpa [val] using this
  have hs : wrA ⟨(c : Int), d⟩ ++ t = x :: y :: z :: (d ++ zs (pad (3 + d.length)) ++ t) := by
    unfold wrA padded
    simp only [Int.toNat_natCast]
    rw [hxy, hz]
    have e6 : ([x, y] ++ [z] ++ d).length = 3 + d.length := by simp; omega
    rw [e6]
    simp
  have ht : List.take 2 (x :: y :: z :: (d ++ zs (pad (3 + d.length)) ++ t)) = [x, y] := rfl
  rw [hs]
  rw [hxy] at e2
  have hlen : (x :: y :: z :: (d ++ zs (pad (3 + d.length)) ++ t)).length = 3 + d.length + pad (3 + d.length) + t.length := by simp [zs_len]; omega
  rw [firstA_ok (by omega) (by rw [ht, e2, hlen]; omega) (by
    rw [ht, e2]
    have e8 : List.drop (3 + d.length) (x :: y :: z :: (d ++ zs (pad (3 + d.length)) ++ t)) = zs (pad (3 + d.length)) ++ t := by
      rw [show 3 + d.length = d.length + 3 by omega]
      show List.drop d.length (d ++ zs (pad (d.length + 3)) ++ t) = _
      rw [List.append_assoc, List.drop_left]
    rw [e8, List.take_left' (zs_len _)]
    exact beq_self_eq_true _)]
  rw [ht, e2]
  have e9 : List.take d.length (List.drop 3 (x :: y :: z :: (d ++ zs (pad (3 + d.length)) ++ t))) = d := by
    show List.take d.length (d ++ zs (pad (3 + d.length)) ++ t) = d
    rw [List.append_assoc, List.take_left]
  rw [e9]
  show ((0 : Int), (⟨((z.toNat : Nat) : Int), d⟩ : Ah)) = _
  rw [ez]
/-- a piece of what is written is none -/
theorem firstA_cut (a : Ah) (m : Nat) (hd : a.d.length < 65536) (hm : m < sizeA a) : firstA ((wrA a).take m) = (7, ⟨0, []⟩) := by
  have hl := wrA_len a
  have hlm : ((wrA a).take m).length = m := by simp; omega
  by_cases h3 : m < 3
  · exact firstA_few (by omega)
  · have e2 : ((wrA a).take m).take 2 = be a.d.length 2 := by
      rw [List.take_take, Nat.min_eq_left (by omega)]
      unfold wrA padded
      rw [List.append_assoc, List.append_assoc, List.take_left' (be_len _ _)]
    refine firstA_more (by omega) ?_
    rw [e2, val_be _ _ (by omega), hlm]
    unfold sizeA at hm
    omega
theorem readF_nil (f p : Nat) (acc : List Ah) : readF f p [] acc = (acc, 0, -1) := by
  cases f with
  | zero => rfl
  | succ f => unfold readF; rw [if_pos rfl]
/-- headers that are written ahead are read -/
theorem readF_app : ∀ (l : List Ah) (f p : Nat) (t : List UInt8) (acc : List Ah), okK l → (∀ a ∈ l, a.d.length < 65536) → (wrL l).length + t.length ≤ f →
    ∃ f', t.length ≤ f' ∧ readF f p (wrL l ++ t) acc = readF f' (p + (wrL l).length) t (acc ++ l)
  | [], f, p, t, acc, _, _, hf => ⟨f, by simpa [wrL_nil] using hf, by simp [wrL_nil]⟩
  | a :: l, f, p, t, acc, hk, hd, hf => by
    have hpos := sizeA_pos a
    have hla := wrA_len a
    rw [wrL_cons, List.length_append] at hf ⊢
    obtain ⟨f1, rfl⟩ : ∃ f1, f = f1 + 1 := ⟨f - 1, by omega⟩
    obtain ⟨f', h1, h2⟩ := readF_app l f1 (p + sizeA a) t (acc ++ [a]) (fun b hb => hk b (List.mem_cons_of_mem _ hb)) (fun b hb => hd b (List.mem_cons_of_mem _ hb)) (by omega)
    refine ⟨f', h1, ?_⟩
    have hfst := firstA_of a (wrL l ++ t) (hk a (List.mem_cons_self ..)) (hd a (List.mem_cons_self ..))
    rw [List.append_assoc, readF_succ]
    rw [if_neg (fun e => by have := congrArg List.length e; simp at this; rw [this.1] at hla; simp at hla; omega), hfst, if_pos rfl]
    simp only
    rw [← hla, List.drop_left, hla, h2, List.append_assoc]
    rw [show p + sizeA a + (wrL l).length = p + (sizeA a + (wrL l).length) by omega]
    rfl
theorem data_lt {l : List Ah} (h : (wrL l).length ≤ 1020) : ∀ a ∈ l, a.d.length < 65536 := by
  induction l with
  | nil => exact fun _ h => absurd h List.not_mem_nil
  | cons a l ih =>
    rw [wrL_cons, List.length_append, wrA_len] at h
    intro b hb
    rcases List.mem_cons.1 hb with rfl | hb
    · unfold sizeA at h; omega
    · exact ih (by omega) b hb
theorem readA_write {l : List Ah} (hk : okK l) (hs : (wrL l).length ≤ 1020) : readA (wrL l) = (l, 0, -1) := by
  unfold readA
  rw [if_neg (by omega)]
  obtain ⟨f', _, h⟩ := readF_app l (wrL l).length 0 [] [] hk (data_lt hs) (by simp)
  rw [List.append_nil] at h
  rw [h, readF_nil, List.nil_append]
theorem read_cut {l : List Ah} {a : Ah} (hk : okK (l ++ [a])) (hs : (wrL (l ++ [a])).length ≤ 1020) (m : Nat) (h0 : 0 < m) (hm : m < sizeA a) : readA ((wrL (l ++ [a])).take ((wrL l).length + m)) = ([], 7, ((wrL l).length : Int)) := by
  have hd := data_lt hs
  have hla := wrA_len a
  rw [wrL_app, wrL_one] at hs ⊢
  rw [List.take_length_add_append]
  have hlen : (wrL l ++ (wrA a).take m).length = (wrL l).length + m := by simp; omega
  rw [List.length_append] at hs
  unfold readA
  rw [if_neg (by omega)]
  obtain ⟨f', h1, h⟩ := readF_app l (wrL l ++ (wrA a).take m).length 0 ((wrA a).take m) [] (fun b hb => hk b (List.mem_append_left _ hb)) (fun b hb => hd b (List.mem_append_left _ hb)) (by rw [List.length_append]; exact Nat.le_refl _)
  have hlm : ((wrA a).take m).length = m := by simp; omega
  obtain ⟨f1, rfl⟩ : ∃ f1, f' = f1 + 1 := ⟨f' - 1, by omega⟩
  rw [h, readF_succ]
  rw [if_neg (fun e => by rw [e] at hlm; simp at hlm; omega), firstA_cut a m (hd a (by simp)) hm, if_neg (by decide)]
  simp
/-- what is read is written so -/
theorem readF_is : ∀ (f p : Nat) (s : List UInt8) (acc : List Ah), s.length ≤ f → (readF f p s acc).2.1 = 0 → ∃ m, (readF f p s acc) = (acc ++ m, 0, -1) ∧ okK m ∧ wrL m = s
  | 0, p, s, acc, hf, _ => by
    obtain rfl : s = [] := List.eq_nil_of_length_eq_zero (by omega)
    exact ⟨[], by simp [readF], fun _ h => absurd h List.not_mem_nil, rfl⟩
  | f + 1, p, s, acc, hf, h => by
    by_cases hs : s = []
    · subst hs
      rw [readF_nil]
      exact ⟨[], by simp, fun _ h => absurd h List.not_mem_nil, rfl⟩
    · rw [readF_succ] at h ⊢
      rw [if_neg hs] at h ⊢
      by_cases h1 : (firstA s).1 = 0
      · rw [if_pos h1] at h ⊢
        obtain ⟨k, hz, hw⟩ := firstA_wr h1
        have hpos := sizeA_pos (firstA s).2
        obtain ⟨m, e, hk, hm⟩ := readF_is f _ _ _ (by rw [List.length_drop]; omega) h
        refine ⟨(firstA s).2 :: m, ?_, fun b hb => ?_, ?_⟩
        · rw [e, List.append_assoc]; rfl
        · rcases List.mem_cons.1 hb with rfl | hb
          · exact k
          · exact hk b hb
        · rw [wrL_cons, hm, hw, List.take_append_drop]
      · rw [if_neg h1] at h
        exact absurd h h1
theorem writeA_read {s : List UInt8} (h : (readA s).2.1 = 0) : ∃ l, readA s = (l, 0, -1) ∧ okK l ∧ wrL l = s ∧ (wrL l).length ≤ 1020 := by
  unfold readA at h ⊢
  by_cases h1 : 1020 < s.length
  · rw [if_pos h1] at h; exact absurd h (by decide)
  · rw [if_neg h1] at h ⊢
    obtain ⟨m, e, hk, hm⟩ := readF_is _ _ _ _ (Nat.le_refl _) h
    exact ⟨m, by rw [e]; rfl, hk, hm, by rw [hm]; omega⟩
theorem readF_bad : ∀ (f p : Nat) (s : List UInt8) (acc : List Ah), (readF f p s acc).2.1 ≠ 0 → (readF f p s acc).1 = []
  | 0, _, _, _, h => absurd rfl h
  | f + 1, p, s, acc, h => by
    unfold readF at h ⊢
    split at h
    · exact absurd rfl h
    · split at h
      · rename_i h1 h2
        rw [if_neg h1, if_pos h2]
        exact readF_bad f _ _ _ h
      · rename_i h1 h2
        rw [if_neg h1, if_neg h2]
theorem readA_bad {s : List UInt8} (h : (readA s).2.1 ≠ 0) : (readA s).1 = [] := by
  unfold readA at h ⊢
  by_cases h1 : 1020 < s.length
  · rw [if_pos h1]
  · rw [if_neg h1] at h ⊢
    exact readF_bad _ _ _ _ h
end Go.Proofs.YtlkikkfbennmnaaGreatDoor
