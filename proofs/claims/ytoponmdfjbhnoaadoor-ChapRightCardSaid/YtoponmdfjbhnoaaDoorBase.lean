/- Plain vocabulary of the texts of this seat: strings as lists of bytes. No program stands in it. -/
import Derived.WalkKit
import Derived.WalkSpells
import Derived.WalkLawsBesides
import Derived.Below
import Derived.Lib.Hide
import Derived.Laws.BitsAllLaws
import Derived.Lib.Strings
import Derived.Outline
import Derived.BigQuiet
import Derived.Deep.QuietTactic
import Derived.Deep.RegionWith
import Derived.Deep.LoopGhost
import Derived.Deep.DeepFit
namespace Go.Proofs.YtoponmdfjbhnoaaDoor
open Go.RowKit

/-- a string of these bytes -/
def S (l : List UInt8) : ByteArray := ⟨l.toArray⟩
@[go_sem] theorem S_size (l : List UInt8) : (S l).size = l.length := by simp [S, ByteArray.size]
@[go_sem] theorem S_append (a b : List UInt8) : S a ++ S b = S (a ++ b) := by apply ByteArray.ext; simp [S]
@[go_sem] theorem S_extract (l : List UInt8) (a b : Nat) : (S l).extract a b = S ((l.drop a).take (b - a)) := ByteArray.extract_mk l a b
@[go_sem] theorem S_toList (l : List UInt8) : (S l).toList = l := by rw [Lib.toList_data]; simp [S]
@[go_sem] theorem S_mk (l : List UInt8) : ByteArray.mk l.toArray = S l := rfl
@[go_sem] theorem S_get (l : List UInt8) (i : Nat) (h : i < (S l).size) : (S l)[i]'h = l[i]'(by rw [S_size] at h; exact h) := by simp [S, ByteArray.getElem_eq_getElem_data]
theorem S_of (s : ByteArray) : ∃ l, s = S l := ⟨s.data.toList, by apply ByteArray.ext; simp [S]⟩
theorem S_inj {a b : List UInt8} (h : S a = S b) : a = b := by have := congrArg ByteArray.toList h; simpa [S_toList] using this
theorem ret_int {k : IntKind} {a b : Int} (h : a = b) : Ending.returned (.int k a) = .returned (.int k b) := by rw [h]
theorem ret_S {a b : List UInt8} (h : a = b) : Ending.returned (.string (S a)) = .returned (.string (S b)) := by rw [h]
theorem below_drewN {B : Nat} {a w : World} (h : Below B a w) (n : Nat) : Below B a (w.drewN n) := ⟨h.os, h.tape, h.output, h.size, h.block⟩
theorem quiet_add_left {P : Program} {f : FuncId} {args : Array Value} {w : World} {a n : Nat} {v : Value}
    (h : Calls P f args (w.drewN (a + n)) fun e w' => e = .returned v ∧ w.drewN (a + n) = w') :
    Calls P f args (w.drewN (a + n)) fun e w'' => e = .returned v ∧ ∃ m, w'' = w.drewN (a + m) :=
  h.mono fun _ _ ⟨he, hm⟩ => ⟨he, n, hm.symm⟩
theorem quiet_left {P : Program} {f : FuncId} {args : Array Value} {w : World} {n : Nat} {v : Value}
    (h : Calls P f args (w.drewN n) fun e w' => e = .returned v ∧ w.drewN n = w') : Calls P f args (w.drewN n) fun e w'' => e = .returned v ∧ ∃ m, w'' = w.drewN m :=
  h.mono fun _ _ ⟨he, hm⟩ => ⟨he, n, hm.symm⟩
theorem bcell {W w1 : World} (hb : Below W.heap.size W w1) : (∀ b o, b < W.heap.size → w1.cell? ⟨b, o, none⟩ = W.cell? ⟨b, o, none⟩) ∧ (∀ b o, b < W.heap.size → w1.frozen? ⟨b, o, none⟩ = W.frozen? ⟨b, o, none⟩) :=
  ⟨fun b o h => hb.cell (p := ⟨b, o, none⟩) h, fun b o h => hb.frozen (p := ⟨b, o, none⟩) h⟩
/-- cells of bytes -/
def cells8 (l : List UInt8) : Array Value := (l.map fun b => Value.int .u8 (b.toNat : Int)).toArray
@[go_sem] theorem cells8_size (l : List UInt8) : (cells8 l).size = l.length := by simp [cells8]
theorem cells8_set (l : List UInt8) (i : Nat) (b : UInt8) : (cells8 l).setIfInBounds i (.int .u8 (b.toNat : Int)) = cells8 (l.set i b) := by
  simp [cells8, List.map_set]
theorem cells8_get (l : List UInt8) (i : Nat) (h : i < l.length) : (cells8 l)[i]? = some (.int .u8 (l[i].toNat : Int)) := by
  simp [cells8, List.getElem?_eq_getElem h]
theorem run_string_mark {P : Program} (src dst e : TypeId) (hs : P.underlying src = some (.slice e)) (he : P.underlying e = some (.int .u8)) (hd : P.underlying dst = some .string)
    (w : World) (l : List UInt8) (n c : Nat) (t : TypeId) (fr : Nat × Nat) (hn : n ≤ l.length) :
    (convert src dst (.slice (some ⟨w.heap.size, 0, none⟩) n c)).run P (w.alloc (.cells (cells8 l) t fr)) = .ok (.string (S (l.take n))) (w.alloc (.cells (cells8 l) t fr)) := by
  have hl : (l.take n).length = n := by simp; omega
  have h := run_convert_bytes_back (P := P) (w.alloc (.cells (cells8 l) t fr)) src dst e ⟨w.heap.size, 0, none⟩ c (l.take n) hs he hd (fun j hj => by
    have hj' : j < l.length := by omega
    have e1 : (⟨w.heap.size, 0, none⟩ : Addr).add j = ⟨w.heap.size, j, none⟩ := by simp [Addr.add]; omega
    rw [e1, World.cell?_alloc_mark, cells8_get l j hj']
    simp [List.getElem_take])
  rw [hl] at h
  exact h
theorem run_string_cells8 {P : Program} (src dst e : TypeId) (hs : P.underlying src = some (.slice e)) (he : P.underlying e = some (.int .u8)) (hd : P.underlying dst = some .string)
    (w : World) (l : List UInt8) (n c : Nat) (t : TypeId) (hn : n ≤ l.length) :
    (convert src dst (.slice (some ⟨w.heap.size, 0, none⟩) n c)).run P (w.alloc (.cells (cells8 l) t)) = .ok (.string (S (l.take n))) (w.alloc (.cells (cells8 l) t)) :=
  run_string_mark src dst e hs he hd w l n c t (0, 0) hn
/-- the same in any world whose cells there are these bytes -/
theorem run_string_at {P : Program} (src dst e : TypeId) (hs : P.underlying src = some (.slice e)) (he : P.underlying e = some (.int .u8)) (hd : P.underlying dst = some .string)
    (w : World) (b o : Nat) (l : List UInt8) (c : Nat) (hc : ∀ j (hj : j < l.length), w.cell? ⟨b, o + j, none⟩ = some (.int .u8 (l[j].toNat : Int))) :
    (convert src dst (.slice (some ⟨b, o, none⟩) l.length c)).run P w = .ok (.string (S l)) w :=
  run_convert_bytes_back (P := P) w src dst e ⟨b, o, none⟩ c l hs he hd (fun j hj => by
    have e1 : (⟨b, o, none⟩ : Addr).add j = ⟨b, o + j, none⟩ := by simp [Addr.add]
    rw [e1]; exact hc j hj)
/-- a string's bytes in new memory -/
theorem run_bytes_S {P : Program} (src dst e : TypeId) (hs : P.underlying src = some .string) (hd : P.underlying dst = some (.slice e)) (he : P.underlying e = some (.int .u8)) (w : World) (l : List UInt8) :
    ∃ cap, l.length ≤ cap ∧ (l.length ≤ maxLen → cap ≤ maxLen) ∧ (convert src dst (.string (S l))).run P w = .ok (.slice (some ⟨w.heap.size, 0, none⟩) l.length cap) (w.alloc (.cells (cells8 (l ++ List.replicate (cap - l.length) 0)) e (cap, cap + 1))).drew := by
  have h := run_bytes_of_string (P := P) w src dst e (S l) hs hd he
  have hge := grownCap_ge w (S l).size 0 e
  have hle := grownCap_le_maxLen w (S l).size 0 e
  generalize grownCap w (S l).size 0 e = cap at h hge hle
  rw [S_size] at hge hle h
  have e1 : bytesRow (S l) cap = cells8 (l ++ List.replicate (cap - l.length) 0) := by
    unfold bytesRow cells8
    rw [S_size]
    simp [S]
  have e2 : (cells8 (l ++ List.replicate (cap - l.length) 0)).size = cap := by simp [cells8_size]; omega
  rw [e1, e2] at h
  exact ⟨cap, hge, hle, h⟩
theorem setCell_mark (w : World) (C : Array Value) (t : TypeId) (fr : Nat × Nat) (i : Nat) (v : Value) : (w.alloc (.cells C t fr)).setCell ⟨w.heap.size, i, none⟩ v = w.alloc (.cells (C.setIfInBounds i v) t fr) := by
  have hm : ∀ (a : Array Obj) (x : Obj) (f : Obj → Obj), (a.push x).modify a.size f = a.push (f x) := by
    intro a x f
    apply Array.ext
    · simp
    · intro i h1 h2
      simp only [Array.getElem_modify, Array.getElem_push]
      by_cases h : a.size = i
      · subst h
        simp
      · have hi : i < a.size := by simp at h1; omega
        simp [h, hi]
  unfold World.setCell
  show ({ w.alloc (.cells C t fr) with heap := (w.heap.push (.cells C t fr)).modify w.heap.size _ } : World) = _
  rw [hm]
  rfl
theorem wrap_u64_lt (n : Nat) (h : n < 18446744073709551616) : IntKind.u64.wrap (n : Int) = n := by
  have e : (2 : Int) ^ IntKind.u64.bits = 18446744073709551616 := by decide
  have s : IntKind.u64.signed = false := rfl
  unfold IntKind.wrap
  simp only [e, s, Bool.false_and, Bool.false_eq_true, if_false]
  omega
theorem shl_or8 (v b : Nat) (hb : b < 256) (hv : v * 256 + b < 18446744073709551616) :
    bits .or .u64 (IntKind.u64.wrap ((v : Int) * 256)) (IntKind.u64.wrap (b : Int)) = ((v * 256 + b : Nat) : Int) := by
  have e : (v : Int) * 256 = ((v * 256 : Nat) : Int) := by omega
  have h1 : v * 256 < 18446744073709551616 := Nat.lt_of_le_of_lt (Nat.le_add_right _ _) hv
  have h2 : b < 18446744073709551616 := Nat.lt_of_le_of_lt (Nat.le_add_left _ _) hv
  rw [e, wrap_u64_lt (v * 256) h1, wrap_u64_lt b h2, u64_or_nat _ _ h1 h2]
  have h := Nat.shiftLeft_add_eq_or_of_lt (b := b) (i := 8) hb v
  rw [Nat.shiftLeft_eq] at h
  have e2 : v * 2 ^ 8 = v * 256 := rfl
  rw [e2] at h
  rw [h]
theorem below_then {w w1 w2 : World} (h : Below w.heap.size w w1) (k : Below w1.heap.size w1 w2) : Below w.heap.size w w2 := h.trans (k.mono h.size)
theorem below_drawn {w : World} (n : Nat) : Below w.heap.size w (w.drewN n) := below_drewN (Below.refl _ _) n
theorem u8_mod (x : Nat) : (UInt8.ofNat (x % 256)).toNat = x % 256 := by rw [UInt8.toNat_ofNat']; omega
theorem byte_cast (n k : Nat) : ((UInt8.ofNat (n / 2 ^ (8 * k) % 256)).toNat : Int) = (n : Int) / 2 ^ (8 * k) % 256 := by
  rw [u8_mod, Int.natCast_emod, Int.natCast_ediv, Int.natCast_pow]; rfl
theorem run_string_new1 {P : Program} (src dst e : TypeId) (hs : P.underlying src = some (.slice e)) (he : P.underlying e = some (.int .u8)) (hd : P.underlying dst = some .string)
    (w : World) (n : Nat) (t : TypeId) :
    (convert src dst (.slice (some ⟨w.heap.size, 0, none⟩) 1 1)).run P (w.alloc (.cells #[.int .u8 ((n : Int) % 256)] t)) = .ok (.string (S [UInt8.ofNat (n % 256)])) (w.alloc (.cells #[.int .u8 ((n : Int) % 256)] t)) := by
  have h := run_string_cells8 src dst e hs he hd w [UInt8.ofNat (n % 256)] 1 1 t (by simp)
  have e1 : cells8 [UInt8.ofNat (n % 256)] = #[.int .u8 ((n : Int) % 256)] := by
    unfold cells8
    simp only [List.map_cons, List.map_nil, u8_mod, Int.natCast_emod]; rfl
  rw [e1] at h
  exact h
end Go.Proofs.YtoponmdfjbhnoaaDoor
