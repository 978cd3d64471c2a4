/- A head's bytes as they are laid, one behind the other. No function of the program is walked here. -/
import Derived.Test.YtffdlchoaaakdaaDoorHeadMath2
import Derived.Laws.BitsAllLaws
namespace Go.Proofs.YtffdlchoaaakdaaDoor
open Go.RowKit
def base0 (h : Hd) : List UInt8 := [UInt8.ofNat (h.op.toNat + if h.now then 64 else 0), UInt8.ofNat h.fl.toNat] ++ zs 46
theorem base0_len (h : Hd) : (base0 h).length = 48 := by simp [base0, zs]
theorem base_splice (h : Hd) (w d : Nat) : splice (splice (base0 h) 4 (be w 1)) 5 (be d 3) = baseB h w d := rfl
theorem or64 (op : Int) (h0 : 0 ≤ op) (h1 : op < 64) : bits .or .u8 op 64 = op + 64 := by
  rw [u8_or op 64 h0 (by omega) (by omega) (by omega)]
  obtain ⟨a, rfl⟩ := Int.eq_ofNat_of_zero_le h0
  have ha : a < 64 := by omega
  have hd : ∀ a : Fin 64, a.val ||| 64 = a.val + 64 := by decide
  have h2 : ((a : Nat) : Int).toNat ||| (64 : Int).toNat = a + 64 := hd ⟨a, ha⟩
  rw [h2]; rfl
theorem base0_now (op fl : Int) (vs : List Nat) (h0 : 0 ≤ op) (h1 : op < 64) (f0 : 0 ≤ fl) (f1 : fl < 256) :
    ((cells8 (zs 48)).setIfInBounds 0 (.int .u8 (bits .or .u8 op 64))).setIfInBounds 1 (.int .u8 fl) = cells8 (base0 ⟨op, true, fl, vs⟩) := by
  have e1 : bits .or .u8 op 64 = ((UInt8.ofNat (op.toNat + 64)).toNat : Int) := by rw [or64 op h0 h1, UInt8.toNat_ofNat']; omega
  have e2 : fl = ((UInt8.ofNat fl.toNat).toNat : Int) := by rw [UInt8.toNat_ofNat']; omega
  rw [e1]
  conv => lhs; rw [e2]
  rw [cells8_set, cells8_set]
  rfl
theorem base0_later (op fl : Int) (vs : List Nat) (h0 : 0 ≤ op) (h1 : op < 64) (f0 : 0 ≤ fl) (f1 : fl < 256) :
    ((cells8 (zs 48)).setIfInBounds 0 (.int .u8 op)).setIfInBounds 1 (.int .u8 fl) = cells8 (base0 ⟨op, false, fl, vs⟩) := by
  have e1 : op = ((UInt8.ofNat (op.toNat + 0)).toNat : Int) := by rw [UInt8.toNat_ofNat']; omega
  have e2 : fl = ((UInt8.ofNat fl.toNat).toNat : Int) := by rw [UInt8.toNat_ofNat']; omega
  conv => lhs; rw [e1, e2]
  rw [cells8_set, cells8_set]
  rfl
/-- when j fields have been laid -/
def putN (fs : List Fd) (vs : List Nat) (l : List UInt8) (j : Nat) : List UInt8 := putAll (fs.take j) (vs.take j) l
theorem putN_0 (fs : List Fd) (vs : List Nat) (l : List UInt8) : putN fs vs l 0 = l := rfl
theorem putN_all (fs : List Fd) (vs : List Nat) (l : List UInt8) (h : vs.length = fs.length) : putN fs vs l fs.length = putAll fs vs l := by
  unfold putN; rw [List.take_length, ← h, List.take_length]
theorem putAll_snoc (f : Fd) (v : Nat) : ∀ (fs : List Fd) (vs : List Nat) (l : List UInt8), vs.length = fs.length → putAll (fs ++ [f]) (vs ++ [v]) l = splice (putAll fs vs l) f.pos (be v f.sz)
  | [], [], _, _ => rfl
  | [], _ :: _, _, h => by simp at h
  | _ :: _, [], _, h => by simp at h
  | g :: fs, u :: vs, l, h => putAll_snoc f v fs vs (splice l g.pos (be u g.sz)) (by simpa using h)
theorem putN_step (fs : List Fd) (vs : List Nat) (l : List UInt8) (j : Nat) (hj : j < fs.length) (hv : j < vs.length) : splice (putN fs vs l j) fs[j].pos (be vs[j] fs[j].sz) = putN fs vs l (j + 1) := by
  unfold putN
  rw [List.take_succ_eq_append_getElem hj, List.take_succ_eq_append_getElem hv, putAll_snoc _ _ _ _ _ (by simp; omega)]
theorem putN_len {fs : List Fd} {vs : List Nat} {l : List UInt8} (h : ∀ f ∈ fs, f.pos + f.sz ≤ l.length) (j : Nat) : (putN fs vs l j).length = l.length :=
  putAll_len fun f hf => h f (List.mem_of_mem_take hf)
end Go.Proofs.YtffdlchoaaakdaaDoor
