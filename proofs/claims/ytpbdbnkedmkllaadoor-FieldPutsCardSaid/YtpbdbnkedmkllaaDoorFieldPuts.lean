/- FieldPuts: Put and Get against the document's own answer. -/
import Derived.Test.YtpbdbnkedmkllaaDoorFieldBack
import Derived.Test.YtpbdbnkedmkllaaDoorBase2
import Derived.Test.YtpbdbnkedmkllaaDoorBare
namespace Go.Proofs.YtpbdbnkedmkllaaDoor
open Go.RowKit
set_option linter.unusedVariables false
theorem within_true (n a b : Int) (w : World) (h1 : a ≤ n) (h2 : n ≤ b) : Calls Tryd.prog 22 #[.int .i64 n, .int .i64 a, .int .i64 b] w fun e w' => e = .returned (.bool true) ∧ w = w' := by
  have hd1 : decide (a ≤ n) = true := decide_eq_true h1
  have hd2 : decide (n ≤ b) = true := decide_eq_true h2
  go_enter Tryd.func22, Tryd.ntmps22
  go_wp2_with fail
  go_ret
  exact ⟨rfl, rfl⟩
theorem within_false (n a b : Int) (w : World) (h : n < a ∨ b < n) : Calls Tryd.prog 22 #[.int .i64 n, .int .i64 a, .int .i64 b] w fun e w' => e = .returned (.bool false) ∧ w = w' := by
  by_cases h1 : a ≤ n
  · have h2 : b < n := by omega
    have hd1 : decide (a ≤ n) = true := decide_eq_true h1
    have hd2 : decide (n ≤ b) = false := decide_eq_false (by omega)
    clear h
    go_enter Tryd.func22, Tryd.ntmps22
    go_wp2_with fail
    go_ret
    exact ⟨rfl, rfl⟩
  · have h2 : n < a := by omega
    have hd1 : decide (a ≤ n) = false := decide_eq_false h1
    clear h
    go_enter Tryd.func22, Tryd.ntmps22
    go_wp2_with fail
    go_ret
    exact ⟨rfl, rfl⟩
theorem number_range (n : Nat) (size : Int) (w : World) (h : size < 0 ∨ 8 < size) :
    Calls Tryd.prog 8 #[.int .u64 n, .int .i64 size] w fun e w' => e = .returned (.tuple #[.string (S []), .int .i64 2]) ∧ w = w' := by
  have H := Lib.hid h
  clear h
  go_enter Tryd.func8, Tryd.ntmps8
  go_wp2_with fail
  refine (within_false _ _ _ _ H.out).mono ?_
  rintro e w' ⟨rfl, rfl⟩
  go_wp2_with fail
  go_ret2
  exact ⟨rfl, rfl⟩
/-- what the document's answer to Put is, in 0 to 8 bytes -/
def numV (n size : Nat) : Value := if 0 < n / 2 ^ (8 * size) then .tuple #[.string (S []), .int .i64 4] else .tuple #[.string (S (be n size)), .int .i64 0]
theorem wrap_div256 (m : Nat) (h : m < 2 ^ 64) : IntKind.u64.wrap ((m : Int) / 256) = ((m / 256 : Nat) : Int) := by
  have e : (m : Int) / 256 = ((m / 256 : Nat) : Int) := by omega
  rw [e, wrap_u64_lt _ (Nat.lt_of_le_of_lt (Nat.div_le_self _ _) h)]
theorem div_step (n k : Nat) : n / 2 ^ (8 * k) / 256 = n / 2 ^ (8 * (k + 1)) := by
  rw [Nat.div_div_eq_div_mul, show 8 * (k + 1) = 8 * k + 8 from by omega, Nat.pow_add]
theorem number_in (n size : Nat) (w : World) (hs : size ≤ 8) (hn : n < 2 ^ 64) :
    Calls Tryd.prog 8 #[.int .u64 n, .int .i64 size] w fun e w' => e = .returned (numV n size) ∧ Below w.heap.size w w' := by
  have Hn := Lib.hid hn
  clear hn
  go_enter Tryd.func8, Tryd.ntmps8
  go_wp2_with fail
  refine (within_true _ _ _ _ (by omega) (by omega)).mono ?_
  rintro e w' ⟨rfl, rfl⟩
  go_wp2_with fail
  go_loopg [0, 6, 11] 9 (fun g x s i wr => ∃ k m : Nat, k ≤ size ∧ g + k = 9 ∧ i = .int .i64 k ∧ x = .int .u64 m ∧ m = n / 2 ^ (8 * k) ∧ s = .string (S (be n k)) ∧ Below w.heap.size w wr)
  case atStart => exact ⟨0, n, by omega, by omega, rfl, rfl, by simp, rfl, Below.refl _ _⟩
  case round =>
    obtain ⟨k, m, hk, hg, rfl, rfl, hm, rfl, hb⟩ := hrel
    have Hg := Lib.hid hg
    have hlen := be_len n k
    have hwd := wrap_div256 m (by rw [hm]; exact Nat.lt_of_le_of_lt (Nat.div_le_self _ _) Hn.out)
    have Hm := Lib.hid hm
    clear hg hm
    by_cases hlt : k < size
    · have hki : (k : Int) < size := by omega
      have hbe : UInt8.ofNat (m % 256) :: be n k = be n (k + 1) := by rw [Hm.out]; rfl
      have Hbe := Lib.hid hbe
      clear hbe
      have hcv := run_string_new1 (P := Tryd.prog) 48 9 5 Tryd.underlying48 Tryd.underlying5 Tryd.underlying9 wr m 5
      go_wp2_with fail
      go_roundg (gk - 1)
      case measure => have := Hg.out; omega
      case rel => exact ⟨k + 1, m / 256, by omega, by have := Hg.out; omega, by go_num, by first | rfl | exact congrArg (Value.int IntKind.u64) hwd, by rw [Hm.out, div_step], by rw [← Hbe.out], hb.alloc hb.size _⟩
    · have hks : k = size := by omega
      subst hks
      by_cases hm0 : 0 < m
      · have hv : numV n k = .tuple #[.string (S []), .int .i64 4] := by unfold numV; rw [← Hm.out, if_pos hm0]
        have Hv := Lib.hid hv
        clear hv
        go_wp2_with fail
        go_ret2
        exact ⟨by rw [Hv.out]; rfl, hb⟩
      · have hv : numV n k = .tuple #[.string (S (be n k)), .int .i64 0] := by unfold numV; rw [← Hm.out, if_neg hm0]
        have Hv := Lib.hid hv
        clear hv
        go_wp2_with fail
        go_ret2
        exact ⟨by rw [Hv.out]; rfl, hb⟩
theorem unnumber_limit (l : List UInt8) (w : World) (h : 8 < l.length) :
    Calls Tryd.prog 10 #[.string (S l)] w fun e w' => e = .returned (.tuple #[.int .u64 0, .int .i64 4]) ∧ w = w' := by
  go_enter Tryd.func10, Tryd.ntmps10
  go_wp2_with fail
  go_ret2
  exact ⟨rfl, rfl⟩
theorem mul_add256 (v b : Nat) (hb : b < 256) (hv : v * 256 + b < 18446744073709551616) :
    IntKind.u64.wrap (IntKind.u64.wrap ((v : Int) * 256) + IntKind.u64.wrap (b : Int)) = ((v * 256 + b : Nat) : Int) := by
  have h1 : v * 256 < 18446744073709551616 := Nat.lt_of_le_of_lt (Nat.le_add_right _ _) hv
  have h2 : b < 18446744073709551616 := Nat.lt_of_le_of_lt (Nat.le_add_left _ _) hv
  have e : (v : Int) * 256 = ((v * 256 : Nat) : Int) := by rw [Int.natCast_mul]; rfl
  rw [e, wrap_u64_lt (v * 256) h1, wrap_u64_lt b h2, ← Int.natCast_add]
  exact wrap_u64_lt (v * 256 + b) hv
set_option maxRecDepth 100000 in
theorem unnumber_ok (l : List UInt8) (w : World) (h : l.length ≤ 8) :
    Calls Tryd.prog 10 #[.string (S l)] w fun e w' => e = .returned (.tuple #[.int .u64 (val l : Nat), .int .i64 0]) ∧ Below w.heap.size w w' := by
  obtain ⟨cap, hc1, hc2, hrun⟩ := run_bytes_S (P := Tryd.prog) 9 48 5 Tryd.underlying9 Tryd.underlying48 Tryd.underlying5 w l
  have hB := bytesAt_drew (bytesAt_new w (l ++ List.replicate (cap - l.length) 0) 5 (cap, cap + 1))
  have hbel : Below w.heap.size w (w.alloc (.cells (cells8 (l ++ List.replicate (cap - l.length) 0)) 5 (cap, cap + 1))).drew := ((Below.refl _ _).alloc (Nat.le_refl _) _).drew
  have hc2' := hc2 (by unfold maxLen; omega)
  unfold maxLen at hc2'
  clear hc2
  generalize hW : (w.alloc (.cells (cells8 (l ++ List.replicate (cap - l.length) 0)) 5 (cap, cap + 1))).drew = W at hrun hB hbel
  have HB := Lib.hid hB
  have Hbel := Lib.hid hbel
  clear hB hbel hW
  go_enter Tryd.func10, Tryd.ntmps10
  go_wp2_with fail
  clear hrun
  go_loopg [4, 13] 9 (fun g v c wr => ∃ k : Nat, k ≤ l.length ∧ g + k = 9 ∧ c = .int .i64 k ∧ v = .int .u64 (val (l.take k) : Nat) ∧ wr = W)
  case atStart => exact ⟨0, by omega, by omega, rfl, rfl, rfl⟩
  case round =>
    obtain ⟨k, hk, hg, rfl, rfl, rfl⟩ := hrel
    have Hg := Lib.hid hg
    clear hg
    by_cases hlt : k < l.length
    · have hcell := bytesAt_get HB.out k (by simp; omega)
      rw [List.getElem_append_left hlt] at hcell
      have hv := val_snoc (l.take k) l[k]
      rw [← take_succ_snoc l k hlt] at hv
      have hlen : (l.take (k + 1)).length = k + 1 := by simp; omega
      have hlt2 := val_lt (k + 1) (l.take (k + 1)) hlen
      have hpow : 256 ^ (k + 1) ≤ 256 ^ 8 := Nat.pow_le_pow_right (by decide) (by omega)
      have hor := mul_add256 (val (l.take k)) l[k].toNat l[k].toNat_lt (by rw [← hv]; exact Nat.lt_of_lt_of_le hlt2 hpow)
      rw [← hv] at hor
      clear hv hlen hlt2 hpow
      go_wp2_with fail
      go_roundg (gk - 1)
      case measure => have := Hg.out; omega
      case rel => exact ⟨k + 1, by omega, by have := Hg.out; omega, by go_num, rfl, rfl⟩
    · have hkl : k = l.length := by omega
      subst hkl
      go_wp2_with fail
      go_ret2
      exact ⟨by simp, Hbel.out⟩
/-- Put's error, and its bytes -/
def putE (n : Nat) (size : Int) : Int := if size < 0 ∨ 8 < size then 2 else if n / 2 ^ (8 * size.toNat) = 0 then 0 else 4
def putS (n : Nat) (size : Int) : List UInt8 := if putE n size = 0 then be n size.toNat else []
theorem put_all (n : Nat) (size : Int) (w : World) :
    Calls Tryd.prog 9 #[.int .u64 n, .int .i64 size] w fun e w' => e = .returned (.tuple #[.string (S (putS n size)), errV (putE n size)]) ∧ Below w.heap.size w w' := by
  by_cases h : size < 0 ∨ 8 < size
  · have he : putE n size = 2 := by unfold putE; rw [if_pos h]
    have hs : putS n size = [] := by unfold putS; rw [he, if_neg (by decide)]
    rw [he, hs, errV_pos 2 (by decide)]
    exact (put_range n size w h).mono fun e w' ⟨he, hw⟩ => ⟨he, hw ▸ Below.refl _ _⟩
  · obtain ⟨k, rfl⟩ := Int.eq_ofNat_of_zero_le (show 0 ≤ size by omega)
    by_cases hq : n / 2 ^ (8 * k) = 0
    · have he : putE n k = 0 := by unfold putE; rw [if_neg h, Int.toNat_natCast, if_pos hq]
      have hs : putS n k = be n k := by unfold putS; rw [he, if_pos rfl, Int.toNat_natCast]
      rw [he, hs, errV_0]
      exact put_ok n k w (by omega) hq
    · have he : putE n k = 4 := by unfold putE; rw [if_neg h, Int.toNat_natCast, if_neg hq]
      have hs : putS n k = [] := by unfold putS; rw [he, if_neg (by decide)]
      rw [he, hs, errV_pos 4 (by decide)]
      exact (put_limit n k w (by omega) hq).mono fun e w' ⟨he, hw⟩ => ⟨he, hw ▸ Below.refl _ _⟩
theorem number_all (n : Nat) (size : Int) (w : World) (hn : n < 2 ^ 64) :
    Calls Tryd.prog 8 #[.int .u64 n, .int .i64 size] w fun e w' => e = .returned (.tuple #[.string (S (putS n size)), .int .i64 (putE n size)]) ∧ Below w.heap.size w w' := by
  by_cases h : size < 0 ∨ 8 < size
  · have he : putE n size = 2 := by unfold putE; rw [if_pos h]
    have hs : putS n size = [] := by unfold putS; rw [he, if_neg (by decide)]
    rw [he, hs]
    exact (number_range n size w h).mono fun e w' ⟨he, hw⟩ => ⟨he, hw ▸ Below.refl _ _⟩
  · obtain ⟨k, rfl⟩ := Int.eq_ofNat_of_zero_le (show 0 ≤ size by omega)
    have hv : numV n k = .tuple #[.string (S (putS n k)), .int .i64 (putE n k)] := by
      by_cases hq : n / 2 ^ (8 * k) = 0
      · have he : putE n k = 0 := by unfold putE; rw [if_neg h, Int.toNat_natCast, if_pos hq]
        have hs : putS n k = be n k := by unfold putS; rw [he, if_pos rfl, Int.toNat_natCast]
        rw [he, hs]; unfold numV; rw [if_neg (by rw [hq]; decide)]
      · have he : putE n k = 4 := by unfold putE; rw [if_neg h, Int.toNat_natCast, if_neg hq]
        have hs : putS n k = [] := by unfold putS; rw [he, if_neg (by decide)]
        rw [he, hs]; unfold numV; rw [if_pos (Nat.pos_of_ne_zero hq)]
    rw [← hv]
    exact number_in n k w (by omega) hn
def getE (l : List UInt8) : Int := if 8 < l.length then 4 else 0
def getN (l : List UInt8) : Nat := if 8 < l.length then 0 else val l
theorem get_all (l : List UInt8) (w : World) :
    Calls Tryd.prog 11 #[.string (S l)] w fun e w' => e = .returned (.tuple #[.int .u64 (getN l : Nat), errV (getE l)]) ∧ Below w.heap.size w w' := by
  unfold getN getE
  by_cases h : 8 < l.length
  · rw [if_pos h, if_pos h, errV_pos 4 (by decide)]
    exact (get_limit l w h).mono fun e w' ⟨he, hw⟩ => ⟨he, hw ▸ Below.refl _ _⟩
  · rw [if_neg h, if_neg h, errV_0]
    exact (get_ok l w (by omega)).mono fun e w' ⟨he, hw⟩ => ⟨he, hw ▸ Below.refl _ _⟩
theorem unnumber_all (l : List UInt8) (w : World) :
    Calls Tryd.prog 10 #[.string (S l)] w fun e w' => e = .returned (.tuple #[.int .u64 (getN l : Nat), .int .i64 (getE l)]) ∧ Below w.heap.size w w' := by
  unfold getN getE
  by_cases h : 8 < l.length
  · rw [if_pos h, if_pos h]
    exact (unnumber_limit l w h).mono fun e w' ⟨he, hw⟩ => ⟨he, hw ▸ Below.refl _ _⟩
  · rw [if_neg h, if_neg h]
    exact unnumber_ok l w (by omega)
set_option maxRecDepth 100000 in
theorem fieldPuts_any (x y : Int) (l : List UInt8) (w : World) (hx : (Lit.int .u64 x).wf = true) (_hy : (Lit.int .i64 y).wf = true) (hl : l.length ≤ 140737488351232) (hg : ErrCell w) :
    Calls Tryd.prog 3 #[.int .u64 x, .int .i64 y, .string (S l)] w fun e w' => e = .returned (.bool true) ∧ Below w.heap.size w w' := by
  obtain ⟨n, rfl, hn⟩ := wf_u64 hx
  have Hg := Lib.hid hg
  have Hn := Lib.hid hn
  clear hx hg hn
  by_cases h : 50 < l.length
  · go_enter Tryd.func3, Tryd.ntmps3
    go_wp2_with fail
    go_ret
    exact ⟨rfl, Below.refl _ _⟩
  · go_enter Tryd.func3, Tryd.ntmps3
    go_wp2_with fail
    refine (number_all n y _ Hn.out).mono ?_
    rintro e w1 ⟨rfl, hb1⟩
    go_wp2_with fail
    refine (put_all n y _).mono ?_
    rintro e w2 ⟨rfl, hb2⟩
    go_wp2_with fail
    refine (unnumber_all l _).mono ?_
    rintro e w3 ⟨rfl, hb3⟩
    go_wp2_with fail
    refine (get_all l _).mono ?_
    rintro e w4 ⟨rfl, hb4⟩
    have hb := below_then hb1 (below_then hb2 (below_then hb3 hb4))
    clear hb1 hb2 hb3 hb4
    go_wp2_with fail
    refine (bare_any _ _ (Hg.out.later hb)).mono ?_
    rintro e w5 ⟨rfl, hb5⟩
    go_wp2_with fail
    refine (bare_any _ _ ((Hg.out.later hb).later hb5)).mono ?_
    rintro e w6 ⟨rfl, hb6⟩
    go_wp2_with fail
    go_ret
    exact ⟨rfl, below_then hb (below_then hb5 hb6)⟩
end Go.Proofs.YtpbdbnkedmkllaaDoor
