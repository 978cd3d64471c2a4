/- CrcEven: sums add up. -/
import Derived.Test.YtpbdbnkedmkllaaCrc
import Derived.Test.YtpbdbnkedmkllaaBase2
import Derived.Deep.OwnRows
import Derived.Deep.RegionHeld3
import Derived.RegionTactic
namespace Go.Proofs.Ytpbdbnkedmkllaa
open Go.RowKit
set_option linter.unusedVariables false
/-- n bytes of 0 -/
def zs (n : Nat) : List UInt8 := List.replicate n 0
theorem zs_len0 (n : Nat) : (zs n).length = n := by simp [zs]
def x3 (a b c : List UInt8) (i : Nat) : UInt8 := a.getD i 0 ^^^ b.getD i 0 ^^^ c.getD i 0
def xrow (a b c : List UInt8) (k : Nat) : List UInt8 := (List.range k).map (x3 a b c)
theorem xrow_len (a b c : List UInt8) (k : Nat) : (xrow a b c k).length = k := by simp [xrow]
theorem xrow_succ (a b c : List UInt8) (k : Nat) : xrow a b c (k + 1) = xrow a b c k ++ [x3 a b c k] := by simp [xrow, List.range_succ]
theorem cstep_bits (n : Nat) (b : UInt8) : cstep n b = cbits 8 (n ^^^ b.toNat) := (cbits_byte n b.toNat).symm
theorem cstep3 (p q r : Nat) (x y z : UInt8) : cstep p x ^^^ cstep q y ^^^ cstep r z = cstep (p ^^^ q ^^^ r) (x ^^^ y ^^^ z) := by
  simp only [cstep_bits, ← cbits_xor, UInt8.toNat_xor]
  congr 1
  ac_rfl
theorem raw3 (a b c : List UInt8) : ∀ k, k ≤ a.length → k ≤ b.length → k ≤ c.length → crcRaw (a.take k) ^^^ crcRaw (b.take k) ^^^ crcRaw (c.take k) = crcRaw (xrow a b c k)
  | 0, _, _, _ => by simp [xrow, crcRaw]
  | k + 1, ha, hb, hc => by
    have e : x3 a b c k = a[k] ^^^ b[k] ^^^ c[k] := by
      simp [x3, List.getD_eq_getElem?_getD, List.getElem?_eq_getElem (show k < a.length by omega), List.getElem?_eq_getElem (show k < b.length by omega), List.getElem?_eq_getElem (show k < c.length by omega)]
    rw [xrow_succ, crcRaw_snoc, ← raw3 a b c k (by omega) (by omega) (by omega), e, ← cstep3]
    rw [← List.take_append_getElem (show k < a.length by omega), ← List.take_append_getElem (show k < b.length by omega), ← List.take_append_getElem (show k < c.length by omega)]
    simp only [crcRaw_snoc]
theorem sum3 (a b c : List UInt8) (k : Nat) (ha : k ≤ a.length) (hb : k ≤ b.length) (hc : k ≤ c.length) : crcSum (a.take k) ^^^ crcSum (b.take k) ^^^ crcSum (c.take k) = crcSum (xrow a b c k) := by
  unfold crcSum
  rw [← raw3 a b c k ha hb hc]
  generalize crcRaw (a.take k) = p
  generalize crcRaw (b.take k) = q
  generalize crcRaw (c.take k) = r
  have h : (4294967295 ^^^ p) ^^^ (4294967295 ^^^ q) ^^^ (4294967295 ^^^ r) = (4294967295 ^^^ 4294967295) ^^^ (4294967295 ^^^ (p ^^^ q ^^^ r)) := by ac_rfl
  rw [h, Nat.xor_self, Nat.zero_xor]
theorem made_zs (n : Nat) : madeCells #[.int .u8 0] n = cells8 (zs n) := by
  unfold madeCells cells8 zs
  apply Array.ext
  · simp
  · intro i h1 h2
    simp [Nat.mod_one]
theorem info5 : (Try.prog.info? 5).map (fun i => (i.zero, i.size, i.bytes)) = some (some (.int .u8 0), 1, 1) := by kernel_rfl
theorem x3_walk (a b c : List UInt8) (k : Nat) (ha : k < a.length) (hb : k < b.length) (hc : k < c.length) :
    bits .xor .u8 (bits .xor .u8 (a[k].toNat : Int) (b[k].toNat : Int)) (c[k].toNat : Int) = ((x3 a b c k).toNat : Int) := by
  have e : x3 a b c k = a[k] ^^^ b[k] ^^^ c[k] := by
    simp [x3, List.getD_eq_getElem?_getD, List.getElem?_eq_getElem ha, List.getElem?_eq_getElem hb, List.getElem?_eq_getElem hc]
  have h8 : a[k].toNat ^^^ b[k].toNat < 256 := Nat.xor_lt_two_pow (n := 8) a[k].toNat_lt b[k].toNat_lt
  rw [u8_xor_nat _ _ a[k].toNat_lt b[k].toNat_lt, u8_xor_nat _ _ h8 c[k].toNat_lt, e, UInt8.toNat_xor, UInt8.toNat_xor]
def evenRow (a b c : List UInt8) (n k : Nat) : List UInt8 := xrow a b c k ++ zs (n - k)
theorem evenRow_len (a b c : List UInt8) (n k : Nat) (h : k ≤ n) : (evenRow a b c n k).length = n := by
  unfold evenRow; rw [List.length_append, xrow_len, zs_len0]; omega
theorem evenRow_step (a b c : List UInt8) (n k : Nat) (h : k < n) : (evenRow a b c n k).set k (x3 a b c k) = evenRow a b c n (k + 1) := by
  unfold evenRow
  obtain ⟨d, hd⟩ : ∃ d, n - k = d + 1 := ⟨n - k - 1, by omega⟩
  rw [hd, show n - (k + 1) = d from by omega, List.set_append_right _ _ (by rw [xrow_len]; exact Nat.le_refl _), xrow_len, Nat.sub_self, xrow_succ]
  simp [zs, List.replicate_succ]
/-- min of three lengths, as Go's min goes -/
def min3 (a b c : List UInt8) : Int := if (c.length : Int) < (if b.length < a.length then (b.length : Int) else a.length) then (c.length : Int) else (if b.length < a.length then (b.length : Int) else a.length)
theorem min3_le (a b c : List UInt8) : min3 a b c ≤ a.length ∧ min3 a b c ≤ b.length ∧ min3 a b c ≤ c.length ∧ 0 ≤ min3 a b c := by
  unfold min3; split <;> split <;> omega
theorem crcEven_short (a b c : List UInt8) (w : World) (n : Nat) (hn : min3 a b c = (n : Int)) (h3 : n ≤ 300) :
    Calls Try.prog 8 #[.string (S a), .string (S b), .string (S c)] w fun e w' => e = .returned (.bool true) ∧ Below w.heap.size w w' := by
  have hle := min3_le a b c
  have ha : n ≤ a.length := by omega
  have hb : n ≤ b.length := by omega
  have hc : n ≤ c.length := by omega
  clear hle
  unfold min3 at hn
  have hmk := run_make_row' (P := Try.prog) 42 5 (.int .u8 0) 1 Try.underlying42 info5 rfl .i64 .i64 n (by omega) (by omega)
  rw [made_zs] at hmk
  go_enter Try.func8, Try.ntmps8
  go_wp2_with fail
  refine (summed_fact _).mono ?_
  rintro e w1 ⟨rfl, hb1⟩
  go_wp2_with fail
  clear hmk
  go_loopg [25] (n + 1) (fun g i wr => ∃ k m : Nat, k ≤ n ∧ g + k = n + 1 ∧ i = .int .i64 k ∧ wr = (w1.alloc (.cells (cells8 (evenRow a b c n k)) 5)).drewN m)
  case atStart => exact ⟨0, 0, by omega, by omega, rfl, by rw [show evenRow a b c n 0 = zs n from rfl, World.drewN_zero]⟩
  case round =>
    obtain ⟨k, m, hk, hg, rfl, rfl⟩ := hrel
    have Hg := Lib.hid hg
    clear hg
    by_cases hlt : k < n
    · have hcell := cells8_get (evenRow a b c n k) k (by rw [evenRow_len a b c n k hk]; exact hlt)
      have hx := x3_walk a b c k (by omega) (by omega) (by omega)
      have hst := cells8_set (evenRow a b c n k) k (x3 a b c k)
      rw [evenRow_step a b c n k hlt] at hst
      have hka : (k : Int) < a.length := by omega
      have hkb : (k : Int) < b.length := by omega
      have hkc : (k : Int) < c.length := by omega
      have hkn : (k : Int) < n := by omega
      have hwd : ((w1.alloc (.cells (cells8 (evenRow a b c n k)) 5)).drewN (m + 1)).setCell ⟨w1.heap.size, k, none⟩ (.int .u8 ((x3 a b c k).toNat : Int)) = (w1.alloc (.cells (cells8 (evenRow a b c n (k + 1))) 5)).drewN (m + 1) := by
        rw [← hst, ← World.setCell_alloc_new]; rfl
      clear hst
      go_wp2_with fail
      go_region
      all_goals
        go_wp2_with fail
        go_roundg (gk - 1)
        case measure => have := Hg.out; omega
        case rel => exact ⟨k + 1, m + 1, by omega, by have := Hg.out; omega, by go_num, rfl⟩
    · have hkl : k = n := by omega
      subst hkl
      have hB : BytesAt ((w1.alloc (.cells (cells8 (evenRow a b c k k)) 5)).drewN m) w1.heap.size (xrow a b c k) := by
        rw [show evenRow a b c k k = xrow a b c k from by simp [evenRow, zs]]
        exact bytesAt_drewN (bytesAt_new _ _ _ _) m
      have hbW : Below w1.heap.size w1 ((w1.alloc (.cells (cells8 (evenRow a b c k k)) 5)).drewN m) := below_drewN ((Below.refl _ _).alloc (Nat.le_refl _) _) m
      have hlt1 : w1.heap.size < ((w1.alloc (.cells (cells8 (evenRow a b c k k)) 5)).drewN m).heap.size := by simp
      generalize (w1.alloc (.cells (cells8 (evenRow a b c k k)) 5)).drewN m = W at hB hbW hlt1
      have hs := sum3 a b c k ha hb hc
      have hx : bits .xor .u32 (bits .xor .u32 ((crcSum (a.take k) : Nat) : Int) ((crcSum (b.take k) : Nat) : Int)) ((crcSum (c.take k) : Nat) : Int) = ((crcSum (xrow a b c k) : Nat) : Int) := by
        rw [u32_xor_nat _ _ (crcSum_lt _) (crcSum_lt _), u32_xor_nat _ _ (Nat.xor_lt_two_pow (crcSum_lt _) (crcSum_lt _)) (crcSum_lt _), hs]
      have hcv : ∀ w', Below W.heap.size W w' → (convert 42 9 (.slice (some ⟨w1.heap.size, 0, none⟩) k k)).run Try.prog w' = .ok (.string (S (xrow a b c k))) w' := by
        intro w' hw'
        have h := run_string_cells (P := Try.prog) 42 9 5 Try.underlying42 Try.underlying5 Try.underlying9 (bytesAt_later hB hw' hlt1) k k (by rw [xrow_len]; exact Nat.le_refl _)
        rw [List.take_of_length_le (by rw [xrow_len]; exact Nat.le_refl _)] at h
        exact h
      have hxl := xrow_len a b c k
      have HB1 := Lib.hid hb1
      have HbW := Lib.hid hbW
      clear hs hB hb1 hbW hn
      go_wp2_with fail
      go_region_held3 (fun w' => Below W.heap.size W w') (first | exact Below.refl _ _ | assumption | (refine below_then ?_ hb'; assumption) | exact below_drewN (Below.refl _ _) _ | (refine Below.drew ?_; first | assumption | exact Below.refl _ _)) (first | (go_at_call 16; refine (sum_any _ _ (by first | omega | (simp; omega))).mono ?_; rintro e w' ⟨rfl, hb'⟩))
      go_wp2_with fail
      go_ret
      refine ⟨rfl, below_then HB1.out (below_then HbW.out ?_)⟩
      assumption
theorem crcEven_any (a b c : List UInt8) (w : World) (ha : a.length ≤ 140737488351232) (hb : b.length ≤ 140737488351232) (hc : c.length ≤ 140737488351232) :
    Calls Try.prog 8 #[.string (S a), .string (S b), .string (S c)] w fun e w' => e = .returned (.bool true) ∧ Below w.heap.size w w' := by
  have hle := min3_le a b c
  obtain ⟨n, hn⟩ := Int.eq_ofNat_of_zero_le hle.2.2.2
  by_cases h3 : n ≤ 300
  · exact crcEven_short a b c w n hn h3
  · clear hle
    unfold min3 at hn
    go_enter Try.func8, Try.ntmps8
    go_wp2_with fail
    refine (summed_fact _).mono ?_
    rintro e w1 ⟨rfl, hb1⟩
    go_wp2_with fail
    go_ret
    exact ⟨rfl, hb1⟩
end Go.Proofs.Ytpbdbnkedmkllaa
