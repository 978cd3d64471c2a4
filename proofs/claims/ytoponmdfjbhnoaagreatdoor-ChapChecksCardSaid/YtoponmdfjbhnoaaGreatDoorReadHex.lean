/- binary.digit, wrong, readDigits. -/
import Derived.Test.YtoponmdfjbhnoaaGreatDoorRows
import Derived.Test.YtoponmdfjbhnoaaGreatDoorGA
import Derived.Test.YtoponmdfjbhnoaaGreatDoorBuf
import Derived.Test.YtoponmdfjbhnoaaGreatDoorGC
namespace Go.Proofs.YtoponmdfjbhnoaaGreatDoor
open Go.RowKit
theorem digit_any (c : UInt8) (w : World) :
    Calls Tryz.prog 39 #[.int .u8 (c.toNat : Int)] w fun e w' => e = .returned (.tuple #[.int .u8 ((hexN c : Nat) : Int), .bool (hexV c).isSome]) ∧ w = w' := by
  have hc := c.toNat_lt
  have hcases : (c.toNat < 48 ∨ (57 < c.toNat ∧ c.toNat < 65) ∨ (70 < c.toNat ∧ c.toNat < 97) ∨ 102 < c.toNat) ∨ (48 ≤ c.toNat ∧ c.toNat ≤ 57) ∨ (97 ≤ c.toNat ∧ c.toNat ≤ 102) ∨ (65 ≤ c.toNat ∧ c.toNat ≤ 70) := by omega
  rcases hcases with (h | ⟨h, h2⟩ | ⟨h, h2⟩ | h) | ⟨h, h2⟩ | ⟨h, h2⟩ | ⟨h, h2⟩
  all_goals
    first
    | have hv : hexV c = none := by unfold hexV; rw [if_neg (by omega), if_neg (by omega), if_neg (by omega)]
    | have hv : hexV c = some (c.toNat - 48) := by unfold hexV; rw [if_pos (by omega)]
    | have hv : hexV c = some (c.toNat - 87) := by unfold hexV; rw [if_neg (by omega), if_pos (by omega)]
    | have hv : hexV c = some (c.toNat - 55) := by unfold hexV; rw [if_neg (by omega), if_neg (by omega), if_pos (by omega)]
    have Hv := Lib.hid hv
    clear hv
    go_enter Tryz.func39, Tryz.ntmps39
    go_wp2_with fail
    go_ret2
    refine ⟨?_, rfl⟩
    unfold hexN
    rw [Hv.out]
    simp
    try omega
theorem wrong_any (n : Nat) (w : World) (hn : n ≤ 140737488351232) :
    Calls Tryz.prog 40 #[.int .i64 n] w fun e w' => ∃ v, e = .returned v ∧ ErrIs w' v 3 (2 + n) ∧ Below w.heap.size w w' := by
  go_enter Tryz.func40, Tryz.ntmps40
  go_wp2_with fail
  go_ret
  exact ⟨_, rfl, .placed _ _ _ (by decide) (by simp) (by simp), (Below.refl _ _).alloc (Nat.le_refl _) _⟩
theorem or_nib (x : UInt8) (n : Nat) (hn : n < 16) : bits .or .u8 ((x.toNat : Int) * 16 % 256) (n : Int) = ((UInt8.ofNat (x.toNat % 16 * 16 + n)).toNat : Int) := by
  have e : (x.toNat : Int) * 16 % 256 = ((x.toNat % 16 * 16 : Nat) : Int) := by omega
  have hb : x.toNat % 16 * 16 < 256 := by omega
  rw [e, u8_or_nat _ _ hb (by omega)]
  have hn4 : n < 2 ^ 4 := hn
  have := nat_join (x.toNat % 16) 4 n hn4
  rw [show (2 : Nat) ^ 4 = 16 from rfl] at this
  rw [this, UInt8.toNat_ofNat', Nat.mod_eq_of_lt (show x.toNat % 16 * 16 + n < 2 ^ 8 by omega)]
theorem info8r : (Tryz.prog.info? 5).map (fun i => (i.zero, i.size, i.bytes)) = some (some (.int .u8 0), 1, 1) := by kernel_rfl
theorem readDigits_odd (l : List UInt8) (w : World) (hl : l.length ≤ 4294967280) (ho : l.length % 2 ≠ 0) :
    Calls Tryz.prog 24 #[.string (S l)] w fun e w' => e = .returned (.tuple #[.string (S []), .iface 27 (.int .i64 7)]) ∧ w = w' := by
  have h : ((l.length : Int) % 2 != 0) = true := by rw [bne_iff_ne]; omega
  clear ho
  go_enter Tryz.func24, Tryz.ntmps24
  go_wp2_with fail
  go_ret2
  exact ⟨rfl, rfl⟩
set_option maxRecDepth 100000 in
/-- with m: how many digits are good, from the beginning on -/
theorem readDigits_loop (l : List UInt8) (m : Nat) (w : World) (hl : l.length ≤ 4294967280) (ho : l.length % 2 = 0) (hm : m ≤ l.length) (hgood : ∀ j (hj : j < l.length), j < m → (hexV l[j]).isSome = true) (hbad : ∀ (hj : m < l.length), (hexV l[m]).isSome = false)
    (r : List UInt8 × Int × Int) (hr1 : m < l.length → r = ([], 3, 2 + (m : Int))) (hr2 : ¬ m < l.length → r = (unhex l, 0, -1)) :
    Calls Tryz.prog 24 #[.string (S l)] w (RetSE w r) := by
  obtain ⟨i0, hi, hz0, hz1, hz2⟩ := info_parts info8r
  have hmk := fun w => run_make_bytes (P := Tryz.prog) w 44 5 i0 Tryz.underlying44 hi hz0 hz1 hz2 .i64 .i64 (l.length / 2) (by omega)
  simp only [Int.natCast_ediv, Int.cast_ofNat_Int] at hmk
  have h : ((l.length : Int) % 2 != 0) = false := by rw [Bool.eq_false_iff, Ne, bne_iff_ne]; omega
  have hH0 := hexRow_0 l
  rw [← hH0] at hmk
  have Ho := Lib.hid ho
  have Hgood := Lib.hid hgood
  have Hbad := Lib.hid hbad
  have Hr1 := Lib.hid hr1
  have Hr2 := Lib.hid hr2
  clear ho hH0 hgood hbad hr1 hr2
  go_enter Tryz.func24, Tryz.ntmps24
  go_wp2_with fail
  clear hmk h
  go_loopg [19] (l.length + 1) (fun g c wr => ∃ k : Nat, k ≤ m ∧ g + k = l.length + 1 ∧ c = .int .i64 k ∧ wr = w.alloc (.cells (cells8 (hexRow l k)) 5))
  case atStart => exact ⟨0, by omega, by omega, rfl, rfl⟩
  case round =>
    obtain ⟨k, hk, hg, rfl, rfl⟩ := hrel
    have Hg := Lib.hid hg
    clear hg
    by_cases hlt : k < m
    · have hkl : k < l.length := by omega
      have hki : (k : Int) < (l.length : Int) := by omega
      have hv : (hexV l[k]).isSome = true := Hgood.out k hkl hlt
      have hlen := hexRow_len l k
      have hi2 : k / 2 < (hexRow l k).length := by rw [hlen]; have := Ho.out; omega
      have hst := hexRow_step l k hkl Ho.out hi2
      have hc := cells8_get (hexRow l k) (k / 2) hi2
      have hx1 : 0 ≤ (k : Int) / 2 := by omega
      have hx2 : (k : Int) / 2 < (l.length : Int) / 2 := by have := Ho.out; omega
      obtain ⟨x, hx⟩ : ∃ x, (hexRow l k)[k / 2]'hi2 = x := ⟨_, rfl⟩
      rw [hx] at hst hc
      have hst2 : (cells8 (hexRow l k)).setIfInBounds (k / 2) (.int .u8 ((UInt8.ofNat (x.toNat % 16 * 16 + hexN l[k])).toNat : Int)) = cells8 (hexRow l (k + 1)) := by rw [cells8_set, hst]
      have hor := or_nib x (hexN l[k]) (hexN_lt _)
      obtain ⟨y, hy⟩ : ∃ y, UInt8.ofNat (x.toNat % 16 * 16 + hexN l[k]) = y := ⟨_, rfl⟩
      rw [hy] at hor hst2
      clear hst hlen hx hi2 hy
      go_wp2_with fail
      refine (digit_any _ _).mono ?_
      rintro e w2 ⟨rfl, rfl⟩
      rw [hv]
      go_wp2_with fail
      go_roundg (gk - 1)
      case measure => have := Hg.out; omega
      case rel => exact ⟨k + 1, by omega, by have := Hg.out; omega, by go_num, rfl⟩
    · have hkm : k = m := by omega
      subst hkm
      clear hlt
      by_cases hkl : k < l.length
      · have hki : (k : Int) < (l.length : Int) := by omega
        have hv : (hexV l[k]).isSome = false := Hbad.out hkl
        have hb : Below w.heap.size w (w.alloc (.cells (cells8 (hexRow l k)) 5)) := (Below.refl _ _).alloc (Nat.le_refl _) _
        go_wp2_with fail
        refine (digit_any _ _).mono ?_
        rintro e w2 ⟨rfl, rfl⟩
        rw [hv]
        go_wp2_with fail
        refine (wrong_any k _ (by omega)).mono ?_
        rintro e w3 ⟨v, rfl, he, hb3⟩
        go_wp2_with fail
        go_ret2
        rw [Hr1.out hkl]
        exact ⟨v, rfl, he, below_then hb hb3⟩
      · have hkl2 : k = l.length := by omega
        subst hkl2
        clear hkl
        have hlen := hexRow_len l l.length
        have hcv := run_string_buf (P := Tryz.prog) 44 9 5 Tryz.underlying44 Tryz.underlying5 Tryz.underlying9 (buf_block w 5 (hexRow l l.length) (l.length / 2) hlen.symm (by omega) w.heap.size (Nat.le_refl _))
        rw [show hexRow l l.length = unhex l from rfl] at *
        clear hlen
        go_wp2_with fail
        go_ret2
        rw [Hr2.out (Nat.lt_irrefl _)]
        exact ⟨_, rfl, .good, (Below.refl _ _).alloc (Nat.le_refl _) _⟩
theorem readDigits_any (l : List UInt8) (w : World) (hl : l.length ≤ 4294967280) :
    Calls Tryz.prog 24 #[.string (S l)] w (RetSE w (readHex l)) := by
  by_cases ho : l.length % 2 = 0
  · cases hf : l.findIdx? (fun c => (hexV c).isNone) with
    | some m =>
      obtain ⟨hm, hp, hall⟩ := List.findIdx?_eq_some_iff_getElem.1 hf
      have e : readHex l = ([], 3, 2 + (m : Int)) := by unfold readHex; rw [if_neg (by omega), hf]
      rw [e]
      have h := readDigits_loop l m w hl ho (by omega) (fun j hj hjm => by
        have := hall j hjm; cases h : hexV l[j] <;> simp_all) (fun hj => by cases h : hexV l[m] <;> simp_all) _ (fun _ => rfl) (fun h => absurd hm h)
      exact h
    | none =>
      have hall := List.findIdx?_eq_none_iff.1 hf
      have e : readHex l = (unhex l, 0, -1) := by unfold readHex; rw [if_neg (by omega), hf]
      rw [e]
      have h := readDigits_loop l l.length w hl ho (Nat.le_refl _) (fun j hj _ => by
        have := hall l[j] (List.getElem_mem hj); cases h : hexV l[j] <;> simp_all) (fun hj => absurd hj (by omega)) _ (fun h => absurd h (Nat.lt_irrefl _)) (fun _ => rfl)
      exact h
  · have e : readHex l = ([], 7, -1) := by unfold readHex; rw [if_pos (by omega)]
    rw [e]
    exact (readDigits_odd l w hl ho).mono fun _ _ ⟨h1, h2⟩ => ⟨_, h1, .bare _ (by decide), by rw [← h2]; exact Below.refl _ _⟩
end Go.Proofs.YtoponmdfjbhnoaaGreatDoor
