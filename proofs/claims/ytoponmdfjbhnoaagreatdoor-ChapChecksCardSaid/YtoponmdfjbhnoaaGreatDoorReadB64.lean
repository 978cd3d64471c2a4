/- binary.equals, readLetters. -/
import Derived.Test.YtoponmdfjbhnoaaGreatDoorReadHex
import Derived.Test.YtoponmdfjbhnoaaGreatDoorShBin
import Derived.Test.YtoponmdfjbhnoaaGreatDoorGA
namespace Go.Proofs.YtoponmdfjbhnoaaGreatDoor
open Go.RowKit
theorem S_data (l : List UInt8) : (S l).data.toList = l := rfl
theorem equals_any (l : List UInt8) (w : World) (hl : l.length ≤ 4294967280) :
    Calls Tryz.prog 41 #[.string (S l)] w fun e w' => e = .returned (.int .i64 ((eqs l : Nat) : Int)) ∧ w = w' := by
  have hs : (S l).size ≤ 9223372036854775807 := by rw [S_size]; omega
  have h1 := fun W => Tryz.strings_HasSuffix (S l) (S [61, 61]) W hs
  have h2 := fun W => Tryz.strings_HasSuffix (S l) (S [61]) W hs
  rw [S_data, S_data] at h1 h2
  have H1 := Lib.hid h1
  have H2 := Lib.hid h2
  clear h1 h2
  unfold eqs
  cases q1 : Lib.hasSuffix l [61, 61] <;> cases q2 : Lib.hasSuffix l [61]
  all_goals
    rw [q1] at H1
    rw [q2] at H2
    go_enter Tryz.func41, Tryz.ntmps41
    go_wp2_with fail
    refine (H1.out _).mono ?_
    rintro e w' ⟨rfl, hw⟩
    rw [hw]
    clear hw
    go_wp2_with fail
    try (refine (H2.out _).mono ?_; rintro e w2 ⟨rfl, hw⟩; rw [hw]; clear hw; go_wp2_with fail)
    go_ret
    exact ⟨rfl, rfl⟩
theorem index_any (c : UInt8) (w : World) :
    Calls Tryz.prog 29 #[.string (S letterTab), .int .u8 (c.toNat : Int)] w fun e w' => e = .returned (.int .i64 (letN c)) ∧ w = w' := by
  refine (Tryz.strings_IndexByte (S letterTab) _ w).mono ?_
  rintro e w' ⟨rfl, hw⟩
  refine ⟨?_, hw.symm⟩
  rw [S_data]
  simp [letN]
theorem readLetters_odd (l : List UInt8) (w : World) (hl : l.length ≤ 4294967280) (ho : l.length % 4 ≠ 0) :
    Calls Tryz.prog 25 #[.string (S l)] w fun e w' => e = .returned (.tuple #[.string (S []), .iface 27 (.int .i64 7)]) ∧ w = w' := by
  have h : ((l.length : Int) % 4 != 0) = true := by rw [bne_iff_ne]; omega
  clear ho
  go_enter Tryz.func25, Tryz.ntmps25
  go_wp2_with fail
  go_ret2
  exact ⟨rfl, rfl⟩
theorem or6 (a n h : Nat) (ha : a < 64) (hn : n < 64) (hh : a * 64 + n = h) : bits .or .i64 ((a : Int) * 64) (n : Int) = (h : Int) := by
  have e : (a : Int) * 64 = ((a * 64 : Nat) : Int) := by omega
  rw [e, i64_or_nat _ _ (by omega) (by omega), ← hh]
  have h6 : n < 2 ^ 6 := hn
  have := nat_join a 6 n h6
  rw [show (2 : Nat) ^ 6 = 64 from rfl] at this
  rw [this]
theorem byte_of (h d : Nat) (hd : h / d < 256) : ∃ y : UInt8, UInt8.ofNat (h / d) = y ∧ (h : Int) / (d : Int) = (y.toNat : Int) := by
  refine ⟨_, rfl, ?_⟩
  rw [UInt8.toNat_ofNat', Nat.mod_eq_of_lt (show h / d < 2 ^ 8 from hd), Int.natCast_ediv]
set_option maxRecDepth 100000 in
set_option maxHeartbeats 2000000 in
/-- with m letters ahead of =, p of them good, from the beginning on -/
theorem readLetters_loop (l : List UInt8) (m p : Nat) (w : World) (hl : l.length ≤ 4294967280) (ho : l.length % 4 = 0) (hm : m = l.length - eqs l) (hp : p ≤ m) (hgood : ∀ j (hj : j < l.length), j < p → 0 ≤ letN l[j]) (hbad : ∀ (hj : p < l.length), p < m → letN l[p] < 0)
    (r : List UInt8 × Int × Int) (hr1 : p < m → r = ([], 3, 2 + (p : Int))) (hr2 : ¬ p < m → (runL (l.take m)).1 ≠ 0 → r = ([], 3, 2 + ((m - 1 : Nat) : Int))) (hr3 : ¬ p < m → (runL (l.take m)).1 = 0 → r = ((runL (l.take m)).2.2, 0, -1)) :
    Calls Tryz.prog 25 #[.string (S l)] w (RetSE w r) := by
  obtain ⟨i0, hi, hz0, hz1, hz2⟩ := info_parts info8r
  have hmk := fun w => run_make_buf (P := Tryz.prog) w 44 5 i0 Tryz.underlying44 hi hz0 hz1 hz2 .i64 .i64 (l.length / 4 * 3) (by omega)
  simp only [Int.natCast_mul, Int.natCast_ediv, Int.cast_ofNat_Int] at hmk
  have h : ((l.length : Int) % 4 != 0) = false := by rw [Bool.eq_false_iff, Ne, bne_iff_ne]; omega
  have he := eqs_len l
  have hml : m ≤ l.length := by omega
  have hme : (l.length : Int) - ((eqs l : Nat) : Int) = (m : Int) := by omega
  have Ho := Lib.hid ho
  have Hgood := Lib.hid hgood
  have Hbad := Lib.hid hbad
  have Hr1 := Lib.hid hr1
  have Hr2 := Lib.hid hr2
  have Hr3 := Lib.hid hr3
  clear ho hm hgood hbad hr1 hr2 hr3 he
  go_enter Tryz.func25, Tryz.ntmps25
  go_wp2_with fail
  refine (equals_any _ _ hl).mono ?_
  rintro e w' ⟨rfl, rfl⟩
  go_wp2_with fail
  clear hmk h hme
  have hb0 := buf_made w 5 (l.length / 4 * 3) (by omega) w.heap.size (Nat.le_refl _)
  have hl0 : Below w.heap.size w (w.alloc (.cells (madeCells #[.int .u8 0] (l.length / 4 * 3)) 5)) := (Below.refl _ _).alloc (Nat.le_refl _) _
  go_loopg [5, 6, 7, 26] (l.length + 1) (fun g v a s c wr => ∃ (k : Nat) (st : Nat × Nat × List UInt8), k ≤ p ∧ g + k = l.length + 1 ∧ c = .int .i64 k ∧ runL (l.take k) = st ∧ a = .int .i64 (st.1 : Nat) ∧ s = .int .i64 (st.2.1 : Nat) ∧ Buf 5 w.heap.size wr v st.2.2 ∧ Below w.heap.size w wr)
  case atStart => exact ⟨0, (0, 0, []), by omega, by omega, rfl, rfl, rfl, rfl, hb0, hl0⟩
  case round =>
    obtain ⟨k, st, hk, hg, rfl, hst, rfl, rfl, hb, hlo⟩ := hrel
    have Hg := Lib.hid hg
    have Hst := Lib.hid hst
    clear hg hb0 hl0
    by_cases hlt : k < p
    · have hkl : k < l.length := by omega
      have hki : (k : Int) < (m : Int) := by omega
      have hki2 : (k : Int) < (l.length : Int) := by omega
      have hv := Hgood.out k hkl hlt
      have hbd := letN_bd l[k]
      obtain ⟨n, hn⟩ : ∃ n : Nat, (letN l[k]).toNat = n := ⟨_, rfl⟩
      have hn2 : letN l[k] = (n : Int) := by omega
      have hn64 : n < 64 := by omega
      have hinv := runL_inv (l.take k)
      have hnew : runL (l.take (k + 1)) = stepL st n := by rw [List.take_succ_eq_append_getElem hkl, runL_snoc, hst, hn]
      rw [hst, List.length_take, Nat.min_eq_left (by omega)] at hinv
      clear hn hv hbd hst
      obtain ⟨a, s, o⟩ := st
      obtain ⟨hs, ha, hso⟩ := hinv
      have Hnew := Lib.hid hnew
      have Hn2 := Lib.hid hn2
      simp only at hs ha hso hb
      clear hnew hn2 hki2
      have hsz := hlo.size
      rcases hs with rfl | rfl | rfl | rfl
      · have ha' : a < 1 := ha
        obtain rfl : a = 0 := by omega
        clear ha
        obtain ⟨h, hh⟩ : ∃ h, n = h := ⟨_, rfl⟩
        have hor := or6 0 n h (by omega) hn64 (by omega)
        simp only [Int.cast_ofNat_Int, Int.zero_mul] at hor
        have hres : stepL (0, 0, o) n = (h, 6, o) := by simp [stepL]; exact hh
        rw [hres] at Hnew
        clear hres hh
        go_wp2_with fail
        refine (index_any _ _).mono ?_
        rintro e w2 ⟨rfl, rfl⟩
        rw [Hn2.out]
        go_wp2_with fail
        go_roundg (gk - 1)
        case measure => have := Hg.out; omega
        case rel => exact ⟨k + 1, (h, 6, o), by omega, by have := Hg.out; omega, by go_num, Hnew.out, rfl, rfl, hb, hlo⟩
      · have ha' : a < 4 := ha
        clear ha
        obtain ⟨h, hh⟩ : ∃ h, a * 64 + n = h := ⟨_, rfl⟩
        have hor := or6 a n h (by omega) hn64 hh
        have hh2 : h < 256 := by omega
        obtain ⟨y, hy, hyi⟩ := byte_of h 1 (by omega)
        have hmask : bits .and .i64 (h : Int) 0 = ((h % 1 : Nat) : Int) := i64_mask h 0 (by omega) (by decide)
        have hres : stepL (a, 2, o) n = (h % 1, 0, o ++ [y]) := by simp only [stepL]; rw [if_pos (by decide), hh, ← hy]
        obtain ⟨z, hz⟩ : ∃ z, h % 1 = z := ⟨_, rfl⟩
        rw [hz] at hmask hres
        have hy1 : y.toNat = h := by rw [← hy, UInt8.toNat_ofNat', Nat.div_one]; exact Nat.mod_eq_of_lt hh2
        subst hy1
        clear hyi hh2
        have hh2 : y.toNat < 256 := y.toNat_lt
        rw [hres] at Hnew
        clear hres hh hy hz
        go_wp2_with fail
        refine (index_any _ _).mono ?_
        rintro e w2 ⟨rfl, rfl⟩
        rw [Hn2.out]
        have hlen : o.length ≤ l.length := by omega
        go_wp2_with (at_builtin; refine wpList_append_buf rfl _ _ _ _ rfl 5 i0 Tryz.underlying44 hi hz0 hz1 hz2 w.heap.size _ o rfl (hb.alloc _) (by simp; omega) _ [y] rfl (src_lit Tryz.underlying44 wr [y] 5 (0, 0) 1 1 rfl) (by simp; omega) ?_; intro v3 w3 hb3 hlo3 hsz3 _)
        have hlo4 : Below w.heap.size w w3 := (hlo.alloc (by omega) _).trans hlo3
        go_roundg (gk - 1)
        case measure => have := Hg.out; omega
        case rel => exact ⟨k + 1, (z, 0, o ++ [y]), by omega, by have := Hg.out; omega, by go_num, Hnew.out, rfl, rfl, hb3, hlo4⟩
      · have ha' : a < 16 := ha
        clear ha
        obtain ⟨h, hh⟩ : ∃ h, a * 64 + n = h := ⟨_, rfl⟩
        have hor := or6 a n h (by omega) hn64 hh
        have hh2 : h < 1024 := by omega
        obtain ⟨y, hy, hyi⟩ := byte_of h 4 (by omega)
        have hmask : bits .and .i64 (h : Int) 3 = ((h % 4 : Nat) : Int) := i64_mask h 2 (by omega) (by decide)
        have hres : stepL (a, 4, o) n = (h % 4, 2, o ++ [y]) := by simp only [stepL]; rw [if_pos (by decide), hh, ← hy]
        obtain ⟨z, hz⟩ : ∃ z, h % 4 = z := ⟨_, rfl⟩
        rw [hz] at hmask hres
        simp only [Int.cast_ofNat_Int] at hyi
        rw [hres] at Hnew
        clear hres hh hy hz
        go_wp2_with fail
        refine (index_any _ _).mono ?_
        rintro e w2 ⟨rfl, rfl⟩
        rw [Hn2.out]
        have hlen : o.length ≤ l.length := by omega
        go_wp2_with (at_builtin; refine wpList_append_buf rfl _ _ _ _ rfl 5 i0 Tryz.underlying44 hi hz0 hz1 hz2 w.heap.size _ o rfl (hb.alloc _) (by simp; omega) _ [y] rfl (src_lit Tryz.underlying44 wr [y] 5 (0, 0) 1 1 rfl) (by simp; omega) ?_; intro v3 w3 hb3 hlo3 hsz3 _)
        have hlo4 : Below w.heap.size w w3 := (hlo.alloc (by omega) _).trans hlo3
        go_roundg (gk - 1)
        case measure => have := Hg.out; omega
        case rel => exact ⟨k + 1, (z, 2, o ++ [y]), by omega, by have := Hg.out; omega, by go_num, Hnew.out, rfl, rfl, hb3, hlo4⟩
      · have ha' : a < 64 := ha
        clear ha
        obtain ⟨h, hh⟩ : ∃ h, a * 64 + n = h := ⟨_, rfl⟩
        have hor := or6 a n h (by omega) hn64 hh
        have hh2 : h < 4096 := by omega
        obtain ⟨y, hy, hyi⟩ := byte_of h 16 (by omega)
        have hmask : bits .and .i64 (h : Int) 15 = ((h % 16 : Nat) : Int) := i64_mask h 4 (by omega) (by decide)
        have hres : stepL (a, 6, o) n = (h % 16, 4, o ++ [y]) := by simp only [stepL]; rw [if_pos (by decide), hh, ← hy]
        obtain ⟨z, hz⟩ : ∃ z, h % 16 = z := ⟨_, rfl⟩
        rw [hz] at hmask hres
        simp only [Int.cast_ofNat_Int] at hyi
        rw [hres] at Hnew
        clear hres hh hy hz
        go_wp2_with fail
        refine (index_any _ _).mono ?_
        rintro e w2 ⟨rfl, rfl⟩
        rw [Hn2.out]
        have hlen : o.length ≤ l.length := by omega
        go_wp2_with (at_builtin; refine wpList_append_buf rfl _ _ _ _ rfl 5 i0 Tryz.underlying44 hi hz0 hz1 hz2 w.heap.size _ o rfl (hb.alloc _) (by simp; omega) _ [y] rfl (src_lit Tryz.underlying44 wr [y] 5 (0, 0) 1 1 rfl) (by simp; omega) ?_; intro v3 w3 hb3 hlo3 hsz3 _)
        have hlo4 : Below w.heap.size w w3 := (hlo.alloc (by omega) _).trans hlo3
        go_roundg (gk - 1)
        case measure => have := Hg.out; omega
        case rel => exact ⟨k + 1, (z, 4, o ++ [y]), by omega, by have := Hg.out; omega, by go_num, Hnew.out, rfl, rfl, hb3, hlo4⟩
    · have hkp : k = p := by omega
      subst hkp
      clear hlt
      by_cases hkm : k < m
      · have hki : (k : Int) < (m : Int) := by omega
        have hki2 : (k : Int) < (l.length : Int) := by omega
        have hv := Hbad.out (by omega) hkm
        have hbd := letN_bd (l[k]'(by omega))
        have hv1 : letN (l[k]'(by omega)) = -1 := by omega
        clear hbd hv hst
        have Hv := Lib.hid hv1
        clear hv1
        go_wp2_with fail
        refine (index_any _ _).mono ?_
        rintro e w2 ⟨rfl, rfl⟩
        rw [Hv.out]
        go_wp2_with fail
        refine (wrong_any k _ (by omega)).mono ?_
        rintro e w3 ⟨v, rfl, he, hb3⟩
        go_wp2_with fail
        go_ret2
        rw [Hr1.out hkm]
        exact ⟨v, rfl, he, below_then hlo hb3⟩
      · have hkm2 : k = m := by omega
        subst hkm2
        clear hkm
        have hcv := run_string_buf (P := Tryz.prog) 44 9 5 Tryz.underlying44 Tryz.underlying5 Tryz.underlying9 hb
        have hR2 := Hr2.out (Nat.lt_irrefl _)
        have hR3 := Hr3.out (Nat.lt_irrefl _)
        rw [hst] at hR2 hR3
        have HR2 := Lib.hid hR2
        have HR3 := Lib.hid hR3
        clear hR2 hR3 hst
        obtain ⟨a, s, o⟩ := st
        simp only at hcv hb
        by_cases ha : a = 0
        · subst ha
          go_wp2_with fail
          go_ret2
          rw [HR3.out (by trivial)]
          exact ⟨_, rfl, .good, hlo⟩
        · have hane : ((a : Int) != 0) = true := by rw [bne_iff_ne]; omega
          have hk1 : 0 < k := by
            rcases Nat.eq_zero_or_pos k with h0 | h0
            · exfalso; apply ha
              have := Hst.out
              rw [h0] at this
              have h2 : runL (l.take 0) = (0, 0, []) := rfl
              rw [h2] at this
              exact (congrArg Prod.fst this).symm
            · exact h0
          have hkk : (k : Int) - 1 = ((k - 1 : Nat) : Int) := by omega
          obtain ⟨q, hq⟩ : ∃ q, k - 1 = q := ⟨_, rfl⟩
          have hql : q ≤ 140737488351232 := by omega
          have hR := HR2.out ha
          rw [hq] at hkk hR
          have HR := Lib.hid hR
          clear hR hq
          go_wp2_with fail
          refine (wrong_any q _ hql).mono ?_
          rintro e w3 ⟨v, rfl, he, hb3⟩
          go_wp2_with fail
          go_ret2
          rw [HR.out]
          exact ⟨v, rfl, he, below_then hlo hb3⟩
theorem readLetters_any (l : List UInt8) (w : World) (hl : l.length ≤ 4294967280) :
    Calls Tryz.prog 25 #[.string (S l)] w (RetSE w (readLet l)) := by
  by_cases ho : l.length % 4 = 0
  · have he := eqs_len l
    have hlen : (l.take (l.length - eqs l)).length = l.length - eqs l := by rw [List.length_take]; omega
    cases hf : (l.take (l.length - eqs l)).findIdx? (fun c => decide (letN c < 0)) with
    | some m =>
      obtain ⟨hm, hp, hall⟩ := List.findIdx?_eq_some_iff_getElem.1 hf
      have e : readLet l = ([], 3, 2 + (m : Int)) := by unfold readLet; rw [if_neg (by omega), hf]
      rw [e]
      exact readLetters_loop l _ m w hl ho rfl (by omega) (fun j hj hjm => by
        have := hall j hjm
        simp only [List.getElem_take] at this
        simpa using this) (fun hj _ => by simpa using hp) _ (fun _ => rfl) (fun h _ => absurd hm (by omega)) (fun h _ => absurd hm (by omega))
    | none =>
      have hall := List.findIdx?_eq_none_iff.1 hf
      have hg : ∀ j (hj : j < l.length), j < l.length - eqs l → 0 ≤ letN l[j] := fun j hj hjm => by
        have hj2 : j < (l.take (l.length - eqs l)).length := by omega
        have hmem := List.getElem_mem hj2
        rw [List.getElem_take] at hmem
        have := hall l[j] hmem
        simpa using this
      by_cases hz : (runL (l.take (l.length - eqs l))).1 = 0
      · have e : readLet l = ((runL (l.take (l.length - eqs l))).2.2, 0, -1) := by unfold readLet; rw [if_neg (by omega), hf]; simp only; rw [if_neg (by omega)]
        rw [e]
        exact readLetters_loop l _ (l.length - eqs l) w hl ho rfl (Nat.le_refl _) hg (fun _ h => absurd h (Nat.lt_irrefl _)) _ (fun h => absurd h (Nat.lt_irrefl _)) (fun _ h => absurd hz h) (fun _ _ => rfl)
      · have e : readLet l = ([], 3, 2 + ((l.length - eqs l - 1 : Nat) : Int)) := by unfold readLet; rw [if_neg (by omega), hf]; simp only; rw [if_pos (by omega)]
        rw [e]
        exact readLetters_loop l _ (l.length - eqs l) w hl ho rfl (Nat.le_refl _) hg (fun _ h => absurd h (Nat.lt_irrefl _)) _ (fun h => absurd h (Nat.lt_irrefl _)) (fun _ _ => rfl) (fun _ h => absurd h hz)
  · have e : readLet l = ([], 7, -1) := by unfold readLet; rw [if_pos (by omega)]
    rw [e]
    exact (readLetters_odd l w hl ho).mono fun _ _ ⟨h1, h2⟩ => ⟨_, h1, .bare _ (by decide), by rw [← h2]; exact Below.refl _ _⟩
end Go.Proofs.YtoponmdfjbhnoaaGreatDoor
