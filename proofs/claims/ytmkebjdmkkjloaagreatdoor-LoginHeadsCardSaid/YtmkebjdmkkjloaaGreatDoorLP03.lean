/- LP03: several texts in one. -/
import Derived.Lib.IndexMore
import Derived.Lib.Split
import Derived.Test.YtmkebjdmkkjloaaGreatDoorLP01
import Derived.Test.YtmkebjdmkkjloaaGreatDoorLP02
namespace Go.Proofs.YtmkebjdmkkjloaaGreatDoor
open Go.RowKit
theorem S_data (l : List UInt8) : (S l).data.toList = l := rfl
theorem equals_any (l : List UInt8) (w : World) (hl : l.length ≤ 4294967280) :
    Calls Tryz.prog 201 #[.string (S l)] w fun e w' => e = .returned (.int .i64 ((eqs l : Nat) : Int)) ∧ w = w' := by
  have hs : (S l).size ≤ 9223372036854775807 := by rw [S_size]; omega
  have h1 := fun W => Tryz.strings_HasSuffix (S l) (S [61, 61]) W hs
  have h2 := fun W => Tryz.strings_HasSuffix (S l) (S [61]) W hs
  rw [S_data, S_data] at h1 h2
  have H1 := Lib.hid h1
  have H2 := Lib.hid h2
  clear h1 h2
  unfold eqs
  cases q1 : Lib.hasSuffix l [61, 61] <;> cases q2 : Lib.hasSuffix l [61]
  all_goals
    rw [q1] at H1
    rw [q2] at H2
    go_enter Tryz.func201, Tryz.ntmps201
    go_wp2_with fail
    refine (H1.out _).mono ?_
    rintro e w' ⟨rfl, hw⟩
    rw [hw]
    clear hw
    go_wp2_with fail
    try (refine (H2.out _).mono ?_; rintro e w2 ⟨rfl, hw⟩; rw [hw]; clear hw; go_wp2_with fail)
    go_ret
    exact ⟨rfl, rfl⟩
theorem index_any (c : UInt8) (w : World) :
    Calls Tryz.prog 165 #[.string (S letterTab), .int .u8 (c.toNat : Int)] w fun e w' => e = .returned (.int .i64 (letN c)) ∧ w = w' := by
  refine (Tryz.strings_IndexByte (S letterTab) _ w).mono ?_
  rintro e w' ⟨rfl, hw⟩
  refine ⟨?_, hw.symm⟩
  rw [S_data]
  simp [letN]
theorem readLetters_odd (l : List UInt8) (w : World) (hl : l.length ≤ 4294967280) (ho : l.length % 4 ≠ 0) :
    Calls Tryz.prog 175 #[.string (S l)] w fun e w' => e = .returned (.tuple #[.string (S []), .iface 80 (.int .i64 7)]) ∧ w = w' := by
  have h : ((l.length : Int) % 4 != 0) = true := by rw [bne_iff_ne]; omega
  clear ho
  go_enter Tryz.func175, Tryz.ntmps175
  go_wp2_with fail
  go_ret2
  exact ⟨rfl, rfl⟩
theorem or6 (a n h : Nat) (ha : a < 64) (hn : n < 64) (hh : a * 64 + n = h) : bits .or .i64 ((a : Int) * 64) (n : Int) = (h : Int) := by
  have e : (a : Int) * 64 = ((a * 64 : Nat) : Int) := by omega
  rw [e, i64_or_nat _ _ (by omega) (by omega), ← hh]
  have h6 : n < 2 ^ 6 := hn
  have := nat_join a 6 n h6
  rw [show (2 : Nat) ^ 6 = 64 from rfl] at this
  rw [this]
theorem byte_of (h d : Nat) (hd : h / d < 256) : ∃ y : UInt8, UInt8.ofNat (h / d) = y ∧ (h : Int) / (d : Int) = (y.toNat : Int) := by
  refine ⟨_, rfl, ?_⟩
  rw [UInt8.toNat_ofNat', Nat.mod_eq_of_lt (show h / d < 2 ^ 8 from hd), Int.natCast_ediv]
set_option maxRecDepth 100000 in
set_option maxHeartbeats 2000000 in
theorem readLetters_loop (l : List UInt8) (m p : Nat) (w : World) (hl : l.length ≤ 4294967280) (ho : l.length % 4 = 0) (hm : m = l.length - eqs l) (hp : p ≤ m) (hgood : ∀ j (hj : j < l.length), j < p → 0 ≤ letN l[j]) (hbad : ∀ (hj : p < l.length), p < m → letN l[p] < 0)
    (r : List UInt8 × Int × Int) (hr1 : p < m → r = ([], 3, 2 + (p : Int))) (hr2 : ¬ p < m → (runL (l.take m)).1 ≠ 0 → r = ([], 3, 2 + ((m - 1 : Nat) : Int))) (hr3 : ¬ p < m → (runL (l.take m)).1 = 0 → r = ((runL (l.take m)).2.2, 0, -1)) :
    Calls Tryz.prog 175 #[.string (S l)] w (RetSE w r) := by
  obtain ⟨i0, hi, hz0, hz1, hz2⟩ := info_parts info8r
  have hmk := fun w => run_make_buf (P := Tryz.prog) w 127 5 i0 Tryz.underlying127 hi hz0 hz1 hz2 .i64 .i64 (l.length / 4 * 3) (by omega)
  simp only [Int.natCast_mul, Int.natCast_ediv, Int.cast_ofNat_Int] at hmk
  have h : ((l.length : Int) % 4 != 0) = false := by rw [Bool.eq_false_iff, Ne, bne_iff_ne]; omega
  have he := eqs_len l
  have hml : m ≤ l.length := by omega
  have hme : (l.length : Int) - ((eqs l : Nat) : Int) = (m : Int) := by omega
  have Ho := Lib.hid ho
  have Hgood := Lib.hid hgood
  have Hbad := Lib.hid hbad
  have Hr1 := Lib.hid hr1
  have Hr2 := Lib.hid hr2
  have Hr3 := Lib.hid hr3
  clear ho hm hgood hbad hr1 hr2 hr3 he
  go_enter Tryz.func175, Tryz.ntmps175
  go_wp2_with fail
  refine (equals_any _ _ hl).mono ?_
  rintro e w' ⟨rfl, rfl⟩
  go_wp2_with fail
  clear hmk h hme
  have hb0 := buf_made w 5 (l.length / 4 * 3) (by omega) w.heap.size (Nat.le_refl _)
  have hl0 : Below w.heap.size w (w.alloc (.cells (madeCells #[.int .u8 0] (l.length / 4 * 3)) 5)) := (Below.refl _ _).alloc (Nat.le_refl _) _
  go_loopg [5, 6, 7, 26] (l.length + 1) (fun g v a s c wr => ∃ (k : Nat) (st : Nat × Nat × List UInt8), k ≤ p ∧ g + k = l.length + 1 ∧ c = .int .i64 k ∧ runL (l.take k) = st ∧ a = .int .i64 (st.1 : Nat) ∧ s = .int .i64 (st.2.1 : Nat) ∧ Buf 5 w.heap.size wr v st.2.2 ∧ Below w.heap.size w wr)
  case atStart => exact ⟨0, (0, 0, []), by omega, by omega, rfl, rfl, rfl, rfl, hb0, hl0⟩
  case round =>
    obtain ⟨k, st, hk, hg, rfl, hst, rfl, rfl, hb, hlo⟩ := hrel
    have Hg := Lib.hid hg
    have Hst := Lib.hid hst
    clear hg hb0 hl0
    by_cases hlt : k < p
    · have hkl : k < l.length := by omega
      have hki : (k : Int) < (m : Int) := by omega
      have hki2 : (k : Int) < (l.length : Int) := by omega
      have hv := Hgood.out k hkl hlt
      have hbd := letN_bd l[k]
      obtain ⟨n, hn⟩ : ∃ n : Nat, (letN l[k]).toNat = n := ⟨_, rfl⟩
      have hn2 : letN l[k] = (n : Int) := by omega
      have hn64 : n < 64 := by omega
      have hinv := runL_inv (l.take k)
      have hnew : runL (l.take (k + 1)) = stepL st n := by rw [List.take_succ_eq_append_getElem hkl, runL_snoc, hst, hn]
      rw [hst, List.length_take, Nat.min_eq_left (by omega)] at hinv
      clear hn hv hbd hst
      obtain ⟨a, s, o⟩ := st
      obtain ⟨hs, ha, hso⟩ := hinv
      have Hnew := Lib.hid hnew
      have Hn2 := Lib.hid hn2
      simp only at hs ha hso hb
      clear hnew hn2 hki2
      have hsz := hlo.size
      rcases hs with rfl | rfl | rfl | rfl
      · have ha' : a < 1 := ha
        obtain rfl : a = 0 := by omega
        clear ha
        obtain ⟨h, hh⟩ : ∃ h, n = h := ⟨_, rfl⟩
        have hor := or6 0 n h (by omega) hn64 (by omega)
        simp only [Int.cast_ofNat_Int, Int.zero_mul] at hor
        have hres : stepL (0, 0, o) n = (h, 6, o) := by simp [stepL]; exact hh
        rw [hres] at Hnew
        clear hres hh
        go_wp2_with fail
        refine (index_any _ _).mono ?_
        rintro e w2 ⟨rfl, rfl⟩
        rw [Hn2.out]
        go_wp2_with fail
        go_roundg (gk - 1)
        case measure => have := Hg.out; omega
        case rel => exact ⟨k + 1, (h, 6, o), by omega, by have := Hg.out; omega, by go_num, Hnew.out, rfl, rfl, hb, hlo⟩
      · have ha' : a < 4 := ha
        clear ha
        obtain ⟨h, hh⟩ : ∃ h, a * 64 + n = h := ⟨_, rfl⟩
        have hor := or6 a n h (by omega) hn64 hh
        have hh2 : h < 256 := by omega
        obtain ⟨y, hy, hyi⟩ := byte_of h 1 (by omega)
        have hmask : bits .and .i64 (h : Int) 0 = ((h % 1 : Nat) : Int) := i64_mask h 0 (by omega) (by decide)
        have hres : stepL (a, 2, o) n = (h % 1, 0, o ++ [y]) := by simp only [stepL]; rw [if_pos (by decide), hh, ← hy]
        obtain ⟨z, hz⟩ : ∃ z, h % 1 = z := ⟨_, rfl⟩
        rw [hz] at hmask hres
        have hy1 : y.toNat = h := by rw [← hy, UInt8.toNat_ofNat', Nat.div_one]; exact Nat.mod_eq_of_lt hh2
        subst hy1
        clear hyi hh2
        have hh2 : y.toNat < 256 := y.toNat_lt
        rw [hres] at Hnew
        clear hres hh hy hz
        go_wp2_with fail
        refine (index_any _ _).mono ?_
        rintro e w2 ⟨rfl, rfl⟩
        rw [Hn2.out]
        have hlen : o.length ≤ l.length := by omega
        go_wp2_with (at_builtin; refine wpList_append_buf rfl _ _ _ _ rfl 5 i0 Tryz.underlying127 hi hz0 hz1 hz2 w.heap.size _ o rfl (hb.alloc _) (by simp; omega) _ [y] rfl (src_lit Tryz.underlying127 wr [y] 5 (0, 0) 1 1 rfl) (by simp; omega) ?_; intro v3 w3 hb3 hlo3 hsz3 _)
        have hlo4 : Below w.heap.size w w3 := (hlo.alloc (by omega) _).trans hlo3
        go_roundg (gk - 1)
        case measure => have := Hg.out; omega
        case rel => exact ⟨k + 1, (z, 0, o ++ [y]), by omega, by have := Hg.out; omega, by go_num, Hnew.out, rfl, rfl, hb3, hlo4⟩
      · have ha' : a < 16 := ha
        clear ha
        obtain ⟨h, hh⟩ : ∃ h, a * 64 + n = h := ⟨_, rfl⟩
        have hor := or6 a n h (by omega) hn64 hh
        have hh2 : h < 1024 := by omega
        obtain ⟨y, hy, hyi⟩ := byte_of h 4 (by omega)
        have hmask : bits .and .i64 (h : Int) 3 = ((h % 4 : Nat) : Int) := i64_mask h 2 (by omega) (by decide)
        have hres : stepL (a, 4, o) n = (h % 4, 2, o ++ [y]) := by simp only [stepL]; rw [if_pos (by decide), hh, ← hy]
        obtain ⟨z, hz⟩ : ∃ z, h % 4 = z := ⟨_, rfl⟩
        rw [hz] at hmask hres
        simp only [Int.cast_ofNat_Int] at hyi
        rw [hres] at Hnew
        clear hres hh hy hz
        go_wp2_with fail
        refine (index_any _ _).mono ?_
        rintro e w2 ⟨rfl, rfl⟩
        rw [Hn2.out]
        have hlen : o.length ≤ l.length := by omega
        go_wp2_with (at_builtin; refine wpList_append_buf rfl _ _ _ _ rfl 5 i0 Tryz.underlying127 hi hz0 hz1 hz2 w.heap.size _ o rfl (hb.alloc _) (by simp; omega) _ [y] rfl (src_lit Tryz.underlying127 wr [y] 5 (0, 0) 1 1 rfl) (by simp; omega) ?_; intro v3 w3 hb3 hlo3 hsz3 _)
        have hlo4 : Below w.heap.size w w3 := (hlo.alloc (by omega) _).trans hlo3
        go_roundg (gk - 1)
        case measure => have := Hg.out; omega
        case rel => exact ⟨k + 1, (z, 2, o ++ [y]), by omega, by have := Hg.out; omega, by go_num, Hnew.out, rfl, rfl, hb3, hlo4⟩
      · have ha' : a < 64 := ha
        clear ha
        obtain ⟨h, hh⟩ : ∃ h, a * 64 + n = h := ⟨_, rfl⟩
        have hor := or6 a n h (by omega) hn64 hh
        have hh2 : h < 4096 := by omega
        obtain ⟨y, hy, hyi⟩ := byte_of h 16 (by omega)
        have hmask : bits .and .i64 (h : Int) 15 = ((h % 16 : Nat) : Int) := i64_mask h 4 (by omega) (by decide)
        have hres : stepL (a, 6, o) n = (h % 16, 4, o ++ [y]) := by simp only [stepL]; rw [if_pos (by decide), hh, ← hy]
        obtain ⟨z, hz⟩ : ∃ z, h % 16 = z := ⟨_, rfl⟩
        rw [hz] at hmask hres
        simp only [Int.cast_ofNat_Int] at hyi
        rw [hres] at Hnew
        clear hres hh hy hz
        go_wp2_with fail
        refine (index_any _ _).mono ?_
        rintro e w2 ⟨rfl, rfl⟩
        rw [Hn2.out]
        have hlen : o.length ≤ l.length := by omega
        go_wp2_with (at_builtin; refine wpList_append_buf rfl _ _ _ _ rfl 5 i0 Tryz.underlying127 hi hz0 hz1 hz2 w.heap.size _ o rfl (hb.alloc _) (by simp; omega) _ [y] rfl (src_lit Tryz.underlying127 wr [y] 5 (0, 0) 1 1 rfl) (by simp; omega) ?_; intro v3 w3 hb3 hlo3 hsz3 _)
        have hlo4 : Below w.heap.size w w3 := (hlo.alloc (by omega) _).trans hlo3
        go_roundg (gk - 1)
        case measure => have := Hg.out; omega
        case rel => exact ⟨k + 1, (z, 4, o ++ [y]), by omega, by have := Hg.out; omega, by go_num, Hnew.out, rfl, rfl, hb3, hlo4⟩
    · have hkp : k = p := by omega
      subst hkp
      clear hlt
      by_cases hkm : k < m
      · have hki : (k : Int) < (m : Int) := by omega
        have hki2 : (k : Int) < (l.length : Int) := by omega
        have hv := Hbad.out (by omega) hkm
        have hbd := letN_bd (l[k]'(by omega))
        have hv1 : letN (l[k]'(by omega)) = -1 := by omega
        clear hbd hv hst
        have Hv := Lib.hid hv1
        clear hv1
        go_wp2_with fail
        refine (index_any _ _).mono ?_
        rintro e w2 ⟨rfl, rfl⟩
        rw [Hv.out]
        go_wp2_with fail
        refine (wrong_any k _ (by omega)).mono ?_
        rintro e w3 ⟨v, rfl, he, hb3⟩
        go_wp2_with fail
        go_ret2
        rw [Hr1.out hkm]
        exact ⟨v, rfl, he, below_then hlo hb3⟩
      · have hkm2 : k = m := by omega
        subst hkm2
        clear hkm
        have hcv := run_string_buf (P := Tryz.prog) 127 9 5 Tryz.underlying127 Tryz.underlying5 Tryz.underlying9 hb
        have hR2 := Hr2.out (Nat.lt_irrefl _)
        have hR3 := Hr3.out (Nat.lt_irrefl _)
        rw [hst] at hR2 hR3
        have HR2 := Lib.hid hR2
        have HR3 := Lib.hid hR3
        clear hR2 hR3 hst
        obtain ⟨a, s, o⟩ := st
        simp only at hcv hb
        by_cases ha : a = 0
        · subst ha
          go_wp2_with fail
          go_ret2
          rw [HR3.out (by trivial)]
          exact ⟨_, rfl, .good, hlo⟩
        · have hane : ((a : Int) != 0) = true := by rw [bne_iff_ne]; omega
          have hk1 : 0 < k := by
            rcases Nat.eq_zero_or_pos k with h0 | h0
            · exfalso; apply ha
              have := Hst.out
              rw [h0] at this
              have h2 : runL (l.take 0) = (0, 0, []) := rfl
              rw [h2] at this
              exact (congrArg Prod.fst this).symm
            · exact h0
          have hkk : (k : Int) - 1 = ((k - 1 : Nat) : Int) := by omega
          obtain ⟨q, hq⟩ : ∃ q, k - 1 = q := ⟨_, rfl⟩
          have hql : q ≤ 140737488351232 := by omega
          have hR := HR2.out ha
          rw [hq] at hkk hR
          have HR := Lib.hid hR
          clear hR hq
          go_wp2_with fail
          refine (wrong_any q _ hql).mono ?_
          rintro e w3 ⟨v, rfl, he, hb3⟩
          go_wp2_with fail
          go_ret2
          rw [HR.out]
          exact ⟨v, rfl, he, below_then hlo hb3⟩
theorem readLetters_any (l : List UInt8) (w : World) (hl : l.length ≤ 4294967280) :
    Calls Tryz.prog 175 #[.string (S l)] w (RetSE w (readLet l)) := by
  by_cases ho : l.length % 4 = 0
  · have he := eqs_len l
    have hlen : (l.take (l.length - eqs l)).length = l.length - eqs l := by rw [List.length_take]; omega
    cases hf : (l.take (l.length - eqs l)).findIdx? (fun c => decide (letN c < 0)) with
    | some m =>
      obtain ⟨hm, hp, hall⟩ := List.findIdx?_eq_some_iff_getElem.1 hf
      have e : readLet l = ([], 3, 2 + (m : Int)) := by unfold readLet; rw [if_neg (by omega), hf]
      rw [e]
      exact readLetters_loop l _ m w hl ho rfl (by omega) (fun j hj hjm => by
        have := hall j hjm
        simp only [List.getElem_take] at this
        simpa using this) (fun hj _ => by simpa using hp) _ (fun _ => rfl) (fun h _ => absurd hm (by omega)) (fun h _ => absurd hm (by omega))
    | none =>
      have hall := List.findIdx?_eq_none_iff.1 hf
      have hg : ∀ j (hj : j < l.length), j < l.length - eqs l → 0 ≤ letN l[j] := fun j hj hjm => by
        have hj2 : j < (l.take (l.length - eqs l)).length := by omega
        have hmem := List.getElem_mem hj2
        rw [List.getElem_take] at hmem
        have := hall l[j] hmem
        simpa using this
      by_cases hz : (runL (l.take (l.length - eqs l))).1 = 0
      · have e : readLet l = ((runL (l.take (l.length - eqs l))).2.2, 0, -1) := by unfold readLet; rw [if_neg (by omega), hf]; simp only; rw [if_neg (by omega)]
        rw [e]
        exact readLetters_loop l _ (l.length - eqs l) w hl ho rfl (Nat.le_refl _) hg (fun _ h => absurd h (Nat.lt_irrefl _)) _ (fun h => absurd h (Nat.lt_irrefl _)) (fun _ h => absurd hz h) (fun _ _ => rfl)
      · have e : readLet l = ([], 3, 2 + ((l.length - eqs l - 1 : Nat) : Int)) := by unfold readLet; rw [if_neg (by omega), hf]; simp only; rw [if_pos (by omega)]
        rw [e]
        exact readLetters_loop l _ (l.length - eqs l) w hl ho rfl (Nat.le_refl _) hg (fun _ h => absurd h (Nat.lt_irrefl _)) _ (fun h => absurd h (Nat.lt_irrefl _)) (fun _ _ => rfl) (fun _ h => absurd h hz)
  · have e : readLet l = ([], 7, -1) := by unfold readLet; rw [if_pos (by omega)]
    rw [e]
    exact (readLetters_odd l w hl ho).mono fun _ _ ⟨h1, h2⟩ => ⟨_, h1, .bare _ (by decide), by rw [← h2]; exact Below.refl _ _⟩
end Go.Proofs.YtmkebjdmkkjloaaGreatDoor
namespace Go.Proofs.YtmkebjdmkkjloaaGreatDoor
open Go.RowKit
def readV (l : List UInt8) : List UInt8 × Int × Int :=
  match l with
  | a :: b :: r => if a = 48 then (if b = 120 ∨ b = 88 then readHex r else if b = 98 ∨ b = 66 then readLet r else ([], 3, -1)) else ([], 3, -1)
  | _ => ([], 3, -1)
theorem readV_hex (r : List UInt8) (b : UInt8) (hb : b = 120 ∨ b = 88) : readV (48 :: b :: r) = readHex r := by simp only [readV, if_true]; rw [if_pos hb]
theorem readV_b64 (r : List UInt8) (b : UInt8) (hb : b = 98 ∨ b = 66) : readV (48 :: b :: r) = readLet r := by
  simp only [readV, if_true]
  rw [if_neg (by rcases hb with rfl | rfl <;> decide), if_pos hb]
theorem read_short (l : List UInt8) (w : World) (h : l.length < 2) :
    Calls Tryz.prog 150 #[.string (S l)] w (RetSE w ([], 3, -1)) := by
  go_enter Tryz.func150, Tryz.ntmps150
  go_wp2_with fail
  go_ret2
  exact ⟨_, rfl, .bare _ (by decide), Below.refl _ _⟩
theorem u8_ne (a : UInt8) (n : Nat) (h : a ≠ UInt8.ofNat n) (hn : n < 256) : ((a.toNat : Int) == (n : Int)) = false ∧ ((a.toNat : Int) != (n : Int)) = true := by
  have hne : (a.toNat : Int) ≠ (n : Int) := by
    intro hx
    apply h
    apply UInt8.toNat_inj.1
    rw [UInt8.toNat_ofNat', Nat.mod_eq_of_lt (show n < 2 ^ 8 from hn)]; omega
  exact ⟨beq_false_of_ne hne, bne_iff_ne.2 hne⟩
theorem read_pair (a b : UInt8) (r : List UInt8) (w : World) (hl : r.length ≤ 4294967270) :
    Calls Tryz.prog 150 #[.string (S (a :: b :: r))] w (RetSE w (readV (a :: b :: r))) := by
  by_cases ha : a = 48
  · subst ha
    by_cases hx : b = 120 ∨ b = 88
    · rw [readV_hex r b hx]
      rcases hx with rfl | rfl
      all_goals
        go_enter Tryz.func150, Tryz.ntmps150
        go_wp2_with fail
        refine (readDigits_any r _ (by omega)).mono ?_
        rintro e w' ⟨v, rfl, he, hb⟩
        go_wp2_with fail
        go_ret2
        exact ⟨v, rfl, he, hb⟩
    · by_cases hy : b = 98 ∨ b = 66
      · rw [readV_b64 r b hy]
        rcases hy with rfl | rfl
        all_goals
          go_enter Tryz.func150, Tryz.ntmps150
          go_wp2_with fail
          refine (readLetters_any r _ (by omega)).mono ?_
          rintro e w' ⟨v, rfl, he, hb⟩
          go_wp2_with fail
          go_ret2
          exact ⟨v, rfl, he, hb⟩
      · obtain ⟨h1, _⟩ := u8_ne b 120 (fun h => hx (.inl h)) (by decide)
        obtain ⟨h2, _⟩ := u8_ne b 88 (fun h => hx (.inr h)) (by decide)
        obtain ⟨h3, _⟩ := u8_ne b 98 (fun h => hy (.inl h)) (by decide)
        obtain ⟨h4, _⟩ := u8_ne b 66 (fun h => hy (.inr h)) (by decide)
        have e : readV (48 :: b :: r) = ([], 3, -1) := by simp only [readV, if_true]; rw [if_neg hx, if_neg hy]
        rw [e]
        clear hx hy e
        simp only [Int.cast_ofNat_Int] at h1 h2 h3 h4
        go_enter Tryz.func150, Tryz.ntmps150
        go_wp2_with fail
        go_ret2
        exact ⟨_, rfl, .bare _ (by decide), Below.refl _ _⟩
  · obtain ⟨h1, h2⟩ := u8_ne a 48 ha (by decide)
    have e : readV (a :: b :: r) = ([], 3, -1) := by simp only [readV]; rw [if_neg ha]
    rw [e]
    clear e ha
    simp only [Int.cast_ofNat_Int] at h1 h2
    go_enter Tryz.func150, Tryz.ntmps150
    go_wp2_with fail
    go_ret2
    exact ⟨_, rfl, .bare _ (by decide), Below.refl _ _⟩
theorem read_any (l : List UInt8) (w : World) (hl : l.length ≤ 4294967270) :
    Calls Tryz.prog 150 #[.string (S l)] w (RetSE w (readV l)) := by
  match l, hl with
  | [], _ => exact read_short [] w (by decide)
  | [a], _ => exact read_short [a] w (by simp)
  | a :: b :: r, hl => exact read_pair a b r w (by simp at hl; omega)
end Go.Proofs.YtmkebjdmkkjloaaGreatDoor
namespace Go.Proofs.YtmkebjdmkkjloaaGreatDoor
open Go.RowKit
set_option linter.unusedVariables false
def chkR (rv : List UInt8 × Int) (rs : List UInt8 × Int) : Int := if rv.2 ≠ 0 then rv.2 else if rs.2 ≠ 0 then rs.2 else if rv.1 = rs.1 then 0 else 13
def chkU (o : Option Us) (value : List UInt8) (id : Int) (c : List UInt8) : Int :=
  match o with
  | none => 8
  | some u => chkR ((readV value).1, (readV value).2.1) (respL id u.sc c)
def chkL (l : List Us) (name value : List UInt8) (id : Int) (c : List UInt8) : Int := chkU (usFind l name) value id c
theorem chkR_bad (t : List UInt8) (e : Int) (rs : List UInt8 × Int) (h : e ≠ 0) : chkR (t, e) rs = e := by unfold chkR; rw [if_pos h]
theorem chkR_resp (t x : List UInt8) (e : Int) (h : e ≠ 0) : chkR (t, 0) (x, e) = e := by unfold chkR; rw [if_neg (by simp), if_pos h]
theorem chkR_same (t : List UInt8) : chkR (t, 0) (t, 0) = 0 := by unfold chkR; rw [if_neg (by simp), if_neg (by simp), if_pos rfl]
theorem chkR_other (t x : List UInt8) (h : t ≠ x) : chkR (t, 0) (x, 0) = 13 := by unfold chkR; rw [if_neg (by simp), if_neg (by simp), if_neg h]
theorem chkL_none (l : List Us) (name value : List UInt8) (id : Int) (c : List UInt8) (h : usFind l name = none) : chkL l name value id c = 8 := by
  unfold chkL; rw [h]; rfl
end Go.Proofs.YtmkebjdmkkjloaaGreatDoor
namespace Go.Proofs.YtmkebjdmkkjloaaGreatDoor
open Go.RowKit
structure Ke where
  nm : List UInt8
  kd : Nat
  lo : Nat
  hi : Nat
  df : List UInt8
  no : Bool
  lg : Bool
def ke0 : Ke := ⟨[72, 101, 97, 100, 101, 114, 68, 105, 103, 101, 115, 116], 5, 0, 0, [78, 111, 110, 101], false, true⟩
def ke1 : Ke := ⟨[68, 97, 116, 97, 68, 105, 103, 101, 115, 116], 5, 0, 0, [78, 111, 110, 101], false, true⟩
def ke2 : Ke := ⟨[77, 97, 120, 67, 111, 110, 110, 101, 99, 116, 105, 111, 110, 115], 3, 1, 65535, [49], true, true⟩
def ke3 : Ke := ⟨[69, 114, 114, 111, 114, 82, 101, 99, 111, 118, 101, 114, 121, 76, 101, 118, 101, 108], 3, 0, 2, [48], false, true⟩
def ke4 : Ke := ⟨[73, 110, 105, 116, 105, 97, 108, 82, 50, 84], 2, 0, 0, [89, 101, 115], true, true⟩
def ke5 : Ke := ⟨[73, 109, 109, 101, 100, 105, 97, 116, 101, 68, 97, 116, 97], 1, 0, 0, [89, 101, 115], true, true⟩
def ke6 : Ke := ⟨[77, 97, 120, 82, 101, 99, 118, 68, 97, 116, 97, 83, 101, 103, 109, 101, 110, 116, 76, 101, 110, 103, 116, 104], 7, 512, 16777215, [56, 49, 57, 50], false, false⟩
def ke7 : Ke := ⟨[77, 97, 120, 66, 117, 114, 115, 116, 76, 101, 110, 103, 116, 104], 3, 512, 16777215, [50, 54, 50, 49, 52, 52], true, true⟩
def ke8 : Ke := ⟨[70, 105, 114, 115, 116, 66, 117, 114, 115, 116, 76, 101, 110, 103, 116, 104], 3, 512, 16777215, [54, 53, 53, 51, 54], true, true⟩
def ke9 : Ke := ⟨[68, 101, 102, 97, 117, 108, 116, 84, 105, 109, 101, 50, 87, 97, 105, 116], 4, 0, 3600, [50], false, true⟩
def ke10 : Ke := ⟨[68, 101, 102, 97, 117, 108, 116, 84, 105, 109, 101, 50, 82, 101, 116, 97, 105, 110], 3, 0, 3600, [50, 48], false, true⟩
def ke11 : Ke := ⟨[77, 97, 120, 79, 117, 116, 115, 116, 97, 110, 100, 105, 110, 103, 82, 50, 84], 3, 1, 65535, [49], true, true⟩
def ke12 : Ke := ⟨[68, 97, 116, 97, 80, 68, 85, 73, 110, 79, 114, 100, 101, 114], 2, 0, 0, [89, 101, 115], true, true⟩
def ke13 : Ke := ⟨[68, 97, 116, 97, 83, 101, 113, 117, 101, 110, 99, 101, 73, 110, 79, 114, 100, 101, 114], 2, 0, 0, [89, 101, 115], true, true⟩
def ke14 : Ke := ⟨[73, 110, 105, 116, 105, 97, 116, 111, 114, 78, 97, 109, 101], 6, 0, 0, [], false, true⟩
def ke15 : Ke := ⟨[73, 110, 105, 116, 105, 97, 116, 111, 114, 65, 108, 105, 97, 115], 6, 0, 0, [], false, false⟩
def ke16 : Ke := ⟨[84, 97, 114, 103, 101, 116, 78, 97, 109, 101], 6, 0, 0, [], false, true⟩
def ke17 : Ke := ⟨[83, 101, 115, 115, 105, 111, 110, 84, 121, 112, 101], 6, 0, 0, [78, 111, 114, 109, 97, 108], false, true⟩
def keRows : List Ke := [ke0, ke1, ke2, ke3, ke4, ke5, ke6, ke7, ke8, ke9, ke10, ke11, ke12, ke13, ke14, ke15, ke16, ke17]
def keAt (k : Nat) : Ke := keRows.getD k ke0
def keNames : List (List UInt8) := keRows.map (·.nm)
def keC (k : Ke) : List Value := [.string (S k.nm), .int .i64 (k.kd : Int), .int .i64 (k.lo : Int), .int .i64 (k.hi : Int), .string (S k.df), .bool k.no, .bool k.lg]
def keV (k : Ke) : Value := .agg (keC k).toArray
def keRowsC : Array Value := (keRows.flatMap keC).toArray
def rowOf (s : List UInt8) : Option Ke := keRows.find? (fun k => decide (k.nm = s))
theorem ke_take (k : Nat) (h : k < 18) : keRows.take k ++ [keAt k] = keRows.take (k + 1) := by
  rw [List.take_succ_eq_append_getElem (show k < keRows.length from h)]
  congr 2
  unfold keAt
  rw [List.getD_eq_getElem?_getD, List.getElem?_eq_getElem (show k < keRows.length from h)]
  rfl
theorem ke_take_len (k : Nat) (h : k ≤ 18) : (keRows.take k).length = k := by rw [List.length_take]; exact Nat.min_eq_left h
theorem rowOf_prefix {s : List UInt8} {q : List Ke} {k : Ke} (hp : q ++ [k] <+: keRows) (hq : ∀ k ∈ q, k.nm ≠ s) (hk : k.nm = s) : rowOf s = some k := by
  obtain ⟨r, hr⟩ := hp
  unfold rowOf
  rw [← hr, List.append_assoc, List.find?_append, List.find?_eq_none.2 (fun x hx => by simpa using hq x hx)]
  simp [hk]
theorem rowOf_none {s : List UInt8} (hq : ∀ k ∈ keRows, k.nm ≠ s) : rowOf s = none := by
  unfold rowOf
  exact List.find?_eq_none.2 (fun x hx => by simpa using hq x hx)
theorem rowOf_mem {s : List UInt8} {k : Ke} (h : rowOf s = some k) : k ∈ keRows ∧ k.nm = s := by
  unfold rowOf at h
  exact ⟨List.mem_of_find?_eq_some h, by simpa using List.find?_some h⟩
def keOk (k : Ke) : Bool := decide (k.lo ≤ k.hi ∧ k.hi ≤ 16777215 ∧ 1 ≤ k.kd ∧ k.kd ≤ 7 ∧ k.nm.length ≤ 63 ∧ k.df.length ≤ 63 ∧ k.nm ≠ [])
theorem ke_ok : ∀ k ∈ keRows, keOk k = true := by decide +kernel
theorem rowOf_ok {s : List UInt8} {k : Ke} (h : rowOf s = some k) : k.lo ≤ k.hi ∧ k.hi ≤ 16777215 ∧ 1 ≤ k.kd ∧ k.kd ≤ 7 ∧ k.nm.length ≤ 63 ∧ k.df.length ≤ 63 ∧ k.nm ≠ [] := by
  have := ke_ok k (rowOf_mem h).1
  unfold keOk at this
  exact of_decide_eq_true this
end Go.Proofs.YtmkebjdmkkjloaaGreatDoor
namespace Go.Proofs.YtmkebjdmkkjloaaGreatDoor
open Go.RowKit
structure Pr where
  k : List UInt8
  v : List UInt8
def greatB (c : UInt8) : Bool := decide (65 ≤ c.toNat ∧ c.toNat ≤ 90)
def mayB (c : UInt8) : Bool := greatB c || decide (97 ≤ c.toNat ∧ c.toNat ≤ 122) || decide (48 ≤ c.toNat ∧ c.toNat ≤ 57) || [46, 45, 43, 64, 95].contains c
def signB (c : UInt8) : Bool := decide (32 ≤ c.toNat ∧ c.toNat ≤ 126)
def isKey (s : List UInt8) : Bool := decide (1 ≤ s.length ∧ s.length ≤ 63) && greatB (s.getD 0 0) && s.all mayB
def isVal (s : List UInt8) : Bool := decide (s.length ≤ 255) && s.all signB
def wrongP (p : Pr) : Int := if isKey p.k = true then if isVal p.v = true then 0 else 3 else 5
theorem wrongP_ok {p : Pr} (h : wrongP p = 0) : isKey p.k = true ∧ isVal p.v = true := by
  unfold wrongP at h
  by_cases h1 : isKey p.k = true
  · rw [if_pos h1] at h
    by_cases h2 : isVal p.v = true
    · exact ⟨h1, h2⟩
    · rw [if_neg h2] at h; exact absurd h (by decide)
  · rw [if_neg h1] at h; exact absurd h (by decide)
def okPs (l : List Pr) : Prop := ∀ p ∈ l, wrongP p = 0
def prRightF : Nat → List Pr → Int × Int
  | _, [] => (0, -1)
  | i, p :: l => if wrongP p = 0 then prRightF (i + 1) l else (wrongP p, (i : Int))
theorem prRightF_cons (i : Nat) (p : Pr) (l : List Pr) : prRightF i (p :: l) = if wrongP p = 0 then prRightF (i + 1) l else (wrongP p, (i : Int)) := rfl
def prRight (l : List Pr) : Int × Int := if 60 < l.length then (4, -1) else prRightF 0 l
theorem prRightF_ok : ∀ (l : List Pr) (i : Nat), okPs l → prRightF i l = (0, -1)
  | [], _, _ => rfl
  | p :: l, i, h => by
    rw [prRightF_cons, if_pos (h p (List.mem_cons_self ..))]
    exact prRightF_ok l _ (fun q hq => h q (List.mem_cons_of_mem _ hq))
theorem prRightF_is : ∀ (l : List Pr) (i : Nat), (prRightF i l).1 = 0 → okPs l
  | [], _, _ => fun _ h => absurd h List.not_mem_nil
  | p :: l, i, h => by
    rw [prRightF_cons] at h
    by_cases h1 : wrongP p = 0
    · rw [if_pos h1] at h
      exact fun q hq => by
        rcases List.mem_cons.1 hq with rfl | hq
        · exact h1
        · exact prRightF_is l _ h q hq
    · rw [if_neg h1] at h; exact absurd h h1
theorem prRight_is {l : List Pr} (h : (prRight l).1 = 0) : okPs l ∧ l.length ≤ 60 ∧ prRight l = (0, -1) := by
  unfold prRight at h ⊢
  by_cases h1 : 60 < l.length
  · rw [if_pos h1] at h; exact absurd h (by decide)
  · rw [if_neg h1] at h ⊢
    have := prRightF_is l 0 h
    exact ⟨this, by omega, prRightF_ok l 0 this⟩
theorem prRight_ok {l : List Pr} (h : okPs l) (hl : l.length ≤ 60) : prRight l = (0, -1) := by
  unfold prRight
  rw [if_neg (by omega)]
  exact prRightF_ok l 0 h
def wrP (p : Pr) : List UInt8 := p.k ++ 61 :: (p.v ++ [0])
def prBytes (l : List Pr) : List UInt8 := l.flatMap wrP
theorem wrP_len (p : Pr) : (wrP p).length = p.k.length + p.v.length + 2 := by simp [wrP]; omega
theorem prBytes_nil : prBytes [] = [] := rfl
theorem prBytes_cons (p : Pr) (l : List Pr) : prBytes (p :: l) = wrP p ++ prBytes l := rfl
theorem prBytes_app (l m : List Pr) : prBytes (l ++ m) = prBytes l ++ prBytes m := by simp [prBytes]
theorem prBytes_one (p : Pr) : prBytes [p] = wrP p := by simp [prBytes]
def prPrint (l : List Pr) : List UInt8 × Int × Int := if (prRight l).1 = 0 then (prBytes l, 0, -1) else ([], prRight l)
def cut1 (c : UInt8) : List UInt8 → Option (List UInt8 × List UInt8)
  | [] => none
  | x :: l => if x = c then some ([], l) else match cut1 c l with
    | none => none
    | some (a, b) => some (x :: a, b)
theorem cut1_cons (c x : UInt8) (l : List UInt8) (h : x ≠ c) : cut1 c (x :: l) = match cut1 c l with
    | none => none
    | some (a, b) => some (x :: a, b) := by
  show (if x = c then _ else _) = _
  rw [if_neg h]
theorem cut1_none {c : UInt8} : ∀ {s : List UInt8}, cut1 c s = none → c ∉ s
  | [], _ => by simp
  | x :: l, h => by
    by_cases hx : x = c
    · subst hx
      unfold cut1 at h
      rw [if_pos rfl] at h; cases h
    · rw [cut1_cons c x l hx] at h
      cases e : cut1 c l with
      | none =>
        have := cut1_none e
        simp [this]
        exact fun h => hx h.symm
      | some q => rw [e] at h; cases h
theorem cut1_some {c : UInt8} : ∀ {s a b : List UInt8}, cut1 c s = some (a, b) → s = a ++ c :: b ∧ c ∉ a
  | [], _, _, h => by cases h
  | x :: l, a, b, h => by
    by_cases hx : x = c
    · subst hx
      unfold cut1 at h
      rw [if_pos rfl] at h
      cases h
      exact ⟨rfl, by simp⟩
    · rw [cut1_cons c x l hx] at h
      cases e : cut1 c l with
      | none => rw [e] at h; cases h
      | some q =>
        obtain ⟨a', b'⟩ := q
        rw [e] at h
        cases h
        obtain ⟨h1, h2⟩ := cut1_some e
        refine ⟨by rw [h1]; rfl, ?_⟩
        simp [h2]
        exact fun h => hx h.symm
theorem cut1_of {c : UInt8} : ∀ {a : List UInt8} (b : List UInt8), c ∉ a → cut1 c (a ++ c :: b) = some (a, b)
  | [], b, _ => by
    show (if c = c then _ else _) = _
    rw [if_pos rfl]
  | x :: a, b, h => by
    have hx : x ≠ c := fun e => h (by rw [e]; exact List.mem_cons_self ..)
    rw [List.cons_append, cut1_cons c x _ hx, cut1_of b (fun hc => h (List.mem_cons_of_mem _ hc))]
theorem cut1_not {c : UInt8} : ∀ {s : List UInt8}, c ∉ s → cut1 c s = none := by
  intro s h
  cases e : cut1 c s with
  | none => rfl
  | some q =>
    obtain ⟨a, b⟩ := q
    have := (cut1_some e).1
    rw [this] at h
    exact absurd (by simp) h
theorem index_one (c : UInt8) : ∀ (s : List UInt8), Lib.index s [c] = match cut1 c s with
    | none => -1
    | some (a, _) => (a.length : Int)
  | [] => rfl
  | x :: l => by
    have ih := index_one c l
    unfold Lib.index
    by_cases hx : x = c
    · subst hx
      have : cut1 x (x :: l) = some ([], l) := by unfold cut1; rw [if_pos rfl]
      rw [this]
      simp
    · rw [cut1_cons c x l hx]
      have hp : List.isPrefixOf [c] (x :: l) = false := by simp [List.isPrefixOf]; exact fun h => hx h.symm
      rw [hp, ih]
      cases e : cut1 c l with
      | none => simp
      | some q =>
        obtain ⟨a, b⟩ := q
        have h0 : ((a.length : Int) == -1) = false := by simp
        simp only [h0]
        simp
theorem cut_one (c : UInt8) (s : List UInt8) : Lib.cut s [c] = match cut1 c s with
    | none => (s, [], false)
    | some (a, b) => (a, b, true) := by
  unfold Lib.cut
  rw [index_one]
  cases e : cut1 c s with
  | none => simp
  | some q =>
    obtain ⟨a, b⟩ := q
    obtain ⟨h1, _⟩ := cut1_some e
    simp only
    rw [if_pos (by omega)]
    have : (a.length : Int).toNat = a.length := by omega
    rw [this, h1, List.take_left]
    have h2 : List.drop (a.length + [c].length) (a ++ c :: b) = b := by
      rw [List.drop_append]
      simp
    rw [h2]
def prFirst (s : List UInt8) : Int × Pr × List UInt8 := match cut1 0 s with
  | none => (7, ⟨[], []⟩, [])
  | some (t, r) => match cut1 61 t with
    | none => (3, ⟨[], []⟩, [])
    | some (k, v) => (0, ⟨k, v⟩, r)
theorem prFirst_end {s : List UInt8} (h : cut1 0 s = none) : prFirst s = (7, ⟨[], []⟩, []) := by unfold prFirst; rw [h]
theorem prFirst_form {s t r : List UInt8} (h : cut1 0 s = some (t, r)) (h2 : cut1 61 t = none) : prFirst s = (3, ⟨[], []⟩, []) := by unfold prFirst; rw [h]; simp only; rw [h2]
theorem prFirst_good {s t r k v : List UInt8} (h : cut1 0 s = some (t, r)) (h2 : cut1 61 t = some (k, v)) : prFirst s = (0, ⟨k, v⟩, r) := by unfold prFirst; rw [h]; simp only; rw [h2]
theorem prFirst_wr {s : List UInt8} (h : (prFirst s).1 = 0) : s = wrP (prFirst s).2.1 ++ (prFirst s).2.2 := by
  cases h1 : cut1 0 s with
  | none => rw [prFirst_end h1] at h; exact absurd h (by decide)
  | some q =>
    obtain ⟨t, r⟩ := q
    cases h2 : cut1 61 t with
    | none => rw [prFirst_form h1 h2] at h; exact absurd h (by decide)
    | some q =>
      obtain ⟨k, v⟩ := q
      rw [prFirst_good h1 h2]
      obtain ⟨e1, _⟩ := cut1_some h1
      obtain ⟨e2, _⟩ := cut1_some h2
      simp only [wrP]
      rw [e1, e2]
      simp
theorem mayB_not {c : UInt8} (h : mayB c = true) : c ≠ 0 ∧ c ≠ 61 := by
  refine ⟨fun e => ?_, fun e => ?_⟩ <;> (subst e; revert h; decide)
theorem signB_not {c : UInt8} (h : signB c = true) : c ≠ 0 := by
  intro e; subst e; revert h; decide
theorem isKey_not {s : List UInt8} (h : isKey s = true) : (0 : UInt8) ∉ s ∧ (61 : UInt8) ∉ s := by
  unfold isKey at h
  simp only [Bool.and_eq_true, List.all_eq_true] at h
  exact ⟨fun hc => (mayB_not (h.2 _ hc)).1 rfl, fun hc => (mayB_not (h.2 _ hc)).2 rfl⟩
theorem isVal_not {s : List UInt8} (h : isVal s = true) : (0 : UInt8) ∉ s := by
  unfold isVal at h
  simp only [Bool.and_eq_true, List.all_eq_true] at h
  exact fun hc => signB_not (h.2 _ hc) rfl
theorem prFirst_of (p : Pr) (t : List UInt8) (h : wrongP p = 0) : prFirst (wrP p ++ t) = (0, p, t) := by
  obtain ⟨k, v⟩ := p
  obtain ⟨h1, h2⟩ := wrongP_ok h
  simp only at h1 h2
  obtain ⟨k0, k1⟩ := isKey_not h1
  have v0 := isVal_not h2
  refine prFirst_good (t := k ++ 61 :: v) (r := t) ?_ (cut1_of v k1)
  have e : wrP ⟨k, v⟩ ++ t = (k ++ 61 :: v) ++ 0 :: t := by simp [wrP]
  rw [e]
  exact cut1_of t (by simp [k0, v0])
def prReadF : Nat → List UInt8 → List Pr → List Pr × Int × Int
  | 0, _, acc => (acc, 0, -1)
  | f + 1, s, acc => if s = [] then (acc, 0, -1) else
    if (prFirst s).1 ≠ 0 then ([], (prFirst s).1, (acc.length : Int)) else
    if acc.length = 60 then ([], 4, -1) else
    if wrongP (prFirst s).2.1 ≠ 0 then ([], wrongP (prFirst s).2.1, (acc.length : Int)) else
    prReadF f (prFirst s).2.2 (acc ++ [(prFirst s).2.1])
theorem prReadF_succ (f : Nat) (s : List UInt8) (acc : List Pr) : prReadF (f + 1) s acc = if s = [] then (acc, 0, -1) else
    if (prFirst s).1 ≠ 0 then ([], (prFirst s).1, (acc.length : Int)) else
    if acc.length = 60 then ([], 4, -1) else
    if wrongP (prFirst s).2.1 ≠ 0 then ([], wrongP (prFirst s).2.1, (acc.length : Int)) else
    prReadF f (prFirst s).2.2 (acc ++ [(prFirst s).2.1]) := rfl
theorem prReadF_nil (f : Nat) (acc : List Pr) : prReadF f [] acc = (acc, 0, -1) := by
  cases f with
  | zero => rfl
  | succ f => rw [prReadF_succ, if_pos rfl]
def prParse (s : List UInt8) : List Pr × Int × Int := prReadF s.length s []
theorem wrP_ne (p : Pr) (t : List UInt8) : wrP p ++ t ≠ [] := by simp [wrP]
theorem prReadF_app : ∀ (l : List Pr) (f : Nat) (t : List UInt8) (acc : List Pr), okPs l → acc.length + l.length ≤ 60 → (prBytes l).length + t.length ≤ f →
    ∃ f', t.length ≤ f' ∧ prReadF f (prBytes l ++ t) acc = prReadF f' t (acc ++ l)
  | [], f, t, acc, _, _, hf => ⟨f, by simpa [prBytes_nil] using hf, by simp [prBytes_nil]⟩
  | p :: l, f, t, acc, hk, hn, hf => by
    have hp := hk p (List.mem_cons_self ..)
    rw [prBytes_cons, List.length_append, wrP_len] at hf
    rw [List.length_cons] at hn
    obtain ⟨f1, rfl⟩ : ∃ f1, f = f1 + 1 := ⟨f - 1, by omega⟩
    obtain ⟨f', h1, h2⟩ := prReadF_app l f1 t (acc ++ [p]) (fun q hq => hk q (List.mem_cons_of_mem _ hq)) (by simp; omega) (by omega)
    refine ⟨f', h1, ?_⟩
    rw [prBytes_cons, List.append_assoc, prReadF_succ, if_neg (wrP_ne p _), prFirst_of p _ hp]
    simp only
    rw [if_neg (by simp), if_neg (by omega), if_neg (by simp [hp]), h2]
    simp
theorem parse_bytes {l : List Pr} (h : okPs l) (hl : l.length ≤ 60) : prParse (prBytes l) = (l, 0, -1) := by
  unfold prParse
  obtain ⟨f', _, e⟩ := prReadF_app l (prBytes l).length [] [] h (by simpa using hl) (by simp)
  rw [List.append_nil] at e
  rw [e, prReadF_nil]
  simp
theorem prReadF_is : ∀ (f : Nat) (s : List UInt8) (acc : List Pr), s.length ≤ f → acc.length ≤ 60 → (prReadF f s acc).2.1 = 0 →
    ∃ l, prReadF f s acc = (acc ++ l, 0, -1) ∧ s = prBytes l ∧ okPs l ∧ acc.length + l.length ≤ 60
  | 0, s, acc, hs, ha, _ => by
    obtain rfl : s = [] := List.eq_nil_of_length_eq_zero (by omega)
    exact ⟨[], by simp [prReadF], rfl, fun _ h => absurd h List.not_mem_nil, by simpa using ha⟩
  | f + 1, s, acc, hs, ha, h => by
    rw [prReadF_succ] at h ⊢
    by_cases h0 : s = []
    · subst h0
      rw [if_pos rfl]
      exact ⟨[], by simp, rfl, fun _ h => absurd h List.not_mem_nil, by simpa using ha⟩
    · rw [if_neg h0] at h ⊢
      by_cases h1 : (prFirst s).1 ≠ 0
      · rw [if_pos h1] at h; exact absurd h h1
      · rw [if_neg h1] at h ⊢
        have h1' : (prFirst s).1 = 0 := by simpa using h1
        by_cases h2 : acc.length = 60
        · rw [if_pos h2] at h; exact absurd h (by decide)
        · rw [if_neg h2] at h ⊢
          by_cases h3 : wrongP (prFirst s).2.1 ≠ 0
          · rw [if_pos h3] at h; exact absurd h h3
          · rw [if_neg h3] at h ⊢
            have h3' : wrongP (prFirst s).2.1 = 0 := by simpa using h3
            have hw := prFirst_wr h1'
            have hl := congrArg List.length hw
            rw [List.length_append, wrP_len] at hl
            obtain ⟨l, e1, e2, e3, e4⟩ := prReadF_is f (prFirst s).2.2 (acc ++ [(prFirst s).2.1]) (by omega) (by simp; omega) h
            refine ⟨(prFirst s).2.1 :: l, by rw [e1]; simp, ?_, ?_, by simp at e4 ⊢; omega⟩
            · rw [prBytes_cons, ← e2]; exact hw
            · intro q hq
              rcases List.mem_cons.1 hq with rfl | hq
              · exact h3'
              · exact e3 q hq
theorem parse_is {s : List UInt8} (h : (prParse s).2.1 = 0) : ∃ l, prParse s = (l, 0, -1) ∧ s = prBytes l ∧ okPs l ∧ l.length ≤ 60 := by
  obtain ⟨l, h1, h2, h3, h4⟩ := prReadF_is s.length s [] (Nat.le_refl _) (by simp) h
  exact ⟨l, by simpa [prParse] using h1, h2, h3, by simpa using h4⟩
def prFind (l : List Pr) (key : List UInt8) : Option (List UInt8) := match l with
  | [] => none
  | p :: l => if p.k = key then some p.v else prFind l key
theorem prFind_app (l : List Pr) (p : Pr) (key : List UInt8) : prFind (l ++ [p]) key = match prFind l key with
    | some v => some v
    | none => if p.k = key then some p.v else none := by
  induction l with
  | nil => rfl
  | cons q l ih =>
    rw [List.cons_append]
    unfold prFind
    by_cases h : q.k = key
    · rw [if_pos h, if_pos h]
    · rw [if_neg h, if_neg h]; exact ih
theorem prFind_some {key v : List UInt8} : ∀ {l : List Pr}, prFind l key = some v → ∃ j, ∃ h : j < l.length, l[j] = ⟨key, v⟩
  | [], h => by cases h
  | p :: l, h => by
    unfold prFind at h
    by_cases hk : p.k = key
    · rw [if_pos hk] at h
      cases h
      exact ⟨0, by simp, by cases p; simp at hk; simp [hk]⟩
    · rw [if_neg hk] at h
      obtain ⟨j, hj, e⟩ := prFind_some h
      exact ⟨j + 1, by simpa using hj, by simpa using e⟩
theorem prFind_none {key : List UInt8} : ∀ {l : List Pr}, prFind l key = none → ∀ p ∈ l, p.k ≠ key
  | [], _, p, hp => absurd hp List.not_mem_nil
  | q :: l, h, p, hp => by
    unfold prFind at h
    by_cases hk : q.k = key
    · rw [if_pos hk] at h; cases h
    · rw [if_neg hk] at h
      rcases List.mem_cons.1 hp with rfl | hp
      · exact hk
      · exact prFind_none h p hp
theorem isKey_head {s : List UInt8} (h : isKey s = true) : 0 < s.length ∧ s.length ≤ 63 ∧ greatB (s.getD 0 0) = true := by
  unfold isKey at h
  simp only [Bool.and_eq_true, decide_eq_true_eq] at h
  exact ⟨by omega, by omega, h.1.2⟩
theorem thick_okP {p : Pr} (h : wrongP p = 0) : p.k.length ≤ 63 ∧ p.v.length ≤ 255 := by
  obtain ⟨h1, h2⟩ := wrongP_ok h
  refine ⟨(isKey_head h1).2.1, ?_⟩
  unfold isVal at h2
  simp only [Bool.and_eq_true, decide_eq_true_eq] at h2
  exact h2.1
end Go.Proofs.YtmkebjdmkkjloaaGreatDoor
namespace Go.Proofs.YtmkebjdmkkjloaaGreatDoor
open Go.RowKit
def split1 (c : UInt8) : List UInt8 → List (List UInt8)
  | [] => [[]]
  | x :: l => if x = c then [] :: split1 c l else match split1 c l with
    | [] => [[x]]
    | a :: r => (x :: a) :: r
theorem split1_none {c : UInt8} : ∀ {s : List UInt8}, cut1 c s = none → split1 c s = [s]
  | [], _ => rfl
  | x :: l, h => by
    by_cases hx : x = c
    · subst hx
      unfold cut1 at h
      rw [if_pos rfl] at h; cases h
    · rw [cut1_cons c x l hx] at h
      cases e : cut1 c l with
      | none =>
        unfold split1
        rw [if_neg hx, split1_none e]
      | some q => rw [e] at h; cases h
theorem split1_some {c : UInt8} : ∀ {s a b : List UInt8}, cut1 c s = some (a, b) → split1 c s = a :: split1 c b
  | [], _, _, h => by cases h
  | x :: l, a, b, h => by
    by_cases hx : x = c
    · subst hx
      unfold cut1 at h
      rw [if_pos rfl] at h
      cases h
      show (if x = x then _ else _) = _
      rw [if_pos rfl]
    · rw [cut1_cons c x l hx] at h
      cases e : cut1 c l with
      | none => rw [e] at h; cases h
      | some q =>
        obtain ⟨a', b'⟩ := q
        rw [e] at h
        cases h
        show (if x = c then _ else _) = _
        rw [if_neg hx, split1_some e]
theorem split1_sum (c : UInt8) : ∀ (n : Nat) (s : List UInt8), s.length ≤ n → (∀ x ∈ split1 c s, x.length ≤ s.length) ∧ (split1 c s).length ≤ s.length + 1
  | n, s, hn => by
    cases h : cut1 c s with
    | none =>
      rw [split1_none h]
      refine ⟨fun x hx => ?_, by simp⟩
      rw [List.mem_singleton.1 hx]
      exact Nat.le_refl _
    | some q =>
      obtain ⟨a, b⟩ := q
      obtain ⟨h1, _⟩ := cut1_some h
      have hl := congrArg List.length h1
      simp at hl
      obtain ⟨n1, rfl⟩ : ∃ n1, n = n1 + 1 := ⟨n - 1, by omega⟩
      obtain ⟨i1, i2⟩ := split1_sum c n1 b (by omega)
      rw [split1_some h]
      refine ⟨fun x hx => ?_, by simp; omega⟩
      rcases List.mem_cons.1 hx with rfl | hx
      · omega
      · have := i1 x hx; omega
structure Ga where
  most : Nat
  came : List UInt8
def addG (G : Ga) (s : List UInt8) (more : Bool) : (List Pr × Int × Int) × Ga :=
  if G.most < G.came.length + s.length then (([], 12, -1), ⟨G.most, []⟩) else
  if more = true then (([], 0, -1), ⟨G.most, G.came ++ s⟩) else (prParse (G.came ++ s), ⟨G.most, []⟩)
theorem addG_full {G : Ga} {s : List UInt8} (more : Bool) (h : G.most < G.came.length + s.length) : addG G s more = (([], 12, -1), ⟨G.most, []⟩) := by unfold addG; rw [if_pos h]
theorem addG_more {G : Ga} {s : List UInt8} (h : G.came.length + s.length ≤ G.most) : addG G s true = (([], 0, -1), ⟨G.most, G.came ++ s⟩) := by unfold addG; rw [if_neg (by omega), if_pos rfl]
theorem addG_end {G : Ga} {s : List UInt8} (h : G.came.length + s.length ≤ G.most) : addG G s false = (prParse (G.came ++ s), ⟨G.most, []⟩) := by unfold addG; rw [if_neg (by omega)]; rfl
theorem addG_fits (G : Ga) (s : List UInt8) (more : Bool) (_ : G.came.length ≤ G.most) : (addG G s more).2.came.length ≤ (addG G s more).2.most ∧ (addG G s more).2.most = G.most := by
  by_cases h1 : G.most < G.came.length + s.length
  · rw [addG_full more h1]; simp
  · cases more with
    | true => rw [addG_more (by omega)]; simp; omega
    | false => rw [addG_end (by omega)]; simp
end Go.Proofs.YtmkebjdmkkjloaaGreatDoor
