/- KeysNumbers: a number tells the same in ten or sixteen. -/
import Derived.Test.YtbllnelnajfjgaaGreatDoorKeyed
import Derived.Test.YtbllnelnajfjgaaGreatDoorPick
import Derived.Test.YtbllnelnajfjgaaGreatDoorNumberT
import Derived.Test.YtbllnelnajfjgaaGreatDoorShUp
namespace Go.Proofs.YtbllnelnajfjgaaGreatDoor
open Go.RowKit
set_option linter.unusedVariables false
theorem pick_bigw (a : Int) (n : Nat) (hn : 0 < n) (h : n ≤ 4611686018427387904) : wrap64 ((IntKind.u64.wrap a).tmod (n : Int)) = ((pickI a n : Nat) : Int) := by
  have h0 : 0 ≤ a % 2 ^ 64 := Int.emod_nonneg _ (by decide)
  have e : (IntKind.u64.wrap a).tmod (n : Int) = ((pickI a n : Nat) : Int) := by
    rw [u64_wrap, Int.tmod_eq_emod_of_nonneg h0]
    unfold pickI
    generalize a % 2 ^ 64 = m at h0
    obtain ⟨k, rfl⟩ := Int.eq_ofNat_of_zero_le h0
    rw [Int.toNat_natCast, Int.natCast_emod]
  have hlt := pickI_lt a n hn
  rw [e]
  exact IntWalk.wrap64_in _ ⟨by omega, by omega⟩
theorem pick40 (a : Int) (w : World) : Calls Tryz.prog 18 #[.int .i64 a, .int .i64 1099511627776] w fun e w' => e = .returned (.int .i64 (pickI a 1099511627776 : Nat)) ∧ w = w' := by
  have hp := pick_bigw a 1099511627776 (by decide) (by decide)
  have hp' : wrap64 ((IntKind.u64.wrap a).tmod 1099511627776) = ((pickI a 1099511627776 : Nat) : Int) := hp
  clear hp
  have hw1 : IntKind.u64.wrap 1099511627776 = 1099511627776 := by decide +kernel
  go_enter Tryz.func18, Tryz.ntmps18
  go_wp2_with fail
  go_ret
  exact ⟨ret_int hp', rfl⟩
def hexT : List UInt8 := [48, 49, 50, 51, 52, 53, 54, 55, 56, 57, 97, 98, 99, 100, 101, 102]
def hd (i : Nat) : UInt8 := hexT.getD i 0
/-- digits by sixteen -/
def hexN (f : Nat → UInt8) : Nat → Nat → List UInt8
  | 0, n => [f (n % 16)]
  | k + 1, n => if n < 16 then [f n] else hexN f k (n / 16) ++ [f (n % 16)]
def hexD (f : Nat → UInt8) (n : Nat) : List UInt8 := hexN f n n
theorem hexN_fuel (f : Nat → UInt8) : ∀ (k l n : Nat), n ≤ k → n ≤ l → hexN f k n = hexN f l n := by
  intro k
  induction k with
  | zero =>
    intro l n h1 h2
    obtain rfl : n = 0 := by omega
    cases l <;> rfl
  | succ k ih =>
    intro l n h1 h2
    by_cases h : n < 16
    · cases l with
      | zero => obtain rfl : n = 0 := by omega
                rfl
      | succ l => unfold hexN; rw [if_pos h, if_pos h]
    · cases l with
      | zero => omega
      | succ l => unfold hexN; rw [if_neg h, if_neg h, ih l (n / 16) (by omega) (by omega)]
theorem hexD_one (f : Nat → UInt8) {n : Nat} (h : n < 16) : hexD f n = [f n] := by
  unfold hexD
  cases n with
  | zero => rfl
  | succ n => unfold hexN; rw [if_pos h]
theorem hexD_step (f : Nat → UInt8) {n : Nat} (h : ¬ n < 16) : hexD f n = hexD f (n / 16) ++ [f (n % 16)] := by
  unfold hexD
  obtain ⟨k, rfl⟩ : ∃ k, n = k + 1 := ⟨n - 1, by omega⟩
  rw [hexN, if_neg h, hexN_fuel f k ((k + 1) / 16) _ (by omega) (Nat.le_refl _)]
theorem hexD_ne (f : Nat → UInt8) (n : Nat) : hexD f n ≠ [] := by
  by_cases h : n < 16
  · rw [hexD_one f h]; simp
  · rw [hexD_step f h]; simp
theorem hexD_num (f : Nat → UInt8) (hf : ∀ i, i < 16 → isDig 16 (f i) = true ∧ digV (f i) = i) : ∀ (k n : Nat), n ≤ k → n < 1099511627776 → numF 16 0 (hexD f n) = some n := by
  intro k
  induction k with
  | zero =>
    intro n h1 h2
    obtain rfl : n = 0 := by omega
    rw [hexD_one f (by decide)]
    obtain ⟨g1, g2⟩ := hf 0 (by decide)
    rw [numF_go g1 (by rw [g2]; decide), g2]
    rfl
  | succ k ih =>
    intro n h1 h2
    by_cases h : n < 16
    · rw [hexD_one f h]
      obtain ⟨g1, g2⟩ := hf n h
      rw [numF_go g1 (by rw [g2]; omega), g2, numF_nil]
      simp
    · rw [hexD_step f h, numF_app, ih (n / 16) (by omega) (by omega)]
      obtain ⟨g1, g2⟩ := hf (n % 16) (by omega)
      show numF 16 (n / 16) [f (n % 16)] = some n
      rw [numF_go g1 (by rw [g2]; omega), g2, numF_nil]
      congr 1
      omega
theorem hexD_len (f : Nat → UInt8) : ∀ (k n : Nat), n < 16 ^ (k + 1) → (hexD f n).length ≤ k + 1 := by
  intro k
  induction k with
  | zero => intro n hn; rw [hexD_one f (by simpa using hn)]; simp
  | succ k ih =>
    intro n hn
    by_cases h : n < 16
    · rw [hexD_one f h]; simp
    · rw [hexD_step f h, List.length_append, List.length_singleton]
      have := ih (n / 16) (by
        rw [Nat.pow_succ] at hn
        omega)
      omega
theorem hd_dig : ∀ i : Fin 16, isDig 16 (hd i.1) = true ∧ digV (hd i.1) = i.1 ∧ (hd i.1).toNat < 128 := by decide +kernel
def up (i : Nat) : UInt8 := Lib.upperB (hd i)
theorem up_dig : ∀ i : Fin 16, isDig 16 (up i.1) = true ∧ digV (up i.1) = i.1 := by decide +kernel
theorem hexD_map (g : UInt8 → UInt8) (f : Nat → UInt8) : ∀ (k n : Nat), n ≤ k → (hexD f n).map g = hexD (fun i => g (f i)) n := by
  intro k
  induction k with
  | zero =>
    intro n h
    obtain rfl : n = 0 := by omega
    rw [hexD_one _ (by decide), hexD_one _ (by decide)]; rfl
  | succ k ih =>
    intro n hn
    by_cases h : n < 16
    · rw [hexD_one _ h, hexD_one _ h]; rfl
    · rw [hexD_step _ h, hexD_step _ h, List.map_append, ih (n / 16) (by omega)]; rfl
theorem hexD_ascii : ∀ (k n : Nat), n ≤ k → ∀ c ∈ hexD hd n, c.toNat < 128 := by
  intro k
  induction k with
  | zero =>
    intro n h c hc
    obtain rfl : n = 0 := by omega
    rw [hexD_one _ (by decide)] at hc
    rw [List.mem_singleton.1 hc]; exact (hd_dig ⟨0, by decide⟩).2.2
  | succ k ih =>
    intro n hn c hc
    by_cases h : n < 16
    · rw [hexD_one _ h] at hc
      rw [List.mem_singleton.1 hc]; exact (hd_dig ⟨n, h⟩).2.2
    · rw [hexD_step _ h] at hc
      rcases List.mem_append.1 hc with hc | hc
      · exact ih (n / 16) (by omega) c hc
      · rw [List.mem_singleton.1 hc]; exact (hd_dig ⟨n % 16, by omega⟩).2.2
theorem numR_hex {n : Nat} {l : List UInt8} (h : numF 16 0 l = some n) (hne : l ≠ []) : numR (48 :: 120 :: l) = some n := by
  unfold numR
  rw [if_pos (show List.take 2 (48 :: 120 :: l) = [48, 120] from rfl)]
  unfold numU
  rw [show List.drop 2 (48 :: 120 :: l) = l from rfl, if_neg hne]
  exact h
theorem hexT_at (i : Nat) (h : i < 16) : List.take 1 (List.drop i [48, 49, 50, 51, 52, 53, 54, 55, 56, 57, 97, 98, 99, 100, 101, 102]) = [hd i] := by
  have : ∀ i : Fin 16, List.take 1 (List.drop i.1 [48, 49, 50, 51, 52, 53, 54, 55, 56, 57, 97, 98, 99, 100, 101, 102]) = [hd i.1] := by decide +kernel
  exact this ⟨i, h⟩
theorem hex_next (x k : Nat) (hx : List UInt8) (h : (hx = [] ∧ k = x) ∨ (hx ≠ [] ∧ hexD hd x = (if k = 0 then [] else hexD hd k) ++ hx)) (hk : 0 < k ∨ hx = []) : hexD hd x = (if k / 16 = 0 then [] else hexD hd (k / 16)) ++ (hd (k % 16) :: hx) := by
  have step : hexD hd k = (if k / 16 = 0 then [] else hexD hd (k / 16)) ++ [hd (k % 16)] := by
    by_cases h16 : k < 16
    · rw [hexD_one _ h16, if_pos (by omega), Nat.mod_eq_of_lt h16]; rfl
    · rw [hexD_step _ h16, if_neg (by omega)]
  rcases h with ⟨rfl, rfl⟩ | ⟨h1, h2⟩
  · exact step
  · have hk0 : ¬ k = 0 := by rcases hk with h | h; omega; exact absurd h h1
    rw [h2, if_neg hk0, step, List.append_assoc]
    rfl
theorem tmod16 (k : Nat) : (k : Int).tmod 16 = ((k % 16 : Nat) : Int) := by rw [Int.tmod_eq_emod_of_nonneg (by omega)]; omega
theorem tdiv16 (k : Nat) : (k : Int).tdiv 16 = ((k / 16 : Nat) : Int) := by rw [Int.tdiv_eq_ediv_of_nonneg (by omega)]; omega
theorem w64 (k : Nat) (h : k < 1099511627776) : wrap64 (k : Int) = (k : Int) := IntWalk.wrap64_in _ ⟨by omega, by omega⟩
theorem hex_round {x k gk : Nat} {hx HH : List UInt8} (hx40 : x < 1099511627776) (hkx : k ≤ x) (hH : HH.length ≤ 10) (hnx : HH = (if k / 16 = 0 then [] else hexD hd (k / 16)) ++ (hd (k % 16) :: hx))
    (hgk : k + (if hx = [] then 1 else 0) < gk) (hgo : 0 < k ∨ hx = []) (hxl : hx.length ≤ 10) :
    ∃ i q : Nat, i < 16 ∧ (k : Int).tmod 16 = (i : Int) ∧ (k : Int).tdiv 16 = (q : Int) ∧ (k : Int) % 16 = (i : Int) ∧ (k : Int) / 16 = (q : Int) ∧ wrap64 (q : Int) = (q : Int) ∧ wrap64 (i : Int) = (i : Int) ∧
      (((hd i :: hx) = [] ∧ q = x) ∨ ((hd i :: hx) ≠ [] ∧ HH = (if q = 0 then [] else hexD hd q) ++ (hd i :: hx))) ∧ (hd i :: hx).length ≤ 10 ∧ (q ≤ x ∧ q + 0 < gk - 1) ∧ (0 : Int) ≤ (i : Int) ∧ (i : Int) + 1 ≤ 16 ∧ (¬ 9223372036854775807 < 1 + hx.length) ∧ ((0 : Int) < (k : Int) ∨ ((k : Int) ≤ 0 ∧ hx = [])) := by
  refine ⟨k % 16, k / 16, by omega, tmod16 k, tdiv16 k, by omega, by omega, w64 _ (by omega), w64 _ (by omega), .inr ⟨by simp, hnx⟩, ?_, ⟨by omega, ?_⟩, by omega, by omega, by omega, ?_⟩
  · have := congrArg List.length hnx
    rw [List.length_append] at this
    simp only [List.length_cons] at this ⊢
    omega
  · by_cases h0 : hx = []
    · rw [if_pos h0] at hgk; omega
    · rw [if_neg h0] at hgk
      have : 0 < k := hgo.resolve_right h0
      omega
  · by_cases h0 : 0 < k
    · exact .inl (by omega)
    · exact .inr ⟨by omega, hgo.resolve_left h0⟩
set_option maxRecDepth 100000 in
set_option maxHeartbeats 4000000 in
theorem keysNumbers_any (n lo hi : Int) (w : World) (hn : (Lit.int .i64 n).wf = true) (hlo : (Lit.int .i64 lo).wf = true) (hhi : (Lit.int .i64 hi).wf = true) (hE : Env w) (hg : ErrCell w) :
    Calls Tryz.prog 5 #[.int .i64 n, .int .i64 lo, .int .i64 hi] w fun e w' => e = .returned (.bool true) ∧ Below w.heap.size w w' := by
  have Fk := Lib.hid (keyed_any w hE hg)
  have PK := Lib.hid (fun W => pick40 n W)
  have hx40 := pickI_lt n 1099511627776 (by decide)
  obtain ⟨x, hx⟩ : ∃ x, pickI n 1099511627776 = x := ⟨_, rfl⟩
  rw [hx] at PK hx40
  have n1 : numR (Lib.decDigits x) = some x := numR_dec hx40
  have n2 : numR (48 :: 120 :: hexD hd x) = some x := numR_hex (hexD_num hd (fun i h => ⟨(hd_dig ⟨i, h⟩).1, (hd_dig ⟨i, h⟩).2.1⟩) x x (Nat.le_refl _) hx40) (hexD_ne _ _)
  have n3 : numR (48 :: 120 :: hexD up x) = some x := numR_hex (hexD_num up (fun i h => up_dig ⟨i, h⟩) x x (Nat.le_refl _) hx40) (hexD_ne _ _)
  have lh := hexD_len hd 9 x (Nat.lt_of_lt_of_le hx40 (by decide))
  have lu := hexD_len up 9 x (Nat.lt_of_lt_of_le hx40 (by decide))
  have ld := dec_lenT 12 x (Nat.lt_of_lt_of_le hx40 (by decide))
  have UPc := Lib.hid (fun W => show Calls Tryz.prog 20 #[.string (S (hexD hd x))] W (fun e w' => e = .returned (.string (S (hexD up x))) ∧ Below W.heap.size W w') from by
    have C := Tryz.strings_ToUpper_ascii (S (hexD hd x)) W (by rw [S_size]; omega) (fun j b hb => by
      have e1 : (S (hexD hd x)).data.toList = hexD hd x := by simp [S]
      rw [e1] at hb
      exact hexD_ascii x x (Nat.le_refl _) b (List.mem_of_getElem? hb))
    have e1 : (S (hexD hd x)).data.toList = hexD hd x := by simp [S]
    rw [e1] at C
    unfold Lib.toUpperA at C
    rw [hexD_map Lib.upperB hd x x (Nat.le_refl _)] at C
    exact C)
  have HNX := Lib.hid (hex_next x)
  have hne := Lib.hid (hexD_ne hd x)
  obtain ⟨D, hD⟩ : ∃ D, Lib.decDigits x = D := ⟨_, rfl⟩
  obtain ⟨HH, hH⟩ : ∃ D, hexD hd x = D := ⟨_, rfl⟩
  obtain ⟨UU, hU⟩ : ∃ D, hexD up x = D := ⟨_, rfl⟩
  have NT := Lib.hid (fun W => numberT_any x x (Nat.le_refl _) hx40 W)
  rw [hD] at NT n1 ld
  rw [hH] at n2 lh UPc hne
  rw [hU] at n3 lu UPc
  simp only [hH] at HNX
  obtain ⟨v, en, hv⟩ : ∃ (v : Int) (en : Nat), (en = 2 ∧ v = 0 ∧ ((x : Int) < lo ∨ hi < (x : Int))) ∨ (en = 0 ∧ v = x ∧ lo ≤ (x : Int) ∧ (x : Int) ≤ hi) := by
    by_cases h : (x : Int) < lo ∨ hi < (x : Int)
    · exact ⟨0, 2, .inl ⟨rfl, rfl, h⟩⟩
    · exact ⟨x, 0, .inr ⟨rfl, rfl, by omega, by omega⟩⟩
  have hall : ∀ s, numR s = some x → numE s lo hi = (v, (en : Int)) := fun s hs => by
    rcases hv with ⟨rfl, rfl, h⟩ | ⟨rfl, rfl, h, h'⟩
    · exact numE_off hs h
    · exact numE_in hs h h'
  have NU := Lib.hid (fun (s : List UInt8) (hs : numR s = some x) (hl : s.length ≤ 1000000) W (h : Below w.heap.size w W) => show Calls Tryz.prog 8 #[.string (S s), .int .i64 lo, .int .i64 hi] W (RetNI W (v, (en : Int))) from by
    have := numeral_any s lo hi W hl (hE.later h)
    rwa [hall s hs] at this)
  have ND := Lib.hid (fun W h => NU.out D n1 (by omega) W h)
  have NH := Lib.hid (fun W h => NU.out (48 :: 120 :: HH) n2 (by simp; omega) W h)
  have NN := Lib.hid (fun W h => NU.out (48 :: 120 :: UU) n3 (by simp; omega) W h)
  have T := Lib.hid (fun W (h : Below w.heap.size w W) => tell_err 2 W (hg.later h))
  have Hv := Lib.hid hv
  obtain ⟨ev, hev⟩ : ∃ ev, errV (en : Int) = ev := ⟨_, rfl⟩
  have Hev := Lib.hid hev
  unfold RetNI at ND NH NN
  simp only [hev] at ND NH NN
  clear hE hg hv hall NU n1 n2 n3 hD hH hU hev hx
  go_enter Tryz.func5, Tryz.ntmps5
  go_wp2_with fail
  refine Fk.out.mono ?_
  rintro e w1 ⟨rfl, hb1⟩
  have Hb1 := Lib.hid hb1
  clear hb1
  go_wp2_with fail
  refine (PK.out _).mono ?_
  rintro e w' ⟨rfl, rfl⟩
  go_wp2_with fail
  go_loopg [7, 8] (x + 2) (fun g h m wr => ∃ (hx : List UInt8) (k : Nat), h = .string (S hx) ∧ m = .int .i64 (k : Int) ∧ Hid ((hx = [] ∧ k = x) ∨ (hx ≠ [] ∧ HH = (if k = 0 then [] else hexD hd k) ++ hx)) ∧ k ≤ x ∧ Hid (k + (if hx = [] then 1 else 0) < g) ∧ hx.length ≤ 10 ∧ wr = w1)
  case atStart => exact ⟨[], x, rfl, rfl, Lib.hid (.inl ⟨rfl, rfl⟩), Nat.le_refl _, Lib.hid (by simp), by simp, rfl⟩
  case round =>
    obtain ⟨hx, k, rfl, rfl, hinv, hkx, hgk, hxl, rfl⟩ := hrel
    by_cases hgo : 0 < k ∨ hx = []
    · obtain ⟨i, q, hi16, t1, t2, t3, t4, t5, t6, hh2, hl2, hq, j0, j1, hsum, hcond⟩ := hex_round hx40 hkx lh (HNX.out k hx hinv.out hgo) hgk.out hgo hxl
      have HH2 := Lib.hid hh2
      have Hq := Lib.hid hq
      have e1 := hexT_at i hi16
      have t7 : ∀ [Inhabited Nat], wrap64 (q : Int) = (q : Int) := t5
      have t8 : ∀ [Inhabited Nat], wrap64 (i : Int) = (i : Int) := t6
      clear hgo hinv hgk hkx hh2 hq t1 t2 t5 t6
      rcases hcond with hc | ⟨hc, rfl⟩
      · go_wp2_with fail
        go_roundg (gk - 1)
        case measure => have := Hq.out.2; omega
        case rel => exact ⟨hd i :: _, q, rfl, by rw [t7], HH2, Hq.out.1, Lib.hid (by rw [if_neg (List.cons_ne_nil _ _)]; exact Hq.out.2), hl2, rfl⟩
      · obtain rfl : k = 0 := by omega
        obtain rfl : i = 0 := by omega
        obtain rfl : q = 0 := by omega
        clear t7 t8 t3 t4 e1
        go_wp2_with fail
        go_roundg (gk - 1)
        case measure => have := Hq.out.2; omega
        case rel => exact ⟨[hd 0], 0, rfl, rfl, HH2, Hq.out.1, Lib.hid (by rw [if_neg (List.cons_ne_nil _ _)]; exact Hq.out.2), hl2, rfl⟩
    · have hk0 : k = 0 := Nat.eq_zero_of_not_pos (fun h => hgo (.inl h))
      have hne' : hx ≠ [] := fun h => hgo (.inr h)
      have hHx : HH = hx := by
        rcases hinv.out with ⟨h, _⟩ | ⟨_, h⟩
        · exact absurd h hne'
        · rw [h, if_pos hk0]; rfl
      subst hk0
      subst hHx
      have hxe : HH.isEmpty = false := by cases HH with | nil => exact absurd rfl hne' | cons _ _ => rfl
      have s1 : ¬ 9223372036854775807 < 2 + HH.length := by omega
      have s2 : ¬ 9223372036854775807 < 2 + UU.length := by omega
      clear hgo hinv hgk hkx HNX
      go_wp2_with fail
      refine (NT.out _).mono ?_
      rintro e w2 ⟨rfl, hb2⟩
      have Hb2 := Lib.hid (below_then Hb1.out hb2)
      clear hb2
      go_wp2_with fail
      refine (ND.out _ Hb2.out).mono ?_
      rintro e w3 ⟨rfl, hb3⟩
      have Hb3 := Lib.hid (below_then Hb2.out hb3)
      clear hb3
      go_wp2_with fail
      refine (NH.out _ Hb3.out).mono ?_
      rintro e w4 ⟨rfl, hb4⟩
      have Hb4 := Lib.hid (below_then Hb3.out hb4)
      clear hb4
      go_wp2_with fail
      refine (UPc.out _).mono ?_
      rintro e w5 ⟨rfl, hb5⟩
      have Hb5 := Lib.hid (below_then Hb4.out hb5)
      clear hb5
      go_wp2_with fail
      refine (NN.out _ Hb5.out).mono ?_
      rintro e w6 ⟨rfl, hb6⟩
      have Hb6 := Lib.hid (below_then Hb5.out hb6)
      clear hb6
      have hev := Hev.out
      rcases Hv.out with ⟨rfl, rfl, hor⟩ | ⟨rfl, rfl, h1, h2⟩
      · rw [show errV ((2 : Nat) : Int) = .iface 22 (.int .i64 2) from rfl] at hev
        subst hev
        have hor2 : (x : Int) < lo ∨ (lo ≤ (x : Int) ∧ hi < (x : Int)) := by
          rcases hor with h | h
          · exact .inl h
          · rcases Int.lt_or_le (x : Int) lo with h' | h'
            · exact .inl h'
            · exact .inr ⟨h', h⟩
        clear hor
        rcases hor2 with h1 | ⟨h1, h2⟩
        all_goals
          go_wp2_with fail
          refine (T.out _ Hb6.out).mono ?_
          rintro e w7 ⟨rfl, hb7⟩
          have Hb7 := Lib.hid (below_then Hb6.out hb7)
          clear hb7
          go_wp2_with fail
          refine (T.out _ Hb7.out).mono ?_
          rintro e w8 ⟨rfl, hb8⟩
          have Hb8 := Lib.hid (below_then Hb7.out hb8)
          clear hb8
          go_wp2_with fail
          refine (T.out _ Hb8.out).mono ?_
          rintro e w9 ⟨rfl, hb9⟩
          have Hb9 := Lib.hid (below_then Hb8.out hb9)
          clear hb9
          go_wp2_with fail
          go_ret
          exact ⟨rfl, Hb9.out⟩
      · rw [show errV ((0 : Nat) : Int) = .nilIface from rfl] at hev
        subst hev
        go_wp2_with fail
        go_ret
        exact ⟨rfl, Hb6.out⟩
end Go.Proofs.YtbllnelnajfjgaaGreatDoor
