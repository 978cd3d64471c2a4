/- Additional headers as bytes: how they are written, what is wrong with them, what bytes are. No program stands in it. -/
import Derived.Test.YtceinedicbdngaaDoorFld
namespace Go.Proofs.YtceinedicbdngaaDoor
open Go.RowKit
/-- a header: its kind, its data -/
structure Ah where
  k : Int
  d : List UInt8
def sizeA (a : Ah) : Nat := 3 + a.d.length + pad (3 + a.d.length)
def wrA (a : Ah) : List UInt8 := padded (be a.d.length 2 ++ be a.k.toNat 1 ++ a.d)
theorem wrA_len (a : Ah) : (wrA a).length = sizeA a := by
  have e : (be a.d.length 2 ++ be a.k.toNat 1 ++ a.d).length = 3 + a.d.length := by
    simp only [List.length_append, be_len]
  unfold wrA padded sizeA
  rw [List.length_append, zs_len, e]
theorem sizeA_pos (a : Ah) : 3 ≤ sizeA a := by unfold sizeA; omega
theorem sizeA_4 (a : Ah) : sizeA a % 4 = 0 := by unfold sizeA pad; omega
def wrL (l : List Ah) : List UInt8 := l.flatMap wrA
theorem wrL_nil : wrL [] = [] := rfl
theorem wrL_cons (a : Ah) (l : List Ah) : wrL (a :: l) = wrA a ++ wrL l := rfl
theorem wrL_app (l m : List Ah) : wrL (l ++ m) = wrL l ++ wrL m := by simp [wrL]
theorem wrL_one (a : Ah) : wrL [a] = wrA a := by simp [wrL]
theorem wrL_4 : ∀ l : List Ah, (wrL l).length % 4 = 0
  | [] => rfl
  | a :: l => by
    have := wrL_4 l
    have := sizeA_4 a
    rw [wrL_cons, List.length_append, wrA_len]; omega
/-- what is wrong: the error's number, its place -/
def rightF : Nat → Nat → List Ah → Int × Int
  | _, _, [] => (0, -1)
  | all, i, a :: l => if a.k < 0 ∨ 255 < a.k then (2, (i : Int)) else if 1020 < all + sizeA a then (4, (i : Int)) else rightF (all + sizeA a) (i + 1) l
theorem rightF_cons (all i : Nat) (a : Ah) (l : List Ah) : rightF all i (a :: l) = if a.k < 0 ∨ 255 < a.k then (2, (i : Int)) else if 1020 < all + sizeA a then (4, (i : Int)) else rightF (all + sizeA a) (i + 1) l := rfl
def rightA (l : List Ah) : Int × Int := rightF 0 0 l
def writeA (l : List Ah) : List UInt8 × Int × Int := if (rightA l).1 = 0 then (wrL l, 0, -1) else ([], rightA l)
/-- the kinds are what they may be -/
def okK (l : List Ah) : Prop := ∀ a ∈ l, 0 ≤ a.k ∧ a.k ≤ 255
theorem rightF_ok : ∀ (l : List Ah) (all i : Nat), okK l → all + (wrL l).length ≤ 1020 → rightF all i l = (0, -1)
  | [], _, _, _, _ => rfl
  | a :: l, all, i, hk, hs => by
    have ha := hk a (List.mem_cons_self ..)
    rw [wrL_cons, List.length_append, wrA_len] at hs
    unfold rightF
    rw [if_neg (by omega), if_neg (by omega)]
    exact rightF_ok l _ _ (fun b hb => hk b (List.mem_cons_of_mem _ hb)) (by omega)
theorem rightF_is : ∀ (l : List Ah) (all i : Nat), (rightF all i l).1 = 0 → okK l ∧ (l ≠ [] → all + (wrL l).length ≤ 1020) ∧ rightF all i l = (0, -1)
  | [], _, _, _ => ⟨fun _ h => absurd h List.not_mem_nil, fun h => absurd rfl h, rfl⟩
  | a :: l, all, i, h => by
    unfold rightF at h ⊢
    by_cases h1 : a.k < 0 ∨ 255 < a.k
    · rw [if_pos h1] at h; exact absurd h (by simp)
    · rw [if_neg h1] at h ⊢
      by_cases h2 : 1020 < all + sizeA a
      · rw [if_pos h2] at h; exact absurd h (by simp)
      · rw [if_neg h2] at h ⊢
        obtain ⟨k1, k2, k3⟩ := rightF_is l _ _ h
        refine ⟨fun b hb => ?_, fun _ => ?_, k3⟩
        · rcases List.mem_cons.1 hb with rfl | hb
          · omega
          · exact k1 b hb
        · rw [wrL_cons, List.length_append, wrA_len]
          by_cases hl : l = []
          · subst hl; simp [wrL_nil]; omega
          · have := k2 hl; omega
theorem rightA_is (l : List Ah) (h : (rightA l).1 = 0) : okK l ∧ (wrL l).length ≤ 1020 ∧ rightA l = (0, -1) := by
  obtain ⟨k1, k2, k3⟩ := rightF_is l 0 0 h
  refine ⟨k1, ?_, k3⟩
  by_cases hl : l = []
  · subst hl; simp [wrL_nil]
  · have := k2 hl; omega
theorem rightA_ok {l : List Ah} (hk : okK l) (hs : (wrL l).length ≤ 1020) : rightA l = (0, -1) := rightF_ok l 0 0 hk (by omega)
theorem writeA_ok {l : List Ah} (hk : okK l) (hs : (wrL l).length ≤ 1020) : writeA l = (wrL l, 0, -1) := by
  unfold writeA
  rw [rightA_ok hk hs, if_pos rfl]
theorem rightF_n : ∀ (l : List Ah) (all i : Nat), (rightF all i l).1 = 0 ∨ (rightF all i l).1 = 2 ∨ (rightF all i l).1 = 4
  | [], _, _ => .inl rfl
  | a :: l, all, i => by
    unfold rightF
    split
    · exact .inr (.inl rfl)
    · split
      · exact .inr (.inr rfl)
      · exact rightF_n l _ _
theorem rightF_app : ∀ (l m : List Ah) (all i : Nat), okK l → all + (wrL l).length ≤ 1020 → rightF all i (l ++ m) = rightF (all + (wrL l).length) (i + l.length) m
  | [], m, all, i, _, _ => by simp [wrL_nil]
  | a :: l, m, all, i, hk, hs => by
    have ha := hk a (List.mem_cons_self ..)
    rw [wrL_cons, List.length_append, wrA_len] at hs ⊢
    rw [List.cons_append, rightF_cons]
    rw [if_neg (by omega), if_neg (by omega)]
    rw [rightF_app l m _ _ (fun b hb => hk b (List.mem_cons_of_mem _ hb)) (by omega)]
    rw [List.length_cons, show all + sizeA a + (wrL l).length = all + (sizeA a + (wrL l).length) by omega, show i + 1 + l.length = i + (l.length + 1) by omega]
theorem rightF_much : ∀ (l : List Ah) (all i : Nat), okK l → l ≠ [] → 1020 < all + (wrL l).length → (rightF all i l).1 = 4
  | [], _, _, _, h, _ => absurd rfl h
  | a :: l, all, i, hk, _, hs => by
    have ha := hk a (List.mem_cons_self ..)
    rw [wrL_cons, List.length_append, wrA_len] at hs
    unfold rightF
    rw [if_neg (by omega)]
    by_cases h2 : 1020 < all + sizeA a
    · rw [if_pos h2]
    · rw [if_neg h2]
      by_cases hl : l = []
      · subst hl; simp [wrL_nil] at hs; omega
      · exact rightF_much l _ _ (fun b hb => hk b (List.mem_cons_of_mem _ hb)) hl (by omega)
/-- what bytes begin with: an error's number, else 0 and the header -/
def firstA (s : List UInt8) : Int × Ah :=
  if s.length < 3 then (7, ⟨0, []⟩) else
  if s.length < 3 + val (s.take 2) + pad (3 + val (s.take 2)) then (7, ⟨0, []⟩) else
  if ((s.drop (3 + val (s.take 2))).take (pad (3 + val (s.take 2))) == zs (pad (3 + val (s.take 2)))) = true then (0, ⟨((s.getD 2 0).toNat : Int), (s.drop 3).take (val (s.take 2))⟩) else (3, ⟨0, []⟩)
/-- the headers that bytes from place p on are, behind those that are read -/
def readF : Nat → Nat → List UInt8 → List Ah → List Ah × Int × Int
  | 0, _, _, acc => (acc, 0, -1)
  | f + 1, p, s, acc => if s = [] then (acc, 0, -1) else if (firstA s).1 = 0 then readF f (p + sizeA (firstA s).2) (s.drop (sizeA (firstA s).2)) (acc ++ [(firstA s).2]) else ([], (firstA s).1, (p : Int))
theorem readF_succ (f p : Nat) (s : List UInt8) (acc : List Ah) : readF (f + 1) p s acc = if s = [] then (acc, 0, -1) else if (firstA s).1 = 0 then readF f (p + sizeA (firstA s).2) (s.drop (sizeA (firstA s).2)) (acc ++ [(firstA s).2]) else ([], (firstA s).1, (p : Int)) := rfl
def readA (s : List UInt8) : List Ah × Int × Int := if 1020 < s.length then ([], 4, -1) else readF s.length 0 s []
theorem firstA_few {s : List UInt8} (h : s.length < 3) : firstA s = (7, ⟨0, []⟩) := by unfold firstA; rw [if_pos h]
theorem firstA_more {s : List UInt8} (h : 3 ≤ s.length) (h2 : s.length < 3 + val (s.take 2) + pad (3 + val (s.take 2))) : firstA s = (7, ⟨0, []⟩) := by
  unfold firstA; rw [if_neg (by omega), if_pos h2]
theorem firstA_form {s : List UInt8} (h : 3 ≤ s.length) (h2 : 3 + val (s.take 2) + pad (3 + val (s.take 2)) ≤ s.length) (h3 : ((s.drop (3 + val (s.take 2))).take (pad (3 + val (s.take 2))) == zs (pad (3 + val (s.take 2)))) = false) : firstA s = (3, ⟨0, []⟩) := by
  unfold firstA; rw [if_neg (by omega), if_neg (by omega), h3]; rfl
theorem firstA_ok {s : List UInt8} (h : 3 ≤ s.length) (h2 : 3 + val (s.take 2) + pad (3 + val (s.take 2)) ≤ s.length) (h3 : ((s.drop (3 + val (s.take 2))).take (pad (3 + val (s.take 2))) == zs (pad (3 + val (s.take 2)))) = true) :
    firstA s = (0, ⟨((s.getD 2 0).toNat : Int), (s.drop 3).take (val (s.take 2))⟩) := by
  unfold firstA; rw [if_neg (by omega), if_neg (by omega), if_pos h3]
theorem sizeA_of {s : List UInt8} {x : Int} {n : Nat} (h2 : 3 + n + pad (3 + n) ≤ s.length) : sizeA ⟨x, (s.drop 3).take n⟩ = 3 + n + pad (3 + n) := by
  have e : ((s.drop 3).take n).length = n := by simp; omega
  unfold sizeA
  simp only
  rw [e]
theorem val2_lt (s : List UInt8) : val (s.take 2) < 65536 := by
  have h := val_lt (s.take 2).length (s.take 2) rfl
  have h2 : (s.take 2).length ≤ 2 := List.length_take_le _ _
  have h3 : 256 ^ (s.take 2).length ≤ 256 ^ 2 := Nat.pow_le_pow_right (by decide) h2
  omega
theorem firstA_n (s : List UInt8) : (firstA s).1 = 0 ∨ (firstA s).1 = 7 ∨ (firstA s).1 = 3 := by
  unfold firstA
  split
  · exact .inr (.inl rfl)
  · split
    · exact .inr (.inl rfl)
    · split
      · exact .inl rfl
      · exact .inr (.inr rfl)
/-- where it is read, the bytes begin with what is written -/
theorem firstA_wr {s : List UInt8} (h : (firstA s).1 = 0) : (0 ≤ (firstA s).2.k ∧ (firstA s).2.k ≤ 255) ∧ sizeA (firstA s).2 ≤ s.length ∧ wrA (firstA s).2 = s.take (sizeA (firstA s).2) := by
  by_cases h1 : s.length < 3
  · rw [firstA_few h1] at h; exact absurd h (by decide)
  by_cases h2 : s.length < 3 + val (s.take 2) + pad (3 + val (s.take 2))
  · rw [firstA_more (by omega) h2] at h; exact absurd h (by decide)
  cases h3 : ((s.drop (3 + val (s.take 2))).take (pad (3 + val (s.take 2))) == zs (pad (3 + val (s.take 2)))) with
  | false => rw [firstA_form (by omega) (by omega) h3] at h; exact absurd h (by decide)
  | true =>
    rw [firstA_ok (by omega) (by omega) h3]
    simp only
    rw [sizeA_of (by omega)]
    match s, h1 with
    | a :: b :: c :: t, _ =>
      have e2 : List.take 2 (a :: b :: c :: t) = [a, b] := rfl
      simp only [e2] at *
      obtain ⟨n, hn⟩ : ∃ n, val [a, b] = n := ⟨_, rfl⟩
      have hb : be n 2 = [a, b] := by rw [← hn]; exact be_val [a, b]
      have hc1 : be c.toNat 1 = [c] := by
        have := be_val [c]
        rwa [show val [c] = c.toNat by simp [val]] at this
      rw [hn] at h2 h3 ⊢
      have hcl := c.toNat_lt
      simp only [List.length_cons] at h2 ⊢
      have hd : List.drop (3 + n) (a :: b :: c :: t) = t.drop n := by rw [show 3 + n = n + 3 by omega]; rfl
      rw [hd] at h3
      have h3' := eq_of_beq h3
      refine ⟨⟨by simp, by simp; omega⟩, by omega, ?_⟩
      have hl : ((List.drop 3 (a :: b :: c :: t)).take n).length = n := by simp; omega
      unfold wrA padded
      simp only
      rw [hl, hb]
      have e4 : (([c].getD 0 0).toNat : Int) = (c.toNat : Int) := rfl
      have e5 : be ((((a :: b :: c :: t).getD 2 0).toNat : Int)).toNat 1 = [c] := by
        show be (((c.toNat : Nat) : Int)).toNat 1 = [c]
        rw [Int.toNat_natCast]; exact hc1
      rw [e5]
      have e6 : ([a, b] ++ [c] ++ List.take n (List.drop 3 (a :: b :: c :: t))).length = 3 + n := by
        rw [List.length_append, hl]; rfl
      rw [e6, ← h3']
      have e7 : List.take (3 + n + pad (3 + n)) (a :: b :: c :: t) = [a, b] ++ [c] ++ t.take (n + pad (3 + n)) := by
        rw [show 3 + n + pad (3 + n) = (n + pad (3 + n)) + 3 by omega]; rfl
      rw [e7, List.take_add]
      show ([a, b] ++ [c] ++ List.take n t) ++ List.take (pad (3 + n)) (List.drop n t) = _
      rw [List.append_assoc]
/-- what is written is read, whatever stands behind -/
theorem firstA_of (a : Ah) (t : List UInt8) (hk : 0 ≤ a.k ∧ a.k ≤ 255) (hd : a.d.length < 65536) : firstA (wrA a ++ t) = (0, a) := by
  obtain ⟨k, d⟩ := a
  simp only at hk hd
  obtain ⟨c, rfl⟩ : ∃ c : Nat, k = c := ⟨k.toNat, by omega⟩
  have hc : c < 256 := by omega
  have e2 : val (be d.length 2) = d.length := val_be _ _ (by omega)
  obtain ⟨x, y, hxy⟩ : ∃ x y, be d.length 2 = [x, y] := ⟨_, _, rfl⟩
  obtain ⟨z, hz⟩ : ∃ z, be c 1 = [z] := ⟨_, rfl⟩
  have ez : z.toNat = c := by
    have := val_be c 1 (by omega)
    rw [hz] at this
    simpa [val] using this
  have hs : wrA ⟨(c : Int), d⟩ ++ t = x :: y :: z :: (d ++ zs (pad (3 + d.length)) ++ t) := by
    unfold wrA padded
    simp only [Int.toNat_natCast]
    rw [hxy, hz]
    have e6 : ([x, y] ++ [z] ++ d).length = 3 + d.length := by simp; omega
    rw [e6]
    simp
  have ht : List.take 2 (x :: y :: z :: (d ++ zs (pad (3 + d.length)) ++ t)) = [x, y] := rfl
  rw [hs]
  rw [hxy] at e2
  have hlen : (x :: y :: z :: (d ++ zs (pad (3 + d.length)) ++ t)).length = 3 + d.length + pad (3 + d.length) + t.length := by simp [zs_len]; omega
  rw [firstA_ok (by omega) (by rw [ht, e2, hlen]; omega) (by
    rw [ht, e2]
    have e8 : List.drop (3 + d.length) (x :: y :: z :: (d ++ zs (pad (3 + d.length)) ++ t)) = zs (pad (3 + d.length)) ++ t := by
      rw [show 3 + d.length = d.length + 3 by omega]
      show List.drop d.length (d ++ zs (pad (d.length + 3)) ++ t) = _
      rw [List.append_assoc, List.drop_left]
    rw [e8, List.take_left' (zs_len _)]
    exact beq_self_eq_true _)]
  rw [ht, e2]
  have e9 : List.take d.length (List.drop 3 (x :: y :: z :: (d ++ zs (pad (3 + d.length)) ++ t))) = d := by
    show List.take d.length (d ++ zs (pad (3 + d.length)) ++ t) = d
    rw [List.append_assoc, List.take_left]
  rw [e9]
  show ((0 : Int), (⟨((z.toNat : Nat) : Int), d⟩ : Ah)) = _
  rw [ez]
/-- a piece of what is written is none -/
theorem firstA_cut (a : Ah) (m : Nat) (hd : a.d.length < 65536) (hm : m < sizeA a) : firstA ((wrA a).take m) = (7, ⟨0, []⟩) := by
  have hl := wrA_len a
  have hlm : ((wrA a).take m).length = m := by simp; omega
  by_cases h3 : m < 3
  · exact firstA_few (by omega)
  · have e2 : ((wrA a).take m).take 2 = be a.d.length 2 := by
      rw [List.take_take, Nat.min_eq_left (by omega)]
      unfold wrA padded
      rw [List.append_assoc, List.append_assoc, List.take_left' (be_len _ _)]
    refine firstA_more (by omega) ?_
    rw [e2, val_be _ _ (by omega), hlm]
    unfold sizeA at hm
    omega
theorem readF_nil (f p : Nat) (acc : List Ah) : readF f p [] acc = (acc, 0, -1) := by
  cases f with
  | zero => rfl
  | succ f => unfold readF; rw [if_pos rfl]
/-- headers that are written ahead are read -/
theorem readF_app : ∀ (l : List Ah) (f p : Nat) (t : List UInt8) (acc : List Ah), okK l → (∀ a ∈ l, a.d.length < 65536) → (wrL l).length + t.length ≤ f →
    ∃ f', t.length ≤ f' ∧ readF f p (wrL l ++ t) acc = readF f' (p + (wrL l).length) t (acc ++ l)
  | [], f, p, t, acc, _, _, hf => ⟨f, by simpa [wrL_nil] using hf, by simp [wrL_nil]⟩
  | a :: l, f, p, t, acc, hk, hd, hf => by
    have hpos := sizeA_pos a
    have hla := wrA_len a
    rw [wrL_cons, List.length_append] at hf ⊢
    obtain ⟨f1, rfl⟩ : ∃ f1, f = f1 + 1 := ⟨f - 1, by omega⟩
    obtain ⟨f', h1, h2⟩ := readF_app l f1 (p + sizeA a) t (acc ++ [a]) (fun b hb => hk b (List.mem_cons_of_mem _ hb)) (fun b hb => hd b (List.mem_cons_of_mem _ hb)) (by omega)
    refine ⟨f', h1, ?_⟩
    have hfst := firstA_of a (wrL l ++ t) (hk a (List.mem_cons_self ..)) (hd a (List.mem_cons_self ..))
    rw [List.append_assoc, readF_succ]
    rw [if_neg (fun e => by have := congrArg List.length e; simp at this; rw [this.1] at hla; simp at hla; omega), hfst, if_pos rfl]
    simp only
    rw [← hla, List.drop_left, hla, h2, List.append_assoc]
    rw [show p + sizeA a + (wrL l).length = p + (sizeA a + (wrL l).length) by omega]
    rfl
theorem data_lt {l : List Ah} (h : (wrL l).length ≤ 1020) : ∀ a ∈ l, a.d.length < 65536 := by
  induction l with
  | nil => exact fun _ h => absurd h List.not_mem_nil
  | cons a l ih =>
    rw [wrL_cons, List.length_append, wrA_len] at h
    intro b hb
    rcases List.mem_cons.1 hb with rfl | hb
    · unfold sizeA at h; omega
    · exact ih (by omega) b hb
theorem read_write {l : List Ah} (hk : okK l) (hs : (wrL l).length ≤ 1020) : readA (wrL l) = (l, 0, -1) := by
  unfold readA
  rw [if_neg (by omega)]
  obtain ⟨f', _, h⟩ := readF_app l (wrL l).length 0 [] [] hk (data_lt hs) (by simp)
  rw [List.append_nil] at h
  rw [h, readF_nil, List.nil_append]
theorem read_cut {l : List Ah} {a : Ah} (hk : okK (l ++ [a])) (hs : (wrL (l ++ [a])).length ≤ 1020) (m : Nat) (h0 : 0 < m) (hm : m < sizeA a) : readA ((wrL (l ++ [a])).take ((wrL l).length + m)) = ([], 7, ((wrL l).length : Int)) := by
  have hd := data_lt hs
  have hla := wrA_len a
  rw [wrL_app, wrL_one] at hs ⊢
  rw [List.take_length_add_append]
  have hlen : (wrL l ++ (wrA a).take m).length = (wrL l).length + m := by simp; omega
  rw [List.length_append] at hs
  unfold readA
  rw [if_neg (by omega)]
  obtain ⟨f', h1, h⟩ := readF_app l (wrL l ++ (wrA a).take m).length 0 ((wrA a).take m) [] (fun b hb => hk b (List.mem_append_left _ hb)) (fun b hb => hd b (List.mem_append_left _ hb)) (by rw [List.length_append]; exact Nat.le_refl _)
  have hlm : ((wrA a).take m).length = m := by simp; omega
  obtain ⟨f1, rfl⟩ : ∃ f1, f' = f1 + 1 := ⟨f' - 1, by omega⟩
  rw [h, readF_succ]
  rw [if_neg (fun e => by rw [e] at hlm; simp at hlm; omega), firstA_cut a m (hd a (by simp)) hm, if_neg (by decide)]
  simp
/-- what is read is written so -/
theorem readF_is : ∀ (f p : Nat) (s : List UInt8) (acc : List Ah), s.length ≤ f → (readF f p s acc).2.1 = 0 → ∃ m, (readF f p s acc) = (acc ++ m, 0, -1) ∧ okK m ∧ wrL m = s
  | 0, p, s, acc, hf, _ => by
    obtain rfl : s = [] := List.eq_nil_of_length_eq_zero (by omega)
    exact ⟨[], by simp [readF], fun _ h => absurd h List.not_mem_nil, rfl⟩
  | f + 1, p, s, acc, hf, h => by
    by_cases hs : s = []
    · subst hs
      rw [readF_nil]
      exact ⟨[], by simp, fun _ h => absurd h List.not_mem_nil, rfl⟩
    · rw [readF_succ] at h ⊢
      rw [if_neg hs] at h ⊢
      by_cases h1 : (firstA s).1 = 0
      · rw [if_pos h1] at h ⊢
        obtain ⟨k, hz, hw⟩ := firstA_wr h1
        have hpos := sizeA_pos (firstA s).2
        obtain ⟨m, e, hk, hm⟩ := readF_is f _ _ _ (by rw [List.length_drop]; omega) h
        refine ⟨(firstA s).2 :: m, ?_, fun b hb => ?_, ?_⟩
        · rw [e, List.append_assoc]; rfl
        · rcases List.mem_cons.1 hb with rfl | hb
          · exact k
          · exact hk b hb
        · rw [wrL_cons, hm, hw, List.take_append_drop]
      · rw [if_neg h1] at h
        exact absurd h h1
theorem write_read {s : List UInt8} (h : (readA s).2.1 = 0) : ∃ l, readA s = (l, 0, -1) ∧ okK l ∧ wrL l = s ∧ (wrL l).length ≤ 1020 := by
  unfold readA at h ⊢
  by_cases h1 : 1020 < s.length
  · rw [if_pos h1] at h; exact absurd h (by decide)
  · rw [if_neg h1] at h ⊢
    obtain ⟨m, e, hk, hm⟩ := readF_is _ _ _ _ (Nat.le_refl _) h
    exact ⟨m, by rw [e]; rfl, hk, hm, by rw [hm]; omega⟩
theorem readF_bad : ∀ (f p : Nat) (s : List UInt8) (acc : List Ah), (readF f p s acc).2.1 ≠ 0 → (readF f p s acc).1 = []
  | 0, _, _, _, h => absurd rfl h
  | f + 1, p, s, acc, h => by
    unfold readF at h ⊢
    split at h
    · exact absurd rfl h
    · split at h
      · rename_i h1 h2
        rw [if_neg h1, if_pos h2]
        exact readF_bad f _ _ _ h
      · rename_i h1 h2
        rw [if_neg h1, if_neg h2]
theorem readA_bad {s : List UInt8} (h : (readA s).2.1 ≠ 0) : (readA s).1 = [] := by
  unfold readA at h ⊢
  by_cases h1 : 1020 < s.length
  · rw [if_pos h1]
  · rw [if_neg h1] at h ⊢
    exact readF_bad _ _ _ _ h
end Go.Proofs.YtceinedicbdngaaDoor
