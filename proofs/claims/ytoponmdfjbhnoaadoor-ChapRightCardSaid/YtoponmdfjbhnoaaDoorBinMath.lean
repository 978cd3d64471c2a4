/- What is written is read: hexadecimal digits and letters, as plain lists. No program stands in it. -/
import Derived.Test.YtoponmdfjbhnoaaDoorB64Plain
namespace Go.Proofs.YtoponmdfjbhnoaaDoor
theorem hexV_dig (n : Nat) (h : n < 16) : hexV (digC n) = some n := by
  have : ∀ n : Fin 16, hexV (digC n.1) = some n.1 := by decide +kernel
  exact this ⟨n, h⟩
theorem hexN_dig (n : Nat) (h : n < 16) : hexN (digC n) = n := by unfold hexN; rw [hexV_dig n h]; rfl
theorem hexRow_hexOf : ∀ (l : List UInt8) (i : Nat), 2 * l.length ≤ i → hexRow (hexOf l) i = l
  | [], _, _ => rfl
  | b :: l, i, h => by
    have hb := b.toNat_lt
    simp only [List.length_cons] at h
    show UInt8.ofNat _ :: hexRow (hexOf l) (i - 2) = _
    rw [hexRow_hexOf l (i - 2) (by omega), if_neg (by omega), if_neg (by omega), hexN_dig _ (by omega), hexN_dig _ (by omega)]
    congr 1
    rw [show b.toNat / 16 * 16 + b.toNat % 16 = b.toNat from by omega]
    simp
theorem hexOf_good : ∀ (l : List UInt8), ∀ x ∈ hexOf l, (hexV x).isNone = false
  | [], x, h => by cases h
  | b :: l, x, h => by
    have hb := b.toNat_lt
    simp only [hexOf, List.mem_cons] at h
    rcases h with rfl | rfl | h
    · rw [hexV_dig _ (by omega)]; rfl
    · rw [hexV_dig _ (by omega)]; rfl
    · exact hexOf_good l x h
theorem readHex_hexOf (l : List UInt8) : readHex (hexOf l) = (l, 0, -1) := by
  unfold readHex
  rw [if_neg (by rw [hexOf_len]; omega), List.findIdx?_eq_none_iff.2 (hexOf_good l)]
  show (unhex (hexOf l), (0 : Int), (-1 : Int)) = _
  unfold unhex
  rw [hexRow_hexOf l _ (by rw [hexOf_len]; omega)]
theorem letN_lett (n : Nat) (h : n < 64) : letN (lett n) = n ∧ lett n ≠ 61 := by
  have : ∀ n : Fin 64, letN (lett n.1) = n.1 ∧ lett n.1 ≠ 61 := by decide +kernel
  exact this ⟨n, h⟩
theorem eqs_two (p : List UInt8) (a b : UInt8) : eqs (p ++ [a, b]) = if b = 61 then (if a = 61 then 2 else 1) else 0 := by
  have h2 : Lib.hasSuffix (p ++ [a, b]) [61, 61] = (decide (a = 61) && decide (b = 61)) := by
    unfold Lib.hasSuffix
    rw [List.isSuffixOf, List.reverse_append]
    simp only [List.reverse_cons, List.reverse_nil, List.nil_append, List.cons_append]
    rw [Bool.eq_iff_iff]
    simp [List.isPrefixOf]
    constructor
    · rintro ⟨h1, h2⟩; exact ⟨h2.symm, h1.symm⟩
    · rintro ⟨h1, h2⟩; exact ⟨h2.symm, h1.symm⟩
  have h1 : Lib.hasSuffix (p ++ [a, b]) [61] = decide (b = 61) := by
    unfold Lib.hasSuffix
    rw [List.isSuffixOf, List.reverse_append]
    simp only [List.reverse_cons, List.reverse_nil, List.nil_append, List.cons_append]
    rw [Bool.eq_iff_iff]
    simp [List.isPrefixOf]
    exact ⟨fun h => h.symm, fun h => h.symm⟩
  unfold eqs
  rw [h2, h1]
  by_cases hb : b = 61 <;> by_cases ha : a = 61 <;> simp [ha, hb]
theorem fold_four (a b c : UInt8) (o : List UInt8) : (four [a, b, c]).foldl (fun st c => stepL st (letN c).toNat) (0, 0, o) = (0, 0, o ++ [a, b, c]) := by
  have ha := a.toNat_lt; have hb := b.toNat_lt; have hc := c.toNat_lt
  simp only [four, List.foldl_cons, List.foldl_nil]
  rw [(letN_lett (a.toNat / 4) (by omega)).1, (letN_lett (a.toNat % 4 * 16 + b.toNat / 16) (by omega)).1, (letN_lett (b.toNat % 16 * 4 + c.toNat / 64) (by omega)).1, (letN_lett (c.toNat % 64) (by omega)).1]
  simp only [Int.toNat_natCast]
  have e1 : stepL (0, 0, o) (a.toNat / 4) = (a.toNat / 4, 6, o) := by simp [stepL]
  have q2 : (a.toNat / 4 * 64 + (a.toNat % 4 * 16 + b.toNat / 16)) / 16 = a.toNat := by omega
  have m2 : (a.toNat / 4 * 64 + (a.toNat % 4 * 16 + b.toNat / 16)) % 16 = b.toNat / 16 := by omega
  have e2 : stepL (a.toNat / 4, 6, o) (a.toNat % 4 * 16 + b.toNat / 16) = (b.toNat / 16, 4, o ++ [a]) := by
    simp only [stepL, show (2 : Nat) ≤ 6 from by decide, if_true, show (2 : Nat) ^ (6 - 2) = 16 from rfl, q2, m2]; simp
  have q3 : (b.toNat / 16 * 64 + (b.toNat % 16 * 4 + c.toNat / 64)) / 4 = b.toNat := by omega
  have m3 : (b.toNat / 16 * 64 + (b.toNat % 16 * 4 + c.toNat / 64)) % 4 = c.toNat / 64 := by omega
  have e3 : stepL (b.toNat / 16, 4, o ++ [a]) (b.toNat % 16 * 4 + c.toNat / 64) = (c.toNat / 64, 2, o ++ [a] ++ [b]) := by
    simp only [stepL, show (2 : Nat) ≤ 4 from by decide, if_true, show (2 : Nat) ^ (4 - 2) = 4 from rfl, q3, m3]; simp
  have q4 : (c.toNat / 64 * 64 + c.toNat % 64) / 1 = c.toNat := by omega
  have e4 : stepL (c.toNat / 64, 2, o ++ [a] ++ [b]) (c.toNat % 64) = (0, 0, o ++ [a] ++ [b] ++ [c]) := by
    simp only [stepL, show (2 : Nat) ≤ 2 from by decide, if_true, show (2 : Nat) ^ (2 - 2) = 1 from rfl, q4, Nat.mod_one]; simp
  rw [e1, e2, e3, e4]
  simp
theorem fold_letters : ∀ (c : List UInt8) (o : List UInt8), c.length % 3 = 0 → (lettersOf c).foldl (fun st c => stepL st (letN c).toNat) (0, 0, o) = (0, 0, o ++ c)
  | [], o, _ => by simp [lettersOf]
  | [_], _, h => by simp at h
  | [_, _], _, h => by simp at h
  | x :: y :: z :: r, o, h => by
    have hr : r.length % 3 = 0 := by simp at h; omega
    show (four [x, y, z] ++ lettersOf r).foldl _ _ = _
    rw [List.foldl_append, fold_four, fold_letters r _ hr]
    simp
theorem fold_one (a : UInt8) (o : List UInt8) : [lett (a.toNat / 4), lett (a.toNat % 4 * 16)].foldl (fun st c => stepL st (letN c).toNat) (0, 0, o) = (0, 4, o ++ [a]) := by
  have ha := a.toNat_lt
  simp only [List.foldl_cons, List.foldl_nil]
  rw [(letN_lett (a.toNat / 4) (by omega)).1, (letN_lett (a.toNat % 4 * 16) (by omega)).1]
  simp only [Int.toNat_natCast]
  have e1 : stepL (0, 0, o) (a.toNat / 4) = (a.toNat / 4, 6, o) := by simp [stepL]
  have q2 : (a.toNat / 4 * 64 + a.toNat % 4 * 16) / 16 = a.toNat := by omega
  have m2 : (a.toNat / 4 * 64 + a.toNat % 4 * 16) % 16 = 0 := by omega
  have e2 : stepL (a.toNat / 4, 6, o) (a.toNat % 4 * 16) = (0, 4, o ++ [a]) := by
    simp only [stepL, show (2 : Nat) ≤ 6 from by decide, if_true, show (2 : Nat) ^ (6 - 2) = 16 from rfl, q2, m2]; simp
  rw [e1, e2]
theorem fold_two (a b : UInt8) (o : List UInt8) : [lett (a.toNat / 4), lett (a.toNat % 4 * 16 + b.toNat / 16), lett (b.toNat % 16 * 4)].foldl (fun st c => stepL st (letN c).toNat) (0, 0, o) = (0, 2, o ++ [a, b]) := by
  have ha := a.toNat_lt; have hb := b.toNat_lt
  simp only [List.foldl_cons, List.foldl_nil]
  rw [(letN_lett (a.toNat / 4) (by omega)).1, (letN_lett (a.toNat % 4 * 16 + b.toNat / 16) (by omega)).1, (letN_lett (b.toNat % 16 * 4) (by omega)).1]
  simp only [Int.toNat_natCast]
  have e1 : stepL (0, 0, o) (a.toNat / 4) = (a.toNat / 4, 6, o) := by simp [stepL]
  have q2 : (a.toNat / 4 * 64 + (a.toNat % 4 * 16 + b.toNat / 16)) / 16 = a.toNat := by omega
  have m2 : (a.toNat / 4 * 64 + (a.toNat % 4 * 16 + b.toNat / 16)) % 16 = b.toNat / 16 := by omega
  have e2 : stepL (a.toNat / 4, 6, o) (a.toNat % 4 * 16 + b.toNat / 16) = (b.toNat / 16, 4, o ++ [a]) := by
    simp only [stepL, show (2 : Nat) ≤ 6 from by decide, if_true, show (2 : Nat) ^ (6 - 2) = 16 from rfl, q2, m2]; simp
  have q3 : (b.toNat / 16 * 64 + b.toNat % 16 * 4) / 4 = b.toNat := by omega
  have m3 : (b.toNat / 16 * 64 + b.toNat % 16 * 4) % 4 = 0 := by omega
  have e3 : stepL (b.toNat / 16, 4, o ++ [a]) (b.toNat % 16 * 4) = (0, 2, o ++ [a] ++ [b]) := by
    simp only [stepL, show (2 : Nat) ≤ 4 from by decide, if_true, show (2 : Nat) ^ (4 - 2) = 4 from rfl, q3, m3]; simp
  rw [e1, e2, e3]
  simp
def Good (l : List UInt8) : Prop := ∀ x ∈ l, decide (letN x < 0) = false
theorem good_lett (n : Nat) (h : n < 64) : decide (letN (lett n) < 0) = false := by rw [(letN_lett n h).1]; simp
theorem good_letters : ∀ (c : List UInt8), c.length % 3 = 0 → Good (lettersOf c)
  | [], _ => fun x h => by cases h
  | [_], h => by simp at h
  | [_, _], h => by simp at h
  | a :: b :: c :: r, h => fun x hx => by
    have ha := a.toNat_lt; have hb := b.toNat_lt; have hc := c.toNat_lt
    have hr : r.length % 3 = 0 := by simp at h; omega
    have hx' : x ∈ four [a, b, c] ++ lettersOf r := hx
    rcases List.mem_append.1 hx' with h1 | h1
    · simp only [four, List.mem_cons, List.not_mem_nil, or_false] at h1
      rcases h1 with rfl | rfl | rfl | rfl
      · exact good_lett _ (by omega)
      · exact good_lett _ (by omega)
      · exact good_lett _ (by omega)
      · exact good_lett _ (by omega)
    · exact good_letters r hr x h1
/-- a list's threes, and what is left -/
theorem threes (l : List UInt8) : ∃ c d, l = c ++ d ∧ c.length % 3 = 0 ∧ d.length < 3 :=
  ⟨l.take (l.length / 3 * 3), l.drop (l.length / 3 * 3), (List.take_append_drop _ _).symm, by rw [List.length_take]; omega, by rw [List.length_drop]; omega⟩
theorem readLet_of (l x : List UInt8) (h4 : l.length % 4 = 0) (he : l.length - eqs l = x.length) (hx : l.take x.length = x) (hg : Good x) (hr : (runL x).1 = 0) : readLet l = ((runL x).2.2, 0, -1) := by
  unfold readLet
  rw [if_neg (by omega), he, hx, List.findIdx?_eq_none_iff.2 hg]
  simp only
  rw [if_neg (by omega)]
theorem eqs_letters (c : List UInt8) (hc : c.length % 3 = 0) : eqs (lettersOf c) = 0 := by
  have hgc := good_letters c hc
  by_cases h0 : c.length = 0
  · obtain rfl : c = [] := List.eq_nil_of_length_eq_zero h0
    decide +kernel
  · have hl4 : 4 ≤ (lettersOf c).length := by rw [lettersOf_len]; omega
    generalize lettersOf c = x at hgc hl4
    have hsplit := List.take_append_drop (x.length - 2) x
    have hdl : (x.drop (x.length - 2)).length = 2 := by rw [List.length_drop]; omega
    generalize x.drop (x.length - 2) = y at hsplit hdl
    match y, hdl with
    | [a, b], _ =>
      have hb : b ≠ 61 := by
        intro hb
        have hmem : b ∈ x := by rw [← hsplit]; simp
        have := hgc b hmem
        rw [hb] at this
        exact absurd this (by decide +kernel)
      rw [← hsplit, eqs_two, if_neg hb]
theorem readLet_letters (l : List UInt8) : readLet (lettersOf l) = (l, 0, -1) := by
  obtain ⟨c, d, rfl, hc, hd⟩ := threes l
  rw [lettersOf_three c d hc]
  have hlc : (lettersOf c).length % 4 = 0 := by rw [lettersOf_len]; omega
  have hgc := good_letters c hc
  match d, hd with
  | [], _ =>
    have hr : runL (lettersOf c) = (0, 0, c) := by unfold runL; rw [fold_letters c [] hc]; rfl
    rw [List.append_nil, show lettersOf [] = [] from rfl, List.append_nil]
    have he := eqs_letters c hc
    rw [readLet_of (lettersOf c) (lettersOf c) hlc (by rw [he]; rfl) List.take_length hgc (by rw [hr]), hr]
  | [a], _ =>
    have ha := a.toNat_lt
    have e : lettersOf c ++ lettersOf [a] = (lettersOf c ++ [lett (a.toNat / 4), lett (a.toNat % 4 * 16)]) ++ [61, 61] := by simp [lettersOf, four]
    have hr : runL (lettersOf c ++ [lett (a.toNat / 4), lett (a.toNat % 4 * 16)]) = (0, 4, c ++ [a]) := by
      unfold runL; rw [List.foldl_append, fold_letters c [] hc, fold_one]; rfl
    rw [e, readLet_of _ (lettersOf c ++ [lett (a.toNat / 4), lett (a.toNat % 4 * 16)]) (by simp; omega) (by rw [eqs_two]; simp) (List.take_left' rfl) ?_ (by rw [hr]), hr]
    intro x hx
    rcases List.mem_append.1 hx with h1 | h1
    · exact hgc x h1
    · simp only [List.mem_cons, List.not_mem_nil, or_false] at h1
      rcases h1 with rfl | rfl
      · exact good_lett _ (by omega)
      · exact good_lett _ (by omega)
  | [a, b], _ =>
    have ha := a.toNat_lt
    have hb := b.toNat_lt
    have hne := (letN_lett (b.toNat % 16 * 4) (by omega)).2
    have e : lettersOf c ++ lettersOf [a, b] = (lettersOf c ++ [lett (a.toNat / 4), lett (a.toNat % 4 * 16 + b.toNat / 16), lett (b.toNat % 16 * 4)]) ++ [61] := by simp [lettersOf, four]
    have e2 : (lettersOf c ++ [lett (a.toNat / 4), lett (a.toNat % 4 * 16 + b.toNat / 16), lett (b.toNat % 16 * 4)]) ++ [61] = (lettersOf c ++ [lett (a.toNat / 4), lett (a.toNat % 4 * 16 + b.toNat / 16)]) ++ [lett (b.toNat % 16 * 4), 61] := by simp
    have hr : runL (lettersOf c ++ [lett (a.toNat / 4), lett (a.toNat % 4 * 16 + b.toNat / 16), lett (b.toNat % 16 * 4)]) = (0, 2, c ++ [a, b]) := by
      unfold runL; rw [List.foldl_append, fold_letters c [] hc, fold_two]; rfl
    rw [e, readLet_of _ (lettersOf c ++ [lett (a.toNat / 4), lett (a.toNat % 4 * 16 + b.toNat / 16), lett (b.toNat % 16 * 4)]) (by simp; omega) (by rw [e2, eqs_two, if_pos rfl, if_neg hne]; simp) (List.take_left' rfl) ?_ (by rw [hr]), hr]
    intro x hx
    rcases List.mem_append.1 hx with h1 | h1
    · exact hgc x h1
    · simp only [List.mem_cons, List.not_mem_nil, or_false] at h1
      rcases h1 with rfl | rfl | rfl
      · exact good_lett _ (by omega)
      · exact good_lett _ (by omega)
      · exact good_lett _ (by omega)
end Go.Proofs.YtoponmdfjbhnoaaDoor
