/- Hardly more than one way; great or small: plain lists. No program stands in it. -/
import Derived.Test.YtoheabcohfjknaaDoorBinMath
import Derived.Lib.Case
import Derived.Lib.Fold
namespace Go.Proofs.YtoheabcohfjknaaDoor
theorem all_u8 (p : UInt8 → Bool) (h : (List.range 256).all (fun n => p (UInt8.ofNat n)) = true) (b : UInt8) : p b = true := by
  have := List.all_eq_true.1 h b.toNat (List.mem_range.2 b.toNat_lt)
  simpa using this
theorem hexV_upper (b : UInt8) : hexV (Lib.upperB b) = hexV b := by
  have := all_u8 (fun b => hexV (Lib.upperB b) == hexV b) (by decide +kernel) b
  exact eq_of_beq this
theorem hexRow_upper : ∀ (l : List UInt8) (i : Nat), hexRow (l.map Lib.upperB) i = hexRow l i
  | [], _ => rfl
  | [_], _ => rfl
  | a :: b :: r, i => by
    show UInt8.ofNat _ :: hexRow (r.map Lib.upperB) (i - 2) = UInt8.ofNat _ :: _
    rw [hexRow_upper r (i - 2)]
    simp only [hexN, hexV_upper]
theorem readHex_upper (l : List UInt8) : readHex (l.map Lib.upperB) = readHex l := by
  unfold readHex unhex
  rw [List.length_map, List.findIdx?_map, hexRow_upper]
  have e : ((fun c => (hexV c).isNone) ∘ Lib.upperB) = fun c => (hexV c).isNone := by funext c; simp [hexV_upper]
  rw [e]
theorem digC_lt (n : Nat) (h : n < 16) : (digC n).toNat < 128 := by
  have : ∀ n : Fin 16, (digC n.1).toNat < 128 := by decide +kernel
  exact this ⟨n, h⟩
theorem hexOf_ascii : ∀ (l : List UInt8), ∀ x ∈ hexOf l, x.toNat < 128
  | [], x, h => by cases h
  | b :: l, x, h => by
    have hb := b.toNat_lt
    simp only [hexOf, List.mem_cons] at h
    rcases h with rfl | rfl | h
    · exact digC_lt _ (by omega)
    · exact digC_lt _ (by omega)
    · exact hexOf_ascii l x h
theorem hexL_ascii (l : List UInt8) : ∀ x ∈ hexL l, x.toNat < 128 := fun x h => by
  unfold hexL at h
  simp only [List.mem_cons] at h
  rcases h with rfl | rfl | h
  · decide
  · decide
  · exact hexOf_ascii l x h
theorem fold_dig (a : UInt8) (h : (hexV a).isNone = false) : Lib.foldEq a (digC (hexN a)) = true ∧ a.toNat < 128 := by
  have := all_u8 (fun a => (hexV a).isNone || (Lib.foldEq a (digC (hexN a)) && decide (a.toNat < 128))) (by decide +kernel) a
  rw [h] at this
  simpa using this
theorem fold_hex : ∀ (l : List UInt8) (i : Nat), l.length % 2 = 0 → l.length ≤ i → (∀ x ∈ l, (hexV x).isNone = false) → Lib.equalFold l (hexOf (hexRow l i)) = true
  | [], _, _, _, _ => rfl
  | [_], _, h, _, _ => absurd h (by simp)
  | a :: b :: r, i, h, hi, hg => by
    have ha := fold_dig a (hg a (by simp))
    have hb := fold_dig b (hg b (by simp))
    have na := hexN_lt a
    have nb := hexN_lt b
    simp only [List.length_cons] at h hi
    have ih := fold_hex r (i - 2) (by omega) (by omega) (fun x hx => hg x (by simp [hx]))
    have e : hexRow (a :: b :: r) i = UInt8.ofNat (hexN a * 16 + hexN b) :: hexRow r (i - 2) := by
      show UInt8.ofNat _ :: _ = _
      rw [if_neg (by omega), if_neg (by omega)]
    have et : (UInt8.ofNat (hexN a * 16 + hexN b)).toNat = hexN a * 16 + hexN b := by
      rw [UInt8.toNat_ofNat']; exact Nat.mod_eq_of_lt (show _ < 2 ^ 8 by omega)
    rw [e]
    show Lib.equalFold (a :: b :: r) (digC ((UInt8.ofNat (hexN a * 16 + hexN b)).toNat / 16) :: digC ((UInt8.ofNat (hexN a * 16 + hexN b)).toNat % 16) :: hexOf (hexRow r (i - 2))) = true
    rw [et, show (hexN a * 16 + hexN b) / 16 = hexN a from by omega, show (hexN a * 16 + hexN b) % 16 = hexN b from by omega]
    simp only [Lib.equalFold, ha.1, hb.1, ih, Bool.and_self]
theorem readHex_ok (r t : List UInt8) (h : readHex r = (t, 0, -1)) : Lib.equalFold r (hexOf t) = true ∧ ∀ x ∈ r, x.toNat < 128 := by
  unfold readHex at h
  split at h
  · simp at h
  · rename_i ho
    split at h
    · simp at h
    · rename_i hf
      have hg := List.findIdx?_eq_none_iff.1 hf
      have ht : unhex r = t := congrArg Prod.fst h
      rw [← ht]
      exact ⟨fold_hex r r.length (by omega) (Nat.le_refl _) hg, fun x hx => (fold_dig x (hg x hx)).2⟩
theorem lett_letN (x : UInt8) (h : decide (letN x < 0) = false) : lett (letN x).toNat = x ∧ (letN x).toNat < 64 ∧ x.toNat < 128 := by
  have := all_u8 (fun x => decide (letN x < 0) || (lett (letN x).toNat == x && decide ((letN x).toNat < 64) && decide (x.toNat < 128))) (by decide +kernel) x
  rw [h] at this
  simpa [and_assoc] using this
theorem step0 (n : Nat) (o : List UInt8) : stepL (0, 0, o) n = (n, 6, o) := by simp [stepL]
theorem step6 (a n : Nat) (o : List UInt8) : stepL (a, 6, o) n = ((a * 64 + n) % 16, 4, o ++ [UInt8.ofNat ((a * 64 + n) / 16)]) := by
  simp only [stepL, show (2 : Nat) ≤ 6 from by decide, if_true, show (2 : Nat) ^ (6 - 2) = 16 from rfl]
theorem step4 (a n : Nat) (o : List UInt8) : stepL (a, 4, o) n = ((a * 64 + n) % 4, 2, o ++ [UInt8.ofNat ((a * 64 + n) / 4)]) := by
  simp only [stepL, show (2 : Nat) ≤ 4 from by decide, if_true, show (2 : Nat) ^ (4 - 2) = 4 from rfl]
theorem step2 (a n : Nat) (o : List UInt8) : stepL (a, 2, o) n = (0, 0, o ++ [UInt8.ofNat (a * 64 + n)]) := by
  simp only [stepL, show (2 : Nat) ≤ 2 from by decide, if_true, show (2 : Nat) ^ (2 - 2) = 1 from rfl, Nat.mod_one, Nat.div_one]
theorem ofNat_toNat (n : Nat) (h : n < 256) : (UInt8.ofNat n).toNat = n := by rw [UInt8.toNat_ofNat']; exact Nat.mod_eq_of_lt h
theorem unlet : ∀ (x : List UInt8) (o : List UInt8), Good x → x.length % 4 ≠ 1 → (x.foldl (fun st c => stepL st (letN c).toNat) (0, 0, o)).1 = 0 →
    ∃ d, (x.foldl (fun st c => stepL st (letN c).toNat) (0, 0, o)).2.2 = o ++ d ∧ lettersOf d = x ++ List.replicate ((4 - x.length % 4) % 4) 61
  | [], o, _, _, _ => ⟨[], by simp, by simp [lettersOf]⟩
  | [_], _, _, h, _ => absurd rfl h
  | [x0, x1], o, hg, _, h0 => by
    obtain ⟨l0, n0, _⟩ := lett_letN x0 (hg x0 (by simp))
    obtain ⟨l1, n1, _⟩ := lett_letN x1 (hg x1 (by simp))
    simp only [List.foldl_cons, List.foldl_nil, step0, step6] at h0 ⊢
    refine ⟨_, rfl, ?_⟩
    have e0 := ofNat_toNat (((letN x0).toNat * 64 + (letN x1).toNat) / 16) (by omega)
    simp only [lettersOf, four, e0]
    rw [show ((letN x0).toNat * 64 + (letN x1).toNat) / 16 / 4 = (letN x0).toNat from by omega, show ((letN x0).toNat * 64 + (letN x1).toNat) / 16 % 4 * 16 = (letN x1).toNat from by omega, l0, l1]
    rfl
  | [x0, x1, x2], o, hg, _, h0 => by
    obtain ⟨l0, n0, _⟩ := lett_letN x0 (hg x0 (by simp))
    obtain ⟨l1, n1, _⟩ := lett_letN x1 (hg x1 (by simp))
    obtain ⟨l2, n2, _⟩ := lett_letN x2 (hg x2 (by simp))
    simp only [List.foldl_cons, List.foldl_nil, step0, step6, step4] at h0 ⊢
    generalize (letN x0).toNat = p0 at *
    generalize (letN x1).toNat = p1 at *
    generalize (letN x2).toNat = p2 at *
    refine ⟨[UInt8.ofNat ((p0 * 64 + p1) / 16), UInt8.ofNat (((p0 * 64 + p1) % 16 * 64 + p2) / 4)], by simp, ?_⟩
    have e0 := ofNat_toNat ((p0 * 64 + p1) / 16) (by omega)
    have e1 := ofNat_toNat (((p0 * 64 + p1) % 16 * 64 + p2) / 4) (by omega)
    simp only [lettersOf, four, e0, e1]
    rw [show (p0 * 64 + p1) / 16 / 4 = p0 from by omega, show (p0 * 64 + p1) / 16 % 4 * 16 + ((p0 * 64 + p1) % 16 * 64 + p2) / 4 / 16 = p1 from by omega, show ((p0 * 64 + p1) % 16 * 64 + p2) / 4 % 16 * 4 = p2 from by omega, l0, l1, l2]
    rfl
  | x0 :: x1 :: x2 :: x3 :: r, o, hg, h1, h0 => by
    obtain ⟨l0, n0, _⟩ := lett_letN x0 (hg x0 (by simp))
    obtain ⟨l1, n1, _⟩ := lett_letN x1 (hg x1 (by simp))
    obtain ⟨l2, n2, _⟩ := lett_letN x2 (hg x2 (by simp))
    obtain ⟨l3, n3, _⟩ := lett_letN x3 (hg x3 (by simp))
    simp only [List.foldl_cons, step0, step6, step4, step2] at h0 ⊢
    have hr : r.length % 4 ≠ 1 := by simp only [List.length_cons] at h1; omega
    obtain ⟨d, hd, hl⟩ := unlet r _ (fun x hx => hg x (by simp [hx])) hr h0
    generalize (letN x0).toNat = p0 at *
    generalize (letN x1).toNat = p1 at *
    generalize (letN x2).toNat = p2 at *
    generalize (letN x3).toNat = p3 at *
    refine ⟨UInt8.ofNat ((p0 * 64 + p1) / 16) :: UInt8.ofNat (((p0 * 64 + p1) % 16 * 64 + p2) / 4) :: UInt8.ofNat (((p0 * 64 + p1) % 16 * 64 + p2) % 4 * 64 + p3) :: d, by rw [hd]; simp, ?_⟩
    have e0 := ofNat_toNat ((p0 * 64 + p1) / 16) (by omega)
    have e1 := ofNat_toNat (((p0 * 64 + p1) % 16 * 64 + p2) / 4) (by omega)
    have e2 := ofNat_toNat (((p0 * 64 + p1) % 16 * 64 + p2) % 4 * 64 + p3) (by omega)
    simp only [lettersOf, four, e0, e1, e2]
    rw [hl, show (p0 * 64 + p1) / 16 / 4 = p0 from by omega, show (p0 * 64 + p1) / 16 % 4 * 16 + ((p0 * 64 + p1) % 16 * 64 + p2) / 4 / 16 = p1 from by omega, show ((p0 * 64 + p1) % 16 * 64 + p2) / 4 % 16 * 4 + (((p0 * 64 + p1) % 16 * 64 + p2) % 4 * 64 + p3) / 64 = p2 from by omega, show (((p0 * 64 + p1) % 16 * 64 + p2) % 4 * 64 + p3) % 64 = p3 from by omega, l0, l1, l2, l3]
    simp only [List.length_cons, List.cons_append, List.nil_append]
    rw [show (r.length + 1 + 1 + 1 + 1) % 4 = r.length % 4 from by omega]
theorem drop_eqs (r : List UInt8) : r.drop (r.length - eqs r) = List.replicate (eqs r) 61 := by
  unfold eqs
  split
  · rename_i h
    obtain ⟨p, hp⟩ := List.isSuffixOf_iff_suffix.1 h
    rw [← hp, List.length_append]
    simp
  · split
    · rename_i h
      obtain ⟨p, hp⟩ := List.isSuffixOf_iff_suffix.1 h
      rw [← hp, List.length_append]
      simp
    · simp
theorem readLet_ok (r t : List UInt8) (h : readLet r = (t, 0, -1)) : lettersOf t = r ∧ ∀ x ∈ r, x.toNat < 128 := by
  unfold readLet at h
  have he := eqs_le r
  have hel := eqs_len r
  split at h
  · simp at h
  · rename_i ho
    split at h
    · simp at h
    · rename_i hf
      have hg : Good (r.take (r.length - eqs r)) := List.findIdx?_eq_none_iff.1 hf
      split at h
      · simp at h
      · rename_i hz
        have ht : (runL (r.take (r.length - eqs r))).2.2 = t := congrArg Prod.fst h
        have hlen : (r.take (r.length - eqs r)).length = r.length - eqs r := by rw [List.length_take]; omega
        obtain ⟨d, hd, hl⟩ := unlet (r.take (r.length - eqs r)) [] hg (by rw [hlen]; omega) (by unfold runL at hz; omega)
        have hdt : d = t := by rw [← ht]; unfold runL; rw [hd]; rfl
        have hrep : (4 - (r.take (r.length - eqs r)).length % 4) % 4 = eqs r := by rw [hlen]; omega
        have hr : r = r.take (r.length - eqs r) ++ List.replicate (eqs r) 61 := by rw [← drop_eqs r]; exact (List.take_append_drop _ _).symm
        refine ⟨by rw [← hdt, hl, hrep]; exact hr.symm, fun x hx => ?_⟩
        rw [hr] at hx
        rcases List.mem_append.1 hx with h1 | h1
        · exact (lett_letN x (hg x h1)).2.2
        · rw [List.eq_of_mem_replicate h1]; decide
theorem readHex_err (r : List UInt8) (h : (readHex r).2.1 ≠ 0) : (readHex r).1 = [] := by
  unfold readHex at h ⊢
  split
  · rfl
  · rename_i ho
    rw [if_neg ho] at h
    split
    · rfl
    · rename_i hf; rw [hf] at h; exact absurd rfl h
theorem readLet_err (r : List UInt8) (h : (readLet r).2.1 ≠ 0) : (readLet r).1 = [] := by
  unfold readLet at h ⊢
  split
  · rfl
  · rename_i ho
    rw [if_neg ho] at h
    split
    · rfl
    · rename_i hf
      rw [hf] at h
      simp only at h
      split
      · rfl
      · rename_i hz; rw [if_neg hz] at h; exact absurd rfl h
end Go.Proofs.YtoheabcohfjknaaDoor
