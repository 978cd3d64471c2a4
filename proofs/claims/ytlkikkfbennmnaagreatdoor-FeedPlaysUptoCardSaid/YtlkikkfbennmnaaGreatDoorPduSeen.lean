/- PDUs: what is read is written so; bits that are turned close together are seen. No program stands in it. -/
import Derived.Test.YtlkikkfbennmnaaGreatDoorPduMath
import Derived.Test.YtlkikkfbennmnaaGreatDoorGA
namespace Go.Proofs.YtlkikkfbennmnaaGreatDoor
open Go.RowKit
theorem readP_is {s : List UInt8} {m : Int} (h : (readP s m).2.2 = 0) : okM m ∧ ∃ p n, readP s m = (p, n, 0) ∧ rightP p = 0 ∧ n ≤ s.length ∧ 48 ≤ n ∧ bytesP p m.toNat = s.take n ∧ n = ea s m.toNat := by
  unfold readP at h ⊢
  by_cases c1 : (sizeP s m).2 ≠ 0
  · rw [if_pos c1] at h; exact absurd h c1
  rw [if_neg c1] at h ⊢
  by_cases c2 : s.length < (sizeP s m).1
  · rw [if_pos c2] at h; exact absurd h (by decide)
  rw [if_neg c2] at h ⊢
  by_cases c3 : (readB (s.take (sizeP s m).1) m.toNat).2 ≠ 0
  · rw [if_pos c3] at h; exact absurd h c3
  rw [if_neg c3]
  clear h
  have hm : okM m := by
    by_cases hm : okM m
    · exact hm
    · unfold sizeP at c1; rw [if_pos hm] at c1; exact absurd (by decide : (1 : Int) ≠ 0) c1
  have h48 : ¬ s.length < 48 := fun h => by
    unfold sizeP at c1
    rw [if_neg (by simp [hm]), if_pos h] at c1
    exact absurd (by decide : (7 : Int) ≠ 0) c1
  have hsz : sizeP s m = (ea s m.toNat, 0) := by unfold sizeP; rw [if_neg (by simp [hm]), if_neg h48]
  rw [hsz] at c2 c3 ⊢
  simp only at c2 c3 ⊢
  have L := ends_le s m.toNat
  have hlen : (s.take (ea s m.toNat)).length = ea (s.take (ea s m.toNat)) m.toNat := by
    rw [List.length_take, (ea_same (readW_take (a := s) (k := ea s m.toNat) (by omega)) (readD_take (by omega)) m.toNat).1]
    omega
  obtain ⟨p, hp, hr, hb⟩ := readB_is hlen (by simpa using c3)
  exact ⟨hm, p, _, by rw [hp], hr, by omega, by omega, hb, rfl⟩
theorem readP_err {s : List UInt8} {m : Int} (h : (readP s m).2.2 ≠ 0) : readP s m = (pd0, 0, (readP s m).2.2) := by
  unfold readP at h ⊢
  by_cases c1 : (sizeP s m).2 ≠ 0
  · rw [if_pos c1]
  rw [if_neg c1] at h ⊢
  by_cases c2 : s.length < (sizeP s m).1
  · rw [if_pos c2]
  rw [if_neg c2] at h ⊢
  by_cases c3 : (readB (s.take (sizeP s m).1) m.toNat).2 ≠ 0
  · rw [if_pos c3]
  · rw [if_neg c3] at h; exact absurd rfl h
/-! turned bits of two texts, one behind the other -/
theorem turnAt_left (a b : List UInt8) (i : Nat) (h : i / 8 < a.length) : turnAt (a ++ b) i = turnAt a i ++ b := by
  have e : (a ++ b).getD (i / 8) 0 = a.getD (i / 8) 0 := by rw [List.getD_eq_getElem?_getD, List.getD_eq_getElem?_getD, List.getElem?_append_left h]
  unfold turnAt
  rw [List.set_append_left _ _ h, e]
theorem turnAt_right (a b : List UInt8) (i : Nat) (h : a.length ≤ i / 8) : turnAt (a ++ b) i = a ++ turnAt b (i - 8 * a.length) := by
  have e : (a ++ b).getD (i / 8) 0 = b.getD (i / 8 - a.length) 0 := by rw [List.getD_eq_getElem?_getD, List.getD_eq_getElem?_getD, List.getElem?_append_right h]
  unfold turnAt
  rw [List.set_append_right _ _ h, e, show (i - 8 * a.length) / 8 = i / 8 - a.length by omega, show (i - 8 * a.length) % 8 = i % 8 by omega]
theorem tn_succ (l : List UInt8) (first v k : Nat) : tn l first v (k + 1) = if v / 2 ^ k % 2 = 1 ∧ (first + k) / 8 < l.length then turnAt (tn l first v k) (first + k) else tn l first v k := rfl
theorem tn_none (l : List UInt8) (first v : Nat) (h : 8 * l.length ≤ first) : ∀ k, tn l first v k = l
  | 0 => rfl
  | k + 1 => by
    rw [tn_succ, if_neg (by rintro ⟨_, h2⟩; omega)]
    exact tn_none l first v h k
theorem tn_more (l : List UInt8) (first v j : Nat) (hv : v < 2 ^ j) : ∀ d, tn l first v (j + d) = tn l first v j
  | 0 => rfl
  | d + 1 => by
    have h0 : v / 2 ^ (j + d) = 0 := Nat.div_eq_of_lt (Nat.lt_of_lt_of_le hv (Nat.pow_le_pow_right (by decide) (by omega)))
    rw [← Nat.add_assoc, tn_succ, if_neg (by rw [h0]; rintro ⟨h, _⟩; exact absurd h (by decide))]
    exact tn_more l first v j hv d
theorem tn_app (a b : List UInt8) (first v : Nat) : ∀ k, tn (a ++ b) first v k = tn a first v k ++ tn b (first - 8 * a.length) (v / 2 ^ (8 * a.length - first)) (k - (8 * a.length - first))
  | 0 => by simp [tn]
  | k + 1 => by
    have ih := tn_app a b first v k
    have hla := tn_len a first v k
    by_cases hin : (first + k) / 8 < a.length
    · rw [show k + 1 - (8 * a.length - first) = 0 by omega]
      rw [show k - (8 * a.length - first) = 0 by omega] at ih
      rw [tn_succ, tn_succ]
      by_cases hb : v / 2 ^ k % 2 = 1
      · rw [if_pos ⟨hb, by rw [List.length_append]; omega⟩, if_pos ⟨hb, hin⟩, ih, turnAt_left _ _ _ (by rw [hla]; exact hin)]
      · rw [if_neg (fun h => hb h.1), if_neg (fun h => hb h.1), ih]
    · have hs : k + 1 - (8 * a.length - first) = (k - (8 * a.length - first)) + 1 := by omega
      have hdiv : v / 2 ^ (8 * a.length - first) / 2 ^ (k - (8 * a.length - first)) = v / 2 ^ k := by
        rw [Nat.div_div_eq_div_mul, ← Nat.pow_add, show 8 * a.length - first + (k - (8 * a.length - first)) = k by omega]
      have ha1 : tn a first v (k + 1) = tn a first v k := by rw [tn_succ, if_neg (by rintro ⟨_, h⟩; exact hin h)]
      have hfk : first - 8 * a.length + (k - (8 * a.length - first)) = first + k - 8 * a.length := by omega
      rw [hs, ha1, tn_succ, tn_succ, hdiv, hfk]
      by_cases hb : v / 2 ^ k % 2 = 1 ∧ (first + k) / 8 < (a ++ b).length
      · rw [if_pos hb, if_pos ⟨hb.1, by have := hb.2; rw [List.length_append] at this; omega⟩, ih, turnAt_right _ _ _ (by rw [hla]; omega), hla]
      · rw [if_neg hb, if_neg (by rintro ⟨h1, h2⟩; exact hb ⟨h1, by rw [List.length_append]; omega⟩), ih]
theorem tn_two (a b : List UInt8) (first v : Nat) (hv : v < 2 ^ 32) : ∃ f v', tn (a ++ b) first v 32 = tn a first v 32 ++ tn b f v' 32 ∧ (first < 8 * (a ++ b).length → b ≠ [] → f < 8 * b.length) := by
  refine ⟨first - 8 * a.length, v / 2 ^ (8 * a.length - first), ?_, ?_⟩
  · rw [tn_app]
    congr 1
    by_cases he : 8 * a.length - first ≤ 32
    · have hv' : v / 2 ^ (8 * a.length - first) < 2 ^ (32 - (8 * a.length - first)) := by
        rw [Nat.div_lt_iff_lt_mul (Nat.pow_pos (by decide)), ← Nat.pow_add]
        rw [show 32 - (8 * a.length - first) + (8 * a.length - first) = 32 by omega]
        exact hv
      have := tn_more b (first - 8 * a.length) _ _ hv' (8 * a.length - first)
      rw [show 32 - (8 * a.length - first) + (8 * a.length - first) = 32 by omega] at this
      exact this.symm
    · have h0 : v / 2 ^ (8 * a.length - first) = 0 := Nat.div_eq_of_lt (Nat.lt_of_lt_of_le hv (Nat.pow_le_pow_right (by decide) (by omega)))
      rw [h0, show 32 - (8 * a.length - first) = 0 by omega]
      have := tn_more b (first - 8 * a.length) 0 0 (by decide) 32
      rw [Nat.zero_add] at this
      exact this.symm
  · intro h hb
    rw [List.length_append] at h
    have : 0 < b.length := List.length_pos_iff.2 hb
    omega
/-- a part with its digest, in which bits are turned: if it fits still, it is as it was -/
theorem part_seen (x : List UInt8) (first v : Nat) (h : digest ((tn (x ++ digest x) first v 32).take x.length) = (tn (x ++ digest x) first v 32).drop x.length) : tn (x ++ digest x) first v 32 = x ++ digest x := by
  by_cases hf : first < 8 * (x ++ digest x).length
  · have hs := burst_seen x first v hf
    rw [beq_iff_eq.2 h] at hs
    exact beq_iff_eq.1 hs.symm
  · exact tn_none _ _ _ (by omega) 32
theorem bytes3 (p : Pd) (h : (hdrs p).length ≠ 0) : bytesP p 3 = (hdrs p ++ digest (hdrs p)) ++ (padded p.d ++ dig 3 2 (padded p.d)) := by
  have : dig 3 1 (hdrs p) = digest (hdrs p) := by unfold dig onM; rw [if_pos ⟨by decide, h⟩]
  unfold bytesP
  rw [this]
  simp only [List.append_assoc]
theorem turned_seen {p : Pd} (hp : rightP p = 0) {first v : Nat} (hv : v < 2 ^ 32) (hc : cutB (tn (bytesP p 3) first v 32) 4 4 = cutB (bytesP p 3) 4 4)
    (h : (readP (tn (bytesP p 3) first v 32) 3).2.2 = 0) : tn (bytesP p 3) first v 32 = bytesP p 3 := by
  have hR := rightP_is hp
  have hl := hdrs_len hR
  have h3 := bytes3 p (by omega)
  have E := endsP0 hR 3
  obtain ⟨_, q, n, hq, hr, hn, h48, hb, hne⟩ := readP_is h
  obtain ⟨t, ht⟩ : ∃ t, tn (bytesP p 3) first v 32 = t := ⟨_, rfl⟩
  have htl : t.length = (bytesP p 3).length := by rw [← ht, tn_len]
  rw [ht] at hc hq hn hb hne
  have hW : readW t = readW (bytesP p 3) := by
    unfold readW
    have e : ∀ l : List UInt8, cutB l 4 1 = (cutB l 4 4).take 1 := fun l => by unfold cutB; rw [List.take_take]; rfl
    rw [e, e, hc]
  have hD : readD t = readD (bytesP p 3) := by
    unfold readD
    have e : ∀ l : List UInt8, cutB l 5 3 = (cutB l 4 4).drop 1 := fun l => by unfold cutB; rw [List.drop_take, List.drop_drop]
    rw [e, e, hc]
  obtain ⟨ea1, ed1, eg1, eh1⟩ := ea_same hW hD 3
  have hna : n = t.length := by
    rw [hne, htl, show (3 : Int).toNat = 3 from rfl, ea1, E.a]
  rw [hna, List.take_length, show (3 : Int).toNat = 3 from rfl] at hb
  -- both are written so: the parts of the same lengths
  have hQ := rightP_is hr
  have EQ := endsP0 hQ 3
  have hlq := hdrs_len hQ
  have hq3 := bytes3 q (by omega)
  rw [hb] at hq3 EQ
  have hhl : (hdrs q).length = (hdrs p).length := by rw [← EQ.h, ← E.h, eh1]
  have hdl : q.d.length = p.d.length := by rw [← EQ.d, ← E.d, hD]
  have hpl : (padded q.d).length = (padded p.d).length := by rw [padded_length, padded_length, hdl]
  obtain ⟨f, v', htwo, hfb⟩ := tn_two (hdrs p ++ digest (hdrs p)) (padded p.d ++ dig 3 2 (padded p.d)) first v hv
  rw [← h3, ht, hq3] at htwo
  have hdg : ∀ l, (digest l).length = 4 := fun l => le_len _ _
  obtain ⟨hA, hB⟩ := List.append_inj htwo (by rw [tn_len, List.length_append, List.length_append, hdg, hdg, hhl])
  have hA' : tn (hdrs p ++ digest (hdrs p)) first v 32 = hdrs p ++ digest (hdrs p) := by
    refine part_seen _ _ _ ?_
    rw [← hA, ← hhl, List.take_left, List.drop_left]
  have hB' : tn (padded p.d ++ dig 3 2 (padded p.d)) f v' 32 = padded p.d ++ dig 3 2 (padded p.d) := by
    by_cases h0 : (padded p.d).length = 0
    · have : dig 3 2 (padded p.d) = [] := by unfold dig; rw [if_neg (by rintro ⟨_, h⟩; exact h h0)]
      rw [this, List.append_nil]
      exact List.length_eq_zero_iff.1 h0 ▸ List.length_eq_zero_iff.1 (by rw [tn_len, List.length_nil])
    · have e : ∀ l : List UInt8, l.length = (padded p.d).length → dig 3 2 l = digest l := fun l hl => by unfold dig onM; rw [if_pos ⟨by decide, by omega⟩]
      rw [e _ rfl] at hB ⊢
      refine part_seen _ _ _ ?_
      rw [← hB, ← hpl, List.take_left, List.drop_left, e _ hpl]
  rw [ht, hq3, h3, ← hA', ← hB', hA, hB]
/-! how many bytes there are -/
theorem bytesP_len {p : Pd} (h : RightP p) (m : Nat) : (bytesP p m).length = 48 + (wrL p.a).length + (p.d.length + pad p.d.length) + (if m % 2 = 1 then 4 else 0) + (if m / 2 % 2 = 1 ∧ p.d.length ≠ 0 then 4 else 0) := by
  have hl := hdrs_len h
  have hd : (dig m 1 (hdrs p)).length = if m % 2 = 1 then 4 else 0 := by
    rw [dig_len]
    unfold room onM
    by_cases hm : m % 2 = 1
    · rw [if_pos ⟨by simp [hm], by omega⟩, if_pos hm]
    · rw [if_neg (by rintro ⟨h1, _⟩; simp at h1; omega), if_neg hm]
  have he : (dig m 2 (padded p.d)).length = if m / 2 % 2 = 1 ∧ p.d.length ≠ 0 then 4 else 0 := by
    rw [dig_len, padded_length, room_pad]
    unfold room onM
    simp only [decide_eq_true_eq]
  unfold bytesP
  simp only [List.length_append]
  rw [hl, hd, he, padded_length]
  omega
theorem bytesP_4 {p : Pd} (h : RightP p) (m : Nat) : (bytesP p m).length % 4 = 0 := by
  rw [bytesP_len h]
  have := wrL_4 p.a
  have : (p.d.length + pad p.d.length) % 4 = 0 := by unfold pad; omega
  split <;> split <;> omega
theorem bytesP_ge {p : Pd} (h : RightP p) (m : Nat) : 48 ≤ (bytesP p m).length ∧ (bytesP p m).length ≤ 1079 + p.d.length := by
  rw [bytesP_len h]
  have := h.a
  have := pad_le p.d.length
  split <;> split <;> omega
end Go.Proofs.YtlkikkfbennmnaaGreatDoor
