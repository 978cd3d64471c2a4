/- A feed: what was written comes, whatever it is cut into; what is spoilt. No program stands in it. -/
import Derived.Test.YtlkikkfbennmnaaGreatDoorFeedMath
namespace Go.Proofs.YtlkikkfbennmnaaGreatDoor
open Go.RowKit
def flatP (l : List Pd) (m : Nat) : List UInt8 := (l.map fun p => bytesP p m).flatten
theorem flatP_nil (m : Nat) : flatP [] m = [] := rfl
theorem flatP_cons (p : Pd) (l : List Pd) (m : Nat) : flatP (p :: l) m = bytesP p m ++ flatP l m := rfl
theorem flatP_app (a b : List Pd) (m : Nat) : flatP (a ++ b) m = flatP a m ++ flatP b m := by simp [flatP]
def pcOf (p : Pd) : Pc := ⟨p, []⟩
theorem okM_nat {m : Nat} (h : m ≤ 3) : okM (m : Int) := ⟨by omega, by omega⟩
theorem piece_bytes {p : Pd} (hp : rightP p = 0) {m : Nat} (hm : m ≤ 3) : pieceF (bytesP p m) m = (pcOf p, 0) := by
  have h := readP_bytes hp (okM_nat hm) []
  rw [Int.toNat_natCast, List.append_nil] at h
  unfold pieceF
  rw [h]
  rfl
theorem next_bytes {F : Fe} (hF : FeOk F) {p : Pd} (hp : rightP p = 0) (hl : p.d.length ≤ F.lim) {t : List UInt8} (hk : F.kept = bytesP p F.mode ++ t) : nextF F = ((pcOf p, true, 0), { F with kept := t }) := by
  have R := rightP_is hp
  have E := endsP R F.mode t
  have L := ends_le F.kept F.mode
  have hg := bytesP_ge R F.mode
  rw [← hk] at E
  have hlen : F.kept.length = (bytesP p F.mode).length + t.length := by rw [hk, List.length_append]
  have h1 : ¬ F.kept.length < 48 := by omega
  have h2 : ¬ F.lim < readD F.kept := by rw [E.d]; omega
  have h3 : ¬ F.kept.length < ea F.kept F.mode := by rw [E.a]; omega
  have ht : F.kept.take (bytesP p F.mode).length = bytesP p F.mode := by rw [hk, List.take_left]
  have hd : F.kept.drop (bytesP p F.mode).length = t := by rw [hk, List.drop_left]
  rw [next_whole h1 h2 h3, E.a, ht, hd, piece_bytes hp hF.mode, if_neg (by simp)]
theorem next_part {F : Fe} {p : Pd} (hp : rightP p = 0) (hl : p.d.length ≤ F.lim) {r t : List UInt8} (hk : F.kept ++ r = bytesP p F.mode ++ t) (hlt : F.kept.length < (bytesP p F.mode).length) : nextF F = ((pc0, false, 0), F) := by
  by_cases h1 : F.kept.length < 48
  · exact next_short h1
  have R := rightP_is hp
  have E := endsP R F.mode t
  rw [← hk] at E
  have L := ends_le F.kept F.mode
  have hw := readW_left (a := F.kept) (b := r) (by omega)
  have hd := readD_left (a := F.kept) (b := r) (by omega)
  have he := (ea_same hw hd F.mode).1
  have h2 : ¬ F.lim < readD F.kept := by rw [← hd, E.d]; omega
  have h3 : F.kept.length < ea F.kept F.mode := by rw [← he, E.a]; omega
  exact next_few h1 h2 h3
theorem all_flat : ∀ (l : List Pd) (F : Fe) (rest : List UInt8), FeOk F → (∀ p ∈ l, rightP p = 0 ∧ p.d.length ≤ F.lim) → F.kept ++ rest = flatP l F.mode →
    ∃ l3 l4 k, l = l3 ++ l4 ∧ allF F = (l3.map pcOf, 0, { F with kept := k }) ∧ k ++ rest = flatP l4 F.mode ∧ (rest = [] → l4 = [])
  | [], F, rest, hF, _, hk => by
    have h0 : F.kept = [] := (List.append_eq_nil_iff.1 hk).1
    have e := next_short (F := F) (by rw [h0]; decide)
    refine ⟨[], [], F.kept, rfl, ?_, hk, fun _ => rfl⟩
    rw [all_end (by rw [e])]
    rw [e]
    rfl
  | p :: l, F, rest, hF, hr, hk => by
    obtain ⟨hp, hl⟩ := hr p (List.mem_cons_self ..)
    rw [flatP_cons] at hk
    by_cases hlt : F.kept.length < (bytesP p F.mode).length
    · have e := next_part hp hl hk hlt
      refine ⟨[], p :: l, F.kept, rfl, ?_, hk, fun h => ?_⟩
      · rw [all_end (by rw [e])]
        rw [e]
        rfl
      · subst h
        have := congrArg List.length hk
        rw [List.length_append, List.length_append, List.length_nil] at this
        omega
    · obtain ⟨t, ht⟩ : ∃ t, F.kept = bytesP p F.mode ++ t := by
        refine ⟨F.kept.drop (bytesP p F.mode).length, ?_⟩
        have := congrArg (List.take (bytesP p F.mode).length) hk
        rw [List.take_left, List.take_append_of_le_length (by omega)] at this
        rw [← this, List.length_take, Nat.min_eq_left (by omega), List.take_append_drop]
      have e := next_bytes hF hp hl ht
      have hk2 : t ++ rest = flatP l F.mode := by
        rw [ht, List.append_assoc] at hk
        exact List.append_cancel_left hk
      obtain ⟨l3, l4, k, h1, h2, h3, h4⟩ := all_flat l { F with kept := t } rest ⟨hF.lim, hF.mode⟩ (fun q hq => hr q (List.mem_cons_of_mem _ hq)) hk2
      refine ⟨p :: l3, l4, k, by rw [h1]; rfl, ?_, h3, h4⟩
      rw [all_more (by rw [e])]
      rw [e]
      simp only [h2, List.map_cons]
/-! what is spoilt -/
theorem xor_step : ∀ (b : Fin 256) (k : Fin 8), (if b.val / 2 ^ k.val % 2 = 1 then UInt8.ofNat (b.val % 2 ^ k.val) ^^^ UInt8.ofNat (2 ^ k.val) else UInt8.ofNat (b.val % 2 ^ k.val)) = UInt8.ofNat (b.val % 2 ^ (k.val + 1)) := by decide +kernel
theorem tn_byte (l : List UInt8) (i : Nat) (b : UInt8) (hi : i < l.length) : ∀ k, k ≤ 8 → tn l (8 * i) b.toNat k = l.set i (l[i] ^^^ UInt8.ofNat (b.toNat % 2 ^ k))
  | 0, _ => by
    have : UInt8.ofNat (b.toNat % 2 ^ 0) = 0 := by rw [Nat.pow_zero, Nat.mod_one]; rfl
    rw [this, UInt8.xor_zero, List.set_getElem_self]
    rfl
  | k + 1, hk => by
    have ih := tn_byte l i b hi k (by omega)
    have hs := xor_step ⟨b.toNat, b.toNat_lt⟩ ⟨k, by omega⟩
    simp only at hs
    have d : (8 * i + k) / 8 = i := by omega
    have m : (8 * i + k) % 8 = k := by omega
    rw [tn_succ, ih, d]
    by_cases h1 : b.toNat / 2 ^ k % 2 = 1
    · rw [if_pos h1] at hs
      rw [if_pos ⟨h1, hi⟩]
      unfold turnAt
      rw [d, m, List.set_set, List.getD_eq_getElem?_getD, List.getElem?_set_self hi, Option.getD_some, UInt8.xor_assoc, hs]
    · rw [if_neg h1] at hs
      rw [if_neg (by rintro ⟨h, _⟩; exact h1 h), hs]
theorem tn_one (l : List UInt8) (i : Nat) (b : UInt8) (hi : i < l.length) : tn l (8 * i) b.toNat 32 = l.set i (l[i] ^^^ b) := by
  have h := tn_byte l i b hi 8 (Nat.le_refl _)
  have hb := b.toNat_lt
  rw [Nat.mod_eq_of_lt (by omega), UInt8.ofNat_toNat] at h
  rw [← h]
  exact tn_more l (8 * i) b.toNat 8 (by omega) 24
theorem digest_other (y : List UInt8) (i : Nat) (b : UInt8) (hi : i < y.length) (hb : b ≠ 0) : digest (y.set i (y[i] ^^^ b)) ≠ digest y := fun h => by
  have h1 : tn (y ++ digest y) (8 * i) b.toNat 32 = y.set i (y[i] ^^^ b) ++ digest y := by
    rw [tn_one _ i b (by rw [List.length_append]; omega), List.set_append_left _ _ hi, List.getElem_append_left hi]
  have h2 := part_seen y (8 * i) b.toNat (by
    have hl : (y.set i (y[i] ^^^ b)).length = y.length := List.length_set
    rw [h1, ← hl, List.take_left, List.drop_left, h])
  rw [h1] at h2
  have h3 := List.append_cancel_right h2
  have h4 : (y.set i (y[i] ^^^ b))[i]? = y[i]? := by rw [h3]
  rw [List.getElem?_set_self hi, List.getElem?_eq_getElem hi] at h4
  have h5 : y[i] ^^^ b = y[i] := Option.some.inj h4
  have h6 : y[i] ^^^ (y[i] ^^^ b) = y[i] ^^^ y[i] := by rw [h5]
  rw [← UInt8.xor_assoc, UInt8.xor_self, UInt8.zero_xor] at h6
  exact hb h6
/-- a PDU's bytes with other data than its digest's -/
def spoiltP (p : Pd) (d : List UInt8) : List UInt8 := hdrs p ++ padded d ++ digest (padded p.d)
theorem bytes2 {p : Pd} (h : p.d ≠ []) : bytesP p 2 = spoiltP p p.d := by
  have h0 : p.d.length ≠ 0 := fun e => h (List.length_eq_zero_iff.1 e)
  have e1 : dig 2 1 (hdrs p) = [] := by unfold dig onM; rw [if_neg (by rintro ⟨h, _⟩; simp at h)]
  have e2 : dig 2 2 (padded p.d) = digest (padded p.d) := by unfold dig onM; rw [if_pos ⟨by decide, by rw [padded_length]; omega⟩]
  unfold bytesP spoiltP
  rw [e1, e2, List.append_nil]
theorem read_spoilt {p : Pd} (hp : rightP p = 0) {d : List UInt8} (hl : d.length = p.d.length) (hne : p.d ≠ []) (hd : digest (padded d) ≠ digest (padded p.d)) :
    ea (spoiltP p d) 2 = (spoiltP p d).length ∧ readD (spoiltP p d) = p.d.length ∧ (spoiltP p d).take 48 = (bytesP p 2).take 48 ∧ 48 ≤ (spoiltP p d).length ∧ pieceF (spoiltP p d) 2 = (⟨pd0, (bytesP p 2).take 48⟩, 0) := by
  have h := rightP_is hp
  have B := bytesP_is h
  have hl0 : p.d.length ≠ 0 := fun e => hne (List.length_eq_zero_iff.1 e)
  have hh := hdrs_len h
  have E := endsP0 h 2
  rw [bytes2 hne] at E ⊢
  have e0 : (dig 2 1 (hdrs p)).length = 0 := by unfold dig onM; rw [if_neg (by rintro ⟨h, _⟩; simp at h)]; rfl
  have hW : readW (spoiltP p d) = readW (spoiltP p p.d) := by
    unfold spoiltP
    rw [List.append_assoc, List.append_assoc, readW_left (by omega), readW_left (by omega)]
  have hD : readD (spoiltP p d) = readD (spoiltP p p.d) := by
    unfold spoiltP
    rw [List.append_assoc, List.append_assoc, readD_left (by omega), readD_left (by omega)]
  obtain ⟨q1, q2, q3, q4⟩ := ea_same hW hD 2
  have hlen : (spoiltP p d).length = (spoiltP p p.d).length := by unfold spoiltP; simp only [List.length_append, padded_length, hl]
  have e3 : ∀ x, (spoiltP p x).take 48 = headB p.h ((wrL p.a).length / 4) p.d.length := fun x => by
    unfold spoiltP hdrs
    simp only [List.append_assoc]
    rw [← B.hb]
    exact List.take_left
  have e1 : (spoiltP p d).take (eh (spoiltP p d)) = hdrs p := by rw [q4, E.h]; unfold spoiltP; rw [List.append_assoc]; exact List.take_left
  have e2 : cutB (spoiltP p d) (eh (spoiltP p d)) (eg (spoiltP p d) 2 - eh (spoiltP p d)) = [] := by
    rw [q4, q3, E.h, E.g, e0]
    unfold cutB
    rw [Nat.add_zero, Nat.sub_self, List.take_zero]
  have e4 : cutB (spoiltP p d) 48 (eh (spoiltP p d) - 48) = wrL p.a := by
    rw [q4, E.h, hh, Nat.add_sub_cancel_left]
    unfold spoiltP hdrs
    rw [List.append_assoc]
    rw [← B.hb, cutB_mid]
  have e5 : cutB (spoiltP p d) (eg (spoiltP p d) 2) (ed (spoiltP p d) 2 - eg (spoiltP p d) 2) = padded d := by
    rw [q3, q2, E.e, E.g, e0, Nat.add_zero, Nat.add_sub_cancel_left, padded_length, ← hl, ← padded_length]
    unfold spoiltP
    rw [cutB_mid]
  have e6 : (spoiltP p d).drop (ed (spoiltP p d) 2) = digest (padded p.d) := by
    rw [q2, E.e, e0, Nat.add_zero, padded_length, ← hl, ← padded_length, ← List.length_append]
    unfold spoiltP
    exact List.drop_left
  have e7 : dig 2 1 (hdrs p) = [] := List.length_eq_zero_iff.1 e0
  have e8 : dig 2 2 (padded d) = digest (padded d) := by unfold dig onM; rw [if_pos ⟨by decide, by rw [padded_length]; omega⟩]
  have hrD : readD (spoiltP p d) = p.d.length := by rw [hD, E.d]
  have hRB : readB (spoiltP p d) 2 = (pd0, 13) := by
    unfold readB
    rw [e1, e2, e3, e4, e5, e6, e7, e8, B.r, readA_write h.k h.a, hrD]
    rw [if_neg (by simp), if_neg (by simp), if_neg (by simp), if_neg (by rw [← hl, unpE_padded]; simp), if_pos hd]
  have hea : ea (spoiltP p d) 2 = (spoiltP p d).length := by rw [q1, E.a, hlen, bytes2 hne]
  have h48 : 48 ≤ (spoiltP p d).length := by
    have := ends_le (spoiltP p d) 2
    omega
  have hRP : readP (spoiltP p d) 2 = (pd0, 0, 13) := by
    have hs : sizeP (spoiltP p d) 2 = ((spoiltP p d).length, 0) := by
      unfold sizeP
      rw [if_neg (by decide), if_neg (by omega), ← hea]
      rfl
    unfold readP
    rw [hs]
    simp only
    rw [if_neg (by decide), if_neg (by omega), List.take_length, show (2 : Int).toNat = 2 from rfl, hRB, if_pos (by decide)]
  refine ⟨hea, hrD, by rw [e3, e3], h48, ?_⟩
  unfold pieceF
  rw [show ((2 : Nat) : Int) = 2 from rfl, hRP, if_pos rfl, e3, e3]
theorem next_spoilt {F : Fe} {p : Pd} (hp : rightP p = 0) {d : List UInt8} (hl : d.length = p.d.length) (hne : p.d ≠ []) (hd : digest (padded d) ≠ digest (padded p.d)) (hm : F.mode = 2) (hlim : p.d.length ≤ F.lim) {t : List UInt8} (hk : F.kept = spoiltP p d ++ t) :
    nextF F = ((⟨pd0, (bytesP p 2).take 48⟩, true, 0), { F with kept := t }) := by
  obtain ⟨a1, a2, a3, a4, a5⟩ := read_spoilt hp hl hne hd
  have hw := readW_left (a := spoiltP p d) (b := t) (by omega)
  have hdd := readD_left (a := spoiltP p d) (b := t) (by omega)
  have he := (ea_same hw hdd 2).1
  rw [← hk] at hdd he
  have hlen : F.kept.length = (spoiltP p d).length + t.length := by rw [hk, List.length_append]
  have h1 : ¬ F.kept.length < 48 := by omega
  have h2 : ¬ F.lim < readD F.kept := by rw [hdd, a2]; omega
  have h3 : ¬ F.kept.length < ea F.kept F.mode := by rw [hm, he, a1]; omega
  have ht : F.kept.take (ea F.kept F.mode) = spoiltP p d := by rw [hm, he, a1, hk, List.take_left]
  have hdr : F.kept.drop (spoiltP p d).length = t := by rw [hk, List.drop_left]
  have hE : ea F.kept F.mode = (spoiltP p d).length := by rw [hm, he, a1]
  rw [next_whole h1 h2 h3, ht, hm, a5, if_neg (by simp), ← hm, hE, hdr]
end Go.Proofs.YtlkikkfbennmnaaGreatDoor
