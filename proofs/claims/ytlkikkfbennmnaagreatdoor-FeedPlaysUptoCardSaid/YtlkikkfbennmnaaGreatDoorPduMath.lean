/- PDUs as bytes: how they are written, what is wrong with them, what bytes are. No program stands in it. -/
import Derived.Test.YtlkikkfbennmnaaGreatDoorGA
namespace Go.Proofs.YtlkikkfbennmnaaGreatDoor
open Go.RowKit
/-- a PDU: its head, its additional headers, its data -/
structure Pd where
  h : Hd
  a : List Ah
  d : List UInt8
def pd0 : Pd := ⟨hd0, [], []⟩
/-- the mode has this digest -/
def onM (m w : Nat) : Bool := decide (m / w % 2 = 1)
def okM (m : Int) : Prop := 0 ≤ m ∧ m ≤ 3
instance (m : Int) : Decidable (okM m) := by unfold okM; infer_instance
def room (m w n : Nat) : Nat := if onM m w = true ∧ n ≠ 0 then 4 else 0
def dig (m w : Nat) (s : List UInt8) : List UInt8 := if onM m w = true ∧ s.length ≠ 0 then digest s else []
theorem dig_len (m w : Nat) (s : List UInt8) : (dig m w s).length = room m w s.length := by
  unfold dig room
  split
  · exact le_len _ _
  · rfl
theorem room_le (m w n : Nat) : room m w n ≤ 4 := by unfold room; split <;> omega
theorem dig_le (m w : Nat) (s : List UInt8) : (dig m w s).length ≤ 4 := by rw [dig_len]; exact room_le _ _ _
def hdrs (p : Pd) : List UInt8 := headB p.h ((wrL p.a).length / 4) p.d.length ++ wrL p.a
def bytesP (p : Pd) (m : Nat) : List UInt8 := hdrs p ++ dig m 1 (hdrs p) ++ padded p.d ++ dig m 2 (padded p.d)
def rightP (p : Pd) : Int := if (rightR p.h).1 ≠ 0 then (rightR p.h).1 else if (rightA p.a).1 ≠ 0 then (rightA p.a).1 else if 100000 < p.d.length then 4 else 0
def writeP (p : Pd) (m : Int) : List UInt8 × Int := if ¬ okM m then ([], 1) else if rightP p ≠ 0 then ([], rightP p) else (bytesP p m.toNat, 0)
/-! where the parts end -/
def eh (s : List UInt8) : Nat := 48 + 4 * readW s
def eg (s : List UInt8) (m : Nat) : Nat := eh s + room m 1 (eh s)
def ed (s : List UInt8) (m : Nat) : Nat := eg s m + readD s + pad (readD s)
def ea (s : List UInt8) (m : Nat) : Nat := ed s m + room m 2 (readD s)
def sizeP (s : List UInt8) (m : Int) : Nat × Int := if ¬ okM m then (0, 1) else if s.length < 48 then (0, 7) else (ea s m.toNat, 0)
/-- what as many bytes are -/
def readB (s : List UInt8) (m : Nat) : Pd × Int :=
  if dig m 1 (s.take (eh s)) ≠ cutB s (eh s) (eg s m - eh s) then (pd0, 15)
  else if (readR (s.take 48)).2.2.2 ≠ 0 then (pd0, (readR (s.take 48)).2.2.2)
  else if (readA (cutB s 48 (eh s - 48))).2.1 ≠ 0 then (pd0, (readA (cutB s 48 (eh s - 48))).2.1)
  else if unpE (cutB s (eg s m) (ed s m - eg s m)) (readD s : Nat) ≠ 0 then (pd0, 3)
  else if dig m 2 (cutB s (eg s m) (ed s m - eg s m)) ≠ s.drop (ed s m) then (pd0, 13)
  else if 100000 < readD s then (pd0, 4)
  else (⟨(readR (s.take 48)).1, (readA (cutB s 48 (eh s - 48))).1, (cutB s (eg s m) (ed s m - eg s m)).take (readD s)⟩, 0)
def readP (s : List UInt8) (m : Int) : Pd × Nat × Int :=
  if (sizeP s m).2 ≠ 0 then (pd0, 0, (sizeP s m).2)
  else if s.length < (sizeP s m).1 then (pd0, 0, 7)
  else if (readB (s.take (sizeP s m).1) m.toNat).2 ≠ 0 then (pd0, 0, (readB (s.take (sizeP s m).1) m.toNat).2)
  else ((readB (s.take (sizeP s m).1) m.toNat).1, (sizeP s m).1, 0)
theorem cutB_left {a b : List UInt8} {o n : Nat} (h : o + n ≤ a.length) : cutB (a ++ b) o n = cutB a o n :=
  cutB_same fun i _ h2 => List.getElem?_append_left (by omega)
theorem cutB_take {a : List UInt8} {o n k : Nat} (h : o + n ≤ k) : cutB (a.take k) o n = cutB a o n :=
  cutB_same fun i _ h2 => by rw [List.getElem?_take]; rw [if_pos (by omega)]
theorem readW_left {a b : List UInt8} (h : 8 ≤ a.length) : readW (a ++ b) = readW a := by unfold readW; rw [cutB_left (by omega)]
theorem readD_left {a b : List UInt8} (h : 8 ≤ a.length) : readD (a ++ b) = readD a := by unfold readD; rw [cutB_left (by omega)]
theorem readW_take {a : List UInt8} {k : Nat} (h : 8 ≤ k) : readW (a.take k) = readW a := by unfold readW; rw [cutB_take (by omega)]
theorem readD_take {a : List UInt8} {k : Nat} (h : 8 ≤ k) : readD (a.take k) = readD a := by unfold readD; rw [cutB_take (by omega)]
theorem readW_lt (s : List UInt8) : readW s < 256 := by
  unfold readW
  have h := val_lt (cutB s 4 1).length _ rfl
  have h2 : (cutB s 4 1).length ≤ 1 := by unfold cutB; exact List.length_take_le _ _
  have h3 : 256 ^ (cutB s 4 1).length ≤ 256 ^ 1 := Nat.pow_le_pow_right (by decide) h2
  omega
theorem readD_lt (s : List UInt8) : readD s < 16777216 := by
  unfold readD
  have h := val_lt (cutB s 5 3).length _ rfl
  have h2 : (cutB s 5 3).length ≤ 3 := by unfold cutB; exact List.length_take_le _ _
  have h3 : 256 ^ (cutB s 5 3).length ≤ 256 ^ 3 := Nat.pow_le_pow_right (by decide) h2
  omega
theorem eh_le (s : List UInt8) : eh s ≤ 1068 := by unfold eh; have := readW_lt s; omega
theorem ends_le (s : List UInt8) (m : Nat) : 48 ≤ eh s ∧ eh s ≤ eg s m ∧ eg s m ≤ eh s + 4 ∧ eg s m ≤ ed s m ∧ ed s m ≤ ea s m ∧ ea s m ≤ ed s m + 4 := by
  have h1 := room_le m 1 (eh s)
  have h2 := room_le m 2 (readD s)
  unfold ea ed eg
  unfold eh at *
  omega
theorem ea_le (s : List UInt8) (m : Nat) : ea s m ≤ 16778300 := by
  have h1 := room_le m 1 (eh s)
  have h2 := room_le m 2 (readD s)
  have h3 := eh_le s
  have h4 := readD_lt s
  have h5 := pad_le (readD s)
  unfold ea ed eg
  omega
theorem ea_same {s t : List UInt8} (hw : readW s = readW t) (hd : readD s = readD t) (m : Nat) : ea s m = ea t m ∧ ed s m = ed t m ∧ eg s m = eg t m ∧ eh s = eh t := by
  unfold ea ed eg eh
  rw [hw, hd]
  exact ⟨rfl, rfl, rfl, rfl⟩
/-- what a PDU that is right is -/
structure RightP (p : Pd) : Prop where
  h : rightR p.h = (0, -1)
  k : okK p.a
  a : (wrL p.a).length ≤ 1020
  r : rightA p.a = (0, -1)
  d : p.d.length ≤ 100000
theorem rightP_is {p : Pd} (h : rightP p = 0) : RightP p := by
  unfold rightP at h
  by_cases h1 : (rightR p.h).1 = 0
  · rw [if_neg (by simp [h1])] at h
    by_cases h2 : (rightA p.a).1 = 0
    · rw [if_neg (by simp [h2])] at h
      obtain ⟨k1, k2, k3⟩ := rightA_is _ h2
      refine ⟨rightR_0 h1, k1, k2, k3, ?_⟩
      by_cases h3 : 100000 < p.d.length
      · rw [if_pos h3] at h; exact absurd h (by decide)
      · omega
    · rw [if_pos h2] at h; exact absurd h h2
  · rw [if_pos h1] at h; exact absurd h h1
theorem RightP.vs {p : Pd} (h : RightP p) : p.h.vs.length ≤ 10 := by
  obtain ⟨k, hk, _, _, hl, _⟩ := rightR_good h.h
  rw [hl]
  exact (kindFacts hk).len
theorem rightP_mk {p : Pd} (h : RightP p) : rightP p = 0 := by
  unfold rightP
  rw [h.h, h.r, if_neg (by decide), if_neg (by decide), if_neg (by have := h.d; omega)]
structure BytesP (p : Pd) : Prop where
  hb : (headB p.h ((wrL p.a).length / 4) p.d.length).length = 48
  w : readW (headB p.h ((wrL p.a).length / 4) p.d.length) = (wrL p.a).length / 4
  d : readD (headB p.h ((wrL p.a).length / 4) p.d.length) = p.d.length
  r : readR (headB p.h ((wrL p.a).length / 4) p.d.length) = (p.h, (wrL p.a).length / 4, p.d.length, 0)
theorem bytesP_is {p : Pd} (h : RightP p) : BytesP p := by
  obtain ⟨k, hk, _⟩ := rightR_good h.h
  have ha := h.a
  have hd := h.d
  refine ⟨headB_len hk _ _, ?_, ?_, read_write h.h (by omega) (by omega)⟩
  · unfold readW; rw [headB_w hk]; exact val_be _ _ (by omega)
  · unfold readD; rw [headB_d hk]; exact val_be _ _ (by omega)
theorem hdrs_len {p : Pd} (h : RightP p) : (hdrs p).length = 48 + (wrL p.a).length := by unfold hdrs; rw [List.length_append, (bytesP_is h).hb]
theorem padded_length (l : List UInt8) : (padded l).length = l.length + pad l.length := by unfold padded; rw [List.length_append, zs_len]
theorem room_pad (m w n : Nat) : room m w (n + pad n) = room m w n := by
  unfold room
  have : n + pad n ≠ 0 ↔ n ≠ 0 := by unfold pad; omega
  simp only [this]
structure EndsP (p : Pd) (m : Nat) (s : List UInt8) : Prop where
  w : readW s = (wrL p.a).length / 4
  d : readD s = p.d.length
  h : eh s = (hdrs p).length
  g : eg s m = (hdrs p).length + (dig m 1 (hdrs p)).length
  e : ed s m = (hdrs p).length + (dig m 1 (hdrs p)).length + (padded p.d).length
  a : ea s m = (bytesP p m).length
theorem endsP {p : Pd} (h : RightP p) (m : Nat) (t : List UInt8) : EndsP p m (bytesP p m ++ t) := by
  have B := bytesP_is h
  have h4 := wrL_4 p.a
  have hw : readW (bytesP p m ++ t) = (wrL p.a).length / 4 := by
    unfold bytesP hdrs
    simp only [List.append_assoc]
    rw [readW_left (by rw [B.hb]; decide), B.w]
  have hd : readD (bytesP p m ++ t) = p.d.length := by
    unfold bytesP hdrs
    simp only [List.append_assoc]
    rw [readD_left (by rw [B.hb]; decide), B.d]
  have hh : eh (bytesP p m ++ t) = (hdrs p).length := by unfold eh; rw [hw, hdrs_len h]; omega
  have hg : eg (bytesP p m ++ t) m = (hdrs p).length + (dig m 1 (hdrs p)).length := by unfold eg; rw [hh, dig_len]
  have he : ed (bytesP p m ++ t) m = (hdrs p).length + (dig m 1 (hdrs p)).length + (padded p.d).length := by unfold ed; rw [hg, hd, padded_length]; omega
  refine ⟨hw, hd, hh, hg, he, ?_⟩
  unfold ea
  rw [he, hd, ← room_pad, ← padded_length, ← dig_len]
  unfold bytesP
  simp only [List.length_append]
theorem endsP0 {p : Pd} (h : RightP p) (m : Nat) : EndsP p m (bytesP p m) := by
  have E := endsP h m []
  rwa [List.append_nil] at E
theorem cutB_mid (a b c : List UInt8) : cutB (a ++ b ++ c) a.length b.length = b := by simp [cutB]
theorem unpE_padded (l : List UInt8) : unpE (padded l) (l.length : Nat) = 0 := by
  unfold unpE
  rw [if_neg (by omega), Int.toNat_natCast, padded_length, if_neg (by omega)]
  have : ((padded l).drop l.length).take (pad l.length) = zs (pad l.length) := by
    unfold padded
    rw [List.drop_left]
    exact List.take_of_length_le (by rw [zs_len]; exact Nat.le_refl _)
  rw [this]
  simp
theorem readB_bytes {p : Pd} (hp : rightP p = 0) (m : Nat) : readB (bytesP p m) m = (p, 0) := by
  have h := rightP_is hp
  have B := bytesP_is h
  have E := endsP0 h m
  have hl := hdrs_len h
  have e1 : (bytesP p m).take (eh (bytesP p m)) = hdrs p := by rw [E.h]; unfold bytesP; simp only [List.append_assoc]; exact List.take_left
  have e2 : cutB (bytesP p m) (eh (bytesP p m)) (eg (bytesP p m) m - eh (bytesP p m)) = dig m 1 (hdrs p) := by
    rw [E.h, E.g, Nat.add_sub_cancel_left]
    unfold bytesP
    rw [List.append_assoc, cutB_mid]
  have e3 : (bytesP p m).take 48 = headB p.h ((wrL p.a).length / 4) p.d.length := by
    unfold bytesP hdrs
    simp only [List.append_assoc]
    rw [← B.hb]
    exact List.take_left
  have e4 : cutB (bytesP p m) 48 (eh (bytesP p m) - 48) = wrL p.a := by
    rw [E.h, hl, Nat.add_sub_cancel_left]
    unfold bytesP hdrs
    rw [List.append_assoc, List.append_assoc]
    rw [← B.hb, cutB_mid]
  have e5 : cutB (bytesP p m) (eg (bytesP p m) m) (ed (bytesP p m) m - eg (bytesP p m) m) = padded p.d := by
    rw [E.e, E.g, Nat.add_sub_cancel_left, ← List.length_append]
    unfold bytesP
    rw [cutB_mid]
  have e6 : (bytesP p m).drop (ed (bytesP p m) m) = dig m 2 (padded p.d) := by
    rw [E.e, ← List.length_append, ← List.length_append]
    unfold bytesP
    exact List.drop_left
  unfold readB
  rw [e1, e2, e3, e4, e5, e6, B.r, readA_write h.k h.a, E.d, unpE_padded]
  rw [if_neg (by simp), if_neg (by simp), if_neg (by simp), if_neg (by simp), if_neg (by simp), if_neg (by have := h.d; omega)]
  have : (padded p.d).take p.d.length = p.d := by unfold padded; exact List.take_left
  rw [this]
theorem sizeP_bytes {p : Pd} (h : RightP p) {m : Int} (hm : okM m) (t : List UInt8) : sizeP (bytesP p m.toNat ++ t) m = ((bytesP p m.toNat).length, 0) := by
  have E := endsP h m.toNat t
  unfold sizeP
  rw [if_neg (by simp [hm]), if_neg, E.a]
  rw [List.length_append, ← E.a]
  have := ends_le (bytesP p m.toNat ++ t) m.toNat
  omega
theorem readP_bytes {p : Pd} (hp : rightP p = 0) {m : Int} (hm : okM m) (t : List UInt8) : readP (bytesP p m.toNat ++ t) m = (p, (bytesP p m.toNat).length, 0) := by
  unfold readP
  rw [sizeP_bytes (rightP_is hp) hm]
  simp only
  rw [if_neg (by decide), if_neg (by rw [List.length_append]; omega), List.take_left, readB_bytes hp, if_neg (by simp)]
theorem readP_cut {p : Pd} (hp : rightP p = 0) {m : Int} (hm : okM m) {k : Nat} (hk : k < (bytesP p m.toNat).length) : readP ((bytesP p m.toNat).take k) m = (pd0, 0, 7) := by
  have E := endsP0 (rightP_is hp) m.toNat
  have hl : ((bytesP p m.toNat).take k).length = k := by rw [List.length_take]; omega
  unfold readP
  by_cases h48 : k < 48
  · have : sizeP ((bytesP p m.toNat).take k) m = (0, 7) := by unfold sizeP; rw [if_neg (by simp [hm]), if_pos (by omega)]
    rw [this]
    rfl
  · have : sizeP ((bytesP p m.toNat).take k) m = ((bytesP p m.toNat).length, 0) := by
      unfold sizeP
      rw [if_neg (by simp [hm]), if_neg (by omega), (ea_same (readW_take (by omega)) (readD_take (by omega)) m.toNat).1, E.a]
    rw [this]
    simp only
    rw [if_neg (by decide), if_pos (by omega)]
theorem readR_is0 {s : List UInt8} (h : (readR s).2.2.2 = 0) : s.length = 48 ∧ ∃ hh, readR s = (hh, readW s, readD s, 0) ∧ rightR hh = (0, -1) ∧ headB hh (readW s) (readD s) = s := by
  unfold readR at h ⊢
  by_cases h1 : s.length ≠ 48
  · rw [if_pos h1] at h; exact absurd h (by decide)
  rw [if_neg h1] at h ⊢
  by_cases h2 : 128 ≤ (s.getD 0 0).toNat
  · rw [if_pos h2] at h; exact absurd h (by decide)
  rw [if_neg h2] at h ⊢
  cases hk : kindOf ((s.getD 0 0).toNat % 64 : Nat) with
  | none => simp only [hk] at h; exact absurd h (by decide)
  | some k =>
    simp only [hk] at h ⊢
    by_cases h3 : writeR (readH k s) (readW s) (readD s) = (s, 0, -1)
    · rw [if_pos h3] at h ⊢
      refine ⟨by omega, _, rfl, ?_⟩
      unfold writeR at h3
      by_cases h4 : (rightR (readH k s)).1 ≠ 0
      · simp only [if_pos h4] at h3
        have : (rightR (readH k s)) = (0, -1) := (Prod.mk.inj h3).2
        rw [this] at h4
        exact absurd rfl h4
      · simp only [if_neg h4] at h3
        split at h3
        · exact absurd (Prod.mk.inj (Prod.mk.inj h3).2).1 (by decide)
        · refine ⟨rightR_0 (by omega), ?_⟩
          have := (Prod.mk.inj h3).1
          simpa using this
    · rw [if_neg h3] at h; exact absurd h (by decide)
theorem readB_pd0 {s : List UInt8} {m : Nat} (h : (readB s m).2 ≠ 0) : (readB s m).1 = pd0 := by
  unfold readB at h ⊢
  repeat' split
  all_goals first | rfl | skip
  all_goals simp_all
/-- what is read is right, and is written so -/
theorem readB_is {s : List UInt8} {m : Nat} (hs : s.length = ea s m) (h : (readB s m).2 = 0) : ∃ p, readB s m = (p, 0) ∧ rightP p = 0 ∧ bytesP p m = s := by
  have L := ends_le s m
  unfold readB at h ⊢
  by_cases c1 : dig m 1 (s.take (eh s)) ≠ cutB s (eh s) (eg s m - eh s)
  · rw [if_pos c1] at h; exact absurd h (by decide)
  rw [if_neg c1] at h ⊢
  by_cases c2 : (readR (s.take 48)).2.2.2 ≠ 0
  · rw [if_pos c2] at h; exact absurd h c2
  rw [if_neg c2] at h ⊢
  by_cases c3 : (readA (cutB s 48 (eh s - 48))).2.1 ≠ 0
  · rw [if_pos c3] at h; exact absurd h c3
  rw [if_neg c3] at h ⊢
  by_cases c4 : unpE (cutB s (eg s m) (ed s m - eg s m)) (readD s : Nat) ≠ 0
  · rw [if_pos c4] at h; exact absurd h (by decide)
  rw [if_neg c4] at h ⊢
  by_cases c5 : dig m 2 (cutB s (eg s m) (ed s m - eg s m)) ≠ s.drop (ed s m)
  · rw [if_pos c5] at h; exact absurd h (by decide)
  rw [if_neg c5] at h ⊢
  by_cases c6 : 100000 < readD s
  · rw [if_pos c6] at h; exact absurd h (by decide)
  rw [if_neg c6]
  clear h
  obtain ⟨hl48, hh, hR, hr, hB⟩ := readR_is0 (s := s.take 48) (by simpa using c2)
  rw [readW_take (by omega), readD_take (by omega)] at hR hB
  obtain ⟨l, hA, hk, hwr, hlen⟩ := writeA_read (s := cutB s 48 (eh s - 48)) (by simpa using c3)
  have hcl : (cutB s (eg s m) (ed s m - eg s m)).length = readD s + pad (readD s) := by
    rw [cutB_len (by omega)]; unfold ed; omega
  have hcp : cutB s (eg s m) (ed s m - eg s m) = padded ((cutB s (eg s m) (ed s m - eg s m)).take (readD s)) := by
    generalize cutB s (eg s m) (ed s m - eg s m) = C at hcl c4
    have htl : (C.take (readD s)).length = readD s := by rw [List.length_take]; omega
    unfold padded
    rw [htl]
    unfold unpE at c4
    rw [if_neg (by omega), Int.toNat_natCast, if_neg (by omega)] at c4
    have hz : (C.drop (readD s)).take (pad (readD s)) = zs (pad (readD s)) := by
      by_cases hz : ((C.drop (readD s)).take (pad (readD s)) == zs (pad (readD s))) = true
      · simpa using hz
      · rw [if_neg hz] at c4; exact absurd (by decide : (3 : Int) ≠ 0) c4
    rw [List.take_of_length_le (by rw [List.length_drop]; omega)] at hz
    rw [← hz]
    exact (List.take_append_drop _ _).symm
  have htl : ((cutB s (eg s m) (ed s m - eg s m)).take (readD s)).length = readD s := by rw [List.length_take]; omega
  have hwl : (wrL l).length = 4 * readW s := by rw [hwr, cutB_len (by omega)]; unfold eh; omega
  refine ⟨_, rfl, ?_, ?_⟩
  · refine rightP_mk ⟨?_, ?_, ?_, ?_, ?_⟩
    · rw [hR]; exact hr
    · rw [hA]; exact hk
    · rw [hA]; exact hlen
    · rw [hA]; exact rightA_ok hk hlen
    · simp only; omega
  · have hhd : hdrs ⟨(readR (s.take 48)).1, (readA (cutB s 48 (eh s - 48))).1, (cutB s (eg s m) (ed s m - eg s m)).take (readD s)⟩ = s.take (eh s) := by
      unfold hdrs
      simp only [hR, hA, htl]
      rw [hwl, Nat.mul_div_cancel_left _ (by decide), hB, hwr]
      unfold cutB
      rw [← List.take_add]
      congr 1
      omega
    unfold bytesP
    rw [hhd]
    simp only
    rw [← hcp]
    have c1' := Decidable.not_not.1 c1
    have c5' := Decidable.not_not.1 c5
    rw [c1', c5']
    unfold cutB
    rw [← List.take_add, show eh s + (eg s m - eh s) = eg s m by omega, ← List.take_add, show eg s m + (ed s m - eg s m) = ed s m by omega]
    exact List.take_append_drop _ _
end Go.Proofs.YtlkikkfbennmnaaGreatDoor
