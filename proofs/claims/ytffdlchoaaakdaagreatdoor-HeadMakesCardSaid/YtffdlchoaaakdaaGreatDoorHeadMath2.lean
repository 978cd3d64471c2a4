/- Heads: what is written is read; what must be 0. No function of the program is walked here. -/
import Derived.Test.YtffdlchoaaakdaaGreatDoorHeadMath
namespace Go.Proofs.YtffdlchoaaakdaaGreatDoor
open Go.RowKit
theorem baseB_len (h : Hd) (w d : Nat) : (baseB h w d).length = 48 := by simp [baseB, be_len]
theorem baseB_0 (h : Hd) (w d : Nat) : (baseB h w d)[0]? = some (UInt8.ofNat (h.op.toNat + if h.now then 64 else 0)) := rfl
theorem baseB_1 (h : Hd) (w d : Nat) : (baseB h w d)[1]? = some (UInt8.ofNat h.fl.toNat) := rfl
theorem baseB_w (h : Hd) (w d : Nat) : cutB (baseB h w d) 4 1 = be w 1 := rfl
theorem baseB_d (h : Hd) (w d : Nat) : cutB (baseB h w d) 5 3 = be d 3 := rfl
theorem baseB_0s (h : Hd) (w d i : Nat) (hi : i < 48) (h1 : 2 ≤ i) (h2 : i < 4 ∨ 8 ≤ i) : (baseB h w d)[i]? = some 0 := by
  have e : baseB h w d = ([UInt8.ofNat (h.op.toNat + if h.now then 64 else 0), UInt8.ofNat h.fl.toNat] ++ ([0, 0] ++ (be w 1 ++ be d 3 ++ List.replicate 40 0))) := by simp [baseB]
  rw [e, List.getElem?_append_right (by simpa using h1)]
  rcases h2 with h2 | h2
  · have : i = 2 ∨ i = 3 := by omega
    rcases this with rfl | rfl <;> rfl
  · rw [List.getElem?_append_right (by simp; omega), List.getElem?_append_right (by simp [be_len]; omega), List.getElem?_replicate]
    simp [be_len]; omega
theorem headB_eq {h : Hd} {k : Kd} (hk : kindOf h.op = some k) (w d : Nat) : headB h w d = putAll k.fs h.vs (baseB h w d) := by unfold headB; rw [hk]
theorem fields_in {k : Kd} (F : KindFacts k) (h : Hd) (w d : Nat) : ∀ f ∈ k.fs, f.pos + f.sz ≤ (baseB h w d).length := fun f hf => by rw [baseB_len]; exact (F.fok f hf).2.1
theorem headB_len {h : Hd} {k : Kd} (hk : kindOf h.op = some k) (w d : Nat) : (headB h w d).length = 48 := by
  rw [headB_eq hk, putAll_len (fields_in (kindFacts hk) h w d), baseB_len]
def freeK (k : Kd) (i : Nat) : Prop := i = 0 ∨ i = 1 ∨ (4 ≤ i ∧ i < 8) ∨ ∃ f ∈ k.fs, inF f i
instance (k : Kd) (i : Nat) : Decidable (freeK k i) := by unfold freeK; infer_instance
theorem headB_base {h : Hd} {k : Kd} (hk : kindOf h.op = some k) (w d i : Nat) (hi : ¬ ∃ f ∈ k.fs, inF f i) : (headB h w d)[i]? = (baseB h w d)[i]? := by
  rw [headB_eq hk]
  exact putAll_other (fields_in (kindFacts hk) h w d) i fun f hf hx => hi ⟨f, hf, hx⟩
theorem low_free {k : Kd} (F : KindFacts k) (i : Nat) (hi : i < 2 ∨ (4 ≤ i ∧ i < 8)) : ¬ ∃ f ∈ k.fs, inF f i := by
  rintro ⟨f, hf, h1, h2⟩
  have := F.fok f hf
  omega
theorem headB_0 {h : Hd} {k : Kd} (hk : kindOf h.op = some k) (w d : Nat) : (headB h w d)[0]? = some (UInt8.ofNat (h.op.toNat + if h.now then 64 else 0)) := by
  rw [headB_base hk w d 0 (low_free (kindFacts hk) 0 (by omega)), baseB_0]
theorem headB_1 {h : Hd} {k : Kd} (hk : kindOf h.op = some k) (w d : Nat) : (headB h w d)[1]? = some (UInt8.ofNat h.fl.toNat) := by
  rw [headB_base hk w d 1 (low_free (kindFacts hk) 1 (by omega)), baseB_1]
theorem cutB_same {a b : List UInt8} {o n : Nat} (h : ∀ i, o ≤ i → i < o + n → a[i]? = b[i]?) : cutB a o n = cutB b o n := by
  apply List.ext_getElem?
  intro i
  by_cases hi : i < n
  · rw [cutB_get hi, cutB_get hi, h (o + i) (by omega) (by omega)]
  · have l1 : (cutB a o n).length ≤ n := by unfold cutB; simp; omega
    have l2 : (cutB b o n).length ≤ n := by unfold cutB; simp; omega
    rw [List.getElem?_eq_none (by omega), List.getElem?_eq_none (by omega)]
theorem headB_w {h : Hd} {k : Kd} (hk : kindOf h.op = some k) (w d : Nat) : cutB (headB h w d) 4 1 = be w 1 := by
  rw [cutB_same (b := baseB h w d) fun i h1 h2 => headB_base hk w d i (low_free (kindFacts hk) i (by omega)), baseB_w]
theorem headB_d {h : Hd} {k : Kd} (hk : kindOf h.op = some k) (w d : Nat) : cutB (headB h w d) 5 3 = be d 3 := by
  rw [cutB_same (b := baseB h w d) fun i h1 h2 => headB_base hk w d i (low_free (kindFacts hk) i (by omega)), baseB_d]
theorem getD_some {l : List UInt8} {i : Nat} {b : UInt8} (h : l[i]? = some b) : l.getD i 0 = b := by rw [List.getD_eq_getElem?_getD, h]; rfl
theorem flOk_bd {fl : Int} {m : Nat} (hm : m < 256) (h : flOk fl m = true) : 0 ≤ fl ∧ fl < 256 := by
  unfold flOk at h
  simp only [Bool.and_eq_true, decide_eq_true_eq, beq_iff_eq] at h
  have := Nat.and_le_right (n := fl.toNat) (m := m)
  omega
theorem rightR_good {h : Hd} (hr : rightR h = (0, -1)) : ∃ k, kindOf h.op = some k ∧ (h.now = true → h.op < 32) ∧ flOk h.fl k.fl = true ∧ h.vs.length = k.fs.length ∧ badVal k.fs h.vs = none := by
  unfold rightR at hr
  cases hk : kindOf h.op with
  | none => rw [hk] at hr; simp at hr
  | some k =>
    rw [hk] at hr
    simp only [rightK] at hr
    split at hr
    · simp at hr
    · rename_i h1
      split at hr
      · simp at hr
      · rename_i h2
        split at hr
        · simp at hr
        · rename_i h3
          simp only [Bool.or_eq_true, Bool.and_eq_true, decide_eq_true_eq, Bool.not_eq_true', not_or, not_and] at h1
          exact ⟨k, rfl, fun hn => by have := h1.1 hn; omega, by simpa using h1.2, by omega, h3⟩
theorem rightR_mk {h : Hd} {k : Kd} (hk : kindOf h.op = some k) (h1 : h.now = true → h.op < 32) (h2 : flOk h.fl k.fl = true) (h3 : h.vs.length = k.fs.length) (h4 : badVal k.fs h.vs = none) : rightR h = (0, -1) := by
  unfold rightR
  rw [hk]
  simp only [rightK]
  rw [if_neg, if_neg (by omega), h4]
  simp only [Bool.or_eq_true, Bool.and_eq_true, decide_eq_true_eq, Bool.not_eq_true', not_or, not_and]
  exact ⟨fun hn => by have := h1 hn; omega, by simp [h2]⟩
theorem rightR_0 {h : Hd} : (rightR h).1 = 0 → rightR h = (0, -1) := by
  unfold rightR
  cases kindOf h.op with
  | none => intro h; simp at h
  | some k =>
    simp only [rightK]
    split
    · intro h; simp at h
    · split
      · intro h; simp at h
      · split
        · intro h; simp at h
        · intro _; rfl
/-- what is written is read -/
theorem read_write {h : Hd} (hr : rightR h = (0, -1)) {w d : Nat} (hw : w ≤ 255) (hd : d ≤ 16777215) : readR (headB h w d) = (h, w, d, 0) := by
  obtain ⟨k, hk, h1, h2, h3, h4⟩ := rightR_good hr
  have F := kindFacts hk
  have hop := (kindOf_mem hk).2
  have ho := F.op
  have hfl := flOk_bd F.fl h2
  have hlen := headB_len hk w d
  have e0 := getD_some (headB_0 hk w d)
  have e1 := getD_some (headB_1 hk w d)
  have b0 : (UInt8.ofNat (h.op.toNat + if h.now then 64 else 0)).toNat = h.op.toNat + if h.now then 64 else 0 := by
    rw [UInt8.toNat_ofNat']; split <;> omega
  have b1 : (UInt8.ofNat h.fl.toNat).toNat = h.fl.toNat := by rw [UInt8.toNat_ofNat']; omega
  have hm : ((h.op.toNat + if h.now then 64 else 0) % 64 : Nat) = h.op.toNat := by split <;> omega
  have hmi : ((h.op.toNat : Nat) : Int) = h.op := by omega
  have hvs : readVs k.fs (headB h w d) = h.vs := by
    apply List.ext_getElem (by simp [readVs, h3])
    intro j hj1 hj2
    have hj : j < k.fs.length := by simpa [readVs] using hj1
    have hb := badVal_good h4 j hj hj2
    have hg := putAll_get (vs := h.vs) (fields_in F h w d) F.apart j hj hj2
    have hx : val (cutB (headB h w d) k.fs[j].pos k.fs[j].sz) = h.vs[j] := by
      rw [headB_eq hk, hg, val_be]
      exact (Nat.div_eq_zero_iff.1 hb).resolve_left (by have := Nat.pow_pos (n := 8 * k.fs[j].sz) (show 0 < 2 by decide); omega)
    have hy : (readVs k.fs (headB h w d))[j] = val (cutB (headB h w d) k.fs[j].pos k.fs[j].sz) := by simp [readVs]
    rw [hy, hx]
  have hH : readH k (headB h w d) = h := by
    unfold readH
    rw [e0, e1, b0, b1, hm, hvs, hmi]
    have hn : decide (64 ≤ h.op.toNat + if h.now then 64 else 0) = h.now := by cases hn : h.now <;> simp <;> omega
    rw [hn, Int.toNat_of_nonneg hfl.1]
  have hW : readW (headB h w d) = w := by unfold readW; rw [headB_w hk, val_be _ _ (by omega)]
  have hD : readD (headB h w d) = d := by unfold readD; rw [headB_d hk, val_be _ _ (by omega)]
  unfold readR
  rw [if_neg (by omega), e0, b0, if_neg (by split <;> omega), hm, hmi, hk]
  simp only [hH, hW, hD]
  rw [if_pos]
  unfold writeR
  simp only [hr]
  rw [if_neg (by simp), if_neg (by omega)]
  simp
theorem nat_or_eq (a m : Nat) : a ||| m = m ↔ a &&& m = a := by
  constructor
  · intro h
    rw [← h]
    apply Nat.eq_of_testBit_eq; intro i
    simp only [Nat.testBit_and, Nat.testBit_or]
    cases a.testBit i <;> simp
  · intro h
    rw [← h]
    apply Nat.eq_of_testBit_eq; intro i
    simp only [Nat.testBit_and, Nat.testBit_or]
    cases a.testBit i <;> cases m.testBit i <;> rfl
/-- 48 bytes that are written so: which -/
theorem write_read {s : List UInt8} {k : Kd} (hs : s.length = 48) (h0 : (s.getD 0 0).toNat < 128) (hk : kindOf ((s.getD 0 0).toNat % 64 : Nat) = some k) :
    writeR (readH k s) (readW s) (readD s) = (s, 0, -1) ↔ (64 ≤ (s.getD 0 0).toNat → (s.getD 0 0).toNat % 64 < 32) ∧ (s.getD 1 0).toNat ||| k.fl = k.fl ∧ ∀ i, i < 48 → ¬ freeK k i → s.getD i 0 = 0 := by
  have F := kindFacts hk
  have hkH : kindOf (readH k s).op = some k := hk
  have hin : ∀ f ∈ k.fs, f.pos + f.sz ≤ s.length := fun f hf => by rw [hs]; exact (F.fok f hf).2.1
  have hlen : (readVs k.fs s).length = k.fs.length := by simp [readVs]
  have hbad : badVal k.fs (readVs k.fs s) = none := by
    apply badVal_none hlen
    intro j hj
    simp only [readVs, List.getElem_map]
    apply Nat.div_eq_of_lt
    have := val_lt k.fs[j].sz (cutB s k.fs[j].pos k.fs[j].sz) (cutB_len (hin _ (List.getElem_mem _)))
    rwa [Nat.pow_mul]
  have hw : readW s ≤ 255 := by have := val_lt 1 (cutB s 4 1) (cutB_len (by omega)); unfold readW; omega
  have hd : readD s ≤ 16777215 := by have := val_lt 3 (cutB s 5 3) (cutB_len (by omega)); unfold readD; omega
  have hfl : flOk (readH k s).fl k.fl = true ↔ (s.getD 1 0).toNat ||| k.fl = k.fl := by
    unfold flOk readH
    simp only [Bool.and_eq_true, decide_eq_true_eq, beq_iff_eq, Int.toNat_natCast]
    rw [nat_or_eq]
    exact ⟨fun h => h.2, fun h => ⟨by omega, h⟩⟩
  have hnow : ((readH k s).now = true → (readH k s).op < 32) ↔ (64 ≤ (s.getD 0 0).toNat → (s.getD 0 0).toNat % 64 < 32) := by
    unfold readH
    simp only [decide_eq_true_eq]
    constructor <;> intro h h' <;> have := h h' <;> omega
  have hget : ∀ i, i < 48 → ((headB (readH k s) (readW s) (readD s))[i]? = s[i]? ↔ freeK k i ∨ s.getD i 0 = 0) := by
    intro i hi
    have hsi : s[i]? = some (s.getD i 0) := by rw [List.getD_eq_getElem?_getD, List.getElem?_eq_getElem (by omega)]; rfl
    by_cases hf : ∃ f ∈ k.fs, inF f i
    · have : (headB (readH k s) (readW s) (readD s))[i]? = s[i]? := by
        rw [headB_eq hkH]
        show (putAll k.fs (readVs k.fs s) _)[i]? = _
        rw [putAll_read hin (by rw [baseB_len, hs]), if_pos hf]
      exact ⟨fun _ => .inl (.inr (.inr (.inr hf))), fun _ => this⟩
    · rw [headB_base hkH _ _ i hf]
      by_cases h1 : i = 0
      · subst h1
        have : (baseB (readH k s) (readW s) (readD s))[0]? = s[0]? := by
          rw [baseB_0, hsi]
          congr 1
          apply UInt8.toNat_inj.1
          rw [UInt8.toNat_ofNat']
          unfold readH
          simp only [decide_eq_true_eq, Int.toNat_natCast]
          split <;> omega
        exact ⟨fun _ => .inl (.inl rfl), fun _ => this⟩
      · by_cases h2 : i = 1
        · subst h2
          have : (baseB (readH k s) (readW s) (readD s))[1]? = s[1]? := by
            rw [baseB_1, hsi]
            congr 1
            apply UInt8.toNat_inj.1
            rw [UInt8.toNat_ofNat']
            unfold readH
            simp only [Int.toNat_natCast]
            have := (s.getD 1 0).toNat_lt
            omega
          exact ⟨fun _ => .inl (.inr (.inl rfl)), fun _ => this⟩
        · by_cases h3 : 4 ≤ i ∧ i < 8
          · have : (baseB (readH k s) (readW s) (readD s))[i]? = s[i]? := by
              by_cases h4 : i = 4
              · subst h4
                have e : (cutB (baseB (readH k s) (readW s) (readD s)) 4 1)[0]? = (be (readW s) 1)[0]? := by rw [baseB_w]
                rw [cutB_get (by decide)] at e
                rw [show (4 : Nat) = 4 + 0 from rfl, e]
                unfold readW
                rw [be_cut (by omega), cutB_get (by decide)]
              · obtain ⟨j, rfl, hj⟩ : ∃ j, i = 5 + j ∧ j < 3 := ⟨i - 5, by omega, by omega⟩
                have e : (cutB (baseB (readH k s) (readW s) (readD s)) 5 3)[j]? = (be (readD s) 3)[j]? := by rw [baseB_d]
                rw [cutB_get hj] at e
                rw [e]
                unfold readD
                rw [be_cut (by omega), cutB_get hj]
            exact ⟨fun _ => .inl (.inr (.inr (.inl h3))), fun _ => this⟩
          · rw [baseB_0s _ _ _ i hi (by omega) (by omega), hsi]
            constructor
            · intro h; right; exact (Option.some.inj h).symm
            · rintro (h | h)
              · rcases h with h | h | h | h
                · exact absurd h h1
                · exact absurd h h2
                · exact absurd h h3
                · exact absurd h hf
              · rw [h]
  constructor
  · intro h
    have hr : rightR (readH k s) = (0, -1) := by
      apply rightR_0
      apply Decidable.byContradiction
      intro hn
      unfold writeR at h
      simp only [hn, ne_eq, not_false_eq_true, if_true] at h
      have h2 := congrArg (fun x => x.2.1) h
      exact hn h2
    obtain ⟨k', hk', a, b, _, _⟩ := rightR_good hr
    obtain rfl : k = k' := Option.some.inj (hkH.symm.trans hk')
    have hB : headB (readH k s) (readW s) (readD s) = s := by
      unfold writeR at h
      simp only [hr] at h
      rw [if_neg (by simp), if_neg (by omega)] at h
      have h2 := congrArg (fun x => x.1) h
      simpa using h2
    refine ⟨hnow.1 a, hfl.1 b, fun i hi hf => ?_⟩
    exact ((hget i hi).1 (by rw [hB])).resolve_left hf
  · rintro ⟨a, b, c⟩
    have hr : rightR (readH k s) = (0, -1) := rightR_mk hkH (hnow.2 a) (hfl.2 b) hlen hbad
    have hB : headB (readH k s) (readW s) (readD s) = s := by
      apply List.ext_getElem?
      intro i
      by_cases hi : i < 48
      · exact (hget i hi).2 (by by_cases hf : freeK k i; exact .inl hf; exact .inr (c i hi hf))
      · rw [List.getElem?_eq_none (by rw [headB_len hkH]; omega), List.getElem?_eq_none (by omega)]
    unfold writeR
    simp only [hr]
    rw [if_neg (by simp), if_neg (by omega)]
    simp [hB]
end Go.Proofs.YtffdlchoaaakdaaGreatDoor
