/- ref.HeadRead: flags that may not be; the whole of it. -/
import Derived.Test.YtffdlchoaaakdaaDoorRefRead
import Derived.Test.YtffdlchoaaakdaaDoorNBuf
import Derived.IntWalk
namespace Go.Proofs.YtffdlchoaaakdaaDoor
open Go.RowKit
theorem readR_is {s : List UInt8} {k : Kd} (hl : s.length = 48) {b0 b1 : UInt8} (h0 : s[0]? = some b0) (h1 : s[1]? = some b1) (hlt : b0.toNat < 128) (hk : kindOf ((b0.toNat % 64 : Nat) : Int) = some k) :
    ((64 ≤ b0.toNat → b0.toNat % 64 < 32) ∧ b1.toNat ||| k.fl = k.fl ∧ (∀ i, i < 48 → ¬ freeK k i → s.getD i 0 = 0) → readR s = (⟨(b0.toNat : Int) % 64, decide (64 ≤ b0.toNat), (b1.toNat : Int), readVs k.fs s⟩, readW s, readD s, 0)) ∧
    (¬ ((64 ≤ b0.toNat → b0.toNat % 64 < 32) ∧ b1.toNat ||| k.fl = k.fl ∧ (∀ i, i < 48 → ¬ freeK k i → s.getD i 0 = 0)) → readR s = (hd0, 0, 0, 3)) := by
  have e0 := getD_some h0
  have e1 := getD_some h1
  have hw := write_read hl (by rw [e0]; exact hlt) (by rw [e0]; exact hk)
  rw [e0, e1] at hw
  have eH : readH k s = ⟨(b0.toNat : Int) % 64, decide (64 ≤ b0.toNat), (b1.toNat : Int), readVs k.fs s⟩ := by unfold readH; rw [e0, e1]; rfl
  have e : readR s = if writeR (readH k s) (readW s) (readD s) = (s, 0, -1) then (readH k s, readW s, readD s, 0) else (hd0, 0, 0, 3) := by
    unfold readR
    rw [if_neg (by omega), e0, if_neg (by omega), hk]
  constructor
  · intro h
    rw [e, if_pos (hw.2 h), eH]
  · intro h
    rw [e, if_neg (fun h' => h (hw.1 h'))]
theorem or_int (a m : Nat) (ha : a < 256) (hm : m < 256) : bits .or .i64 (a : Int) (m : Int) = m ↔ a ||| m = m := by
  have h := or_fl (a : Int) m hm (by omega) (by omega)
  rw [h]
  unfold flOk
  simp
  exact (nat_or_eq a m).symm
set_option maxRecDepth 100000 in
theorem refRead_form (s : List UInt8) (k : Kd) (w : World) (hl : s.length = 48) (hl0 : 0 < s.length) (hl1 : 1 < s.length) (h : (s[0]'hl0).toNat < 128) (hk : kindOf (((s[0]'hl0).toNat % 64 : Nat) : Int) = some k)
    (hbad : ¬ ((64 ≤ (s[0]'hl0).toNat → (s[0]'hl0).toNat % 64 < 32) ∧ (s[1]'hl1).toNat ||| k.fl = k.fl)) : Calls Tryd.prog 13 #[.string (S s)] w (RetRR w (hd0, 0, 0, 3)) := by
  have hne : ((s.length : Int) != 48) = false := by rw [hl]; rfl
  obtain ⟨b0, hb0⟩ : ∃ b, s[0]'hl0 = b := ⟨_, rfl⟩
  obtain ⟨b1, hb1⟩ : ∃ b, s[1]'hl1 = b := ⟨_, rfl⟩
  rw [hb0] at h hk hbad
  rw [hb1] at hbad
  have F := kindFacts hk
  have hq : ((b0.toNat : Int) / 128 % 256 == 1) = false := by rw [beq_eq_false_iff_ne]; omega
  have e64 : ((b0.toNat % 64 : Nat) : Int) = (b0.toNat : Int) % 64 := by omega
  have hr : (b0.toNat : Int) % 64 ≤ 63 := by omega
  have hr0 : 0 ≤ (b0.toNat : Int) % 64 := by omega
  have hb1l : (b1.toNat : Int) < 256 := by have := b1.toNat_lt; omega
  have C := refKind_any ((b0.toNat % 64 : Nat) : Int) (w.alloc (.cells #[.int .i64 0, .bool false, .int .i64 0, .slice none 0 0] 24))
  rw [hk, e64] at C
  have HC := Lib.hid C
  have hk0 := Lib.hid (Blk.new w #[.int .i64 0, .bool false, .int .i64 0, .slice none 0 0] 24)
  have Hb0 := Lib.hid ((Below.refl w.heap.size w).alloc (Nat.le_refl _) (.cells #[.int .i64 0, .bool false, .int .i64 0, .slice none 0 0] 24))
  have hcase : (((b0.toNat : Int) / 64 % 256 == 1) = true ∧ (32 : Int) ≤ (b0.toNat : Int) % 64) ∨ (((b0.toNat : Int) / 64 % 256 == 1) = true ∧ (b0.toNat : Int) % 64 < 32 ∧ (bits .or .i64 (b1.toNat : Int) (k.fl : Int) != k.fl) = true) ∨ (((b0.toNat : Int) / 64 % 256 == 1) = false ∧ (bits .or .i64 (b1.toNat : Int) (k.fl : Int) != k.fl) = true) := by
    have hno : (64 ≤ b0.toNat → b0.toNat % 64 < 32) → (bits .or .i64 (b1.toNat : Int) (k.fl : Int) != k.fl) = true := fun hn => by
      rw [bne_iff_ne]
      intro e
      exact hbad ⟨hn, (or_int b1.toNat k.fl (by have := b1.toNat_lt; omega) F.fl).1 e⟩
    by_cases h64 : 64 ≤ b0.toNat
    · have e1 : ((b0.toNat : Int) / 64 % 256 == 1) = true := by rw [beq_iff_eq]; omega
      by_cases h32 : b0.toNat % 64 < 32
      · exact .inr (.inl ⟨e1, by omega, hno (fun _ => h32)⟩)
      · exact .inl ⟨e1, by omega⟩
    · exact .inr (.inr ⟨by rw [beq_eq_false_iff_ne]; omega, hno (fun h => absurd h h64)⟩)
  clear h hl hk C e64 hbad F
  rcases hcase with ⟨g1, g2⟩ | ⟨g1, g2, g3⟩ | ⟨g1, g3⟩
  all_goals
    go_enter Tryd.func13, Tryd.ntmps13
    go_wp2_with fail
    refine HC.out.mono ?_
    rintro e w1 ⟨bf, rfl, hF, hb⟩
    have hkk := hk0.out.later hb
    obtain ⟨q0, q1, q2, q3⟩ := hkk.four
    have f0 := hkk.frozen 0
    have f1 := hkk.frozen 1
    have f2 := hkk.frozen 2
    have f3 := hkk.frozen 3
    have Hb := Lib.hid (below_then Hb0.out hb)
    clear hb hkk hF
    go_wp2_with fail
    refine bodyPost_ret (v := .tuple #[headV hd0 (.slice none 0 0), .int .i64 0, .int .i64 0, .int .i64 3]) (by simp [results, Tryd.results13, go_sem, headV, hd0, q0, q1, q2, q3]) rfl ⟨_, rfl, vals_nil _, ?_⟩
    exact (((Hb.out.setCell (Nat.le_refl _) _).setCell (Nat.le_refl _) _).setCell (Nat.le_refl _) _).setCell (Nat.le_refl _) _
end Go.Proofs.YtffdlchoaaakdaaDoor
