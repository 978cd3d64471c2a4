/- md5.stir. -/
import Derived.Test.YtoponmdfjbhnoaaGreatDoorMd5
namespace Go.Proofs.YtoponmdfjbhnoaaGreatDoor
open Go.RowKit
/-- what the two tables of package md5 hold -/
def MdTabs (w : World) : Prop := (∀ i, i < 64 → w.cell? ⟨1, i, none⟩ = some (.int .u32 ((mK.getD i 0 : Nat) : Int))) ∧ (∀ j, j < 16 → w.cell? ⟨2, j, none⟩ = some (.int .i64 ((mSl.getD j 0 : Nat) : Int)))
theorem MdTabs.later {w w' : World} (h : MdTabs w) (hb : Below w.heap.size w w') : MdTabs w' := by
  have l1 := block_lt_of_cell (h.1 0 (by decide))
  have l2 := block_lt_of_cell (h.2 0 (by decide))
  exact ⟨fun i hi => by rw [(bcell hb).1 _ i l1]; exact h.1 i hi, fun j hj => by rw [(bcell hb).1 _ j l2]; exact h.2 j hj⟩
theorem MdTabs.drawn {w : World} (h : MdTabs w) (n : Nat) : MdTabs (w.drewN n) := h
def st4 (s : St) : Array Value := #[.int .u32 (s.1 : Int), .int .u32 (s.2.1 : Int), .int .u32 (s.2.2.1 : Int), .int .u32 (s.2.2.2 : Int)]
theorem mS_bd (i : Nat) (h : i < 64) : 0 < mS i ∧ mS i < 32 := by
  have : ∀ i : Fin 64, 0 < mS i.1 ∧ mS i.1 < 32 := by decide
  exact this ⟨i, h⟩
theorem mG_lt (i : Nat) (h : i < 64) : mG i < 16 := by unfold mG; split <;> (try split) <;> (try split) <;> omega
theorem sum4 (a f k x : Nat) : ((a : Int) + (f : Int) + (k : Int) + (x : Int)) % 4294967296 = (((a + f + k + x) % 4294967296 : Nat) : Int) := by omega
set_option maxRecDepth 100000 in
set_option maxHeartbeats 1000000 in
theorem stir_any (a b c d : Nat) (ws : List Nat) (w : World) (hs : Lt32 (a, b, c, d)) (hw : ws.length = 16) (hwl : ∀ x ∈ ws, x < 4294967296) (ht : MdTabs w) :
    Calls Tryz.prog 36 #[.agg #[.int .u32 a, .int .u32 b, .int .u32 c, .int .u32 d], .agg (words ws)] w fun e w' => e = .returned (.agg (st4 (mStir (a, b, c, d) ws))) ∧ Below w.heap.size w w' := by
  obtain ⟨ha, hb, hc, hd⟩ := hs
  simp only at ha hb hc hd
  have Ht := Lib.hid ht
  have Hwl := Lib.hid hwl
  clear ht hwl
  go_enter Tryz.func36, Tryz.ntmps36
  go_wp2_with fail
  go_quiet (fail)
  go_wp2_with fail
  have hlow : Below w.heap.size w (((w.alloc (.cells #[.int .u32 a, .int .u32 b, .int .u32 c, .int .u32 d] 59)).alloc (.cells (words ws) 83)).alloc (.cells #[.int .u32 0, .int .u32 0, .int .u32 0, .int .u32 0] 59)) := (((Below.refl _ _).alloc (Nat.le_refl _) _).alloc (by simp) _).alloc (by first | (simp; done) | (simp; omega)) _
  have Ht3 := Lib.hid (Ht.out.later hlow)
  have Hlow := Lib.hid hlow
  clear hlow
  go_loopg [5, 6, 7, 8, 21] 65 (fun g va vb vc vd vi wr => ∃ (k n : Nat) (s : St), k ≤ 64 ∧ g + k = 65 ∧ vi = .int .i64 k ∧ mRun ws (a, b, c, d) k = s ∧ va = .int .u32 (s.1 : Nat) ∧ vb = .int .u32 (s.2.1 : Nat) ∧ vc = .int .u32 (s.2.2.1 : Nat) ∧ vd = .int .u32 (s.2.2.2 : Nat) ∧ wr = (((w.alloc (.cells #[.int .u32 a, .int .u32 b, .int .u32 c, .int .u32 d] 59)).alloc (.cells (words ws) 83)).alloc (.cells #[.int .u32 0, .int .u32 0, .int .u32 0, .int .u32 0] 59)).drewN n)
  case atStart => exact ⟨0, nq, (a, b, c, d), by omega, by omega, rfl, rfl, rfl, rfl, rfl, rfl, rfl⟩
  case round =>
    obtain ⟨k, n, s, hk, hg, rfl, hrun, rfl, rfl, rfl, rfl, rfl⟩ := hrel
    have Hg := Lib.hid hg
    clear hg
    have hlt4 := mRun_lt ws (a, b, c, d) ⟨ha, hb, hc, hd⟩ k
    rw [hrun] at hlt4
    by_cases hlt : k < 64
    · have hki : (k : Int) < 64 := by omega
      have hnew : mRun ws (a, b, c, d) (k + 1) = mStep ws k s := by show mStep ws k (mRun ws (a, b, c, d) k) = _; rw [hrun]
      have Hnew := Lib.hid hnew
      clear hnew hrun
      obtain ⟨sa, sb, sc, sd⟩ := s
      obtain ⟨la, lb, lc, ld⟩ := hlt4
      simp only at la lb lc ld
      have hgl := mG_lt k hlt
      have hsb := mS_bd k hlt
      have hn1 := Ht3.out.1 k hlt
      have hn2 := Ht3.out.2 (k / 16 * 4 + k % 4) (by omega)
      have hn3 := words_get ws (mG k) (by omega)
      have hxl := Hwl.out _ (List.getElem_mem (show mG k < ws.length by omega))
      obtain ⟨x, hx⟩ : ∃ x, ws[mG k]'(by omega) = x := ⟨_, rfl⟩
      have hxd : ws.getD (mG k) 0 = x := by rw [List.getD_eq_getElem?_getD, List.getElem?_eq_getElem (by omega), Option.getD_some, hx]
      obtain ⟨kk, hkk⟩ : ∃ x, mK.getD k 0 = x := ⟨_, rfl⟩
      obtain ⟨f, hf⟩ : ∃ x, mF k sb sc sd = x := ⟨_, rfl⟩
      obtain ⟨r, hr⟩ : ∃ x, mS k = x := ⟨_, rfl⟩
      have hr2 : mSl.getD (k / 16 * 4 + k % 4) 0 = r := hr
      have hsum := sum4 sa f kk x
      have hms : mSum ws k (sa, sb, sc, sd) = (sa + f + kk + x) % 4294967296 := by unfold mSum; simp only [hf, hkk, hxd]
      obtain ⟨m, hm⟩ : ∃ m, (sa + f + kk + x) % 4294967296 = m := ⟨_, rfl⟩
      have hm32 : m < 4294967296 := by rw [← hm]; exact Nat.mod_lt _ (by decide)
      have hstep : mStep ws k (sa, sb, sc, sd) = (sd, (sb + rot m r) % 4294967296, sb, sc) := by unfold mStep; rw [hms, hm, hr]
      rw [hkk] at hn1
      rw [hr2] at hn2
      rw [hx] at hn3 hxl
      rw [hm] at hsum
      rw [hr] at hsb
      obtain ⟨hr0, hr32⟩ := hsb
      have hgi : ((mG k : Nat) : Int) < 16 := by omega
      have hq1 : (k : Int) / 16 < 4 := by omega
      have hq2 : 0 ≤ (k : Int) / 16 := by omega
      have hq3 : (k : Int) % 4 < 4 := by omega
      have hq4 : 0 ≤ (k : Int) % 4 := by omega
      have Hstep := Lib.hid hstep
      clear hx hxd hkk hr hr2 hm hms hstep hgl
      go_wp2_with fail
      refine (mixed_any k sb sc sd _ hlt lb lc ld).mono ?_
      rintro e w' ⟨rfl, rfl⟩
      rw [hf]
      clear hf
      go_wp2_with fail
      go_quiet ((go_at_call 60; exact quiet_add_left (rot_any m r _ hm32 hr32 hr0)))
      go_wp2_with fail
      go_roundg (gk - 1)
      case measure => have := Hg.out; omega
      case rel => exact ⟨k + 1, n + nq, (sd, (sb + rot m r) % 4294967296, sb, sc), by omega, by have := Hg.out; omega, by go_num, by rw [Hnew.out, Hstep.out], rfl, congrArg (Value.int .u32) (by show _ = (((sb + rot m r) % 4294967296 : Nat) : Int); omega), rfl, rfl, rfl⟩
    · have hk6 : k = 64 := by omega
      subst hk6
      obtain ⟨sa, sb, sc, sd⟩ := s
      obtain ⟨la, lb, lc, ld⟩ := hlt4
      simp only at la lb lc ld
      have hres : st4 (mStir (a, b, c, d) ws) = #[.int .u32 (((a + sa) % 4294967296 : Nat) : Int), .int .u32 (((b + sb) % 4294967296 : Nat) : Int), .int .u32 (((c + sc) % 4294967296 : Nat) : Int), .int .u32 (((d + sd) % 4294967296 : Nat) : Int)] := by
        unfold mStir; rw [hrun]; rfl
      have Hres := Lib.hid hres
      clear hres hrun
      go_wp2_with fail
      refine bodyPost_ret (v := .agg (st4 (mStir (a, b, c, d) ws))) (by rw [Hres.out]; simp [results, Tryz.results36, go_sem]) rfl ⟨rfl, ?_⟩
      have h2 : w.heap.size ≤ w.heap.size + 1 + 1 := by omega
      exact ((((below_drewN Hlow.out n).setCell h2 _).setCell h2 _).setCell h2 _).setCell h2 _
end Go.Proofs.YtoponmdfjbhnoaaGreatDoor
