/- FeedPlays: whatever is done with a feed, the document's own does the same. -/
import Derived.Test.YtlkikkfbennmnaaGreatDoorRefFeed
import Derived.Test.YtlkikkfbennmnaaGreatDoorPlays1
import Derived.Test.YtlkikkfbennmnaaGreatDoorOpenActs
import Derived.Test.YtlkikkfbennmnaaGreatDoorFeedTwo
import Derived.Test.YtlkikkfbennmnaaGreatDoorEqPc
import Derived.Test.YtlkikkfbennmnaaGreatDoorBare
namespace Go.Proofs.YtlkikkfbennmnaaGreatDoor
open Go.RowKit
set_option linter.unusedVariables false
set_option maxRecDepth 100000 in
set_option maxHeartbeats 4000000 in
theorem feedPlays_any (a : Int) (l : List Ac) (v : Value) (w : World) (wf : (Lit.int .i64 a).wf = true) (hv : ActsV w v l) (hn : (∀ q ∈ l, (-9223372036854775808 ≤ q.n ∧ q.n ≤ 9223372036854775807)) ∧ sumA l ≤ 1048576) (hg : ErrCell w) (hm : MaxCell w) :
    Calls Tryz.prog 9 #[.int .i64 a, v] w fun e w' => e = .returned (.bool true) ∧ Below w.heap.size w w' := by
  obtain ⟨pl, cl, rfl⟩ := hv.form
  have ha : I64 a := by simpa [Lit.wf, IntKind.min, IntKind.max, IntKind.signed, IntKind.bits, I64] using wf
  have hlen := sumA_len l
  have HV := Lib.hid hv
  have Hn := Lib.hid hn.1
  have Hs := Lib.hid hn.2
  have Hg := Lib.hid hg
  have Hm := Lib.hid hm
  have Ha := Lib.hid ha
  have hsum := hn.2
  have hlI : (l.length : Int) ≤ 1048576 := by omega
  clear hv hn hg hm ha wf
  go_enter Tryz.func9, Tryz.ntmps9
  go_wp2_with fail
  go_loopw [5, 34] (fun n i wr => ∃ j : Nat, j ≤ l.length ∧ i = .int .i64 j ∧ n = .int .i64 (sumA (l.take j) : Nat) ∧ Below w.heap.size w wr) (fun _ i _ => l.length - (intOf i).toNat)
  case atStart => exact ⟨0, Nat.zero_le _, rfl, rfl, Below.refl _ _⟩
  case round =>
    obtain ⟨j, hj, rfl, rfl, hb⟩ := hrel
    have Hb := Lib.hid hb
    by_cases hlt : j < l.length
    · obtain ⟨b, o, rfl, c0, c1, c2⟩ := (HV.out.later hb).cell hlt
      have hst := sumA_take l j hlt
      have hsl := sumA_le l (j + 1)
      generalize l[j] = q at *
      obtain ⟨qk, qn, qs⟩ := q
      simp only at c0 c1 c2 hst
      generalize hS1 : sumA (l.take j) = s1 at *
      generalize hS2 : sumA (l.take (j + 1)) = s2 at *
      have i1 : (s1 : Int) + (1 + (qs.length : Int)) ≤ 1048576 := by omega
      have HS2 := Lib.hid hS2
      have Hst := Lib.hid hst
      clear hb hS1 hS2 hst hsl
      go_wp2_with fail
      go_roundw
      case rel => exact ⟨j + 1, by omega, by go_num, by rw [HS2.out, Hst.out]; go_num, Hb.out.alloc Hb.out.size _⟩
      case measure => simp [intOf]; omega
    · obtain rfl : j = l.length := by omega
      clear hb
      rw [List.take_length]
      by_cases h4 : 4000 < sumA l
      · have i4 : (4000 : Int) < (sumA l : Int) := by omega
        clear h4 hsum
        go_wp2_with fail
        go_ret
        exact ⟨rfl, Hb.out⟩
      have i4 : (sumA l : Int) ≤ 4000 := by omega
      have H4 := Lib.hid (show sumA l ≤ 4000 by omega)
      clear h4 hsum hlt hj
      by_cases hab : a < 0 ∨ 100000 < a
      · have N := Lib.hid (new_bad a wr hab)
        have Br := Lib.hid (bare_err 2 wr (Hg.out.later Hb.out))
        rcases hab with h | h
        all_goals
          go_wp2_with fail
          refine N.out.mono ?_
          rintro e w2 ⟨rfl, rfl⟩
          go_wp2_with fail
          refine Br.out.mono ?_
          rintro e w3 ⟨rfl, hb3⟩
          go_wp2_with fail
          go_ret
          exact ⟨rfl, below_then Hb.out hb3⟩
      obtain ⟨n, rfl⟩ : ∃ n : Nat, a = n := ⟨a.toNat, by omega⟩
      have i5 : (n : Int) ≤ 100000 := by omega
      have N := Lib.hid (new_ok n wr (by omega))
      clear hab
      go_wp2_with fail
      refine N.out.mono ?_
      rintro e w2 ⟨fb, H2, rfl, hF, hb⟩
      have Hb2 := Lib.hid (below_then Hb.out hb)
      have HF2 := Lib.hid (hF.mono Hb.out.size)
      obtain ⟨rb, hrb⟩ : ∃ rb, w2.heap.size = rb := ⟨_, rfl⟩
      have hbr := (Below.refl w2.heap.size w2).alloc (Nat.le_refl _) (.cells #[.string (S []), .int .i64 (n : Int), .int .i64 0, .bool false] 76)
      have Hb3 := Lib.hid (below_then Hb2.out hbr)
      have HF3 := Lib.hid (HF2.out.later hbr)
      have HR3 := Lib.hid (show RBlk (w2.alloc (.cells #[.string (S []), .int .i64 (n : Int), .int .i64 0, .bool false] 76)) rb 76 ⟨n, 0, [], false⟩ from hrb ▸ Blk.new w2 _ _)
      have Hn3 := Lib.hid (show ¬ H2 rb from fun hh => by have := (HF2.out.base _ hh).2; omega)
      have Hrb := Lib.hid (show w.heap.size ≤ rb by have := Hb2.out.size; omega)
      clear hF hb N Hb hbr Hb2 HF2
      go_wp2_with fail
      try simp only [hrb]
      clear hrb
      go_loopw [75] (fun i wr => ∃ (j : Nat) (F : Fe) (H : Nat → Prop), j ≤ l.length ∧ i = .int .i64 j ∧ FeedAt wr w.heap.size H fb F ∧ RBlk wr rb 76 F ∧ ¬ H rb ∧ (F.bad = true → F.kept = []) ∧ F.kept.length ≤ sumA (l.take j) ∧ Below w.heap.size w wr) (fun i _ => l.length - (intOf i).toNat)
      case atStart => exact ⟨0, _, _, Nat.zero_le _, rfl, HF3.out, HR3.out, Hn3.out, fun _ => rfl, Nat.zero_le _, Hb3.out⟩
      case round =>
        obtain ⟨j, F, H, hj, rfl, hF, hR, hnr, hbad, hkl, hb⟩ := hrel
        clear HF3 HR3 Hn3 Hb3
        by_cases hlt : j < l.length
        case neg =>
          obtain rfl : j = l.length := by omega
          have Hb := Lib.hid hb
          clear hF hR hnr hbad hkl hb
          go_wp2_with fail
          go_ret
          exact ⟨rfl, Hb.out⟩
        obtain ⟨b, o, rfl, c0, c1, c2⟩ := (HV.out.later hb).cell hlt
        have hst := sumA_take l j hlt
        have hsl := sumA_le l (j + 1)
        have hq := Hn.out l[j] (List.getElem_mem hlt)
        generalize l[j] = q at *
        obtain ⟨qk, qn, qs⟩ := q
        simp only at c0 c1 c2 hst hq
        have h4 := H4.out
        have hb1 := (Below.refl wr.heap.size wr).alloc (Nat.le_refl _) (.cells #[.int .i64 qk, .int .i64 qn, .string (S qs)] 72)
        have hk1 := Blk.new wr #[.int .i64 qk, .int .i64 qn, .string (S qs)] 72
        generalize hW1 : wr.alloc (.cells #[.int .i64 qk, .int .i64 qn, .string (S qs)] 72) = W1 at hb1 hk1
        obtain ⟨k0, k1, k2⟩ := hk1.three
        obtain ⟨lim, mode, kp, bd⟩ := F
        simp only at hkl hbad
        have hab : wr.heap.size ≠ rb := fun e => by have := Blk.lt hR; omega
        have HK := Lib.hid hk1
        have Hab := Lib.hid hab
        have HF := Lib.hid (hF.later hb1)
        have HR := Lib.hid (show RBlk W1 rb 76 ⟨lim, mode, kp, bd⟩ from Blk.later hR hb1)
        have HB := Lib.hid (below_then hb hb1)
        have Hnr := Lib.hid hnr
        have Hbad := Lib.hid hbad
        have Hst := Lib.hid (show kp.length + (1 + qs.length) ≤ sumA (l.take (j + 1)) by omega)
        have Hk4 := Lib.hid (show kp.length + qs.length ≤ 4000 by omega)
        have Hq := Lib.hid hq
        clear hF hR hnr hbad hkl hb hst hsl hq h4 hb1 hk1 hab
        by_cases hq0 : qk = 0
        · subst hq0
          cases bd with
          | true =>
            have P := Lib.hid (put_bad (F := ⟨lim, mode, kp, true⟩) qs rfl HF.out (by have := Hk4.out; simp only; omega))
            obtain ⟨q0, q1, q2, q3⟩ := Blk.four HR.out
            simp only at q0 q1 q2 q3
            go_wp2_with fail
            refine P.out.mono ?_
            rintro e w2 ⟨ev, H2, rfl, hE, hF, hK⟩
            obtain rfl := Bare1.iface (n := 6) hE (by decide)
            have Hb2 := Lib.hid (below_op HB.out HF.out hK)
            have Br := Lib.hid (bare_err 6 w2 (Hg.out.later Hb2.out))
            have HR2 := Lib.hid (Blk.work HR.out Hnr.out hK)
            have HF2 := Lib.hid hF
            clear k0 k1 k2 q0 q1 q2 q3 hW1 hE hF hK P
            go_wp2_with fail
            refine Br.out.mono ?_
            rintro e wz ⟨rfl, hb3⟩
            have HFz := Lib.hid (HF2.out.later hb3)
            have HRz := Lib.hid (show RBlk wz rb 76 ⟨lim, mode, kp, true⟩ from Blk.later HR2.out.1 hb3)
            have Hnz := Lib.hid HR2.out.2
            have Hbz := Lib.hid (below_then Hb2.out hb3)
            have Hbadz := Hbad
            have Hlz := Lib.hid (show kp.length ≤ sumA (l.take (j + 1)) by have := Hst.out; omega)
            clear hb3 Br Hb2 HF2 HR2
            have QZ := Lib.hid (fun n => kept_any (HFz.out.kept (W' := wz.drewN n) (fun _ _ => rfl) (Nat.le_refl _)))
            obtain ⟨q0, q1, q2, q3⟩ := Blk.four HRz.out
            have hxx : ((kp.length : Int) != (kp.length : Int)) = false := by simp
            try simp only at q0 q1 q2 q3
            go_wp2_with fail
            go_quiet ((exact quiet_left (QZ.out _)))
            go_wp2_with fail
            go_roundw
            case rel => exact ⟨j + 1, _, _, by omega, by go_num, FeedAt.kept HFz.out (fun _ _ => rfl) (Nat.le_refl _), Blk.drewN HRz.out _, Hnz.out, (by first | exact Hbadz.out | simpa using Hbadz.out), Hlz.out, below_drewN Hbz.out _⟩
            case measure => simp [intOf]; omega
          | false =>
            obtain ⟨q0, q1, q2, q3⟩ := Blk.four HR.out
            simp only at q0 q1 q2 q3
            have e0 := Blk.frozen HR.out 0
            have hcc : ¬ 9223372036854775807 < kp.length + qs.length := by have := Hk4.out; omega
            go_wp2_with fail
            go_region
            all_goals
              have hks := (Keeps.cell (N := W1.heap.size) (w := W1) (H := fun k => k = rb) rfl 0 (.string (S (kp ++ qs)))).below HB.out.size (fun k hk => by have hk' : k = rb := hk; rw [hk']; exact Hrb.out)
              have hBp := (HB.out.trans hks).drew
              have hFp := FeedAt.kept HF.out (W' := (W1.setCell ⟨rb, 0, none⟩ (.string (S (kp ++ qs)))).drew) (fun k hk => setCell_heap_other (fun e => Hnr.out (by subst e; exact hk)) _) hks.size
              have hRp : RBlk (W1.setCell ⟨rb, 0, none⟩ (.string (S (kp ++ qs)))).drew rb 76 ⟨lim, mode, kp ++ qs, false⟩ := Blk.set HR.out 0 _
              have hKp : Blk (W1.setCell ⟨rb, 0, none⟩ (.string (S (kp ++ qs)))).drew wr.heap.size #[.int .i64 0, .int .i64 qn, .string (S qs)] 72 := HK.out.other Hab.out _
              generalize (W1.setCell ⟨rb, 0, none⟩ (.string (S (kp ++ qs)))).drew = W2 at hBp hFp hRp hKp ⊢
              have HFp := Lib.hid hFp
              have HRp := Lib.hid hRp
              have HBp := Lib.hid hBp
              clear k0 k1 k2 q0 q1 q2 q3 e0 hW1 hks
              obtain ⟨k0, k1, k2⟩ := hKp.three
              clear hBp hFp hRp hKp
              have P := Lib.hid (put_good qs (kp ++ qs) rfl (by have := Hk4.out; rw [List.length_append]; omega) HFp.out)
              go_wp2_with fail
              refine P.out.mono ?_
              rintro e wz ⟨ev, H2, rfl, hE, hF, hK⟩
              obtain rfl := hE.zero
              have Hb2 := Lib.hid (below_op HBp.out HFp.out hK)
              have HR2 := Lib.hid (Blk.work HRp.out Hnr.out hK)
              have HF2 := Lib.hid hF
              clear k0 k1 k2 hE hF hK P
              go_wp2_with fail
              refine (bare_nil _).mono ?_
              rintro e w3 ⟨rfl, rfl⟩
              have HFz := HF2
              have HRz := Lib.hid HR2.out.1
              have Hnz := Lib.hid HR2.out.2
              have Hbz := Hb2
              have Hbadz := Lib.hid (show (⟨lim, mode, kp ++ qs, false⟩ : Fe).bad = true → (⟨lim, mode, kp ++ qs, false⟩ : Fe).kept = [] from fun h => by simp at h)
              have Hlz := Lib.hid (show (kp ++ qs).length ≤ sumA (l.take (j + 1)) by have := Hst.out; rw [List.length_append]; omega)
              clear Hb2 HF2 HR2
              generalize hkq : kp ++ qs = kq at *
              have QZ := Lib.hid (fun n => kept_any (HFz.out.kept (W' := wz.drewN n) (fun _ _ => rfl) (Nat.le_refl _)))
              obtain ⟨q0, q1, q2, q3⟩ := Blk.four HRz.out
              have hxx : ((kq.length : Int) != (kq.length : Int)) = false := by simp
              try simp only at q0 q1 q2 q3
              go_wp2_with fail
              go_quiet ((exact quiet_left (QZ.out _)))
              go_wp2_with fail
              go_roundw
              case rel => exact ⟨j + 1, _, _, by omega, by go_num, FeedAt.kept HFz.out (fun _ _ => rfl) (Nat.le_refl _), Blk.drewN HRz.out _, Hnz.out, (by first | exact Hbadz.out | simpa using Hbadz.out), Hlz.out, below_drewN Hbz.out _⟩
              case measure => simp [intOf]; omega
        have z0 : (qk == 0) = false := by simp [hq0]
        by_cases hq1 : qk = 1
        · subst hq1
          by_cases hok : okM qn
          case neg =>
            have M := mode_any qn Hq.out HF.out
            unfold modeF at M
            rw [if_pos hok] at M
            have M := Lib.hid M
            have hd : qn < 0 ∨ 3 < qn := by simp [okM] at hok; omega
            clear hok
            rcases hd with hd | hd
            all_goals
              go_wp2_with fail
              refine M.out.mono ?_
              rintro e w2 ⟨ev, H2, rfl, hE, hF, hK⟩
              obtain rfl := Bare1.iface (n := 1) hE (by decide)
              have Hb2 := Lib.hid (below_op HB.out HF.out hK)
              have Br := Lib.hid (bare_err 1 w2 (Hg.out.later Hb2.out))
              have HR2 := Lib.hid (Blk.work HR.out Hnr.out hK)
              have HF2 := Lib.hid hF
              clear k0 k1 k2 hW1 hE hF hK M
              go_wp2_with fail
              refine Br.out.mono ?_
              rintro e wz ⟨rfl, hb3⟩
              have HFz := Lib.hid (HF2.out.later hb3)
              have HRz := Lib.hid (show RBlk wz rb 76 ⟨lim, mode, kp, bd⟩ from Blk.later HR2.out.1 hb3)
              have Hnz := Lib.hid HR2.out.2
              have Hbz := Lib.hid (below_then Hb2.out hb3)
              have Hbadz := Hbad
              have Hlz := Lib.hid (show kp.length ≤ sumA (l.take (j + 1)) by have := Hst.out; omega)
              clear hb3 Br Hb2 HF2 HR2
              have QZ := Lib.hid (fun n => kept_any (HFz.out.kept (W' := wz.drewN n) (fun _ _ => rfl) (Nat.le_refl _)))
              obtain ⟨q0, q1, q2, q3⟩ := Blk.four HRz.out
              have hxx : ((kp.length : Int) != (kp.length : Int)) = false := by simp
              try simp only at q0 q1 q2 q3
              go_wp2_with fail
              go_quiet ((exact quiet_left (QZ.out _)))
              go_wp2_with fail
              go_roundw
              case rel => exact ⟨j + 1, _, _, by omega, by go_num, FeedAt.kept HFz.out (fun _ _ => rfl) (Nat.le_refl _), Blk.drewN HRz.out _, Hnz.out, (by first | exact Hbadz.out | simpa using Hbadz.out), Hlz.out, below_drewN Hbz.out _⟩
              case measure => simp [intOf]; omega
          obtain ⟨m, rfl⟩ : ∃ m : Nat, qn = m := ⟨qn.toNat, by have := hok.1; omega⟩
          have hm3 : m ≤ 3 := by have := hok.2; omega
          have i7 : (m : Int) ≤ 3 := by omega
          obtain ⟨q0, q1, q2, q3⟩ := Blk.four HR.out
          simp only at q0 q1 q2 q3
          clear hok
          cases bd with
          | true =>
            have P := Lib.hid (mode_bad (F := ⟨lim, mode, kp, true⟩) m hm3 rfl HF.out)
            go_wp2_with fail
            refine P.out.mono ?_
            rintro e w2 ⟨ev, H2, rfl, hE, hF, hK⟩
            obtain rfl := Bare1.iface (n := 6) hE (by decide)
            have Hb2 := Lib.hid (below_op HB.out HF.out hK)
            have Br := Lib.hid (bare_err 6 w2 (Hg.out.later Hb2.out))
            have HR2 := Lib.hid (Blk.work HR.out Hnr.out hK)
            have HF2 := Lib.hid hF
            clear k0 k1 k2 q0 q1 q2 q3 hW1 hE hF hK P
            go_wp2_with fail
            refine Br.out.mono ?_
            rintro e wz ⟨rfl, hb3⟩
            have HFz := Lib.hid (HF2.out.later hb3)
            have HRz := Lib.hid (show RBlk wz rb 76 ⟨lim, mode, kp, true⟩ from Blk.later HR2.out.1 hb3)
            have Hnz := Lib.hid HR2.out.2
            have Hbz := Lib.hid (below_then Hb2.out hb3)
            have Hbadz := Hbad
            have Hlz := Lib.hid (show kp.length ≤ sumA (l.take (j + 1)) by have := Hst.out; omega)
            clear hb3 Br Hb2 HF2 HR2
            have QZ := Lib.hid (fun n => kept_any (HFz.out.kept (W' := wz.drewN n) (fun _ _ => rfl) (Nat.le_refl _)))
            obtain ⟨q0, q1, q2, q3⟩ := Blk.four HRz.out
            have hxx : ((kp.length : Int) != (kp.length : Int)) = false := by simp
            try simp only at q0 q1 q2 q3
            go_wp2_with fail
            go_quiet ((exact quiet_left (QZ.out _)))
            go_wp2_with fail
            go_roundw
            case rel => exact ⟨j + 1, _, _, by omega, by go_num, FeedAt.kept HFz.out (fun _ _ => rfl) (Nat.le_refl _), Blk.drewN HRz.out _, Hnz.out, (by first | exact Hbadz.out | simpa using Hbadz.out), Hlz.out, below_drewN Hbz.out _⟩
            case measure => simp [intOf]; omega
          | false =>
            have hks := (Keeps.cell (N := W1.heap.size) (w := W1) (H := fun k => k = rb) rfl 2 (.int .i64 (m : Int))).below HB.out.size (fun k hk => by have hk' : k = rb := hk; rw [hk']; exact Hrb.out)
            have HBp := Lib.hid (HB.out.trans hks)
            have HFp := Lib.hid (FeedAt.kept HF.out (W' := W1.setCell ⟨rb, 2, none⟩ (.int .i64 (m : Int))) (fun k hk => setCell_heap_other (fun e => Hnr.out (by subst e; exact hk)) _) hks.size)
            have HRp := Lib.hid (show RBlk (W1.setCell ⟨rb, 2, none⟩ (.int .i64 (m : Int))) rb 76 ⟨lim, m, kp, false⟩ from Blk.set HR.out 2 _)
            have hKp : Blk (W1.setCell ⟨rb, 2, none⟩ (.int .i64 (m : Int))) wr.heap.size #[.int .i64 1, .int .i64 (m : Int), .string (S qs)] 72 := HK.out.other Hab.out _
            have e2 := Blk.frozen HR.out 2
            obtain ⟨g0, g1, g2⟩ := hKp.three
            clear hks hKp
            generalize hW2 : W1.setCell ⟨rb, 2, none⟩ (.int .i64 (m : Int)) = W2 at HBp HFp HRp g0 g1 g2
            have P := Lib.hid (mode_good m hm3 HFp.out)
            go_wp2_with fail
            refine P.out.mono ?_
            rintro e wz ⟨ev, H2, rfl, hE, hF, hK⟩
            obtain rfl := hE.zero
            have Hb2 := Lib.hid (below_op HBp.out HFp.out hK)
            have HR2 := Lib.hid (Blk.work HRp.out Hnr.out hK)
            have HF2 := Lib.hid hF
            clear k0 k1 k2 q0 q1 q2 q3 g0 g1 g2 e2 hW1 hW2 hE hF hK P
            go_wp2_with fail
            refine (bare_nil _).mono ?_
            rintro e w3 ⟨rfl, rfl⟩
            have HFz := HF2
            have HRz := Lib.hid HR2.out.1
            have Hnz := Lib.hid HR2.out.2
            have Hbz := Hb2
            have Hbadz := Lib.hid (show (⟨lim, m, kp, false⟩ : Fe).bad = true → (⟨lim, m, kp, false⟩ : Fe).kept = [] from fun h => by simp at h)
            have Hlz := Lib.hid (show kp.length ≤ sumA (l.take (j + 1)) by have := Hst.out; omega)
            clear Hb2 HF2 HR2
            have QZ := Lib.hid (fun n => kept_any (HFz.out.kept (W' := wz.drewN n) (fun _ _ => rfl) (Nat.le_refl _)))
            obtain ⟨q0, q1, q2, q3⟩ := Blk.four HRz.out
            have hxx : ((kp.length : Int) != (kp.length : Int)) = false := by simp
            try simp only at q0 q1 q2 q3
            go_wp2_with fail
            go_quiet ((exact quiet_left (QZ.out _)))
            go_wp2_with fail
            go_roundw
            case rel => exact ⟨j + 1, _, _, by omega, by go_num, FeedAt.kept HFz.out (fun _ _ => rfl) (Nat.le_refl _), Blk.drewN HRz.out _, Hnz.out, (by first | exact Hbadz.out | simpa using Hbadz.out), Hlz.out, below_drewN Hbz.out _⟩
            case measure => simp [intOf]; omega
        have z1 : (qk == 1) = false := by simp [hq1]
        by_cases hq2 : qk = 2
        · subst hq2
          have hbz := next_bad (F := ⟨lim, mode, kp, bd⟩) Hbad.out
          have hkz := next_keep ⟨lim, mode, kp, bd⟩
          have hok := next_pcok ⟨lim, mode, kp, bd⟩
          have R := rnext_any HF.out.ok Hbad.out (by have := Hk4.out; simp only; omega) HR.out
          obtain ⟨X, hX⟩ : ∃ X, nextF ⟨lim, mode, kp, bd⟩ = X := ⟨_, rfl⟩
          rw [hX] at hbz hkz hok R
          obtain ⟨⟨q, bq, er⟩, ⟨lim', mode', kq, bd'⟩⟩ := X
          simp only at hbz hkz hok
          have HX := Lib.hid hX
          have Hbadz := Lib.hid hbz
          have Hok := Lib.hid hok
          have Hlz := Lib.hid (show kq.length ≤ sumA (l.take (j + 1)) by have := Hst.out; omega)
          have R := Lib.hid R
          clear hX hbz hok hkz
          go_wp2_with fail
          refine R.out.mono ?_
          rintro e w2 ⟨vv, va, rfl, hP, hR, hK⟩
          obtain ⟨⟨pv, nv, cv, rfl⟩, ⟨pa, na, ca, rfl⟩⟩ := hP.sl
          have hF2 := HF.out.other (B' := 0) (fb' := 0) hK (fun k hk e => Hnr.out (by have e' : k = rb := e; rwa [e'] at hk))
          have hb2 := HB.out.trans (hK.below HB.out.size (fun k hk => by have hk' : k = rb := hk; rw [hk']; exact Hrb.out))
          have hbn := (Below.refl w2.heap.size w2).alloc (Nat.le_refl _) (.cells #[.int .i64 q.p.h.op, .bool q.p.h.now, .int .i64 q.p.h.fl, .slice pv nv cv, .slice pa na ca, .string (S q.p.d), .string (S q.sp)] 47)
          have hk3 := Blk.new w2 #[.int .i64 q.p.h.op, .bool q.p.h.now, .int .i64 q.p.h.fl, .slice pv nv cv, .slice pa na ca, .string (S q.p.d), .string (S q.sp)] 47
          have hpH : ¬ H w2.heap.size := fun hh => by have := (hF2.base _ hh).2; omega
          generalize hW3 : w2.alloc (.cells #[.int .i64 q.p.h.op, .bool q.p.h.now, .int .i64 q.p.h.fl, .slice pv nv cv, .slice pa na ca, .string (S q.p.d), .string (S q.sp)] 47) = W3 at hbn hk3
          generalize hpb : w2.heap.size = pb at hk3 hpH
          have HK3 := Lib.hid hk3
          have HpH := Lib.hid hpH
          have HP3 := Lib.hid (hP.later hbn)
          have HR3 := Lib.hid (show RBlk W3 rb 76 ⟨lim', mode', kq, bd'⟩ from Blk.later hR hbn)
          have HF3 := Lib.hid (hF2.later hbn)
          have Hb3 := Lib.hid (below_then hb2 hbn)
          have X3 := fnext_any (by have := Hk4.out; simp only; omega) (Hm.out.later Hb3.out) (Hg.out.later Hb3.out) HF3.out
          rw [HX.out] at X3
          have X3 := Lib.hid X3
          clear hP hR hK hF2 hb2 hbn hk3 hpH R k0 k1 k2
          unfold pcV
          simp only
          go_wp2_with fail
          refine X3.out.mono ?_
          rintro e w4 ⟨vv', va', ev, H4, rfl, hP', hE, hF, hK⟩
          obtain ⟨⟨pv', nv', cv', rfl⟩, ⟨pa', na', ca', rfl⟩⟩ := hP'.sl
          obtain rfl := hE.v
          have hb4 := below_op Hb3.out HF3.out hK
          have hbn := (Below.refl w4.heap.size w4).alloc (Nat.le_refl _) (.cells #[.int .i64 q.p.h.op, .bool q.p.h.now, .int .i64 q.p.h.fl, .slice pv' nv' cv', .slice pa' na' ca', .string (S q.p.d), .string (S q.sp)] 47)
          have hk5 := Blk.new w4 #[.int .i64 q.p.h.op, .bool q.p.h.now, .int .i64 q.p.h.fl, .slice pv' nv' cv', .slice pa' na' ca', .string (S q.p.d), .string (S q.sp)] 47
          have hk5' := ((Blk.work HK3.out HpH.out hK).1).later hbn
          have hR4 := Blk.work HR3.out Hnr.out hK
          generalize hW5 : w4.alloc (.cells #[.int .i64 q.p.h.op, .bool q.p.h.now, .int .i64 q.p.h.fl, .slice pv' nv' cv', .slice pa' na' ca', .string (S q.p.d), .string (S q.sp)] 47) = W5 at hbn hk5 hk5'
          generalize hqb : w4.heap.size = qb at hk5
          have hb5 := below_then hb4 hbn
          have Br := Lib.hid (bare_any er W5 (Hg.out.later hb5))
          have HKp := Lib.hid hk5'
          have HKq := Lib.hid hk5
          have HPp := Lib.hid ((HP3.out.work HF3.out hK).later hbn)
          have HPq := Lib.hid (hP'.off.later hbn)
          have HR5 := Lib.hid (show RBlk W5 rb 76 ⟨lim', mode', kq, bd'⟩ from Blk.later hR4.1 hbn)
          have Hnz := Lib.hid hR4.2
          have HF5 := Lib.hid (hF.later hbn)
          have Hb5 := Lib.hid hb5
          have hbb : (bq != bq) = false := by simp
          clear hP' hE hF hK hb4 hbn hk5 hk5' hR4 hb5 HK3 HP3 HR3 HF3 Hb3 X3
          unfold pcV
          simp only
          go_wp2_with fail
          refine Br.out.mono ?_
          rintro e w6 ⟨rfl, hb6⟩
          obtain ⟨r0, r1, r2, r3, r4, r5, r6⟩ := (HKp.out.later hb6).seven
          obtain ⟨t0, t1, t2, t3, t4, t5, t6⟩ := (HKq.out.later hb6).seven
          have C := Lib.hid (plays1_any q _ _ _ _ _ _ _ _ _ _ _ _ w6 (HPp.out.later hb6) (HPq.out.later hb6) Hok.out)
          have Hb6 := Lib.hid hb6
          clear hb6 Br
          go_wp2_with fail
          refine C.out.mono ?_
          rintro e wz ⟨rfl, hb7⟩
          have hb67 := below_then Hb6.out hb7
          have HFz := Lib.hid (HF5.out.later hb67)
          have HRz := Lib.hid (show RBlk wz rb 76 ⟨lim', mode', kq, bd'⟩ from Blk.later HR5.out hb67)
          have Hbz := Lib.hid (below_then Hb5.out hb67)
          clear hb7 hb67 C r0 r1 r2 r3 r4 r5 r6 t0 t1 t2 t3 t4 t5 t6 HKp HKq HPp HPq HR5 HF5 Hb5 Hb6 hbb
          have QZ := Lib.hid (fun n => kept_any (HFz.out.kept (W' := wz.drewN n) (fun _ _ => rfl) (Nat.le_refl _)))
          obtain ⟨q0, q1, q2, q3⟩ := Blk.four HRz.out
          have hxx : ((kq.length : Int) != (kq.length : Int)) = false := by simp
          try simp only at q0 q1 q2 q3
          go_wp2_with fail
          go_quiet ((exact quiet_left (QZ.out _)))
          go_wp2_with fail
          go_roundw
          case rel => exact ⟨j + 1, _, _, by omega, by go_num, FeedAt.kept HFz.out (fun _ _ => rfl) (Nat.le_refl _), Blk.drewN HRz.out _, Hnz.out, (by first | exact Hbadz.out | simpa using Hbadz.out), Hlz.out, below_drewN Hbz.out _⟩
          case measure => simp [intOf]; omega
        have z2 : (qk == 2) = false := by simp [hq2]
        by_cases hq3 : qk = 3
        · subst hq3
          have hbz := all_bad (kp.length + 1) ⟨lim, mode, kp, bd⟩ (by simp) Hbad.out
          have hok := all_pcok (kp.length + 1) ⟨lim, mode, kp, bd⟩ (by simp)
          have hD := all_done (kp.length + 1) ⟨lim, mode, kp, bd⟩ (by simp) HF.out.ok
          have hln := all_len (kp.length + 1) ⟨lim, mode, kp, bd⟩ (by simp)
          have A := fall_any (by have := Hk4.out; simp only; omega) (HF.out.gl HB.out Hm.out Hg.out) HF.out
          obtain ⟨X, hX⟩ : ∃ X, allF ⟨lim, mode, kp, bd⟩ = X := ⟨_, rfl⟩
          rw [hX] at hbz hok hD hln A
          obtain ⟨L, er, F'⟩ := X
          have hkz : F'.kept.length ≤ kp.length := hD.2.2.2.1
          simp only at hbz hok hln
          have HX := Lib.hid hX
          have Hbadz := Lib.hid hbz
          have Hok := Lib.hid hok
          have Hlz := Lib.hid (show F'.kept.length ≤ sumA (l.take (j + 1)) by have := Hst.out; omega)
          have A := Lib.hid A
          have HLl := Lib.hid (show L.length ≤ 4000 by have := Hk4.out; omega)
          have iL : (L.length : Int) ≤ 4000 := by have := HLl.out; omega
          clear hX hbz hok hD hln hkz
          go_wp2_with fail
          refine A.out.mono ?_
          rintro e w2 ⟨v, ev, H', rfl, hV, hE, hF, hK⟩
          obtain rfl := hE.v
          have hV' := hV.off.1.pcs
          obtain ⟨p2, c2', rfl⟩ := hV'.form
          have hR2 := Blk.work HR.out Hnr.out hK
          have HV2 := Lib.hid hV'
          have HR2 := Lib.hid hR2.1
          have Hnz := Lib.hid hR2.2
          have HF2 := Lib.hid hF
          have Hb2 := Lib.hid (below_op HB.out HF.out hK)
          clear hV hV' hE hF hK hR2 A k0 k1 k2
          go_wp2_with fail
          go_loopw [170] (fun i wq => ∃ (i' : Nat) (G : Fe), i' ≤ L.length ∧ i = .int .i64 i' ∧ allF G = (L.drop i', er, F') ∧ FeOk G ∧ (G.bad = true → G.kept = []) ∧ G.kept.length ≤ 4000 ∧ RBlk wq rb 76 G ∧ FeedAt wq w.heap.size H' fb F' ∧ PcsV wq (.slice p2 L.length c2') L ∧ Below w.heap.size w wq) (fun i _ => L.length - (intOf i).toNat)
          case atStart => exact ⟨0, _, Nat.zero_le _, rfl, HX.out, HF.out.ok, Hbad.out, (by have := Hk4.out; simp only; omega), HR2.out, HF2.out, HV2.out, Hb2.out⟩
          case round =>
            obtain ⟨i', G, hi, rfl, hall, hgok, hgb, hgk, hR, hF, hV, hb⟩ := hrel
            clear HX HF HR HR2 HF2 HV2 Hb2 HB
            by_cases hil : i' < L.length
            · obtain ⟨b', o', rfl, hjc', pv', nv', cv', pa', na', ca', hP', g0, g1, g2, g3, g4, g5, g6⟩ := hV.cells hil
              have hqok := Hok.out L[i'] (List.getElem_mem hil)
              rw [List.drop_eq_getElem_cons hil] at hall
              generalize L[i'] = q at *
              obtain ⟨G', hng, hall'⟩ := all_cons hall
              have hbg := next_bad hgb
              have hkg := next_keep G
              have hokg := next_ok hgok
              rw [hng] at hbg hkg hokg
              simp only at hbg hkg hokg
              have hbn := (Below.refl wr.heap.size wr).alloc (Nat.le_refl _) (.cells #[.int .i64 q.p.h.op, .bool q.p.h.now, .int .i64 q.p.h.fl, .slice pv' nv' cv', .slice pa' na' ca', .string (S q.p.d), .string (S q.sp)] 47)
              have hk3 := Blk.new wr #[.int .i64 q.p.h.op, .bool q.p.h.now, .int .i64 q.p.h.fl, .slice pv' nv' cv', .slice pa' na' ca', .string (S q.p.d), .string (S q.sp)] 47
              generalize hW3 : wr.alloc (.cells #[.int .i64 q.p.h.op, .bool q.p.h.now, .int .i64 q.p.h.fl, .slice pv' nv' cv', .slice pa' na' ca', .string (S q.p.d), .string (S q.sp)] 47) = W3 at hbn hk3
              generalize hpb : wr.heap.size = pb at hk3
              have hne : pb ≠ rb := fun e => by have := Blk.lt hR; omega
              have hR3 : RBlk W3 rb 76 G := Blk.later hR hbn
              have R := rnext_any hgok hgb (by omega) hR3
              rw [hng] at R
              have HK3 := Lib.hid hk3
              have HP3 := Lib.hid (hP'.later hbn)
              have HR3 := Lib.hid hR3
              have HV3 := Lib.hid (hV.later hbn)
              have HF3 := Lib.hid (hF.later hbn)
              have Hb3 := Lib.hid (below_then hb hbn)
              have R := Lib.hid R
              have Hall := Lib.hid hall'
              have Hbg := Lib.hid hbg
              have Hkg := Lib.hid (show G'.kept.length ≤ 4000 by omega)
              have Hokg := Lib.hid hokg
              have Hne := Lib.hid hne
              have Hqok := Lib.hid hqok
              clear hall hgok hgb hgk hR hF hV hb hP' hng hall' hbg hkg hokg hbn hk3 hR3 hqok hne
              go_wp2_with fail
              refine R.out.mono ?_
              rintro e w4 ⟨vv, va, rfl, hP, hR, hK⟩
              obtain ⟨⟨pv, nv, cv, rfl⟩, ⟨pa, na, ca, rfl⟩⟩ := hP.sl
              have hbk : ∀ k, k ≠ rb → k < W3.heap.size → w4.heap[k]? = W3.heap[k]? := fun k hk hlt => hK.block k hlt hk
              have hF4 := HF3.out.other (B' := 0) (fb' := 0) hK (fun k hk e => Hnz.out (by have e' : k = rb := e; rwa [e'] at hk))
              have hb4 := Hb3.out.trans (hK.below Hb3.out.size (fun k hk => by have hk' : k = rb := hk; rw [hk']; exact Hrb.out))
              have hk4 : Blk w4 pb #[.int .i64 q.p.h.op, .bool q.p.h.now, .int .i64 q.p.h.fl, .slice pv' nv' cv', .slice pa' na' ca', .string (S q.p.d), .string (S q.sp)] 47 := (hbk pb Hne.out HK3.out.lt).trans HK3.out
              have hV4 := HV3.out.apartR HR3.out hbk
              have hP4 := HP3.out.apartR HR3.out hbk
              have hbn := (Below.refl w4.heap.size w4).alloc (Nat.le_refl _) (.cells #[.int .i64 q.p.h.op, .bool q.p.h.now, .int .i64 q.p.h.fl, .slice pv nv cv, .slice pa na ca, .string (S q.p.d), .string (S q.sp)] 47)
              have hk5 := Blk.new w4 #[.int .i64 q.p.h.op, .bool q.p.h.now, .int .i64 q.p.h.fl, .slice pv nv cv, .slice pa na ca, .string (S q.p.d), .string (S q.sp)] 47
              generalize hW5 : w4.alloc (.cells #[.int .i64 q.p.h.op, .bool q.p.h.now, .int .i64 q.p.h.fl, .slice pv nv cv, .slice pa na ca, .string (S q.p.d), .string (S q.sp)] 47) = W5 at hbn hk5
              generalize hqb : w4.heap.size = qb at hk5
              have hk4' := Blk.later hk4 hbn
              obtain ⟨r0, r1, r2, r3, r4, r5, r6⟩ := hk5.seven
              obtain ⟨t0, t1, t2, t3, t4, t5, t6⟩ := hk4'.seven
              have C := Lib.hid (plays1_any q _ _ _ _ _ _ _ _ _ _ _ _ W5 (hP.later hbn) (hP4.later hbn) Hqok.out)
              have HR5 := Lib.hid (show RBlk W5 rb 76 G' from Blk.later hR hbn)
              have HF5 := Lib.hid (hF4.later hbn)
              have HV5 := Lib.hid (hV4.later hbn)
              have Hb5 := Lib.hid (below_then hb4 hbn)
              clear hP hR hK hbk hF4 hb4 hk4 hV4 hP4 hbn hk5 hk4' R g0 g1 g2 g3 g4 g5 g6 HK3 HP3 HR3 HV3 HF3 Hb3
              unfold pcV
              simp only
              go_wp2_with fail
              refine C.out.mono ?_
              rintro e wz ⟨rfl, hb7⟩
              have HR7 := Lib.hid (show RBlk wz rb 76 G' from Blk.later HR5.out hb7)
              have HF7 := Lib.hid (HF5.out.later hb7)
              have HV7 := Lib.hid (HV5.out.later hb7)
              have Hb7 := Lib.hid (below_then Hb5.out hb7)
              clear hb7 C r0 r1 r2 r3 r4 r5 r6 t0 t1 t2 t3 t4 t5 t6 HR5 HF5 HV5 Hb5
              go_wp2_with fail
              go_roundw
              case rel => exact ⟨i' + 1, G', by omega, by go_num, Hall.out, Hokg.out, Hbg.out, Hkg.out, HR7.out, HF7.out, HV7.out, Hb7.out⟩
              case measure => simp [intOf]; omega
            · obtain rfl : i' = L.length := by omega
              rw [List.drop_length] at hall
              have hng := all_nil hall
              have R := rnext_any hgok hgb (by omega) hR
              rw [hng] at R
              have R := Lib.hid R
              have HFq := Lib.hid hF
              have Hbq := Lib.hid hb
              clear hall hgok hgb hgk hR hF hV hb hng
              go_wp2_with fail
              refine R.out.mono ?_
              rintro e w4 ⟨vv, va, rfl, hP, hR, hK⟩
              obtain ⟨⟨pv, nv, cv, rfl⟩, ⟨pa, na, ca, rfl⟩⟩ := hP.sl
              have hF4 := HFq.out.other (B' := 0) (fb' := 0) hK (fun k hk e => Hnz.out (by have e' : k = rb := e; rwa [e'] at hk))
              have hb4 := Hbq.out.trans (hK.below Hbq.out.size (fun k hk => by have hk' : k = rb := hk; rw [hk']; exact Hrb.out))
              have hbn := (Below.refl w4.heap.size w4).alloc (Nat.le_refl _) (.cells #[.int .i64 pc0.p.h.op, .bool pc0.p.h.now, .int .i64 pc0.p.h.fl, .slice pv nv cv, .slice pa na ca, .string (S pc0.p.d), .string (S pc0.sp)] 47)
              generalize hW5 : w4.alloc (.cells #[.int .i64 pc0.p.h.op, .bool pc0.p.h.now, .int .i64 pc0.p.h.fl, .slice pv nv cv, .slice pa na ca, .string (S pc0.p.d), .string (S pc0.sp)] 47) = W5 at hbn
              have hb5 := below_then hb4 hbn
              have Br := Lib.hid (bare_any er W5 (Hg.out.later hb5))
              have HR5 := Lib.hid (show RBlk W5 rb 76 F' from Blk.later hR hbn)
              have HF5 := Lib.hid (hF4.later hbn)
              have Hb5 := Lib.hid hb5
              clear hP hR hK hF4 hb4 hbn hb5 R HFq Hbq
              unfold pcV
              simp only
              go_wp2_with fail
              refine Br.out.mono ?_
              rintro e wz ⟨rfl, hb7⟩
              have HFz := Lib.hid (HF5.out.later hb7)
              have HRz := Lib.hid (show RBlk wz rb 76 F' from Blk.later HR5.out hb7)
              have Hbz := Lib.hid (below_then Hb5.out hb7)
              clear hb7 Br HR5 HF5 Hb5 hW5
              obtain ⟨lim', mode', kq, bd'⟩ := F'
              have QZ := Lib.hid (fun n => kept_any (HFz.out.kept (W' := wz.drewN n) (fun _ _ => rfl) (Nat.le_refl _)))
              obtain ⟨q0, q1, q2, q3⟩ := Blk.four HRz.out
              have hxx : ((kq.length : Int) != (kq.length : Int)) = false := by simp
              try simp only at q0 q1 q2 q3
              go_wp2_with fail
              go_quiet ((exact quiet_left (QZ.out _)))
              go_wp2_with fail
              go_roundw
              case rel => exact ⟨j + 1, _, _, by omega, by go_num, FeedAt.kept HFz.out (fun _ _ => rfl) (Nat.le_refl _), Blk.drewN HRz.out _, Hnz.out, (by first | exact Hbadz.out | simpa using Hbadz.out), Hlz.out, below_drewN Hbz.out _⟩
              case measure => simp [intOf]; omega
        have z3 : (qk == 3) = false := by simp [hq3]
        clear k1 k2
        have HFz := HF
        have HRz := HR
        have Hnz := Hnr
        have Hbz := HB
        have Hbadz := Hbad
        have Hlz := Lib.hid (show kp.length ≤ sumA (l.take (j + 1)) by have := Hst.out; omega)
        have QZ := Lib.hid (fun n => kept_any (HFz.out.kept (W' := W1.drewN n) (fun _ _ => rfl) (Nat.le_refl _)))
        obtain ⟨q0, q1, q2, q3⟩ := Blk.four HRz.out
        have hxx : ((kp.length : Int) != (kp.length : Int)) = false := by simp
        try simp only at q0 q1 q2 q3
        go_wp2_with fail
        go_quiet ((exact quiet_left (QZ.out _)))
        go_wp2_with fail
        go_roundw
        case rel => exact ⟨j + 1, _, _, by omega, by go_num, FeedAt.kept HFz.out (fun _ _ => rfl) (Nat.le_refl _), Blk.drewN HRz.out _, Hnz.out, (by first | exact Hbadz.out | simpa using Hbadz.out), Hlz.out, below_drewN Hbz.out _⟩
        case measure => simp [intOf]; omega
end Go.Proofs.YtlkikkfbennmnaaGreatDoor
