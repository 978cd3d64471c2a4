/- target.wrongTarget, wrongPortal, wrongUser. -/
import Derived.Test.YtlcadichpcdgpaaGreatDoorTgtName
import Derived.Test.YtlcadichpcdgpaaGreatDoorGB
namespace Go.Proofs.YtlcadichpcdgpaaGreatDoor
open Go.RowKit Go.Maps
set_option linter.unusedVariables false
set_option maxRecDepth 100000 in
set_option maxHeartbeats 4000000 in
theorem wrongT_any (l : List (List UInt8)) (v : Value) (w : World) (hv : StrV w v l) (hl : l.length ≤ 1000) (hs : ∀ s ∈ l, s.length ≤ 140737488355328) :
    Calls Tryz.prog 31 #[v] w (RetE w (tsBad 0 [] l)) := by
  have HV := Lib.hid hv
  have HS := Lib.hid hs
  obtain ⟨p, c, rfl⟩ := hv.form
  obtain ⟨mb, hmb⟩ : ∃ mb, w.heap.size = mb := ⟨_, rfl⟩
  have hM := BMap.made 9 w
  have hA := (Below.refl w.heap.size w).alloc (Nat.le_refl _) (.map #[] 0)
  obtain ⟨w1, hw1⟩ : ∃ w1, w.alloc (.map #[] 0) = w1 := ⟨_, rfl⟩
  rw [hw1, hmb] at hM
  rw [hw1] at hA
  have HM := Lib.hid (hM.as (g := keyIn (l.take 0)) (fun x => ⟨fun h => h.elim, fun ⟨y, hy, _⟩ => absurd hy List.not_mem_nil⟩))
  have HA := Lib.hid hA
  have Hmb := Lib.hid hmb
  obtain ⟨R, hR⟩ : ∃ R, tsBad 0 [] l = R := ⟨_, rfl⟩
  rw [hR]
  have HR := Lib.hid hR
  have hmm := @run_makeMap Tryz.prog
  clear hv hs hM hA hR
  go_enter Tryz.func31, Tryz.ntmps31
  go_wp2_with fail
  clear hmm
  go_loopw [9] (fun i wr => ∃ j : Nat, j ≤ l.length ∧ i = .int .i64 j ∧ Hid (BMap 9 wr mb j (keyIn (l.take j))) ∧ Hid (tsBad j (l.take j) (l.drop j) = R) ∧ Below w.heap.size w wr) (fun i _ => l.length - (intOf i).toNat)
  case atStart => exact ⟨0, by omega, rfl, HM, Lib.hid HR.out, HA.out⟩
  case round =>
    obtain ⟨j, hj, rfl, Hm, Hr, hb⟩ := hrel
    by_cases hlt : j < l.length
    · obtain ⟨b, o, rfl, q0⟩ := (HV.out.later hb).cell hlt
      have hstep := Hr.out
      rw [List.drop_eq_getElem_cons hlt, tsBad_cons] at hstep
      have hfl := HS.out l[j] (List.getElem_mem hlt)
      have hcat : l.take (j + 1) = l.take j ++ [l[j]] := by rw [List.take_add_one, List.getElem?_eq_getElem hlt]; rfl
      obtain ⟨a, ha⟩ : ∃ a, l[j] = a := ⟨_, rfl⟩
      rw [ha] at q0 hstep hfl hcat
      have EN := Lib.hid (enter_any a mb j (keyIn (l.take j)) wr Hm.out (by omega) hfl)
      have hji : (j : Int) < (l.length : Int) := by omega
      have Hb := Lib.hid hb
      have Hst := Lib.hid hstep
      have Hcat := Lib.hid hcat
      clear hb ha Hm Hr hstep hcat
      go_wp2_with fail
      refine EN.out.mono ?_
      rintro e w2 (⟨hno, rfl, hm2, hg2⟩ | ⟨hyes, rfl, rfl⟩)
      · have hstep := Hst.out
        rw [if_neg (by rintro (h | h); exact hno (.inl h); exact hno (.inr (keyIn_iff.2 h))), ← Hcat.out] at hstep
        have HM2 := Lib.hid (show BMap 9 w2 mb (j + 1) (keyIn (l.take (j + 1))) by rw [Hcat.out]; exact hm2.as (fun x => keyIn_snoc x))
        have Hb2 := Lib.hid (Below.grownB Hb.out hg2 (by have := Hmb.out; omega) Hb.out.size)
        have Hs2 := Lib.hid hstep
        clear hm2 hg2 hno hstep
        go_wp2_with fail
        go_roundw
        case rel => exact ⟨j + 1, by omega, by go_num, HM2, Hs2, Hb2.out⟩
        case measure => simp [intOf]; omega
      · have hstep := Hst.out
        rw [if_pos (by rcases hyes with h | h; exact .inl h; exact .inr (keyIn_iff.1 h))] at hstep
        subst hstep
        clear hyes
        go_wp2_with fail
        go_ret
        exact ⟨_, rfl, .placed _ 5 j (by decide) (by simp) (by simp), Hb.out.alloc Hb.out.size _⟩
    · obtain rfl : j = l.length := by omega
      have hstep := Hr.out
      rw [List.drop_length] at hstep
      subst hstep
      have Hb := Lib.hid hb
      clear hb Hr Hm
      go_wp2_with fail
      go_ret
      exact ⟨_, rfl, .good, Hb.out⟩
set_option maxRecDepth 100000 in
set_option maxHeartbeats 4000000 in
theorem wrongP_any (l : List Po) (v : Value) (w : World) (hv : PosV w v l) (hf : fitPo l) :
    Calls Tryz.prog 32 #[v] w (RetE w (poBad 0 l)) := by
  have HV := Lib.hid hv
  have Hf := Lib.hid hf
  have hl := hf.1
  obtain ⟨p, c, rfl⟩ := hv.form
  obtain ⟨R, hR⟩ : ∃ R, poBad 0 l = R := ⟨_, rfl⟩
  rw [hR]
  have HR := Lib.hid hR
  clear hv hf hR
  go_enter Tryz.func32, Tryz.ntmps32
  go_wp2_with fail
  go_loopw [7] (fun i wr => ∃ j : Nat, j ≤ l.length ∧ i = .int .i64 j ∧ Hid (poBad j (l.drop j) = R) ∧ Below w.heap.size w wr) (fun i _ => l.length - (intOf i).toNat)
  case atStart => exact ⟨0, by omega, rfl, Lib.hid HR.out, Below.refl _ _⟩
  case round =>
    obtain ⟨j, hj, rfl, Hr, hb⟩ := hrel
    by_cases hlt : j < l.length
    · obtain ⟨b, o, rfl, q0, q1⟩ := (HV.out.later hb).cell hlt
      have hstep := Hr.out
      rw [List.drop_eq_getElem_cons hlt, poBad_cons] at hstep
      have hfl := Hf.out.2 l[j] (List.getElem_mem hlt)
      obtain ⟨⟨a, g⟩, ha⟩ : ∃ a, l[j] = a := ⟨_, rfl⟩
      rw [ha] at q0 q1 hstep hfl
      simp only at q0 q1 hstep hfl
      obtain ⟨hf1, hf2, hf3⟩ := hfl
      have NM := Lib.hid (fun W => named_any a W (by omega))
      have Hbl := Lib.hid (Blk.new wr #[.string (S a), .int .i64 g] 50)
      have Hb := Lib.hid (hb.alloc hb.size (.cells #[.string (S a), .int .i64 g] 50))
      have hji : (j : Int) < (l.length : Int) := by omega
      have Hst := Lib.hid hstep
      clear hb ha Hr hstep
      obtain ⟨u0, u1⟩ := Hbl.out.two
      cases hnm : nameOk a with
      | false =>
        rw [hnm] at NM
        have hstep := Hst.out
        rw [if_pos hnm] at hstep
        subst hstep
        go_wp2_with fail
        refine (NM.out _).mono ?_
        rintro e w' ⟨rfl, rfl⟩
        go_wp2_with fail
        go_ret
        exact ⟨_, rfl, .placed _ 5 j (by decide) (by simp) (by simp), Hb.out.alloc Hb.out.size _⟩
      | true =>
        rw [hnm] at NM
        have hstep := Hst.out
        rw [if_neg (by rw [hnm]; decide)] at hstep
        by_cases hg : g < 0 ∨ 65535 < g
        · rw [if_pos hg] at hstep
          subst hstep
          rcases hg with hg | hg
          case' inr => have hg0 : ¬ g < 0 := by omega
          all_goals
            go_wp2_with fail
            refine (NM.out _).mono ?_
            rintro e w' ⟨rfl, rfl⟩
            go_wp2_with fail
            go_ret
            exact ⟨_, rfl, .placed _ 2 j (by decide) (by simp) (by simp), Hb.out.alloc Hb.out.size _⟩
        · rw [if_neg hg] at hstep
          have Hs2 := Lib.hid hstep
          have hg0 : ¬ g < 0 := by omega
          have hg1 : ¬ 65535 < g := by omega
          clear hstep hg
          go_wp2_with fail
          refine (NM.out _).mono ?_
          rintro e w' ⟨rfl, rfl⟩
          go_wp2_with fail
          go_roundw
          case rel => exact ⟨j + 1, by omega, by go_num, Hs2, Hb.out⟩
          case measure => simp [intOf]; omega
    · obtain rfl : j = l.length := by omega
      have hstep := Hr.out
      rw [List.drop_length] at hstep
      subst hstep
      have Hb := Lib.hid hb
      clear hb Hr
      go_wp2_with fail
      go_ret
      exact ⟨_, rfl, .good, Hb.out⟩
set_option maxRecDepth 100000 in
set_option maxHeartbeats 4000000 in
theorem wrongU_any (l : List Us) (v : Value) (w : World) (hv : UsV w v l) (hl : l.length ≤ 1000) (hs : ∀ u ∈ l, u.nm.length ≤ 140737488355328 ∧ u.sc.length ≤ 140737488355328) :
    Calls Tryz.prog 33 #[v] w (RetE w (usBad 0 [] l)) := by
  have HV := Lib.hid hv
  have HS := Lib.hid hs
  obtain ⟨p, c, rfl⟩ := hv.form
  obtain ⟨mb, hmb⟩ : ∃ mb, w.heap.size = mb := ⟨_, rfl⟩
  have hM := BMap.made 9 w
  have hA := (Below.refl w.heap.size w).alloc (Nat.le_refl _) (.map #[] 0)
  obtain ⟨w1, hw1⟩ : ∃ w1, w.alloc (.map #[] 0) = w1 := ⟨_, rfl⟩
  rw [hw1, hmb] at hM
  rw [hw1] at hA
  have HM := Lib.hid (hM.as (g := keyIn ((l.map (·.nm)).take 0)) (fun x => ⟨fun h => h.elim, fun ⟨y, hy, _⟩ => absurd hy List.not_mem_nil⟩))
  have HA := Lib.hid hA
  have Hmb := Lib.hid hmb
  obtain ⟨R, hR⟩ : ∃ R, usBad 0 [] l = R := ⟨_, rfl⟩
  rw [hR]
  have HR := Lib.hid hR
  have hmm := @run_makeMap Tryz.prog
  clear hv hs hM hA hR
  go_enter Tryz.func33, Tryz.ntmps33
  go_wp2_with fail
  clear hmm
  go_loopw [9] (fun i wr => ∃ j : Nat, j ≤ l.length ∧ i = .int .i64 j ∧ Hid (BMap 9 wr mb j (keyIn ((l.map (·.nm)).take j))) ∧ Hid (usBad j ((l.map (·.nm)).take j) (l.drop j) = R) ∧ Below w.heap.size w wr) (fun i _ => l.length - (intOf i).toNat)
  case atStart => exact ⟨0, by omega, rfl, HM, Lib.hid HR.out, HA.out⟩
  case round =>
    obtain ⟨j, hj, rfl, Hm, Hr, hb⟩ := hrel
    by_cases hlt : j < l.length
    · obtain ⟨b, o, rfl, q0, q1⟩ := (HV.out.later hb).cell hlt
      have hnl : (l.map (·.nm)).length = l.length := List.length_map ..
      have hstep := Hr.out
      rw [List.drop_eq_getElem_cons hlt, usBad_cons] at hstep
      have hfl := HS.out l[j] (List.getElem_mem hlt)
      have hcat : (l.map (·.nm)).take (j + 1) = (l.map (·.nm)).take j ++ [l[j].nm] := by rw [List.take_add_one, List.getElem?_eq_getElem (by rw [hnl]; exact hlt), List.getElem_map]; rfl
      obtain ⟨⟨a, g⟩, ha⟩ : ∃ a, l[j] = a := ⟨_, rfl⟩
      rw [ha] at q0 q1 hstep hfl hcat
      simp only at q0 q1 hstep hfl hcat
      obtain ⟨hf1, hf2⟩ := hfl
      obtain ⟨seen, hseen⟩ : ∃ seen, (l.map (·.nm)).take j = seen := ⟨_, rfl⟩
      rw [hseen] at Hm hstep hcat
      have hA2 := (Below.refl wr.heap.size wr).alloc (Nat.le_refl _) (.cells #[.string (S a), .string (S g)] 26)
      have hK := Blk.new wr #[.string (S a), .string (S g)] 26
      obtain ⟨w2, hw2⟩ : ∃ w2, wr.alloc (.cells #[.string (S a), .string (S g)] 26) = w2 := ⟨_, rfl⟩
      obtain ⟨ub, hub⟩ : ∃ ub, wr.heap.size = ub := ⟨_, rfl⟩
      have hne : ub ≠ mb := fun e => by have := Hm.out.lt; omega
      have EN := enter_any a mb j (keyIn seen) _ (Hm.out.later hA2) (by omega) hf1
      rw [hw2] at hK hA2 EN
      rw [hub] at hK
      have NM := Lib.hid (fun W => named_any g W hf2)
      have EN := Lib.hid EN
      have HK := Lib.hid hK
      have Hne := Lib.hid hne
      have hji : (j : Int) < (l.length : Int) := by omega
      have Hb := Lib.hid (below_then hb hA2)
      have Hst := Lib.hid hstep
      have Hcat := Lib.hid hcat
      obtain ⟨u0, u1⟩ := hK.two
      clear hb ha Hm Hr hstep hcat hA2 hK hne hseen hnl
      go_wp2_with fail
      refine EN.out.mono ?_
      rintro e w3 (⟨hno, rfl, hm3, hg3⟩ | ⟨hyes, rfl, rfl⟩)
      · have hK3 : Blk w3 ub #[.string (S a), .string (S g)] 26 := HK.out.otherB hg3 Hne.out
        have HM3 := Lib.hid (show BMap 9 w3 mb (j + 1) (keyIn ((l.map (·.nm)).take (j + 1))) by rw [Hcat.out]; exact hm3.as (fun x => keyIn_snoc x))
        have Hb3 := Lib.hid (Below.grownB Hb.out hg3 (by have := Hmb.out; omega) Hb.out.size)
        have Hno := Lib.hid hno
        clear u0 u1 hm3 hg3 hno
        obtain ⟨u0, u1⟩ := hK3.two
        clear hK3
        cases hnm : nameOk g with
        | false =>
          rw [hnm] at NM
          have hstep := Hst.out
          rw [if_pos (.inr (.inr hnm))] at hstep
          subst hstep
          go_wp2_with fail
          refine (NM.out _).mono ?_
          rintro e w' ⟨rfl, rfl⟩
          go_wp2_with fail
          go_ret
          exact ⟨_, rfl, .placed _ 5 j (by decide) (by simp) (by simp), Hb3.out.alloc Hb3.out.size _⟩
        | true =>
          rw [hnm] at NM
          have hstep := Hst.out
          rw [if_neg (by rintro (h | h | h); exact Hno.out (.inr (keyIn_iff.2 h)); exact Hno.out (.inl h); (rw [hnm] at h; cases h)), ← Hcat.out] at hstep
          have Hs3 := Lib.hid hstep
          clear hstep
          go_wp2_with fail
          refine (NM.out _).mono ?_
          rintro e w' ⟨rfl, rfl⟩
          clear u0 u1
          go_wp2_with fail
          go_roundw
          case rel => exact ⟨j + 1, by omega, by go_num, HM3, Hs3, Hb3.out⟩
          case measure => simp [intOf]; omega
      · have hstep := Hst.out
        rw [if_pos (by rcases hyes with h | h; exact .inr (.inl h); exact .inl (keyIn_iff.1 h))] at hstep
        subst hstep
        clear hyes
        go_wp2_with fail
        go_ret
        exact ⟨_, rfl, .placed _ 5 j (by decide) (by simp) (by simp), Hb.out.alloc Hb.out.size _⟩
    · obtain rfl : j = l.length := by omega
      have hstep := Hr.out
      rw [List.drop_length] at hstep
      subst hstep
      have Hb := Lib.hid hb
      clear hb Hr Hm
      go_wp2_with fail
      go_ret
      exact ⟨_, rfl, .good, Hb.out⟩
end Go.Proofs.YtlcadichpcdgpaaGreatDoor
