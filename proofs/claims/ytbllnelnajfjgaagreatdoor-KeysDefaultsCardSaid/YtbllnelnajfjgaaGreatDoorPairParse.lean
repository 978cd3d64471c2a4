/- pairs.Parse, pairs.Find. -/
import Derived.Test.YtbllnelnajfjgaaGreatDoorPairs
namespace Go.Proofs.YtbllnelnajfjgaaGreatDoor
open Go.RowKit
set_option maxRecDepth 100000 in
set_option maxHeartbeats 1000000 in
theorem parse_any (s : List UInt8) (w : World) (hl : s.length ≤ 1000000) (hm : MaxCell w) :
    Calls Tryz.prog 46 #[.string (S s)] w (RetPE w (prParse s)) := by
  have Hm := Lib.hid hm
  obtain ⟨i0, hi, hz0, hz1, hz2⟩ := infoPr
  clear hm
  go_enter Tryz.func46, Tryz.ntmps46
  go_wp2_with fail
  go_loopg [0, 4] s.length (fun g t x wr => ∃ (r : List UInt8) (acc : List Pr), t = .string (S r) ∧ r.length ≤ g ∧ r.length ≤ s.length ∧ acc.length ≤ 60 ∧ prReadF g r acc = prParse s ∧ PrBuf w.heap.size wr x acc ∧ Below w.heap.size w wr)
  case atStart => exact ⟨s, [], rfl, Nat.le_refl _, Nat.le_refl _, by simp, rfl, PrBuf.nil _ _, Below.refl _ _⟩
  case round =>
    obtain ⟨r, acc, rfl, hg, hrs, ha, hr, hbuf, hb⟩ := hrel
    have Hb := Lib.hid hb
    have Hbuf := Lib.hid hbuf
    obtain ⟨pv, cv, rfl⟩ := hbuf.form
    by_cases h0 : r = []
    · subst h0
      rw [prReadF_nil] at hr
      have Hr := Lib.hid hr
      clear hb hbuf hr hg
      go_wp2_with fail
      go_ret2
      rw [← Hr.out]
      exact ⟨_, _, rfl, Hbuf.out.prs, .good, Hb.out⟩
    · have hpos := List.length_pos_iff.2 h0
      obtain ⟨g1, rfl⟩ : ∃ g1, gk = g1 + 1 := ⟨gk - 1, by omega⟩
      rw [prReadF_succ, if_neg h0] at hr
      have FA := Lib.hid (first_pr r _ (by omega) (Hm.out.later hb))
      have FW := prFirst_wr (s := r)
      obtain ⟨⟨n, ⟨k, d⟩, t⟩, hfa⟩ : ∃ q, prFirst r = q := ⟨_, rfl⟩
      rw [hfa] at hr FW FA
      simp only at hr FW
      have hie : r.isEmpty = false := by cases r with
        | nil => exact absurd rfl h0
        | cons _ _ => rfl
      have Hr := Lib.hid hr
      have HFW := Lib.hid FW
      have Hg := Lib.hid hg
      have Hrs := Lib.hid hrs
      clear hb hbuf hfa FW hr hg hrs hpos
      go_wp2_with fail
      refine FA.out.mono ?_
      rintro e w1 ⟨rfl, hb1⟩
      have hb1' := below_then Hb.out hb1
      have Hlow1 := Lib.hid (hb1'.alloc hb1'.size (.cells #[.string (S k), .string (S d)] 90))
      have HB1 := Lib.hid ((Hbuf.out.later hb1).alloc (.cells #[.string (S k), .string (S d)] 90))
      have HBlk := Lib.hid (Blk.new w1 #[.string (S k), .string (S d)] 90)
      have Hne := Lib.hid (Hbuf.out.ne hb1.size)
      have Hge := Lib.hid Hbuf.out.ge
      have hsz1 : w.heap.size ≤ w1.heap.size := hb1'.size
      clear hb1 hb1' FA
      by_cases hn : n = 0
      · subst hn
        rw [if_neg (by simp)] at Hr
        by_cases h60 : acc.length = 60
        · rw [if_pos h60] at Hr
          clear HFW
          go_wp2_with fail
          go_ret2
          rw [← Hr.out]
          exact ⟨_, _, rfl, PrsV.nil _, .bare 4 (by decide), Hlow1.out⟩
        · rw [if_neg h60] at Hr
          have h60b : ((acc.length : Int) == 60) = false := by simp; omega
          have hw := HFW.out rfl
          have hwl := congrArg List.length hw
          rw [List.length_append, wrP_len] at hwl
          simp only at hwl
          have hrs := Hrs.out
          have WW := fun W => Lib.hid (wrong_pr ⟨k, d⟩ W (by simp only; omega) (by simp only; omega))
          obtain ⟨m, hwm⟩ : ∃ m, wrongP ⟨k, d⟩ = m := ⟨_, rfl⟩
          rw [hwm] at Hr
          simp only [hwm] at WW
          have Htl := Lib.hid (show t.length + 2 ≤ r.length by omega)
          obtain ⟨HA1, HA2, HA3, HA4, HA5⟩ := appP_sides k d (w1.alloc (.cells #[.string (S k), .string (S d)] 90)) (w1.heap.size + 1) acc.length w.heap.size (by simp) (by omega) (by omega)
          clear hw hwl hrs hwm HFW
          go_wp2_with fail
          refine (WW _).out.mono ?_
          rintro e w2 ⟨rfl, hb2⟩
          have Hlow2 := Lib.hid (below_then Hlow1.out hb2)
          have HB2 := Lib.hid (HB1.out.later hb2)
          have HBlk2 := Lib.hid (HBlk.out.later hb2)
          have Hsz2 := Lib.hid hb2.size
          clear hb2 WW
          by_cases hm0 : m = 0
          · subst hm0
            rw [if_neg (by simp)] at Hr
            obtain ⟨q0, q1⟩ := HBlk2.out.two
            have hsz2 : w.heap.size ≤ w2.heap.size := Hlow2.out.size
            obtain ⟨HA1, HA2, HA3, HA4, HA5⟩ := appP_sides k d w2 w2.heap.size acc.length w.heap.size rfl (by omega) hsz2
            have HBa := Lib.hid (HB2.out.alloc (.cells #[.string (S k), .string (S d)] 90))
            go_wp2_with (at_builtin; refine wpList_append_own _ rfl _ _ 91 rfl w.heap.size 90 i0 (.agg #[.string (S []), .string (S [])]) 2 32 Tryz.underlying91 hi hz0 hz1 hz2 rfl (by decide) (.slice pv acc.length cv) acc.length (prsVs acc) rfl HBa.out ⟨w2.heap.size, 0, none⟩ 1 1 [.string (S k), .string (S d)] rfl rfl HA1.out HA2.out HA3.out HA4.out HA5.out ?_)
            intro v' wa hown hgrow hnil
            have hown' : PrBuf w.heap.size wa v' (acc ++ [⟨k, d⟩]) := by
              unfold PrBuf
              rw [prsVs_app, List.length_append]
              exact hown
            have Hlow3 := Lib.hid ((Hlow2.out.alloc Hlow2.out.size (.cells #[.string (S k), .string (S d)] 90)).grown hgrow (by simp; omega) Hge.out)
            have Hown := Lib.hid hown'
            clear hown hown' hgrow hnil q0 q1
            go_wp2_with fail
            go_roundg g1
            case measure => omega
            case rel => exact ⟨t, acc ++ [⟨k, d⟩], rfl, by have := Htl.out; have := Hg.out; omega, by have := Htl.out; have := Hrs.out; omega, by simp; omega, Hr.out, Hown.out, Hlow3.out⟩
          · rw [if_pos hm0] at Hr
            have hmb : (m != 0) = true := by simpa using hm0
            go_wp2_with fail
            go_ret2
            rw [← Hr.out]
            exact ⟨_, _, rfl, PrsV.nil _, .placed _ m acc.length hm0 (by simp) (by simp), Hlow2.out.alloc Hlow2.out.size _⟩
      · rw [if_pos hn] at Hr
        have hnb : (n == 0) = false := by simpa using hn
        have hnb2 : (n != 0) = true := by simpa using hn
        clear HFW
        go_wp2_with fail
        go_ret2
        rw [← Hr.out]
        exact ⟨_, _, rfl, PrsV.nil _, .placed _ n acc.length hn (by simp) (by simp), Hlow1.out.alloc Hlow1.out.size _⟩
def findR (r : Option (List UInt8)) : Value := match r with
  | some v => .tuple #[.string (S v), .bool true]
  | none => .tuple #[.string (S []), .bool false]
set_option maxRecDepth 100000 in
theorem find_prs (l : List Pr) (key : List UInt8) (v : Value) (w : World) (hv : PrsV w v l) (hl : l.length ≤ 140737488355328) :
    Calls Tryz.prog 47 #[v, .string (S key)] w fun e w' => e = .returned (findR (prFind l key)) ∧ Below w.heap.size w w' := by
  obtain ⟨p, c, rfl, _, hc⟩ := hv
  have Hc := Lib.hid hc
  clear hc
  go_enter Tryz.func47, Tryz.ntmps47
  go_wp2_with fail
  go_loopw [10] (fun i wr => ∃ j : Nat, j ≤ l.length ∧ i = .int .i64 j ∧ prFind (l.drop j) key = prFind l key ∧ Below w.heap.size w wr) (fun i _ => l.length - (intOf i).toNat)
  case atStart => exact ⟨0, by omega, rfl, rfl, Below.refl _ _⟩
  case round =>
    obtain ⟨j, hj, rfl, hr, hb⟩ := hrel
    have Hb := Lib.hid hb
    by_cases hlt : j < l.length
    · obtain ⟨b, o, rfl, hcl⟩ := Hc.out (by omega)
      obtain ⟨h1, h2⟩ := hcl j hlt
      rw [← (bcell hb).1 b (o + j * 2) (block_lt_of_cell (w := w) (a := ⟨b, o + j * 2, none⟩) h1)] at h1
      rw [← (bcell hb).1 b (o + j * 2 + 1) (block_lt_of_cell (w := w) (a := ⟨b, o + j * 2 + 1, none⟩) h2)] at h2
      obtain ⟨a, ha⟩ : ∃ a, l[j] = a := ⟨_, rfl⟩
      rw [List.drop_eq_getElem_cons hlt] at hr
      rw [ha] at h1 h2 hr
      obtain ⟨k, d⟩ := a
      simp only at h1 h2
      have Hb1 := Lib.hid (hb.alloc hb.size (.cells #[.string (S k), .string (S d)] 90))
      have e0 : prFind (⟨k, d⟩ :: l.drop (j + 1)) key = if k = key then some d else prFind (l.drop (j + 1)) key := rfl
      rw [e0] at hr
      have Hr := Lib.hid hr
      clear hr hcl hb ha e0
      by_cases hk : k = key
      · rw [if_pos hk] at Hr
        subst hk
        go_wp2_with fail
        go_ret2
        rw [← Hr.out]
        exact ⟨rfl, Hb1.out⟩
      · rw [if_neg hk] at Hr
        have hS : (k == key) = false := by
          rw [beq_eq_false_iff_ne]
          exact hk
        go_wp2_with fail
        go_roundw
        case rel => exact ⟨j + 1, by omega, by go_num, Hr.out, Hb1.out⟩
        case measure => simp [intOf]; omega
    · obtain rfl : j = l.length := by omega
      have Hr := Lib.hid hr
      clear hr hb
      go_wp2_with fail
      go_ret2
      rw [← Hr.out, List.drop_length]
      exact ⟨rfl, Hb.out⟩
end Go.Proofs.YtbllnelnajfjgaaGreatDoor
