/- AhsCut: cut within an additional header what is missing is told, where it begins. -/
import Derived.Test.YtceinedicbdngaaDoorMore
import Derived.Test.YtceinedicbdngaaDoorWide
import Derived.Test.YtceinedicbdngaaDoorPick
import Derived.Test.YtceinedicbdngaaDoorPlaceAt
import Derived.Test.YtceinedicbdngaaDoorAhsOnly
namespace Go.Proofs.YtceinedicbdngaaDoor
open Go.RowKit
theorem AhsV.init {W : World} {p : Option Addr} {c : Nat} {l : List Ah} {a : Ah} (h : AhsV W (.slice p (l.length + 1) c) (l ++ [a])) : AhsV W (.slice p l.length c) l := by
  obtain ⟨p', c', e, hc, hcl⟩ := h
  have hp : p = p' := by injection e
  have hcc : c = c' := by injection e
  subst hp; subst hcc
  rw [List.length_append, List.length_singleton] at hc
  refine ⟨p, c, rfl, by omega, fun h0 => ?_⟩
  obtain ⟨b, o, hp, hcell⟩ := hcl (by simp)
  refine ⟨b, o, hp, fun j hj => ?_⟩
  have := hcell j (by simp; omega)
  rwa [List.getElem_append_left hj] at this
theorem right_init {l : List Ah} {a : Ah} (h : (rightA (l ++ [a])).1 = 0) : (rightA l).1 = 0 := by
  obtain ⟨hk, hs, _⟩ := rightA_is _ h
  rw [wrL_app, List.length_append] at hs
  rw [rightA_ok (fun b hb => hk b (List.mem_append_left _ hb)) (by omega)]
set_option maxRecDepth 100000 in
set_option maxHeartbeats 1000000 in
theorem ahsCut_any (l : List Ah) (v : Value) (at0 : Int) (w : World) (hv : AhsV w v l) (hf : fitA l) (_hat : (Lit.int .i64 at0).wf = true) (hg : ErrCell w) :
    Calls Tryd.prog 8 #[v, .int .i64 at0] w fun e w' => e = .returned (.bool true) ∧ Below w.heap.size w w' := by
  have M := Lib.hid (more_fact w hg)
  have D := fun w hv => Lib.hid (wideK_any l v w hv hf)
  have HV := Lib.hid hv
  have Hg := Lib.hid hg
  have hl47 := hf.1
  obtain ⟨p, c, rfl⟩ := hv.form
  rcases List.eq_nil_or_concat l with rfl | ⟨m, a, rfl⟩
  · clear hv hg hf hl47
    go_enter Tryd.func8, Tryd.ntmps8
    go_wp2_with fail
    refine M.out.mono ?_
    rintro e w1 ⟨rfl, hb1⟩
    have D1 := D _ (HV.out.later hb1)
    have Hb1 := Lib.hid hb1
    clear hb1 M D
    go_wp2_with fail
    refine D1.out.mono ?_
    rintro e w2 ⟨bb, rfl, hb2⟩
    have Hb2 := Lib.hid (below_then Hb1.out hb2)
    clear hb2 D1
    cases bb
    all_goals
      go_wp2_with fail
      go_ret
      exact ⟨rfl, Hb2.out⟩
  · rw [List.concat_eq_append] at *
    have hlen : (m ++ [a]).length = m.length + 1 := by simp
    rw [hlen] at hl47
    have hvi : ∀ W, AhsV W (.slice p (m.length + 1) c) (m ++ [a]) → AhsV W (.slice p m.length c) m := fun _ h => h.init
    have Hvi := Lib.hid hvi
    have hfm : fitA m := ⟨by omega, fun b hb => hf.2 b (List.mem_append_left _ hb)⟩
    have Wl := fun w hv => Lib.hid (write_ahs (m ++ [a]) (.slice p (m.length + 1) c) w hv hf)
    have Wm := fun w hv => Lib.hid (write_ahs m (.slice p m.length c) w hv hfm)
    have hlc : m.length + 1 ≤ c := by obtain ⟨p', c', e, hc, _⟩ := hv; rw [hlen] at hc e; have : c = c' := by injection e
                                      omega
    rw [hlen] at hv HV D
    by_cases h0 : (rightA (m ++ [a])).1 = 0
    · obtain ⟨hk, hs, _⟩ := rightA_is _ h0
      obtain ⟨hkm, hsm, _⟩ := rightA_is _ (right_init h0)
      rw [writeA_ok hk hs] at Wl
      rw [writeA_ok hkm hsm] at Wm
      have hz := sizeA_pos a
      have hsz : (wrL (m ++ [a])).length = (wrL m).length + sizeA a := by rw [wrL_app, wrL_one, List.length_append, wrA_len]
      have hpk := pickI_lt at0 (sizeA a) (by omega)
      have Pk := fun w => Lib.hid (pick_any at0 (sizeA a) w (by omega) (by omega))
      obtain ⟨pk, hpkv⟩ : ∃ pk, pickI at0 (sizeA a) = pk := ⟨_, rfl⟩
      rw [hpkv] at hpk
      simp only [hpkv] at Pk
      have hcut := read_cut hk hs (pk + 1) (by omega)
      have hall := read_write hk hs
      have htl : pk + 1 = sizeA a → List.take ((wrL m).length + (pk + 1)) (wrL (m ++ [a])) = wrL (m ++ [a]) := fun h => List.take_of_length_le (by omega)
      obtain ⟨z, hzv⟩ : ∃ z, sizeA a = z := ⟨_, rfl⟩
      obtain ⟨L, hL⟩ : ∃ L, wrL m = L := ⟨_, rfl⟩
      obtain ⟨s, hsv⟩ : ∃ s, wrL (m ++ [a]) = s := ⟨_, rfl⟩
      simp only [hzv, hL, hsv] at hz hsz hpk Pk hcut hall htl Wl Wm hs hsm
      have Rd := fun t w hg hl => Lib.hid (read_ahs t w hg hl)
      have Pl := fun (w : World) (v : Value) (n q : Int) (h : ErrIs w v n q) hg => Lib.hid (place_is h hg)
      have Hsz := Lib.hid hsz
      have Hcut := Lib.hid hcut
      have Hall := Lib.hid hall
      have Htl := Lib.hid htl
      have hle : ((L.length : Int) + (z : Int) - (L.length : Int)) = (z : Int) := by omega
      have ew : wrap64 (m.length : Int) = (m.length : Int) := IntWalk.wrap64_in _ (by omega)
      clear hv hg hf hlen hvi hfm hk hkm hcut hall htl hzv hL hsv hpkv h0 hsz
      go_enter Tryd.func8, Tryd.ntmps8
      go_wp2_with fail
      refine M.out.mono ?_
      rintro e w1 ⟨rfl, hb1⟩
      have D1 := D _ (HV.out.later hb1)
      have Hb1 := Lib.hid hb1
      clear hb1 M D
      go_wp2_with fail
      refine D1.out.mono ?_
      rintro e w2 ⟨bb, rfl, hb2⟩
      have Hb2 := Lib.hid (below_then Hb1.out hb2)
      have W2 := Wl _ (HV.out.later Hb2.out)
      clear hb2 D1 Wl
      cases bb with
      | true =>
        go_wp2_with fail
        go_ret
        exact ⟨rfl, Hb2.out⟩
      | false =>
        go_wp2_with fail
        refine W2.out.mono ?_
        rintro e w3 ⟨ev, rfl, he, hb3⟩
        obtain rfl := he.zero
        have Hb3 := Lib.hid (below_then Hb2.out hb3)
        have W3 := Wm _ (Hvi.out _ (HV.out.later Hb3.out))
        clear he hb3 W2 Wm
        go_wp2_with fail
        refine W3.out.mono ?_
        rintro e w4 ⟨ev, rfl, he, hb4⟩
        obtain rfl := he.zero
        have Hb4 := Lib.hid (below_then Hb3.out hb4)
        clear he hb4 W3
        have hszi : (s.length : Int) = (L.length : Int) + (z : Int) := by have := Hsz.out; omega
        have hd1 : decide ((s.length : Int) ≤ (L.length : Int)) = false := decide_eq_false (by omega)
        have hz0 : (s.length : Int) - (L.length : Int) = (z : Int) := by omega
        have Hszi := Lib.hid hszi
        clear hszi hle
        go_wp2_with fail
        refine (Pk _).out.mono ?_
        rintro e w5 ⟨rfl, rfl⟩
        clear hz0
        have hz1020 : z ≤ 1020 := by have := Hsz.out; omega
        have hcomm : L.length + (pk + 1) = L.length + 1 + pk := by omega
        by_cases hend : pk + 1 = z
        · have Rd5 := Lib.hid (Rd s w4 (Hg.out.later Hb4.out) (by omega)).out
          rw [Hall.out] at Rd5
          have htk := Htl.out hend
          have hsl : s.length = L.length + 1 + pk := by have := Hsz.out; omega
          have heq : ((L.length : Int) + 1 + (pk : Int) == (s.length : Int)) = true := by rw [beq_iff_eq]; omega
          have hle1 : L.length + 1 + pk ≤ s.length := by omega
          rw [hcomm] at htk
          clear hend Htl Hall Hcut hsl hcomm Rd
          go_wp2_with fail
          refine Rd5.out.mono ?_
          rintro e w6 ⟨v6, ev, rfl, _, he, hb6⟩
          have Hb6 := Lib.hid (below_then Hb4.out hb6)
          have Pl6 := Pl _ _ _ _ he (Hg.out.later Hb6.out)
          obtain rfl := he.zero
          clear he hb6 Rd5 Pl htk
          go_wp2_with fail
          refine Pl6.out.mono ?_
          rintro e w7 ⟨rfl, hb7⟩
          have Hb7 := Lib.hid (below_then Hb6.out hb7)
          clear hb7 Pl6
          go_wp2_with fail
          go_ret
          exact ⟨rfl, Hb7.out⟩
        · have hlt : pk + 1 < z := by omega
          have Rd5 := Lib.hid (Rd (List.take (L.length + (pk + 1)) s) w4 (Hg.out.later Hb4.out) (by simp; omega)).out
          rw [Hcut.out hlt, hcomm] at Rd5
          have hle1 : L.length + 1 + pk < s.length := by have := Hsz.out; omega
          have heq : ((L.length : Int) + 1 + (pk : Int) == (s.length : Int)) = false := by rw [beq_eq_false_iff_ne]; omega
          clear hend Htl Hall Hcut hcomm Rd
          go_wp2_with fail
          refine Rd5.out.mono ?_
          rintro e w6 ⟨v6, ev, rfl, _, he, hb6⟩
          have Hb6 := Lib.hid (below_then Hb4.out hb6)
          have Pl6 := Pl _ _ _ _ he (Hg.out.later Hb6.out)
          obtain ⟨t, x, rfl⟩ := he.iface (show (7 : Int) ≠ 0 by decide)
          clear he hb6 Rd5 Pl
          simp only at Pl6
          go_wp2_with fail
          refine Pl6.out.mono ?_
          rintro e w7 ⟨rfl, hb7⟩
          have Hb7 := Lib.hid (below_then Hb6.out hb7)
          clear hb7 Pl6
          go_wp2_with fail
          go_ret
          exact ⟨rfl, Hb7.out⟩
    · have hwl : writeA (m ++ [a]) = ([], rightA (m ++ [a])) := by unfold writeA; rw [if_neg h0]
      obtain ⟨⟨n, q⟩, hr⟩ : ∃ r, rightA (m ++ [a]) = r := ⟨_, rfl⟩
      rw [hr] at hwl h0
      rw [hwl] at Wl
      obtain ⟨⟨sm, nm, qm⟩, hrm⟩ : ∃ r, writeA m = r := ⟨_, rfl⟩
      rw [hrm] at Wm
      have ew : wrap64 (m.length : Int) = (m.length : Int) := IntWalk.wrap64_in _ (by omega)
      have Hn := Lib.hid h0
      clear hv hg hf hlen hvi hfm h0 hr hwl hrm
      go_enter Tryd.func8, Tryd.ntmps8
      go_wp2_with fail
      refine M.out.mono ?_
      rintro e w1 ⟨rfl, hb1⟩
      have D1 := D _ (HV.out.later hb1)
      have Hb1 := Lib.hid hb1
      clear hb1 M D
      go_wp2_with fail
      refine D1.out.mono ?_
      rintro e w2 ⟨bb, rfl, hb2⟩
      have Hb2 := Lib.hid (below_then Hb1.out hb2)
      have W2 := Wl _ (HV.out.later Hb2.out)
      clear hb2 D1 Wl
      cases bb with
      | true =>
        go_wp2_with fail
        go_ret
        exact ⟨rfl, Hb2.out⟩
      | false =>
        go_wp2_with fail
        refine W2.out.mono ?_
        rintro e w3 ⟨ev, rfl, he, hb3⟩
        obtain ⟨t, x, rfl⟩ := he.iface Hn.out
        have Hb3 := Lib.hid (below_then Hb2.out hb3)
        have W3 := Wm _ (Hvi.out _ (HV.out.later Hb3.out))
        clear he hb3 W2 Wm
        go_wp2_with fail
        refine W3.out.mono ?_
        rintro e w4 ⟨ev4, rfl, he, hb4⟩
        have Hb4 := Lib.hid (below_then Hb3.out hb4)
        clear he hb4 W3
        go_wp2_with fail
        go_ret
        exact ⟨rfl, Hb4.out⟩
end Go.Proofs.YtceinedicbdngaaDoor
