/- GatherPlays: texts in any parts are the document's. -/
import Derived.Test.YtildnpnpakhnjaaDoorRefGather
import Derived.Test.YtildnpnpakhnjaaDoorGathered
import Derived.Test.YtildnpnpakhnjaaDoorPlaced
import Derived.Test.YtildnpnpakhnjaaDoorBare
import Derived.Test.YtildnpnpakhnjaaDoorOpenParts
import Derived.Deep.RegionHeld3
namespace Go.Proofs.YtildnpnpakhnjaaDoor
open Go.RowKit
set_option linter.unusedVariables false
theorem addG_len (G : Ga) (s : List UInt8) (m : Bool) : (addG G s m).1.1.length ≤ 60 := by
  unfold addG
  split
  · simp
  · split
    · simp
    · exact parse_len _
/-- the reference's gatherer turned: the law's own is as it was -/
theorem GS.ref {w0 W W' : World} {H : Nat → Prop} {gb rb : Nat} {G : Ga} (h : GS w0 W H gb G) (hk : Keeps W.heap.size W W' (fun k => k = rb) (fun k => k = rb)) (hH : ¬ H rb) (hrb : w0.heap.size ≤ rb) (hm : MaxCell w0) (hg : ErrCell w0) : GS w0 W' H gb G := by
  have hl : Below w0.heap.size w0 W' := Keeps.from h.low hk (fun k e => by subst e; exact hrb)
  exact ⟨hl, h.gat.kept (fun k hh => hk.block k (h.gat.base k hh).2 (fun e => hH (by rw [← e]; exact hh))) hk.size, GL.mk' hm hg hl (fun k hh => (h.gat.base k hh).1)⟩
theorem keepP {w w' w'' : World} {a b c : Addr} {x y z : Value} (h : Below w.heap.size w w' ∧ w'.cell? a = some x ∧ w'.cell? b = some y ∧ w'.cell? c = some z) (hb : Below w'.heap.size w' w'') : Below w.heap.size w w'' ∧ w''.cell? a = some x ∧ w''.cell? b = some y ∧ w''.cell? c = some z :=
  ⟨below_then h.1 hb, (hb.cell (block_lt_of_cell h.2.1)).trans h.2.1, (hb.cell (block_lt_of_cell h.2.2.1)).trans h.2.2.1, (hb.cell (block_lt_of_cell h.2.2.2)).trans h.2.2.2⟩
set_option maxRecDepth 100000 in
set_option maxHeartbeats 4000000 in
theorem gatherPlays_any (most : Int) (l : List Pt) (v : Value) (w : World) (_hwf : (Lit.int .i64 most).wf = true) (hv : PtsV w v l) (hN : (∀ a ∈ l, a.s.length ≤ 140737488351232) ∧ l.length ≤ 140737488355328) (hm : MaxCell w) (hg : ErrCell w) :
    Calls Tryd.prog 13 #[.int .i64 most, v] w fun e w' => e = .returned (.bool true) ∧ Below w.heap.size w w' := by
  obtain ⟨pv, cv, rfl⟩ := hv.form
  have HV := Lib.hid hv
  have HN := Lib.hid hN.1
  have Hm := Lib.hid hm
  have Hg := Lib.hid hg
  have hl47 := hN.2
  clear hv hm hg hN
  go_enter Tryd.func13, Tryd.ntmps13
  go_wp2_with fail
  go_loopw [5, 19] (fun x i wr => ∃ (j : Nat) (n : Int), j ≤ l.length ∧ i = .int .i64 j ∧ x = .int .i64 n ∧ Below w.heap.size w wr) (fun _ i _ => l.length - (intOf i).toNat)
  case atStart => exact ⟨0, _, by omega, rfl, rfl, Below.refl _ _⟩
  case round =>
    obtain ⟨j, n, hj, rfl, rfl, hb⟩ := hrel
    have Hb := Lib.hid hb
    by_cases hlt : j < l.length
    · obtain ⟨b, o, rfl, h1, h2⟩ := (HV.out.later hb).cell hlt
      obtain ⟨⟨k, d⟩, ha⟩ : ∃ a, l[j] = a := ⟨_, rfl⟩
      rw [ha] at h1 h2
      simp only at h1 h2
      have Hb1 := Lib.hid (hb.alloc hb.size (.cells #[.string (S k), .bool d] 74))
      clear hb ha
      go_wp2_with fail
      go_roundw
      case rel => exact ⟨j + 1, _, by omega, by go_num, rfl, Hb1.out⟩
      case measure => simp [intOf]; omega
    · clear hb
      have hji : (l.length : Int) ≤ (j : Int) := by omega
      by_cases h30 : 3000 < n
      · go_wp2_with fail
        go_ret
        exact ⟨rfl, Hb.out⟩
      have h30' : n ≤ 3000 := by omega
      clear h30
      by_cases hr : 0 ≤ most ∧ most ≤ 20000
      case neg =>
        have A := fun w => Lib.hid (newG_bad most w (by omega))
        have hor : most < 0 ∨ (0 ≤ most ∧ 20000 < most) := by omega
        clear hr
        rcases hor with ho | ⟨ho, ho2⟩
        all_goals
          go_wp2_with fail
          refine (A _).out.mono ?_
          rintro e w2 ⟨rfl, rfl⟩
          have B := Lib.hid (bare_err 2 _ (Hg.out.later Hb.out))
          go_wp2_with fail
          refine B.out.mono ?_
          rintro e w3 ⟨rfl, hb3⟩
          have Hb3 := Lib.hid (below_then Hb.out hb3)
          clear hb3 B
          go_wp2_with fail
          go_ret
          exact ⟨rfl, Hb3.out⟩
      obtain ⟨mo, rfl⟩ : ∃ mo : Nat, most = mo := ⟨most.toNat, by omega⟩
      have hmo : mo ≤ 20000 := by omega
      have N := Lib.hid (new_gs mo hmo Hb.out Hm.out Hg.out)
      have hr1 : (0 : Int) ≤ (mo : Int) := hr.1
      have hr2 : (mo : Int) ≤ 20000 := hr.2
      clear hr Hb
      go_wp2_with fail
      refine N.out.mono ?_
      rintro e w3 ⟨gb, H, rfl, hgs, _⟩
      have hbn := (Below.refl w3.heap.size w3).alloc (Nat.le_refl _) (.cells #[.string (S []), .int .i64 (mo : Int)] 77)
      have HG := Lib.hid (hgs.later hbn)
      have HR := Lib.hid (show RG (w3.alloc (.cells #[.string (S []), .int .i64 (mo : Int)] 77)) w3.heap.size ⟨mo, []⟩ from ⟨_, Blk.new w3 _ _⟩)
      have HH := Lib.hid (show ¬ H w3.heap.size from fun hh => by have := (hgs.gat.base _ hh).2; omega)
      have Hrb := Lib.hid (show w.heap.size ≤ w3.heap.size from hgs.low.size)
      clear hgs hbn N
      go_wp2_with fail
      obtain ⟨rb, hrb⟩ : ∃ rb, w3.heap.size = rb := ⟨_, rfl⟩
      rw [hrb] at HR HH Hrb
      simp only [hrb]
      have Hlv := Lib.hid HG.out.low
      generalize w3.alloc (.cells #[.string (S []), .int .i64 (mo : Int)] 77) = W3 at HG HR Hlv ⊢
      clear hrb hji hlt hj
      go_loopw [60] (fun i wr => ∃ (j : Nat) (H : Nat → Prop) (G : Ga), j ≤ l.length ∧ i = .int .i64 j ∧ GS w wr H gb G ∧ RG wr rb G ∧ ¬ H rb) (fun i _ => l.length - (intOf i).toNat)
      case atStart => exact ⟨0, H, _, by omega, rfl, HG.out, HR.out, HH.out⟩
      case round =>
        obtain ⟨j2, H1, G, hj2, rfl, hgs, hrg, hnh⟩ := hrel
        have HS := Lib.hid hgs
        have HRg := Lib.hid hrg
        have HNh := Lib.hid hnh
        by_cases hlt : j2 < l.length
        · obtain ⟨b, o, rfl, h1, h2⟩ := (HV.out.later hgs.low).cell hlt
          have hsl := HN.out l[j2] (List.getElem_mem hlt)
          obtain ⟨⟨s, m⟩, ha⟩ : ∃ a, l[j2] = a := ⟨_, rfl⟩
          rw [ha] at h1 h2 hsl
          simp only at h1 h2 hsl
          -- the part's own block
          have hbp := (Below.refl wr.heap.size wr).alloc (Nat.le_refl _) (.cells #[.string (S s), .bool m] 74)
          have hgs1 := hgs.later hbp
          have hrg1 := hrg.later hbp
          have hpb := Blk.new wr #[.string (S s), .bool m] 74
          have hpne : wr.heap.size ≠ rb := fun e => by have := hrg.lt; omega
          obtain ⟨⟨⟨la, n1, p1⟩, G'⟩, hadd⟩ : ∃ r, addG G s m = r := ⟨_, rfl⟩
          have hlen := addG_len G s m
          rw [hadd] at hlen
          have A := Lib.hid (refAdd_any s m hsl hgs.gat.fit hgs.gat.most hrg1 hgs1.mc hadd)
          have HS1 := Lib.hid hgs1
          have HRg1 := Lib.hid hrg1
          have HPb := Lib.hid hpb
          have Hadd := Lib.hid hadd
          have Hlen := Lib.hid hlen
          have Hpne := Lib.hid hpne
          have hplt : wr.heap.size < (wr.alloc (.cells #[.string (S s), .bool m] 74)).heap.size := by simp
          have Hplt := Lib.hid hplt
          obtain ⟨pb, hpbn⟩ : ∃ pb, wr.heap.size = pb := ⟨_, rfl⟩
          rw [hpbn] at HPb Hpne Hplt
          clear hgs hrg hnh ha hbp hgs1 hrg1 hpb hpne hadd hlen hplt HS HRg
          go_wp2_with fail
          refine A.out.mono ?_
          rintro e w4 ⟨v1, rfl, hv1, hrg4, hk4⟩
          have hgs4 := HS1.out.ref hk4 HNh.out Hrb.out Hm.out Hg.out
          have hpb4 : Blk w4 pb #[.string (S s), .bool m] 74 := (hk4.block pb Hplt.out (fun e => Hpne.out e)).trans HPb.out
          have hb5 := (Below.refl w4.heap.size w4).alloc (Nat.le_refl _) (.cells #[.int .i64 n1, .int .i64 p1] 26)
          have hF5 : Cell2 (w4.alloc (.cells #[.int .i64 n1, .int .i64 p1] 26)) w4.heap.size n1 p1 := heap_alloc_new w4 _
          have hgs5 := hgs4.later hb5
          have hrg5 := hrg4.later hb5
          have hv5 := hv1.later hb5
          have hpb5 := hpb4.later hb5
          obtain ⟨q0, q1⟩ := hpb5.two
          have A2 := Lib.hid (add_gs s m hsl Hadd.out hgs5)
          have HS5 := Lib.hid hgs5
          have HRg5 := Lib.hid hrg5
          have HV5 := Lib.hid hv5
          have HF5 := Lib.hid hF5
          have HnF := Lib.hid (show ¬ H1 w4.heap.size from fun hh => by have := (hgs4.gat.base _ hh).2; omega)
          have Hfl := Lib.hid (show w4.heap.size < (w4.alloc (.cells #[.int .i64 n1, .int .i64 p1] 26)).heap.size by simp)
          obtain ⟨pv1, cv1, rfl⟩ := hv1.form
          obtain ⟨fb, hfb⟩ : ∃ fb, w4.heap.size = fb := ⟨_, rfl⟩
          rw [hfb] at HF5 HnF Hfl
          clear hv1 hrg4 hk4 hgs4 hpb4 hb5 hF5 hgs5 hrg5 hv5 hpb5 A h1 h2
          go_wp2_with fail
          refine A2.out.mono ?_
          rintro e w6 ⟨v2, ev, H2, rfl, hv2, he2, hgs6, hk6⟩
          have hv16 := ((HV5.out.offG HS5.out.gat).later hk6.off').off
          have hrg6 : RG w6 rb G' := HRg5.out.kept (hk6.block rb HRg5.out.lt HNh.out)
          have hnh6 : ¬ H2 rb := fun hh => by
            rcases hk6.old rb hh with h | h
            · exact HNh.out h
            · have := HRg5.out.lt; omega
          have hF6 : Cell2 w6 fb n1 p1 := HF5.out.keeps hk6 Hfl.out HnF.out
          have HS6 := Lib.hid hgs6
          have HR6 := Lib.hid hrg6
          have HN6 := Lib.hid hnh6
          have HW := Lib.hid hv2.off
          have He := Lib.hid he2.off
          have HV6 := Lib.hid hv16
          have Hg6 := Lib.hid hgs6.ec
          obtain ⟨pv2, cv2, rfl⟩ := hv2.form
          obtain ⟨x0, x1⟩ := hF6.cells
          obtain ⟨tR, hR6⟩ := hrg6
          have y0 := hR6.two.1
          have P1 := Lib.hid (fun W (h : Below w6.heap.size w6 W) => placed_same (He.out.later h) (Hg6.out.later h))
          have E1 := Lib.hid (fun W (h : Below w6.heap.size w6 W) => equalP_same la _ _ W (by have := Hlen.out; omega) (HV6.out.later h) (HW.out.later h))
          have Z1 := Lib.hid (fun W (h : Below w6.heap.size w6 W) => size_gs (HS6.out.later h))
          have hne : ((G'.came.length : Int) != (G'.came.length : Int)) = false := by simp
          clear hv2 he2 hgs6 hk6 hv16 hnh6 hF6 A2 HV5 HS5 HRg5 HF5 q0 q1 hR6
          go_wp2_with fail
          go_region_held3 (fun w' => Below w6.heap.size w6 w' ∧ w'.cell? ⟨fb, 0, none⟩ = some (.int .i64 n1) ∧ w'.cell? ⟨fb, 1, none⟩ = some (.int .i64 p1) ∧ w'.cell? ⟨rb, 0, none⟩ = some (.string (S G'.came)))
            (first | assumption | exact ⟨Below.refl _ _, x0, x1, y0⟩ | exact ⟨(Below.refl _ _).drew, x0, x1, y0⟩ | exact keepP (by assumption) hb')
            (first | ((with_reducible refine (P1.out _ (by first | assumption | exact (‹Below w6.heap.size w6 _ ∧ _›).1)).mono ?_); rintro e w' ⟨rfl, hb'⟩) | ((with_reducible refine (E1.out _ (by first | assumption | exact (‹Below w6.heap.size w6 _ ∧ _›).1)).mono ?_); rintro e w' ⟨rfl, hb'⟩) | ((with_reducible refine (Z1.out _ (by first | assumption | exact (‹Below w6.heap.size w6 _ ∧ _›).1)).mono ?_); rintro e w' ⟨rfl, rfl⟩))
          all_goals
            have Hend := Lib.hid (‹Below w6.heap.size w6 w' ∧ _›).1
            go_wp2_with fail
            go_roundw
            case rel => exact ⟨j2 + 1, H2, G', by omega, by go_num, HS6.out.later Hend.out, HR6.out.later Hend.out, HN6.out⟩
            case measure => simp [intOf]; omega
        · obtain rfl : j2 = l.length := by omega
          clear hgs hrg hnh
          go_wp2_with fail
          go_ret
          exact ⟨rfl, HS.out.low⟩
end Go.Proofs.YtildnpnpakhnjaaDoor
