/- A gatherer in a law; the laws' fact gathered. -/
import Derived.Test.YtildnpnpakhnjaaDoorGatherOps
import Derived.Test.YtildnpnpakhnjaaDoorEqP
import Derived.Test.YtildnpnpakhnjaaDoorIs
namespace Go.Proofs.YtildnpnpakhnjaaDoor
open Go.RowKit
set_option linter.unusedVariables false
/-- a gatherer that a law made: what was there at the law's call is so; the listed cells lie outside of it -/
structure GS (w0 W : World) (H : Nat → Prop) (gb : Nat) (G : Ga) : Prop where
  low : Below w0.heap.size w0 W
  gat : GatAt W w0.heap.size H gb G
  gl : GL H W
theorem GS.later {w0 W W' : World} {H : Nat → Prop} {gb : Nat} {G : Ga} (h : GS w0 W H gb G) (hb : Below W.heap.size W W') : GS w0 W' H gb G := ⟨below_then h.low hb, h.gat.later hb, h.gl.later hb⟩
theorem GS.keeps {w0 W W' : World} {H H' : Nat → Prop} {gb : Nat} {G G' : Ga} (h : GS w0 W H gb G) (hg : GatAt W' w0.heap.size H' gb G') (hk : Keeps W.heap.size W W' H H') : GS w0 W' H' gb G' := ⟨Keeps.from h.low hk (fun k hh => (h.gat.base k hh).1), hg, h.gl.keeps hk⟩
theorem GS.mc {w0 W : World} {H : Nat → Prop} {gb : Nat} {G : Ga} (h : GS w0 W H gb G) : MaxCell W := h.gl.c.off
theorem GS.ec {w0 W : World} {H : Nat → Prop} {gb : Nat} {G : Ga} (h : GS w0 W H gb G) : ErrCell W := h.gl.g.off
theorem new_gs {w0 w : World} (n : Nat) (hn : n ≤ 20000) (hb : Below w0.heap.size w0 w) (hm : MaxCell w0) (hg : ErrCell w0) :
    Calls Tryd.prog 39 #[.int .i64 (n : Int)] w fun e w' => ∃ gb H, e = .returned (.tuple #[.pointer (some ⟨gb, 0, none⟩), .nilIface]) ∧ GS w0 w' H gb ⟨n, []⟩ ∧ Below w.heap.size w w' := by
  refine (newG_ok n w hn).mono ?_
  rintro e w' ⟨gb, H, rfl, hG, hb'⟩
  exact ⟨gb, H, rfl, ⟨below_then hb hb', hG.mono hb.size, GL.mk' hm hg (below_then hb hb') (fun k hk => Nat.le_trans hb.size (hG.base k hk).1)⟩, hb'⟩
theorem size_gs {w0 w : World} {H : Nat → Prop} {gb n : Nat} {l : List UInt8} (h : GS w0 w H gb ⟨n, l⟩) : Calls Tryd.prog 42 #[.pointer (some ⟨gb, 0, none⟩)] w fun e w' => e = .returned (.int .i64 (l.length : Nat)) ∧ w = w' := sizeG_any h.gat
/-- what an addition comes to, in a law -/
def RetGS (w0 w : World) (H : Nat → Prop) (gb : Nat) (l : List Pr) (n p : Int) (G : Ga) (e : Ending) (w' : World) : Prop := ∃ v ev H', e = .returned (.tuple #[v, ev]) ∧ PrsV (offW H' w') v l ∧ ErrIs (offW H' w') ev n p ∧ GS w0 w' H' gb G ∧ Keeps w.heap.size w w' H H'
theorem add_gs {w0 w : World} {H : Nat → Prop} {gb : Nat} {G G' : Ga} {l : List Pr} {n p : Int} (s : List UInt8) (more : Bool) (hl : s.length ≤ 140737488351232) (hr : addG G s more = ((l, n, p), G')) (h : GS w0 w H gb G) :
    Calls Tryd.prog 40 #[.pointer (some ⟨gb, 0, none⟩), .string (S s), .bool more] w (RetGS w0 w H gb l n p G') := by
  refine (add_any s more hl h.gl h.gat).mono ?_
  rintro e w' ⟨v, ev, H', rfl, hv, he, hG, hk⟩
  rw [hr] at hv he hG
  exact ⟨v, ev, H', rfl, hv.offG hG, he.offG hG, h.keeps hG hk, hk⟩
def gat1 : List Pr := [⟨[65], [120]⟩]
def gat2 : List UInt8 := [49, 50, 51, 52, 53, 54, 55, 56, 57, 48, 49, 50, 51, 52, 53, 54, 55, 56, 57, 48, 49]
theorem gat_a : addG ⟨20, []⟩ [65, 61] true = (([], 0, -1), ⟨20, [65, 61]⟩) := by kernel_rfl
theorem gat_b : addG ⟨20, [65, 61]⟩ [120, 0] false = ((gat1, 0, -1), ⟨20, []⟩) := by kernel_rfl
theorem gat_c : addG ⟨20, []⟩ gat2 true = (([], 12, -1), ⟨20, []⟩) := by kernel_rfl
set_option maxRecDepth 100000 in
set_option maxHeartbeats 1000000 in
theorem gathered_any (w : World) (hm : MaxCell w) (hg : ErrCell w) : Calls Tryd.prog 38 #[] w fun e w' => e = .returned (.bool true) ∧ Below w.heap.size w w' := by
  have N := Lib.hid (new_gs 20 (by decide) (Below.refl w.heap.size w) hm hg)
  clear hm hg
  go_enter Tryd.func38, Tryd.ntmps38
  go_wp2_with fail
  refine N.out.mono ?_
  rintro e w1 ⟨gb, H, rfl, hs, _⟩
  have A := Lib.hid (add_gs [65, 61] true (by decide) gat_a hs)
  clear hs N
  go_wp2_with fail
  refine A.out.mono ?_
  rintro e w2 ⟨v1, ev1, H1, rfl, hv1, he1, hs1, _⟩
  obtain rfl := he1.zero
  obtain ⟨p1, c1, rfl⟩ := hv1.form
  have A := Lib.hid (add_gs [120, 0] false (by decide) gat_b hs1)
  clear hs1 hv1 he1
  simp only [List.length_nil]
  go_wp2_with fail
  refine A.out.mono ?_
  rintro e w3 ⟨v2, ev2, H2, rfl, hv2, he2, hs2, _⟩
  obtain rfl := he2.zero
  obtain ⟨p2, c2, rfl⟩ := hv2.form
  have HV2 := Lib.hid hv2
  have A := Lib.hid (add_gs gat2 true (by decide) gat_c hs2)
  clear hs2 hv2 he2
  unfold gat2 at A
  go_wp2_with fail
  refine A.out.mono ?_
  rintro e w4 ⟨v3, ev3, H3, rfl, hv3, he3, hs3, hk3⟩
  have HV3 := Lib.hid (HV2.out.later hk3.off')
  have T := Lib.hid (tell_is he3.off hs3.ec)
  have HS3 := Lib.hid hs3
  obtain ⟨p3, c3, rfl⟩ := hv3.form
  clear hs3 hv3 he3 hk3 HV2 A
  simp only [List.length_nil]
  go_wp2_with fail
  refine T.out.mono ?_
  rintro e w5 ⟨rfl, hb5⟩
  have hbn := (Below.refl w5.heap.size w5).alloc (Nat.le_refl _) (.cells #[.string (S [65]), .string (S [120])] 46)
  have HS5 := Lib.hid ((HS3.out.later hb5).later hbn)
  have E := Lib.hid (equalP_same gat1 _ _ _ (by decide) ((HV3.out.off.later hb5).later hbn) (prs_new w5 gat1 46))
  clear hb5 hbn T HV3 HS3
  go_wp2_with fail
  refine E.out.mono ?_
  rintro e w6 ⟨rfl, hb6⟩
  have Z := Lib.hid (size_gs (HS5.out.later hb6))
  have HS6 := Lib.hid (HS5.out.later hb6)
  clear hb6 E HS5
  go_wp2_with fail
  refine Z.out.mono ?_
  rintro e w7 ⟨rfl, rfl⟩
  go_wp2_with fail
  go_ret
  exact ⟨rfl, HS6.out.low⟩
end Go.Proofs.YtildnpnpakhnjaaDoor
