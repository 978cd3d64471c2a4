/- quaymasterkeep.stream: PDUs that are right, as bytes, one behind the other. -/
import Derived.Test.YtlkikkfbennmnaaGreatDoorFeedMath2
import Derived.Test.YtlkikkfbennmnaaGreatDoorPieces
import Derived.Test.YtlkikkfbennmnaaGreatDoorPduWrite
import Derived.Test.YtlkikkfbennmnaaGreatDoorPduSame
import Derived.Test.YtlkikkfbennmnaaGreatDoorPduFit
namespace Go.Proofs.YtlkikkfbennmnaaGreatDoor
open Go.RowKit
set_option linter.unusedVariables false
/-- either nothing, or all of them, right -/
def RetStream (w : World) (l : List Pd) (m : Nat) (e : Ending) (w' : World) : Prop :=
  (e = .returned (.tuple #[.string (S []), .bool false]) ∨ ((∀ p ∈ l, rightP p = 0) ∧ e = .returned (.tuple #[.string (S (flatP l m)), .bool (decide (((flatP l m).length : Int) ≤ 5000))]))) ∧ Below w.heap.size w w'
theorem PdusV.cells {W : World} {p : Option Addr} {c : Nat} {l : List Pd} (h : PdusV W (.slice p l.length c) l) {j : Nat} (hj : j < l.length) : ∃ b o, p = some ⟨b, o, none⟩ ∧ ∃ p1 c1 p2 c2, PduAt W l[j] (.slice p1 l[j].h.vs.length c1) (.slice p2 l[j].a.length c2) ∧
    W.cell? ⟨b, o + j * 6, none⟩ = some (.int .i64 l[j].h.op) ∧ W.cell? ⟨b, o + j * 6 + 1, none⟩ = some (.bool l[j].h.now) ∧ W.cell? ⟨b, o + j * 6 + 2, none⟩ = some (.int .i64 l[j].h.fl) ∧ W.cell? ⟨b, o + j * 6 + 3, none⟩ = some (.slice p1 l[j].h.vs.length c1) ∧ W.cell? ⟨b, o + j * 6 + 4, none⟩ = some (.slice p2 l[j].a.length c2) ∧
    W.cell? ⟨b, o + j * 6 + 5, none⟩ = some (.string (S l[j].d)) := by
  obtain ⟨p0, c0, hv, hc⟩ := h
  obtain ⟨rfl, rfl⟩ : p = p0 ∧ c = c0 := by simpa using hv
  obtain ⟨b, o, rfl, hcell⟩ := hc (by omega)
  obtain ⟨vv, va, hP, e0, e1, e2, e3, e4, e5⟩ := hcell j hj
  obtain ⟨p1, c1, rfl⟩ : ∃ p c, vv = .slice p l[j].h.vs.length c := by obtain ⟨p, c, h, _⟩ := hP.v; exact ⟨p, c, h⟩
  obtain ⟨p2, c2, rfl⟩ := hP.a.form
  exact ⟨b, o, rfl, p1, c1, p2, c2, hP, e0, e1, e2, e3, e4, e5⟩
set_option maxRecDepth 100000 in
set_option maxHeartbeats 2000000 in
theorem stream_any (l : List Pd) (v : Value) (m : Nat) (w : World) (hm3 : m ≤ 3) (hv : PdusV w v l) (hf : ∀ p ∈ l, FitP p) (hl : l.length ≤ 20) (hc : MaxCell w) (hg : ErrCell w) :
    Calls Tryz.prog 12 #[v, .int .i64 (m : Int)] w (RetStream w l m) := by
  obtain ⟨pl, cl, rfl⟩ := hv.form
  have HV := Lib.hid hv
  have Hf := Lib.hid hf
  have Hc := Lib.hid hc
  have Hg := Lib.hid hg
  have Hm3 := Lib.hid hm3
  have hlI : (l.length : Int) ≤ 20 := by omega
  clear hv hf hc hg hm3
  go_enter Tryz.func12, Tryz.ntmps12
  go_wp2_with fail
  go_loopw [6, 13] (fun a i wr => ∃ j : Nat, j ≤ l.length ∧ i = .int .i64 j ∧ a = .string (S (flatP (l.take j) m)) ∧ (∀ p ∈ l.take j, rightP p = 0) ∧ (flatP (l.take j) m).length ≤ j * 4000 ∧ Below w.heap.size w wr) (fun _ i _ => l.length - (intOf i).toNat)
  case atStart => exact ⟨0, Nat.zero_le _, rfl, rfl, fun p h => absurd h (by simp), by simp [flatP], Below.refl _ _⟩
  case round =>
    obtain ⟨j, hj, rfl, rfl, hr, hfl, hb⟩ := hrel
    have Hb := Lib.hid hb
    by_cases hlt : j < l.length
    · obtain ⟨b, o, rfl, p1, c1, p2, c2, hP, e0, e1, e2, e3, e4, e5⟩ := (HV.out.later hb).cells hlt
      have hfit := Hf.out l[j] (List.getElem_mem hlt)
      have htake : l.take (j + 1) = l.take j ++ [l[j]] := by rw [List.take_add_one, List.getElem?_eq_getElem hlt]; rfl
      have hflat : flatP (l.take (j + 1)) m = flatP (l.take j) m ++ bytesP l[j] m := by rw [htake, flatP_app]; show _ ++ (bytesP l[j] m ++ []) = _; rw [List.append_nil]
      generalize hp : l[j] = p at *
      obtain ⟨acc, hacc⟩ : ∃ a, flatP (l.take j) m = a := ⟨_, rfl⟩
      rw [hacc] at hflat hfl ⊢
      have hb1 := (Below.refl wr.heap.size wr).alloc (Nat.le_refl _) (.cells #[.int .i64 p.h.op, .bool p.h.now, .int .i64 p.h.fl, .slice p1 p.h.vs.length c1, .slice p2 p.a.length c2, .string (S p.d)] 45)
      have hk1 := Blk.new wr #[.int .i64 p.h.op, .bool p.h.now, .int .i64 p.h.fl, .slice p1 p.h.vs.length c1, .slice p2 p.a.length c2, .string (S p.d)] 45
      generalize hW1 : wr.alloc (.cells #[.int .i64 p.h.op, .bool p.h.now, .int .i64 p.h.fl, .slice p1 p.h.vs.length c1, .slice p2 p.a.length c2, .string (S p.d)] 45) = W1 at hb1 hk1
      have hP1 := hP.later hb1
      have L := large_any p _ _ W1 hP1 hfit
      unfold pduV at L
      have L := Lib.hid L
      have HP1 := Lib.hid hP1
      have HK1 := Lib.hid hk1
      have Hb1 := Lib.hid (below_then hb hb1)
      have Hfit := Lib.hid hfit
      have Hr := Lib.hid hr
      have Hfl := Lib.hid hfl
      have Htake := Lib.hid htake
      have Hflat := Lib.hid hflat
      obtain ⟨k0, k1, k2, k3, k4, k5⟩ := hk1.six
      clear hb hP hfit htake hflat hp hacc hb1 hk1 hP1 hr hfl Hb
      go_wp2_with fail
      refine L.out.mono ?_
      rintro e w2 ⟨bb, rfl, hlg, hb2⟩
      have Hb2 := Lib.hid (below_then Hb1.out hb2)
      have HK2 := Lib.hid (HK1.out.later hb2)
      have HP2 := Lib.hid (HP1.out.later hb2)
      clear k0 k1 k2 k3 k4 k5 hb2 L HK1 HP1 Hb1
      cases bb with
      | true =>
        go_wp2_with fail
        go_ret2
        exact ⟨.inl rfl, Hb2.out⟩
      | false =>
        have Hlg := Lib.hid (hlg rfl)
        have R := rightP_any p _ _ w2 HP2.out Hfit.out (Hc.out.later Hb2.out) (Hg.out.later Hb2.out)
        unfold pduV at R
        have R := Lib.hid R
        obtain ⟨k0, k1, k2, k3, k4, k5⟩ := HK2.out.six
        clear hlg
        go_wp2_with fail
        refine R.out.mono ?_
        rintro e w3 ⟨ev, rfl, he, hb3⟩
        have Hb3 := Lib.hid (below_then Hb2.out hb3)
        have HK3 := Lib.hid (HK2.out.later hb3)
        have HP3 := Lib.hid (HP2.out.later hb3)
        have he' : ErrIs w3 ev (rightP p) (-1) := he
        clear k0 k1 k2 k3 k4 k5 hb3 R HK2 HP2 Hb2 he
        by_cases h0 : rightP p = 0
        · rw [h0] at he'
          obtain rfl := he'.zero
          have hW : writeP p (m : Int) = (bytesP p m, 0) := by unfold writeP; rw [if_neg (by have := Hm3.out; simp [okM]; omega), if_neg (by simp [h0])]; rfl
          have Wr := writeP_any p _ _ (m : Int) w3 ⟨by omega, by have := Hm3.out; omega⟩ HP3.out Hfit.out (Hc.out.later Hb3.out) (Hg.out.later Hb3.out)
          rw [hW] at Wr
          unfold pduV at Wr
          have hbl := (bytesP_ge (rightP_is h0) m).2
          have hd := Hlg.out.2
          have hfl := Hfl.out
          have i1 : (acc.length : Int) ≤ 80000 := by omega
          have Hr2 := Lib.hid (show ∀ q ∈ l.take (j + 1), rightP q = 0 from fun q hq => by
            rw [Htake.out, List.mem_append, List.mem_singleton] at hq
            rcases hq with hq | rfl
            · exact Hr.out q hq
            · exact h0)
          have hflat := Hflat.out
          have hlen2 : (flatP (l.take (j + 1)) m).length ≤ (j + 1) * 4000 := by rw [hflat, List.length_append]; omega
          generalize bytesP p m = s at *
          have i2 : (s.length : Int) ≤ 4000 := by omega
          have Wr := Lib.hid Wr
          have Hlen2 := Lib.hid hlen2
          obtain ⟨k0, k1, k2, k3, k4, k5⟩ := HK3.out.six
          clear he' h0 hW hbl hd hfl hflat hlen2
          go_wp2_with fail
          refine Wr.out.mono ?_
          rintro e w4 ⟨ev, rfl, he, hb4⟩
          obtain rfl := he.zero
          have Hb4 := Lib.hid (below_then Hb3.out hb4)
          clear k0 k1 k2 k3 k4 k5 he hb4 Wr HK3 HP3 Hb3
          go_wp2_with fail
          go_roundw
          case rel => exact ⟨j + 1, by omega, by go_num, by rw [Hflat.out], Hr2.out, Hlen2.out, Hb4.out⟩
          case measure => simp [intOf]; omega
        · obtain ⟨te, xe, rfl⟩ := he'.iface h0
          clear he' h0
          go_wp2_with fail
          go_ret2
          exact ⟨.inl rfl, Hb3.out⟩
    · obtain rfl : j = l.length := by omega
      rw [List.take_length] at hr hfl ⊢
      have Hr := Lib.hid hr
      clear hb hr hfl
      go_wp2_with fail
      go_ret2
      exact ⟨.inr ⟨Hr.out, rfl⟩, Hb.out⟩
end Go.Proofs.YtlkikkfbennmnaaGreatDoor
