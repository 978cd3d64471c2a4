/- feed.All. -/
import Derived.Test.YtlkikkfbennmnaaGreatDoorFeedNext2
import Derived.Lib.AppendZeros
namespace Go.Proofs.YtlkikkfbennmnaaGreatDoor
open Go.RowKit
set_option linter.unusedVariables false
theorem Keeps.grown {N : Nat} {w w1 w2 : World} {H H1 : Nat → Prop} {row : Option Nat} (h : Keeps N w w1 H H1) (hg : w1.grownBy w2 row) (hr : ∀ k, row = some k → N ≤ k) (hN : N ≤ w1.heap.size) : Keeps N w w2 H H1 :=
  ⟨hg.os.trans h.os, hg.tape.trans h.tape, hg.output.trans h.output, Nat.le_trans h.size hg.size, fun k hk hH => (hg.block k (by omega) (fun e => by have := hr k e.symm; omega)).trans (h.block k hk hH), h.more, h.old⟩
theorem ErrCell.off {H : Nat → Prop} {W : World} (h : ErrCell (offW H W)) : ErrCell W := off_cell h
theorem MaxCell.off {H : Nat → Prop} {W : World} (h : MaxCell (offW H W)) : MaxCell W := by obtain ⟨m, hm⟩ := h; exact ⟨m, off_cell hm⟩
/-- the listed cells lie in no feed's blocks -/
structure GL (H : Nat → Prop) (W : World) : Prop where
  c : MaxCell (offW H W)
  g : ErrCell (offW H W)
theorem GL.keeps {w w' : World} {H H' : Nat → Prop} (h : GL H w) (hk : Keeps w.heap.size w w' H H') : GL H' w' := ⟨h.c.later hk.off', h.g.later hk.off'⟩
theorem GL.later {w w' : World} {H : Nat → Prop} (h : GL H w) (hb : Below w.heap.size w w') : GL H w' := h.keeps (Keeps.of hb H)
theorem GL.mk' {w w' : World} {H : Nat → Prop} (hc : MaxCell w) (hg : ErrCell w) (hb : Below w.heap.size w w') (hH : ∀ k, H k → w.heap.size ≤ k) : GL H w' := by
  obtain ⟨m, hm⟩ := hc
  have h1 := block_lt_of_cell (w := w) hm
  have h2 := block_lt_of_cell (w := w) hg
  simp only at h1 h2
  refine ⟨⟨m, ?_⟩, ?_⟩
  · rw [off_to (a := ⟨1, 0, none⟩) (fun hh => by have := hH _ hh; simp only at this; omega), (bcell hb).1 _ _ h1]; exact hm
  · unfold ErrCell
    rw [off_to (a := ⟨0, 0, none⟩) (fun hh => by have := hH _ hh; simp only at this; omega), (bcell hb).1 _ _ h2]; exact hg
/-- what a feed tells of all that are there -/
def RetAll (w : World) (B : Nat) (H : Nat → Prop) (fb : Nat) (r : List Pc × Int × Fe) (e : Ending) (w' : World) : Prop := ∃ v ev H', e = .returned (.tuple #[v, ev]) ∧ PBuf w.heap.size (offW H' w') v r.1 ∧ Bare1 ev r.2.1 ∧ FeedAt w' B H' fb r.2.2 ∧ Keeps w.heap.size w w' H H'
set_option maxRecDepth 100000 in
set_option maxHeartbeats 1000000 in
theorem fall_any {w : World} {B : Nat} {H : Nat → Prop} {fb : Nat} {F : Fe} (hl : F.kept.length ≤ 4294967280) (hgl : GL H w) (hF : FeedAt w B H fb F) :
    Calls Tryz.prog 16 #[.pointer (some ⟨fb, 0, none⟩)] w (RetAll w B H fb (allF F)) := by
  obtain ⟨R, hR⟩ : ∃ R, allF F = R := ⟨_, rfl⟩
  rw [hR]
  have HR := Lib.hid hR
  have HF0 := Lib.hid hF
  have Hgl := Lib.hid hgl
  clear hR hF hgl
  go_enter Tryz.func16, Tryz.ntmps16
  go_wp2_with fail
  go_loopg [4] (F.kept.length + 1) (fun k x wr => ∃ (G : Fe) (Hr : Nat → Prop) (acc : List Pc), k = G.kept.length + 1 ∧ acc.length * 48 + G.kept.length ≤ F.kept.length ∧ FeedAt wr B Hr fb G ∧ Keeps w.heap.size w wr H Hr ∧ PBuf w.heap.size (offW Hr wr) x acc ∧ (acc ++ (allF G).1, (allF G).2) = R)
  case atStart => exact ⟨F, H, [], rfl, by simp, HF0.out, Keeps.refl _ _ _, PBuf.nil _ _, HR.out⟩
  case round =>
    obtain ⟨G, Hr, acc, rfl, hn, hF, hK, hP, hA⟩ := hrel
    obtain ⟨px, cx, rfl⟩ := hP.form
    have gl := Hgl.out.keeps hK
    have NX := Lib.hid (fnext_any (by omega) gl.c.off gl.g.off hF)
    have HK := Lib.hid hK
    have HP := Lib.hid hP
    cases hx : (nextF G).1.2.1 with
    | true =>
      obtain ⟨p, e, h48, _⟩ := next_zero hx
      have hlt := next_less hx
      have hal := all_more hx
      rw [hal] at hA
      rw [e] at NX hA hlt
      generalize hG : ({ G with kept := G.kept.drop (ea G.kept G.mode) } : Fe) = G' at NX hA hlt
      have HA := Lib.hid hA
      have Hn := Lib.hid hn
      have Hlt := Lib.hid hlt
      have hk48 : acc.length * 48 + 48 + G'.kept.length ≤ F.kept.length := by
        have L := ends_le G.kept G.mode
        rw [← hG]
        simp only [List.length_drop]
        omega
      have Hk48 := Lib.hid hk48
      clear hA hn hlt hk48 hG hal e hx hF hK hP gl h48
      go_wp2_with fail
      refine NX.out.mono ?_
      rintro e w1 ⟨vv, va, ev, H1, rfl, hP1, hE, hF1, hK1⟩
      obtain rfl := hE.zero
      obtain ⟨⟨pv, nv, cv, rfl⟩, ⟨pa, na, ca, rfl⟩⟩ := hP1.sl
      have hb2 := (Below.refl w1.heap.size w1).alloc (Nat.le_refl _) (.cells #[.int .i64 p.p.h.op, .bool p.p.h.now, .int .i64 p.p.h.fl, .slice pv nv cv, .slice pa na ca, .string (S p.p.d), .string (S p.sp)] 47)
      generalize hW2 : w1.alloc (.cells #[.int .i64 p.p.h.op, .bool p.p.h.now, .int .i64 p.p.h.fl, .slice pv nv cv, .slice pa na ca, .string (S p.p.d), .string (S p.sp)] 47) = W2 at hb2
      have hk2 : Blk W2 w1.heap.size #[.int .i64 p.p.h.op, .bool p.p.h.now, .int .i64 p.p.h.fl, .slice pv nv cv, .slice pa na ca, .string (S p.p.d), .string (S p.sp)] 47 := by rw [← hW2]; exact Blk.new _ _ _
      have hb3 := (Below.refl W2.heap.size W2).alloc (Nat.le_refl _) (.cells #[.int .i64 p.p.h.op, .bool p.p.h.now, .int .i64 p.p.h.fl, .slice pv nv cv, .slice pa na ca, .string (S p.p.d), .string (S p.sp)] 47)
      have hk3 := Blk.new W2 #[.int .i64 p.p.h.op, .bool p.p.h.now, .int .i64 p.p.h.fl, .slice pv nv cv, .slice pa na ca, .string (S p.p.d), .string (S p.sp)] 47
      generalize hW3 : W2.alloc (.cells #[.int .i64 p.p.h.op, .bool p.p.h.now, .int .i64 p.p.h.fl, .slice pv nv cv, .slice pa na ca, .string (S p.p.d), .string (S p.sp)] 47) = W3 at hb3 hk3
      have hb13 := below_then hb2 hb3
      have hF3 := hF1.later hb13
      have hoff : Below (offW Hr wr).heap.size (offW Hr wr) (offW H1 W3) := (hK1.then (Keeps.of hb13 H1)).off'
      obtain ⟨hP3, hPn⟩ := (HP.out.later hoff).off
      have hq3 := (hP1.later (by rw [off_size]; exact off_below hb13)).off
      have hsz3 : w.heap.size ≤ W3.heap.size := Nat.le_trans HK.out.size (Nat.le_trans hK1.size hb13.size)
      obtain ⟨v', wa, hr, hPa, hgrow⟩ := run_append_pc 34 hP3 p (.slice pv nv cv) (.slice pa na ca) W2.heap.size 47 hk3 ⟨_, _, _, rfl⟩ ⟨_, _, _, rfl⟩ hq3 hsz3 (by have := Hk48.out; omega)
      have hFa := hF3.grown hgrow hPn
      have hKa : Keeps w.heap.size w wa H H1 := ((HK.out.then hK1).trans (Keeps.of hb13 H1) (Nat.le_trans HK.out.size hK1.size)).grown hgrow hP3.ge hsz3
      have HFa := Lib.hid hFa
      have HKa := Lib.hid hKa
      have HPa := Lib.hid (hPa.offF hFa)
      have HRun := Lib.hid hr
      obtain ⟨q0, q1, q2, q3, q4, q5, q6⟩ := hk2.seven
      clear hE hF1 hP1 hK1 hb2 hb3 hb13 hF3 hoff hP3 hPn hq3 hsz3 hr hPa hgrow hFa hKa NX hk2 hk3
      unfold pcV
      simp only
      go_wp2_with (at_builtin; refine Lib.wpList_append_run _ rfl _ _ _ _ rfl _ _ rfl rfl _ _ HRun.out ?_)
      go_roundg (G'.kept.length + 1)
      case measure => have := Hlt.out; omega
      case rel => exact ⟨G', H1, acc ++ [p], rfl, by have := Hk48.out; simp; omega, HFa.out, HKa.out, HPa.out, by rw [List.append_assoc]; exact HA.out⟩
    | false =>
      have hal := all_end hx
      rw [hal] at hA
      obtain ⟨N, hN⟩ : ∃ N, nextF G = N := ⟨_, rfl⟩
      rw [hN] at NX hA hx
      obtain ⟨⟨q, ok, n⟩, G'⟩ := N
      simp only at hx hA
      subst hx
      rw [List.append_nil] at hA
      subst hA
      clear hal hN hn hF hK hP gl
      go_wp2_with fail
      refine NX.out.mono ?_
      rintro e w1 ⟨vv, va, ev, H1, rfl, hP1, hE, hF1, hK1⟩
      obtain ⟨⟨pv, nv, cv, rfl⟩, ⟨pa, na, ca, rfl⟩⟩ := hP1.sl
      have hb2 := (Below.refl w1.heap.size w1).alloc (Nat.le_refl _) (.cells #[.int .i64 q.p.h.op, .bool q.p.h.now, .int .i64 q.p.h.fl, .slice pv nv cv, .slice pa na ca, .string (S q.p.d), .string (S q.sp)] 47)
      have HF2 := Lib.hid (hF1.later hb2)
      have HK2 := Lib.hid ((HK.out.then hK1).trans (Keeps.of hb2 H1) (Nat.le_trans HK.out.size hK1.size))
      have HP2 := Lib.hid (HP.out.later (hK1.then (Keeps.of hb2 H1)).off')
      have HE := Lib.hid hE
      clear hE hF1 hP1 hK1 hb2 NX
      unfold pcV
      simp only
      go_wp2_with fail
      go_ret2
      exact ⟨_, _, H1, rfl, HP2.out, HE.out, HF2.out, HK2.out⟩
end Go.Proofs.YtlkikkfbennmnaaGreatDoor
