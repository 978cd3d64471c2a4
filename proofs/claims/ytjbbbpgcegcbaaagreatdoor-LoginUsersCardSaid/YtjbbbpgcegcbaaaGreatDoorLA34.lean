/- LA34: several texts in one. -/
import Derived.Test.YtjbbbpgcegcbaaaGreatDoorLA15
import Derived.Test.YtjbbbpgcegcbaaaGreatDoorLA20
import Derived.Test.YtjbbbpgcegcbaaaGreatDoorLA32
import Derived.Test.YtjbbbpgcegcbaaaGreatDoorLA33
namespace Go.Proofs.YtjbbbpgcegcbaaaGreatDoor
open Go Go.RowKit
set_option linter.unusedVariables false
def RetWrite (w : World) (B lb : Nat) (m : LgM) (c : Cf) (d : Dw) (r : Pd × Lq) (e : Ending) (w' : World) : Prop :=
 ∃ vv', e = .returned (pduV r.1 vv' (.slice none 0 0)) ∧ Vals w' vv' r.1.h.vs ∧ OwnV w vv' ∧ LogIn w' B lb m c d r.2 ∧ Keeps w.heap.size w w' (m.H lb) (m.H lb)
theorem lq_don {q : Lq} {b : Bool} (h : q.don = b) (s : Int) : ({ q with sta := s } : Lq) = { q with sta := s, don := b } := by subst h; rfl
theorem vals_row {W : World} {b : Nat} {l : List Nat} {t : TypeId} (h : Blk W b (l.map (fun n : Nat => Value.int .u64 (n : Int))).toArray t) (hx : ∀ x ∈ l, x < 2 ^ 64) : Vals W (.slice (some ⟨b, 0, none⟩) l.length l.length) l :=
 ⟨_, _, rfl, hx, fun _ => ⟨b, 0, rfl, fun j hj => by rw [Nat.zero_add, h.cell j]; simp [List.getElem?_eq_getElem hj]⟩⟩
theorem strs_row {W : World} {b : Nat} {l : List (List UInt8)} {t : TypeId} (h : Blk W b (l.map (fun s => Value.string (S s))).toArray t) : StrV W (.slice (some ⟨b, 0, none⟩) l.length l.length) l :=
 ⟨_, _, rfl, fun _ => ⟨b, 0, rfl, fun j hj => by rw [Nat.zero_add, h.cell j]; simp [List.getElem?_eq_getElem hj]⟩⟩
section
variable {w : World} {B lb : Nat} {m : LgM} {c : Cf} {d : Dw} {q : Lq}
set_option maxRecDepth 100000 in
set_option maxHeartbeats 8000000 in
theorem write_any (p : Pd) (vv va v : Value) (l : List Pr) (f cl det : Int) (h : LogIn w B lb m c d q) (hp : PduAt (offW (m.H lb) w) p vv va) (hE : EnvL (offW (m.H lb) w)) (h0 : 0 ≤ p.h.fl ∧ p.h.fl < 256) (hvl : p.h.vs.length ≤ 9223372036854775807) (ho : p.h.op = 3) (hr : rightR p.h = (0, -1)) (hsv : PrsV w v l) (hl : SFit 66 600 l) (hf : OnFl f) (hcl : 0 ≤ cl ∧ cl ≤ 2) (hdet : 0 ≤ det ∧ det ≤ 11) (hQk : QOk c q) :
  Calls Tryz.prog 59 #[.pointer (some ⟨lb, 0, none⟩), pduV p vv va, .agg #[v, .int .i64 f, .int .i64 cl, .int .i64 det]] w (RetWrite w B lb m c d (writeQ p (l, f, cl, det) q)) := by
 obtain ⟨hF1, hF2⟩ := login_fields ho hr
 have hmA := fun (ts s e mx : Nat) (h1 : ts < 65536) (h2 : s < 4294967296) (h3 : e < 4294967296) (h4 : mx < 4294967296) => make_ans (csgI_range p.h) hf (a := hv p.h nISID) (b := ts) (i := hv p.h nITT) (s := s) (e := e) (m := mx) (k := cl.toNat) (t := det.toNat) hF1 h1 hF2 h2 h3 h4 (by omega) (by omega)
 obtain ⟨fb1, -, -, -⟩ := fl_and h0
 have fb2 := or_fl4 (csgI p.h) f (csgI_range p.h) hf
 have FA := fun n (W : World) (hb : Below w.heap.size w W) => field_any p vv va n W (hp.off.later hb) (hE.off.env.mc.later hb) hvl
 obtain ⟨⟨op, now, fl, vs⟩, al, dt⟩ := p
 obtain ⟨pv, cv, hvv⟩ : ∃ p c, vv = .slice p vs.length c := by obtain ⟨p, c, h, _⟩ := hp.v; exact ⟨p, c, h⟩
 obtain ⟨pa, ca, hva⟩ : ∃ p c, va = .slice p al.length c := by obtain ⟨p, c, h, _⟩ := hp.a; exact ⟨p, c, h⟩
 subst hvv hva
 obtain ⟨pq, cq, rfl⟩ := hsv.form
 obtain ⟨w0, hw0⟩ : ∃ w0, w.alloc (.cells #[.int .i64 op, .bool now, .int .i64 fl, .slice pv vs.length cv, .slice pa al.length ca, .string (S dt)] 41) = w0 := ⟨_, rfl⟩
 obtain ⟨w1, hw1⟩ : ∃ w1, w0.alloc (.cells #[.slice pq l.length cq, .int .i64 f, .int .i64 cl, .int .i64 det] 114) = w1 := ⟨_, rfl⟩
 obtain ⟨w2, hw2⟩ : ∃ w2, w1.alloc (.cells #[.int .i64 0, .bool false, .int .i64 0, .slice none 0 0, .slice none 0 0, .string (S [])] 41) = w2 := ⟨_, rfl⟩
 have b0 : Below w.heap.size w w0 := by rw [← hw0]; exact (Below.refl _ _).alloc (Nat.le_refl _) _
 have b1 : Below w0.heap.size w0 w1 := by rw [← hw1]; exact (Below.refl _ _).alloc (Nat.le_refl _) _
 have b2 : Below w1.heap.size w1 w2 := by rw [← hw2]; exact (Below.refl _ _).alloc (Nat.le_refl _) _
 have k0 : Blk w0 w.heap.size #[.int .i64 op, .bool now, .int .i64 fl, .slice pv vs.length cv, .slice pa al.length ca, .string (S dt)] 41 := by rw [← hw0]; exact Blk.new w _ _
 have k1 : Blk w1 w0.heap.size #[.slice pq l.length cq, .int .i64 f, .int .i64 cl, .int .i64 det] 114 := by rw [← hw1]; exact Blk.new w0 _ _
 have k2 : Blk w2 w1.heap.size #[.int .i64 0, .bool false, .int .i64 0, .slice none 0 0, .slice none 0 0, .string (S [])] 41 := by rw [← hw2]; exact Blk.new w1 _ _
 have b12 := below_then b1 b2
 have b := below_then b0 b12
 have j0 := k0.later b12
 have j1 := k1.later b2
 have hS2 := InB.begin h b k2 (Nat.le_trans b0.size b1.size)
 obtain ⟨pb, hpb⟩ : ∃ pb, w.heap.size = pb := ⟨_, rfl⟩
 obtain ⟨ab, hab⟩ : ∃ ab, w0.heap.size = ab := ⟨_, rfl⟩
 obtain ⟨rb, hrb⟩ : ∃ rb, w1.heap.size = rb := ⟨_, rfl⟩
 rw [hpb] at j0
 rw [hab] at j1
 rw [hrb] at hS2
 obtain ⟨⟨sta, hsta⟩, cmd, hcmd⟩ : (∃ n : Nat, q.sta = n) ∧ ∃ n : Nat, q.cmd = n := ⟨Int.eq_ofNat_of_zero_le hQk.sta.1, Int.eq_ofNat_of_zero_le hQk.cmd.1⟩
 have hsL : sta < 4294967296 := by have := hQk.sta.2; omega
 have hcL : cmd < 4294967296 := by have := hQk.cmd.2; omega
 obtain ⟨Q, hQ⟩ : ∃ Q, writeQ ⟨⟨op, now, fl, vs⟩, al, dt⟩ (l, f, cl, det) q = Q := ⟨_, rfl⟩
 rw [hQ]
 unfold writeQ ansH at hQ
 simp only at hQ fb1 hmA ho
 rw [hsta, hcmd] at hQ
 obtain ⟨isid, hisid⟩ : ∃ n, hv ⟨op, now, fl, vs⟩ nISID = n := ⟨_, rfl⟩
 obtain ⟨itt, hitt⟩ : ∃ n, hv ⟨op, now, fl, vs⟩ nITT = n := ⟨_, rfl⟩
 obtain ⟨csg, hcsg⟩ : ∃ n, csgI ⟨op, now, fl, vs⟩ = n := ⟨_, rfl⟩
 have F1 := fun W hb => FA nISID W hb
 have F2 := fun W hb => FA nITT W hb
 simp only at F1 F2 fb2
 rw [hisid] at hQ hmA F1
 rw [hitt] at hQ hmA F2
 rw [hcsg] at hQ hmA fb1 fb2
 unfold nISID at F1
 unfold nITT at F2
 unfold pduV at F1 F2 ⊢
 simp only at F1 F2 ⊢
 obtain ⟨mx, hmx⟩ : ∃ n : Nat, afterI (cmd : Int) 31 = n := Int.eq_ofNat_of_zero_le (by unfold afterI; omega)
 have hmL : mx < 4294967296 := by unfold afterI at hmx; omega
 obtain ⟨cl, rfl⟩ := Int.eq_ofNat_of_zero_le hcl.1
 obtain ⟨det, rfl⟩ := Int.eq_ofNat_of_zero_le hdet.1
 rw [hmx] at hQ
 simp only [Int.toNat_natCast] at hQ hmA
 have Hmx := Lib.hid hmx
 simp only at hF1 hF2
 rw [hisid] at hF1
 rw [hitt] at hF2
 have Hbd := Lib.hid (show isid < 281474976710656 ∧ itt < 4294967296 ∧ sta < 4294967296 ∧ cmd < 4294967296 ∧ mx < 4294967296 ∧ cl ≤ 2 ∧ det ≤ 11 from ⟨by omega, by omega, hsL, hcL, hmL, by omega, by omega⟩)
 have Hfl := Lib.hid (show -512 ≤ 4 * csg + f ∧ 4 * csg + f ≤ 512 from by have := csgI_range ⟨op, now, fl, vs⟩; unfold OnFl at hf; omega)
 have ws := wrap_u64_lt sta (by omega)
 have wc := wrap_u64_lt cmd (by omega)
 have wm := wrap_u64_lt mx (by omega)
 have wl := wrap_u64_lt cl (by omega)
 have wd := wrap_u64_lt det (by omega)
 have HQ := Lib.hid hQ
 have F1 := Lib.hid F1
 have F2 := Lib.hid F2
 have HM := Lib.hid hmA
 have HS2 := Lib.hid hS2
 have J0 := Lib.hid j0
 have J1 := Lib.hid j1
 have Hb2 := Lib.hid b
 have HE := Lib.hid hE
 have Hsta := Lib.hid hsta
 have Hcmd := Lib.hid hcmd
 have HV := Lib.hid hsv
 have Hfit := Lib.hid (hl.fit (by omega) (by omega))
 have q21 := (pcells hS2.log.blk).q21
 obtain ⟨don, hdon⟩ : ∃ b, q.don = b := ⟨_, rfl⟩
 rw [hdon] at q21
 have Hdon := Lib.hid hdon
 clear h hp hE h0 hvl ho hr hsv hl hf b0 b1 b2 k0 k1 k2 b12 b j0 j1 hS2 hQ hsta hcmd hQk hmA FA hF1 hF2 hdon
 cases don
 case true =>
  go_enter Tryz.func59, Tryz.ntmps59
  go_wp2_with fail
  obtain ⟨w3, hw3⟩ : ∃ w3, w2.alloc (.cells #[.string (S [73, 83, 73, 68]), .string (S [84, 83, 73, 72]), .string (S [73, 84, 84]), .string (S [83, 116, 97, 116, 83, 78]), .string (S [69, 120, 112, 67, 109, 100, 83, 78]), .string (S [77, 97, 120, 67, 109, 100, 83, 78]), .string (S [83, 116, 97, 116, 117, 115, 67, 108, 97, 115, 115]), .string (S [83, 116, 97, 116, 117, 115, 68, 101, 116, 97, 105, 108])] 9) = w3 := ⟨_, rfl⟩
  have b3 : Below w2.heap.size w2 w3 := by rw [← hw3]; exact (Below.refl _ _).alloc (Nat.le_refl _) _
  have kN : Blk w3 w2.heap.size #[.string (S [73, 83, 73, 68]), .string (S [84, 83, 73, 72]), .string (S [73, 84, 84]), .string (S [83, 116, 97, 116, 83, 78]), .string (S [69, 120, 112, 67, 109, 100, 83, 78]), .string (S [77, 97, 120, 67, 109, 100, 83, 78]), .string (S [83, 116, 97, 116, 117, 115, 67, 108, 97, 115, 115]), .string (S [83, 116, 97, 116, 117, 115, 68, 101, 116, 97, 105, 108])] 9 := by rw [← hw3]; exact Blk.new w2 _ _
  obtain ⟨nbk, hnb⟩ : ∃ nbk, w2.heap.size = nbk := ⟨_, rfl⟩
  rw [hnb] at kN
  have hS3 := HS2.out.later b3
  have hs12 := (pcells hS3.log.blk).q12
  have hs11 := (pcells hS3.log.blk).q11
  rw [Hcmd.out] at hs12
  rw [Hsta.out] at hs11
  obtain ⟨i0, i1, i2, i3, i4, i5⟩ := (J0.out.later b3).six
  obtain ⟨u0, u1, u2, u3⟩ := (J1.out.later b3).four
  have HW := Lib.hid (show WS w3 pb ab lb (.int .i64 op) (.bool now) (.int .i64 fl) (.slice pv vs.length cv) (.slice pa al.length ca) (.string (S dt)) (.slice pq l.length cq) (.int .i64 f) (.int .i64 (cl : Int)) (.int .i64 (det : Int)) (.int .u32 (sta : Int)) (.int .u32 (cmd : Int)) from ⟨i0, i1, i2, i3, i4, i5, u0, u1, u2, u3, hs11, hs12⟩)
  have HS3 := Lib.hid hS3
  have HN := Lib.hid kN
  have Hb3 := Lib.hid (below_then Hb2.out b3)
  clear hS3 hs12 hs11 i0 i1 i2 i3 i4 i5 u0 u1 u2 u3 b3 kN HS2
  go_wp2_with fail
  try simp only [hw3]
  clear hw0 hw1 hw2 hw3
  refine wp_region_held (S := (fun w' => WS w' pb ab lb (.int .i64 op) (.bool now) (.int .i64 fl) (.slice pv vs.length cv) (.slice pa al.length ca) (.string (S dt)) (.slice pq l.length cq) (.int .i64 f) (.int .i64 (cl : Int)) (.int .i64 (det : Int)) (.int .u32 (sta : Int)) (.int .u32 (cmd : Int)))) (by kernel_rfl) ?_
  have e4 : Below w3.heap.size w3 { w3 with drawn := w3.drawn + 1 } := (Below.refl _ _).drew
  generalize ({ w3 with drawn := w3.drawn + 1 } : World) = w4 at e4 ⊢
  have hS := HW.out.later e4
  have hb4 := below_then Hb3.out e4
  refine takeN (.agg #[.int .i64 op, .bool now, .int .i64 fl, .slice pv vs.length cv, .slice pa al.length ca, .string (S dt)]) (some 19) (i := 0) rfl rfl (by kernel_rfl) (by kernel_rfl) (by kernel_rfl) (fun _ _ _ h => h) (Or.inl ⟨by rfl, fun w' hw' => ?_⟩) hS ?_
  ·obtain ⟨x0, x1, x2, x3, x4, x5, y0, y1, y2, y3, z1, z2⟩ := hw'
   go_simp
  simp only [Act.put, iA, iB, iC]
  refine takeN (.int .u64 1) (some 21) (i := 2) rfl rfl (by kernel_rfl) (by kernel_rfl) (by kernel_rfl) (fun _ _ _ h => h) (Or.inl ⟨by rfl, fun w' hw' => ?_⟩) hS ?_
  ·obtain ⟨x0, x1, x2, x3, x4, x5, y0, y1, y2, y3, z1, z2⟩ := hw'
   go_simp
  simp only [Act.put, iA, iB, iC]
  refine takeN (.agg #[.int .i64 op, .bool now, .int .i64 fl, .slice pv vs.length cv, .slice pa al.length ca, .string (S dt)]) (some 22) (i := 3) rfl rfl (by kernel_rfl) (by kernel_rfl) (by kernel_rfl) (fun _ _ _ h => h) (Or.inl ⟨by rfl, fun w' hw' => ?_⟩) hS ?_
  ·obtain ⟨x0, x1, x2, x3, x4, x5, y0, y1, y2, y3, z1, z2⟩ := hw'
   go_simp
  simp only [Act.put, iA, iB, iC]
  refine takeN (.pointer (some ⟨lb, 0, none⟩)) (some 24) (i := 5) rfl rfl (by kernel_rfl) (by kernel_rfl) (by kernel_rfl) (fun _ _ _ h => h) (Or.inl ⟨by rfl, fun w' hw' => ?_⟩) hS ?_
  ·obtain ⟨x0, x1, x2, x3, x4, x5, y0, y1, y2, y3, z1, z2⟩ := hw'
   go_simp
  simp only [Act.put, iA, iB, iC]
  refine takeN (.pointer (some ⟨lb, 0, none⟩)) (some 25) (i := 6) rfl rfl (by kernel_rfl) (by kernel_rfl) (by kernel_rfl) (fun _ _ _ h => h) (Or.inl ⟨by rfl, fun w' hw' => ?_⟩) hS ?_
  ·obtain ⟨x0, x1, x2, x3, x4, x5, y0, y1, y2, y3, z1, z2⟩ := hw'
   go_simp
  simp only [Act.put, iA, iB, iC]
  refine takeN (.pointer (some ⟨lb, 11, none⟩)) (some 26) (i := 7) rfl rfl (by kernel_rfl) (by kernel_rfl) (by kernel_rfl) (fun _ _ _ h => h) (Or.inl ⟨by rfl, fun w' hw' => ?_⟩) hS ?_
  ·obtain ⟨x0, x1, x2, x3, x4, x5, y0, y1, y2, y3, z1, z2⟩ := hw'
   go_simp
  simp only [Act.put, iA, iB, iC]
  refine takeN (.int .u32 (sta : Int)) (some 27) (i := 8) rfl rfl (by kernel_rfl) (by kernel_rfl) (by kernel_rfl) (fun _ _ _ h => h) (Or.inl ⟨by rfl, fun w' hw' => ?_⟩) hS ?_
  ·obtain ⟨x0, x1, x2, x3, x4, x5, y0, y1, y2, y3, z1, z2⟩ := hw'
   go_simp
  simp only [Act.put, iA, iB, iC]
  refine takeN (.int .u64 (sta : Int)) (some 28) (i := 9) rfl rfl (by kernel_rfl) (by kernel_rfl) (by kernel_rfl) (fun _ _ _ h => h) (Or.inl ⟨by rfl, fun w' hw' => ?_⟩) hS ?_
  ·obtain ⟨x0, x1, x2, x3, x4, x5, y0, y1, y2, y3, z1, z2⟩ := hw'
   go_simp
  simp only [Act.put, iA, iB, iC]
  refine takeN (.pointer (some ⟨lb, 0, none⟩)) (some 29) (i := 10) rfl rfl (by kernel_rfl) (by kernel_rfl) (by kernel_rfl) (fun _ _ _ h => h) (Or.inl ⟨by rfl, fun w' hw' => ?_⟩) hS ?_
  ·obtain ⟨x0, x1, x2, x3, x4, x5, y0, y1, y2, y3, z1, z2⟩ := hw'
   go_simp
  simp only [Act.put, iA, iB, iC]
  refine takeN (.pointer (some ⟨lb, 0, none⟩)) (some 30) (i := 11) rfl rfl (by kernel_rfl) (by kernel_rfl) (by kernel_rfl) (fun _ _ _ h => h) (Or.inl ⟨by rfl, fun w' hw' => ?_⟩) hS ?_
  ·obtain ⟨x0, x1, x2, x3, x4, x5, y0, y1, y2, y3, z1, z2⟩ := hw'
   go_simp
  simp only [Act.put, iA, iB, iC]
  refine takeN (.pointer (some ⟨lb, 12, none⟩)) (some 31) (i := 12) rfl rfl (by kernel_rfl) (by kernel_rfl) (by kernel_rfl) (fun _ _ _ h => h) (Or.inl ⟨by rfl, fun w' hw' => ?_⟩) hS ?_
  ·obtain ⟨x0, x1, x2, x3, x4, x5, y0, y1, y2, y3, z1, z2⟩ := hw'
   go_simp
  simp only [Act.put, iA, iB, iC]
  refine takeN (.int .u32 (cmd : Int)) (some 32) (i := 13) rfl rfl (by kernel_rfl) (by kernel_rfl) (by kernel_rfl) (fun _ _ _ h => h) (Or.inl ⟨by rfl, fun w' hw' => ?_⟩) hS ?_
  ·obtain ⟨x0, x1, x2, x3, x4, x5, y0, y1, y2, y3, z1, z2⟩ := hw'
   go_simp
  simp only [Act.put, iA, iB, iC]
  refine takeN (.int .u64 (cmd : Int)) (some 33) (i := 14) rfl rfl (by kernel_rfl) (by kernel_rfl) (by kernel_rfl) (fun _ _ _ h => h) (Or.inl ⟨by rfl, fun w' hw' => ?_⟩) hS ?_
  ·obtain ⟨x0, x1, x2, x3, x4, x5, y0, y1, y2, y3, z1, z2⟩ := hw'
   go_simp
  simp only [Act.put, iA, iB, iC]
  refine takeN (.pointer (some ⟨lb, 0, none⟩)) (some 34) (i := 15) rfl rfl (by kernel_rfl) (by kernel_rfl) (by kernel_rfl) (fun _ _ _ h => h) (Or.inl ⟨by rfl, fun w' hw' => ?_⟩) hS ?_
  ·obtain ⟨x0, x1, x2, x3, x4, x5, y0, y1, y2, y3, z1, z2⟩ := hw'
   go_simp
  simp only [Act.put, iA, iB, iC]
  refine takeN (.pointer (some ⟨lb, 0, none⟩)) (some 35) (i := 16) rfl rfl (by kernel_rfl) (by kernel_rfl) (by kernel_rfl) (fun _ _ _ h => h) (Or.inl ⟨by rfl, fun w' hw' => ?_⟩) hS ?_
  ·obtain ⟨x0, x1, x2, x3, x4, x5, y0, y1, y2, y3, z1, z2⟩ := hw'
   go_simp
  simp only [Act.put, iA, iB, iC]
  refine takeN (.pointer (some ⟨lb, 12, none⟩)) (some 36) (i := 17) rfl rfl (by kernel_rfl) (by kernel_rfl) (by kernel_rfl) (fun _ _ _ h => h) (Or.inl ⟨by rfl, fun w' hw' => ?_⟩) hS ?_
  ·obtain ⟨x0, x1, x2, x3, x4, x5, y0, y1, y2, y3, z1, z2⟩ := hw'
   go_simp
  simp only [Act.put, iA, iB, iC]
  refine takeN (.int .u32 (cmd : Int)) (some 37) (i := 18) rfl rfl (by kernel_rfl) (by kernel_rfl) (by kernel_rfl) (fun _ _ _ h => h) (Or.inl ⟨by rfl, fun w' hw' => ?_⟩) hS ?_
  ·obtain ⟨x0, x1, x2, x3, x4, x5, y0, y1, y2, y3, z1, z2⟩ := hw'
   go_simp
  simp only [Act.put, iA, iB, iC]
  refine takeN (.pointer (some ⟨ab, 2, none⟩)) (some 40) (i := 21) rfl rfl (by kernel_rfl) (by kernel_rfl) (by kernel_rfl) (fun _ _ _ h => h) (Or.inl ⟨by rfl, fun w' hw' => ?_⟩) hS ?_
  ·obtain ⟨x0, x1, x2, x3, x4, x5, y0, y1, y2, y3, z1, z2⟩ := hw'
   go_simp
  simp only [Act.put, iA, iB, iC]
  refine takeN (.int .i64 cl) (some 41) (i := 22) rfl rfl (by kernel_rfl) (by kernel_rfl) (by kernel_rfl) (fun _ _ _ h => h) (Or.inl ⟨by rfl, fun w' hw' => ?_⟩) hS ?_
  ·obtain ⟨x0, x1, x2, x3, x4, x5, y0, y1, y2, y3, z1, z2⟩ := hw'
   go_simp
  simp only [Act.put, iA, iB, iC]
  refine takeN (.int .u64 cl) (some 42) (i := 23) rfl rfl (by kernel_rfl) (by kernel_rfl) (by kernel_rfl) (fun _ _ _ h => h) (Or.inl ⟨by rfl, fun w' hw' => ?_⟩) hS ?_
  ·obtain ⟨x0, x1, x2, x3, x4, x5, y0, y1, y2, y3, z1, z2⟩ := hw'
   go_simp
  simp only [Act.put, iA, iB, iC]
  refine takeN (.pointer (some ⟨ab, 3, none⟩)) (some 43) (i := 24) rfl rfl (by kernel_rfl) (by kernel_rfl) (by kernel_rfl) (fun _ _ _ h => h) (Or.inl ⟨by rfl, fun w' hw' => ?_⟩) hS ?_
  ·obtain ⟨x0, x1, x2, x3, x4, x5, y0, y1, y2, y3, z1, z2⟩ := hw'
   go_simp
  simp only [Act.put, iA, iB, iC]
  refine takeN (.int .i64 det) (some 44) (i := 25) rfl rfl (by kernel_rfl) (by kernel_rfl) (by kernel_rfl) (fun _ _ _ h => h) (Or.inl ⟨by rfl, fun w' hw' => ?_⟩) hS ?_
  ·obtain ⟨x0, x1, x2, x3, x4, x5, y0, y1, y2, y3, z1, z2⟩ := hw'
   go_simp
  simp only [Act.put, iA, iB, iC]
  refine takeN (.int .u64 det) (some 45) (i := 26) rfl rfl (by kernel_rfl) (by kernel_rfl) (by kernel_rfl) (fun _ _ _ h => h) (Or.inl ⟨by rfl, fun w' hw' => ?_⟩) hS ?_
  ·obtain ⟨x0, x1, x2, x3, x4, x5, y0, y1, y2, y3, z1, z2⟩ := hw'
   go_simp
  simp only [Act.put, iA, iB, iC]
  refine wpAnyH_all (rs := [1]) (by kernel_rfl) (by simp) (fun i hi => ?_)
  obtain rfl : i = 1 := by simpa using hi
  refine wantN (i := 1) rfl (by rfl) (callN (f := 58) (some 20) rfl Tryz.func58 (by kernel_rfl) (by kernel_rfl) rfl rfl ?_)
  simp only [List.map_toArray, List.map_cons, List.map_nil]
  refine (F1.out _ hb4).mono ?_
  rintro e w5 ⟨rfl, hb5⟩
  have hS5 := hS.later hb5
  have hb5' := below_then hb4 hb5
  refine ⟨_, rfl, hS5, ?_⟩
  try dsimp only
  simp only [Act.put, iA, iB, iC]
  refine wpAnyH_all (rs := [4]) (by kernel_rfl) (by simp) (fun i hi => ?_)
  obtain rfl : i = 4 := by simpa using hi
  refine wantN (i := 4) rfl (by rfl) (callN (f := 58) (some 23) rfl Tryz.func58 (by kernel_rfl) (by kernel_rfl) rfl rfl ?_)
  simp only [List.map_toArray, List.map_cons, List.map_nil]
  refine (F2.out _ hb5').mono ?_
  rintro e w6 ⟨rfl, hb6⟩
  have hS6 := hS5.later hb6
  have hb6' := below_then hb5' hb6
  refine ⟨_, rfl, hS6, ?_⟩
  try dsimp only
  simp only [Act.put, iA, iB, iC]
  refine wpAnyH_all (rs := [19]) (by kernel_rfl) (by simp) (fun i hi => ?_)
  obtain rfl : i = 19 := by simpa using hi
  refine wantN (i := 19) rfl (by rfl) (callN (f := 90) (some 38) rfl Tryz.func90 (by kernel_rfl) (by kernel_rfl) rfl rfl ?_)
  simp only [List.map_toArray, List.map_cons, List.map_nil]
  refine (after_any (cmd : Int) 31 _).mono ?_
  rintro e w' ⟨rfl, rfl⟩
  rw [Hmx.out]
  refine ⟨_, rfl, hS6, ?_⟩
  try dsimp only
  simp only [Act.put, iA, iB, iC]
  refine takeN (.int .u64 (mx : Int)) (some 39) (i := 20) rfl rfl (by kernel_rfl) (by kernel_rfl) (by kernel_rfl) (fun _ _ _ h => h) (Or.inl ⟨by rfl, fun w' hw' => ?_⟩) hS6 ?_
  ·obtain ⟨x0, x1, x2, x3, x4, x5, y0, y1, y2, y3, z1, z2⟩ := hw'
   go_simp
  simp only [Act.put, iA, iB, iC]
  refine wpAnyH_all (rs := [27]) (by kernel_rfl) (by simp) (fun i hi => ?_)
  obtain rfl : i = 27 := by simpa using hi
  obtain ⟨vb, hvb⟩ : ∃ vb, w6.heap.size = vb := ⟨_, rfl⟩
  obtain ⟨w7, hw7⟩ : ∃ w7, w6.alloc (.cells #[.int .u64 ((isid : Nat) : Int), .int .u64 ((1 : Nat) : Int), .int .u64 ((itt : Nat) : Int), .int .u64 ((sta : Nat) : Int), .int .u64 ((cmd : Nat) : Int), .int .u64 ((mx : Nat) : Int), .int .u64 ((cl : Nat) : Int), .int .u64 ((det : Nat) : Int)] 77) = w7 := ⟨_, rfl⟩
  have b7 : Below w6.heap.size w6 w7 := by rw [← hw7]; exact (Below.refl _ _).alloc (Nat.le_refl _) _
  have k7 : Blk w7 w6.heap.size #[.int .u64 ((isid : Nat) : Int), .int .u64 ((1 : Nat) : Int), .int .u64 ((itt : Nat) : Int), .int .u64 ((sta : Nat) : Int), .int .u64 ((cmd : Nat) : Int), .int .u64 ((mx : Nat) : Int), .int .u64 ((cl : Nat) : Int), .int .u64 ((det : Nat) : Int)] 77 := by rw [← hw7]; exact Blk.new w6 _ _
  rw [hvb] at k7
  have hS7 := hS6.later b7
  refine wantN (i := 27) rfl (by rfl) (row8N (isid : Nat) (1 : Nat) (itt : Nat) (sta : Nat) (cmd : Nat) (mx : Nat) (cl : Nat) (det : Nat) (some 46) rfl rfl rfl rfl rfl rfl rfl rfl rfl rfl ?_)
  rw [hvb, hw7]
  refine ⟨hS7, ?_⟩
  try dsimp only
  simp only [Act.put, iA, iB, iC]
  refine takeN (.slice (some ⟨vb, 0, none⟩) 8 8) (some 9) (i := 28) rfl rfl (by kernel_rfl) (by kernel_rfl) (by kernel_rfl) (fun _ _ _ h => h) (Or.inl ⟨by rfl, fun w' hw' => ?_⟩) hS7 ?_
  ·obtain ⟨x0, x1, x2, x3, x4, x5, y0, y1, y2, y3, z1, z2⟩ := hw'
   go_simp
  simp only [Act.put, iA, iB, iC]
  refine wpAnyH_done (by kernel_rfl) ?_ _
  have hb7 := below_then hb6' b7
  have b37 : Below w3.heap.size w3 w7 := below_then (below_then (below_then e4 hb5) hb6) b7
  have hVR : Vals w7 (.slice (some ⟨vb, 0, none⟩) 8 8) [isid, 1, itt, sta, cmd, mx, cl, det] := vals_row (l := [isid, 1, itt, sta, cmd, mx, cl, det]) k7 (fun x hx => by
   simp only [List.mem_cons, List.not_mem_nil, or_false] at hx
   rcases hx with rfl | rfl | rfl | rfl | rfl | rfl | rfl | rfl <;> first | (have := Hbd.out; omega) | decide)
  have hSN : StrV w7 (.slice (some ⟨nbk, 0, none⟩) 8 8) ansNames := strs_row (l := ansNames) (HN.out.later b37)
  have MK := makeO_any 35 (4 * csg + f) ansNames [isid, 1, itt, sta, cmd, mx, cl, det] _ _ w7 (by have := Hfl.out; unfold I64; omega) (HE.out.off.env.mc.later hb7) hSN hVR (by decide) (by simp)
  rw [HM.out 1 sta cmd mx (by decide) hsL hcL (by have := Hbd.out; omega)] at MK
  have HS7 := Lib.hid (HS3.out.later b37)
  have HW7 := Lib.hid hS7
  have MK := Lib.hid MK
  have Hb7 := Lib.hid hb7
  clear hS hb4 hS5 hb5 hb5' hS6 hb6 hb6' b7 k7 hS7 hb7 b37 hVR hSN hi HW HS3 HN Hb3 hvb hw7 e4
  obtain ⟨x0, x1, x2, x3, x4, x5, y0, y1, y2, y3, z1, z2⟩ := HW7.out
  go_wp2_with fail
  refine MK.out.mono ?_
  rintro e w8 ⟨vh, ev, rfl, ⟨hvh, hown⟩, herr, hb8⟩
  obtain rfl := herr.zero
  obtain ⟨ph, ch, rfl⟩ : ∃ p c, vh = .slice p 10 c := by obtain ⟨p, c, h, _⟩ := hvh; exact ⟨p, c, h⟩
  obtain ⟨hb, hhb⟩ : ∃ hb, w8.heap.size = hb := ⟨_, rfl⟩
  obtain ⟨w9, hw9⟩ : ∃ w9, w8.alloc (.cells #[.int .i64 0, .bool false, .int .i64 0, .slice none 0 0] 38) = w9 := ⟨_, rfl⟩
  have Hlh := Lib.hid (show lb < hb from by have := HS7.out.start.blk.lt; have := Hb7.out.size; have := hb8.size; omega)
  have Hrl := Lib.hid HS7.out.rbk.lt
  have k9 : Blk w9 hb #[.int .i64 0, .bool false, .int .i64 0, .slice none 0 0] 38 := by rw [← hw9, ← hhb]; exact Blk.new w8 _ _
  have b9 : Below w8.heap.size w8 w9 := by rw [← hw9]; exact (Below.refl _ _).alloc (Nat.le_refl _) _
  obtain ⟨w10, hw10⟩ : ∃ w10, (((w9.setCell ⟨hb, 0, none⟩ (.int .i64 35)).setCell ⟨hb, 1, none⟩ (.bool false)).setCell ⟨hb, 2, none⟩ (.int .i64 (4 * csg + f))).setCell ⟨hb, 3, none⟩ (.slice ph 10 ch) = w10 := ⟨_, rfl⟩
  have k10 : Blk w10 hb #[.int .i64 35, .bool false, .int .i64 (4 * csg + f), .slice ph 10 ch] 38 := by rw [← hw10]; exact (((k9.set 0 (.int .i64 35)).set 1 (.bool false)).set 2 (.int .i64 (4 * csg + f))).set 3 (.slice ph 10 ch)
  have b10 : Below w8.heap.size w8 w10 := by
   rw [← hw10, hhb]
   rw [hhb] at b9
   exact (((b9.setCell (p := ⟨hb, 0, none⟩) (Nat.le_refl _) _).setCell (p := ⟨hb, 1, none⟩) (Nat.le_refl _) _).setCell (p := ⟨hb, 2, none⟩) (Nat.le_refl _) _).setCell (p := ⟨hb, 3, none⟩) (Nat.le_refl _) _
  obtain ⟨g0, g1, g2, g3⟩ := k9.four
  have f0 := k9.frozen 0
  have f1 := k9.frozen 1
  have f2 := k9.frozen 2
  have f3 := k9.frozen 3
  have b710 := below_then hb8 b10
  have HS10 := Lib.hid (HS7.out.later b710)
  have HW10 := Lib.hid (HW7.out.later b710)
  have HVH := Lib.hid (hvh.later b10)
  have HO := Lib.hid hown
  have PR := Lib.hid (print_prs l (.slice pq l.length cq) w10 (HV.out.later (below_then Hb7.out b710)) Hfit.out)
  have K10 := Lib.hid k10
  have Hb10 := Lib.hid (below_then Hb7.out b710)
  clear hb8 hvh hown b10 b9 k9 k10 b710 herr MK HS7 HW7 x0 x1 x2 x3 x4 x5 y0 y1 y2 y3 z1 z2
  unfold headV
  simp only
  obtain ⟨x0, x1, x2, x3, x4, x5, y0, y1, y2, y3, z1, z2⟩ := HW10.out
  go_wp2_with fail
  clear hw9 hw10 g0 g1 g2 g3 f0 f1 f2 f3
  refine PR.out.mono ?_
  rintro e w11 ⟨er, rfl, -, hb11⟩
  have HS11 := Lib.hid (HS10.out.later hb11)
  have HW11 := Lib.hid (HW10.out.later hb11)
  have hVH11 := HVH.out.later hb11
  have K11 := Lib.hid (K10.out.later hb11)
  have Hb11 := Lib.hid (below_then Hb10.out hb11)
  clear x0 x1 x2 x3 x4 x5 y0 y1 y2 y3 z1 z2 PR HS10 HW10 HVH K10 Hb10
  obtain ⟨x0, x1, x2, x3, x4, x5, y0, y1, y2, y3, z1, z2⟩ := HW11.out
  have HVH := Lib.hid hVH11
  clear hVH11 hb11
  go_wp2_with fail
  refine (after_any (sta : Int) 1 _).mono ?_
  rintro e w' ⟨rfl, rfl⟩
  obtain ⟨w12, hw12⟩ : ∃ w12, w11.setCell ⟨lb, 11, none⟩ (.int .u32 (afterI (sta : Int) 1)) = w12 := ⟨_, rfl⟩
  have hK11 : Keeps w11.heap.size w11 w12 (fun k => k = lb) (fun k => k = lb) := by rw [← hw12]; exact (Keeps.refl _ w11 (fun k => k = lb)).putC rfl 11 _
  have hB12 := HS11.out.log.blk.set 11 (.int .u32 (afterI (sta : Int) 1))
  rw [hw12] at hB12
  obtain ⟨hL12, hK12⟩ := HS11.out.log.turn (q' := { q with sta := afterI (sta : Int) 1 }) hK11 hB12 rfl rfl rfl ⟨rfl, rfl, rfl⟩
  have hS12 := HS11.out.step hL12 hK12 ⟨rfl, rfl, rfl, rfl⟩
  have k12 : Blk w12 hb #[.int .i64 35, .bool false, .int .i64 (4 * csg + f), .slice ph 10 ch] 38 := (hK11.block hb K11.out.lt (fun e => by have := Hlh.out; omega)).trans K11.out
  have hg11 : w11.grownBy w12 (some lb) := ⟨hK11.os, hK11.tape, hK11.output, hK11.size, fun k hk hne => hK11.block k hk (fun e => hne (by rw [e]))⟩
  have hv12 := HVH.out.laid HO.out (Nat.lt_of_lt_of_le HS11.out.start.blk.lt Hb7.out.size) hg11
  have fl11 := HS11.out.log.blk.frozen 11
  obtain ⟨t0, t1, t2, t3⟩ := k12.four
  obtain ⟨r0, r1, r2, r3, r4, r5⟩ := hS12.rbk.six
  have f0 := hS12.rbk.frozen 0
  have f1 := hS12.rbk.frozen 1
  have f2 := hS12.rbk.frozen 2
  have f3 := hS12.rbk.frozen 3
  have f4 := hS12.rbk.frozen 4
  have f5 := hS12.rbk.frozen 5
  obtain ⟨w13, hw13⟩ : ∃ w13, (((((w12.setCell ⟨rb, 0, none⟩ (.int .i64 35)).setCell ⟨rb, 1, none⟩ (.bool false)).setCell ⟨rb, 2, none⟩ (.int .i64 (4 * csg + f))).setCell ⟨rb, 3, none⟩ (.slice ph 10 ch)).setCell ⟨rb, 4, none⟩ (.slice none 0 0)).setCell ⟨rb, 5, none⟩ (.string (S (prPrint l).1)) = w13 := ⟨_, rfl⟩
  have hB13 : Blk w13 rb #[.int .i64 35, .bool false, .int .i64 (4 * csg + f), .slice ph 10 ch, .slice none 0 0, .string (S (prPrint l).1)] 41 := by rw [← hw13]; exact ((((((hS12.rbk.set 0 (.int .i64 35)).set 1 (.bool false)).set 2 (.int .i64 (4 * csg + f))).set 3 (.slice ph 10 ch)).set 4 (.slice none 0 0)).set 5 (.string (S (prPrint l).1)))
  have hK13 : Keeps w12.heap.size w12 w13 (fun k => k = rb) (fun k => k = rb) := by rw [← hw13]; exact (((((((Keeps.refl _ w12 (fun k => k = rb)).putC rfl 0 _).putC rfl 1 _).putC rfl 2 _).putC rfl 3 _).putC rfl 4 _).putC rfl 5 _)
  have hS13 := hS12.laid hK13 hB13
  have hg12 : w12.grownBy w13 (some rb) := ⟨hK13.os, hK13.tape, hK13.output, hK13.size, fun k hk hne => hK13.block k hk (fun e => hne (by rw [e]))⟩
  have hv13 := hv12.laid HO.out Hrl.out hg12
  obtain ⟨s0, s1, s2, s3, s4, s5⟩ := hB13.six
  have HS13 := Lib.hid hS13
  have HV13 := Lib.hid hv13
  clear hK11 hB12 hL12 hK12 hS12 k12 hg11 hv12 hB13 hK13 hS13 hg12 hv13
  go_wp2_with fail
  refine bodyPost_ret (v := .agg #[.int .i64 35, .bool false, .int .i64 (4 * csg + f), .slice ph 10 ch, .slice none 0 0, .string (S (prPrint l).1)]) (by simp [results, Tryz.results59, go_sem, s0, s1, s2, s3, s4, s5]) rfl ?_
  have hq := HQ.out
  rw [Hdon.out, ← Hcmd.out] at hq
  subst hq
  exact ⟨.slice ph 10 ch, rfl, HV13.out, fun k hk => Nat.le_trans Hb7.out.size (HO.out k hk), (lq_don Hdon.out (afterI (sta : Int) 1)) ▸ HS13.out.log, HS13.out.keep⟩
 case false =>
  go_enter Tryz.func59, Tryz.ntmps59
  go_wp2_with fail
  obtain ⟨w3, hw3⟩ : ∃ w3, w2.alloc (.cells #[.string (S [73, 83, 73, 68]), .string (S [84, 83, 73, 72]), .string (S [73, 84, 84]), .string (S [83, 116, 97, 116, 83, 78]), .string (S [69, 120, 112, 67, 109, 100, 83, 78]), .string (S [77, 97, 120, 67, 109, 100, 83, 78]), .string (S [83, 116, 97, 116, 117, 115, 67, 108, 97, 115, 115]), .string (S [83, 116, 97, 116, 117, 115, 68, 101, 116, 97, 105, 108])] 9) = w3 := ⟨_, rfl⟩
  have b3 : Below w2.heap.size w2 w3 := by rw [← hw3]; exact (Below.refl _ _).alloc (Nat.le_refl _) _
  have kN : Blk w3 w2.heap.size #[.string (S [73, 83, 73, 68]), .string (S [84, 83, 73, 72]), .string (S [73, 84, 84]), .string (S [83, 116, 97, 116, 83, 78]), .string (S [69, 120, 112, 67, 109, 100, 83, 78]), .string (S [77, 97, 120, 67, 109, 100, 83, 78]), .string (S [83, 116, 97, 116, 117, 115, 67, 108, 97, 115, 115]), .string (S [83, 116, 97, 116, 117, 115, 68, 101, 116, 97, 105, 108])] 9 := by rw [← hw3]; exact Blk.new w2 _ _
  obtain ⟨nbk, hnb⟩ : ∃ nbk, w2.heap.size = nbk := ⟨_, rfl⟩
  rw [hnb] at kN
  have hS3 := HS2.out.later b3
  have hs12 := (pcells hS3.log.blk).q12
  have hs11 := (pcells hS3.log.blk).q11
  rw [Hcmd.out] at hs12
  rw [Hsta.out] at hs11
  obtain ⟨i0, i1, i2, i3, i4, i5⟩ := (J0.out.later b3).six
  obtain ⟨u0, u1, u2, u3⟩ := (J1.out.later b3).four
  have HW := Lib.hid (show WS w3 pb ab lb (.int .i64 op) (.bool now) (.int .i64 fl) (.slice pv vs.length cv) (.slice pa al.length ca) (.string (S dt)) (.slice pq l.length cq) (.int .i64 f) (.int .i64 (cl : Int)) (.int .i64 (det : Int)) (.int .u32 (sta : Int)) (.int .u32 (cmd : Int)) from ⟨i0, i1, i2, i3, i4, i5, u0, u1, u2, u3, hs11, hs12⟩)
  have HS3 := Lib.hid hS3
  have HN := Lib.hid kN
  have Hb3 := Lib.hid (below_then Hb2.out b3)
  clear hS3 hs12 hs11 i0 i1 i2 i3 i4 i5 u0 u1 u2 u3 b3 kN HS2
  go_wp2_with fail
  try simp only [hw3]
  clear hw0 hw1 hw2 hw3
  refine wp_region_held (S := (fun w' => WS w' pb ab lb (.int .i64 op) (.bool now) (.int .i64 fl) (.slice pv vs.length cv) (.slice pa al.length ca) (.string (S dt)) (.slice pq l.length cq) (.int .i64 f) (.int .i64 (cl : Int)) (.int .i64 (det : Int)) (.int .u32 (sta : Int)) (.int .u32 (cmd : Int)))) (by kernel_rfl) ?_
  have e4 : Below w3.heap.size w3 { w3 with drawn := w3.drawn + 1 } := (Below.refl _ _).drew
  generalize ({ w3 with drawn := w3.drawn + 1 } : World) = w4 at e4 ⊢
  have hS := HW.out.later e4
  have hb4 := below_then Hb3.out e4
  refine takeN (.agg #[.int .i64 op, .bool now, .int .i64 fl, .slice pv vs.length cv, .slice pa al.length ca, .string (S dt)]) (some 19) (i := 0) rfl rfl (by kernel_rfl) (by kernel_rfl) (by kernel_rfl) (fun _ _ _ h => h) (Or.inl ⟨by rfl, fun w' hw' => ?_⟩) hS ?_
  ·obtain ⟨x0, x1, x2, x3, x4, x5, y0, y1, y2, y3, z1, z2⟩ := hw'
   go_simp
  simp only [Act.put, iA, iB, iC]
  refine takeN (.int .u64 0) (some 21) (i := 2) rfl rfl (by kernel_rfl) (by kernel_rfl) (by kernel_rfl) (fun _ _ _ h => h) (Or.inl ⟨by rfl, fun w' hw' => ?_⟩) hS ?_
  ·obtain ⟨x0, x1, x2, x3, x4, x5, y0, y1, y2, y3, z1, z2⟩ := hw'
   go_simp
  simp only [Act.put, iA, iB, iC]
  refine takeN (.agg #[.int .i64 op, .bool now, .int .i64 fl, .slice pv vs.length cv, .slice pa al.length ca, .string (S dt)]) (some 22) (i := 3) rfl rfl (by kernel_rfl) (by kernel_rfl) (by kernel_rfl) (fun _ _ _ h => h) (Or.inl ⟨by rfl, fun w' hw' => ?_⟩) hS ?_
  ·obtain ⟨x0, x1, x2, x3, x4, x5, y0, y1, y2, y3, z1, z2⟩ := hw'
   go_simp
  simp only [Act.put, iA, iB, iC]
  refine takeN (.pointer (some ⟨lb, 0, none⟩)) (some 24) (i := 5) rfl rfl (by kernel_rfl) (by kernel_rfl) (by kernel_rfl) (fun _ _ _ h => h) (Or.inl ⟨by rfl, fun w' hw' => ?_⟩) hS ?_
  ·obtain ⟨x0, x1, x2, x3, x4, x5, y0, y1, y2, y3, z1, z2⟩ := hw'
   go_simp
  simp only [Act.put, iA, iB, iC]
  refine takeN (.pointer (some ⟨lb, 0, none⟩)) (some 25) (i := 6) rfl rfl (by kernel_rfl) (by kernel_rfl) (by kernel_rfl) (fun _ _ _ h => h) (Or.inl ⟨by rfl, fun w' hw' => ?_⟩) hS ?_
  ·obtain ⟨x0, x1, x2, x3, x4, x5, y0, y1, y2, y3, z1, z2⟩ := hw'
   go_simp
  simp only [Act.put, iA, iB, iC]
  refine takeN (.pointer (some ⟨lb, 11, none⟩)) (some 26) (i := 7) rfl rfl (by kernel_rfl) (by kernel_rfl) (by kernel_rfl) (fun _ _ _ h => h) (Or.inl ⟨by rfl, fun w' hw' => ?_⟩) hS ?_
  ·obtain ⟨x0, x1, x2, x3, x4, x5, y0, y1, y2, y3, z1, z2⟩ := hw'
   go_simp
  simp only [Act.put, iA, iB, iC]
  refine takeN (.int .u32 (sta : Int)) (some 27) (i := 8) rfl rfl (by kernel_rfl) (by kernel_rfl) (by kernel_rfl) (fun _ _ _ h => h) (Or.inl ⟨by rfl, fun w' hw' => ?_⟩) hS ?_
  ·obtain ⟨x0, x1, x2, x3, x4, x5, y0, y1, y2, y3, z1, z2⟩ := hw'
   go_simp
  simp only [Act.put, iA, iB, iC]
  refine takeN (.int .u64 (sta : Int)) (some 28) (i := 9) rfl rfl (by kernel_rfl) (by kernel_rfl) (by kernel_rfl) (fun _ _ _ h => h) (Or.inl ⟨by rfl, fun w' hw' => ?_⟩) hS ?_
  ·obtain ⟨x0, x1, x2, x3, x4, x5, y0, y1, y2, y3, z1, z2⟩ := hw'
   go_simp
  simp only [Act.put, iA, iB, iC]
  refine takeN (.pointer (some ⟨lb, 0, none⟩)) (some 29) (i := 10) rfl rfl (by kernel_rfl) (by kernel_rfl) (by kernel_rfl) (fun _ _ _ h => h) (Or.inl ⟨by rfl, fun w' hw' => ?_⟩) hS ?_
  ·obtain ⟨x0, x1, x2, x3, x4, x5, y0, y1, y2, y3, z1, z2⟩ := hw'
   go_simp
  simp only [Act.put, iA, iB, iC]
  refine takeN (.pointer (some ⟨lb, 0, none⟩)) (some 30) (i := 11) rfl rfl (by kernel_rfl) (by kernel_rfl) (by kernel_rfl) (fun _ _ _ h => h) (Or.inl ⟨by rfl, fun w' hw' => ?_⟩) hS ?_
  ·obtain ⟨x0, x1, x2, x3, x4, x5, y0, y1, y2, y3, z1, z2⟩ := hw'
   go_simp
  simp only [Act.put, iA, iB, iC]
  refine takeN (.pointer (some ⟨lb, 12, none⟩)) (some 31) (i := 12) rfl rfl (by kernel_rfl) (by kernel_rfl) (by kernel_rfl) (fun _ _ _ h => h) (Or.inl ⟨by rfl, fun w' hw' => ?_⟩) hS ?_
  ·obtain ⟨x0, x1, x2, x3, x4, x5, y0, y1, y2, y3, z1, z2⟩ := hw'
   go_simp
  simp only [Act.put, iA, iB, iC]
  refine takeN (.int .u32 (cmd : Int)) (some 32) (i := 13) rfl rfl (by kernel_rfl) (by kernel_rfl) (by kernel_rfl) (fun _ _ _ h => h) (Or.inl ⟨by rfl, fun w' hw' => ?_⟩) hS ?_
  ·obtain ⟨x0, x1, x2, x3, x4, x5, y0, y1, y2, y3, z1, z2⟩ := hw'
   go_simp
  simp only [Act.put, iA, iB, iC]
  refine takeN (.int .u64 (cmd : Int)) (some 33) (i := 14) rfl rfl (by kernel_rfl) (by kernel_rfl) (by kernel_rfl) (fun _ _ _ h => h) (Or.inl ⟨by rfl, fun w' hw' => ?_⟩) hS ?_
  ·obtain ⟨x0, x1, x2, x3, x4, x5, y0, y1, y2, y3, z1, z2⟩ := hw'
   go_simp
  simp only [Act.put, iA, iB, iC]
  refine takeN (.pointer (some ⟨lb, 0, none⟩)) (some 34) (i := 15) rfl rfl (by kernel_rfl) (by kernel_rfl) (by kernel_rfl) (fun _ _ _ h => h) (Or.inl ⟨by rfl, fun w' hw' => ?_⟩) hS ?_
  ·obtain ⟨x0, x1, x2, x3, x4, x5, y0, y1, y2, y3, z1, z2⟩ := hw'
   go_simp
  simp only [Act.put, iA, iB, iC]
  refine takeN (.pointer (some ⟨lb, 0, none⟩)) (some 35) (i := 16) rfl rfl (by kernel_rfl) (by kernel_rfl) (by kernel_rfl) (fun _ _ _ h => h) (Or.inl ⟨by rfl, fun w' hw' => ?_⟩) hS ?_
  ·obtain ⟨x0, x1, x2, x3, x4, x5, y0, y1, y2, y3, z1, z2⟩ := hw'
   go_simp
  simp only [Act.put, iA, iB, iC]
  refine takeN (.pointer (some ⟨lb, 12, none⟩)) (some 36) (i := 17) rfl rfl (by kernel_rfl) (by kernel_rfl) (by kernel_rfl) (fun _ _ _ h => h) (Or.inl ⟨by rfl, fun w' hw' => ?_⟩) hS ?_
  ·obtain ⟨x0, x1, x2, x3, x4, x5, y0, y1, y2, y3, z1, z2⟩ := hw'
   go_simp
  simp only [Act.put, iA, iB, iC]
  refine takeN (.int .u32 (cmd : Int)) (some 37) (i := 18) rfl rfl (by kernel_rfl) (by kernel_rfl) (by kernel_rfl) (fun _ _ _ h => h) (Or.inl ⟨by rfl, fun w' hw' => ?_⟩) hS ?_
  ·obtain ⟨x0, x1, x2, x3, x4, x5, y0, y1, y2, y3, z1, z2⟩ := hw'
   go_simp
  simp only [Act.put, iA, iB, iC]
  refine takeN (.pointer (some ⟨ab, 2, none⟩)) (some 40) (i := 21) rfl rfl (by kernel_rfl) (by kernel_rfl) (by kernel_rfl) (fun _ _ _ h => h) (Or.inl ⟨by rfl, fun w' hw' => ?_⟩) hS ?_
  ·obtain ⟨x0, x1, x2, x3, x4, x5, y0, y1, y2, y3, z1, z2⟩ := hw'
   go_simp
  simp only [Act.put, iA, iB, iC]
  refine takeN (.int .i64 cl) (some 41) (i := 22) rfl rfl (by kernel_rfl) (by kernel_rfl) (by kernel_rfl) (fun _ _ _ h => h) (Or.inl ⟨by rfl, fun w' hw' => ?_⟩) hS ?_
  ·obtain ⟨x0, x1, x2, x3, x4, x5, y0, y1, y2, y3, z1, z2⟩ := hw'
   go_simp
  simp only [Act.put, iA, iB, iC]
  refine takeN (.int .u64 cl) (some 42) (i := 23) rfl rfl (by kernel_rfl) (by kernel_rfl) (by kernel_rfl) (fun _ _ _ h => h) (Or.inl ⟨by rfl, fun w' hw' => ?_⟩) hS ?_
  ·obtain ⟨x0, x1, x2, x3, x4, x5, y0, y1, y2, y3, z1, z2⟩ := hw'
   go_simp
  simp only [Act.put, iA, iB, iC]
  refine takeN (.pointer (some ⟨ab, 3, none⟩)) (some 43) (i := 24) rfl rfl (by kernel_rfl) (by kernel_rfl) (by kernel_rfl) (fun _ _ _ h => h) (Or.inl ⟨by rfl, fun w' hw' => ?_⟩) hS ?_
  ·obtain ⟨x0, x1, x2, x3, x4, x5, y0, y1, y2, y3, z1, z2⟩ := hw'
   go_simp
  simp only [Act.put, iA, iB, iC]
  refine takeN (.int .i64 det) (some 44) (i := 25) rfl rfl (by kernel_rfl) (by kernel_rfl) (by kernel_rfl) (fun _ _ _ h => h) (Or.inl ⟨by rfl, fun w' hw' => ?_⟩) hS ?_
  ·obtain ⟨x0, x1, x2, x3, x4, x5, y0, y1, y2, y3, z1, z2⟩ := hw'
   go_simp
  simp only [Act.put, iA, iB, iC]
  refine takeN (.int .u64 det) (some 45) (i := 26) rfl rfl (by kernel_rfl) (by kernel_rfl) (by kernel_rfl) (fun _ _ _ h => h) (Or.inl ⟨by rfl, fun w' hw' => ?_⟩) hS ?_
  ·obtain ⟨x0, x1, x2, x3, x4, x5, y0, y1, y2, y3, z1, z2⟩ := hw'
   go_simp
  simp only [Act.put, iA, iB, iC]
  refine wpAnyH_all (rs := [1]) (by kernel_rfl) (by simp) (fun i hi => ?_)
  obtain rfl : i = 1 := by simpa using hi
  refine wantN (i := 1) rfl (by rfl) (callN (f := 58) (some 20) rfl Tryz.func58 (by kernel_rfl) (by kernel_rfl) rfl rfl ?_)
  simp only [List.map_toArray, List.map_cons, List.map_nil]
  refine (F1.out _ hb4).mono ?_
  rintro e w5 ⟨rfl, hb5⟩
  have hS5 := hS.later hb5
  have hb5' := below_then hb4 hb5
  refine ⟨_, rfl, hS5, ?_⟩
  try dsimp only
  simp only [Act.put, iA, iB, iC]
  refine wpAnyH_all (rs := [4]) (by kernel_rfl) (by simp) (fun i hi => ?_)
  obtain rfl : i = 4 := by simpa using hi
  refine wantN (i := 4) rfl (by rfl) (callN (f := 58) (some 23) rfl Tryz.func58 (by kernel_rfl) (by kernel_rfl) rfl rfl ?_)
  simp only [List.map_toArray, List.map_cons, List.map_nil]
  refine (F2.out _ hb5').mono ?_
  rintro e w6 ⟨rfl, hb6⟩
  have hS6 := hS5.later hb6
  have hb6' := below_then hb5' hb6
  refine ⟨_, rfl, hS6, ?_⟩
  try dsimp only
  simp only [Act.put, iA, iB, iC]
  refine wpAnyH_all (rs := [19]) (by kernel_rfl) (by simp) (fun i hi => ?_)
  obtain rfl : i = 19 := by simpa using hi
  refine wantN (i := 19) rfl (by rfl) (callN (f := 90) (some 38) rfl Tryz.func90 (by kernel_rfl) (by kernel_rfl) rfl rfl ?_)
  simp only [List.map_toArray, List.map_cons, List.map_nil]
  refine (after_any (cmd : Int) 31 _).mono ?_
  rintro e w' ⟨rfl, rfl⟩
  rw [Hmx.out]
  refine ⟨_, rfl, hS6, ?_⟩
  try dsimp only
  simp only [Act.put, iA, iB, iC]
  refine takeN (.int .u64 (mx : Int)) (some 39) (i := 20) rfl rfl (by kernel_rfl) (by kernel_rfl) (by kernel_rfl) (fun _ _ _ h => h) (Or.inl ⟨by rfl, fun w' hw' => ?_⟩) hS6 ?_
  ·obtain ⟨x0, x1, x2, x3, x4, x5, y0, y1, y2, y3, z1, z2⟩ := hw'
   go_simp
  simp only [Act.put, iA, iB, iC]
  refine wpAnyH_all (rs := [27]) (by kernel_rfl) (by simp) (fun i hi => ?_)
  obtain rfl : i = 27 := by simpa using hi
  obtain ⟨vb, hvb⟩ : ∃ vb, w6.heap.size = vb := ⟨_, rfl⟩
  obtain ⟨w7, hw7⟩ : ∃ w7, w6.alloc (.cells #[.int .u64 ((isid : Nat) : Int), .int .u64 ((0 : Nat) : Int), .int .u64 ((itt : Nat) : Int), .int .u64 ((sta : Nat) : Int), .int .u64 ((cmd : Nat) : Int), .int .u64 ((mx : Nat) : Int), .int .u64 ((cl : Nat) : Int), .int .u64 ((det : Nat) : Int)] 77) = w7 := ⟨_, rfl⟩
  have b7 : Below w6.heap.size w6 w7 := by rw [← hw7]; exact (Below.refl _ _).alloc (Nat.le_refl _) _
  have k7 : Blk w7 w6.heap.size #[.int .u64 ((isid : Nat) : Int), .int .u64 ((0 : Nat) : Int), .int .u64 ((itt : Nat) : Int), .int .u64 ((sta : Nat) : Int), .int .u64 ((cmd : Nat) : Int), .int .u64 ((mx : Nat) : Int), .int .u64 ((cl : Nat) : Int), .int .u64 ((det : Nat) : Int)] 77 := by rw [← hw7]; exact Blk.new w6 _ _
  rw [hvb] at k7
  have hS7 := hS6.later b7
  refine wantN (i := 27) rfl (by rfl) (row8N (isid : Nat) (0 : Nat) (itt : Nat) (sta : Nat) (cmd : Nat) (mx : Nat) (cl : Nat) (det : Nat) (some 46) rfl rfl rfl rfl rfl rfl rfl rfl rfl rfl ?_)
  rw [hvb, hw7]
  refine ⟨hS7, ?_⟩
  try dsimp only
  simp only [Act.put, iA, iB, iC]
  refine takeN (.slice (some ⟨vb, 0, none⟩) 8 8) (some 9) (i := 28) rfl rfl (by kernel_rfl) (by kernel_rfl) (by kernel_rfl) (fun _ _ _ h => h) (Or.inl ⟨by rfl, fun w' hw' => ?_⟩) hS7 ?_
  ·obtain ⟨x0, x1, x2, x3, x4, x5, y0, y1, y2, y3, z1, z2⟩ := hw'
   go_simp
  simp only [Act.put, iA, iB, iC]
  refine wpAnyH_done (by kernel_rfl) ?_ _
  have hb7 := below_then hb6' b7
  have b37 : Below w3.heap.size w3 w7 := below_then (below_then (below_then e4 hb5) hb6) b7
  have hVR : Vals w7 (.slice (some ⟨vb, 0, none⟩) 8 8) [isid, 0, itt, sta, cmd, mx, cl, det] := vals_row (l := [isid, 0, itt, sta, cmd, mx, cl, det]) k7 (fun x hx => by
   simp only [List.mem_cons, List.not_mem_nil, or_false] at hx
   rcases hx with rfl | rfl | rfl | rfl | rfl | rfl | rfl | rfl <;> first | (have := Hbd.out; omega) | decide)
  have hSN : StrV w7 (.slice (some ⟨nbk, 0, none⟩) 8 8) ansNames := strs_row (l := ansNames) (HN.out.later b37)
  have MK := makeO_any 35 (4 * csg + f) ansNames [isid, 0, itt, sta, cmd, mx, cl, det] _ _ w7 (by have := Hfl.out; unfold I64; omega) (HE.out.off.env.mc.later hb7) hSN hVR (by decide) (by simp)
  rw [HM.out 0 sta cmd mx (by decide) hsL hcL (by have := Hbd.out; omega)] at MK
  have HS7 := Lib.hid (HS3.out.later b37)
  have HW7 := Lib.hid hS7
  have MK := Lib.hid MK
  have Hb7 := Lib.hid hb7
  clear hS hb4 hS5 hb5 hb5' hS6 hb6 hb6' b7 k7 hS7 hb7 b37 hVR hSN hi HW HS3 HN Hb3 hvb hw7 e4
  obtain ⟨x0, x1, x2, x3, x4, x5, y0, y1, y2, y3, z1, z2⟩ := HW7.out
  go_wp2_with fail
  refine MK.out.mono ?_
  rintro e w8 ⟨vh, ev, rfl, ⟨hvh, hown⟩, herr, hb8⟩
  obtain rfl := herr.zero
  obtain ⟨ph, ch, rfl⟩ : ∃ p c, vh = .slice p 10 c := by obtain ⟨p, c, h, _⟩ := hvh; exact ⟨p, c, h⟩
  obtain ⟨hb, hhb⟩ : ∃ hb, w8.heap.size = hb := ⟨_, rfl⟩
  obtain ⟨w9, hw9⟩ : ∃ w9, w8.alloc (.cells #[.int .i64 0, .bool false, .int .i64 0, .slice none 0 0] 38) = w9 := ⟨_, rfl⟩
  have Hlh := Lib.hid (show lb < hb from by have := HS7.out.start.blk.lt; have := Hb7.out.size; have := hb8.size; omega)
  have Hrl := Lib.hid HS7.out.rbk.lt
  have k9 : Blk w9 hb #[.int .i64 0, .bool false, .int .i64 0, .slice none 0 0] 38 := by rw [← hw9, ← hhb]; exact Blk.new w8 _ _
  have b9 : Below w8.heap.size w8 w9 := by rw [← hw9]; exact (Below.refl _ _).alloc (Nat.le_refl _) _
  obtain ⟨w10, hw10⟩ : ∃ w10, (((w9.setCell ⟨hb, 0, none⟩ (.int .i64 35)).setCell ⟨hb, 1, none⟩ (.bool false)).setCell ⟨hb, 2, none⟩ (.int .i64 (4 * csg + f))).setCell ⟨hb, 3, none⟩ (.slice ph 10 ch) = w10 := ⟨_, rfl⟩
  have k10 : Blk w10 hb #[.int .i64 35, .bool false, .int .i64 (4 * csg + f), .slice ph 10 ch] 38 := by rw [← hw10]; exact (((k9.set 0 (.int .i64 35)).set 1 (.bool false)).set 2 (.int .i64 (4 * csg + f))).set 3 (.slice ph 10 ch)
  have b10 : Below w8.heap.size w8 w10 := by
   rw [← hw10, hhb]
   rw [hhb] at b9
   exact (((b9.setCell (p := ⟨hb, 0, none⟩) (Nat.le_refl _) _).setCell (p := ⟨hb, 1, none⟩) (Nat.le_refl _) _).setCell (p := ⟨hb, 2, none⟩) (Nat.le_refl _) _).setCell (p := ⟨hb, 3, none⟩) (Nat.le_refl _) _
  obtain ⟨g0, g1, g2, g3⟩ := k9.four
  have f0 := k9.frozen 0
  have f1 := k9.frozen 1
  have f2 := k9.frozen 2
  have f3 := k9.frozen 3
  have b710 := below_then hb8 b10
  have HS10 := Lib.hid (HS7.out.later b710)
  have HW10 := Lib.hid (HW7.out.later b710)
  have HVH := Lib.hid (hvh.later b10)
  have HO := Lib.hid hown
  have PR := Lib.hid (print_prs l (.slice pq l.length cq) w10 (HV.out.later (below_then Hb7.out b710)) Hfit.out)
  have K10 := Lib.hid k10
  have Hb10 := Lib.hid (below_then Hb7.out b710)
  clear hb8 hvh hown b10 b9 k9 k10 b710 herr MK HS7 HW7 x0 x1 x2 x3 x4 x5 y0 y1 y2 y3 z1 z2
  unfold headV
  simp only
  obtain ⟨x0, x1, x2, x3, x4, x5, y0, y1, y2, y3, z1, z2⟩ := HW10.out
  go_wp2_with fail
  clear hw9 hw10 g0 g1 g2 g3 f0 f1 f2 f3
  refine PR.out.mono ?_
  rintro e w11 ⟨er, rfl, -, hb11⟩
  have HS11 := Lib.hid (HS10.out.later hb11)
  have HW11 := Lib.hid (HW10.out.later hb11)
  have hVH11 := HVH.out.later hb11
  have K11 := Lib.hid (K10.out.later hb11)
  have Hb11 := Lib.hid (below_then Hb10.out hb11)
  clear x0 x1 x2 x3 x4 x5 y0 y1 y2 y3 z1 z2 PR HS10 HW10 HVH K10 Hb10
  obtain ⟨x0, x1, x2, x3, x4, x5, y0, y1, y2, y3, z1, z2⟩ := HW11.out
  have HVH := Lib.hid hVH11
  clear hVH11 hb11
  go_wp2_with fail
  refine (after_any (sta : Int) 1 _).mono ?_
  rintro e w' ⟨rfl, rfl⟩
  obtain ⟨w12, hw12⟩ : ∃ w12, w11.setCell ⟨lb, 11, none⟩ (.int .u32 (afterI (sta : Int) 1)) = w12 := ⟨_, rfl⟩
  have hK11 : Keeps w11.heap.size w11 w12 (fun k => k = lb) (fun k => k = lb) := by rw [← hw12]; exact (Keeps.refl _ w11 (fun k => k = lb)).putC rfl 11 _
  have hB12 := HS11.out.log.blk.set 11 (.int .u32 (afterI (sta : Int) 1))
  rw [hw12] at hB12
  obtain ⟨hL12, hK12⟩ := HS11.out.log.turn (q' := { q with sta := afterI (sta : Int) 1 }) hK11 hB12 rfl rfl rfl ⟨rfl, rfl, rfl⟩
  have hS12 := HS11.out.step hL12 hK12 ⟨rfl, rfl, rfl, rfl⟩
  have k12 : Blk w12 hb #[.int .i64 35, .bool false, .int .i64 (4 * csg + f), .slice ph 10 ch] 38 := (hK11.block hb K11.out.lt (fun e => by have := Hlh.out; omega)).trans K11.out
  have hg11 : w11.grownBy w12 (some lb) := ⟨hK11.os, hK11.tape, hK11.output, hK11.size, fun k hk hne => hK11.block k hk (fun e => hne (by rw [e]))⟩
  have hv12 := HVH.out.laid HO.out (Nat.lt_of_lt_of_le HS11.out.start.blk.lt Hb7.out.size) hg11
  have fl11 := HS11.out.log.blk.frozen 11
  obtain ⟨t0, t1, t2, t3⟩ := k12.four
  obtain ⟨r0, r1, r2, r3, r4, r5⟩ := hS12.rbk.six
  have f0 := hS12.rbk.frozen 0
  have f1 := hS12.rbk.frozen 1
  have f2 := hS12.rbk.frozen 2
  have f3 := hS12.rbk.frozen 3
  have f4 := hS12.rbk.frozen 4
  have f5 := hS12.rbk.frozen 5
  obtain ⟨w13, hw13⟩ : ∃ w13, (((((w12.setCell ⟨rb, 0, none⟩ (.int .i64 35)).setCell ⟨rb, 1, none⟩ (.bool false)).setCell ⟨rb, 2, none⟩ (.int .i64 (4 * csg + f))).setCell ⟨rb, 3, none⟩ (.slice ph 10 ch)).setCell ⟨rb, 4, none⟩ (.slice none 0 0)).setCell ⟨rb, 5, none⟩ (.string (S (prPrint l).1)) = w13 := ⟨_, rfl⟩
  have hB13 : Blk w13 rb #[.int .i64 35, .bool false, .int .i64 (4 * csg + f), .slice ph 10 ch, .slice none 0 0, .string (S (prPrint l).1)] 41 := by rw [← hw13]; exact ((((((hS12.rbk.set 0 (.int .i64 35)).set 1 (.bool false)).set 2 (.int .i64 (4 * csg + f))).set 3 (.slice ph 10 ch)).set 4 (.slice none 0 0)).set 5 (.string (S (prPrint l).1)))
  have hK13 : Keeps w12.heap.size w12 w13 (fun k => k = rb) (fun k => k = rb) := by rw [← hw13]; exact (((((((Keeps.refl _ w12 (fun k => k = rb)).putC rfl 0 _).putC rfl 1 _).putC rfl 2 _).putC rfl 3 _).putC rfl 4 _).putC rfl 5 _)
  have hS13 := hS12.laid hK13 hB13
  have hg12 : w12.grownBy w13 (some rb) := ⟨hK13.os, hK13.tape, hK13.output, hK13.size, fun k hk hne => hK13.block k hk (fun e => hne (by rw [e]))⟩
  have hv13 := hv12.laid HO.out Hrl.out hg12
  obtain ⟨s0, s1, s2, s3, s4, s5⟩ := hB13.six
  have HS13 := Lib.hid hS13
  have HV13 := Lib.hid hv13
  clear hK11 hB12 hL12 hK12 hS12 k12 hg11 hv12 hB13 hK13 hS13 hg12 hv13
  go_wp2_with fail
  refine bodyPost_ret (v := .agg #[.int .i64 35, .bool false, .int .i64 (4 * csg + f), .slice ph 10 ch, .slice none 0 0, .string (S (prPrint l).1)]) (by simp [results, Tryz.results59, go_sem, s0, s1, s2, s3, s4, s5]) rfl ?_
  have hq := HQ.out
  rw [Hdon.out, ← Hcmd.out] at hq
  subst hq
  exact ⟨.slice ph 10 ch, rfl, HV13.out, fun k hk => Nat.le_trans Hb7.out.size (HO.out k hk), (lq_don Hdon.out (afterI (sta : Int) 1)) ▸ HS13.out.log, HS13.out.keep⟩
end
end Go.Proofs.YtjbbbpgcegcbaaaGreatDoor
