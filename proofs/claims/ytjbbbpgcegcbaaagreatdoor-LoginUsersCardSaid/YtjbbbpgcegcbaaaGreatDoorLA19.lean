/- LA19: several texts in one. -/
import Derived.Deep.RegionWith
import Derived.IntWalk
import Derived.Shelf.Strings.Repeat
import Derived.Test.YtjbbbpgcegcbaaaGreatDoorProg
import Derived.Test.YtjbbbpgcegcbaaaGreatDoorLA07
import Derived.Test.YtjbbbpgcegcbaaaGreatDoorLA12
import Derived.Test.YtjbbbpgcegcbaaaGreatDoorLA17
import Derived.Test.YtjbbbpgcegcbaaaGreatDoorLA18
namespace Go.Proofs.YtjbbbpgcegcbaaaGreatDoor
open Go.RowKit
set_option linter.unusedVariables false
def SaidE (w : World) (lb : Nat) (m : LgM) (o : Option (List Pr)) (e : Ending) (w' : World) : Prop := match o with
 | some l => ∃ v, e = .returned v ∧ PrBuf w.heap.size (offW (m.H lb) w') v l
 | none => e = thrown 1
def RetSaid (w : World) (B lb : Nat) (m : LgM) (c : Cf) (d : Dw) (r : Option (List Pr) × Lq) (e : Ending) (w' : World) : Prop :=
 SaidE w lb m r.1 e w' ∧ LogIn w' B lb m c d r.2 ∧ Keeps w.heap.size w w' (m.H lb) (m.H lb)
theorem PrBuf.litM {w W0 W : World} {B lb : Nat} {m : LgM} {c : Cf} {d : Dw} {q : Lq} {l : List Pr} (h : LogIn W0 B lb m c d q) (hs : W0.heap.size ≤ W.heap.size) (hw : w.heap.size ≤ W.heap.size) (hl : l.length ≤ 1000) (C : Array Value) (hC : (prsVs l).toArray = C) : PrBuf w.heap.size (offW (m.H lb) (W.alloc (.cells C 60))) (.slice (some ⟨W.heap.size, 0, none⟩) l.length l.length) l := by
 subst hC
 refine row_off (PrBuf.lit (World.alloc_heap_new W _) hw hl) (fun k hk hh => ?_)
 have : W.heap.size = k := by simpa [Value.ownBlock] using hk
 have := (h.ge k hh).2
 omega
theorem keep2L {W w w' : World} {a b : Addr} {x y : Value} (h : Below W.heap.size W w ∧ w.cell? a = some x ∧ w.cell? b = some y) (hb : Below w.heap.size w w') : Below W.heap.size W w' ∧ w'.cell? a = some x ∧ w'.cell? b = some y := by
 obtain ⟨h0, h1, h2⟩ := h
 have k : ∀ {a : Addr} {x : Value}, w.cell? a = some x → w'.cell? a = some x := fun {a} {x} h => by rw [hb.cell (block_lt_of_cell h)]; exact h
 exact ⟨below_then h0 hb, k h1, k h2⟩
section
variable {w : World} {B lb : Nat} {m : LgM} {c : Cf} {d : Dw} {q : Lq}
set_option maxRecDepth 100000 in
set_option maxHeartbeats 4000000 in
theorem choose_any {pb n : Nat} {pf : List UInt8 → Option (List UInt8)} (hP : SMap w pb n pf) (h : LogIn w B lb m c d q) (hE : EnvL (offW (m.H lb) w)) (hx : ∀ k x, pf k = some x → x.length ≤ 255) :
  Calls Tryz.prog 130 #[.pointer (some ⟨lb, 0, none⟩), .map (some pb)] w (RetSaid w B lb m c d (chsQ c (pf kAM) q)) := by
 have L := (hP.look Tryz.underlying93 kAM (by decide)).1
 have hxl := hx kAM
 have HL := Lib.hid h
 obtain ⟨Q, hQ⟩ : ∃ Q, chsQ c (pf kAM) q = Q := ⟨_, rfl⟩
 rw [hQ]
 unfold chsQ at hQ
 generalize pf kAM = o at L hQ hxl
 cases o with
 | none =>
  simp only at hQ
  subst hQ
  simp only [Option.getD_none, Option.isSome_none] at L
  unfold kAM at L
  clear h hP hE hx hxl
  go_enter Tryz.func130, Tryz.ntmps130
  go_wp2_with fail
  go_ret
  exact ⟨⟨_, rfl, PrBuf.nil _ _⟩, HL.out, Keeps.refl _ _ _⟩
 | some v =>
  simp only at hQ
  simp only [Option.getD_some, Option.isSome_some] at L
  unfold kAM at L
  have HQ := Lib.hid hQ
  have G := Lib.hid (grd_any h)
  have hv := hxl v rfl
  have H1 := fun x => lhas_any v x w (by omega) hE.off.env.mc
  have N := Lib.hid (fun W => needN 1 W)
  have Y := Lib.hid (fun W => needY 1 W)
  generalize grdQ c = g at G HQ
  obtain ⟨want, hwant⟩ : ∃ x, wantL g = x := ⟨_, rfl⟩
  have H1 := H1 want
  rw [hwant] at HQ
  obtain ⟨b1, hb1⟩ : ∃ b, holdsL v want = b := ⟨_, rfl⟩
  rw [hb1] at H1
  have Hb1 := Lib.hid hb1
  have H1 := Lib.hid H1
  have Hcell := Lib.hid (fun W (hb : Below w.heap.size w W) => (pcells (h.later hb).blk).q19)
  have q19 := (pcells h.blk).q19
  clear h hP hE hx hxl hQ hv hb1 q19
  have hg : (g = true ∧ want = vCH) ∨ (g = false ∧ want = vNo) := by cases g <;> simp [← hwant, wantL]
  clear hwant
  rcases hg with ⟨rfl, rfl⟩ | ⟨rfl, rfl⟩
  ·skip
   go_enter Tryz.func130, Tryz.ntmps130
   go_wp2_with fail
   refine G.out.mono ?_
   rintro e w' ⟨rfl, rfl⟩
   unfold vCH at *
   go_wp2_with fail
   refine H1.out.mono ?_
   rintro e w2 ⟨rfl, hb2⟩
   have q19 := Hcell.out w2 hb2
   have Hb2 := Lib.hid hb2
   have HL2 := Lib.hid (HL.out.later hb2)
   clear hb2
   cases b1 with
   | false =>
    have hq := HQ.out
    rw [if_pos (by rintro ⟨h1, _⟩; rw [Hb1.out] at h1; cases h1)] at hq
    subst hq
    go_wp2_with fail
    refine (N.out _).mono ?_
    rintro e w3 ⟨rfl, rfl⟩
    unfold thrown
    go_wp2_with fail
    exact ⟨rfl, rfl, HL2.out, Keeps.of Hb2.out _⟩
   | true =>
    by_cases hm : q.mth = []
    ·have hq := HQ.out
     rw [if_neg (fun hn => hn ⟨Hb1.out, hm⟩)] at hq
     subst hq
     have f19 := HL2.out.blk.frozen 19
     rw [hm] at q19
     obtain ⟨hL3, hK3⟩ := HL2.out.turn (q' := { q with mth := [67, 72, 65, 80] }) ((Keeps.refl _ w2 (fun k => k = lb)).putC rfl 19 (.string (S [67, 72, 65, 80]))) (HL2.out.blk.set 19 (.string (S [67, 72, 65, 80]))) rfl rfl rfl ⟨rfl, rfl, rfl⟩
     obtain ⟨w3, hw3⟩ : ∃ w3, w2.setCell ⟨lb, 19, none⟩ (.string (S [67, 72, 65, 80])) = w3 := ⟨_, rfl⟩
     rw [hw3] at hL3 hK3
     have hb4 := (Below.refl w3.heap.size w3).alloc (Nat.le_refl _) (.cells #[.string (S kAM), .string (S [67, 72, 65, 80])] 60)
     have HK4 := Lib.hid (((Keeps.of Hb2.out (m.H lb)).then hK3).then (Keeps.of hb4 _))
     have HB4 := Lib.hid (PrBuf.litM (w := w) (l := [⟨kAM, [67, 72, 65, 80]⟩]) hL3 (Nat.le_refl _) (Nat.le_trans Hb2.out.size hK3.size) (by decide) #[.string (S kAM), .string (S [67, 72, 65, 80])] rfl)
     have HL4 := Lib.hid (hL3.later hb4)
     unfold kAM at HK4 HL4 HB4
     clear hL3 hK3 hb4 hm
     go_wp2_with fail
     refine (Y.out _).mono ?_
     rintro e w4 ⟨rfl, rfl⟩
     go_wp2_with fail
     go_ret
     exact ⟨⟨_, rfl, HB4.out⟩, HL4.out, HK4.out⟩
    ·have hq := HQ.out
     rw [if_pos (fun hn => hm hn.2)] at hq
     subst hq
     have e4 : q.mth.isEmpty = false := by cases hh : q.mth with | nil => exact absurd hh hm | cons _ _ => rfl
     go_wp2_with fail
     refine (N.out _).mono ?_
     rintro e w3 ⟨rfl, rfl⟩
     unfold thrown
     go_wp2_with fail
     exact ⟨rfl, rfl, HL2.out, Keeps.of Hb2.out _⟩
  ·skip
   go_enter Tryz.func130, Tryz.ntmps130
   go_wp2_with fail
   refine G.out.mono ?_
   rintro e w' ⟨rfl, rfl⟩
   unfold vNo at *
   go_wp2_with fail
   refine H1.out.mono ?_
   rintro e w2 ⟨rfl, hb2⟩
   have q19 := Hcell.out w2 hb2
   have Hb2 := Lib.hid hb2
   have HL2 := Lib.hid (HL.out.later hb2)
   clear hb2
   cases b1 with
   | false =>
    have hq := HQ.out
    rw [if_pos (by rintro ⟨h1, _⟩; rw [Hb1.out] at h1; cases h1)] at hq
    subst hq
    go_wp2_with fail
    refine (N.out _).mono ?_
    rintro e w3 ⟨rfl, rfl⟩
    unfold thrown
    go_wp2_with fail
    exact ⟨rfl, rfl, HL2.out, Keeps.of Hb2.out _⟩
   | true =>
    by_cases hm : q.mth = []
    ·have hq := HQ.out
     rw [if_neg (fun hn => hn ⟨Hb1.out, hm⟩)] at hq
     subst hq
     have f19 := HL2.out.blk.frozen 19
     rw [hm] at q19
     obtain ⟨hL3, hK3⟩ := HL2.out.turn (q' := { q with mth := [78, 111, 110, 101] }) ((Keeps.refl _ w2 (fun k => k = lb)).putC rfl 19 (.string (S [78, 111, 110, 101]))) (HL2.out.blk.set 19 (.string (S [78, 111, 110, 101]))) rfl rfl rfl ⟨rfl, rfl, rfl⟩
     obtain ⟨w3, hw3⟩ : ∃ w3, w2.setCell ⟨lb, 19, none⟩ (.string (S [78, 111, 110, 101])) = w3 := ⟨_, rfl⟩
     rw [hw3] at hL3 hK3
     have hb4 := (Below.refl w3.heap.size w3).alloc (Nat.le_refl _) (.cells #[.string (S kAM), .string (S [78, 111, 110, 101])] 60)
     have HK4 := Lib.hid (((Keeps.of Hb2.out (m.H lb)).then hK3).then (Keeps.of hb4 _))
     have HB4 := Lib.hid (PrBuf.litM (w := w) (l := [⟨kAM, [78, 111, 110, 101]⟩]) hL3 (Nat.le_refl _) (Nat.le_trans Hb2.out.size hK3.size) (by decide) #[.string (S kAM), .string (S [78, 111, 110, 101])] rfl)
     have HL4 := Lib.hid (hL3.later hb4)
     unfold kAM at HK4 HL4 HB4
     clear hL3 hK3 hb4 hm
     go_wp2_with fail
     refine (Y.out _).mono ?_
     rintro e w4 ⟨rfl, rfl⟩
     go_wp2_with fail
     go_ret
     exact ⟨⟨_, rfl, HB4.out⟩, HL4.out, HK4.out⟩
    ·have hq := HQ.out
     rw [if_pos (fun hn => hm hn.2)] at hq
     subst hq
     have e4 : q.mth.isEmpty = false := by cases hh : q.mth with | nil => exact absurd hh hm | cons _ _ => rfl
     go_wp2_with fail
     refine (N.out _).mono ?_
     rintro e w3 ⟨rfl, rfl⟩
     unfold thrown
     go_wp2_with fail
     exact ⟨rfl, rfl, HL2.out, Keeps.of Hb2.out _⟩
set_option maxRecDepth 100000 in
set_option maxHeartbeats 4000000 in
theorem challenge_any {pb n : Nat} {pf : List UInt8 → Option (List UInt8)} (hP : SMap w pb n pf) (h : LogIn w B lb m c d q) (hE : EnvL (offW (m.H lb) w)) (hx : ∀ k x, pf k = some x → x.length ≤ 255) (hd : 0 ≤ d.id ∧ d.id ≤ 255 ∧ d.ch.length ≤ 100) :
  Calls Tryz.prog 131 #[.pointer (some ⟨lb, 0, none⟩), .map (some pb)] w (RetSaid w B lb m c d (chlQ d (pf kCA) q)) := by
 have L := (hP.look Tryz.underlying93 kCA (by decide)).1
 have hxl := hx kCA
 have HL := Lib.hid h
 obtain ⟨Q, hQ⟩ : ∃ Q, chlQ d (pf kCA) q = Q := ⟨_, rfl⟩
 rw [hQ]
 unfold chlQ at hQ
 generalize pf kCA = o at L hQ hxl
 cases o with
 | none =>
  simp only at hQ
  subst hQ
  simp only [Option.getD_none, Option.isSome_none] at L
  unfold kCA at L
  clear h hP hE hx hxl hd
  go_enter Tryz.func131, Tryz.ntmps131
  go_wp2_with fail
  go_ret
  exact ⟨⟨_, rfl, PrBuf.nil _ _⟩, HL.out, Keeps.refl _ _ _⟩
 | some v =>
  simp only at hQ
  simp only [Option.getD_some, Option.isSome_some] at L
  unfold kCA at L
  have HQ := Lib.hid hQ
  have hv := hxl v rfl
  have H1 := lhas_any v [53] w (by omega) hE.off.env.mc
  have N := Lib.hid (fun W => needN 1 W)
  have Y := Lib.hid (fun W => needY 1 W)
  obtain ⟨b1, hb1⟩ : ∃ b, holdsL v [53] = b := ⟨_, rfl⟩
  rw [hb1] at H1
  have Hb1 := Lib.hid hb1
  have H1 := Lib.hid H1
  have HE := Lib.hid hE
  obtain ⟨did, hdid⟩ := Int.eq_ofNat_of_zero_le hd.1
  have hdl : did ≤ 255 := by omega
  have hcl := hd.2.2
  have Hdid := Lib.hid hdid
  clear h hP hE hx hxl hQ hv hb1 hd hdid
  go_enter Tryz.func131, Tryz.ntmps131
  go_wp2_with fail
  refine H1.out.mono ?_
  rintro e w2 ⟨rfl, hb2⟩
  have HL2 := Lib.hid (HL.out.later hb2)
  have hC := pcells HL2.out.blk
  have q19 := hC.q19
  have q20 := hC.q20
  have Hb2 := Lib.hid hb2
  clear hb2 hC H1
  by_cases hok : holdsL v [53] = true ∧ q.mth = vCH ∧ q.chd = false
  case neg =>
   have hq := HQ.out
   rw [if_pos hok] at hq
   subst hq
   cases b1 with
   | false =>
    clear hok
    go_wp2_with fail
    refine (N.out _).mono ?_
    rintro e w3 ⟨rfl, rfl⟩
    unfold thrown
    go_wp2_with fail
    exact ⟨rfl, rfl, HL2.out, Keeps.of Hb2.out _⟩
   | true =>
    by_cases hm : q.mth = vCH
    ·have hch : q.chd = true := by
      cases hh : q.chd with
      | true => rfl
      | false => exact absurd ⟨Hb1.out, hm, hh⟩ hok
     rw [hm] at q19
     rw [hch] at q20
     unfold vCH at q19
     clear hok hm hch
     go_wp2_with fail
     refine (N.out _).mono ?_
     rintro e w3 ⟨rfl, rfl⟩
     unfold thrown
     go_wp2_with fail
     exact ⟨rfl, rfl, HL2.out, Keeps.of Hb2.out _⟩
    ·have e4 : (q.mth == [67, 72, 65, 80]) = false := beq_eq_false_iff_ne.2 hm
     clear hok hm
     go_wp2_with fail
     refine (N.out _).mono ?_
     rintro e w3 ⟨rfl, rfl⟩
     unfold thrown
     go_wp2_with fail
     exact ⟨rfl, rfl, HL2.out, Keeps.of Hb2.out _⟩
  have hq := HQ.out
  rw [if_neg (fun hn => hn hok), Hdid.out] at hq
  subst hq
  obtain ⟨h1, h2, h3⟩ := hok
  obtain rfl : b1 = true := Hb1.out.symm.trans h1
  rw [h2] at q19
  rw [h3] at q20
  unfold vCH at q19
  have f20 := HL2.out.blk.frozen 20
  obtain ⟨hL3, hK3⟩ := HL2.out.turn (q' := { q with chd := true }) ((Keeps.refl _ w2 (fun k => k = lb)).putC rfl 20 (.bool true)) (HL2.out.blk.set 20 (.bool true)) rfl rfl rfl ⟨rfl, rfl, rfl⟩
  obtain ⟨w3, hw3⟩ : ∃ w3, w2.setCell ⟨lb, 20, none⟩ (.bool true) = w3 := ⟨_, rfl⟩
  rw [hw3] at hL3 hK3
  have hK := (Keeps.of Hb2.out (m.H lb)).then hK3
  have HL3 := Lib.hid hL3
  have HK3 := Lib.hid hK
  have q8 := (pcells hL3.blk).q8
  have q9 := (pcells hL3.blk).q9
  rw [Hdid.out] at q8
  have IT := Lib.hid (fun W (hb : Below w3.heap.size w3 W) => itoa_any did W (by omega) (HE.out.later (hK.then (Keeps.of hb _)).off').off.env)
  have HX := Lib.hid (fun W => hex_any d.ch W (by omega))
  clear hL3 hK3 hK h1 h2 h3 Hb1 HQ
  go_wp2_with fail
  refine (Y.out _).mono ?_
  rintro e w4 ⟨rfl, rfl⟩
  go_wp2_with fail
  clear q19 q20 f20
  go_region_held3 (fun w' => Below w3.heap.size w3 w' ∧ w'.cell? ⟨lb, 8, none⟩ = some (.int .i64 (did : Int)) ∧ w'.cell? ⟨lb, 9, none⟩ = some (.string (S d.ch)))
   (first | assumption | exact ⟨Below.refl _ _, q8, q9⟩ | exact ⟨(Below.refl _ _).drew, q8, q9⟩ | exact keep2L (by assumption) hb' | exact keep2L (by assumption) ((Below.refl _ _).alloc (Nat.le_refl _) _))
   (first | ((with_reducible refine (IT.out _ (by first | assumption | exact (‹Below w3.heap.size w3 _ ∧ _›).1)).mono ?_); rintro e w' ⟨rfl, hb'⟩) | ((with_reducible refine (HX.out _).mono ?_); rintro e w' ⟨rfl, hb'⟩))
  rename_i hHeld
  have hs : w3.heap.size ≤ w'.heap.size := Nat.le_trans (‹Below w3.drew.heap.size w3.drew _›).size hb'.size
  have HB4 := Lib.hid (PrBuf.litM (w := w) (l := [⟨kCA, [53]⟩, ⟨kCI, Lib.decDigits did⟩, ⟨kCC, hexL d.ch⟩]) HL3.out hs (Nat.le_trans HK3.out.size hs) (by simp) #[.string (S kCA), .string (S [53]), .string (S kCI), .string (S (Lib.decDigits did)), .string (S kCC), .string (S (hexL d.ch))] rfl)
  have HL4 := Lib.hid (HL3.out.later hHeld.1)
  have HK4 := Lib.hid (HK3.out.then (Keeps.of hHeld.1 (m.H lb)))
  rw [Lib.itoa_nonneg]
  clear hHeld hs hb' q8 q9
  go_wp2_with fail
  go_ret
  exact ⟨⟨_, rfl, HB4.out⟩, HL4.out, HK4.out⟩
end
end Go.Proofs.YtjbbbpgcegcbaaaGreatDoor
namespace Go.Proofs.YtjbbbpgcegcbaaaGreatDoor
open Go.RowKit
theorem byte_mod (x : Int) (m : Nat) (hx : x = (m : Int)) : ∃ y : UInt8, UInt8.ofNat (m % 256) = y ∧ x % 256 = (y.toNat : Int) := by
 refine ⟨_, rfl, ?_⟩
 rw [u8_mod, hx, Int.natCast_emod]; rfl
theorem info8l : (Tryz.prog.info? 5).map (fun i => (i.zero, i.size, i.bytes)) = some (some (.int .u8 0), 1, 1) := by kernel_rfl
theorem le4_len (n : Nat) : (le4 n).length = 4 := rfl
theorem flat_len (l : List Nat) : (l.flatMap le4).length = 4 * l.length := by
 induction l with
 | nil => rfl
 | cons a l ih => rw [List.flatMap_cons, List.length_append, ih, le4_len, List.length_cons]; omega
set_option maxRecDepth 100000 in
theorem lowestFirst_any (l : List Nat) (b cap : Nat) (w : World) (hl : l.length ≤ 100) (hc : ∀ j (hj : j < l.length), w.cell? ⟨b, j, none⟩ = some (.int .u32 (l[j] : Int))) :
  Calls Tryz.prog 85 #[.slice (some ⟨b, 0, none⟩) l.length cap] w fun e w' => e = .returned (.string (S (l.flatMap le4))) ∧ Below w.heap.size w w' := by
 obtain ⟨i0, hi, hz0, hz1, hz2⟩ := info_parts info8l
 have hmk := fun w => run_make_buf (P := Tryz.prog) w 116 5 i0 Tryz.underlying116 hi hz0 hz1 hz2 .i64 .i64 (4 * l.length) (by omega)
 simp only [Int.natCast_mul, Int.cast_ofNat_Int] at hmk
 have Hc := Lib.hid hc
 clear hc
 go_enter Tryz.func85, Tryz.ntmps85
 go_wp2_with fail
 have hb0 := buf_made w 5 (4 * l.length) (by omega) w.heap.size (Nat.le_refl _)
 have hl0 : Below w.heap.size w (w.alloc (.cells (madeCells #[.int .u8 0] (4 * l.length)) 5)) := (Below.refl _ _).alloc (Nat.le_refl _) _
 clear hmk
 go_loopg [3, 12] (l.length + 1) (fun g v c wr => ∃ k : Nat, k ≤ l.length ∧ g + k = l.length + 1 ∧ c = .int .i64 k ∧ Buf 5 w.heap.size wr v ((l.take k).flatMap le4) ∧ Below w.heap.size w wr)
 case atStart => exact ⟨0, by omega, by omega, rfl, hb0, hl0⟩
 case round =>
  obtain ⟨k, hk, hg, rfl, hb, hlo⟩ := hrel
  have Hg := Lib.hid hg
  clear hg hb0 hl0
  by_cases hlt : k < l.length
  ·have hki : (k : Int) < (l.length : Int) := by omega
   have hcell := Hc.out k hlt
   have hcl := (bcell hlo).1 b k (block_lt_of_cell (w := w) (a := ⟨b, k, none⟩) hcell)
   rw [hcell] at hcl
   have hst : (l.take k).flatMap le4 ++ le4 l[k] = (l.take (k + 1)).flatMap le4 := by
    rw [List.take_succ_eq_append_getElem hlt, List.flatMap_append, List.flatMap_cons, List.flatMap_nil, List.append_nil]
   obtain ⟨x, hx⟩ : ∃ x, l[k] = x := ⟨_, rfl⟩
   rw [hx] at hcl hst
   obtain ⟨y0, e0, h0⟩ := byte_mod (x : Int) x rfl
   obtain ⟨y1, e1, h1⟩ := byte_mod ((x : Int) / 256) (x / 256) (by omega)
   obtain ⟨y2, e2, h2⟩ := byte_mod ((x : Int) / 65536) (x / 65536) (by omega)
   obtain ⟨y3, e3, h3⟩ := byte_mod ((x : Int) / 16777216) (x / 16777216) (by omega)
   have hle : le4 x = [y0, y1, y2, y3] := by unfold le4; rw [e0, e1, e2, e3]
   rw [hle] at hst
   have Hst := Lib.hid hst
   have hln : ((l.take k).flatMap le4).length ≤ 400 := by rw [flat_len, List.length_take]; omega
   have hsz := hlo.size
   clear hst hle e0 e1 e2 e3 hx hcell
   go_wp2_with (at_builtin; refine wpList_append_buf rfl _ _ _ _ rfl 5 i0 Tryz.underlying116 hi hz0 hz1 hz2 w.heap.size _ ((l.take k).flatMap le4) rfl (hb.alloc _) (by simp; omega) _ [y0, y1, y2, y3] rfl (src_lit Tryz.underlying116 wr [y0, y1, y2, y3] 5 (0, 0) 4 4 rfl) (by simp only [List.length_cons, List.length_nil]; omega) ?_; intro v3 w3 hb3 hlo3 hsz3 _)
   rw [Hst.out] at hb3
   have hlo4 : Below w.heap.size w w3 := (hlo.alloc (by omega) _).trans hlo3
   go_roundg (gk - 1)
   case measure => have := Hg.out; omega
   case rel => exact ⟨k + 1, by omega, by have := Hg.out; omega, by go_num, hb3, hlo4⟩
  ·have hkl : k = l.length := by omega
   subst hkl
   rw [List.take_length] at hb
   have hcv := run_string_buf (P := Tryz.prog) 116 9 5 Tryz.underlying116 Tryz.underlying5 Tryz.underlying9 hb
   go_wp2_with fail
   go_ret
   exact ⟨rfl, hlo⟩
theorem keepcell {W w1 : World} (hb : Below W.heap.size W w1) {b o : Nat} {v : Value} (h : W.cell? ⟨b, o, none⟩ = some v) : w1.cell? ⟨b, o, none⟩ = some v := by
 rw [(bcell hb).1 b o (block_lt_of_cell (w := W) (a := ⟨b, o, none⟩) h)]; exact h
theorem keepfrozen {W w1 : World} (hb : Below W.heap.size W w1) {b o : Nat} {v : Value} (hc : W.cell? ⟨b, o, none⟩ = some v) (h : W.frozen? ⟨b, o, none⟩ = false) : w1.frozen? ⟨b, o, none⟩ = false := by
 rw [(bcell hb).2 b o (block_lt_of_cell (w := W) (a := ⟨b, o, none⟩) hc)]; exact h
def At4 (W : World) (b : Nat) (s : St) : Prop := W.heap[b]? = some (.cells (st4 s) 154 (0, 0))
theorem At4.cells {W : World} {b : Nat} {s : St} (h : At4 W b s) : W.cell? ⟨b, 0, none⟩ = some (.int .u32 (s.1 : Int)) ∧ W.cell? ⟨b, 1, none⟩ = some (.int .u32 (s.2.1 : Int)) ∧ W.cell? ⟨b, 2, none⟩ = some (.int .u32 (s.2.2.1 : Int)) ∧ W.cell? ⟨b, 3, none⟩ = some (.int .u32 (s.2.2.2 : Int)) := by
 refine ⟨?_, ?_, ?_, ?_⟩ <;> (rw [cell_of_row W b _ _ _ _ h]; rfl)
theorem At4.frozen {W : World} {b : Nat} {s : St} (h : At4 W b s) : ∀ j, W.frozen? ⟨b, j, none⟩ = false := fun j => by
 unfold World.frozen?
 rw [h]
 simp
theorem At4.later {W W' : World} {b : Nat} {s : St} (h : At4 W b s) (hb : Below W.heap.size W W') : At4 W' b s := by
 have hlt : b < W.heap.size := block_lt_of_cell h.cells.1
 unfold At4 at *
 rw [hb.block b hlt]; exact h
theorem At4.stored {W : World} {b : Nat} {s : St} (h : At4 W b s) (a0 a1 a2 a3 : Nat) :
  At4 ((((W.setCell ⟨b, 0, none⟩ (.int .u32 (a0 : Int))).setCell ⟨b, 1, none⟩ (.int .u32 (a1 : Int))).setCell ⟨b, 2, none⟩ (.int .u32 (a2 : Int))).setCell ⟨b, 3, none⟩ (.int .u32 (a3 : Int))) b (a0, a1, a2, a3) := by
 have hlt : b < W.heap.size := block_lt_of_cell h.cells.1
 unfold At4 at *
 simp only [World.setCell, Array.getElem?_modify, h]
 simp [st4]
theorem At4.other {W : World} {b : Nat} {s : St} (h : At4 W b s) (p : Addr) (v : Value) (hp : b ≠ p.block) : At4 (W.setCell p v) b s := by
 unfold At4 at *
 rw [Below.heap_setCell W p v b hp]; exact h
theorem wordsL_len (l : List UInt8) : (wordsL l).length = 16 := wRow_len l 64
theorem wordsL_lt (l : List UInt8) : ∀ x ∈ wordsL l, x < 4294967296 := fun x hx => by
 unfold wordsL wRow at hx
 obtain ⟨j, _, rfl⟩ := List.mem_map.1 hx
 exact wAt_lt l 64 j
set_option maxRecDepth 100000 in
set_option maxHeartbeats 2000000 in
theorem stirAll_any (s0 : St) (l : List UInt8) (w : World) (hs : Lt32 s0) (hl : l.length ≤ 4294967280) (ht : MdTabs w) :
  Calls Tryz.prog 83 #[.agg (st4 s0), .string (S l)] w fun e w' => e = .returned (.agg (st4 (stirsTo s0 l (l.length / 64)))) ∧ Below w.heap.size w w' := by
 have Ht := Lib.hid ht
 have Hs := Lib.hid hs
 clear ht hs
 obtain ⟨a, b, c, d⟩ := s0
 rw [show st4 (a, b, c, d) = #[.int .u32 (a : Int), .int .u32 (b : Int), .int .u32 (c : Int), .int .u32 (d : Int)] from rfl]
 go_enter Tryz.func83, Tryz.ntmps83
 go_wp2_with fail
 have hlow : Below w.heap.size w ((w.alloc (.cells #[.int .u32 a, .int .u32 b, .int .u32 c, .int .u32 d] 154)).alloc (.cells #[.int .u32 0, .int .u32 0, .int .u32 0, .int .u32 0] 154)) := ((Below.refl _ _).alloc (Nat.le_refl _) _).alloc (by simp) _
 have h4 : At4 ((w.alloc (.cells #[.int .u32 a, .int .u32 b, .int .u32 c, .int .u32 d] 154)).alloc (.cells #[.int .u32 0, .int .u32 0, .int .u32 0, .int .u32 0] 154)) w.heap.size (a, b, c, d) := heap_alloc2_old w _ _
 have h5 : At4 ((w.alloc (.cells #[.int .u32 a, .int .u32 b, .int .u32 c, .int .u32 d] 154)).alloc (.cells #[.int .u32 0, .int .u32 0, .int .u32 0, .int .u32 0] 154)) (w.heap.size + 1) (0, 0, 0, 0) := heap_alloc2_new w _ _
 go_loopg [9] (l.length / 64 + 1) (fun g vi wr => ∃ (k : Nat) (s : St), k ≤ l.length / 64 ∧ g + k = l.length / 64 + 1 ∧ vi = .int .i64 k ∧ stirsTo (a, b, c, d) l k = s ∧ At4 wr w.heap.size s ∧ At4 wr (w.heap.size + 1) (0, 0, 0, 0) ∧ Below w.heap.size w wr)
 case atStart => exact ⟨0, _, by omega, by omega, rfl, rfl, h4, h5, hlow⟩
 case round =>
  obtain ⟨k, s, hk, hg, rfl, hst, h4, h5, hlo⟩ := hrel
  have Hg := Lib.hid hg
  have hlt4 := stirsTo_lt (a, b, c, d) l Hs.out k
  rw [hst] at hlt4
  clear hg
  by_cases hlt : k < l.length / 64
  ·have hki : (k : Int) < (l.length : Int) / 64 := by omega
   have hblen : ((l.drop (k * 64)).take 64).length = 64 := by rw [List.length_take, List.length_drop]; omega
   have hnew : stirsTo (a, b, c, d) l (k + 1) = mStir s (wordsL ((l.drop (k * 64)).take 64)) := by
    show mStir (stirsTo (a, b, c, d) l k) _ = _
    rw [hst, Nat.mul_comm 64 k]
   have c1 := fun W => wordsOf_any ((l.drop (k * 64)).take 64) W hblen
   obtain ⟨x, hx⟩ : ∃ x, (l.drop (k * 64)).take 64 = x := ⟨_, rfl⟩
   obtain ⟨sa, sb, sc, sd⟩ := s
   have c2 := fun W hW => stir_any sa sb sc sd (wordsL x) W hlt4 (wordsL_len x) (wordsL_lt x) hW
   rw [hx] at hnew c1
   rcases hn : mStir (sa, sb, sc, sd) (wordsL x) with ⟨na, nb, nc, nd⟩
   rw [hn] at hnew
   have hst4 : st4 (na, nb, nc, nd) = #[.int .u32 (na : Int), .int .u32 (nb : Int), .int .u32 (nc : Int), .int .u32 (nd : Int)] := rfl
   rw [hn, hst4] at c2
   have Hnew := Lib.hid hnew
   have C1 := Lib.hid c1
   have C2 := Lib.hid c2
   have hsl : (l.drop (k * 64)).take ((k + 1) * 64 - k * 64) = x := by rw [← hx]; congr 1; omega
   have hsz := hlo.size
   obtain ⟨q0, q1, q2, q3⟩ := h4.cells
   have f0 := h4.frozen 0
   have f1 := h4.frozen 1
   have f2 := h4.frozen 2
   have f3 := h4.frozen 3
   simp only at q0 q1 q2 q3
   have hm1 : (k : Int) * 64 ≤ ((k : Int) + 1) * 64 := by omega
   have hm2 : ((k : Int) + 1) * 64 ≤ (l.length : Int) := by omega
   have hm3 : 0 ≤ (k : Int) * 64 := by omega
   have Hlo := Lib.hid hlo
   have H4 := Lib.hid h4
   have H5 := Lib.hid h5
   have Htr := Lib.hid (Ht.out.later hlo)
   clear hst hnew c1 c2 hx hn hst4 hblen hlo h4 h5 hlt4
   have hm4 : 0 ≤ ((k : Int) + 1) * 64 := by omega
   have hm5 : (k : Int) ≤ (k : Int) + 1 := by omega
   have w1 : IntKind.i64.wrap ((k : Int) * 64) = (k : Int) * 64 := IntWalk.i64_in _ (by omega)
   have w2 : IntKind.i64.wrap ((k : Int) + 1) = (k : Int) + 1 := IntWalk.i64_in _ (by omega)
   have w3 : IntKind.i64.wrap (((k : Int) + 1) * 64) = ((k : Int) + 1) * 64 := IntWalk.i64_in _ (by omega)
   have t1 : ((k : Int) * 64).toNat = k * 64 := by omega
   have t2 : (((k : Int) + 1) * 64).toNat = (k + 1) * 64 := by omega
   go_wp2_with fail
   go_region_with ((first
    | (go_at_call 121; refine (C1.out _).mono ?_; rintro e w' ⟨rfl, hb'⟩; have g0 := keepcell (W := wr.drew) hb' q0; have g1 := keepcell (W := wr.drew) hb' q1; have g2 := keepcell (W := wr.drew) hb' q2; have g3 := keepcell (W := wr.drew) hb' q3)
    | (go_at_call 120; refine (C2.out _ (Htr.out.later (((Below.refl _ _).drew).trans hb'))).mono ?_; rintro e w'' ⟨rfl, hb''⟩; have g0 := keepcell hb'' (keepcell (W := wr.drew) hb' q0); have g1 := keepcell hb'' (keepcell (W := wr.drew) hb' q1); have g2 := keepcell hb'' (keepcell (W := wr.drew) hb' q2); have g3 := keepcell hb'' (keepcell (W := wr.drew) hb' q3); have e0 := keepfrozen hb'' (keepcell (W := wr.drew) hb' q0) (keepfrozen (W := wr.drew) hb' q0 f0); have e1 := keepfrozen hb'' (keepcell (W := wr.drew) hb' q1) (keepfrozen (W := wr.drew) hb' q1 f1); have e2 := keepfrozen hb'' (keepcell (W := wr.drew) hb' q2) (keepfrozen (W := wr.drew) hb' q2 f2); have e3 := keepfrozen hb'' (keepcell (W := wr.drew) hb' q3) (keepfrozen (W := wr.drew) hb' q3 f3))))
   all_goals
    have hbb : Below wr.heap.size wr w'' := below_then (((Below.refl _ _).drew).trans hb') hb''
    have a1 := (H4.out.later hbb).stored na nb nc nd
    have hne : w.heap.size + 1 ≠ w.heap.size := by omega
    have a2 := ((((H5.out.later hbb).other ⟨w.heap.size, 0, none⟩ (.int .u32 na) hne).other ⟨w.heap.size, 1, none⟩ (.int .u32 nb) hne).other ⟨w.heap.size, 2, none⟩ (.int .u32 nc) hne).other ⟨w.heap.size, 3, none⟩ (.int .u32 nd) hne
    have hrl : w.heap.size ≤ w.heap.size := Nat.le_refl _
    have a3 := ((((Hlo.out.trans (hbb.mono hsz)).setCell (p := ⟨w.heap.size, 0, none⟩) hrl (.int .u32 na)).setCell (p := ⟨w.heap.size, 1, none⟩) hrl (.int .u32 nb)).setCell (p := ⟨w.heap.size, 2, none⟩) hrl (.int .u32 nc)).setCell (p := ⟨w.heap.size, 3, none⟩) hrl (.int .u32 nd)
    have A1 := Lib.hid a1
    have A2 := Lib.hid a2
    have A3 := Lib.hid a3
    clear a1 a2 a3 w1 w2 w3 t1 t2 g0 g1 g2 g3 e0 e1 e2 e3 q0 q1 q2 q3 f0 f1 f2 f3
    go_wp2_with fail
    go_roundg (gk - 1)
    case measure => have := Hg.out; omega
    case rel => exact ⟨k + 1, (na, nb, nc, nd), by omega, by have := Hg.out; omega, by go_num, Hnew.out, A1.out, A2.out, A3.out⟩
  ·have hkl : k = l.length / 64 := by omega
   subst hkl
   obtain ⟨sa, sb, sc, sd⟩ := s
   obtain ⟨q0, q1, q2, q3⟩ := h4.cells
   obtain ⟨r0, r1, r2, r3⟩ := h5.cells
   simp only at q0 q1 q2 q3 r0 r1 r2 r3
   have f0 := h5.frozen 0
   have f1 := h5.frozen 1
   have f2 := h5.frozen 2
   have f3 := h5.frozen 3
   have hres := (h5.stored sa sb sc sd).cells
   simp only at hres
   obtain ⟨z0, z1, z2, z3⟩ := hres
   have hki : ¬ (((l.length / 64 : Nat) : Int) < (l.length : Int) / 64) := by omega
   have Hst := Lib.hid hst
   have hrl : w.heap.size ≤ w.heap.size + 1 := by omega
   have a3 := Lib.hid ((((hlo.setCell (p := ⟨w.heap.size + 1, 0, none⟩) hrl (.int .u32 sa)).setCell (p := ⟨w.heap.size + 1, 1, none⟩) hrl (.int .u32 sb)).setCell (p := ⟨w.heap.size + 1, 2, none⟩) hrl (.int .u32 sc)).setCell (p := ⟨w.heap.size + 1, 3, none⟩) hrl (.int .u32 sd))
   clear hst h4 h5
   go_wp2_with fail
   refine bodyPost_ret (v := .agg (st4 (stirsTo (a, b, c, d) l (l.length / 64)))) (by rw [Hst.out]; simp [results, Tryz.results83, go_sem, z0, z1, z2, z3, st4]) rfl ⟨rfl, a3.out⟩
end Go.Proofs.YtjbbbpgcegcbaaaGreatDoor
namespace Go.Proofs
open Go.Shelf
def Tryz.lays105_ren : Go.Shelf.Ren := ⟨fun | 105 => 122 | 212 => 159 | 99 => 160 | 165 => 161 | 166 => 81 | 170 => 162 | 169 => 82 | 263 => 178 | 264 => 179 | 206 => 180 | 240 => 119 | 241 => 181 | 276 => 156 | 277 => 195 | n => n, fun | 9 => 9 | 3 => 3 | 4 => 4 | 20 => 20 | 0 => 0 | 46 => 132 | 109 => 267 | 5 => 5 | 72 => 148 | 76 => 149 | 51 => 66 | 146 => 282 | 53 => 77 | 148 => 284 | 70 => 146 | 37 => 116 | 75 => 43 | 127 => 210 | 164 => 169 | 80 => 151 | n => n, fun | n => n⟩
theorem Tryz.lays105 : Go.Proofs.Lays.n105 Tryz.prog Tryz.lays105_ren := {
 mixed := by kernel_rfl
 f99 := Tryz.func160.trans (congrArg some (by kernel_rfl))
 f105 := Tryz.func122.trans (congrArg some (by kernel_rfl))
 f165 := Tryz.func161.trans (congrArg some (by kernel_rfl))
 f166 := Tryz.func81.trans (congrArg some (by kernel_rfl))
 f169 := Tryz.func82.trans (congrArg some (by kernel_rfl))
 f170 := Tryz.func162.trans (congrArg some (by kernel_rfl))
 f206 := Tryz.func180.trans (congrArg some (by kernel_rfl))
 f212 := Tryz.func159.trans (congrArg some (by kernel_rfl))
 f240 := Tryz.func119.trans (congrArg some (by kernel_rfl))
 f241 := Tryz.func181.trans (congrArg some (by kernel_rfl))
 f263 := Tryz.func178.trans (congrArg some (by kernel_rfl))
 f264 := Tryz.func179.trans (congrArg some (by kernel_rfl))
 f276 := Tryz.func156.trans (congrArg some (by kernel_rfl))
 f277 := Tryz.func195.trans (congrArg some (by kernel_rfl))
 t0 := Tryz.underlying0
 a0 := Tryz.isAgg0
 z0 := Tryz.sizeOf0
 v0 := Tryz.zeroValue0
 t3 := Tryz.underlying3
 a3 := Tryz.isAgg3
 z3 := Tryz.sizeOf3
 v3 := Tryz.zeroValue3
 t4 := Tryz.underlying4
 a4 := Tryz.isAgg4
 z4 := Tryz.sizeOf4
 v4 := Tryz.zeroValue4
 t5 := Tryz.underlying5
 a5 := Tryz.isAgg5
 z5 := Tryz.sizeOf5
 v5 := Tryz.zeroValue5
 t9 := Tryz.underlying9
 a9 := Tryz.isAgg9
 z9 := Tryz.sizeOf9
 v9 := Tryz.zeroValue9
 t20 := Tryz.underlying20
 a20 := Tryz.isAgg20
 z20 := Tryz.sizeOf20
 v20 := Tryz.zeroValue20
 t37 := Tryz.underlying116
 a37 := Tryz.isAgg116
 z37 := Tryz.sizeOf116
 v37 := Tryz.zeroValue116
 t46 := Tryz.underlying132
 a46 := Tryz.isAgg132
 z46 := Tryz.sizeOf132
 v46 := Tryz.zeroValue132
 t51 := Tryz.underlying66
 a51 := Tryz.isAgg66
 z51 := Tryz.sizeOf66
 v51 := Tryz.zeroValue66
 t53 := Tryz.underlying77
 a53 := Tryz.isAgg77
 z53 := Tryz.sizeOf77
 v53 := Tryz.zeroValue77
 t70 := Tryz.underlying146
 a70 := Tryz.isAgg146
 z70 := Tryz.sizeOf146
 v70 := Tryz.zeroValue146
 t72 := Tryz.underlying148
 a72 := Tryz.isAgg148
 z72 := Tryz.sizeOf148
 v72 := Tryz.zeroValue148
 t75 := Tryz.underlying43
 a75 := Tryz.isAgg43
 z75 := Tryz.sizeOf43
 v75 := Tryz.zeroValue43
 t76 := Tryz.underlying149
 a76 := Tryz.isAgg149
 z76 := Tryz.sizeOf149
 v76 := Tryz.zeroValue149
 t109 := Tryz.underlying267
 a109 := Tryz.isAgg267
 z109 := Tryz.sizeOf267
 v109 := Tryz.zeroValue267
 t127 := Tryz.underlying210
 a127 := Tryz.isAgg210
 z127 := Tryz.sizeOf210
 v127 := Tryz.zeroValue210
 t146 := Tryz.underlying282
 a146 := Tryz.isAgg282
 z146 := Tryz.sizeOf282
 v146 := Tryz.zeroValue282
 t148 := Tryz.underlying284
 a148 := Tryz.isAgg284
 z148 := Tryz.sizeOf284
 v148 := Tryz.zeroValue284
 t164 := Tryz.underlying169
 a164 := Tryz.isAgg169
 z164 := Tryz.sizeOf169
 v164 := Tryz.zeroValue169 }
theorem Tryz.Builder_Extra_105 : Builder.Extra Tryz.prog Tryz.lays105_ren := {
 sizeBuilder := by kernel_rfl
 liesBuilder := by kernel_rfl
 t5 := Tryz.underlying5
 a5 := Tryz.isAgg5
 z5 := Tryz.sizeOf5
 v5 := Tryz.zeroValue5
 infoByte := by kernel_rfl
 cellsByte := by kernel_rfl
 sizeByte := by kernel_rfl
 neB5 := by decide }
open Go.RowKit Go.Lib in
theorem Tryz.strings_Repeat (s : ByteArray) (c : Nat) (w : World) (hc : c ≤ 9223372036854775807) (hlen : s.size * c ≤ 140737488355328) :
  Calls Tryz.prog 122 #[.string s, .int .i64 c] w fun e w' => e = .returned (.string ⟨(Lib.repeatL s.data.toList c).toArray⟩) ∧ Below w.heap.size w w' := Any.strings_Repeat Tryz.lays105 Tryz.Builder_Extra_105 s c w hc hlen
end Go.Proofs
