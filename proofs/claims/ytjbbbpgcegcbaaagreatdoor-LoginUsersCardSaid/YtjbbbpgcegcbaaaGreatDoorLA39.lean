/- LA39: several texts in one. -/
import Derived.Test.YtjbbbpgcegcbaaaGreatDoorLA01
import Derived.Test.YtjbbbpgcegcbaaaGreatDoorLA08
import Derived.Test.YtjbbbpgcegcbaaaGreatDoorLA09
import Derived.Test.YtjbbbpgcegcbaaaGreatDoorLA10
import Derived.Test.YtjbbbpgcegcbaaaGreatDoorLA12
import Derived.Test.YtjbbbpgcegcbaaaGreatDoorLA15
import Derived.Test.YtjbbbpgcegcbaaaGreatDoorLA17
import Derived.Test.YtjbbbpgcegcbaaaGreatDoorLA20
import Derived.Test.YtjbbbpgcegcbaaaGreatDoorLA32
import Derived.Test.YtjbbbpgcegcbaaaGreatDoorLA36
import Derived.Test.YtjbbbpgcegcbaaaGreatDoorLA38
namespace Go.Proofs.YtjbbbpgcegcbaaaGreatDoor
open Go Go.RowKit
set_option linter.unusedVariables false
section
variable {w : World} {B lb : Nat} {m : LgM} {c : Cf} {d : Dw} {q : Lq}
theorem stat_any (h : LogIn w B lb m c d q) : Calls Tryz.prog 52 #[.pointer (some ⟨lb, 0, none⟩)] w fun e w' => e = .returned (.int .u32 q.sta) ∧ w = w' := by
 have q11 := (pcells h.blk).q11
 clear h
 go_enter Tryz.func52, Tryz.ntmps52
 go_wp2_with fail
 go_ret
 exact ⟨rfl, rfl⟩
theorem command_any (h : LogIn w B lb m c d q) : Calls Tryz.prog 53 #[.pointer (some ⟨lb, 0, none⟩)] w fun e w' => e = .returned (.int .u32 q.cmd) ∧ w = w' := by
 have q12 := (pcells h.blk).q12
 clear h
 go_enter Tryz.func53, Tryz.ntmps53
 go_wp2_with fail
 go_ret
 exact ⟨rfl, rfl⟩
set_option maxRecDepth 100000 in
set_option maxHeartbeats 1000000 in
theorem over_any (h : LogIn w B lb m c d q) : Calls Tryz.prog 13 #[.pointer (some ⟨lb, 0, none⟩)] w fun e w' => e = .returned (.tuple #[.bool q.don, .bool q.fld]) ∧ Below w.heap.size w w' := by
 have q21 := (pcells h.blk).q21
 have q22 := (pcells h.blk).q22
 clear h
 go_enter Tryz.func13, Tryz.ntmps13
 go_wp2_with fail
 refine wp_region_held (S := (fun w' => w'.cell? ⟨lb, 21, none⟩ = some (.bool q.don) ∧ w'.cell? ⟨lb, 22, none⟩ = some (.bool q.fld))) (by kernel_rfl) ?_
 have e4 : Below w.heap.size w { w with drawn := w.drawn + 1 } := (Below.refl _ _).drew
 have hS : ({ w with drawn := w.drawn + 1 } : World).cell? ⟨lb, 21, none⟩ = some (.bool q.don) ∧ ({ w with drawn := w.drawn + 1 } : World).cell? ⟨lb, 22, none⟩ = some (.bool q.fld) := ⟨q21, q22⟩
 generalize ({ w with drawn := w.drawn + 1 } : World) = w4 at e4 hS ⊢
 refine takeN (.pointer (some ⟨lb, 0, none⟩)) (some 4) (i := 0) rfl rfl (by kernel_rfl) (by kernel_rfl) (by kernel_rfl) (fun _ _ _ h => h) (Or.inl ⟨by rfl, fun w' hw' => ?_⟩) hS ?_
 ·obtain ⟨x0, x1⟩ := hw'
  go_simp
 simp only [Act.put, iA, iB, iC]
 refine takeN (.pointer (some ⟨lb, 0, none⟩)) (some 5) (i := 1) rfl rfl (by kernel_rfl) (by kernel_rfl) (by kernel_rfl) (fun _ _ _ h => h) (Or.inl ⟨by rfl, fun w' hw' => ?_⟩) hS ?_
 ·obtain ⟨x0, x1⟩ := hw'
  go_simp
 simp only [Act.put, iA, iB, iC]
 refine takeN (.pointer (some ⟨lb, 21, none⟩)) (some 6) (i := 2) rfl rfl (by kernel_rfl) (by kernel_rfl) (by kernel_rfl) (fun _ _ _ h => h) (Or.inl ⟨by rfl, fun w' hw' => ?_⟩) hS ?_
 ·obtain ⟨x0, x1⟩ := hw'
  go_simp
 simp only [Act.put, iA, iB, iC]
 refine takeN (.bool q.don) (some 7) (i := 3) rfl rfl (by kernel_rfl) (by kernel_rfl) (by kernel_rfl) (fun _ _ _ h => h) (Or.inl ⟨by rfl, fun w' hw' => ?_⟩) hS ?_
 ·obtain ⟨x0, x1⟩ := hw'
  go_simp
 simp only [Act.put, iA, iB, iC]
 refine takeN (.pointer (some ⟨lb, 0, none⟩)) (some 8) (i := 4) rfl rfl (by kernel_rfl) (by kernel_rfl) (by kernel_rfl) (fun _ _ _ h => h) (Or.inl ⟨by rfl, fun w' hw' => ?_⟩) hS ?_
 ·obtain ⟨x0, x1⟩ := hw'
  go_simp
 simp only [Act.put, iA, iB, iC]
 refine takeN (.pointer (some ⟨lb, 0, none⟩)) (some 9) (i := 5) rfl rfl (by kernel_rfl) (by kernel_rfl) (by kernel_rfl) (fun _ _ _ h => h) (Or.inl ⟨by rfl, fun w' hw' => ?_⟩) hS ?_
 ·obtain ⟨x0, x1⟩ := hw'
  go_simp
 simp only [Act.put, iA, iB, iC]
 refine takeN (.pointer (some ⟨lb, 22, none⟩)) (some 10) (i := 6) rfl rfl (by kernel_rfl) (by kernel_rfl) (by kernel_rfl) (fun _ _ _ h => h) (Or.inl ⟨by rfl, fun w' hw' => ?_⟩) hS ?_
 ·obtain ⟨x0, x1⟩ := hw'
  go_simp
 simp only [Act.put, iA, iB, iC]
 refine takeN (.bool q.fld) (some 11) (i := 7) rfl rfl (by kernel_rfl) (by kernel_rfl) (by kernel_rfl) (fun _ _ _ h => h) (Or.inl ⟨by rfl, fun w' hw' => ?_⟩) hS ?_
 ·obtain ⟨x0, x1⟩ := hw'
  go_simp
 simp only [Act.put, iA, iB, iC]
 refine takeN (.bool q.don) (some 2) (i := 8) rfl rfl (by kernel_rfl) (by kernel_rfl) (by kernel_rfl) (fun _ _ _ h => h) (Or.inl ⟨by rfl, fun w' hw' => ?_⟩) hS ?_
 ·obtain ⟨x0, x1⟩ := hw'
  go_simp
 simp only [Act.put, iA, iB, iC]
 refine takeN (.bool q.fld) (some 3) (i := 9) rfl rfl (by kernel_rfl) (by kernel_rfl) (by kernel_rfl) (fun _ _ _ h => h) (Or.inl ⟨by rfl, fun w' hw' => ?_⟩) hS ?_
 ·obtain ⟨x0, x1⟩ := hw'
  go_simp
 simp only [Act.put, iA, iB, iC]
 refine wpAnyH_done (by kernel_rfl) ?_ _
 go_wp2_with fail
 go_ret2
 exact ⟨rfl, e4⟩
set_option maxRecDepth 100000 in
set_option maxHeartbeats 2000000 in
theorem who_any (h : LogIn w B lb m c d q) : Calls Tryz.prog 14 #[.pointer (some ⟨lb, 0, none⟩)] w fun e w' => e = .returned (.tuple #[.string (S (q.wN.getD [])), .string (S (q.wT.getD [])), .bool (dscQ q)]) ∧ Below w.heap.size w w' := by
 have SF : ∀ w' : World, Below w.heap.size w w' → (w'.cell? ⟨lb, 18, none⟩ = some (.map (some m.mb)) ∧ ((Instr.lookup 93 (.map (some m.mb)) (.string (S [67, 72, 65, 80, 95, 78])) false).run Tryz.prog w' = .ok (.string (S (q.wN.getD []))) w') ∧ ((Instr.lookup 93 (.map (some m.mb)) (.string (S [84, 97, 114, 103, 101, 116, 78, 97, 109, 101])) false).run Tryz.prog w' = .ok (.string (S (q.wT.getD []))) w')) := fun w' hb => by
  have hl := h.later hb
  have e1 : whoF q kCN = q.wN := by unfold whoF; rw [if_pos rfl]
  have e2 : whoF q nmK = q.wT := by unfold whoF; rw [if_neg (by decide), if_pos rfl]
  have L1 := (hl.who.look Tryz.underlying93 kCN (by decide)).2
  have L2 := (hl.who.look Tryz.underlying93 nmK (by decide)).2
  rw [e1] at L1
  rw [e2] at L2
  exact ⟨(pcells hl.blk).q18, L1, L2⟩
 have HL := Lib.hid h
 clear h
 go_enter Tryz.func14, Tryz.ntmps14
 go_wp2_with fail
 refine wp_region_held (S := (fun w' => w'.cell? ⟨lb, 18, none⟩ = some (.map (some m.mb)) ∧ ((Instr.lookup 93 (.map (some m.mb)) (.string (S [67, 72, 65, 80, 95, 78])) false).run Tryz.prog w' = .ok (.string (S (q.wN.getD []))) w') ∧ ((Instr.lookup 93 (.map (some m.mb)) (.string (S [84, 97, 114, 103, 101, 116, 78, 97, 109, 101])) false).run Tryz.prog w' = .ok (.string (S (q.wT.getD []))) w'))) (by kernel_rfl) ?_
 have e4 : Below w.heap.size w { w with drawn := w.drawn + 1 } := (Below.refl _ _).drew
 generalize ({ w with drawn := w.drawn + 1 } : World) = w4 at e4 ⊢
 have hS := SF _ e4
 refine takeN (.pointer (some ⟨lb, 0, none⟩)) (some 5) (i := 0) rfl rfl (by kernel_rfl) (by kernel_rfl) (by kernel_rfl) (fun _ _ _ h => h) (Or.inl ⟨by rfl, fun w' hw' => ?_⟩) hS ?_
 ·obtain ⟨x0, x1, x2⟩ := hw'
  go_simp
 simp only [Act.put, iA, iB, iC]
 refine takeN (.pointer (some ⟨lb, 0, none⟩)) (some 6) (i := 1) rfl rfl (by kernel_rfl) (by kernel_rfl) (by kernel_rfl) (fun _ _ _ h => h) (Or.inl ⟨by rfl, fun w' hw' => ?_⟩) hS ?_
 ·obtain ⟨x0, x1, x2⟩ := hw'
  go_simp
 simp only [Act.put, iA, iB, iC]
 refine takeN (.pointer (some ⟨lb, 18, none⟩)) (some 7) (i := 2) rfl rfl (by kernel_rfl) (by kernel_rfl) (by kernel_rfl) (fun _ _ _ h => h) (Or.inl ⟨by rfl, fun w' hw' => ?_⟩) hS ?_
 ·obtain ⟨x0, x1, x2⟩ := hw'
  go_simp
 simp only [Act.put, iA, iB, iC]
 refine takeN (.map (some m.mb)) (some 8) (i := 3) rfl rfl (by kernel_rfl) (by kernel_rfl) (by kernel_rfl) (fun _ _ _ h => h) (Or.inl ⟨by rfl, fun w' hw' => ?_⟩) hS ?_
 ·obtain ⟨x0, x1, x2⟩ := hw'
  go_simp
 simp only [Act.put, iA, iB, iC]
 refine takeN (.string (S (q.wN.getD []))) (some 9) (i := 4) rfl rfl (by kernel_rfl) (by kernel_rfl) (by kernel_rfl) (fun _ _ _ h => h) (Or.inl ⟨by rfl, fun w' hw' => ?_⟩) hS ?_
 ·obtain ⟨x0, x1, x2⟩ := hw'
  go_simp
 simp only [Act.put, iA, iB, iC]
 refine takeN (.pointer (some ⟨lb, 0, none⟩)) (some 10) (i := 5) rfl rfl (by kernel_rfl) (by kernel_rfl) (by kernel_rfl) (fun _ _ _ h => h) (Or.inl ⟨by rfl, fun w' hw' => ?_⟩) hS ?_
 ·obtain ⟨x0, x1, x2⟩ := hw'
  go_simp
 simp only [Act.put, iA, iB, iC]
 refine takeN (.pointer (some ⟨lb, 0, none⟩)) (some 11) (i := 6) rfl rfl (by kernel_rfl) (by kernel_rfl) (by kernel_rfl) (fun _ _ _ h => h) (Or.inl ⟨by rfl, fun w' hw' => ?_⟩) hS ?_
 ·obtain ⟨x0, x1, x2⟩ := hw'
  go_simp
 simp only [Act.put, iA, iB, iC]
 refine takeN (.pointer (some ⟨lb, 18, none⟩)) (some 12) (i := 7) rfl rfl (by kernel_rfl) (by kernel_rfl) (by kernel_rfl) (fun _ _ _ h => h) (Or.inl ⟨by rfl, fun w' hw' => ?_⟩) hS ?_
 ·obtain ⟨x0, x1, x2⟩ := hw'
  go_simp
 simp only [Act.put, iA, iB, iC]
 refine takeN (.map (some m.mb)) (some 13) (i := 8) rfl rfl (by kernel_rfl) (by kernel_rfl) (by kernel_rfl) (fun _ _ _ h => h) (Or.inl ⟨by rfl, fun w' hw' => ?_⟩) hS ?_
 ·obtain ⟨x0, x1, x2⟩ := hw'
  go_simp
 simp only [Act.put, iA, iB, iC]
 refine takeN (.string (S (q.wT.getD []))) (some 14) (i := 9) rfl rfl (by kernel_rfl) (by kernel_rfl) (by kernel_rfl) (fun _ _ _ h => h) (Or.inl ⟨by rfl, fun w' hw' => ?_⟩) hS ?_
 ·obtain ⟨x0, x1, x2⟩ := hw'
  go_simp
 simp only [Act.put, iA, iB, iC]
 refine takeN (.pointer (some ⟨lb, 0, none⟩)) (some 15) (i := 10) rfl rfl (by kernel_rfl) (by kernel_rfl) (by kernel_rfl) (fun _ _ _ h => h) (Or.inl ⟨by rfl, fun w' hw' => ?_⟩) hS ?_
 ·obtain ⟨x0, x1, x2⟩ := hw'
  go_simp
 simp only [Act.put, iA, iB, iC]
 refine wpAnyH_all (rs := [11]) (by kernel_rfl) (by simp) (fun i hi => ?_)
 obtain rfl : i = 11 := by simpa using hi
 refine wantN (i := 11) rfl (by rfl) (callN (f := 61) (some 16) rfl Tryz.func61 (by kernel_rfl) (by kernel_rfl) rfl rfl ?_)
 simp only [List.map_toArray, List.map_cons, List.map_nil]
 refine (disc_any (HL.out.later e4)).mono ?_
 rintro e w' ⟨rfl, rfl⟩
 refine ⟨_, rfl, hS, ?_⟩
 try dsimp only
 simp only [Act.put, iA, iB, iC]
 refine takeN (.string (S (q.wN.getD []))) (some 2) (i := 12) rfl rfl (by kernel_rfl) (by kernel_rfl) (by kernel_rfl) (fun _ _ _ h => h) (Or.inl ⟨by rfl, fun w' hw' => ?_⟩) hS ?_
 ·obtain ⟨x0, x1, x2⟩ := hw'
  go_simp
 simp only [Act.put, iA, iB, iC]
 refine takeN (.string (S (q.wT.getD []))) (some 3) (i := 13) rfl rfl (by kernel_rfl) (by kernel_rfl) (by kernel_rfl) (fun _ _ _ h => h) (Or.inl ⟨by rfl, fun w' hw' => ?_⟩) hS ?_
 ·obtain ⟨x0, x1, x2⟩ := hw'
  go_simp
 simp only [Act.put, iA, iB, iC]
 refine takeN (.bool (dscQ q)) (some 4) (i := 14) rfl rfl (by kernel_rfl) (by kernel_rfl) (by kernel_rfl) (fun _ _ _ h => h) (Or.inl ⟨by rfl, fun w' hw' => ?_⟩) hS ?_
 ·obtain ⟨x0, x1, x2⟩ := hw'
  go_simp
 simp only [Act.put, iA, iB, iC]
 refine wpAnyH_done (by kernel_rfl) ?_ _
 go_wp2_with fail
 go_ret3
 exact ⟨rfl, e4⟩
end
structure LS (w0 w : World) (lb : Nat) (m : LgM) (c : Cf) (d : Dw) (q : Lq) (s : Lg) : Prop where
 low : Below w0.heap.size w0 w
 log : LogIn w w0.heap.size lb m c d q
 sim : SimQ c q s
 ok : QOk c q
section
variable {w0 w : World} {lb : Nat} {m : LgM} {c : Cf} {d : Dw} {q : Lq} {s : Lg}
theorem LS.mask (h : LS w0 w lb m c d q s) : Below w0.heap.size w0 (offW (m.H lb) w) := below_mask h.low (fun k hk => (h.log.ge k hk).1)
theorem LS.later {w' : World} (h : LS w0 w lb m c d q s) (hb : Below w.heap.size w w') : LS w0 w' lb m c d q s := ⟨below_then h.low hb, h.log.later hb, h.sim, h.ok⟩
def RetLS (w0 w : World) (lb : Nat) (m : LgM) (c : Cf) (d : Dw) (r : (Pd × Int) × Lg) (e : Ending) (w' : World) : Prop :=
 ∃ m' q' vv' va' ev, e = .returned (.tuple #[pduV r.1.1 vv' va', ev]) ∧ PduAt (offW (m'.H lb) w') r.1.1 vv' va' ∧ ErrIs w' ev r.1.2 (-1) ∧ LS w0 w' lb m' c d q' r.2 ∧ Keeps w.heap.size w w' (m.H lb) (m'.H lb)
theorem take_ls (p : Pd) (vv va : Value) (h : LS w0 w lb m c d q s) (hp : PduAt (offW (m.H lb) w) p vv va) (hE : EnvL w0) (hf : FitP p) (hc : CfOk c) (hd : 0 ≤ d.id ∧ d.id ≤ 255 ∧ d.ch.length ≤ 100) :
  Calls Tryz.prog 12 #[.pointer (some ⟨lb, 0, none⟩), pduV p vv va] w (RetLS w0 w lb m c d (takeL c d s p)) := by
 have hxv : ∀ x ∈ p.h.vs, x < 18446744073709551616 := by obtain ⟨_, _, _, hx, _⟩ := hp.v; exact hx
 obtain ⟨e1, e2⟩ := take_sim (d := d) (p := p) hc h.sim
 refine (loginTake_any p vv va h.log hp (hE.later h.mask) hf hc (newN_is (newN_own hc)).1 h.ok hd).mono ?_
 rintro e w' ⟨m', vv', va', ev, rfl, hP, herr, hL, hK, hsame⟩
 rw [e1] at hP herr ⊢
 exact ⟨m', _, vv', va', ev, rfl, hP, herr, ⟨Keeps.from h.low hK (fun k hh => (h.log.ge k hh).1), hL, e2, take_ok hc hxv h.ok⟩, hK⟩
theorem new_ls (c : Cf) (d : Dw) (vt vp vu vo : Value) (w : World) (hv : ConfAt w c vt vp vu vo) (hf : FitCf c) (hE : EnvL w) (h0 : (newL c d).1 = 0) :
  Calls Tryz.prog 25 #[confV c vt vp vu vo, .agg #[.int .i64 d.id, .string (S d.ch)]] w fun e w' => ∃ lb m, e = .returned (.tuple #[.pointer (some ⟨lb, 0, none⟩), .nilIface]) ∧ LS w w' lb m c d (lq0 c) (lg0 c) ∧ (OwnV w m.mv ∧ OwnV w m.vt ∧ OwnV w m.vu) := by
 refine (lnew_any c d vt vp vu vo w hv hf hE).mono ?_
 rintro e w' (⟨_, lb, m, rfl, hL, ho, hb⟩ | ⟨h1, _⟩)
 ·exact ⟨lb, m, rfl, ⟨hb, hL, simQ_0 c, qOk_0 c⟩, ho⟩
 ·exact absurd h0 h1
end
end Go.Proofs.YtjbbbpgcegcbaaaGreatDoor
namespace Go.Proofs.YtjbbbpgcegcbaaaGreatDoor
open Go.RowKit
set_option linter.unusedVariables false
theorem later_cell {W W' : World} (hb : Below W.heap.size W W') {b o : Nat} {v : Value} (h : W.cell? ⟨b, o, none⟩ = some v) : W'.cell? ⟨b, o, none⟩ = some v :=
 ((bcell hb).1 b o (block_lt_of_cell (w := W) (a := ⟨b, o, none⟩) h)).trans h
def PdusV (W : World) (v : Value) (l : List Pd) : Prop := ∃ p c, v = .slice p l.length c ∧ (0 < l.length → ∃ b o, p = some ⟨b, o, none⟩ ∧ ∀ j (hj : j < l.length), ∃ vv va, PduAt W l[j] vv va ∧
 W.cell? ⟨b, o + j * 6, none⟩ = some (.int .i64 l[j].h.op) ∧ W.cell? ⟨b, o + j * 6 + 1, none⟩ = some (.bool l[j].h.now) ∧ W.cell? ⟨b, o + j * 6 + 2, none⟩ = some (.int .i64 l[j].h.fl) ∧ W.cell? ⟨b, o + j * 6 + 3, none⟩ = some vv ∧ W.cell? ⟨b, o + j * 6 + 4, none⟩ = some va ∧
 W.cell? ⟨b, o + j * 6 + 5, none⟩ = some (.string (S l[j].d)))
theorem PdusV.later {W W' : World} {v : Value} {l : List Pd} (h : PdusV W v l) (hb : Below W.heap.size W W') : PdusV W' v l := by
 obtain ⟨p, c, hv, hc⟩ := h
 refine ⟨p, c, hv, fun hl => ?_⟩
 obtain ⟨b, o, hp, hcell⟩ := hc hl
 refine ⟨b, o, hp, fun j hj => ?_⟩
 obtain ⟨vv, va, hP, c0, c1, c2, c3, c4, c5⟩ := hcell j hj
 exact ⟨vv, va, hP.later hb, later_cell hb c0, later_cell hb c1, later_cell hb c2, later_cell hb c3, later_cell hb c4, later_cell hb c5⟩
theorem PdusV.form {W : World} {v : Value} {l : List Pd} (h : PdusV W v l) : ∃ p c, v = .slice p l.length c := by obtain ⟨p, c, h, _⟩ := h; exact ⟨p, c, h⟩
end Go.Proofs.YtjbbbpgcegcbaaaGreatDoor
namespace Go.Proofs.YtjbbbpgcegcbaaaGreatDoor
open Go Go.RowKit
set_option linter.unusedVariables false
theorem LS.base {w w1 W : World} {lb : Nat} {m : LgM} {c : Cf} {d : Dw} {q : Lq} {s : Lg} (h : LS w1 W lb m c d q s) (hb : Below w.heap.size w w1) : LS w W lb m c d q s := ⟨below_then hb h.low, h.log.mono hb.size, h.sim, h.ok⟩
theorem newL_is {c : Cf} {d : Dw} (h : (newL c d).1 = 0) : CfOk c ∧ (0 ≤ d.id ∧ d.id ≤ 255 ∧ d.ch.length ≤ 100) ∧ 0 < d.ch.length := by
 unfold newL at h
 by_cases h1 : (tgtR c).1 = 0
 ·rw [if_neg (by simp [h1])] at h
  by_cases h2 : (respL d.id [] d.ch).2 = 0
  ·refine ⟨tgtR_ok.1 h1, ?_⟩
   rcases respL_ways d.id [] d.ch with ⟨e, _⟩ | ⟨e, _⟩ | ⟨x, e, _, _, a, b, _, k, l⟩
   ·rw [e] at h2; exact absurd h2 (by decide)
   ·rw [e] at h2; exact absurd h2 (by decide)
   ·exact ⟨⟨a, b, l⟩, k⟩
  ·rw [if_pos h2] at h
   exact absurd h h2
 ·rw [if_pos h1] at h
  exact absurd h h1
end Go.Proofs.YtjbbbpgcegcbaaaGreatDoor
namespace Go.Proofs.YtjbbbpgcegcbaaaGreatDoor
open Go.RowKit
set_option linter.unusedVariables false
def nCls : List UInt8 := [83, 116, 97, 116, 117, 115, 67, 108, 97, 115, 115]
def nDet : List UInt8 := [83, 116, 97, 116, 117, 115, 68, 101, 116, 97, 105, 108]
def statR (p : Pd) : Int × Nat × Nat := if (valueR p.h nCls).2 ≠ 0 ∨ (valueR p.h nDet).2 ≠ 0 ∨ p.h.op ≠ 35 then (-1, 999, 999) else (p.h.fl, hv p.h nCls, hv p.h nDet)
theorem what_any (p : Pd) (vv va : Value) (n : List UInt8) (w : World) (hp : PduAt w p vv va) (hm : MaxCell w) (hl : p.h.vs.length ≤ 9223372036854775807) :
  Calls Tryz.prog 51 #[pduV p vv va, .string (S n)] w fun e w' => e = .returned (.int .u64 (hv p.h n : Nat)) ∧ Below w.heap.size w w' := by
 have hb0 := (Below.refl w.heap.size w).alloc (Nat.le_refl _) (.cells (cells6 p vv va) 41)
 have hK := Blk.new w (cells6 p vv va) 41
 have V := value_any p.h vv n _ (hm.later hb0) (hp.v.later hb0) hl
 unfold cells6 at hK hb0 V
 unfold RetNE headV at V
 obtain ⟨k0, k1, k2, k3, k4, k5⟩ := hK.six
 have V := Lib.hid V
 have Hb := Lib.hid hb0
 clear hb0 hK
 unfold pduV
 go_enter Tryz.func51, Tryz.ntmps51
 go_wp2_with fail
 refine V.out.mono ?_
 rintro e w' ⟨ev, rfl, he, hb⟩
 go_wp2_with fail
 go_ret
 exact ⟨rfl, below_then Hb.out hb⟩
set_option maxRecDepth 100000 in
set_option maxHeartbeats 2000000 in
theorem status_any (p : Pd) (vv va : Value) (w : World) (hp : PduAt w p vv va) (hm : MaxCell w) (hl : p.h.vs.length ≤ 9223372036854775807) :
  Calls Tryz.prog 31 #[pduV p vv va] w fun e w' => e = .returned (.tuple #[.int .i64 (statR p).1, .int .u64 ((statR p).2.1 : Nat), .int .u64 ((statR p).2.2 : Nat)]) ∧ Below w.heap.size w w' := by
 have hb0 := (Below.refl w.heap.size w).alloc (Nat.le_refl _) (.cells (cells6 p vv va) 41)
 have hK := Blk.new w (cells6 p vv va) 41
 obtain ⟨w0, hw0⟩ : ∃ w0, w.alloc (.cells (cells6 p vv va) 41) = w0 := ⟨_, rfl⟩
 obtain ⟨pb, hpb⟩ : ∃ pb, w.heap.size = pb := ⟨_, rfl⟩
 rw [hw0] at hb0 hK
 rw [hpb] at hK
 have V1 := value_any p.h vv nCls _ (hm.later hb0) (hp.v.later hb0) hl
 have V2 := fun W hb => value_any p.h vv nDet W (hm.later hb) (hp.v.later hb) hl
 obtain ⟨R, hR⟩ : ∃ R, statR p = R := ⟨_, rfl⟩
 rw [hR]
 unfold statR hv at hR
 unfold RetNE headV at V1 V2
 unfold cells6 at hK hw0
 generalize valueR p.h nCls = r1 at V1 hR
 generalize valueR p.h nDet = r2 at V2 hR
 obtain ⟨n1, x1⟩ := r1
 obtain ⟨n2, x2⟩ := r2
 simp only at V1 V2 hR
 unfold nCls at V1
 unfold nDet at V2
 have V1 := Lib.hid V1
 have V2 := Lib.hid V2
 have Hb := Lib.hid hb0
 have HK := Lib.hid hK
 have HR := Lib.hid hR
 obtain ⟨k0, k1, k2, k3, k4, k5⟩ := hK.six
 clear hb0 hK hp hR
 unfold pduV
 go_enter Tryz.func31, Tryz.ntmps31
 go_wp2_with fail
 clear hw0 hpb
 refine V1.out.mono ?_
 rintro e w1 ⟨e1, rfl, he1, hb1⟩
 have HK1 := Lib.hid (HK.out.later hb1)
 have Hb1 := Lib.hid (below_then Hb.out hb1)
 have He1 := Lib.hid he1
 clear hb1 HK Hb k0 k1 k2 k3 k4 k5 he1
 obtain ⟨k0, k1, k2, k3, k4, k5⟩ := HK1.out.six
 have V2' := V2.out _ Hb1.out
 go_wp2_with fail
 refine V2'.mono ?_
 rintro e w2 ⟨e2, rfl, he2, hb2⟩
 have HK2 := Lib.hid (HK1.out.later hb2)
 have Hb2 := Lib.hid (below_then Hb1.out hb2)
 have He2 := Lib.hid he2
 clear hb2 HK1 Hb1 k0 k1 k2 k3 k4 k5 V2' he2 V2 V1
 obtain ⟨k0, k1, k2, k3, k4, k5⟩ := HK2.out.six
 by_cases h1 : x1 = 0
 ·subst h1
  obtain rfl := He1.out.zero
  by_cases h2 : x2 = 0
  ·subst h2
   obtain rfl := He2.out.zero
   by_cases h3 : p.h.op = 35
   ·have hr := HR.out
    rw [if_neg (by simp [h3])] at hr
    subst hr
    go_wp2_with fail
    go_ret3
    exact ⟨rfl, Hb2.out⟩
   ·have hr := HR.out
    rw [if_pos (by simp [h3])] at hr
    subst hr
    go_wp2_with fail
    go_ret3
    exact ⟨rfl, Hb2.out⟩
  ·obtain ⟨ty, xv, rfl⟩ := He2.out.iface h2
   have hr := HR.out
   rw [if_pos (by simp [h2])] at hr
   subst hr
   go_wp2_with fail
   go_ret3
   exact ⟨rfl, Hb2.out⟩
 ·obtain ⟨ty, xv, rfl⟩ := He1.out.iface h1
  have hr := HR.out
  rw [if_pos (by simp [h1])] at hr
  subst hr
  go_wp2_with fail
  go_ret3
  exact ⟨rfl, Hb2.out⟩
def chalL : List UInt8 := [99, 104, 97, 108]
set_option maxRecDepth 100000 in
theorem draw_any (w : World) : Calls Tryz.prog 37 #[] w fun e w' => e = .returned (.agg #[.int .i64 7, .string (S chalL)]) ∧ Below w.heap.size w w' := by
 unfold chalL
 obtain ⟨w0, hw0⟩ : ∃ w0, w.alloc (.cells #[.int .i64 0, .string (S [])] 31) = w0 := ⟨_, rfl⟩
 have b0 : Below w.heap.size w w0 := by rw [← hw0]; exact (Below.refl _ _).alloc (Nat.le_refl _) _
 have k0 : Blk w0 w.heap.size #[.int .i64 0, .string (S [])] 31 := by rw [← hw0]; exact Blk.new w _ _
 obtain ⟨rb, hrb⟩ : ∃ rb, w.heap.size = rb := ⟨_, rfl⟩
 rw [hrb] at k0
 obtain ⟨g0, g1⟩ := k0.two
 have f0 := k0.frozen 0
 have f1 := k0.frozen 1
 obtain ⟨w1, hw1⟩ : ∃ w1, (w0.setCell ⟨rb, 0, none⟩ (.int .i64 7)).setCell ⟨rb, 1, none⟩ (.string (S [99, 104, 97, 108])) = w1 := ⟨_, rfl⟩
 have k1 : Blk w1 rb #[.int .i64 7, .string (S [99, 104, 97, 108])] 31 := by rw [← hw1]; exact (k0.set 0 (.int .i64 7)).set 1 (.string (S [99, 104, 97, 108]))
 have b1 : Below w.heap.size w w1 := by rw [← hw1]; exact (b0.setCell (p := ⟨rb, 0, none⟩) (Nat.le_of_eq hrb) _).setCell (p := ⟨rb, 1, none⟩) (Nat.le_of_eq hrb) _
 obtain ⟨s0, s1⟩ := k1.two
 have B1 := Lib.hid b1
 clear b0 k0 k1 b1
 go_enter Tryz.func37, Tryz.ntmps37
 go_wp2_with fail
 refine bodyPost_ret (v := .agg #[.int .i64 7, .string (S [99, 104, 97, 108])]) (by simp [results, Tryz.results37, go_sem, s0, s1]) rfl ?_
 exact ⟨rfl, B1.out⟩
def knockL (c : Cf) (d : Dw) : Lg → Pd → List Pd → (Pd × Bool) × Lg
 | s, q, [] => ((q, true), s)
 | s, q, p :: l => if (takeL c d s p).1.2 ≠ 0 then ((q, false), (takeL c d s p).2) else knockL c d (takeL c d s p).2 (takeL c d s p).1.1 l
theorem knock_one {c : Cf} {d : Dw} {s : Lg} {p : Pd} (h : (takeL c d s p).1.2 = 0) : knockL c d s pd0 [p] = (((takeL c d s p).1.1, true), (takeL c d s p).2) := by
 unfold knockL
 rw [if_neg (by simp [h])]
 rfl
end Go.Proofs.YtjbbbpgcegcbaaaGreatDoor
