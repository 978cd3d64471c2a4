/- LB39: several texts in one. -/
import Derived.BigQuiet
import Derived.BigRegion
import Derived.Deep.QuietTactic
import Derived.Laws.StructEq
import Derived.Test.YtmkebjdmkkjloaaGreatDoorLB01
import Derived.Test.YtmkebjdmkkjloaaGreatDoorLB09
import Derived.Test.YtmkebjdmkkjloaaGreatDoorLB10
import Derived.Test.YtmkebjdmkkjloaaGreatDoorLB12
import Derived.Test.YtmkebjdmkkjloaaGreatDoorLB15
import Derived.Test.YtmkebjdmkkjloaaGreatDoorLB17
import Derived.Test.YtmkebjdmkkjloaaGreatDoorLB20
import Derived.Test.YtmkebjdmkkjloaaGreatDoorLB36
import Derived.Test.YtmkebjdmkkjloaaGreatDoorLB37
import Derived.Test.YtmkebjdmkkjloaaGreatDoorLB38
namespace Go.Proofs.YtmkebjdmkkjloaaGreatDoor
open Go Go.RowKit
set_option linter.unusedVariables false
section
variable {w : World} {B lb : Nat} {m : LgM} {c : Cf} {d : Dw} {q : Lq}
theorem stat_any (h : LogIn w B lb m c d q) : Calls Tryz.prog 17 #[.pointer (some ⟨lb, 0, none⟩)] w fun e w' => e = .returned (.int .u32 q.sta) ∧ w = w' := by
 have q11 := (pcells h.blk).q11
 clear h
 go_enter Tryz.func17, Tryz.ntmps17
 go_wp2_with fail
 go_ret
 exact ⟨rfl, rfl⟩
theorem command_any (h : LogIn w B lb m c d q) : Calls Tryz.prog 19 #[.pointer (some ⟨lb, 0, none⟩)] w fun e w' => e = .returned (.int .u32 q.cmd) ∧ w = w' := by
 have q12 := (pcells h.blk).q12
 clear h
 go_enter Tryz.func19, Tryz.ntmps19
 go_wp2_with fail
 go_ret
 exact ⟨rfl, rfl⟩
set_option maxRecDepth 100000 in
set_option maxHeartbeats 1000000 in
theorem over_any (h : LogIn w B lb m c d q) : Calls Tryz.prog 14 #[.pointer (some ⟨lb, 0, none⟩)] w fun e w' => e = .returned (.tuple #[.bool q.don, .bool q.fld]) ∧ Below w.heap.size w w' := by
 have q21 := (pcells h.blk).q21
 have q22 := (pcells h.blk).q22
 clear h
 go_enter Tryz.func14, Tryz.ntmps14
 go_wp2_with fail
 refine wp_region_held (S := (fun w' => w'.cell? ⟨lb, 21, none⟩ = some (.bool q.don) ∧ w'.cell? ⟨lb, 22, none⟩ = some (.bool q.fld))) (by kernel_rfl) ?_
 have e4 : Below w.heap.size w { w with drawn := w.drawn + 1 } := (Below.refl _ _).drew
 have hS : ({ w with drawn := w.drawn + 1 } : World).cell? ⟨lb, 21, none⟩ = some (.bool q.don) ∧ ({ w with drawn := w.drawn + 1 } : World).cell? ⟨lb, 22, none⟩ = some (.bool q.fld) := ⟨q21, q22⟩
 generalize ({ w with drawn := w.drawn + 1 } : World) = w4 at e4 hS ⊢
 refine takeN (.pointer (some ⟨lb, 0, none⟩)) (some 4) (i := 0) rfl rfl (by kernel_rfl) (by kernel_rfl) (by kernel_rfl) (fun _ _ _ h => h) (Or.inl ⟨by rfl, fun w' hw' => ?_⟩) hS ?_
 ·obtain ⟨x0, x1⟩ := hw'
  go_simp
 simp only [Act.put, iA, iB, iC]
 refine takeN (.pointer (some ⟨lb, 0, none⟩)) (some 5) (i := 1) rfl rfl (by kernel_rfl) (by kernel_rfl) (by kernel_rfl) (fun _ _ _ h => h) (Or.inl ⟨by rfl, fun w' hw' => ?_⟩) hS ?_
 ·obtain ⟨x0, x1⟩ := hw'
  go_simp
 simp only [Act.put, iA, iB, iC]
 refine takeN (.pointer (some ⟨lb, 21, none⟩)) (some 6) (i := 2) rfl rfl (by kernel_rfl) (by kernel_rfl) (by kernel_rfl) (fun _ _ _ h => h) (Or.inl ⟨by rfl, fun w' hw' => ?_⟩) hS ?_
 ·obtain ⟨x0, x1⟩ := hw'
  go_simp
 simp only [Act.put, iA, iB, iC]
 refine takeN (.bool q.don) (some 7) (i := 3) rfl rfl (by kernel_rfl) (by kernel_rfl) (by kernel_rfl) (fun _ _ _ h => h) (Or.inl ⟨by rfl, fun w' hw' => ?_⟩) hS ?_
 ·obtain ⟨x0, x1⟩ := hw'
  go_simp
 simp only [Act.put, iA, iB, iC]
 refine takeN (.pointer (some ⟨lb, 0, none⟩)) (some 8) (i := 4) rfl rfl (by kernel_rfl) (by kernel_rfl) (by kernel_rfl) (fun _ _ _ h => h) (Or.inl ⟨by rfl, fun w' hw' => ?_⟩) hS ?_
 ·obtain ⟨x0, x1⟩ := hw'
  go_simp
 simp only [Act.put, iA, iB, iC]
 refine takeN (.pointer (some ⟨lb, 0, none⟩)) (some 9) (i := 5) rfl rfl (by kernel_rfl) (by kernel_rfl) (by kernel_rfl) (fun _ _ _ h => h) (Or.inl ⟨by rfl, fun w' hw' => ?_⟩) hS ?_
 ·obtain ⟨x0, x1⟩ := hw'
  go_simp
 simp only [Act.put, iA, iB, iC]
 refine takeN (.pointer (some ⟨lb, 22, none⟩)) (some 10) (i := 6) rfl rfl (by kernel_rfl) (by kernel_rfl) (by kernel_rfl) (fun _ _ _ h => h) (Or.inl ⟨by rfl, fun w' hw' => ?_⟩) hS ?_
 ·obtain ⟨x0, x1⟩ := hw'
  go_simp
 simp only [Act.put, iA, iB, iC]
 refine takeN (.bool q.fld) (some 11) (i := 7) rfl rfl (by kernel_rfl) (by kernel_rfl) (by kernel_rfl) (fun _ _ _ h => h) (Or.inl ⟨by rfl, fun w' hw' => ?_⟩) hS ?_
 ·obtain ⟨x0, x1⟩ := hw'
  go_simp
 simp only [Act.put, iA, iB, iC]
 refine takeN (.bool q.don) (some 2) (i := 8) rfl rfl (by kernel_rfl) (by kernel_rfl) (by kernel_rfl) (fun _ _ _ h => h) (Or.inl ⟨by rfl, fun w' hw' => ?_⟩) hS ?_
 ·obtain ⟨x0, x1⟩ := hw'
  go_simp
 simp only [Act.put, iA, iB, iC]
 refine takeN (.bool q.fld) (some 3) (i := 9) rfl rfl (by kernel_rfl) (by kernel_rfl) (by kernel_rfl) (fun _ _ _ h => h) (Or.inl ⟨by rfl, fun w' hw' => ?_⟩) hS ?_
 ·obtain ⟨x0, x1⟩ := hw'
  go_simp
 simp only [Act.put, iA, iB, iC]
 refine wpAnyH_done (by kernel_rfl) ?_ _
 go_wp2_with fail
 go_ret2
 exact ⟨rfl, e4⟩
set_option maxRecDepth 100000 in
set_option maxHeartbeats 2000000 in
theorem who_any (h : LogIn w B lb m c d q) : Calls Tryz.prog 30 #[.pointer (some ⟨lb, 0, none⟩)] w fun e w' => e = .returned (.tuple #[.string (S (q.wN.getD [])), .string (S (q.wT.getD [])), .bool (dscQ q)]) ∧ Below w.heap.size w w' := by
 have SF : ∀ w' : World, Below w.heap.size w w' → (w'.cell? ⟨lb, 18, none⟩ = some (.map (some m.mb)) ∧ ((Instr.lookup 94 (.map (some m.mb)) (.string (S [67, 72, 65, 80, 95, 78])) false).run Tryz.prog w' = .ok (.string (S (q.wN.getD []))) w') ∧ ((Instr.lookup 94 (.map (some m.mb)) (.string (S [84, 97, 114, 103, 101, 116, 78, 97, 109, 101])) false).run Tryz.prog w' = .ok (.string (S (q.wT.getD []))) w')) := fun w' hb => by
  have hl := h.later hb
  have e1 : whoF q kCN = q.wN := by unfold whoF; rw [if_pos rfl]
  have e2 : whoF q nmK = q.wT := by unfold whoF; rw [if_neg (by decide), if_pos rfl]
  have L1 := (hl.who.look Tryz.underlying94 kCN (by decide)).2
  have L2 := (hl.who.look Tryz.underlying94 nmK (by decide)).2
  rw [e1] at L1
  rw [e2] at L2
  exact ⟨(pcells hl.blk).q18, L1, L2⟩
 have HL := Lib.hid h
 clear h
 go_enter Tryz.func30, Tryz.ntmps30
 go_wp2_with fail
 refine wp_region_held (S := (fun w' => w'.cell? ⟨lb, 18, none⟩ = some (.map (some m.mb)) ∧ ((Instr.lookup 94 (.map (some m.mb)) (.string (S [67, 72, 65, 80, 95, 78])) false).run Tryz.prog w' = .ok (.string (S (q.wN.getD []))) w') ∧ ((Instr.lookup 94 (.map (some m.mb)) (.string (S [84, 97, 114, 103, 101, 116, 78, 97, 109, 101])) false).run Tryz.prog w' = .ok (.string (S (q.wT.getD []))) w'))) (by kernel_rfl) ?_
 have e4 : Below w.heap.size w { w with drawn := w.drawn + 1 } := (Below.refl _ _).drew
 generalize ({ w with drawn := w.drawn + 1 } : World) = w4 at e4 ⊢
 have hS := SF _ e4
 refine takeN (.pointer (some ⟨lb, 0, none⟩)) (some 5) (i := 0) rfl rfl (by kernel_rfl) (by kernel_rfl) (by kernel_rfl) (fun _ _ _ h => h) (Or.inl ⟨by rfl, fun w' hw' => ?_⟩) hS ?_
 ·obtain ⟨x0, x1, x2⟩ := hw'
  go_simp
 simp only [Act.put, iA, iB, iC]
 refine takeN (.pointer (some ⟨lb, 0, none⟩)) (some 6) (i := 1) rfl rfl (by kernel_rfl) (by kernel_rfl) (by kernel_rfl) (fun _ _ _ h => h) (Or.inl ⟨by rfl, fun w' hw' => ?_⟩) hS ?_
 ·obtain ⟨x0, x1, x2⟩ := hw'
  go_simp
 simp only [Act.put, iA, iB, iC]
 refine takeN (.pointer (some ⟨lb, 18, none⟩)) (some 7) (i := 2) rfl rfl (by kernel_rfl) (by kernel_rfl) (by kernel_rfl) (fun _ _ _ h => h) (Or.inl ⟨by rfl, fun w' hw' => ?_⟩) hS ?_
 ·obtain ⟨x0, x1, x2⟩ := hw'
  go_simp
 simp only [Act.put, iA, iB, iC]
 refine takeN (.map (some m.mb)) (some 8) (i := 3) rfl rfl (by kernel_rfl) (by kernel_rfl) (by kernel_rfl) (fun _ _ _ h => h) (Or.inl ⟨by rfl, fun w' hw' => ?_⟩) hS ?_
 ·obtain ⟨x0, x1, x2⟩ := hw'
  go_simp
 simp only [Act.put, iA, iB, iC]
 refine takeN (.string (S (q.wN.getD []))) (some 9) (i := 4) rfl rfl (by kernel_rfl) (by kernel_rfl) (by kernel_rfl) (fun _ _ _ h => h) (Or.inl ⟨by rfl, fun w' hw' => ?_⟩) hS ?_
 ·obtain ⟨x0, x1, x2⟩ := hw'
  go_simp
 simp only [Act.put, iA, iB, iC]
 refine takeN (.pointer (some ⟨lb, 0, none⟩)) (some 10) (i := 5) rfl rfl (by kernel_rfl) (by kernel_rfl) (by kernel_rfl) (fun _ _ _ h => h) (Or.inl ⟨by rfl, fun w' hw' => ?_⟩) hS ?_
 ·obtain ⟨x0, x1, x2⟩ := hw'
  go_simp
 simp only [Act.put, iA, iB, iC]
 refine takeN (.pointer (some ⟨lb, 0, none⟩)) (some 11) (i := 6) rfl rfl (by kernel_rfl) (by kernel_rfl) (by kernel_rfl) (fun _ _ _ h => h) (Or.inl ⟨by rfl, fun w' hw' => ?_⟩) hS ?_
 ·obtain ⟨x0, x1, x2⟩ := hw'
  go_simp
 simp only [Act.put, iA, iB, iC]
 refine takeN (.pointer (some ⟨lb, 18, none⟩)) (some 12) (i := 7) rfl rfl (by kernel_rfl) (by kernel_rfl) (by kernel_rfl) (fun _ _ _ h => h) (Or.inl ⟨by rfl, fun w' hw' => ?_⟩) hS ?_
 ·obtain ⟨x0, x1, x2⟩ := hw'
  go_simp
 simp only [Act.put, iA, iB, iC]
 refine takeN (.map (some m.mb)) (some 13) (i := 8) rfl rfl (by kernel_rfl) (by kernel_rfl) (by kernel_rfl) (fun _ _ _ h => h) (Or.inl ⟨by rfl, fun w' hw' => ?_⟩) hS ?_
 ·obtain ⟨x0, x1, x2⟩ := hw'
  go_simp
 simp only [Act.put, iA, iB, iC]
 refine takeN (.string (S (q.wT.getD []))) (some 14) (i := 9) rfl rfl (by kernel_rfl) (by kernel_rfl) (by kernel_rfl) (fun _ _ _ h => h) (Or.inl ⟨by rfl, fun w' hw' => ?_⟩) hS ?_
 ·obtain ⟨x0, x1, x2⟩ := hw'
  go_simp
 simp only [Act.put, iA, iB, iC]
 refine takeN (.pointer (some ⟨lb, 0, none⟩)) (some 15) (i := 10) rfl rfl (by kernel_rfl) (by kernel_rfl) (by kernel_rfl) (fun _ _ _ h => h) (Or.inl ⟨by rfl, fun w' hw' => ?_⟩) hS ?_
 ·obtain ⟨x0, x1, x2⟩ := hw'
  go_simp
 simp only [Act.put, iA, iB, iC]
 refine wpAnyH_all (rs := [11]) (by kernel_rfl) (by simp) (fun i hi => ?_)
 obtain rfl : i = 11 := by simpa using hi
 refine wantN (i := 11) rfl (by rfl) (callN (f := 56) (some 16) rfl Tryz.func56 (by kernel_rfl) (by kernel_rfl) rfl rfl ?_)
 simp only [List.map_toArray, List.map_cons, List.map_nil]
 refine (disc_any (HL.out.later e4)).mono ?_
 rintro e w' ⟨rfl, rfl⟩
 refine ⟨_, rfl, hS, ?_⟩
 try dsimp only
 simp only [Act.put, iA, iB, iC]
 refine takeN (.string (S (q.wN.getD []))) (some 2) (i := 12) rfl rfl (by kernel_rfl) (by kernel_rfl) (by kernel_rfl) (fun _ _ _ h => h) (Or.inl ⟨by rfl, fun w' hw' => ?_⟩) hS ?_
 ·obtain ⟨x0, x1, x2⟩ := hw'
  go_simp
 simp only [Act.put, iA, iB, iC]
 refine takeN (.string (S (q.wT.getD []))) (some 3) (i := 13) rfl rfl (by kernel_rfl) (by kernel_rfl) (by kernel_rfl) (fun _ _ _ h => h) (Or.inl ⟨by rfl, fun w' hw' => ?_⟩) hS ?_
 ·obtain ⟨x0, x1, x2⟩ := hw'
  go_simp
 simp only [Act.put, iA, iB, iC]
 refine takeN (.bool (dscQ q)) (some 4) (i := 14) rfl rfl (by kernel_rfl) (by kernel_rfl) (by kernel_rfl) (fun _ _ _ h => h) (Or.inl ⟨by rfl, fun w' hw' => ?_⟩) hS ?_
 ·obtain ⟨x0, x1, x2⟩ := hw'
  go_simp
 simp only [Act.put, iA, iB, iC]
 refine wpAnyH_done (by kernel_rfl) ?_ _
 go_wp2_with fail
 go_ret3
 exact ⟨rfl, e4⟩
end
structure LS (w0 w : World) (lb : Nat) (m : LgM) (c : Cf) (d : Dw) (q : Lq) (s : Lg) : Prop where
 low : Below w0.heap.size w0 w
 log : LogIn w w0.heap.size lb m c d q
 sim : SimQ c q s
 ok : QOk c q
section
variable {w0 w : World} {lb : Nat} {m : LgM} {c : Cf} {d : Dw} {q : Lq} {s : Lg}
theorem LS.mask (h : LS w0 w lb m c d q s) : Below w0.heap.size w0 (offW (m.H lb) w) := below_mask h.low (fun k hk => (h.log.ge k hk).1)
theorem LS.later {w' : World} (h : LS w0 w lb m c d q s) (hb : Below w.heap.size w w') : LS w0 w' lb m c d q s := ⟨below_then h.low hb, h.log.later hb, h.sim, h.ok⟩
def RetLS (w0 w : World) (lb : Nat) (m : LgM) (c : Cf) (d : Dw) (r : (Pd × Int) × Lg) (e : Ending) (w' : World) : Prop :=
 ∃ m' q' vv' va' ev, e = .returned (.tuple #[pduV r.1.1 vv' va', ev]) ∧ PduAt (offW (m'.H lb) w') r.1.1 vv' va' ∧ ErrIs w' ev r.1.2 (-1) ∧ LS w0 w' lb m' c d q' r.2 ∧ Keeps w.heap.size w w' (m.H lb) (m'.H lb)
theorem take_ls (p : Pd) (vv va : Value) (h : LS w0 w lb m c d q s) (hp : PduAt (offW (m.H lb) w) p vv va) (hE : EnvL w0) (hf : FitP p) (hc : CfOk c) (hd : 0 ≤ d.id ∧ d.id ≤ 255 ∧ d.ch.length ≤ 100) :
  Calls Tryz.prog 13 #[.pointer (some ⟨lb, 0, none⟩), pduV p vv va] w (RetLS w0 w lb m c d (takeL c d s p)) := by
 have hxv : ∀ x ∈ p.h.vs, x < 18446744073709551616 := by obtain ⟨_, _, _, hx, _⟩ := hp.v; exact hx
 obtain ⟨e1, e2⟩ := take_sim (d := d) (p := p) hc h.sim
 refine (loginTake_any p vv va h.log hp (hE.later h.mask) hf hc (newN_is (newN_own hc)).1 h.ok hd).mono ?_
 rintro e w' ⟨m', vv', va', ev, rfl, hP, herr, hL, hK, hsame⟩
 rw [e1] at hP herr ⊢
 exact ⟨m', _, vv', va', ev, rfl, hP, herr, ⟨Keeps.from h.low hK (fun k hh => (h.log.ge k hh).1), hL, e2, take_ok hc hxv h.ok⟩, hK⟩
theorem new_ls (c : Cf) (d : Dw) (vt vp vu vo : Value) (w : World) (hv : ConfAt w c vt vp vu vo) (hf : FitCf c) (hE : EnvL w) (h0 : (newL c d).1 = 0) :
  Calls Tryz.prog 24 #[confV c vt vp vu vo, .agg #[.int .i64 d.id, .string (S d.ch)]] w fun e w' => ∃ lb m, e = .returned (.tuple #[.pointer (some ⟨lb, 0, none⟩), .nilIface]) ∧ LS w w' lb m c d (lq0 c) (lg0 c) ∧ (OwnV w m.mv ∧ OwnV w m.vt ∧ OwnV w m.vu) := by
 refine (lnew_any c d vt vp vu vo w hv hf hE).mono ?_
 rintro e w' (⟨_, lb, m, rfl, hL, ho, hb⟩ | ⟨h1, _⟩)
 ·exact ⟨lb, m, rfl, ⟨hb, hL, simQ_0 c, qOk_0 c⟩, ho⟩
 ·exact absurd h0 h1
end
end Go.Proofs.YtmkebjdmkkjloaaGreatDoor
namespace Go.Proofs.YtmkebjdmkkjloaaGreatDoor
open Go.RowKit
set_option maxRecDepth 100000 in
theorem equalU_same (l : List Nat) (v v' : Value) (w : World) (hv : Vals w v l) (hv' : Vals w v' l) (hl : l.length ≤ 140737488355328) :
  Calls Tryz.prog 71 #[v, v'] w fun e w' => e = .returned (.bool true) ∧ Below w.heap.size w w' := by
 obtain ⟨p, c, rfl, _, hc⟩ := hv
 obtain ⟨p', c', rfl, _, hc'⟩ := hv'
 have hne : ((l.length : Int) != (l.length : Int)) = false := by simp
 have Hc := Lib.hid hc
 have Hc' := Lib.hid hc'
 clear hc hc'
 go_enter Tryz.func71, Tryz.ntmps71
 go_wp2_with fail
 go_loopw [13] (fun i wr => ∃ j : Nat, j ≤ l.length ∧ i = .int .i64 j ∧ Below w.heap.size w wr) (fun i _ => l.length - (intOf i).toNat)
 case atStart => exact ⟨0, by omega, rfl, Below.refl _ _⟩
 case round =>
  obtain ⟨j, hj, rfl, hb⟩ := hrel
  have Hb := Lib.hid hb
  by_cases hlt : j < l.length
  ·obtain ⟨b, o, rfl, hcl⟩ := Hc.out (by omega)
   obtain ⟨b', o', rfl, hcl'⟩ := Hc'.out (by omega)
   have h1 : wr.cell? ⟨b, o + j, none⟩ = some (.int .u64 (l[j] : Int)) := by
    rw [(bcell hb).1 b (o + j) (block_lt_of_cell (w := w) (a := ⟨b, o + j, none⟩) (hcl j hlt))]; exact hcl j hlt
   have h2 : wr.cell? ⟨b', o' + j, none⟩ = some (.int .u64 (l[j] : Int)) := by
    rw [(bcell hb).1 b' (o' + j) (block_lt_of_cell (w := w) (a := ⟨b', o' + j, none⟩) (hcl' j hlt))]; exact hcl' j hlt
   obtain ⟨x, hx⟩ : ∃ x, l[j] = x := ⟨_, rfl⟩
   rw [hx] at h1 h2
   have hj0 : (0 : Int) ≤ (j : Int) := by omega
   have hxx : ((x : Int) != (x : Int)) = false := by simp
   clear hb hcl hcl' hx
   go_wp2_with fail
   go_quiet (fail)
   go_wp2_with fail
   go_roundw
   case rel => exact ⟨j + 1, by omega, by go_num, below_drewN Hb.out _⟩
   case measure => simp [intOf]; omega
  ·clear hb
   go_wp2_with fail
   go_ret
   exact ⟨rfl, Hb.out⟩
theorem sameK_same (h : Hd) (v v' : Value) (w : World) (hv : Vals w v h.vs) (hv' : Vals w v' h.vs) (hl : h.vs.length ≤ 140737488355328) :
  Calls Tryz.prog 44 #[headV h v, headV h v'] w fun e w' => e = .returned (.bool true) ∧ Below w.heap.size w w' := by
 obtain ⟨op, now, fl, vs⟩ := h
 unfold headV
 simp only at *
 have hb0 := ((Below.refl w.heap.size w).alloc (Nat.le_refl _) (.cells #[.int .i64 op, .bool now, .int .i64 fl, v] 38)).alloc (by simp) (.cells #[.int .i64 op, .bool now, .int .i64 fl, v'] 38)
 have C := Lib.hid (equalU_same vs v v' _ (hv.later hb0) (hv'.later hb0) hl)
 have Hb0 := Lib.hid hb0
 clear hb0 hv hv'
 go_enter Tryz.func44, Tryz.ntmps44
 go_wp2_with fail
 refine C.out.mono ?_
 rintro e w1 ⟨rfl, hb⟩
 have Hb := Lib.hid (below_then Hb0.out hb)
 clear hb
 go_wp2_with fail
 go_ret
 exact ⟨rfl, Hb.out⟩
theorem ah_same (w : World) (k : Int) (d : List UInt8) : (binOp .neq 104 (.agg #[.int .i64 k, .string (S d)]) (.agg #[.int .i64 k, .string (S d)])).run Tryz.prog w = .ok (.bool false) w := by
 have hS : Tryz.prog.underlying 104 = some (.struct (Tryz.prog.fieldsOf 104)) := by kernel_rfl
 have hp : Tryz.prog.stoodInHeld 104 = false := by kernel_rfl
 rw [run_neq_struct, show (10000 : Nat) = 9999 + 1 from rfl, run_equalIn_agg w 9999 104 _ _ hS hp]
 simp only [Program.fieldsOf, Tryz.underlying104]
 go_simp
set_option maxRecDepth 100000 in
theorem equalA_same (l : List Ah) (v v' : Value) (w : World) (hl : l.length ≤ 140737488355328) (hv : AhsV w v l) (hv' : AhsV w v' l) :
  Calls Tryz.prog 45 #[v, v'] w fun e w' => e = .returned (.bool true) ∧ Below w.heap.size w w' := by
 obtain ⟨p, c, rfl, _, hc⟩ := hv
 obtain ⟨p', c', rfl, _, hc'⟩ := hv'
 have hne : ((l.length : Int) != (l.length : Int)) = false := by simp
 have Hc := Lib.hid hc
 have Hc' := Lib.hid hc'
 clear hc hc'
 go_enter Tryz.func45, Tryz.ntmps45
 go_wp2_with fail
 go_loopw [13] (fun i wr => ∃ j : Nat, j ≤ l.length ∧ i = .int .i64 j ∧ Below w.heap.size w wr) (fun i _ => l.length - (intOf i).toNat)
 case atStart => exact ⟨0, by omega, rfl, Below.refl _ _⟩
 case round =>
  obtain ⟨j, hj, rfl, hb⟩ := hrel
  have Hb := Lib.hid hb
  by_cases hlt : j < l.length
  ·obtain ⟨b, o, rfl, hcl⟩ := Hc.out (by omega)
   obtain ⟨b', o', rfl, hcl'⟩ := Hc'.out (by omega)
   obtain ⟨q0, q1⟩ := hcl j hlt
   obtain ⟨r0, r1⟩ := hcl' j hlt
   rw [← (bcell hb).1 b (o + j * 2) (block_lt_of_cell (w := w) (a := ⟨b, o + j * 2, none⟩) q0)] at q0
   rw [← (bcell hb).1 b (o + j * 2 + 1) (block_lt_of_cell (w := w) (a := ⟨b, o + j * 2 + 1, none⟩) q1)] at q1
   rw [← (bcell hb).1 b' (o' + j * 2) (block_lt_of_cell (w := w) (a := ⟨b', o' + j * 2, none⟩) r0)] at r0
   rw [← (bcell hb).1 b' (o' + j * 2 + 1) (block_lt_of_cell (w := w) (a := ⟨b', o' + j * 2 + 1, none⟩) r1)] at r1
   obtain ⟨⟨k, d⟩, ha⟩ : ∃ a, l[j] = a := ⟨_, rfl⟩
   rw [ha] at q0 q1 r0 r1
   simp only at q0 q1 r0 r1
   have hj0 : (0 : Int) ≤ (j : Int) := by omega
   have E2 := fun w => ah_same w k d
   clear hb hcl hcl' ha
   go_wp2_with fail
   go_quiet (fail)
   go_wp2_with fail
   go_roundw
   case rel => exact ⟨j + 1, by omega, by go_num, below_drewN Hb.out _⟩
   case measure => simp [intOf]; omega
  ·clear hb
   go_wp2_with fail
   go_ret
   exact ⟨rfl, Hb.out⟩
def RetBool (w : World) (e : Ending) (w' : World) : Prop := ∃ b, e = .returned (.bool b) ∧ Below w.heap.size w w'
set_option maxRecDepth 100000 in
theorem wideK_any (l : List Ah) (v : Value) (w : World) (hv : AhsV w v l) (hf : fitA l) :
  Calls Tryz.prog 62 #[v] w (RetBool w) := by
 obtain ⟨p, c, rfl, _, hc⟩ := hv
 have Hc := Lib.hid hc
 have hl47 := hf.1
 clear hc hf
 go_enter Tryz.func62, Tryz.ntmps62
 go_wp2_with fail
 go_loopw [3, 10] (fun x i wr => ∃ (j : Nat) (n : Int), j ≤ l.length ∧ i = .int .i64 j ∧ x = .int .i64 n ∧ Below w.heap.size w wr) (fun _ i _ => l.length - (intOf i).toNat)
 case atStart => exact ⟨0, _, by omega, rfl, rfl, Below.refl _ _⟩
 case round =>
  obtain ⟨j, n, hj, rfl, rfl, hb⟩ := hrel
  have Hb := Lib.hid hb
  by_cases hlt : j < l.length
  ·obtain ⟨b, o, rfl, hcl⟩ := Hc.out (by omega)
   obtain ⟨h1, h2⟩ := hcl j hlt
   rw [← (bcell hb).1 b (o + j * 2) (block_lt_of_cell (w := w) (a := ⟨b, o + j * 2, none⟩) h1)] at h1
   rw [← (bcell hb).1 b (o + j * 2 + 1) (block_lt_of_cell (w := w) (a := ⟨b, o + j * 2 + 1, none⟩) h2)] at h2
   obtain ⟨⟨k, d⟩, ha⟩ : ∃ a, l[j] = a := ⟨_, rfl⟩
   rw [ha] at h1 h2
   simp only at h1 h2
   have Hb1 := Lib.hid (hb.alloc hb.size (.cells #[.int .i64 k, .string (S d)] 104))
   clear hcl hb ha
   go_wp2_with fail
   go_roundw
   case rel => exact ⟨j + 1, _, by omega, by go_num, rfl, Hb1.out⟩
   case measure => simp [intOf]; omega
  ·clear hb
   go_wp2_with fail
   go_ret
   exact ⟨_, rfl, Hb.out⟩
end Go.Proofs.YtmkebjdmkkjloaaGreatDoor
namespace Go.Proofs.YtmkebjdmkkjloaaGreatDoor
open Go.RowKit
set_option linter.unusedVariables false
set_option maxRecDepth 100000 in
theorem same_same (p : Pd) (vv va vv' va' : Value) (w : World) (h : PduAt w p vv va) (h' : PduAt w p vv' va') (hvs : p.h.vs.length ≤ 140737488355328) (hal : p.a.length ≤ 140737488355328) :
  Calls Tryz.prog 15 #[pduV p vv va, pduV p vv' va'] w fun e w' => e = .returned (.bool true) ∧ Below w.heap.size w w' := by
 obtain ⟨⟨op, now, fl, vs⟩, al, d⟩ := p
 simp only at hvs hal
 obtain ⟨pv, cv, rfl⟩ : ∃ p c, vv = .slice p vs.length c := by obtain ⟨p, c, h, _⟩ := h.v; exact ⟨p, c, h⟩
 obtain ⟨pa, ca, rfl⟩ := h.a.form
 obtain ⟨pv', cv', rfl⟩ : ∃ p c, vv' = .slice p vs.length c := by obtain ⟨p, c, h, _⟩ := h'.v; exact ⟨p, c, h⟩
 obtain ⟨pa', ca', rfl⟩ := h'.a.form
 have hb1 := (Below.refl w.heap.size w).alloc (Nat.le_refl _) (.cells #[.int .i64 op, .bool now, .int .i64 fl, .slice pv vs.length cv, .slice pa al.length ca, .string (S d)] 41)
 have hb2 := hb1.alloc hb1.size (.cells #[.int .i64 op, .bool now, .int .i64 fl, .slice pv' vs.length cv', .slice pa' al.length ca', .string (S d)] 41)
 have hk1 := (Blk.new w #[.int .i64 op, .bool now, .int .i64 fl, .slice pv vs.length cv, .slice pa al.length ca, .string (S d)] 41).alloc (.cells #[.int .i64 op, .bool now, .int .i64 fl, .slice pv' vs.length cv', .slice pa' al.length ca', .string (S d)] 41)
 have hk2 := Blk.new (w.alloc (.cells #[.int .i64 op, .bool now, .int .i64 fl, .slice pv vs.length cv, .slice pa al.length ca, .string (S d)] 41)) #[.int .i64 op, .bool now, .int .i64 fl, .slice pv' vs.length cv', .slice pa' al.length ca', .string (S d)] 41
 have C1 := Lib.hid (sameK_same ⟨op, now, fl, vs⟩ _ _ _ (h.v.later hb2) (h'.v.later hb2) hvs)
 have C2 := Lib.hid (fun W (hb : Below w.heap.size w W) => equalA_same al _ _ W hal (h.a.later hb) (h'.a.later hb))
 unfold headV at C1
 simp only at C1
 have HK1 := Lib.hid hk1
 have HK2 := Lib.hid hk2
 have Hb2 := Lib.hid hb2
 clear h h' hvs hal hb1 hb2 hk1 hk2
 unfold pduV
 simp only
 go_enter Tryz.func15, Tryz.ntmps15
 go_wp2_with fail
 refine C1.out.mono ?_
 rintro e w3 ⟨rfl, hb3⟩
 have HK1' := Lib.hid (HK1.out.later hb3)
 have HK2' := Lib.hid (HK2.out.later hb3)
 have Hb3 := Lib.hid (below_then Hb2.out hb3)
 obtain ⟨q0, q1, q2, q3, q4, q5⟩ := HK1'.out.six
 obtain ⟨r0, r1, r2, r3, r4, r5⟩ := HK2'.out.six
 simp only [World.size_alloc] at r0 r1 r2 r3 r4 r5
 clear hb3 C1 HK1 HK2 Hb2
 go_wp2_with fail
 refine (C2.out _ Hb3.out).mono ?_
 rintro e w4 ⟨rfl, hb4⟩
 have HK1 := Lib.hid (HK1'.out.later hb4)
 have HK2 := Lib.hid (HK2'.out.later hb4)
 have Hb4 := Lib.hid (below_then Hb3.out hb4)
 clear q0 q1 q2 q3 q4 q5 r0 r1 r2 r3 r4 r5 hb4 C2
 obtain ⟨q0, q1, q2, q3, q4, q5⟩ := HK1.out.six
 obtain ⟨r0, r1, r2, r3, r4, r5⟩ := HK2.out.six
 simp only [World.size_alloc] at r0 r1 r2 r3 r4 r5
 go_wp2_with fail
 go_ret
 exact ⟨rfl, Hb4.out⟩
set_option maxRecDepth 100000 in
theorem large_any (p : Pd) (vv va : Value) (w : World) (h : PduAt w p vv va) (hf : FitP p) :
  Calls Tryz.prog 33 #[pduV p vv va] w fun e w' => ∃ b, e = .returned (.bool b) ∧ (b = false → p.h.vs.length ≤ 50 ∧ p.d.length ≤ 2500) ∧ Below w.heap.size w w' := by
 obtain ⟨⟨op, now, fl, vs⟩, al, d⟩ := p
 obtain ⟨pv, cv, rfl⟩ : ∃ p c, vv = .slice p vs.length c := by obtain ⟨p, c, h, _⟩ := h.v; exact ⟨p, c, h⟩
 obtain ⟨pa, ca, rfl⟩ := h.a.form
 have hb1 := (Below.refl w.heap.size w).alloc (Nat.le_refl _) (.cells #[.int .i64 op, .bool now, .int .i64 fl, .slice pv vs.length cv, .slice pa al.length ca, .string (S d)] 41)
 have HK1 := Lib.hid (Blk.new w #[.int .i64 op, .bool now, .int .i64 fl, .slice pv vs.length cv, .slice pa al.length ca, .string (S d)] 41)
 have C1 := Lib.hid (wideK_any al _ _ (h.a.later hb1) hf.a)
 have hvl := hf.vs
 have hdl := hf.d
 have Hb1 := Lib.hid hb1
 simp only at hvl hdl ⊢
 clear h hf hb1
 unfold pduV
 simp only
 go_enter Tryz.func33, Tryz.ntmps33
 go_wp2_with fail
 refine C1.out.mono ?_
 rintro e w3 ⟨bb, rfl, hb3⟩
 have HK2 := Lib.hid (HK1.out.later hb3)
 have Hb3 := Lib.hid (below_then Hb1.out hb3)
 obtain ⟨q0, q1, q2, q3, q4, q5⟩ := HK2.out.six
 clear hb3 C1 HK1 Hb1
 cases bb with
 | true =>
  go_wp2_with fail
  go_ret
  exact ⟨_, rfl, fun h => absurd h (by decide), Hb3.out⟩
 | false =>
  by_cases h50 : vs.length ≤ 50
  ·by_cases h25 : d.length ≤ 2500
   ·have i1 : (vs.length : Int) ≤ 50 := by omega
    have i2 : (d.length : Int) ≤ 2500 := by omega
    go_wp2_with fail
    go_ret
    exact ⟨_, rfl, fun _ => ⟨h50, h25⟩, Hb3.out⟩
   ·have i1 : (vs.length : Int) ≤ 50 := by omega
    have i2 : (2500 : Int) < (d.length : Int) := by omega
    clear h25
    go_wp2_with fail
    go_ret
    exact ⟨true, by go_simp, fun h => absurd h (by decide), Hb3.out⟩
  ·have i1 : (50 : Int) < (vs.length : Int) := by omega
   clear h50
   go_wp2_with fail
   go_ret
   exact ⟨true, by go_simp, fun h => absurd h (by decide), Hb3.out⟩
theorem later_cell {W W' : World} (hb : Below W.heap.size W W') {b o : Nat} {v : Value} (h : W.cell? ⟨b, o, none⟩ = some v) : W'.cell? ⟨b, o, none⟩ = some v :=
 ((bcell hb).1 b o (block_lt_of_cell (w := W) (a := ⟨b, o, none⟩) h)).trans h
def PdusV (W : World) (v : Value) (l : List Pd) : Prop := ∃ p c, v = .slice p l.length c ∧ (0 < l.length → ∃ b o, p = some ⟨b, o, none⟩ ∧ ∀ j (hj : j < l.length), ∃ vv va, PduAt W l[j] vv va ∧
 W.cell? ⟨b, o + j * 6, none⟩ = some (.int .i64 l[j].h.op) ∧ W.cell? ⟨b, o + j * 6 + 1, none⟩ = some (.bool l[j].h.now) ∧ W.cell? ⟨b, o + j * 6 + 2, none⟩ = some (.int .i64 l[j].h.fl) ∧ W.cell? ⟨b, o + j * 6 + 3, none⟩ = some vv ∧ W.cell? ⟨b, o + j * 6 + 4, none⟩ = some va ∧
 W.cell? ⟨b, o + j * 6 + 5, none⟩ = some (.string (S l[j].d)))
theorem PdusV.later {W W' : World} {v : Value} {l : List Pd} (h : PdusV W v l) (hb : Below W.heap.size W W') : PdusV W' v l := by
 obtain ⟨p, c, hv, hc⟩ := h
 refine ⟨p, c, hv, fun hl => ?_⟩
 obtain ⟨b, o, hp, hcell⟩ := hc hl
 refine ⟨b, o, hp, fun j hj => ?_⟩
 obtain ⟨vv, va, hP, c0, c1, c2, c3, c4, c5⟩ := hcell j hj
 exact ⟨vv, va, hP.later hb, later_cell hb c0, later_cell hb c1, later_cell hb c2, later_cell hb c3, later_cell hb c4, later_cell hb c5⟩
theorem PdusV.form {W : World} {v : Value} {l : List Pd} (h : PdusV W v l) : ∃ p c, v = .slice p l.length c := by obtain ⟨p, c, h, _⟩ := h; exact ⟨p, c, h⟩
end Go.Proofs.YtmkebjdmkkjloaaGreatDoor
namespace Go.Proofs.YtmkebjdmkkjloaaGreatDoor
open Go Go.RowKit
set_option linter.unusedVariables false
theorem PdusV.cellsP {W : World} {p : Option Addr} {c : Nat} {l : List Pd} (h : PdusV W (.slice p l.length c) l) {j : Nat} (hj : j < l.length) : ∃ b o, p = some ⟨b, o, none⟩ ∧ ∃ p1 c1 p2 c2, PduAt W l[j] (.slice p1 l[j].h.vs.length c1) (.slice p2 l[j].a.length c2) ∧
  W.cell? ⟨b, o + j * 6, none⟩ = some (.int .i64 l[j].h.op) ∧ W.cell? ⟨b, o + j * 6 + 1, none⟩ = some (.bool l[j].h.now) ∧ W.cell? ⟨b, o + j * 6 + 2, none⟩ = some (.int .i64 l[j].h.fl) ∧ W.cell? ⟨b, o + j * 6 + 3, none⟩ = some (.slice p1 l[j].h.vs.length c1) ∧ W.cell? ⟨b, o + j * 6 + 4, none⟩ = some (.slice p2 l[j].a.length c2) ∧
  W.cell? ⟨b, o + j * 6 + 5, none⟩ = some (.string (S l[j].d)) := by
 obtain ⟨p0, c0, hv, hc⟩ := h
 obtain ⟨rfl, rfl⟩ : p = p0 ∧ c = c0 := by simpa using hv
 obtain ⟨b, o, rfl, hcell⟩ := hc (by omega)
 obtain ⟨vv, va, hP, e0, e1, e2, e3, e4, e5⟩ := hcell j hj
 obtain ⟨p1, c1, rfl⟩ : ∃ p c, vv = .slice p l[j].h.vs.length c := by obtain ⟨p, c, h, _⟩ := hP.v; exact ⟨p, c, h⟩
 obtain ⟨p2, c2, rfl⟩ := hP.a.form
 exact ⟨b, o, rfl, p1, c1, p2, c2, hP, e0, e1, e2, e3, e4, e5⟩
def RetB (w : World) (e : Ending) (w' : World) : Prop := ∃ b, e = .returned (.bool b) ∧ Below w.heap.size w w'
set_option maxRecDepth 100000 in
set_option maxHeartbeats 2000000 in
theorem some_any (l : List Pd) (v : Value) (w : World) (hv : PdusV w v l) (hf : ∀ p ∈ l, FitP p) (hl : l.length ≤ 140737488355328) :
  Calls Tryz.prog 40 #[v] w (RetB w) := by
 obtain ⟨pl, cl, rfl⟩ := hv.form
 have HV := Lib.hid hv
 have Hf := Lib.hid hf
 have hlI : (l.length : Int) ≤ 140737488355328 := by omega
 clear hv hf
 go_enter Tryz.func40, Tryz.ntmps40
 go_wp2_with fail
 go_loopw [3, 8] (fun a i wr => ∃ j n : Nat, j ≤ l.length ∧ i = .int .i64 j ∧ a = .int .i64 n ∧ n ≤ j * 2560 ∧ Below w.heap.size w wr) (fun _ i _ => l.length - (intOf i).toNat)
 case atStart => exact ⟨0, 0, Nat.zero_le _, rfl, rfl, by simp, Below.refl _ _⟩
 case round =>
  obtain ⟨j, n, hj, rfl, rfl, hn, hb⟩ := hrel
  have Hb := Lib.hid hb
  have hnI : (n : Int) ≤ 360287970189639680 := by omega
  by_cases hlt : j < l.length
  ·obtain ⟨b, o, rfl, p1, c1, p2, c2, hP, e0, e1, e2, e3, e4, e5⟩ := (HV.out.later hb).cellsP hlt
   have hfit := Hf.out l[j] (List.getElem_mem hlt)
   generalize hp : l[j] = p at *
   have hb1 := (Below.refl wr.heap.size wr).alloc (Nat.le_refl _) (.cells #[.int .i64 p.h.op, .bool p.h.now, .int .i64 p.h.fl, .slice p1 p.h.vs.length c1, .slice p2 p.a.length c2, .string (S p.d)] 41)
   have hk1 := Blk.new wr #[.int .i64 p.h.op, .bool p.h.now, .int .i64 p.h.fl, .slice p1 p.h.vs.length c1, .slice p2 p.a.length c2, .string (S p.d)] 41
   generalize hW1 : wr.alloc (.cells #[.int .i64 p.h.op, .bool p.h.now, .int .i64 p.h.fl, .slice p1 p.h.vs.length c1, .slice p2 p.a.length c2, .string (S p.d)] 41) = W1 at hb1 hk1
   have L := large_any p _ _ W1 (hP.later hb1) hfit
   unfold pduV at L
   have L := Lib.hid L
   have Hb1 := Lib.hid (below_then hb hb1)
   have hpd : (p.d.length : Int) ≤ 140737488351232 := by have := hfit.d; omega
   have hHn := Lib.hid hn
   obtain ⟨k0, k1, k2, k3, k4, k5⟩ := hk1.six
   clear hb hP hfit hp hb1 hk1 Hb hn
   go_wp2_with fail
   refine L.out.mono ?_
   rintro e w2 ⟨bb, rfl, hlg, hb2⟩
   have Hb2 := Lib.hid (below_then Hb1.out hb2)
   clear k0 k1 k2 k3 k4 k5 hb2 L Hb1
   cases bb with
   | true =>
    clear hlg
    go_wp2_with fail
    go_ret
    exact ⟨_, rfl, Hb2.out⟩
   | false =>
    have Hlg := Lib.hid (hlg rfl).2
    clear hlg
    go_wp2_with fail
    go_roundw
    case rel => exact ⟨j + 1, n + (60 + p.d.length), by omega, by go_num, by go_num, by have := Hlg.out; have := hHn.out; omega, Hb2.out⟩
    case measure => simp [intOf]; omega
  ·obtain rfl : j = l.length := by omega
   clear hb hn
   go_wp2_with fail
   go_ret
   exact ⟨_, rfl, Hb.out⟩
end Go.Proofs.YtmkebjdmkkjloaaGreatDoor
namespace Go.Proofs.YtmkebjdmkkjloaaGreatDoor
open Go.RowKit
set_option linter.unusedVariables false
theorem wrap64_add (a b : Int) : wrap64 (wrap64 a + b) = wrap64 (a + b) := by unfold wrap64; omega
def RetCrowd (w : World) (c : Cf) (e : Ending) (w' : World) : Prop := ∃ b : Bool, e = .returned (.bool b) ∧ (b = false → wrap64 (crowdN c : Nat) ≤ 2500) ∧ Below w.heap.size w w'
theorem sum_take {α : Type} (f : α → Nat) (l : List α) (j : Nat) (h : j < l.length) : ((l.take (j + 1)).map f).sum = ((l.take j).map f).sum + f l[j] := by
 rw [List.take_add_one, List.getElem?_eq_getElem h, List.map_append, List.sum_append]; simp only [Option.toList_some, List.map_cons, List.map_nil, List.sum_cons, List.sum_nil, Nat.add_zero]
end Go.Proofs.YtmkebjdmkkjloaaGreatDoor
namespace Go.Proofs.YtmkebjdmkkjloaaGreatDoor
open Go.RowKit
set_option maxRecDepth 100000 in
theorem thickK_any (l : List Pr) (v : Value) (w : World) (hv : PrsV w v l) (hl47 : l.length ≤ 140737488355328) :
  Calls Tryz.prog 67 #[v] w (RetBool w) := by
 obtain ⟨p, c, rfl, _, hc⟩ := hv
 have Hc := Lib.hid hc
 clear hc
 go_enter Tryz.func67, Tryz.ntmps67
 go_wp2_with fail
 go_loopw [3, 10] (fun x i wr => ∃ (j : Nat) (n : Int), j ≤ l.length ∧ i = .int .i64 j ∧ x = .int .i64 n ∧ Below w.heap.size w wr) (fun _ i _ => l.length - (intOf i).toNat)
 case atStart => exact ⟨0, _, by omega, rfl, rfl, Below.refl _ _⟩
 case round =>
  obtain ⟨j, n, hj, rfl, rfl, hb⟩ := hrel
  have Hb := Lib.hid hb
  by_cases hlt : j < l.length
  ·obtain ⟨b, o, rfl, hcl⟩ := Hc.out (by omega)
   obtain ⟨h1, h2⟩ := hcl j hlt
   rw [← (bcell hb).1 b (o + j * 2) (block_lt_of_cell (w := w) (a := ⟨b, o + j * 2, none⟩) h1)] at h1
   rw [← (bcell hb).1 b (o + j * 2 + 1) (block_lt_of_cell (w := w) (a := ⟨b, o + j * 2 + 1, none⟩) h2)] at h2
   obtain ⟨⟨k, d⟩, ha⟩ : ∃ a, l[j] = a := ⟨_, rfl⟩
   rw [ha] at h1 h2
   simp only at h1 h2
   have Hb1 := Lib.hid (hb.alloc hb.size (.cells #[.string (S k), .string (S d)] 61))
   clear hcl hb ha
   go_wp2_with fail
   go_roundw
   case rel => exact ⟨j + 1, _, by omega, by go_num, rfl, Hb1.out⟩
   case measure => simp [intOf]; omega
  ·clear hb
   go_wp2_with fail
   go_ret
   exact ⟨_, rfl, Hb.out⟩
end Go.Proofs.YtmkebjdmkkjloaaGreatDoor
