/- Several texts in one: Slices of users: how they read, and those of the call's own. No function of the program is walked here.  | slices.IndexFunc of users by a name, as quaymasterlaw.ChapChecks asks it.  | chap.Find.  | A slice of users that came in, opened, with its reach.  | A draw (an id, a challenge) that came in, opened.  -/
import Derived.Test.YtoponmdfjbhnoaaGreatDoorGA
import Derived.Laws.AppendOwn
import Derived.Laws.OwnMore
import Derived.Deep.RegionHeld3
import Derived.Laws.StructEq
import Derived.BigRegion
import Derived.Deep.QuietTactic
import Derived.BigQuiet
import Derived.Deep.SlicePairs
import Derived.ChangeSame
import Derived.SizedLaws
import Derived.WideShapes
import Derived.Lib.SmallJoins
namespace Go.Proofs.YtoponmdfjbhnoaaGreatDoor
open Go.RowKit
set_option linter.unusedVariables false
/-- the slice value v reads as these users in W -/
def UsV (W : World) (v : Value) (l : List Us) : Prop := ∃ p c, v = .slice p l.length c ∧ l.length ≤ c ∧ (0 < l.length → ∃ b o, p = some ⟨b, o, none⟩ ∧ ∀ j (hj : j < l.length), W.cell? ⟨b, o + j * 2, none⟩ = some (.string (S l[j].nm)) ∧ W.cell? ⟨b, o + j * 2 + 1, none⟩ = some (.string (S l[j].sc)))
theorem UsV.later {W W' : World} {v : Value} {l : List Us} (h : UsV W v l) (hb : Below W.heap.size W W') : UsV W' v l := by
  obtain ⟨p, c, hv, hlc, hc⟩ := h
  refine ⟨p, c, hv, hlc, fun hl => ?_⟩
  obtain ⟨b, o, hp, hcell⟩ := hc hl
  refine ⟨b, o, hp, fun j hj => ?_⟩
  obtain ⟨h1, h2⟩ := hcell j hj
  rw [(bcell hb).1 b (o + j * 2) (block_lt_of_cell (w := W) (a := ⟨b, o + j * 2, none⟩) h1), (bcell hb).1 b (o + j * 2 + 1) (block_lt_of_cell (w := W) (a := ⟨b, o + j * 2 + 1, none⟩) h2)]
  exact ⟨h1, h2⟩
theorem UsV.drewN {W : World} {v : Value} {l : List Us} (h : UsV W v l) (n : Nat) : UsV (W.drewN n) v l := h
theorem UsV.nil (W : World) : UsV W (.slice none 0 0) [] := ⟨none, 0, rfl, Nat.le_refl _, fun h => absurd h (by decide)⟩
theorem UsV.form {W : World} {v : Value} {l : List Us} (h : UsV W v l) : ∃ p c, v = .slice p l.length c := by obtain ⟨p, c, h, _⟩ := h; exact ⟨p, c, h⟩
theorem UsV.cell {W : World} {p : Option Addr} {c : Nat} {l : List Us} (h : UsV W (.slice p l.length c) l) {j : Nat} (hj : j < l.length) : ∃ b o, p = some ⟨b, o, none⟩ ∧ W.cell? ⟨b, o + j * 2, none⟩ = some (.string (S l[j].nm)) ∧ W.cell? ⟨b, o + j * 2 + 1, none⟩ = some (.string (S l[j].sc)) := by
  obtain ⟨p0, c0, hv, _, hc⟩ := h
  obtain ⟨rfl, rfl⟩ : p = p0 ∧ c = c0 := by simpa using hv
  obtain ⟨b, o, rfl, hcell⟩ := hc (by omega)
  exact ⟨b, o, rfl, hcell j hj⟩
/-- all that they have is no more than memory has -/
def fitUs (l : List Us) : Prop := l.length ≤ 140737488355328 ∧ ∀ p ∈ l, p.nm.length ≤ 140737488355328 ∧ p.sc.length ≤ 140737488355328
/-- pairs that a call collects in a slice of its own -/
def usVs (l : List Us) : List Value := l.flatMap fun p => [.string (S p.nm), .string (S p.sc)]
theorem usVs_len : ∀ l : List Us, (usVs l).length = l.length * 2
  | [] => rfl
  | a :: l => by
    have := usVs_len l
    unfold usVs at *
    simp only [List.flatMap_cons, List.length_append, List.length_cons, List.length_nil] at *
    omega
theorem usVs_app (l m : List Us) : usVs (l ++ m) = usVs l ++ usVs m := by simp [usVs]
theorem usVs_one (l : List Us) : ∀ u ∈ usVs l, u.oneCell' = true := by
  intro u hu
  unfold usVs at hu
  obtain ⟨a, _, h⟩ := List.mem_flatMap.1 hu
  rcases List.mem_cons.1 h with rfl | h
  · rfl
  · rw [List.mem_singleton.1 h]; rfl
theorem usVs_get : ∀ (l : List Us) (j : Nat) (hj : j < l.length), (usVs l)[j * 2]? = some (.string (S l[j].nm)) ∧ (usVs l)[j * 2 + 1]? = some (.string (S l[j].sc))
  | [], j, hj => by simp at hj
  | a :: l, 0, _ => ⟨rfl, rfl⟩
  | a :: l, j + 1, hj => by
    obtain ⟨h1, h2⟩ := usVs_get l j (by simpa using hj)
    have e : usVs (a :: l) = .string (S a.nm) :: .string (S a.sc) :: usVs l := rfl
    rw [e, show (j + 1) * 2 = j * 2 + 1 + 1 by omega, List.getElem?_cons_succ, List.getElem?_cons_succ, h1, show j * 2 + 1 + 1 + 1 = (j * 2 + 1) + 1 + 1 by omega, List.getElem?_cons_succ, List.getElem?_cons_succ, h2]
    exact ⟨rfl, rfl⟩
def UsBuf (base : Nat) (W : World) (v : Value) (l : List Us) : Prop := W.ownsRow base 26 2 v l.length (usVs l)
theorem UsBuf.nil (base : Nat) (W : World) : UsBuf base W (.slice none 0 0) [] := World.ownsRow_nil W base 26 2
theorem UsBuf.alloc {base : Nat} {W : World} {v : Value} {l : List Us} (h : UsBuf base W v l) (o : Obj) : UsBuf base (W.alloc o) v l := World.ownsRow.alloc h o
theorem UsBuf.drew {base : Nat} {W : World} {v : Value} {l : List Us} (h : UsBuf base W v l) : UsBuf base W.drew v l := h
theorem UsBuf.drewN {base : Nat} {W : World} {v : Value} {l : List Us} (h : UsBuf base W v l) (n : Nat) : UsBuf base (W.drewN n) v l := h
theorem UsBuf.later {base : Nat} {W W' : World} {v : Value} {l : List Us} (h : UsBuf base W v l) (hb : Below W.heap.size W W') : UsBuf base W' v l := by
  refine World.ownsRow.kept (row := none) h ⟨hb.os, hb.tape, hb.output, hb.size, fun k hk _ => hb.block k hk⟩ ?_
  cases hv : v.ownBlock with
  | none => exact .inl rfl
  | some k => exact .inr (by simp)
theorem UsBuf.form {base : Nat} {W : World} {v : Value} {l : List Us} (h : UsBuf base W v l) : ∃ p cap, v = .slice p l.length cap := by
  rcases h.2 with ⟨rfl, h0⟩ | ⟨g, cap, cur, hv, _⟩
  · exact ⟨none, 0, by rw [h0]⟩
  · exact ⟨_, _, hv⟩
theorem UsBuf.us {base : Nat} {W : World} {v : Value} {l : List Us} (h : UsBuf base W v l) : UsV W v l := by
  rcases h.2 with ⟨rfl, h0⟩ | ⟨g, cap, cur, rfl, hbg, hg, hnc, hcm, hcs, htake⟩
  · obtain rfl : l = [] := List.eq_nil_of_length_eq_zero h0
    exact UsV.nil W
  · refine ⟨_, _, rfl, hnc, fun _ => ⟨g, 0, rfl, fun j hj => ?_⟩⟩
    obtain ⟨g1, g2⟩ := usVs_get l j hj
    have h1 := World.ownsRow.cells h (g := g) rfl (j * 2) _ g1
    have h2 := World.ownsRow.cells h (g := g) rfl (j * 2 + 1) _ g2
    have e1 : (⟨g, 0, none⟩ : Addr).add (j * 2) = ⟨g, 0 + j * 2, none⟩ := by simp only [Addr.add]; split <;> simp_all
    have e2 : (⟨g, 0, none⟩ : Addr).add (j * 2 + 1) = ⟨g, 0 + j * 2 + 1, none⟩ := by simp only [Addr.add]; split <;> simp_all <;> omega
    rw [e1] at h1
    rw [e2] at h2
    exact ⟨h1, h2⟩
theorem UsBuf.ne {base : Nat} {W : World} {v : Value} {l : List Us} (h : UsBuf base W v l) {b : Nat} (hb : W.heap.size ≤ b) : ∀ k, v.ownBlock = some k → b ≠ k := fun k hk => by
  have := (World.ownsRow.lt h k hk).2
  omega
theorem UsBuf.ge {base : Nat} {W : World} {v : Value} {l : List Us} (h : UsBuf base W v l) : ∀ k, v.ownBlock = some k → base ≤ k := fun k hk => (World.ownsRow.lt h k hk).1
theorem Blk.grownU {W W' : World} {b : Nat} {C : Array Value} {t : TypeId} {row : Option Nat} (h : Blk W b C t) (hg : W.grownBy W' row) (hne : ∀ k, row = some k → b ≠ k) : Blk W' b C t :=
  (hg.block b h.lt (fun e => hne b e.symm rfl)).trans h
theorem infoUs : ∃ i, Tryz.prog.info? 26 = some i ∧ i.zero = some (.agg #[.string (S []), .string (S [])]) ∧ i.size = 2 ∧ i.bytes = 32 := info_parts (show (Tryz.prog.info? 26).map (fun i => (i.zero, i.size, i.bytes)) = some (some (.agg #[.string (S []), .string (S [])]), 2, 32) by kernel_rfl)
/-- what an append of one user asks -/
theorem appU_sides (k v : List UInt8) (wu : World) (N n base : Nat) (hN : wu.heap.size = N) (hn : n ≤ 5000) (hb : base ≤ N) :
    Hid (∀ j u, ([.string (S k), .string (S v)] : List Value)[j]? = some u → (wu.alloc (.cells #[.string (S k), .string (S v)] 26)).cell? ((⟨N, 0, none⟩ : Addr).add j) = some u) ∧ Hid (∀ u ∈ ([.string (S k), .string (S v)] : List Value), u.oneCell' = true) ∧ Hid (n + 1 ≤ maxLen) ∧ Hid ((n + 1) * 32 ≤ 140737488355328) ∧ Hid (base ≤ (wu.alloc (.cells #[.string (S k), .string (S v)] 26)).heap.size) := by
  subst hN
  refine ⟨Lib.hid ?_, Lib.hid ?_, Lib.hid (by unfold maxLen; omega), Lib.hid (by omega), Lib.hid (by simp; omega)⟩
  · intro j u h
    have hb := (Blk.new wu #[.string (S k), .string (S v)] 26).cell j
    have e1 : (⟨wu.heap.size, 0, none⟩ : Addr).add j = ⟨wu.heap.size, j, none⟩ := by simp only [Addr.add]; split <;> simp_all
    rw [e1, hb]
    simpa using h
  · exact usVs_one [⟨k, v⟩]
/-- a literal of users in a new block -/
theorem us_new (w : World) (l : List Us) (t : TypeId) : UsV (w.alloc (.cells (usVs l).toArray t)) (.slice (some ⟨w.heap.size, 0, none⟩) l.length l.length) l :=
  ⟨_, _, rfl, Nat.le_refl _, fun _ => ⟨w.heap.size, 0, rfl, fun j hj => by
    obtain ⟨g1, g2⟩ := usVs_get l j hj
    have hb := Blk.new w (usVs l).toArray t
    rw [hb.cell, hb.cell]
    simp only [Nat.zero_add, List.getElem?_toArray]
    exact ⟨g1, g2⟩⟩⟩
end Go.Proofs.YtoponmdfjbhnoaaGreatDoor
namespace Go.Proofs.YtoponmdfjbhnoaaGreatDoor
open Go Go.RowKit
set_option linter.unusedVariables false
theorem us_same (w : World) (k d : List UInt8) : (binOp .neq 26 (.agg #[.string (S k), .string (S d)]) (.agg #[.string (S k), .string (S d)])).run Tryz.prog w = .ok (.bool false) w := by
  have hS : Tryz.prog.underlying 26 = some (.struct (Tryz.prog.fieldsOf 26)) := by kernel_rfl
  have hp : Tryz.prog.stoodInHeld 26 = false := by kernel_rfl
  rw [run_neq_struct, show (10000 : Nat) = 9999 + 1 from rfl, run_equalIn_agg w 9999 26 _ _ hS hp]
  simp only [Program.fieldsOf, Tryz.underlying26]
  go_simp
/-- the first user of a name, by its place -/
def IdxU (l : List Us) (name : List UInt8) (n : Int) : Prop := (n = -1 ∧ usFind l name = none) ∨ ∃ k, ∃ h : k < l.length, n = (k : Int) ∧ usFind l name = some l[k]
theorem nameIs_any (q : Us) (nm : List UInt8) (B : Nat) (w : World) (hB : w.cell? ⟨B, 0, none⟩ = some (.string (S nm))) :
    Calls Tryz.prog 7 #[.agg #[.string (S q.nm), .string (S q.sc)], .pointer (some ⟨B, 0, none⟩)] w fun e w' => e = .returned (.bool (decide (q.nm = nm))) ∧ Below w.heap.size w w' := by
  have hb0 := (Below.refl w.heap.size w).alloc (Nat.le_refl _) (.cells #[.string (S q.nm), .string (S q.sc)] 26)
  have hB0 := (hb0.cell (block_lt_of_cell hB)).trans hB
  have Hb0 := Lib.hid hb0
  clear hb0
  obtain ⟨x, s⟩ := q
  simp only at hB0 Hb0 ⊢
  by_cases h : x = nm
  · subst h
    have hS : (x == x) = true := by simp
    rw [decide_eq_true rfl]
    go_enter Tryz.func7, Tryz.ntmps7
    go_wp2_with fail
    go_ret
    exact ⟨by simp, Hb0.out⟩
  · have hS : (x == nm) = false := by rw [beq_eq_false_iff_ne]; exact h
    rw [decide_eq_false h]
    clear h
    go_enter Tryz.func7, Tryz.ntmps7
    go_wp2_with fail
    go_ret
    exact ⟨rfl, Hb0.out⟩
set_option maxRecDepth 100000 in
theorem indexFuncU_any (l : List Us) (v : Value) (name : List UInt8) (B : Nat) (w : World) (hv : UsV w v l) (hl : l.length ≤ 140737488355328) (hB : w.cell? ⟨B, 0, none⟩ = some (.string (S name))) :
    Calls Tryz.prog 6 #[v, .func (.func 7) #[] #[.pointer (some ⟨B, 0, none⟩)]] w fun e w' => ∃ n, e = .returned (.int .i64 n) ∧ IdxU l name n ∧ Below w.heap.size w w' := by
  obtain ⟨p, c, rfl, _, hc⟩ := hv
  have Hc := Lib.hid hc
  have HB := Lib.hid hB
  have hltB := block_lt_of_cell (w := w) (a := ⟨B, 0, none⟩) hB
  clear hc hB
  go_enter Tryz.func6, Tryz.ntmps6
  go_wp2_with fail
  go_loopw [8] (fun i wr => ∃ j : Nat, j ≤ l.length ∧ i = .int .i64 j ∧ Hid (usFind (l.drop j) name = usFind l name) ∧ Below w.heap.size w wr) (fun i _ => l.length - (intOf i).toNat)
  case atStart => exact ⟨0, by omega, rfl, Lib.hid rfl, Below.refl _ _⟩
  case round =>
    obtain ⟨j, hj, rfl, Hr, hb⟩ := hrel
    have Hb := Lib.hid hb
    by_cases hlt : j < l.length
    · obtain ⟨b, o, rfl, hcl⟩ := Hc.out (by omega)
      obtain ⟨q0, q1⟩ := hcl j hlt
      rw [← (bcell hb).1 b (o + j * 2) (block_lt_of_cell (w := w) (a := ⟨b, o + j * 2, none⟩) q0)] at q0
      rw [← (bcell hb).1 b (o + j * 2 + 1) (block_lt_of_cell (w := w) (a := ⟨b, o + j * 2 + 1, none⟩) q1)] at q1
      have hr := Hr.out
      rw [List.drop_eq_getElem_cons hlt] at hr
      simp only [usFind] at hr
      have C := nameIs_any l[j] name B wr (by rw [(bcell hb).1 _ 0 hltB]; exact HB.out)
      obtain ⟨y, hy⟩ : ∃ y, l[j] = y := ⟨_, rfl⟩
      rw [hy] at q0 q1 C hr
      have Hy := Lib.hid hy
      have hjI : (j : Int) < (l.length : Int) := by omega
      clear hb hcl hy Hr
      by_cases he : y.nm = name
      · rw [if_pos he] at hr
        rw [decide_eq_true he] at C
        have C := Lib.hid C
        have Hr := Lib.hid hr
        clear hr he
        go_wp2_with fail
        refine C.out.mono ?_
        rintro e w' ⟨rfl, hb'⟩
        have Hb' := Lib.hid (below_then Hb.out hb')
        clear hb'
        go_wp2_with fail
        go_ret
        exact ⟨_, rfl, .inr ⟨j, hlt, rfl, by rw [Hy.out]; exact Hr.out.symm⟩, Hb'.out⟩
      · rw [if_neg he] at hr
        rw [decide_eq_false he] at C
        have C := Lib.hid C
        have Hr := Lib.hid hr
        clear hr he
        go_wp2_with fail
        refine C.out.mono ?_
        rintro e w' ⟨rfl, hb'⟩
        have Hb' := Lib.hid (below_then Hb.out hb')
        clear hb'
        go_wp2_with fail
        go_roundw
        case rel => exact ⟨j + 1, by omega, by go_num, Hr, Hb'.out⟩
        case measure => simp [intOf]; omega
    · obtain rfl : j = l.length := by omega
      have Hr2 := Lib.hid Hr.out
      clear hb Hr
      go_wp2_with fail
      go_ret
      exact ⟨_, rfl, .inl ⟨rfl, by rw [← Hr2.out, List.drop_length]; rfl⟩, Hb.out⟩
end Go.Proofs.YtoponmdfjbhnoaaGreatDoor
namespace Go.Proofs.YtoponmdfjbhnoaaGreatDoor
open Go.RowKit
set_option linter.unusedVariables false
def usV (u : Us) : Value := .agg #[.string (S u.nm), .string (S u.sc)]
def usR (o : Option Us) : Value := match o with
  | some u => .tuple #[.agg #[.string (S u.nm), .string (S u.sc)], .bool true]
  | none => .tuple #[.agg #[.string (S []), .string (S [])], .bool false]
set_option maxRecDepth 100000 in
theorem findU_any (l : List Us) (name : List UInt8) (v : Value) (w : World) (hv : UsV w v l) (hl : l.length ≤ 140737488355328) :
    Calls Tryz.prog 8 #[v, .string (S name)] w fun e w' => e = .returned (usR (usFind l name)) ∧ Below w.heap.size w w' := by
  obtain ⟨p, c, rfl, _, hc⟩ := hv
  have Hc := Lib.hid hc
  have HB0 := Lib.hid ((Below.refl w.heap.size w).alloc (Nat.le_refl _) (.cells #[.string (S []), .string (S [])] 26))
  have HK0 := Lib.hid (Blk.new w #[.string (S []), .string (S [])] 26)
  clear hc
  go_enter Tryz.func8, Tryz.ntmps8
  go_wp2_with fail
  go_loopw [10] (fun i wr => ∃ j : Nat, j ≤ l.length ∧ i = .int .i64 j ∧ usFind (l.drop j) name = usFind l name ∧ Blk wr w.heap.size #[.string (S []), .string (S [])] 26 ∧ Below w.heap.size w wr) (fun i _ => l.length - (intOf i).toNat)
  case atStart => exact ⟨0, by omega, rfl, rfl, HK0.out, HB0.out⟩
  case round =>
    obtain ⟨j, hj, rfl, hr, hk, hb⟩ := hrel
    have Hb := Lib.hid hb
    by_cases hlt : j < l.length
    · obtain ⟨b, o, rfl, hcl⟩ := Hc.out (by omega)
      obtain ⟨h1, h2⟩ := hcl j hlt
      rw [← (bcell hb).1 b (o + j * 2) (block_lt_of_cell (w := w) (a := ⟨b, o + j * 2, none⟩) h1)] at h1
      rw [← (bcell hb).1 b (o + j * 2 + 1) (block_lt_of_cell (w := w) (a := ⟨b, o + j * 2 + 1, none⟩) h2)] at h2
      obtain ⟨a, ha⟩ : ∃ a, l[j] = a := ⟨_, rfl⟩
      rw [List.drop_eq_getElem_cons hlt] at hr
      rw [ha] at h1 h2 hr
      obtain ⟨k, d⟩ := a
      simp only at h1 h2
      have hk1 := hk.alloc (.cells #[.string (S k), .string (S d)] 26)
      obtain ⟨q0, q1⟩ := hk1.two
      have f0 := hk1.frozen 0
      have f1 := hk1.frozen 1
      have Hk1 := Lib.hid hk1
      have Hb1 := Lib.hid (hb.alloc hb.size (.cells #[.string (S k), .string (S d)] 26))
      have e0 : usFind (⟨k, d⟩ :: l.drop (j + 1)) name = if k = name then some ⟨k, d⟩ else usFind (l.drop (j + 1)) name := rfl
      rw [e0] at hr
      have Hr := Lib.hid hr
      clear hr hcl hb ha e0 hk hk1
      by_cases hk : k = name
      · rw [if_pos hk] at Hr
        subst hk
        go_wp2_with fail
        refine bodyPost_ret (v := .tuple #[.agg #[.string (S k), .string (S d)], .bool true]) (by simp [results, Tryz.results8, go_sem, q0, q1]) rfl ?_
        rw [← Hr.out]
        exact ⟨rfl, (Hb1.out.setCell (Nat.le_refl _) _).setCell (Nat.le_refl _) _⟩
      · rw [if_neg hk] at Hr
        have hS : (k == name) = false := by
          rw [beq_eq_false_iff_ne]
          exact hk
        go_wp2_with fail
        go_roundw
        case rel => exact ⟨j + 1, by omega, by go_num, Hr.out, Hk1.out, Hb1.out⟩
        case measure => simp [intOf]; omega
    · obtain rfl : j = l.length := by omega
      have Hr := Lib.hid hr
      obtain ⟨q0, q1⟩ := hk.two
      have f0 := hk.frozen 0
      have f1 := hk.frozen 1
      clear hr hb hk
      go_wp2_with fail
      refine bodyPost_ret (v := .tuple #[.agg #[.string (S []), .string (S [])], .bool false]) (by simp [results, Tryz.results8, go_sem, q0, q1]) rfl ?_
      rw [← Hr.out, List.drop_length]
      exact ⟨rfl, (Hb.out.setCell (Nat.le_refl _) _).setCell (Nat.le_refl _) _⟩
end Go.Proofs.YtoponmdfjbhnoaaGreatDoor
namespace Go.Proofs.YtoponmdfjbhnoaaGreatDoor
open Go.RowKit Go.ChangeShapes Go.WideShapes Go.Deep
theorem weights_mem_allU {H : Type} {P : Program} {e : TypeId} {d : DataW H} {n : Nat} : ∀ {l : List (DataW H)}, d ∈ l → n ∈ d.weights P e → n ∈ DataW.weightsAll P e l
  | x :: l, hd, hn => by
    simp only [DataW.weightsAll, List.mem_append]
    rcases List.mem_cons.1 hd with rfl | hd
    · exact .inl hn
    · exact .inr (weights_mem_allU hd hn)
theorem list_ofU {α : Type} (P : Nat → α → Prop) : ∀ (n : Nat), (∀ i, i < n → ∃ a, P i a) → ∃ l : List α, l.length = n ∧ ∀ j (hj : j < l.length), P j l[j]
  | 0, _ => ⟨[], rfl, fun j hj => absurd hj (by simp)⟩
  | n + 1, h => by
    obtain ⟨l, hl, hP⟩ := list_ofU P n (fun i hi => h i (by omega))
    obtain ⟨a, ha⟩ := h n (by omega)
    refine ⟨l ++ [a], by simp [hl], fun j hj => ?_⟩
    by_cases hjn : j < l.length
    · rw [List.getElem_append_left hjn]; exact hP j hjn
    · have : j = n := by simp at hj; omega
      subst this
      rw [List.getElem_append_right (by omega)]
      simpa [hl] using ha
theorem us_spot {w : World} {a : Addr} {v : Value} (h : w.cell? a = some v) : a = ⟨a.block, a.off, none⟩ := by
  obtain ⟨b, o, sp⟩ := a
  unfold World.cell? at h
  cases sp with
  | none => rfl
  | some x => simp at h; split at h <;> simp at h
theorem us_add {w : World} {a : Addr} {v : Value} (h : w.cell? a = some v) (j : Nat) : a.add j = ⟨a.block, a.off + j, none⟩ := by
  unfold Addr.add
  split
  · rename_i h0; rw [h0]; exact us_spot h
  · rfl
/-- all that they have is no more than memory has -/
def WideU (l : List Us) : Prop := fitUs l ∧ l.length * 32 ≤ 140737488351232
set_option maxRecDepth 100000 in
theorem open_users {H : Type} {enc : TypeId × Value → H} {W : World} {base : Nat} {ts : List TypeId} {ds : List (DataW H)} {v : Value} {d : DataW H} {p : List MemPlace} (hsz : (DataW.weightsEach Tryz.prog ts ds).all (· ≤ reachBytes) = true) {j : Nat} (hts : ts[j]? = some 22) (hds : ds[j]? = some d)
    (hval : Value.okWide Tryz.prog W .any base 22 v) (h : DataW.Trod enc Tryz.prog W 0 (fun _ => true) true 22 v d p) : ∃ l : List Us, UsV W v l ∧ WideU l := by
  obtain ⟨a0, len, cap, rfl⟩ := Go.WideShapes.okWide_slice Tryz.underlying22 hval
  obtain ⟨fuel, hf⟩ := h
  have hf' := hf
  rw [show (Value.slice a0 len cap).cells.toList = [.slice a0 len cap] from rfl] at hf'
  have hrb : reachBytes = 140737488351232 := rfl
  rcases open_slice_pairs Tryz.underlying22 Tryz.underlying26 (by kernel_rfl) rfl rfl (by kernel_rfl) (by kernel_rfl) hf' with ⟨hcs, _⟩ | ⟨a, len', cap', m, n, V0, V1, D0, D1, P0, P1, hcs, _, hl, hm, hmm, hx, hi⟩
  · simp at hcs
    obtain ⟨rfl, rfl, rfl⟩ := hcs
    exact ⟨[], UsV.nil W, ⟨by decide, fun a h => absurd h List.not_mem_nil⟩, by decide⟩
  · simp at hcs
    obtain ⟨rfl, rfl, rfl⟩ := hcs
    simp only [Prod.mk.injEq] at hx
    obtain ⟨rfl, _⟩ := hx
    have hs := sized_slice hsz hts hds Tryz.underlying22
    rw [show Tryz.prog.bytesOf 26 = 32 by kernel_rfl] at hs
    have hlm : len ≤ m := by rw [hmm]; split <;> omega
    have hwe : ∀ i, i < len → ∀ s : List UInt8, (D0 i = .lit (.string s) ∨ D1 i = .lit (.string s)) → s.length ≤ 140737488351232 := fun i hil s hd => by
      have hmem : s.length ∈ DataW.weights Tryz.prog 22 (.slice ((List.range len).map fun i => .agg [D0 i, D1 i]) ((List.range (m - len)).map fun j => .agg [D0 (len + j), D1 (len + j)])) := by
        have hw : s.length ∈ DataW.weights Tryz.prog 26 (.agg [D0 i, D1 i]) := by
          rcases hd with hd | hd <;> (rw [hd]; simp [DataW.weights, Tryz.underlying26, DataW.weightsEach])
        have := weights_mem_allU (P := Tryz.prog) (e := 26) (l := (List.range len).map fun i => .agg [D0 i, D1 i]) (List.mem_map.2 ⟨i, List.mem_range.2 hil, rfl⟩) hw
        simp only [DataW.weights, Tryz.underlying22, List.mem_cons, List.mem_append]
        exact .inr (.inl this)
      have := List.all_eq_true.1 hsz _ (DataW.weights_mem_each hts hds _ hmem)
      have h2 : s.length ≤ reachBytes := by simpa using this
      omega
    obtain ⟨l, hll, hP⟩ := list_ofU (fun i (x : Us) => W.cell? (a.add (i * 2)) = some (.string (S x.nm)) ∧ W.cell? (a.add (i * 2 + 1)) = some (.string (S x.sc)) ∧ x.nm.length ≤ 140737488351232 ∧ x.sc.length ≤ 140737488351232) len (fun i hil => by
      obtain ⟨c0, c1, t0, t1⟩ := hi i (by omega)
      obtain ⟨b0, e0, y0, _⟩ := DataW.trod_string Tryz.underlying9 t0
      obtain ⟨s0, rfl⟩ := S_of b0
      obtain ⟨b1, e1, y1, _⟩ := DataW.trod_string Tryz.underlying9 t1
      obtain ⟨s1, rfl⟩ := S_of b1
      refine ⟨⟨s0, s1⟩, by rw [c0]; simpa using e0, by rw [c1]; simpa using e1, ?_, ?_⟩
      · have hd0 : D0 i = .lit (.string s0) := by
          have := congrArg Prod.fst y0
          simpa [S] using this
        exact hwe i hil s0 (.inl hd0)
      · have hd1 : D1 i = .lit (.string s1) := by
          have := congrArg Prod.fst y1
          simpa [S] using this
        exact hwe i hil s1 (.inr hd1))
    have hle : (((List.range len).map fun i => (DataW.agg [D0 i, D1 i] : DataW H))).length = len := by simp
    rw [hle] at hs
    refine ⟨l, ⟨some a, cap, by rw [hll], by omega, fun h0 => ?_⟩, ⟨by omega, fun x hx => ?_⟩, by omega⟩
    · have h1 := (hP 0 h0).1
      rw [Nat.zero_mul, show a.add 0 = a from rfl] at h1
      refine ⟨a.block, a.off, by rw [← us_spot h1], fun i hi => ?_⟩
      obtain ⟨g0, g1, _⟩ := hP i hi
      rw [us_add h1] at g0 g1
      exact ⟨g0, g1⟩
    · obtain ⟨i, hi, rfl⟩ := List.getElem_of_mem hx
      have := (hP i hi).2.2
      exact ⟨by omega, by omega⟩
end Go.Proofs.YtoponmdfjbhnoaaGreatDoor
namespace Go.Proofs.YtoponmdfjbhnoaaGreatDoor
open Go.RowKit Go.ChangeShapes Go.WideShapes Go.Deep
structure Dw where
  id : Int
  ch : List UInt8
set_option maxRecDepth 100000 in
theorem open_draw {H : Type} {enc : TypeId × Value → H} {W : World} {base : Nat} {ts : List TypeId} {ds : List (DataW H)} {v : Value} {d : DataW H} {p : List MemPlace} (hsz : (DataW.weightsEach Tryz.prog ts ds).all (· ≤ reachBytes) = true) {j : Nat} (hts : ts[j]? = some 24) (hds : ds[j]? = some d)
    (hval : Value.okWide Tryz.prog W .any base 24 v) (h : DataW.Trod enc Tryz.prog W 0 (fun _ => true) true 24 v d p) : ∃ x : Dw, v = .agg #[.int .i64 x.id, .string (S x.ch)] ∧ ((Lit.int .i64 x.id).wf = true ∧ x.ch.length ≤ 140737488351232) := by
  obtain ⟨v0, v1, y0, y1, n, rfl, rfl, rfl, h0, h1⟩ := Joins.open_agg2 Tryz.underlying24 (by kernel_rfl) (by kernel_rfl) hval h
  have hwm : ∀ (i : Nat) (t : TypeId) (y : DataW H), ([3, 9] : List TypeId)[i]? = some t → ([y0.1, y1.1] : List (DataW H))[i]? = some y → ∀ k ∈ DataW.weights Tryz.prog t y, k ≤ reachBytes := fun i t y ht hy k hk => by
    have h1 := DataW.weights_mem_each ht hy k hk
    have h2 : k ∈ DataW.weights Tryz.prog 24 (.agg [y0.1, y1.1]) := by
      simp only [DataW.weights, Tryz.underlying24]
      exact h1
    have := List.all_eq_true.1 hsz _ (DataW.weights_mem_each hts hds _ h2)
    simpa using this
  obtain ⟨a, e0, _, wa⟩ := DataW.trod_int Tryz.underlying3 h0
  obtain ⟨b1, e1, z1, _⟩ := DataW.trod_string Tryz.underlying9 h1
  obtain ⟨s1, rfl⟩ := S_of b1
  obtain rfl : v0 = .int .i64 a := by simpa using e0
  obtain rfl : v1 = .string (S s1) := by simpa using e1
  have d1 : y1.1 = .lit (.string s1) := by
    have := congrArg Prod.fst z1
    simpa [S] using this
  have l1 := hwm 1 _ _ rfl rfl s1.length (by rw [d1]; simp [DataW.weights])
  have hrb : reachBytes = 140737488351232 := rfl
  exact ⟨⟨a, s1⟩, rfl, wa, by simp only; omega⟩
end Go.Proofs.YtoponmdfjbhnoaaGreatDoor
