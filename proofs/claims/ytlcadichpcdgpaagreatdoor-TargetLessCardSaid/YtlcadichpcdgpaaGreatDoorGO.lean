/- Several texts in one: Slices of users: how they read, and those of the call's own. No function of the program is walked here.  | Slices of portals: how they read. What a target is told, as a value. No function of the program is walked here.  | What a target is told, in a block of its own (a parameter that is boxed). No function of the program is walked here.  | quaymasterkeep.conf: what a target is told that is right.  | A slice of pairs that came in, opened, with its reach.  | How much values hold, summed. No program stands in it.  | A slice of pairs in a cell of what came in, opened, with how much it is.  | A slice of users that came in, opened, with its reach.  | A slice of users in a cell of what came in, opened.  | A slice of portals in a cell of what came in, opened.  | A slice of texts in a cell of what came in, opened, with their reach.  | What a target is told, that came in, opened.  | slices.Contains of texts.  -/
import Derived.Test.YtlcadichpcdgpaaGreatDoorGA
import Derived.Test.YtlcadichpcdgpaaGreatDoorGB
import Derived.Laws.AppendOwn
import Derived.Laws.OwnMore
import Derived.Deep.RegionHeld3
import Derived.Test.YtlcadichpcdgpaaGreatDoorGE
import Derived.Deep.SlicePairs
import Derived.ChangeSame
import Derived.SizedLaws
import Derived.WideShapes
import Derived.Test.YtlcadichpcdgpaaGreatDoorRows
import Derived.Deep.Slices
import Derived.Deep.Strs
import Derived.SliceStrings
import Derived.Lib.SmallJoins
import Derived.Test.YtlcadichpcdgpaaGreatDoorShCon
namespace Go.Proofs.YtlcadichpcdgpaaGreatDoor
open Go.RowKit
set_option linter.unusedVariables false
/-- the slice value v reads as these users in W -/
def UsV (W : World) (v : Value) (l : List Us) : Prop := ∃ p c, v = .slice p l.length c ∧ l.length ≤ c ∧ (0 < l.length → ∃ b o, p = some ⟨b, o, none⟩ ∧ ∀ j (hj : j < l.length), W.cell? ⟨b, o + j * 2, none⟩ = some (.string (S l[j].nm)) ∧ W.cell? ⟨b, o + j * 2 + 1, none⟩ = some (.string (S l[j].sc)))
theorem UsV.later {W W' : World} {v : Value} {l : List Us} (h : UsV W v l) (hb : Below W.heap.size W W') : UsV W' v l := by
  obtain ⟨p, c, hv, hlc, hc⟩ := h
  refine ⟨p, c, hv, hlc, fun hl => ?_⟩
  obtain ⟨b, o, hp, hcell⟩ := hc hl
  refine ⟨b, o, hp, fun j hj => ?_⟩
  obtain ⟨h1, h2⟩ := hcell j hj
  rw [(bcell hb).1 b (o + j * 2) (block_lt_of_cell (w := W) (a := ⟨b, o + j * 2, none⟩) h1), (bcell hb).1 b (o + j * 2 + 1) (block_lt_of_cell (w := W) (a := ⟨b, o + j * 2 + 1, none⟩) h2)]
  exact ⟨h1, h2⟩
theorem UsV.drewN {W : World} {v : Value} {l : List Us} (h : UsV W v l) (n : Nat) : UsV (W.drewN n) v l := h
theorem UsV.nil (W : World) : UsV W (.slice none 0 0) [] := ⟨none, 0, rfl, Nat.le_refl _, fun h => absurd h (by decide)⟩
theorem UsV.form {W : World} {v : Value} {l : List Us} (h : UsV W v l) : ∃ p c, v = .slice p l.length c := by obtain ⟨p, c, h, _⟩ := h; exact ⟨p, c, h⟩
theorem UsV.cell {W : World} {p : Option Addr} {c : Nat} {l : List Us} (h : UsV W (.slice p l.length c) l) {j : Nat} (hj : j < l.length) : ∃ b o, p = some ⟨b, o, none⟩ ∧ W.cell? ⟨b, o + j * 2, none⟩ = some (.string (S l[j].nm)) ∧ W.cell? ⟨b, o + j * 2 + 1, none⟩ = some (.string (S l[j].sc)) := by
  obtain ⟨p0, c0, hv, _, hc⟩ := h
  obtain ⟨rfl, rfl⟩ : p = p0 ∧ c = c0 := by simpa using hv
  obtain ⟨b, o, rfl, hcell⟩ := hc (by omega)
  exact ⟨b, o, rfl, hcell j hj⟩
/-- all that they have is no more than memory has -/
def fitUs (l : List Us) : Prop := l.length ≤ 140737488355328 ∧ ∀ p ∈ l, p.nm.length ≤ 140737488355328 ∧ p.sc.length ≤ 140737488355328
/-- pairs that a call collects in a slice of its own -/
def usVs (l : List Us) : List Value := l.flatMap fun p => [.string (S p.nm), .string (S p.sc)]
theorem usVs_len : ∀ l : List Us, (usVs l).length = l.length * 2
  | [] => rfl
  | a :: l => by
    have := usVs_len l
    unfold usVs at *
    simp only [List.flatMap_cons, List.length_append, List.length_cons, List.length_nil] at *
    omega
theorem usVs_app (l m : List Us) : usVs (l ++ m) = usVs l ++ usVs m := by simp [usVs]
theorem usVs_one (l : List Us) : ∀ u ∈ usVs l, u.oneCell' = true := by
  intro u hu
  unfold usVs at hu
  obtain ⟨a, _, h⟩ := List.mem_flatMap.1 hu
  rcases List.mem_cons.1 h with rfl | h
  · rfl
  · rw [List.mem_singleton.1 h]; rfl
theorem usVs_get : ∀ (l : List Us) (j : Nat) (hj : j < l.length), (usVs l)[j * 2]? = some (.string (S l[j].nm)) ∧ (usVs l)[j * 2 + 1]? = some (.string (S l[j].sc))
  | [], j, hj => by simp at hj
  | a :: l, 0, _ => ⟨rfl, rfl⟩
  | a :: l, j + 1, hj => by
    obtain ⟨h1, h2⟩ := usVs_get l j (by simpa using hj)
    have e : usVs (a :: l) = .string (S a.nm) :: .string (S a.sc) :: usVs l := rfl
    rw [e, show (j + 1) * 2 = j * 2 + 1 + 1 by omega, List.getElem?_cons_succ, List.getElem?_cons_succ, h1, show j * 2 + 1 + 1 + 1 = (j * 2 + 1) + 1 + 1 by omega, List.getElem?_cons_succ, List.getElem?_cons_succ, h2]
    exact ⟨rfl, rfl⟩
def UsBuf (base : Nat) (W : World) (v : Value) (l : List Us) : Prop := W.ownsRow base 26 2 v l.length (usVs l)
theorem UsBuf.nil (base : Nat) (W : World) : UsBuf base W (.slice none 0 0) [] := World.ownsRow_nil W base 26 2
theorem UsBuf.alloc {base : Nat} {W : World} {v : Value} {l : List Us} (h : UsBuf base W v l) (o : Obj) : UsBuf base (W.alloc o) v l := World.ownsRow.alloc h o
theorem UsBuf.drew {base : Nat} {W : World} {v : Value} {l : List Us} (h : UsBuf base W v l) : UsBuf base W.drew v l := h
theorem UsBuf.drewN {base : Nat} {W : World} {v : Value} {l : List Us} (h : UsBuf base W v l) (n : Nat) : UsBuf base (W.drewN n) v l := h
theorem UsBuf.later {base : Nat} {W W' : World} {v : Value} {l : List Us} (h : UsBuf base W v l) (hb : Below W.heap.size W W') : UsBuf base W' v l := by
  refine World.ownsRow.kept (row := none) h ⟨hb.os, hb.tape, hb.output, hb.size, fun k hk _ => hb.block k hk⟩ ?_
  cases hv : v.ownBlock with
  | none => exact .inl rfl
  | some k => exact .inr (by simp)
theorem UsBuf.form {base : Nat} {W : World} {v : Value} {l : List Us} (h : UsBuf base W v l) : ∃ p cap, v = .slice p l.length cap := by
  rcases h.2 with ⟨rfl, h0⟩ | ⟨g, cap, cur, hv, _⟩
  · exact ⟨none, 0, by rw [h0]⟩
  · exact ⟨_, _, hv⟩
theorem UsBuf.us {base : Nat} {W : World} {v : Value} {l : List Us} (h : UsBuf base W v l) : UsV W v l := by
  rcases h.2 with ⟨rfl, h0⟩ | ⟨g, cap, cur, rfl, hbg, hg, hnc, hcm, hcs, htake⟩
  · obtain rfl : l = [] := List.eq_nil_of_length_eq_zero h0
    exact UsV.nil W
  · refine ⟨_, _, rfl, hnc, fun _ => ⟨g, 0, rfl, fun j hj => ?_⟩⟩
    obtain ⟨g1, g2⟩ := usVs_get l j hj
    have h1 := World.ownsRow.cells h (g := g) rfl (j * 2) _ g1
    have h2 := World.ownsRow.cells h (g := g) rfl (j * 2 + 1) _ g2
    have e1 : (⟨g, 0, none⟩ : Addr).add (j * 2) = ⟨g, 0 + j * 2, none⟩ := by simp only [Addr.add]; split <;> simp_all
    have e2 : (⟨g, 0, none⟩ : Addr).add (j * 2 + 1) = ⟨g, 0 + j * 2 + 1, none⟩ := by simp only [Addr.add]; split <;> simp_all <;> omega
    rw [e1] at h1
    rw [e2] at h2
    exact ⟨h1, h2⟩
theorem UsBuf.ne {base : Nat} {W : World} {v : Value} {l : List Us} (h : UsBuf base W v l) {b : Nat} (hb : W.heap.size ≤ b) : ∀ k, v.ownBlock = some k → b ≠ k := fun k hk => by
  have := (World.ownsRow.lt h k hk).2
  omega
theorem UsBuf.ge {base : Nat} {W : World} {v : Value} {l : List Us} (h : UsBuf base W v l) : ∀ k, v.ownBlock = some k → base ≤ k := fun k hk => (World.ownsRow.lt h k hk).1
theorem Blk.grownU {W W' : World} {b : Nat} {C : Array Value} {t : TypeId} {row : Option Nat} (h : Blk W b C t) (hg : W.grownBy W' row) (hne : ∀ k, row = some k → b ≠ k) : Blk W' b C t :=
  (hg.block b h.lt (fun e => hne b e.symm rfl)).trans h
theorem infoUs : ∃ i, Tryz.prog.info? 26 = some i ∧ i.zero = some (.agg #[.string (S []), .string (S [])]) ∧ i.size = 2 ∧ i.bytes = 32 := info_parts (show (Tryz.prog.info? 26).map (fun i => (i.zero, i.size, i.bytes)) = some (some (.agg #[.string (S []), .string (S [])]), 2, 32) by kernel_rfl)
/-- what an append of one user asks -/
theorem appU_sides (k v : List UInt8) (wu : World) (N n base : Nat) (hN : wu.heap.size = N) (hn : n ≤ 5000) (hb : base ≤ N) :
    Hid (∀ j u, ([.string (S k), .string (S v)] : List Value)[j]? = some u → (wu.alloc (.cells #[.string (S k), .string (S v)] 26)).cell? ((⟨N, 0, none⟩ : Addr).add j) = some u) ∧ Hid (∀ u ∈ ([.string (S k), .string (S v)] : List Value), u.oneCell' = true) ∧ Hid (n + 1 ≤ maxLen) ∧ Hid ((n + 1) * 32 ≤ 140737488355328) ∧ Hid (base ≤ (wu.alloc (.cells #[.string (S k), .string (S v)] 26)).heap.size) := by
  subst hN
  refine ⟨Lib.hid ?_, Lib.hid ?_, Lib.hid (by unfold maxLen; omega), Lib.hid (by omega), Lib.hid (by simp; omega)⟩
  · intro j u h
    have hb := (Blk.new wu #[.string (S k), .string (S v)] 26).cell j
    have e1 : (⟨wu.heap.size, 0, none⟩ : Addr).add j = ⟨wu.heap.size, j, none⟩ := by simp only [Addr.add]; split <;> simp_all
    rw [e1, hb]
    simpa using h
  · exact usVs_one [⟨k, v⟩]
/-- a literal of users in a new block -/
theorem us_new (w : World) (l : List Us) (t : TypeId) : UsV (w.alloc (.cells (usVs l).toArray t)) (.slice (some ⟨w.heap.size, 0, none⟩) l.length l.length) l :=
  ⟨_, _, rfl, Nat.le_refl _, fun _ => ⟨w.heap.size, 0, rfl, fun j hj => by
    obtain ⟨g1, g2⟩ := usVs_get l j hj
    have hb := Blk.new w (usVs l).toArray t
    rw [hb.cell, hb.cell]
    simp only [Nat.zero_add, List.getElem?_toArray]
    exact ⟨g1, g2⟩⟩⟩
end Go.Proofs.YtlcadichpcdgpaaGreatDoor
namespace Go.Proofs.YtlcadichpcdgpaaGreatDoor
open Go.RowKit
set_option linter.unusedVariables false
/-- the slice value v reads as these portals in W -/
def PosV (W : World) (v : Value) (l : List Po) : Prop := ∃ p c, v = .slice p l.length c ∧ l.length ≤ c ∧ (0 < l.length → ∃ b o, p = some ⟨b, o, none⟩ ∧ ∀ j (hj : j < l.length), W.cell? ⟨b, o + j * 2, none⟩ = some (.string (S l[j].ad)) ∧ W.cell? ⟨b, o + j * 2 + 1, none⟩ = some (.int .i64 l[j].gr))
theorem PosV.later {W W' : World} {v : Value} {l : List Po} (h : PosV W v l) (hb : Below W.heap.size W W') : PosV W' v l := by
  obtain ⟨p, c, hv, hlc, hc⟩ := h
  refine ⟨p, c, hv, hlc, fun hl => ?_⟩
  obtain ⟨b, o, hp, hcell⟩ := hc hl
  refine ⟨b, o, hp, fun j hj => ?_⟩
  obtain ⟨h1, h2⟩ := hcell j hj
  rw [(bcell hb).1 b (o + j * 2) (block_lt_of_cell (w := W) (a := ⟨b, o + j * 2, none⟩) h1), (bcell hb).1 b (o + j * 2 + 1) (block_lt_of_cell (w := W) (a := ⟨b, o + j * 2 + 1, none⟩) h2)]
  exact ⟨h1, h2⟩
theorem PosV.drewN {W : World} {v : Value} {l : List Po} (h : PosV W v l) (n : Nat) : PosV (W.drewN n) v l := h
theorem PosV.nil (W : World) : PosV W (.slice none 0 0) [] := ⟨none, 0, rfl, Nat.le_refl _, fun h => absurd h (by decide)⟩
theorem PosV.form {W : World} {v : Value} {l : List Po} (h : PosV W v l) : ∃ p c, v = .slice p l.length c := by obtain ⟨p, c, h, _⟩ := h; exact ⟨p, c, h⟩
theorem PosV.cell {W : World} {p : Option Addr} {c : Nat} {l : List Po} (h : PosV W (.slice p l.length c) l) {j : Nat} (hj : j < l.length) : ∃ b o, p = some ⟨b, o, none⟩ ∧ W.cell? ⟨b, o + j * 2, none⟩ = some (.string (S l[j].ad)) ∧ W.cell? ⟨b, o + j * 2 + 1, none⟩ = some (.int .i64 l[j].gr) := by
  obtain ⟨p0, c0, hv, _, hc⟩ := h
  obtain ⟨rfl, rfl⟩ : p = p0 ∧ c = c0 := by simpa using hv
  obtain ⟨b, o, rfl, hcell⟩ := hc (by omega)
  exact ⟨b, o, rfl, hcell j hj⟩
def fitPo (l : List Po) : Prop := l.length * 24 ≤ 140737488351232 ∧ ∀ p ∈ l, p.ad.length ≤ 140737488351232 ∧ -9223372036854775808 ≤ p.gr ∧ p.gr ≤ 9223372036854775807
/-- what a target is told, as a value: targets, portals, users, whom it says to be, how much may come, what it has -/
def confV (c : Cf) (vt vp vu vo : Value) : Value := .agg #[vt, vp, vu, .string (S c.sn), .string (S c.ss), .int .i64 c.lim, vo]
structure ConfAt (W : World) (c : Cf) (vt vp vu vo : Value) : Prop where
  ts : StrV W vt c.ts
  ps : PosV W vp c.ps
  us : UsV W vu c.us
  own : PrsV W vo c.own
  tc : ∀ p n k, vt = .slice p n k → n ≤ k
theorem ConfAt.later {W W' : World} {c : Cf} {vt vp vu vo : Value} (h : ConfAt W c vt vp vu vo) (hb : Below W.heap.size W W') : ConfAt W' c vt vp vu vo := ⟨h.ts.later hb, h.ps.later hb, h.us.later hb, h.own.later hb, h.tc⟩
theorem ConfAt.drewN {W : World} {c : Cf} {vt vp vu vo : Value} (h : ConfAt W c vt vp vu vo) (n : Nat) : ConfAt (W.drewN n) c vt vp vu vo := ⟨h.ts, h.ps.drewN n, h.us.drewN n, h.own.drewN n, h.tc⟩
theorem StrV.take {W : World} {p : Option Addr} {k : Nat} {l : List (List UInt8)} (h : StrV W (.slice p l.length k) l) {j : Nat} (hj : j ≤ l.length) : StrV W (.slice p j k) (l.take j) := by
  obtain ⟨p0, k0, hv, hc⟩ := h
  obtain ⟨rfl, rfl⟩ : p = p0 ∧ k = k0 := by simpa using hv
  have hl : (l.take j).length = j := by rw [List.length_take]; omega
  refine ⟨p, k, by rw [hl], fun h0 => ?_⟩
  rw [hl] at h0
  obtain ⟨b, o, rfl, hcell⟩ := hc (by omega)
  refine ⟨b, o, rfl, fun i hi => ?_⟩
  rw [List.getElem_take]
  exact hcell i (by rw [hl] at hi; omega)
end Go.Proofs.YtlcadichpcdgpaaGreatDoor
namespace Go.Proofs.YtlcadichpcdgpaaGreatDoor
open Go.RowKit
set_option linter.unusedVariables false
/-- its seven cells -/
def confC (c : Cf) (vt vp vu vo : Value) : Array Value := #[vt, vp, vu, .string (S c.sn), .string (S c.ss), .int .i64 c.lim, vo]
theorem confV_C (c : Cf) (vt vp vu vo : Value) : confV c vt vp vu vo = .agg (confC c vt vp vu vo) := rfl
end Go.Proofs.YtlcadichpcdgpaaGreatDoor
namespace Go.Proofs.YtlcadichpcdgpaaGreatDoor
open Go.RowKit
set_option linter.unusedVariables false
def iqnA : List UInt8 := [105, 113, 110, 46, 97]
def iqnB : List UInt8 := [105, 113, 110, 46, 98]
def po1 : Po := ⟨[49, 48, 46, 48, 46, 48, 46, 49, 58, 51, 50, 54, 48], 1⟩
def po2 : Po := ⟨[91, 58, 58, 49, 93, 58, 51, 50, 54, 48], 2⟩
def conf0 : Cf := ⟨[iqnA, iqnB], [po1, po2], [], [], [], 8192, []⟩
theorem conf0_ok : CfOk conf0 := tgtR_ok.1 (by decide +kernel)
theorem blk_seven {W : World} {b : Nat} {a0 a1 a2 a3 a4 a5 a6 b0 b1 b2 b3 b4 b5 b6 : Value} {t : TypeId} {B : Nat} {w : World} (h : Blk W b #[a0, a1, a2, a3, a4, a5, a6] t) (hB : B ≤ b) (hb : Below B w W) :
    Below B w (((((((W.setCell ⟨b, 0, none⟩ b0).setCell ⟨b, 1, none⟩ b1).setCell ⟨b, 2, none⟩ b2).setCell ⟨b, 3, none⟩ b3).setCell ⟨b, 4, none⟩ b4).setCell ⟨b, 5, none⟩ b5).setCell ⟨b, 6, none⟩ b6) :=
  ((((((hb.setCell hB _).setCell hB _).setCell hB _).setCell hB _).setCell hB _).setCell hB _).setCell hB _
/-- what lies in another block is as it was -/
theorem cell_seven {W : World} {b k o : Nat} {b0 b1 b2 b3 b4 b5 b6 : Value} (hne : k ≠ b) :
    (((((((W.setCell ⟨b, 0, none⟩ b0).setCell ⟨b, 1, none⟩ b1).setCell ⟨b, 2, none⟩ b2).setCell ⟨b, 3, none⟩ b3).setCell ⟨b, 4, none⟩ b4).setCell ⟨b, 5, none⟩ b5).setCell ⟨b, 6, none⟩ b6).cell? ⟨k, o, none⟩ = W.cell? ⟨k, o, none⟩ := by
  have h : (((((((W.setCell ⟨b, 0, none⟩ b0).setCell ⟨b, 1, none⟩ b1).setCell ⟨b, 2, none⟩ b2).setCell ⟨b, 3, none⟩ b3).setCell ⟨b, 4, none⟩ b4).setCell ⟨b, 5, none⟩ b5).setCell ⟨b, 6, none⟩ b6).heap[k]? = W.heap[k]? := by
    rw [setCell_heap_other hne, setCell_heap_other hne, setCell_heap_other hne, setCell_heap_other hne, setCell_heap_other hne, setCell_heap_other hne, setCell_heap_other hne]
  unfold World.cell?
  simp only [h]
set_option maxRecDepth 100000 in
theorem conf_any (w : World) : Calls Tryz.prog 24 #[] w fun e w' => ∃ vt vp, e = .returned (confV conf0 vt vp (.slice none 0 0) (.slice none 0 0)) ∧ ConfAt w' conf0 vt vp (.slice none 0 0) (.slice none 0 0) ∧ Below w.heap.size w w' := by
  have hK0 := Blk.new w #[.slice none 0 0, .slice none 0 0, .slice none 0 0, .string (S []), .string (S []), .int .i64 0, .slice none 0 0] 29
  have hb0 := (Below.refl w.heap.size w).alloc (Nat.le_refl _) (.cells #[.slice none 0 0, .slice none 0 0, .slice none 0 0, .string (S []), .string (S []), .int .i64 0, .slice none 0 0] 29)
  obtain ⟨W1, hW1⟩ : ∃ W1, w.alloc (.cells #[.slice none 0 0, .slice none 0 0, .slice none 0 0, .string (S []), .string (S []), .int .i64 0, .slice none 0 0] 29) = W1 := ⟨_, rfl⟩
  rw [hW1] at hK0 hb0
  have hT := Blk.new W1 #[.string (S iqnA), .string (S iqnB)] 9
  have hK1 := hK0.alloc (.cells #[.string (S iqnA), .string (S iqnB)] 9)
  have hb1 := hb0.alloc hb0.size (.cells #[.string (S iqnA), .string (S iqnB)] 9)
  obtain ⟨W2, hW2⟩ : ∃ W2, W1.alloc (.cells #[.string (S [105, 113, 110, 46, 97]), .string (S [105, 113, 110, 46, 98])] 9) = W2 := ⟨_, rfl⟩
  rw [show W1.alloc (.cells #[.string (S iqnA), .string (S iqnB)] 9) = W2 from hW2] at hT hK1 hb1
  have hP := Blk.new W2 #[.string (S po1.ad), .int .i64 1, .string (S po2.ad), .int .i64 2] 50
  have hT2 := hT.alloc (.cells #[.string (S po1.ad), .int .i64 1, .string (S po2.ad), .int .i64 2] 50)
  have hK2 := hK1.alloc (.cells #[.string (S po1.ad), .int .i64 1, .string (S po2.ad), .int .i64 2] 50)
  have hb2 := hb1.alloc hb1.size (.cells #[.string (S po1.ad), .int .i64 1, .string (S po2.ad), .int .i64 2] 50)
  obtain ⟨W3, hW3⟩ : ∃ W3, W2.alloc (.cells #[.string (S [49, 48, 46, 48, 46, 48, 46, 49, 58, 51, 50, 54, 48]), .int .i64 1, .string (S [91, 58, 58, 49, 93, 58, 51, 50, 54, 48]), .int .i64 2] 50) = W3 := ⟨_, rfl⟩
  rw [show W2.alloc (.cells #[.string (S po1.ad), .int .i64 1, .string (S po2.ad), .int .i64 2] 50) = W3 from hW3] at hP hT2 hK2 hb2
  have hn1 : W1.heap.size ≠ w.heap.size := by have := congrArg (fun x => x.heap.size) hW1; simp at this; omega
  have hn2 : W2.heap.size ≠ w.heap.size := by have := congrArg (fun x => x.heap.size) hW1; have := congrArg (fun x => x.heap.size) hW2; simp at *; omega
  obtain ⟨q0, q1, q2, q3, q4, q5, q6⟩ := hK2.seven
  have f0 := hK2.frozen 0
  have f1 := hK2.frozen 1
  have f2 := hK2.frozen 2
  have f3 := hK2.frozen 3
  have f4 := hK2.frozen 4
  have f5 := hK2.frozen 5
  have f6 := hK2.frozen 6
  have HB2 := Lib.hid hb2
  have HT2 := Lib.hid hT2
  have HP := Lib.hid hP
  have HK2 := Lib.hid hK2
  have Hn1 := Lib.hid hn1
  have Hn2 := Lib.hid hn2
  clear hK0 hb0 hT hK1 hb1 hP hT2 hK2 hb2 hn1 hn2
  go_enter Tryz.func24, Tryz.ntmps24
  go_wp2_with fail
  refine bodyPost_ret (v := confV conf0 (.slice (some ⟨W1.heap.size, 0, none⟩) 2 2) (.slice (some ⟨W2.heap.size, 0, none⟩) 2 2) (.slice none 0 0) (.slice none 0 0)) (by simp [results, Tryz.results24, go_sem, confV, conf0, q0, q1, q2, q3, q4, q5, q6]) rfl ⟨_, _, rfl, ⟨⟨_, _, rfl, fun _ => ⟨W1.heap.size, 0, rfl, fun j hj => ?_⟩⟩, ⟨_, _, rfl, Nat.le_refl _, fun _ => ⟨W2.heap.size, 0, rfl, fun j hj => ?_⟩⟩, UsV.nil _, PrsV.nil _, fun _ _ _ h => by cases h; exact Nat.le_refl _⟩, blk_seven HK2.out (Nat.le_refl _) HB2.out⟩
  · rw [cell_seven Hn1.out, HT2.out.cell]
    match j, hj with
    | 0, _ => rfl
    | 1, _ => rfl
  · rw [cell_seven Hn2.out, cell_seven Hn2.out, HP.out.cell, HP.out.cell]
    match j, hj with
    | 0, _ => exact ⟨rfl, rfl⟩
    | 1, _ => exact ⟨rfl, rfl⟩
end Go.Proofs.YtlcadichpcdgpaaGreatDoor
namespace Go.Proofs.YtlcadichpcdgpaaGreatDoor
open Go.RowKit Go.ChangeShapes Go.WideShapes Go.Deep
theorem weights_mem_allP {H : Type} {P : Program} {e : TypeId} {d : DataW H} {n : Nat} : ∀ {l : List (DataW H)}, d ∈ l → n ∈ d.weights P e → n ∈ DataW.weightsAll P e l
  | x :: l, hd, hn => by
    simp only [DataW.weightsAll, List.mem_append]
    rcases List.mem_cons.1 hd with rfl | hd
    · exact .inl hn
    · exact .inr (weights_mem_allP hd hn)
theorem list_ofP {α : Type} (P : Nat → α → Prop) : ∀ (n : Nat), (∀ i, i < n → ∃ a, P i a) → ∃ l : List α, l.length = n ∧ ∀ j (hj : j < l.length), P j l[j]
  | 0, _ => ⟨[], rfl, fun j hj => absurd hj (by simp)⟩
  | n + 1, h => by
    obtain ⟨l, hl, hP⟩ := list_ofP P n (fun i hi => h i (by omega))
    obtain ⟨a, ha⟩ := h n (by omega)
    refine ⟨l ++ [a], by simp [hl], fun j hj => ?_⟩
    by_cases hjn : j < l.length
    · rw [List.getElem_append_left hjn]; exact hP j hjn
    · have : j = n := by simp at hj; omega
      subst this
      rw [List.getElem_append_right (by omega)]
      simpa [hl] using ha
theorem prs_spot {w : World} {a : Addr} {v : Value} (h : w.cell? a = some v) : a = ⟨a.block, a.off, none⟩ := by
  obtain ⟨b, o, sp⟩ := a
  unfold World.cell? at h
  cases sp with
  | none => rfl
  | some x => simp at h; split at h <;> simp at h
theorem prs_add {w : World} {a : Addr} {v : Value} (h : w.cell? a = some v) (j : Nat) : a.add j = ⟨a.block, a.off + j, none⟩ := by
  unfold Addr.add
  split
  · rename_i h0; rw [h0]; exact prs_spot h
  · rfl
/-- all that they have is no more than memory has -/
def WideP (l : List Pr) : Prop := fitPs l ∧ l.length * 32 ≤ 140737488351232
set_option maxRecDepth 100000 in
theorem open_prs {H : Type} {enc : TypeId × Value → H} {W : World} {base : Nat} {ts : List TypeId} {ds : List (DataW H)} {v : Value} {d : DataW H} {p : List MemPlace} (hsz : (DataW.weightsEach Tryz.prog ts ds).all (· ≤ reachBytes) = true) {j : Nat} (hts : ts[j]? = some 27) (hds : ds[j]? = some d)
    (hval : Value.okWide Tryz.prog W .any base 27 v) (h : DataW.Trod enc Tryz.prog W 0 (fun _ => true) true 27 v d p) : ∃ l : List Pr, PrsV W v l ∧ WideP l := by
  obtain ⟨a0, len, cap, rfl⟩ := Go.WideShapes.okWide_slice Tryz.underlying27 hval
  obtain ⟨fuel, hf⟩ := h
  have hf' := hf
  rw [show (Value.slice a0 len cap).cells.toList = [.slice a0 len cap] from rfl] at hf'
  have hrb : reachBytes = 140737488351232 := rfl
  rcases open_slice_pairs Tryz.underlying27 Tryz.underlying40 (by kernel_rfl) rfl rfl (by kernel_rfl) (by kernel_rfl) hf' with ⟨hcs, _⟩ | ⟨a, len', cap', m, n, V0, V1, D0, D1, P0, P1, hcs, _, hl, hm, hmm, hx, hi⟩
  · simp at hcs
    obtain ⟨rfl, rfl, rfl⟩ := hcs
    exact ⟨[], PrsV.nil W, ⟨by decide, fun a h => absurd h List.not_mem_nil⟩, by decide⟩
  · simp at hcs
    obtain ⟨rfl, rfl, rfl⟩ := hcs
    simp only [Prod.mk.injEq] at hx
    obtain ⟨rfl, _⟩ := hx
    have hs := sized_slice hsz hts hds Tryz.underlying27
    rw [show Tryz.prog.bytesOf 40 = 32 by kernel_rfl] at hs
    have hlm : len ≤ m := by rw [hmm]; split <;> omega
    have hwe : ∀ i, i < len → ∀ s : List UInt8, (D0 i = .lit (.string s) ∨ D1 i = .lit (.string s)) → s.length ≤ 140737488351232 := fun i hil s hd => by
      have hmem : s.length ∈ DataW.weights Tryz.prog 27 (.slice ((List.range len).map fun i => .agg [D0 i, D1 i]) ((List.range (m - len)).map fun j => .agg [D0 (len + j), D1 (len + j)])) := by
        have hw : s.length ∈ DataW.weights Tryz.prog 40 (.agg [D0 i, D1 i]) := by
          rcases hd with hd | hd <;> (rw [hd]; simp [DataW.weights, Tryz.underlying40, DataW.weightsEach])
        have := weights_mem_allP (P := Tryz.prog) (e := 40) (l := (List.range len).map fun i => .agg [D0 i, D1 i]) (List.mem_map.2 ⟨i, List.mem_range.2 hil, rfl⟩) hw
        simp only [DataW.weights, Tryz.underlying27, List.mem_cons, List.mem_append]
        exact .inr (.inl this)
      have := List.all_eq_true.1 hsz _ (DataW.weights_mem_each hts hds _ hmem)
      have h2 : s.length ≤ reachBytes := by simpa using this
      omega
    obtain ⟨l, hll, hP⟩ := list_ofP (fun i (x : Pr) => W.cell? (a.add (i * 2)) = some (.string (S x.k)) ∧ W.cell? (a.add (i * 2 + 1)) = some (.string (S x.v)) ∧ x.k.length ≤ 140737488351232 ∧ x.v.length ≤ 140737488351232) len (fun i hil => by
      obtain ⟨c0, c1, t0, t1⟩ := hi i (by omega)
      obtain ⟨b0, e0, y0, _⟩ := DataW.trod_string Tryz.underlying9 t0
      obtain ⟨s0, rfl⟩ := S_of b0
      obtain ⟨b1, e1, y1, _⟩ := DataW.trod_string Tryz.underlying9 t1
      obtain ⟨s1, rfl⟩ := S_of b1
      refine ⟨⟨s0, s1⟩, by rw [c0]; simpa using e0, by rw [c1]; simpa using e1, ?_, ?_⟩
      · have hd0 : D0 i = .lit (.string s0) := by
          have := congrArg Prod.fst y0
          simpa [S] using this
        exact hwe i hil s0 (.inl hd0)
      · have hd1 : D1 i = .lit (.string s1) := by
          have := congrArg Prod.fst y1
          simpa [S] using this
        exact hwe i hil s1 (.inr hd1))
    have hle : (((List.range len).map fun i => (DataW.agg [D0 i, D1 i] : DataW H))).length = len := by simp
    rw [hle] at hs
    refine ⟨l, ⟨some a, cap, by rw [hll], by omega, fun h0 => ?_⟩, ⟨by omega, fun x hx => ?_⟩, by omega⟩
    · have h1 := (hP 0 h0).1
      rw [Nat.zero_mul, show a.add 0 = a from rfl] at h1
      refine ⟨a.block, a.off, by rw [← prs_spot h1], fun i hi => ?_⟩
      obtain ⟨g0, g1, _⟩ := hP i hi
      rw [prs_add h1] at g0 g1
      exact ⟨g0, g1⟩
    · obtain ⟨i, hi, rfl⟩ := List.getElem_of_mem hx
      have := (hP i hi).2.2
      exact ⟨by omega, by omega⟩
end Go.Proofs.YtlcadichpcdgpaaGreatDoor
namespace Go.Proofs.YtlcadichpcdgpaaGreatDoor
open Go.RowKit
theorem bulk_map {H α : Type} (f : α → Nat) : ∀ (l : List α) (D : Nat → DataW H) (k : Nat), (∀ i (hi : i < l.length), f l[i] ≤ Rows.uptoBulk (D (k + i))) → (l.map f).sum ≤ Rows.uptoBulkAll ((List.range l.length).map fun i => D (k + i))
  | [], _, _, _ => Nat.zero_le _
  | a :: l, D, k, h => by
    have ih := bulk_map f l D (k + 1) (fun i hi => by
      have := h (i + 1) (by simpa using hi)
      rw [show k + 1 + i = k + (i + 1) by omega]
      exact this)
    have h0 := h 0 (by simp)
    rw [List.length_cons, List.range_succ_eq_map]
    simp only [List.map_cons, List.map_map, List.sum_cons, Rows.uptoBulkAll]
    have e2 : (List.map ((fun i => D (k + i)) ∘ Nat.succ) (List.range l.length)) = (List.range l.length).map fun i => D (k + 1 + i) := by
      apply List.map_congr_left
      intro i _
      simp only [Function.comp]
      congr 1
      omega
    rw [e2]
    have h1 : f a ≤ Rows.uptoBulk (D (k + 0)) := h0
    omega
theorem bulk_slice {H α : Type} {f : α → Nat} {l : List α} {D : Nat → DataW H} {n : Nat} {r : List (DataW H)} (hl : l.length = n) (h : ∀ i (hi : i < l.length), f l[i] ≤ Rows.uptoBulk (D i)) : (l.map f).sum ≤ Rows.uptoBulk (.slice ((List.range n).map D) r) := by
  have h1 := bulk_map f l D 0 (fun i hi => by rw [Nat.zero_add]; exact h i hi)
  simp only [Nat.zero_add] at h1
  rw [hl] at h1
  simp only [Rows.uptoBulk]
  have h2 : (l.map f).sum ≤ Rows.uptoBulkAll (List.map D (List.range n)) := h1
  omega
end Go.Proofs.YtlcadichpcdgpaaGreatDoor
namespace Go.Proofs.YtlcadichpcdgpaaGreatDoor
open Go.RowKit Go.ChangeShapes Go.WideShapes Go.Deep
set_option linter.unusedVariables false
def sumPr (l : List Pr) : Nat := (l.map fun x => 1 + x.k.length + x.v.length).sum
set_option maxRecDepth 100000 in
theorem open_prs_bulk {H : Type} {enc : TypeId × Value → H} {W : World} {c : Value} {d : DataW H} {p : List MemPlace} {fuel : Nat} (hwd : ∀ k ∈ DataW.weights Tryz.prog 27 d, k ≤ reachBytes) (hf' : DataW.trod enc Tryz.prog W 0 (fun _ => true) true fuel 27 [c] = some (d, p)) : ∃ l : List Pr, PrsV W c l ∧ WideP l ∧ sumPr l ≤ Rows.uptoBulk d := by
  have hrb : reachBytes = 140737488351232 := rfl
  rcases open_slice_pairs Tryz.underlying27 Tryz.underlying40 (by kernel_rfl) rfl rfl (by kernel_rfl) (by kernel_rfl) hf' with ⟨hcs, _⟩ | ⟨a, len, cap, m, n, V0, V1, D0, D1, P0, P1, hcs, _, hl, hm, hmm, hx, hi⟩
  · obtain rfl : c = .slice none 0 0 := by simpa using hcs
    exact ⟨[], PrsV.nil W, ⟨⟨by decide, fun a h => absurd h List.not_mem_nil⟩, by decide⟩, Nat.zero_le _⟩
  · obtain rfl : c = .slice (some a) len cap := by simpa using hcs
    simp only [Prod.mk.injEq] at hx
    obtain ⟨rfl, _⟩ := hx
    have hlm : len ≤ m := by rw [hmm]; split <;> omega
    have hs : (len + (m - len)) * 32 ≤ reachBytes := by
      refine hwd _ ?_
      simp [DataW.weights, Tryz.underlying27, show Tryz.prog.bytesOf 40 = 32 by kernel_rfl]
    have hwe : ∀ i, i < len → ∀ s : List UInt8, (D0 i = .lit (.string s) ∨ D1 i = .lit (.string s)) → s.length ≤ 140737488351232 := fun i hil s hd => by
      have hmem : s.length ∈ DataW.weights Tryz.prog 27 (.slice ((List.range len).map fun i => .agg [D0 i, D1 i]) ((List.range (m - len)).map fun j => .agg [D0 (len + j), D1 (len + j)])) := by
        have hw : s.length ∈ DataW.weights Tryz.prog 40 (.agg [D0 i, D1 i]) := by
          rcases hd with hd | hd <;> (rw [hd]; simp [DataW.weights, Tryz.underlying40, DataW.weightsEach])
        have := weights_mem_allP (P := Tryz.prog) (e := 40) (l := (List.range len).map fun i => .agg [D0 i, D1 i]) (List.mem_map.2 ⟨i, List.mem_range.2 hil, rfl⟩) hw
        simp only [DataW.weights, Tryz.underlying27, List.mem_cons, List.mem_append]
        exact .inr (.inl this)
      have := hwd _ hmem
      omega
    obtain ⟨l, hll, hP⟩ := list_ofP (fun i (x : Pr) => (D0 i = .lit (.string x.k) ∧ D1 i = .lit (.string x.v)) ∧ W.cell? (a.add (i * 2)) = some (.string (S x.k)) ∧ W.cell? (a.add (i * 2 + 1)) = some (.string (S x.v)) ∧ x.k.length ≤ 140737488351232 ∧ x.v.length ≤ 140737488351232) len (fun i hil => by
      obtain ⟨c0, c1, t0, t1⟩ := hi i (by omega)
      obtain ⟨b0, e0, y0, _⟩ := DataW.trod_string Tryz.underlying9 t0
      obtain ⟨s0, rfl⟩ := S_of b0
      obtain ⟨b1, e1, y1, _⟩ := DataW.trod_string Tryz.underlying9 t1
      obtain ⟨s1, rfl⟩ := S_of b1
      have hd0 : D0 i = .lit (.string s0) := by
        have := congrArg Prod.fst y0
        simpa [S] using this
      have hd1 : D1 i = .lit (.string s1) := by
        have := congrArg Prod.fst y1
        simpa [S] using this
      exact ⟨⟨s0, s1⟩, ⟨hd0, hd1⟩, by rw [c0]; simpa using e0, by rw [c1]; simpa using e1, hwe i hil s0 (.inl hd0), hwe i hil s1 (.inr hd1)⟩)
    refine ⟨l, ⟨some a, cap, by rw [hll], by omega, fun h0 => ?_⟩, ⟨⟨by omega, fun x hx => ?_⟩, by omega⟩, bulk_slice hll (fun i hi => by
      rw [(hP i hi).1.1, (hP i hi).1.2]; simp only [Rows.uptoBulk, Rows.uptoBulkAll]; omega)⟩
    · have h1 := (hP 0 h0).2.1
      rw [Nat.zero_mul, show a.add 0 = a from rfl] at h1
      refine ⟨a.block, a.off, by rw [← prs_spot h1], fun i hi => ?_⟩
      obtain ⟨_, g0, g1, _⟩ := hP i hi
      rw [prs_add h1] at g0 g1
      exact ⟨g0, g1⟩
    · obtain ⟨i, hi, rfl⟩ := List.getElem_of_mem hx
      have := (hP i hi).2.2.2
      exact ⟨by omega, by omega⟩
end Go.Proofs.YtlcadichpcdgpaaGreatDoor
namespace Go.Proofs.YtlcadichpcdgpaaGreatDoor
open Go.RowKit Go.ChangeShapes Go.WideShapes Go.Deep
theorem weights_mem_allU {H : Type} {P : Program} {e : TypeId} {d : DataW H} {n : Nat} : ∀ {l : List (DataW H)}, d ∈ l → n ∈ d.weights P e → n ∈ DataW.weightsAll P e l
  | x :: l, hd, hn => by
    simp only [DataW.weightsAll, List.mem_append]
    rcases List.mem_cons.1 hd with rfl | hd
    · exact .inl hn
    · exact .inr (weights_mem_allU hd hn)
theorem list_ofU {α : Type} (P : Nat → α → Prop) : ∀ (n : Nat), (∀ i, i < n → ∃ a, P i a) → ∃ l : List α, l.length = n ∧ ∀ j (hj : j < l.length), P j l[j]
  | 0, _ => ⟨[], rfl, fun j hj => absurd hj (by simp)⟩
  | n + 1, h => by
    obtain ⟨l, hl, hP⟩ := list_ofU P n (fun i hi => h i (by omega))
    obtain ⟨a, ha⟩ := h n (by omega)
    refine ⟨l ++ [a], by simp [hl], fun j hj => ?_⟩
    by_cases hjn : j < l.length
    · rw [List.getElem_append_left hjn]; exact hP j hjn
    · have : j = n := by simp at hj; omega
      subst this
      rw [List.getElem_append_right (by omega)]
      simpa [hl] using ha
theorem us_spot {w : World} {a : Addr} {v : Value} (h : w.cell? a = some v) : a = ⟨a.block, a.off, none⟩ := by
  obtain ⟨b, o, sp⟩ := a
  unfold World.cell? at h
  cases sp with
  | none => rfl
  | some x => simp at h; split at h <;> simp at h
theorem us_add {w : World} {a : Addr} {v : Value} (h : w.cell? a = some v) (j : Nat) : a.add j = ⟨a.block, a.off + j, none⟩ := by
  unfold Addr.add
  split
  · rename_i h0; rw [h0]; exact us_spot h
  · rfl
/-- all that they have is no more than memory has -/
def WideU (l : List Us) : Prop := fitUs l ∧ l.length * 32 ≤ 140737488351232
set_option maxRecDepth 100000 in
theorem open_users {H : Type} {enc : TypeId × Value → H} {W : World} {base : Nat} {ts : List TypeId} {ds : List (DataW H)} {v : Value} {d : DataW H} {p : List MemPlace} (hsz : (DataW.weightsEach Tryz.prog ts ds).all (· ≤ reachBytes) = true) {j : Nat} (hts : ts[j]? = some 24) (hds : ds[j]? = some d)
    (hval : Value.okWide Tryz.prog W .any base 24 v) (h : DataW.Trod enc Tryz.prog W 0 (fun _ => true) true 24 v d p) : ∃ l : List Us, UsV W v l ∧ WideU l := by
  obtain ⟨a0, len, cap, rfl⟩ := Go.WideShapes.okWide_slice Tryz.underlying24 hval
  obtain ⟨fuel, hf⟩ := h
  have hf' := hf
  rw [show (Value.slice a0 len cap).cells.toList = [.slice a0 len cap] from rfl] at hf'
  have hrb : reachBytes = 140737488351232 := rfl
  rcases open_slice_pairs Tryz.underlying24 Tryz.underlying26 (by kernel_rfl) rfl rfl (by kernel_rfl) (by kernel_rfl) hf' with ⟨hcs, _⟩ | ⟨a, len', cap', m, n, V0, V1, D0, D1, P0, P1, hcs, _, hl, hm, hmm, hx, hi⟩
  · simp at hcs
    obtain ⟨rfl, rfl, rfl⟩ := hcs
    exact ⟨[], UsV.nil W, ⟨by decide, fun a h => absurd h List.not_mem_nil⟩, by decide⟩
  · simp at hcs
    obtain ⟨rfl, rfl, rfl⟩ := hcs
    simp only [Prod.mk.injEq] at hx
    obtain ⟨rfl, _⟩ := hx
    have hs := sized_slice hsz hts hds Tryz.underlying24
    rw [show Tryz.prog.bytesOf 26 = 32 by kernel_rfl] at hs
    have hlm : len ≤ m := by rw [hmm]; split <;> omega
    have hwe : ∀ i, i < len → ∀ s : List UInt8, (D0 i = .lit (.string s) ∨ D1 i = .lit (.string s)) → s.length ≤ 140737488351232 := fun i hil s hd => by
      have hmem : s.length ∈ DataW.weights Tryz.prog 24 (.slice ((List.range len).map fun i => .agg [D0 i, D1 i]) ((List.range (m - len)).map fun j => .agg [D0 (len + j), D1 (len + j)])) := by
        have hw : s.length ∈ DataW.weights Tryz.prog 26 (.agg [D0 i, D1 i]) := by
          rcases hd with hd | hd <;> (rw [hd]; simp [DataW.weights, Tryz.underlying26, DataW.weightsEach])
        have := weights_mem_allU (P := Tryz.prog) (e := 26) (l := (List.range len).map fun i => .agg [D0 i, D1 i]) (List.mem_map.2 ⟨i, List.mem_range.2 hil, rfl⟩) hw
        simp only [DataW.weights, Tryz.underlying24, List.mem_cons, List.mem_append]
        exact .inr (.inl this)
      have := List.all_eq_true.1 hsz _ (DataW.weights_mem_each hts hds _ hmem)
      have h2 : s.length ≤ reachBytes := by simpa using this
      omega
    obtain ⟨l, hll, hP⟩ := list_ofU (fun i (x : Us) => W.cell? (a.add (i * 2)) = some (.string (S x.nm)) ∧ W.cell? (a.add (i * 2 + 1)) = some (.string (S x.sc)) ∧ x.nm.length ≤ 140737488351232 ∧ x.sc.length ≤ 140737488351232) len (fun i hil => by
      obtain ⟨c0, c1, t0, t1⟩ := hi i (by omega)
      obtain ⟨b0, e0, y0, _⟩ := DataW.trod_string Tryz.underlying9 t0
      obtain ⟨s0, rfl⟩ := S_of b0
      obtain ⟨b1, e1, y1, _⟩ := DataW.trod_string Tryz.underlying9 t1
      obtain ⟨s1, rfl⟩ := S_of b1
      refine ⟨⟨s0, s1⟩, by rw [c0]; simpa using e0, by rw [c1]; simpa using e1, ?_, ?_⟩
      · have hd0 : D0 i = .lit (.string s0) := by
          have := congrArg Prod.fst y0
          simpa [S] using this
        exact hwe i hil s0 (.inl hd0)
      · have hd1 : D1 i = .lit (.string s1) := by
          have := congrArg Prod.fst y1
          simpa [S] using this
        exact hwe i hil s1 (.inr hd1))
    have hle : (((List.range len).map fun i => (DataW.agg [D0 i, D1 i] : DataW H))).length = len := by simp
    rw [hle] at hs
    refine ⟨l, ⟨some a, cap, by rw [hll], by omega, fun h0 => ?_⟩, ⟨by omega, fun x hx => ?_⟩, by omega⟩
    · have h1 := (hP 0 h0).1
      rw [Nat.zero_mul, show a.add 0 = a from rfl] at h1
      refine ⟨a.block, a.off, by rw [← us_spot h1], fun i hi => ?_⟩
      obtain ⟨g0, g1, _⟩ := hP i hi
      rw [us_add h1] at g0 g1
      exact ⟨g0, g1⟩
    · obtain ⟨i, hi, rfl⟩ := List.getElem_of_mem hx
      have := (hP i hi).2.2
      exact ⟨by omega, by omega⟩
end Go.Proofs.YtlcadichpcdgpaaGreatDoor
namespace Go.Proofs.YtlcadichpcdgpaaGreatDoor
open Go.RowKit Go.ChangeShapes Go.WideShapes Go.Deep
set_option linter.unusedVariables false
def sumUs (l : List Us) : Nat := (l.map fun x => 1 + x.nm.length + x.sc.length).sum
set_option maxRecDepth 100000 in
theorem open_users_cell {H : Type} {enc : TypeId × Value → H} {W : World} {c : Value} {d : DataW H} {p : List MemPlace} {fuel : Nat} (hwd : ∀ k ∈ DataW.weights Tryz.prog 24 d, k ≤ reachBytes) (hf' : DataW.trod enc Tryz.prog W 0 (fun _ => true) true fuel 24 [c] = some (d, p)) : ∃ l : List Us, UsV W c l ∧ WideU l ∧ sumUs l ≤ Rows.uptoBulk d := by
  have hrb : reachBytes = 140737488351232 := rfl
  rcases open_slice_pairs Tryz.underlying24 Tryz.underlying26 (by kernel_rfl) rfl rfl (by kernel_rfl) (by kernel_rfl) hf' with ⟨hcs, _⟩ | ⟨a, len, cap, m, n, V0, V1, D0, D1, P0, P1, hcs, _, hl, hm, hmm, hx, hi⟩
  · obtain rfl : c = .slice none 0 0 := by simpa using hcs
    exact ⟨[], UsV.nil W, ⟨⟨by decide, fun a h => absurd h List.not_mem_nil⟩, by decide⟩, Nat.zero_le _⟩
  · obtain rfl : c = .slice (some a) len cap := by simpa using hcs
    simp only [Prod.mk.injEq] at hx
    obtain ⟨rfl, _⟩ := hx
    have hlm : len ≤ m := by rw [hmm]; split <;> omega
    have hs : (len + (m - len)) * 32 ≤ reachBytes := by
      refine hwd _ ?_
      simp [DataW.weights, Tryz.underlying24, show Tryz.prog.bytesOf 26 = 32 by kernel_rfl]
    have hwe : ∀ i, i < len → ∀ s : List UInt8, (D0 i = .lit (.string s) ∨ D1 i = .lit (.string s)) → s.length ≤ 140737488351232 := fun i hil s hd => by
      have hmem : s.length ∈ DataW.weights Tryz.prog 24 (.slice ((List.range len).map fun i => .agg [D0 i, D1 i]) ((List.range (m - len)).map fun j => .agg [D0 (len + j), D1 (len + j)])) := by
        have hw : s.length ∈ DataW.weights Tryz.prog 26 (.agg [D0 i, D1 i]) := by
          rcases hd with hd | hd <;> (rw [hd]; simp [DataW.weights, Tryz.underlying26, DataW.weightsEach])
        have := weights_mem_allU (P := Tryz.prog) (e := 26) (l := (List.range len).map fun i => .agg [D0 i, D1 i]) (List.mem_map.2 ⟨i, List.mem_range.2 hil, rfl⟩) hw
        simp only [DataW.weights, Tryz.underlying24, List.mem_cons, List.mem_append]
        exact .inr (.inl this)
      have := hwd _ hmem
      omega
    obtain ⟨l, hll, hP⟩ := list_ofU (fun i (x : Us) => (D0 i = .lit (.string x.nm) ∧ D1 i = .lit (.string x.sc)) ∧ W.cell? (a.add (i * 2)) = some (.string (S x.nm)) ∧ W.cell? (a.add (i * 2 + 1)) = some (.string (S x.sc)) ∧ x.nm.length ≤ 140737488351232 ∧ x.sc.length ≤ 140737488351232) len (fun i hil => by
      obtain ⟨c0, c1, t0, t1⟩ := hi i (by omega)
      obtain ⟨b0, e0, y0, _⟩ := DataW.trod_string Tryz.underlying9 t0
      obtain ⟨s0, rfl⟩ := S_of b0
      obtain ⟨b1, e1, y1, _⟩ := DataW.trod_string Tryz.underlying9 t1
      obtain ⟨s1, rfl⟩ := S_of b1
      have hd0 : D0 i = .lit (.string s0) := by
        have := congrArg Prod.fst y0
        simpa [S] using this
      have hd1 : D1 i = .lit (.string s1) := by
        have := congrArg Prod.fst y1
        simpa [S] using this
      exact ⟨⟨s0, s1⟩, ⟨hd0, hd1⟩, by rw [c0]; simpa using e0, by rw [c1]; simpa using e1, hwe i hil s0 (.inl hd0), hwe i hil s1 (.inr hd1)⟩)
    refine ⟨l, ⟨some a, cap, by rw [hll], by omega, fun h0 => ?_⟩, ⟨⟨by omega, fun x hx => ?_⟩, by omega⟩, bulk_slice hll (fun i hi => by
      rw [(hP i hi).1.1, (hP i hi).1.2]; simp only [Rows.uptoBulk, Rows.uptoBulkAll]; omega)⟩
    · have h1 := (hP 0 h0).2.1
      rw [Nat.zero_mul, show a.add 0 = a from rfl] at h1
      refine ⟨a.block, a.off, by rw [← us_spot h1], fun i hi => ?_⟩
      obtain ⟨_, g0, g1, _⟩ := hP i hi
      rw [us_add h1] at g0 g1
      exact ⟨g0, g1⟩
    · obtain ⟨i, hi, rfl⟩ := List.getElem_of_mem hx
      have := (hP i hi).2.2.2
      exact ⟨by omega, by omega⟩
end Go.Proofs.YtlcadichpcdgpaaGreatDoor
namespace Go.Proofs.YtlcadichpcdgpaaGreatDoor
open Go.RowKit Go.ChangeShapes Go.WideShapes Go.Deep
set_option linter.unusedVariables false
/-- how much portals are -/
def sumPo (l : List Po) : Nat := (l.map fun p => 1 + p.ad.length).sum
set_option maxRecDepth 100000 in
theorem open_pos_cell {H : Type} {enc : TypeId × Value → H} {W : World} {c : Value} {d : DataW H} {p : List MemPlace} {fuel : Nat} (hwd : ∀ k ∈ DataW.weights Tryz.prog 23 d, k ≤ reachBytes) (hf' : DataW.trod enc Tryz.prog W 0 (fun _ => true) true fuel 23 [c] = some (d, p)) : ∃ l : List Po, PosV W c l ∧ fitPo l ∧ sumPo l ≤ Rows.uptoBulk d := by
  have hrb : reachBytes = 140737488351232 := rfl
  rcases open_slice_pairs Tryz.underlying23 Tryz.underlying50 (by kernel_rfl) rfl rfl (by kernel_rfl) (by kernel_rfl) hf' with ⟨hcs, _⟩ | ⟨a, len, cap, m, n, V0, V1, D0, D1, P0, P1, hcs, _, hl, hm, hmm, hx, hi⟩
  · obtain rfl : c = .slice none 0 0 := by simpa using hcs
    exact ⟨[], PosV.nil W, ⟨by decide, fun a h => absurd h List.not_mem_nil⟩, Nat.zero_le _⟩
  · obtain rfl : c = .slice (some a) len cap := by simpa using hcs
    simp only [Prod.mk.injEq] at hx
    obtain ⟨rfl, _⟩ := hx
    have hlm : len ≤ m := by rw [hmm]; split <;> omega
    have hs : (len + (m - len)) * 24 ≤ reachBytes := by
      refine hwd _ ?_
      simp [DataW.weights, Tryz.underlying23, show Tryz.prog.bytesOf 50 = 24 by kernel_rfl]
    have hwe : ∀ i, i < len → ∀ s : List UInt8, D0 i = .lit (.string s) → s.length ≤ 140737488351232 := fun i hil s hd => by
      have hmem : s.length ∈ DataW.weights Tryz.prog 23 (.slice ((List.range len).map fun i => .agg [D0 i, D1 i]) ((List.range (m - len)).map fun j => .agg [D0 (len + j), D1 (len + j)])) := by
        have hw : s.length ∈ DataW.weights Tryz.prog 50 (.agg [D0 i, D1 i]) := by
          rw [hd]; simp [DataW.weights, Tryz.underlying50, DataW.weightsEach]
        have := weights_mem_allP (P := Tryz.prog) (e := 50) (l := (List.range len).map fun i => .agg [D0 i, D1 i]) (List.mem_map.2 ⟨i, List.mem_range.2 hil, rfl⟩) hw
        simp only [DataW.weights, Tryz.underlying23, List.mem_cons, List.mem_append]
        exact .inr (.inl this)
      have := hwd _ hmem
      omega
    obtain ⟨l, hll, hP⟩ := list_ofP (fun i (x : Po) => D0 i = .lit (.string x.ad) ∧ W.cell? (a.add (i * 2)) = some (.string (S x.ad)) ∧ W.cell? (a.add (i * 2 + 1)) = some (.int .i64 x.gr) ∧ x.ad.length ≤ 140737488351232 ∧ -9223372036854775808 ≤ x.gr ∧ x.gr ≤ 9223372036854775807) len (fun i hil => by
      obtain ⟨c0, c1, t0, t1⟩ := hi i (by omega)
      obtain ⟨b0, e0, y0, _⟩ := DataW.trod_string Tryz.underlying9 t0
      obtain ⟨s0, rfl⟩ := S_of b0
      obtain ⟨g, e1, _, wg⟩ := DataW.trod_int Tryz.underlying3 t1
      have wg2 : -9223372036854775808 ≤ g ∧ g ≤ 9223372036854775807 := by simpa [Lit.wf, IntKind.min, IntKind.max, IntKind.signed, IntKind.bits] using wg
      have hd0 : D0 i = .lit (.string s0) := by
        have := congrArg Prod.fst y0
        simpa [S] using this
      exact ⟨⟨s0, g⟩, hd0, by rw [c0]; simpa using e0, by rw [c1]; simpa using e1, hwe i hil s0 hd0, wg2⟩)
    refine ⟨l, ⟨some a, cap, by rw [hll], by omega, fun h0 => ?_⟩, ⟨by omega, fun x hx => ?_⟩, bulk_slice hll (fun i hi => by
      rw [(hP i hi).1]; simp only [Rows.uptoBulk, Rows.uptoBulkAll]; omega)⟩
    · have h1 := (hP 0 h0).2.1
      rw [Nat.zero_mul, show a.add 0 = a from rfl] at h1
      refine ⟨a.block, a.off, by rw [← prs_spot h1], fun i hi => ?_⟩
      obtain ⟨_, g0, g1, _⟩ := hP i hi
      rw [prs_add h1] at g0 g1
      exact ⟨g0, g1⟩
    · obtain ⟨i, hi, rfl⟩ := List.getElem_of_mem hx
      exact (hP i hi).2.2.2
end Go.Proofs.YtlcadichpcdgpaaGreatDoor
namespace Go.Proofs.YtlcadichpcdgpaaGreatDoor
open Go.RowKit Go.ChangeShapes Go.WideShapes Go.Deep
set_option linter.unusedVariables false
/-- how much texts are -/
def sumS (l : List (List UInt8)) : Nat := (l.map fun s => 1 + s.length).sum
def fitS (l : List (List UInt8)) : Prop := l.length ≤ 140737488355328 ∧ ∀ s ∈ l, s.length ≤ 140737488351232
set_option maxRecDepth 100000 in
theorem open_strs_cell {H : Type} {enc : TypeId × Value → H} {W : World} {c : Value} {d : DataW H} {p : List MemPlace} {fuel : Nat} (hwd : ∀ k ∈ DataW.weights Tryz.prog 22 d, k ≤ reachBytes) (hf' : DataW.trod enc Tryz.prog W 0 (fun _ => true) true fuel 22 [c] = some (d, p)) : ∃ l : List (List UInt8), StrV W c l ∧ fitS l ∧ sumS l ≤ Rows.uptoBulk d ∧ (∀ p n k, c = .slice p n k → n ≤ k) ∧ l.length * 16 ≤ 140737488351232 := by
  have hrb : reachBytes = 140737488351232 := rfl
  rcases open_strings Tryz.underlying22 Tryz.underlying9 (by kernel_rfl) hf' with ⟨hcs, _⟩ | ⟨a, len, cap, ss, hcs, _, hl1, hm, hz, hx, hcell, hws⟩
  · obtain rfl : c = .slice none 0 0 := by simpa using hcs
    exact ⟨[], strV_nil W, ⟨by decide, fun s h => absurd h List.not_mem_nil⟩, Nat.zero_le _, fun _ _ _ h => (by cases h; exact Nat.le_refl _), by decide⟩
  · obtain rfl : c = .slice (some a) len cap := by simpa using hcs
    simp only [Prod.mk.injEq] at hx
    obtain ⟨rfl, _⟩ := hx
    simp only [if_true] at hz
    have hs : ((ss.take len).length + (ss.drop len).length) * 16 ≤ reachBytes := by
      refine hwd _ ?_
      simp [DataW.weights, Tryz.underlying22, show Tryz.prog.bytesOf 9 = 16 by kernel_rfl, strs]
    have hwe : ∀ s ∈ ss.take len, s.data.toList.length ≤ 140737488351232 := fun s hmem => by
      have h1 : s.data.toList.length ∈ DataW.weights (H := H) Tryz.prog 9 (.lit (.string s.data.toList)) := by simp [DataW.weights]
      have h2 := weights_mem_allP (P := Tryz.prog) (e := 9) (l := strs (H := H) (ss.take len)) (List.mem_map.2 ⟨s, hmem, rfl⟩) h1
      have h3 : s.data.toList.length ∈ DataW.weights (H := H) Tryz.prog 22 (.slice (strs (ss.take len)) (strs (ss.drop len))) := by
        simp only [DataW.weights, Tryz.underlying22, List.mem_cons, List.mem_append]
        exact .inr (.inl h2)
      have := hwd _ h3
      omega
    have htl : (ss.take len).length = len := by rw [List.length_take]; omega
    have hlen : ((ss.take len).map fun s => s.data.toList).length = len := by rw [List.length_map]; exact htl
    refine ⟨(ss.take len).map fun s => s.data.toList, ⟨some a, cap, by rw [hlen], fun h0 => ?_⟩, ⟨?_, fun s hmem => ?_⟩, ?_, fun _ _ _ h => (by cases h; exact hl1), by rw [hlen]; omega⟩
    · rw [hlen] at h0
      have h1 := hcell 0 (by omega)
      rw [show a.add 0 = a from rfl] at h1
      refine ⟨a.block, a.off, by rw [← prs_spot h1], fun i hi => ?_⟩
      rw [hlen] at hi
      have hc := hcell i (by omega)
      rw [prs_add h1 i] at hc
      rw [hc]
      have his : i < ss.length := by omega
      simp [List.getD_eq_getElem?_getD, List.getElem?_eq_getElem his, S]
    · rw [hlen]; omega
    · obtain ⟨x, hx, rfl⟩ := List.mem_map.1 hmem
      exact hwe x hx
    · have h1 : ∀ r : List ByteArray, sumS (r.map fun s => s.data.toList) = Rows.uptoBulkAll (strs (H := H) r) := fun r => by
        induction r with
        | nil => rfl
        | cons x r ih =>
          unfold sumS strs at *
          simp only [List.map_cons, List.sum_cons, Rows.uptoBulkAll, Rows.uptoBulk]
          omega
      rw [h1]
      simp only [Rows.uptoBulk]
      omega
end Go.Proofs.YtlcadichpcdgpaaGreatDoor
namespace Go.Proofs.YtlcadichpcdgpaaGreatDoor
open Go.RowKit Go.ChangeShapes Go.WideShapes Go.Deep
set_option linter.unusedVariables false
theorem array7 {a : Array Value} (h : a.size = 7) : ∃ c0 c1 c2 c3 c4 c5 c6, a = #[c0, c1, c2, c3, c4, c5, c6] := by
  obtain ⟨l⟩ := a
  match l, h with
  | [c0, c1, c2, c3, c4, c5, c6], _ => exact ⟨c0, c1, c2, c3, c4, c5, c6, rfl⟩
theorem trod_struct6 {H : Type} {enc : TypeId × Value → H} {P : Program} {w : World} {base : Nat} {spare : Nat → Bool} {held : Bool} {t : TypeId} {f0 f1 f2 f3 f4 f5 : Field} {fuel : Nat} {cs : List Value} {x : DataW H × List MemPlace} (ht : P.underlying t = some (.struct #[f0, f1, f2, f3, f4, f5])) (h : DataW.trod enc P w base spare held fuel t cs = some x) :
    ∃ y0 y1 y2 y3 y4 y5 n, x = (.agg [y0.1, y1.1, y2.1, y3.1, y4.1, y5.1], y0.2 ++ (y1.2 ++ (y2.2 ++ (y3.2 ++ (y4.2 ++ y5.2))))) ∧ DataW.trod enc P w base spare held n f0.type ((cs.drop f0.offset).take (P.cellsOf f0.type)) = some y0 ∧
      DataW.trod enc P w base spare held n f1.type ((cs.drop f1.offset).take (P.cellsOf f1.type)) = some y1 ∧ DataW.trod enc P w base spare held n f2.type ((cs.drop f2.offset).take (P.cellsOf f2.type)) = some y2 ∧
      DataW.trod enc P w base spare held n f3.type ((cs.drop f3.offset).take (P.cellsOf f3.type)) = some y3 ∧ DataW.trod enc P w base spare held n f4.type ((cs.drop f4.offset).take (P.cellsOf f4.type)) = some y4 ∧ DataW.trod enc P w base spare held n f5.type ((cs.drop f5.offset).take (P.cellsOf f5.type)) = some y5 := by
  obtain ⟨xs, n, _, rfl, hl, hlen, hf⟩ := DataW.trod_struct ht h
  match xs, hlen with
  | [y0, y1, y2, y3, y4, y5], _ => exact ⟨y0, y1, y2, y3, y4, y5, n, by simp, by simpa using hf 0 f0 rfl, by simpa using hf 1 f1 rfl, by simpa using hf 2 f2 rfl, by simpa using hf 3 f3 rfl, by simpa using hf 4 f4 rfl, by simpa using hf 5 f5 rfl⟩
/-- all that it has is no more than memory has -/
structure FitCf (c : Cf) : Prop where
  ts : fitS c.ts
  ps : fitPo c.ps
  us : WideU c.us
  sn : c.sn.length ≤ 140737488351232
  ss : c.ss.length ≤ 140737488351232
  lim : -9223372036854775808 ≤ c.lim ∧ c.lim ≤ 9223372036854775807
  own : WideP c.own
  tb : c.ts.length * 16 ≤ 140737488351232
/-- how much it is -/
def crowdN (c : Cf) : Nat := sumS c.ts + sumPo c.ps + sumUs c.us + c.sn.length + c.ss.length
def bulkC (c : Cf) : Nat := crowdN c + sumPr c.own
set_option maxRecDepth 100000 in
theorem open_conf {H : Type} {enc : TypeId × Value → H} {W : World} {base : Nat} {ts : List TypeId} {ds : List (DataW H)} {v : Value} {d : DataW H} {p : List MemPlace} (hsz : (DataW.weightsEach Tryz.prog ts ds).all (· ≤ reachBytes) = true) {j : Nat} (hts : ts[j]? = some 29) (hds : ds[j]? = some d)
    (hval : Value.okWide Tryz.prog W .any base 29 v) (h : DataW.Trod enc Tryz.prog W 0 (fun _ => true) true 29 v d p) :
    ∃ (c : Cf) (vt vp vu vo : Value), v = confV c vt vp vu vo ∧ ConfAt W c vt vp vu vo ∧ FitCf c ∧ bulkC c ≤ Rows.uptoBulk d := by
  have hrb : reachBytes = 140737488351232 := rfl
  obtain ⟨cs, rfl, hsize⟩ := okWide_struct Tryz.underlying29 hval
  obtain ⟨c0, c1, c2, c3, c4, c5, c6, rfl⟩ := array7 (hsize.trans (by kernel_rfl))
  obtain ⟨fuel, hf⟩ := h
  obtain ⟨y0, y1, y2, y3, y4, y5, n, hx, h0, h1, h2, h3, h4, h5⟩ := trod_struct6 Tryz.underlying29 hf
  simp only [Prod.mk.injEq] at hx
  obtain ⟨rfl, rfl⟩ := hx
  have hwm : ∀ (i : Nat) (t : TypeId) (y : DataW H), ([22, 23, 24, 26, 3, 27] : List TypeId)[i]? = some t → ([y0.1, y1.1, y2.1, y3.1, y4.1, y5.1] : List (DataW H))[i]? = some y → ∀ k ∈ DataW.weights Tryz.prog t y, k ≤ reachBytes := fun i t y ht hy k hk => by
    have h1 := DataW.weights_mem_each ht hy k hk
    have h2 : k ∈ DataW.weights Tryz.prog 29 (.agg [y0.1, y1.1, y2.1, y3.1, y4.1, y5.1]) := by
      simp only [DataW.weights, Tryz.underlying29]
      exact h1
    have := List.all_eq_true.1 hsz _ (DataW.weights_mem_each hts hds _ h2)
    simpa using this
  have h0' : DataW.trod enc Tryz.prog W 0 (fun _ => true) true n 22 [c0] = some y0 := by
    rw [show Tryz.prog.cellsOf _ = 1 by kernel_rfl] at h0
    simpa [Value.cells] using h0
  have h1' : DataW.trod enc Tryz.prog W 0 (fun _ => true) true n 23 [c1] = some y1 := by
    rw [show Tryz.prog.cellsOf _ = 1 by kernel_rfl] at h1
    simpa [Value.cells] using h1
  have h2' : DataW.trod enc Tryz.prog W 0 (fun _ => true) true n 24 [c2] = some y2 := by
    rw [show Tryz.prog.cellsOf _ = 1 by kernel_rfl] at h2
    simpa [Value.cells] using h2
  have h3' : DataW.trod enc Tryz.prog W 0 (fun _ => true) true n 26 [c3, c4] = some y3 := by
    rw [show Tryz.prog.cellsOf _ = 2 by kernel_rfl] at h3
    simpa [Value.cells] using h3
  have h4' : DataW.trod enc Tryz.prog W 0 (fun _ => true) true n 3 [c5] = some y4 := by
    rw [show Tryz.prog.cellsOf _ = 1 by kernel_rfl] at h4
    simpa [Value.cells] using h4
  have h5' : DataW.trod enc Tryz.prog W 0 (fun _ => true) true n 27 [c6] = some y5 := by
    rw [show Tryz.prog.cellsOf _ = 1 by kernel_rfl] at h5
    simpa [Value.cells] using h5
  obtain ⟨z0, z1, m, hz, _, g0, g1⟩ := trod_struct2 Tryz.underlying26 h3'
  rw [show Tryz.prog.cellsOf _ = 1 by kernel_rfl] at g0 g1
  obtain ⟨b3, e3, x3, _⟩ := DataW.trod_string Tryz.underlying9 g0
  obtain ⟨s3, rfl⟩ := S_of b3
  obtain rfl : c3 = .string (S s3) := by simpa using e3
  obtain ⟨b4, e4, x4, _⟩ := DataW.trod_string Tryz.underlying9 g1
  obtain ⟨s4, rfl⟩ := S_of b4
  obtain rfl : c4 = .string (S s4) := by simpa using e4
  obtain ⟨a5, e5, _, w5⟩ := DataW.trod_int Tryz.underlying3 h4'
  obtain rfl : c5 = .int .i64 a5 := by simpa using e5
  have d3 : z0.1 = .lit (.string s3) := by
    have := congrArg Prod.fst x3
    simpa [S] using this
  have d4 : z1.1 = .lit (.string s4) := by
    have := congrArg Prod.fst x4
    simpa [S] using this
  have hy3 : y3.1 = .agg [z0.1, z1.1] := by rw [hz]
  have l3 := hwm 3 _ _ rfl rfl s3.length (by rw [hy3, d3, d4]; simp [DataW.weights, Tryz.underlying26, DataW.weightsEach])
  have l4 := hwm 3 _ _ rfl rfl s4.length (by rw [hy3, d3, d4]; simp [DataW.weights, Tryz.underlying26, DataW.weightsEach])
  obtain ⟨lt, ht, hft, hbt, hct, htb⟩ := open_strs_cell (d := y0.1) (p := y0.2) (hwm 0 _ _ rfl rfl) h0'
  obtain ⟨lp, hp, hfp, hbp⟩ := open_pos_cell (d := y1.1) (p := y1.2) (hwm 1 _ _ rfl rfl) h1'
  obtain ⟨lu, hu, hfu, hbu⟩ := open_users_cell (d := y2.1) (p := y2.2) (hwm 2 _ _ rfl rfl) h2'
  obtain ⟨lo, ho, hfo, hbo⟩ := open_prs_bulk (d := y5.1) (p := y5.2) (hwm 5 _ _ rfl rfl) h5'
  have w5' : -9223372036854775808 ≤ a5 ∧ a5 ≤ 9223372036854775807 := by simpa [Lit.wf, IntKind.min, IntKind.max, IntKind.signed, IntKind.bits] using w5
  refine ⟨⟨lt, lp, lu, s3, s4, a5, lo⟩, c0, c1, c2, c6, rfl, ⟨ht, hp, hu, ho, hct⟩, ⟨hft, hfp, hfu, by simp only; omega, by simp only; omega, w5', hfo, htb⟩, ?_⟩
  have hb3 : s3.length + s4.length ≤ Rows.uptoBulk y3.1 := by
    rw [hy3, d3, d4]; simp only [Rows.uptoBulk, Rows.uptoBulkAll]; omega
  unfold bulkC crowdN
  simp only [Rows.uptoBulk, Rows.uptoBulkAll]
  omega
end Go.Proofs.YtlcadichpcdgpaaGreatDoor
namespace Go.Proofs.YtlcadichpcdgpaaGreatDoor
open Go.RowKit
theorem containsS_any (l : List (List UInt8)) (v : Value) (x : List UInt8) (w : World) (hv : StrV w v l) (hl : l.length ≤ 140737488355328) :
    Calls Tryz.prog 16 #[v, .string (S x)] w fun e w' => e = .returned (.bool (decide (x ∈ l))) ∧ w = w' := by
  obtain ⟨p, c, rfl, hc⟩ := hv
  cases l with
  | nil =>
    refine (Tryz.slices_Contains_string_empty p c (S x) w).mono ?_
    rintro e w' ⟨rfl, rfl⟩
    exact ⟨by simp, rfl⟩
  | cons y l =>
    obtain ⟨b, o, rfl, hcell⟩ := hc (by simp)
    refine (Tryz.slices_Contains_string b o (y :: l).length c ((y :: l).map S) (S x) w (by simp) (by simp at hl ⊢; omega) (fun j hj => ?_)).mono ?_
    · have hj' : j < (y :: l).length := by simpa using hj
      rw [hcell j hj', List.getD_eq_getElem?_getD, List.getElem?_map, List.getElem?_eq_getElem hj']
      rfl
    · rintro e w' ⟨rfl, rfl⟩
      refine ⟨?_, rfl⟩
      have h : Lib.containsS (((y :: l).map S).take (y :: l).length) (S x) = decide (x ∈ y :: l) := by
        rw [List.take_of_length_le (by simp), Bool.eq_iff_iff, Lib.containsS_iff, decide_eq_true_iff, List.mem_map]
        exact ⟨fun ⟨z, hz, e⟩ => by rw [← S_inj e]; exact hz, fun h => ⟨x, h, rfl⟩⟩
      rw [h]
end Go.Proofs.YtlcadichpcdgpaaGreatDoor
