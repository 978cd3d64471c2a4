/- Slices of texts: how they read, and those of the call's own. No function of the program is walked here. -/
import Derived.Test.YtikcgnalcchlpaaGreatDoorRows
import Derived.Test.YtikcgnalcchlpaaGreatDoorBase2
import Derived.Test.YtikcgnalcchlpaaGreatDoorBlk
import Derived.Laws.AppendOwn
import Derived.Laws.OwnMore
namespace Go.Proofs.YtikcgnalcchlpaaGreatDoor
open Go.RowKit
/-- the slice value v reads as these strings in W -/
def StrV (W : World) (v : Value) (l : List (List UInt8)) : Prop := ∃ p c, v = .slice p l.length c ∧ (0 < l.length → ∃ b o, p = some ⟨b, o, none⟩ ∧ ∀ j (hj : j < l.length), W.cell? ⟨b, o + j, none⟩ = some (.string (S l[j])))
theorem StrV.later {W W' : World} {v : Value} {l : List (List UInt8)} (h : StrV W v l) (hb : Below W.heap.size W W') : StrV W' v l := by
  obtain ⟨p, c, hv, hc⟩ := h
  refine ⟨p, c, hv, fun hl => ?_⟩
  obtain ⟨b, o, hp, hcell⟩ := hc hl
  refine ⟨b, o, hp, fun j hj => ?_⟩
  rw [(bcell hb).1 b (o + j) (block_lt_of_cell (w := W) (a := ⟨b, o + j, none⟩) (hcell j hj))]
  exact hcell j hj
theorem strV_nil (W : World) : StrV W (.slice none 0 0) [] := ⟨none, 0, rfl, fun h => absurd h (by decide)⟩
theorem StrV.form {W : World} {v : Value} {l : List (List UInt8)} (h : StrV W v l) : ∃ p c, v = .slice p l.length c := by obtain ⟨p, c, h, _⟩ := h; exact ⟨p, c, h⟩
theorem StrV.cell {W : World} {p : Option Addr} {c : Nat} {l : List (List UInt8)} (h : StrV W (.slice p l.length c) l) {j : Nat} (hj : j < l.length) : ∃ b o, p = some ⟨b, o, none⟩ ∧ W.cell? ⟨b, o + j, none⟩ = some (.string (S l[j])) := by
  obtain ⟨p0, c0, hv, hc⟩ := h
  obtain ⟨rfl, rfl⟩ : p = p0 ∧ c = c0 := by simpa using hv
  obtain ⟨b, o, rfl, hcell⟩ := hc (by omega)
  exact ⟨b, o, rfl, hcell j hj⟩
/-- texts that a call collects in a slice of its own -/
def strVs (l : List (List UInt8)) : List Value := l.map fun s => .string (S s)
theorem strVs_len (l : List (List UInt8)) : (strVs l).length = l.length := by simp [strVs]
theorem strVs_app (l m : List (List UInt8)) : strVs (l ++ m) = strVs l ++ strVs m := by simp [strVs]
theorem strVs_one (l : List (List UInt8)) : ∀ u ∈ strVs l, u.oneCell' = true := by
  intro u hu
  obtain ⟨s, _, rfl⟩ := List.mem_map.1 hu
  rfl
def StBuf (base : Nat) (W : World) (v : Value) (l : List (List UInt8)) : Prop := W.ownsRow base 9 1 v l.length (strVs l)
theorem StBuf.nil (base : Nat) (W : World) : StBuf base W (.slice none 0 0) [] := World.ownsRow_nil W base 9 1
theorem StBuf.alloc {base : Nat} {W : World} {v : Value} {l : List (List UInt8)} (h : StBuf base W v l) (o : Obj) : StBuf base (W.alloc o) v l := World.ownsRow.alloc h o
theorem StBuf.drewN {base : Nat} {W : World} {v : Value} {l : List (List UInt8)} (h : StBuf base W v l) (n : Nat) : StBuf base (W.drewN n) v l := h
theorem StBuf.later {base : Nat} {W W' : World} {v : Value} {l : List (List UInt8)} (h : StBuf base W v l) (hb : Below W.heap.size W W') : StBuf base W' v l := by
  refine World.ownsRow.kept (row := none) h ⟨hb.os, hb.tape, hb.output, hb.size, fun k hk _ => hb.block k hk⟩ ?_
  cases hv : v.ownBlock with
  | none => exact .inl rfl
  | some k => exact .inr (by simp)
theorem StBuf.form {base : Nat} {W : World} {v : Value} {l : List (List UInt8)} (h : StBuf base W v l) : ∃ p cap, v = .slice p l.length cap := by
  rcases h.2 with ⟨rfl, h0⟩ | ⟨g, cap, cur, hv, _⟩
  · exact ⟨none, 0, by rw [h0]⟩
  · exact ⟨_, _, hv⟩
theorem StBuf.strs {base : Nat} {W : World} {v : Value} {l : List (List UInt8)} (h : StBuf base W v l) : StrV W v l := by
  rcases h.2 with ⟨rfl, h0⟩ | ⟨g, cap, cur, rfl, hbg, hg, hnc, hcm, hcs, htake⟩
  · obtain rfl : l = [] := List.eq_nil_of_length_eq_zero h0
    exact strV_nil W
  · refine ⟨_, _, rfl, fun _ => ⟨g, 0, rfl, fun j hj => ?_⟩⟩
    have h1 := World.ownsRow.cells h (g := g) rfl j (.string (S l[j])) (by simp [strVs, List.getElem?_eq_getElem hj])
    have e1 : (⟨g, 0, none⟩ : Addr).add j = ⟨g, 0 + j, none⟩ := by simp only [Addr.add]; split <;> simp_all
    rw [e1] at h1
    exact h1
theorem StBuf.ge {base : Nat} {W : World} {v : Value} {l : List (List UInt8)} (h : StBuf base W v l) : ∀ k, v.ownBlock = some k → base ≤ k := fun k hk => (World.ownsRow.lt h k hk).1
theorem infoSt : ∃ i, Tryz.prog.info? 9 = some i ∧ i.zero = some (.string (S [])) ∧ i.size = 1 ∧ i.bytes = 16 := info_parts (show (Tryz.prog.info? 9).map (fun i => (i.zero, i.size, i.bytes)) = some (some (.string (S [])), 1, 16) by kernel_rfl)
/-- what an append of one text asks -/
theorem appS_sides (s : List UInt8) (wu : World) (N n base : Nat) (hN : wu.heap.size = N) (hn : n ≤ 1000000) (hb : base ≤ N) :
    Hid (∀ j u, ([.string (S s)] : List Value)[j]? = some u → (wu.alloc (.cells #[.string (S s)] 9)).cell? ((⟨N, 0, none⟩ : Addr).add j) = some u) ∧ Hid (∀ u ∈ ([.string (S s)] : List Value), u.oneCell' = true) ∧ Hid (n + 1 ≤ maxLen) ∧ Hid ((n + 1) * 16 ≤ 140737488355328) ∧ Hid (base ≤ (wu.alloc (.cells #[.string (S s)] 9)).heap.size) := by
  subst hN
  refine ⟨Lib.hid ?_, Lib.hid ?_, Lib.hid (by unfold maxLen; omega), Lib.hid (by omega), Lib.hid (by simp; omega)⟩
  · intro j u h
    have hb := (Blk.new wu #[.string (S s)] 9).cell j
    have e1 : (⟨wu.heap.size, 0, none⟩ : Addr).add j = ⟨wu.heap.size, j, none⟩ := by simp only [Addr.add]; split <;> simp_all
    rw [e1, hb]
    simpa using h
  · exact strVs_one [s]
end Go.Proofs.YtikcgnalcchlpaaGreatDoor
