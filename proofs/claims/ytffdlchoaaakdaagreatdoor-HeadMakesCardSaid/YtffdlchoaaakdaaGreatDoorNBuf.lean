/- Numbers that a call collects in a slice of its own by append. No function of the program is walked here. -/
import Derived.Test.YtffdlchoaaakdaaGreatDoorNums
import Derived.Laws.AppendOwn
import Derived.Laws.OwnMore
namespace Go.Proofs.YtffdlchoaaakdaaGreatDoor
open Go.RowKit
def numsV (l : List Nat) : List Value := l.map fun (x : Nat) => .int .u64 (x : Int)
def NBuf (base : Nat) (W : World) (v : Value) (l : List Nat) : Prop := W.ownsRow base 37 1 v l.length (numsV l)
theorem NBuf.nil (base : Nat) (W : World) : NBuf base W (.slice none 0 0) [] := World.ownsRow_nil W base 37 1
theorem NBuf.alloc {base : Nat} {W : World} {v : Value} {l : List Nat} (h : NBuf base W v l) (o : Obj) : NBuf base (W.alloc o) v l := World.ownsRow.alloc h o
theorem NBuf.drewN {base : Nat} {W : World} {v : Value} {l : List Nat} (h : NBuf base W v l) (n : Nat) : NBuf base (W.drewN n) v l := h
theorem NBuf.later {base : Nat} {W W' : World} {v : Value} {l : List Nat} (h : NBuf base W v l) (hb : Below W.heap.size W W') : NBuf base W' v l := by
  refine World.ownsRow.kept (row := none) h ⟨hb.os, hb.tape, hb.output, hb.size, fun k hk _ => hb.block k hk⟩ ?_
  cases hv : v.ownBlock with
  | none => exact .inl rfl
  | some k => exact .inr (by simp)
theorem NBuf.other {base b : Nat} {W W' : World} {v : Value} {l : List Nat} (h : NBuf base W v l) (hg : W.grownBy W' (some b)) (hb : b < base) : NBuf base W' v l := by
  refine World.ownsRow.kept h hg ?_
  cases hv : v.ownBlock with
  | none => exact .inl rfl
  | some k => exact .inr (fun e => by have := (World.ownsRow.lt h k hv).1; have := Option.some.inj e; omega)
theorem grownBy_setCell (W : World) (a : Addr) (u : Value) : W.grownBy (W.setCell a u) (some a.block) :=
  ⟨rfl, rfl, rfl, by simp, fun k _ hne => by
    have hk : k ≠ a.block := fun e => hne (by rw [e])
    exact Below.heap_setCell W a u k hk⟩
theorem NBuf.set {base : Nat} {W : World} {v : Value} {l : List Nat} (h : NBuf base W v l) {a : Addr} (hb : a.block < base) (u : Value) : NBuf base (W.setCell a u) v l := h.other (grownBy_setCell W a u) hb
theorem NBuf.form {base : Nat} {W : World} {v : Value} {l : List Nat} (h : NBuf base W v l) : ∃ p cap, v = .slice p l.length cap := by
  rcases h.2 with ⟨rfl, h0⟩ | ⟨g, cap, cur, hv, _⟩
  · exact ⟨none, 0, by rw [h0]⟩
  · exact ⟨_, _, hv⟩
theorem NBuf.vals {base : Nat} {W : World} {v : Value} {l : List Nat} (h : NBuf base W v l) (hx : ∀ x ∈ l, x < 2 ^ 64) : Vals W v l := by
  rcases h.2 with ⟨rfl, h0⟩ | ⟨g, cap, cur, rfl, hbg, hg, hnc, hcm, hcs, htake⟩
  · obtain rfl : l = [] := List.eq_nil_of_length_eq_zero h0
    exact vals_nil W
  · refine ⟨_, _, rfl, hx, fun _ => ⟨g, 0, rfl, fun j hj => ?_⟩⟩
    have h2 := World.ownsRow.cells h (g := g) rfl j (.int .u64 (l[j] : Int)) (by simp [numsV, List.getElem?_eq_getElem hj])
    rw [Nat.zero_add]
    have e1 : (⟨g, 0, none⟩ : Addr).add j = ⟨g, j, none⟩ := by simp [Addr.add]; omega
    rw [e1] at h2
    exact h2
theorem Blk.grown {W W' : World} {b : Nat} {C : Array Value} {t : TypeId} {row : Option Nat} (h : Blk W b C t) (hg : W.grownBy W' row) (hne : ∀ k, row = some k → b ≠ k) : Blk W' b C t :=
  (hg.block b h.lt (fun e => hne b e.symm rfl)).trans h
theorem NBuf.ge {base : Nat} {W : World} {v : Value} {l : List Nat} (h : NBuf base W v l) : ∀ k, v.ownBlock = some k → base ≤ k := fun k hk => (World.ownsRow.lt h k hk).1
theorem own_form {W : World} {base : Nat} {e : TypeId} {size : Nat} {v : Value} {n : Nat} {xs : List Value} (h : W.ownsRow base e size v n xs) : ∃ p c, v = .slice p n c := by
  rcases h.2 with ⟨rfl, h0⟩ | ⟨g, cap, cur, hv, _⟩
  · exact ⟨none, 0, by rw [h0]⟩
  · exact ⟨_, _, hv⟩
theorem infoU : ∃ i, Tryz.prog.info? 37 = some i ∧ i.zero = some (.int .u64 0) ∧ i.size = 1 ∧ i.bytes = 8 := info_parts (show (Tryz.prog.info? 37).map (fun i => (i.zero, i.size, i.bytes)) = some (some (.int .u64 0), 1, 8) by kernel_rfl)
theorem app_sides (x : Nat) (wu : World) (n base : Nat) (hn : n ≤ 10) (hb : base ≤ wu.heap.size) :
    Hid (∀ j u, ([.int .u64 (x : Int)] : List Value)[j]? = some u → (wu.alloc (.cells #[.int .u64 (x : Int)] 37)).cell? ((⟨wu.heap.size, 0, none⟩ : Addr).add j) = some u) ∧ Hid (∀ u ∈ ([.int .u64 (x : Int)] : List Value), u.oneCell' = true) ∧ Hid (n + 1 ≤ maxLen) ∧ Hid ((n + 1) * 8 ≤ 140737488355328) ∧ Hid (base ≤ (wu.alloc (.cells #[.int .u64 (x : Int)] 37)).heap.size) := by
  refine ⟨Lib.hid ?_, Lib.hid ?_, Lib.hid (by unfold maxLen; omega), Lib.hid (by omega), Lib.hid (by simp; omega)⟩
  · intro j u h
    cases j with
    | zero =>
      cases h
      simp [Addr.add]
    | succ j => simp at h
  · intro u hu
    rw [List.mem_singleton.1 hu]
    rfl
theorem rd_kept {base hb : Nat} {W W' : World} {v : Value} {l : List Nat} {C : Array Value} {t : TypeId} (hN : NBuf base W v l) (hK : Blk W hb C t) (hg : W.grownBy W' v.ownBlock) (h : hb < base) : Blk W' hb C t :=
  hK.grown hg (fun k hk => by have := hN.ge k hk; omega)
end Go.Proofs.YtffdlchoaaakdaaGreatDoor
