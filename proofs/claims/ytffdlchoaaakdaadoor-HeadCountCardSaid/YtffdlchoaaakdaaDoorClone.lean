/- slices.Clone of numbers; a number more. -/
import Derived.Test.YtffdlchoaaakdaaDoorNums
import Derived.Shelf.Lays2
import Derived.Shelf.RegionOpenPlain
import Derived.Lib.SliceRun
import Derived.OwnWalk
import Derived.Deep.AppendLies
import Derived.Test.YtffdlchoaaakdaaDoorHeadFlags
namespace Go.Proofs.YtffdlchoaaakdaaDoor
open Go.RowKit
def cellsL (l : List Nat) : List Value := l.map fun (x : Nat) => Value.int .u64 (x : Int)
theorem cellsL_len (l : List Nat) : (cellsL l).length = l.length := by simp [cellsL]
theorem cellsL_app (l r : List Nat) : cellsL (l ++ r) = cellsL l ++ cellsL r := by simp [cellsL]
theorem cellsL_one {l : List Nat} : ∀ u ∈ cellsL l, u.oneCell' = true := by
  intro u hu
  obtain ⟨x, _, rfl⟩ := List.mem_map.1 hu
  rfl
theorem cellsL_get {l : List Nat} {j : Nat} {u : Value} (h : (cellsL l)[j]? = some u) : ∃ hj : j < l.length, u = .int .u64 (l[j] : Int) := by
  unfold cellsL at h
  rw [List.getElem?_map] at h
  cases e : l[j]? with
  | none => rw [e] at h; simp at h
  | some x =>
    rw [e] at h
    obtain ⟨hj, hx⟩ := List.getElem?_eq_some_iff.1 e
    refine ⟨hj, ?_⟩
    simp at h
    rw [← h, hx]
/-- a row of the call's own that holds these numbers reads as them -/
theorem vals_own {W : World} {base g cap : Nat} {l : List Nat} (h : W.ownsRow base 52 1 (.slice (some ⟨g, 0, none⟩) l.length cap) l.length (cellsL l)) (hx : ∀ x ∈ l, x < 2 ^ 64) : Vals W (.slice (some ⟨g, 0, none⟩) l.length cap) l :=
  ⟨_, _, rfl, hx, fun _ => ⟨g, 0, rfl, fun j hj => by
    have := World.ownsRow.cells h (g := g) rfl j (.int .u64 (l[j] : Int)) (by simp [cellsL, List.getElem?_eq_getElem hj])
    rw [Nat.zero_add]
    rw [← this]
    congr 1
    unfold Addr.add
    simp⟩⟩
set_option maxRecDepth 100000 in
theorem clone_any (vs : List Nat) (b off c : Nat) (w : World) (h0 : 0 < vs.length) (hl : vs.length ≤ 1000) (hc : ∀ j (hj : j < vs.length), w.cell? ⟨b, off + j, none⟩ = some (.int .u64 (vs[j] : Int))) :
    Calls Tryd.prog 30 #[.slice (some ⟨b, off, none⟩) vs.length c] w fun e w' =>
      ∃ g cap, e = .returned (.slice (some ⟨g, 0, none⟩) vs.length cap) ∧ w'.ownsRow w.heap.size 52 1 (.slice (some ⟨g, 0, none⟩) vs.length cap) vs.length (cellsL vs) ∧ Below w.heap.size w w' := by
  obtain ⟨i0, hi, hz0, hz1, hz2⟩ := info_parts (show (Tryd.prog.info? 52).map (fun i => (i.zero, i.size, i.bytes)) = some (some (.int .u64 0), 1, 8) by kernel_rfl)
  have q22 : ∀ (w : World) (a : Option Addr) (n c n' c' : Nat), (binOp .eql 22 (.slice a n c) (.slice none n' c')).run Tryd.prog w = .ok (.bool a.isNone) w := fun w a n c n' c' => Lib.run_eql_slice_nil w _ _ a n c n' c' Tryd.underlying22
  have A := Lib.hid hc
  clear hc
  go_enter Tryd.func30, Tryd.ntmps30
  go_wp2_with (at_builtin; refine wpList_append_lies _ rfl _ _ 22 rfl w.heap.size 52 i0 (.int .u64 0) 1 8 Tryd.underlying22 hi hz0 hz1 hz2 rfl (by decide) _ _ _ rfl (World.ownsRow_made w #[] 0 (Nat.le_refl _) (Nat.zero_le _) rfl) ⟨b, off, none⟩ vs.length c (cellsL vs) rfl ?qc1 ?qc2 ?qc3 h0 ?qc4 ?qc5 ?qc6 _ rfl ?_)
  case qc1 => rw [cellsL_len]; omega
  case qc2 =>
    intro j u hj
    obtain ⟨hjn, rfl⟩ := cellsL_get hj
    rw [Addr.add_lit]
    exact Lib.cell?_alloc_some _ (A.out j hjn)
  case qc3 => exact cellsL_one
  case qc4 => unfold maxLen; omega
  case qc5 => omega
  case qc6 => simp
  intro g cap w1 hown hgrow hg hlt
  go_wp2
  go_ret
  refine ⟨g, cap, rfl, by simpa using hown, ?_⟩
  exact ((Below.refl _ w).alloc (Nat.le_refl _) _).grown hgrow (by simp) (by intro k hk; simp [Value.ownBlock] at hk; omega)
end Go.Proofs.YtffdlchoaaakdaaDoor
