/- ref.kinds' great region as a list, and what the kernel sees of it. -/
import Derived.Test.YtffdlchoaaakdaaGreatDoorKindsOps
namespace Go.Proofs.YtffdlchoaaakdaaGreatDoor
open Go Go.RowKit
def regionIn : Code → Nat → Option (Array Oper × Bool)
  | .region id ops d, n => if id = n then some (ops, d) else none
  | .seq x y, n => match regionIn x n with
    | some r => some r
    | none => regionIn y n
  | _, _ => none
noncomputable def kReg : Option (Array Oper × Bool) := (Tryz.f22).body.bind fun c => regionIn c 6
noncomputable def kOps : Array Oper := (kReg.map (·.1)).getD #[]
theorem kOps_draws : kReg.map (·.2) = some true := by kernel_rfl
theorem kOps_size : kOps.size = 201 := by kernel_rfl
theorem kOps_back0 : (kOps.toList.zipIdx.all fun p => p.1.after.toList.all fun e => decide (e.on < p.2)) = true := by kernel_rfl
theorem kOps_dst0 : kOps.toList.map (·.dst) = (List.range 200).map (fun i => some (22 + i)) ++ [some 0] := by kernel_rfl
theorem kOps_guard0 : (kOps.toList.all fun o => o.guard.isNone) = true := by kernel_rfl
theorem kOps_back (i : Nat) (o : Oper) (h : kOps[i]? = some o) : ∀ e ∈ o.after, e.on < i := by
  intro e he
  have h1 := List.all_eq_true.1 kOps_back0 (o, i) (List.mem_zipIdx_iff_getElem?.2 (by simpa using h))
  have h2 := List.all_eq_true.1 h1 e (by simpa using he)
  simpa using h2
theorem kOps_guard (i : Nat) (o : Oper) (h : kOps[i]? = some o) : o.guard = none := by
  have := List.all_eq_true.1 kOps_guard0 o (List.mem_of_getElem? (i := i) (by simpa using h))
  simpa using this
theorem kOps_dst (i : Nat) (o : Oper) (h : kOps[i]? = some o) : i < 201 ∧ o.dst = some (if i < 200 then 22 + i else 0) := by
  have hi : i < 201 := by rw [← kOps_size]; exact (Array.getElem?_eq_some_iff.1 h).1
  have h1 := congrArg (·[i]?) kOps_dst0
  simp only [List.getElem?_map] at h1
  have h2 : kOps.toList[i]? = some o := by simpa using h
  rw [h2] at h1
  refine ⟨hi, ?_⟩
  by_cases h200 : i < 200
  · rw [if_pos h200]
    rw [List.getElem?_append_left (by simpa using h200), List.getElem?_map, List.getElem?_range h200] at h1
    exact Option.some.inj h1
  · obtain rfl : i = 200 := by omega
    rw [if_neg (by omega)]
    exact Option.some.inj h1
theorem kOps_inj (i j : Nat) (o o' : Oper) (h : kOps[i]? = some o) (h' : kOps[j]? = some o') (e : o.dst = o'.dst) : i = j := by
  obtain ⟨a1, a2⟩ := kOps_dst i o h
  obtain ⟨b1, b2⟩ := kOps_dst j o' h'
  rw [a2, b2] at e
  have := Option.some.inj e
  split at this <;> split at this <;> omega
end Go.Proofs.YtffdlchoaaakdaaGreatDoor
