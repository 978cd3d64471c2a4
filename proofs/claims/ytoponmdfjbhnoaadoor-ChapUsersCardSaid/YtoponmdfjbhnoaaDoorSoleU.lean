/- A literal of one user, an append of one, in a region taken by hand. -/
import Derived.Test.YtoponmdfjbhnoaaDoorAppBigU
import Derived.Test.YtoponmdfjbhnoaaDoorTakeOps
import Derived.Great.BuildSlice
namespace Go.Proofs.YtoponmdfjbhnoaaDoor
open Go Go.RowKit
set_option linter.unusedVariables false
/-- a literal of one user, in a region taken by hand -/
theorem buildU {o : Oper} {a : Act} {w : World} {K : Act → World → Prop} {Q : Exit → Act → World → Prop} (k d : List UInt8) (dst : Option Tmp) (hd : o.dst = dst) (t : Operand) (ho : o.op = .buildSlice 28 1 #[(0, t)]) (hx : a.eval t = .agg #[.string (S k), .string (S d)])
    (h : K (a.put dst (.slice (some ⟨w.heap.size, 0, none⟩) 1 1)) (w.alloc (.cells #[.string (S k), .string (S d)] 27))) : o.wp Tryd.prog a w K Q := by
  subst hd
  obtain ⟨i0, hi, hz0, hz1, hz2⟩ := infoUs
  refine wp_buildSlice 28 27 1 _ ho #[.string (S k), .string (S d)] i0 (.agg #[.string (S []), .string (S [])]) Tryd.underlying28 hi hz0 (by rw [hz1]; decide) (by rw [hz1]; decide) ?_ h
  rw [hz1]
  have hf : Instr.fill (fun i => some (i * 2, 2)) ((Array.range (1 * 2)).map ((.agg #[.string (S []), .string (S [])] : Value).cells[· % (.agg #[.string (S []), .string (S [])] : Value).cells.size]!)) [(0, .agg #[.string (S k), .string (S d)])] = some #[.string (S k), .string (S d)] := by kernel_rfl
  rw [← hf]
  have he : (Array.map (fun (i, x) => (i, a.eval x)) #[(0, t)]).toList = [(0, .agg #[.string (S k), .string (S d)])] := by simp [hx]
  rw [he]
/-- an append of one user, in a region taken by hand -/
theorem appU {o : Oper} {a : Act} {w : World} {K : Act → World → Prop} {Q : Exit → Act → World → Prop} (dst : Option Tmp) (hd : o.dst = dst) (s x : Operand) (ho : o.op = .call { callee := .builtin .append, args := #[s, x], argTypes := #[28, 28] })
    {base : Nat} {v : Value} {l : List Us} {k d : List UInt8} {ad : Addr} (hs : a.eval s = v) (hO : UsBuf base w v l) (hx : a.eval x = .slice (some ad) 1 1)
    (NB : Hid (∀ j u, ([.string (S k), .string (S d)] : List Value)[j]? = some u → w.cell? (ad.add j) = some u) ∧ Hid (∀ u ∈ ([.string (S k), .string (S d)] : List Value), u.oneCell' = true) ∧ Hid (l.length + 1 ≤ maxLen) ∧ Hid ((l.length + 1) * 32 ≤ 140737488355328) ∧ Hid (base ≤ w.heap.size))
    (h : ∀ v' w', UsBuf base w' v' (l ++ [⟨k, d⟩]) → w.grownBy w' v.ownBlock → K (a.put dst v') w') : o.wp Tryd.prog a w K Q := by
  subst hd
  obtain ⟨i0, hi0, hz0, hz1, hz2⟩ := infoUs
  exact wp_append_own _ s x 28 ho base 27 i0 (.agg #[.string (S []), .string (S [])]) 2 32 Tryd.underlying28 hi0 hz0 hz1 hz2 rfl (by decide) v l.length (usVs l) hs hO ad 1 1 [.string (S k), .string (S d)] hx rfl NB.1.out NB.2.1.out NB.2.2.1.out NB.2.2.2.1.out NB.2.2.2.2.out (fun v' w' h1 h2 _ => h v' w' (buf_us h1) h2)
end Go.Proofs.YtoponmdfjbhnoaaDoor
