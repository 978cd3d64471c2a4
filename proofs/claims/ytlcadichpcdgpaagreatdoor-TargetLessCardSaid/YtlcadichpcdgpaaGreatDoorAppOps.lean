/- A literal of one pair, an append of one, in a region taken by hand; an append of one by its run equation. -/
import Derived.Test.YtlcadichpcdgpaaGreatDoorAppBig
import Derived.Test.YtlcadichpcdgpaaGreatDoorGB
import Derived.Great.BuildSlice
namespace Go.Proofs.YtlcadichpcdgpaaGreatDoor
open Go Go.RowKit
set_option linter.unusedVariables false
/-- a literal of one pair, in a region taken by hand -/
theorem buildN {o : Oper} {a : Act} {w : World} {K : Act → World → Prop} {Q : Exit → Act → World → Prop} (k d : List UInt8) (dst : Option Tmp) (hd : o.dst = dst) (t : Operand) (ho : o.op = .buildSlice 27 1 #[(0, t)]) (hx : a.eval t = .agg #[.string (S k), .string (S d)])
    (h : K (a.put dst (.slice (some ⟨w.heap.size, 0, none⟩) 1 1)) (w.alloc (.cells #[.string (S k), .string (S d)] 40))) : o.wp Tryz.prog a w K Q := by
  subst hd
  obtain ⟨i0, hi, hz0, hz1, hz2⟩ := infoPr
  refine wp_buildSlice 27 40 1 _ ho #[.string (S k), .string (S d)] i0 (.agg #[.string (S []), .string (S [])]) Tryz.underlying27 hi hz0 (by rw [hz1]; decide) (by rw [hz1]; decide) ?_ h
  rw [hz1]
  have hf : Instr.fill (fun i => some (i * 2, 2)) ((Array.range (1 * 2)).map ((.agg #[.string (S []), .string (S [])] : Value).cells[· % (.agg #[.string (S []), .string (S [])] : Value).cells.size]!)) [(0, .agg #[.string (S k), .string (S d)])] = some #[.string (S k), .string (S d)] := by kernel_rfl
  rw [← hf]
  have he : (Array.map (fun (i, x) => (i, a.eval x)) #[(0, t)]).toList = [(0, .agg #[.string (S k), .string (S d)])] := by simp [hx]
  rw [he]
/-- an append of one pair, in a region taken by hand -/
theorem appN {o : Oper} {a : Act} {w : World} {K : Act → World → Prop} {Q : Exit → Act → World → Prop} (dst : Option Tmp) (hd : o.dst = dst) (s x : Operand) (ho : o.op = .call { callee := .builtin .append, args := #[s, x], argTypes := #[27, 27] })
    {base : Nat} {v : Value} {l : List Pr} {k d : List UInt8} {ad : Addr} (hs : a.eval s = v) (hO : PrBuf base w v l) (hx : a.eval x = .slice (some ad) 1 1)
    (NB : Hid (∀ j u, ([.string (S k), .string (S d)] : List Value)[j]? = some u → w.cell? (ad.add j) = some u) ∧ Hid (∀ u ∈ ([.string (S k), .string (S d)] : List Value), u.oneCell' = true) ∧ Hid (l.length + 1 ≤ maxLen) ∧ Hid ((l.length + 1) * 32 ≤ 140737488355328) ∧ Hid (base ≤ w.heap.size))
    (h : ∀ v' w', PrBuf base w' v' (l ++ [⟨k, d⟩]) → w.grownBy w' v.ownBlock → K (a.put dst v') w') : o.wp Tryz.prog a w K Q := by
  subst hd
  obtain ⟨i0, hi0, hz0, hz1, hz2⟩ := infoPr
  exact wp_append_own _ s x 27 ho base 40 i0 (.agg #[.string (S []), .string (S [])]) 2 32 Tryz.underlying27 hi0 hz0 hz1 hz2 rfl (by decide) v l.length (prsVs l) hs hO ad 1 1 [.string (S k), .string (S d)] hx rfl NB.1.out NB.2.1.out NB.2.2.1.out NB.2.2.2.1.out NB.2.2.2.2.out (fun v' w' h1 h2 _ => h v' w' (buf_prs h1) h2)
theorem run_append_one {W : World} {base : Nat} {v : Value} {l : List Pr} {k d : List UInt8} {a : Addr} (h : PrBuf base W v l) (ha : ∀ j u, ([.string (S k), .string (S d)] : List Value)[j]? = some u → W.cell? (a.add j) = some u) (hl : (l.length + 1) * 32 ≤ 140737488355328) (hb : base ≤ W.heap.size) :
    ∃ v' W', (Builtin.append_ #[27, 27] 27 #[v, .slice (some a) 1 1]).run Tryz.prog W = .ok v' W' ∧ PrBuf base W' v' (l ++ [⟨k, d⟩]) ∧ W.grownBy W' v.ownBlock := by
  obtain ⟨i0, hi, hz0, hz1, hz2⟩ := infoPr
  obtain ⟨v5, w5, hrun, hown, hgrow, _⟩ := run_append_own (P := Tryz.prog) (w := W) base 27 27 40 i0 (.agg #[.string (S []), .string (S [])]) 2 32 Tryz.underlying27 hi hz0 hz1 hz2 rfl (by decide) v l.length (prsVs l) h a 1 1 [.string (S k), .string (S d)] rfl ha (prsVs_one [⟨k, d⟩]) (by unfold maxLen; omega) hl hb
  refine ⟨v5, w5, hrun, ?_, hgrow⟩
  unfold PrBuf
  rw [prsVs_app, List.length_append]
  exact hown
end Go.Proofs.YtlcadichpcdgpaaGreatDoor
