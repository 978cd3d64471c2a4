/- An append of one pair to pairs of a call's own, as far as growslice itself goes. No function of the program is walked here. -/
import Derived.Test.YtlcadichpcdgpaaGreatDoorAppOps
import Derived.Deep.DeepAppendWide
namespace Go.Proofs.YtlcadichpcdgpaaGreatDoor
open Go Go.RowKit
set_option linter.unusedVariables false
/-- what an append of one pair asks -/
theorem appW_sides (k v : List UInt8) (wu WB : World) (n base : Nat) (hWB : wu.alloc (.cells #[.string (S k), .string (S v)] 40) = WB) (hn : ((n + 1) + (n + 1) / 4 + 192) * 32 ≤ 281474976710656) (hb : base ≤ wu.heap.size) :
    Hid (∀ j u, ([.string (S k), .string (S v)] : List Value)[j]? = some u → WB.cell? ((⟨wu.heap.size, 0, none⟩ : Addr).add j) = some u) ∧ Hid (∀ u ∈ ([.string (S k), .string (S v)] : List Value), u.oneCell' = true) ∧ Hid (n + 1 ≤ maxLen) ∧ Hid (((n + 1) + (n + 1) / 4 + 192) * 32 ≤ 281474976710656) ∧ Hid (base ≤ WB.heap.size) := by
  subst hWB
  refine ⟨Lib.hid ?_, Lib.hid ?_, Lib.hid (by unfold maxLen; omega), Lib.hid hn, Lib.hid (by simp; omega)⟩
  · intro j u h
    have hb := (Blk.new wu #[.string (S k), .string (S v)] 40).cell j
    have e1 : (⟨wu.heap.size, 0, none⟩ : Addr).add j = ⟨wu.heap.size, j, none⟩ := by simp only [Addr.add]; split <;> simp_all
    rw [e1, hb]
    simpa using h
  · exact prsVs_one [⟨k, v⟩]
/-- an append of one pair, in a region taken by hand -/
theorem appW {o : Oper} {a : Act} {w : World} {K : Act → World → Prop} {Q : Exit → Act → World → Prop} (dst : Option Tmp) (hd : o.dst = dst) (s x : Operand) (ho : o.op = .call { callee := .builtin .append, args := #[s, x], argTypes := #[27, 27] })
    {base : Nat} {v : Value} {l : List Pr} {k d : List UInt8} {ad : Addr} (hs : a.eval s = v) (hO : PrBuf base w v l) (hx : a.eval x = .slice (some ad) 1 1)
    (NB : Hid (∀ j u, ([.string (S k), .string (S d)] : List Value)[j]? = some u → w.cell? (ad.add j) = some u) ∧ Hid (∀ u ∈ ([.string (S k), .string (S d)] : List Value), u.oneCell' = true) ∧ Hid (l.length + 1 ≤ maxLen) ∧ Hid (((l.length + 1) + (l.length + 1) / 4 + 192) * 32 ≤ 281474976710656) ∧ Hid (base ≤ w.heap.size))
    (h : ∀ v' w', PrBuf base w' v' (l ++ [⟨k, d⟩]) → w.grownBy w' v.ownBlock → K (a.put dst v') w') : o.wp Tryz.prog a w K Q := by
  subst hd
  obtain ⟨i0, hi0, hz0, hz1, hz2⟩ := infoPr
  exact wp_append_own_wide _ s x 27 ho base 40 i0 (.agg #[.string (S []), .string (S [])]) 2 32 Tryz.underlying27 hi0 hz0 hz1 hz2 rfl (by decide) v l.length (prsVs l) hs hO ad 1 1 [.string (S k), .string (S d)] hx rfl NB.1.out NB.2.1.out NB.2.2.1.out NB.2.2.2.1.out NB.2.2.2.2.out (fun v' w' h1 h2 _ => h v' w' (buf_prs h1) h2)
theorem run_append_wide1 {W : World} {base : Nat} {v : Value} {l : List Pr} {k d : List UInt8} {a : Addr} (h : PrBuf base W v l) (ha : ∀ j u, ([.string (S k), .string (S d)] : List Value)[j]? = some u → W.cell? (a.add j) = some u) (hl : ((l.length + 1) + (l.length + 1) / 4 + 192) * 32 ≤ 281474976710656) (hb : base ≤ W.heap.size) :
    ∃ v' W', (Builtin.append_ #[27, 27] 27 #[v, .slice (some a) 1 1]).run Tryz.prog W = .ok v' W' ∧ PrBuf base W' v' (l ++ [⟨k, d⟩]) ∧ W.grownBy W' v.ownBlock := by
  obtain ⟨i0, hi, hz0, hz1, hz2⟩ := infoPr
  obtain ⟨v5, w5, hrun, hown, hgrow, _⟩ := run_append_own_wide (P := Tryz.prog) (w := W) base 27 27 40 i0 (.agg #[.string (S []), .string (S [])]) 2 32 Tryz.underlying27 hi hz0 hz1 hz2 rfl (by decide) v l.length (prsVs l) h a 1 1 [.string (S k), .string (S d)] rfl ha (prsVs_one [⟨k, d⟩]) (by unfold maxLen; omega) hl hb
  refine ⟨v5, w5, hrun, ?_, hgrow⟩
  unfold PrBuf
  rw [prsVs_app, List.length_append]
  exact hown
end Go.Proofs.YtlcadichpcdgpaaGreatDoor
