/- One pair alone; one more that is had. -/
import Derived.Test.YteapbjeapnmloaaGreatDoorGJ
import Derived.Test.YteapbjeapnmloaaGreatDoorGD
import Derived.Great.BuildSlice
import Derived.Test.YteapbjeapnmloaaGreatDoorAppBig
namespace Go.Proofs.YteapbjeapnmloaaGreatDoor
open Go Go.RowKit
set_option linter.unusedVariables false
theorem right_sole (x : Pr) : prRight [x] = if wrongP x = 0 then (0, -1) else (wrongP x, 0) := by
  unfold prRight
  rw [if_neg (by simp), prRightF_cons]
  rfl
theorem find_keys (l : List Pr) (k : List UInt8) : ∃ z b, findR (prFind l k) = .tuple #[.string (S z), .bool b] ∧ (k ∈ keysP l → b = true) ∧ (b = true → k ∈ keysP l) := by
  have h := @prFind_iff l k
  cases hp : prFind l k with
  | none => rw [hp] at h; exact ⟨[], false, rfl, fun hk => absurd (h.2 hk) (by simp), fun hf => by cases hf⟩
  | some z => rw [hp] at h; exact ⟨z, true, rfl, fun _ => rfl, fun _ => h.1 rfl⟩
/-- what New tells of one more -/
def NewS (l : List Pr) (k d : List UInt8) (rv ev : Value) (W : World) : Prop :=
  (k ∈ keysP l ∧ rv = .pointer none ∧ ErrIs W ev 9 (l.length : Int)) ∨
  (k ∉ keysP l ∧ keyFits k d = 0 ∧ (∃ nb, rv = .pointer (some ⟨nb, 0, none⟩)) ∧ ev = .nilIface) ∨
  (k ∉ keysP l ∧ keyFits k d ≠ 0 ∧ rv = .pointer none ∧ ErrIs W ev (keyFits k d : Int) (l.length : Int))
theorem NewS.later {l : List Pr} {k d : List UInt8} {rv ev : Value} {W W' : World} (h : NewS l k d rv ev W) (hb : Below W.heap.size W W') : NewS l k d rv ev W' := by
  rcases h with ⟨h1, h2, h3⟩ | h | ⟨h1, h2, h3, h4⟩
  · exact .inl ⟨h1, h2, h3.later hb⟩
  · exact .inr (.inl h)
  · exact .inr (.inr ⟨h1, h2, h3, h4.later hb⟩)
theorem new_snoc {l : List Pr} {k d : List UInt8} {v : Value} {W : World} (hM : MineOk l) (h60 : l.length ≠ 60) (hf : fitPs l) (hp : wrongP ⟨k, d⟩ = 0) (h : PrsV W v (l ++ [⟨k, d⟩])) (hE : Env W) (hg : ErrCell W) :
    Calls Tryz.prog 43 #[v] W fun e w' => ∃ rv ev, e = .returned (.tuple #[rv, ev]) ∧ NewS l k d rv ev w' ∧ Below W.heap.size W w' := by
  have hq := newN_snoc (p := ⟨k, d⟩) hM h60 hp
  have hone := fit_one hp
  have hfew := hM.few
  refine (newN_any (l ++ [⟨k, d⟩]) v W h ⟨by rw [List.length_append]; simp only [List.length_singleton]; omega, fun q hq => by
    rcases List.mem_append.1 hq with h1 | h1
    · exact hf.2 q h1
    · exact hone.2 q h1⟩ hE hg).mono ?_
  rintro e w' hr
  unfold RetNewN at hr
  rw [hq] at hr
  simp only at hr
  by_cases hk : k ∈ keysP l
  · rw [if_pos hk] at hr
    rcases hr with ⟨h0, _⟩ | ⟨_, ev, rfl, he, hb⟩
    · exact absurd h0 (by simp only; omega)
    · exact ⟨_, _, rfl, .inl ⟨hk, rfl, he⟩, hb⟩
  · rw [if_neg hk] at hr
    by_cases hz : keyFits k d = 0
    · rw [if_neg (by simpa using hz)] at hr
      rcases hr with ⟨_, nb, mv, rfl, _, _, hb⟩ | ⟨h0, _⟩
      · exact ⟨_, _, rfl, .inr (.inl ⟨hk, hz, ⟨nb, rfl⟩, rfl⟩), hb⟩
      · exact absurd rfl h0
    · rw [if_pos hz] at hr
      rcases hr with ⟨h0, _⟩ | ⟨_, ev, rfl, he, hb⟩
      · exact absurd h0 (by simp only; omega)
      · exact ⟨_, _, rfl, .inr (.inr ⟨hk, hz, rfl, he⟩), hb⟩
/-- a literal of one pair, in a region taken by hand -/
theorem buildN {o : Oper} {a : Act} {w : World} {K : Act → World → Prop} {Q : Exit → Act → World → Prop} (k d : List UInt8) (dst : Option Tmp) (hd : o.dst = dst) (t : Operand) (ho : o.op = .buildSlice 22 1 #[(0, t)]) (hx : a.eval t = .agg #[.string (S k), .string (S d)])
    (h : K (a.put dst (.slice (some ⟨w.heap.size, 0, none⟩) 1 1)) (w.alloc (.cells #[.string (S k), .string (S d)] 35))) : o.wp Tryz.prog a w K Q := by
  subst hd
  obtain ⟨i0, hi, hz0, hz1, hz2⟩ := infoPr
  refine wp_buildSlice 22 35 1 _ ho #[.string (S k), .string (S d)] i0 (.agg #[.string (S []), .string (S [])]) Tryz.underlying22 hi hz0 (by rw [hz1]; decide) (by rw [hz1]; decide) ?_ h
  rw [hz1]
  have hf : Instr.fill (fun i => some (i * 2, 2)) ((Array.range (1 * 2)).map ((.agg #[.string (S []), .string (S [])] : Value).cells[· % (.agg #[.string (S []), .string (S [])] : Value).cells.size]!)) [(0, .agg #[.string (S k), .string (S d)])] = some #[.string (S k), .string (S d)] := by kernel_rfl
  rw [← hf]
  have he : (Array.map (fun (i, x) => (i, a.eval x)) #[(0, t)]).toList = [(0, .agg #[.string (S k), .string (S d)])] := by simp [hx]
  rw [he]
/-- an append of one pair, in a region taken by hand -/
theorem appN {o : Oper} {a : Act} {w : World} {K : Act → World → Prop} {Q : Exit → Act → World → Prop} (dst : Option Tmp) (hd : o.dst = dst) (s x : Operand) (ho : o.op = .call { callee := .builtin .append, args := #[s, x], argTypes := #[22, 22] })
    {base : Nat} {v : Value} {l : List Pr} {k d : List UInt8} {ad : Addr} (hs : a.eval s = v) (hO : PrBuf base w v l) (hx : a.eval x = .slice (some ad) 1 1)
    (NB : Hid (∀ j u, ([.string (S k), .string (S d)] : List Value)[j]? = some u → w.cell? (ad.add j) = some u) ∧ Hid (∀ u ∈ ([.string (S k), .string (S d)] : List Value), u.oneCell' = true) ∧ Hid (l.length + 1 ≤ maxLen) ∧ Hid ((l.length + 1) * 32 ≤ 140737488355328) ∧ Hid (base ≤ w.heap.size))
    (h : ∀ v' w', PrBuf base w' v' (l ++ [⟨k, d⟩]) → w.grownBy w' v.ownBlock → K (a.put dst v') w') : o.wp Tryz.prog a w K Q := by
  subst hd
  obtain ⟨i0, hi0, hz0, hz1, hz2⟩ := infoPr
  exact wp_append_own _ s x 22 ho base 35 i0 (.agg #[.string (S []), .string (S [])]) 2 32 Tryz.underlying22 hi0 hz0 hz1 hz2 rfl (by decide) v l.length (prsVs l) hs hO ad 1 1 [.string (S k), .string (S d)] hx rfl NB.1.out NB.2.1.out NB.2.2.1.out NB.2.2.2.1.out NB.2.2.2.2.out (fun v' w' h1 h2 _ => h v' w' (buf_prs h1) h2)
end Go.Proofs.YteapbjeapnmloaaGreatDoor
