/- Pieces in memory; slices of PDUs, of pieces. No function of the program is walked here. -/
import Derived.Test.YtlkikkfbennmnaaGreatDoorFeedMem
import Derived.Test.YtlkikkfbennmnaaGreatDoorGE
namespace Go.Proofs.YtlkikkfbennmnaaGreatDoor
open Go.RowKit
def pcV (q : Pc) (vv va : Value) : Value := .agg #[.int .i64 q.p.h.op, .bool q.p.h.now, .int .i64 q.p.h.fl, vv, va, .string (S q.p.d), .string (S q.sp)]
def cells7 (x : Pc × Value × Value) : List Value := [.int .i64 x.1.p.h.op, .bool x.1.p.h.now, .int .i64 x.1.p.h.fl, x.2.1, x.2.2, .string (S x.1.p.d), .string (S x.1.sp)]
def pcsVs : List (Pc × Value × Value) → List Value
  | [] => []
  | x :: l => cells7 x ++ pcsVs l
theorem pcsVs_len : ∀ l, (pcsVs l).length = l.length * 7
  | [] => rfl
  | x :: l => by rw [pcsVs, List.length_append, pcsVs_len l, List.length_cons]; simp [cells7]; omega
theorem pcsVs_app : ∀ a b, pcsVs (a ++ b) = pcsVs a ++ pcsVs b
  | [], _ => rfl
  | x :: a, b => by rw [List.cons_append, pcsVs, pcsVs, pcsVs_app a b, List.append_assoc]
theorem pcsVs_get : ∀ (l : List (Pc × Value × Value)) (j q : Nat) (hj : j < l.length), q < 7 → (pcsVs l)[j * 7 + q]? = (cells7 l[j])[q]?
  | [], j, q, hj, _ => by simp at hj
  | x :: l, 0, q, _, hq => by
    rw [pcsVs, List.getElem?_append_left (by simp [cells7]; omega), Nat.zero_mul, Nat.zero_add]
    rfl
  | x :: l, j + 1, q, hj, hq => by
    have ih := pcsVs_get l j q (by simpa using hj) hq
    rw [pcsVs, List.getElem?_append_right (by simp [cells7]; omega), List.getElem_cons_succ, ← ih]
    congr 1
    simp [cells7]
    omega
/-- the values of heads, and of additional headers, are slices -/
def SlV (v : Value) : Prop := ∃ p n c, v = .slice p n c
theorem PduAt.sl {W : World} {p : Pd} {vv va : Value} (h : PduAt W p vv va) : SlV vv ∧ SlV va := by
  obtain ⟨p1, c1, h1, _⟩ := h.v
  obtain ⟨p2, c2, h2⟩ := h.a.form
  exact ⟨⟨_, _, _, h1⟩, ⟨_, _, _, h2⟩⟩
theorem cells7_one {x : Pc × Value × Value} (h1 : SlV x.2.1) (h2 : SlV x.2.2) : ∀ u ∈ cells7 x, u.oneCell' = true := by
  obtain ⟨a, b, c⟩ := x
  obtain ⟨p1, n1, c1, rfl⟩ := h1
  obtain ⟨p2, n2, c2, rfl⟩ := h2
  intro u hu
  simp [cells7] at hu
  rcases hu with rfl | rfl | rfl | rfl | rfl | rfl | rfl <;> rfl
theorem pcsVs_one : ∀ (l : List (Pc × Value × Value)), (∀ y ∈ l, SlV y.2.1 ∧ SlV y.2.2) → ∀ u ∈ pcsVs l, u.oneCell' = true
  | [], _, u, hu => by cases hu
  | x :: l, h, u, hu => by
    rw [pcsVs, List.mem_append] at hu
    rcases hu with hu | hu
    · exact cells7_one (h x (List.mem_cons_self ..)).1 (h x (List.mem_cons_self ..)).2 u hu
    · exact pcsVs_one l (fun y hy => h y (List.mem_cons_of_mem _ hy)) u hu
/-- the slice v reads as these pieces in W -/
def PcsV (W : World) (v : Value) (l : List Pc) : Prop := ∃ p c, v = .slice p l.length c ∧ l.length ≤ c ∧ (0 < l.length → ∃ b o, p = some ⟨b, o, none⟩ ∧ ∀ j (hj : j < l.length), ∃ vv va, PduAt W l[j].p vv va ∧
  W.cell? ⟨b, o + j * 7, none⟩ = some (.int .i64 l[j].p.h.op) ∧ W.cell? ⟨b, o + j * 7 + 1, none⟩ = some (.bool l[j].p.h.now) ∧ W.cell? ⟨b, o + j * 7 + 2, none⟩ = some (.int .i64 l[j].p.h.fl) ∧ W.cell? ⟨b, o + j * 7 + 3, none⟩ = some vv ∧ W.cell? ⟨b, o + j * 7 + 4, none⟩ = some va ∧
  W.cell? ⟨b, o + j * 7 + 5, none⟩ = some (.string (S l[j].p.d)) ∧ W.cell? ⟨b, o + j * 7 + 6, none⟩ = some (.string (S l[j].sp)))
theorem later_cell {W W' : World} (hb : Below W.heap.size W W') {b o : Nat} {v : Value} (h : W.cell? ⟨b, o, none⟩ = some v) : W'.cell? ⟨b, o, none⟩ = some v :=
  ((bcell hb).1 b o (block_lt_of_cell (w := W) (a := ⟨b, o, none⟩) h)).trans h
theorem PcsV.later {W W' : World} {v : Value} {l : List Pc} (h : PcsV W v l) (hb : Below W.heap.size W W') : PcsV W' v l := by
  obtain ⟨p, c, hv, hlc, hc⟩ := h
  refine ⟨p, c, hv, hlc, fun hl => ?_⟩
  obtain ⟨b, o, hp, hcell⟩ := hc hl
  refine ⟨b, o, hp, fun j hj => ?_⟩
  obtain ⟨vv, va, hP, c0, c1, c2, c3, c4, c5, c6⟩ := hcell j hj
  exact ⟨vv, va, hP.later hb, later_cell hb c0, later_cell hb c1, later_cell hb c2, later_cell hb c3, later_cell hb c4, later_cell hb c5, later_cell hb c6⟩
theorem PcsV.off {H : Nat → Prop} {W : World} {v : Value} {l : List Pc} (h : PcsV (offW H W) v l) : PcsV W v l := by
  obtain ⟨p, c, hv, hlc, hc⟩ := h
  refine ⟨p, c, hv, hlc, fun hl => ?_⟩
  obtain ⟨b, o, hp, hcell⟩ := hc hl
  refine ⟨b, o, hp, fun j hj => ?_⟩
  obtain ⟨vv, va, hP, c0, c1, c2, c3, c4, c5, c6⟩ := hcell j hj
  exact ⟨vv, va, hP.off, off_cell c0, off_cell c1, off_cell c2, off_cell c3, off_cell c4, off_cell c5, off_cell c6⟩
theorem PcsV.form {W : World} {v : Value} {l : List Pc} (h : PcsV W v l) : ∃ p c, v = .slice p l.length c := by obtain ⟨p, c, h, _⟩ := h; exact ⟨p, c, h⟩
theorem PcsV.nil (W : World) : PcsV W (.slice none 0 0) [] := ⟨none, 0, rfl, Nat.le_refl _, fun h => absurd h (by decide)⟩
theorem pcsVs_kind (full : List (Pc × Value × Value)) (hsl : ∀ x ∈ full, SlV x.2.1 ∧ SlV x.2.2) {j : Nat} {v : Value} (h : (pcsVs full)[j]? = some v) :
    (j % 7 = 0 ∧ ∃ n, v = .int .i64 n) ∨ (j % 7 = 1 ∧ ∃ b, v = .bool b) ∨ (j % 7 = 2 ∧ ∃ n, v = .int .i64 n) ∨ (j % 7 = 3 ∧ SlV v) ∨ (j % 7 = 4 ∧ SlV v) ∨ (j % 7 = 5 ∧ ∃ t, v = .string t) ∨ (j % 7 = 6 ∧ ∃ t, v = .string t) := by
  have hj : j < full.length * 7 := by
    rcases Nat.lt_or_ge j (full.length * 7) with h1 | h1
    · exact h1
    · rw [List.getElem?_eq_none (by rw [pcsVs_len]; exact h1)] at h; cases h
  have hi : j / 7 < full.length := by omega
  have hg := pcsVs_get full (j / 7) (j % 7) hi (by omega)
  rw [show j / 7 * 7 + j % 7 = j by omega, h] at hg
  obtain ⟨s1, s2⟩ := hsl _ (List.getElem_mem hi)
  have hq : j % 7 = 0 ∨ j % 7 = 1 ∨ j % 7 = 2 ∨ j % 7 = 3 ∨ j % 7 = 4 ∨ j % 7 = 5 ∨ j % 7 = 6 := by omega
  rcases hq with hq | hq | hq | hq | hq | hq | hq <;> rw [hq] at hg <;> simp [cells7] at hg <;> subst hg
  · exact .inl ⟨hq, _, rfl⟩
  · exact .inr (.inl ⟨hq, _, rfl⟩)
  · exact .inr (.inr (.inl ⟨hq, _, rfl⟩))
  · exact .inr (.inr (.inr (.inl ⟨hq, s1⟩)))
  · exact .inr (.inr (.inr (.inr (.inl ⟨hq, s2⟩))))
  · exact .inr (.inr (.inr (.inr (.inr (.inl ⟨hq, _, rfl⟩)))))
  · exact .inr (.inr (.inr (.inr (.inr (.inr ⟨hq, _, rfl⟩)))))
theorem row_cell {W : World} {g : Nat} {full : List (Pc × Value × Value)} {t : TypeId} (hg : W.heap[g]? = some (.cells (pcsVs full).toArray t (0, 0))) (j : Nat) : W.cell? ⟨g, j, none⟩ = (pcsVs full)[j]? := by
  rw [cell_of_row W g j _ t (0, 0) hg]
  simp
/-- no PDU lies in a row of pieces -/
theorem PduAt.apartRow {W W' : World} {p : Pd} {vv va : Value} (h : PduAt W p vv va) {g : Nat} {full : List (Pc × Value × Value)} {t : TypeId} (hsl : ∀ x ∈ full, SlV x.2.1 ∧ SlV x.2.2) (hg : W.heap[g]? = some (.cells (pcsVs full).toArray t (0, 0)))
    (hh : ∀ k, k ≠ g → k < W.heap.size → W'.heap[k]? = W.heap[k]?) : PduAt W' p vv va := by
  have hcell : ∀ b' o v, b' ≠ g → W.cell? ⟨b', o, none⟩ = some v → W'.cell? ⟨b', o, none⟩ = some v := fun b' o v hne hc => by
    rw [← hc]
    exact World.cell?_of_block (w := W) (hh b' hne (block_lt_of_cell (w := W) (a := ⟨b', o, none⟩) hc))
  obtain ⟨⟨q, c, hv, hx, hc⟩, ⟨qa, ca, ha, hla, hca⟩⟩ := h
  refine ⟨⟨q, c, hv, hx, fun hl => ?_⟩, ⟨qa, ca, ha, hla, fun hl => ?_⟩⟩
  · obtain ⟨b', o, hq, hce⟩ := hc hl
    have hne : b' ≠ g := by
      rintro rfl
      have h0 := hce 0 hl
      rw [row_cell hg] at h0
      rcases pcsVs_kind full hsl h0 with ⟨_, n, h⟩ | ⟨_, n, h⟩ | ⟨_, n, h⟩ | ⟨_, n, m, k, h⟩ | ⟨_, n, m, k, h⟩ | ⟨_, n, h⟩ | ⟨_, n, h⟩ <;> simp at h
    exact ⟨b', o, hq, fun j hj => hcell _ _ _ hne (hce j hj)⟩
  · obtain ⟨b', o, hq, hce⟩ := hca hl
    have hne : b' ≠ g := by
      rintro rfl
      obtain ⟨h0, h1⟩ := hce 0 hl
      rw [row_cell hg] at h0 h1
      rcases pcsVs_kind full hsl h0 with ⟨e0, n, h⟩ | ⟨e0, n, h⟩ | ⟨e0, n, h⟩ | ⟨e0, n, m, k, h⟩ | ⟨e0, n, m, k, h⟩ | ⟨e0, n, h⟩ | ⟨e0, n, h⟩ <;> first
        | (simp at h; done)
        | (rcases pcsVs_kind full hsl h1 with ⟨e1, n', h'⟩ | ⟨e1, n', h'⟩ | ⟨e1, n', h'⟩ | ⟨e1, n', m', k', h'⟩ | ⟨e1, n', m', k', h'⟩ | ⟨e1, n', h'⟩ | ⟨e1, n', h'⟩ <;> first | (simp at h'; done) | omega)
    exact ⟨b', o, hq, fun j hj => ⟨hcell _ _ _ hne (hce j hj).1, hcell _ _ _ hne (hce j hj).2⟩⟩
/-- pieces collected in a slice of the call's own: a row of pieces, whole -/
def PBuf (base : Nat) (W : World) (v : Value) (l : List Pc) : Prop :=
  (v = .slice none 0 0 ∧ l = []) ∨
  ∃ g full, v = .slice (some ⟨g, 0, none⟩) l.length full.length ∧ base ≤ g ∧ W.heap[g]? = some (.cells (pcsVs full).toArray 47 (0, 0)) ∧ (l.length ≤ full.length ∧ 0 < full.length) ∧ full.length ≤ maxLen ∧ (∀ x ∈ full, SlV x.2.1 ∧ SlV x.2.2) ∧ (full.take l.length).map (·.1) = l ∧ ∀ x ∈ full.take l.length, PduAt W x.1.p x.2.1 x.2.2
theorem PBuf.nil (base : Nat) (W : World) : PBuf base W (.slice none 0 0) [] := .inl ⟨rfl, rfl⟩
theorem PBuf.later {base : Nat} {W W' : World} {v : Value} {l : List Pc} (h : PBuf base W v l) (hb : Below W.heap.size W W') : PBuf base W' v l := by
  rcases h with h | ⟨g, full, hv, hbg, hg, h1, h2, h3, h4, h5⟩
  · exact .inl h
  · exact .inr ⟨g, full, hv, hbg, (hb.block g (Array.getElem?_eq_some_iff.1 hg).1).trans hg, h1, h2, h3, h4, fun x hx => (h5 x hx).later hb⟩
theorem PBuf.off {base : Nat} {H : Nat → Prop} {W : World} {v : Value} {l : List Pc} (h : PBuf base (offW H W) v l) : PBuf base W v l ∧ ∀ k, v.ownBlock = some k → ¬ H k := by
  rcases h with ⟨rfl, rfl⟩ | ⟨g, full, rfl, hbg, hg, h1, h2, h3, h4, h5⟩
  · exact ⟨.inl ⟨rfl, rfl⟩, fun k hk => by simp [Value.ownBlock] at hk⟩
  · have hlt : g < W.heap.size := by have := (Array.getElem?_eq_some_iff.1 hg).1; rwa [off_size] at this
    have hH : ¬ H g := fun hH => by rw [off_in hH hlt] at hg; simp at hg
    rw [off_out hH] at hg
    exact ⟨.inr ⟨g, full, rfl, hbg, hg, h1, h2, h3, h4, fun x hx => (h5 x hx).off⟩, fun k hk => by simp [Value.ownBlock] at hk; subst hk; exact hH⟩
theorem PBuf.form {base : Nat} {W : World} {v : Value} {l : List Pc} (h : PBuf base W v l) : ∃ p c, v = .slice p l.length c := by
  rcases h with ⟨rfl, rfl⟩ | ⟨g, full, hv, _⟩
  · exact ⟨none, 0, rfl⟩
  · exact ⟨_, _, hv⟩
theorem PBuf.ge {base : Nat} {W : World} {v : Value} {l : List Pc} (h : PBuf base W v l) : ∀ k, v.ownBlock = some k → base ≤ k := by
  rcases h with ⟨rfl, rfl⟩ | ⟨g, full, rfl, hbg, _⟩
  · exact fun k hk => by simp [Value.ownBlock] at hk
  · exact fun k hk => by simp [Value.ownBlock] at hk; omega
theorem PBuf.pcs {base : Nat} {W : World} {v : Value} {l : List Pc} (h : PBuf base W v l) : PcsV W v l := by
  rcases h with ⟨rfl, rfl⟩ | ⟨g, full, rfl, hbg, hg, h1, h2, h3, h4, h5⟩
  · exact PcsV.nil W
  · have h1 := h1.1
    refine ⟨_, _, rfl, h1, fun _ => ⟨g, 0, rfl, fun j hj => ?_⟩⟩
    have hjf : j < full.length := by omega
    have hl : l[j] = full[j].1 := by
      have : ((full.take l.length).map (·.1))[j]? = l[j]? := by rw [h4]
      rw [List.getElem?_map, List.getElem?_take, if_pos hj, List.getElem?_eq_getElem hjf, List.getElem?_eq_getElem hj] at this
      exact (Option.some.inj this).symm
    have hmem : full[j] ∈ full.take l.length := by
      rw [List.mem_take_iff_getElem]
      exact ⟨j, by omega, rfl⟩
    have hcell : ∀ q u, (cells7 full[j])[q]? = some u → q < 7 → W.cell? ⟨g, 0 + j * 7 + q, none⟩ = some u := fun q u hu hq => by
      rw [row_cell hg, Nat.zero_add, pcsVs_get full j q hjf hq]
      exact hu
    rw [hl]
    exact ⟨full[j].2.1, full[j].2.2, h5 _ hmem, hcell 0 _ rfl (by omega), hcell 1 _ rfl (by omega), hcell 2 _ rfl (by omega), hcell 3 _ rfl (by omega), hcell 4 _ rfl (by omega), hcell 5 _ rfl (by omega), hcell 6 _ rfl (by omega)⟩
/-- no row of pieces lies in a feed's own blocks -/
theorem PBuf.offF {base : Nat} {W : World} {B : Nat} {H : Nat → Prop} {fb : Nat} {F : Fe} (hF : FeedAt W B H fb F) {v : Value} {l : List Pc} (h : PBuf base W v l) : PBuf base (offW H W) v l := by
  rcases h with ⟨rfl, rfl⟩ | ⟨g, full, rfl, hbg, hg, h1, h2, h3, h4, h5⟩
  · exact PBuf.nil _ _
  · have h0 := h1.2
    have hH : ¬ H g := fun hH => by
      have e : W.cell? ⟨g, 1, none⟩ = some (.bool full[0].1.p.h.now) := by
        rw [row_cell hg, show (1 : Nat) = 0 * 7 + 1 from rfl, pcsVs_get full 0 1 h0 (by decide)]
        rfl
      by_cases hb : g = fb
      · subst hb
        obtain ⟨kv, t, hk, hv⟩ := hF.at_
        rw [hk.cell 1] at e
        simp at e
      · obtain ⟨n, e2⟩ := (hF.u8 g hH hb).cell e
        simp at e2
    exact .inr ⟨g, full, rfl, hbg, (off_out hH).trans hg, h1, h2, h3, h4, fun x hx => (h5 x hx).offF hF⟩
theorem infoPc : ∃ i, Tryz.prog.info? 47 = some i ∧ i.zero = some (.agg #[.int .i64 0, .bool false, .int .i64 0, .slice none 0 0, .slice none 0 0, .string (S []), .string (S [])]) ∧ i.size = 7 ∧ i.bytes = 104 := info_parts (show (Tryz.prog.info? 47).map (fun i => (i.zero, i.size, i.bytes)) = some (some (.agg #[.int .i64 0, .bool false, .int .i64 0, .slice none 0 0, .slice none 0 0, .string (S []), .string (S [])]), 7, 104) by kernel_rfl)
def zpc : Pc × Value × Value := (pc0, .slice none 0 0, .slice none 0 0)
theorem zero_pcs (n : Nat) : (Builtin.zeroCells (Value.agg #[.int .i64 0, .bool false, .int .i64 0, .slice none 0 0, .slice none 0 0, .string (S []), .string (S [])]).cells n).toList = pcsVs (List.replicate n zpc) := by
  apply List.ext_getElem?
  intro j
  by_cases hj : j < n * 7
  · have h := pcsVs_get (List.replicate n zpc) (j / 7) (j % 7) (by rw [List.length_replicate]; omega) (by omega)
    rw [show j / 7 * 7 + j % 7 = j by omega, List.getElem_replicate] at h
    rw [h]
    have hz : (Value.agg #[.int .i64 0, .bool false, .int .i64 0, .slice none 0 0, .slice none 0 0, .string (S []), .string (S [])]).cells = #[.int .i64 0, .bool false, .int .i64 0, .slice none 0 0, .slice none 0 0, .string (S []), .string (S [])] := rfl
    rw [hz]
    unfold Builtin.zeroCells
    have e1 : (#[Value.int .i64 0, .bool false, .int .i64 0, .slice none 0 0, .slice none 0 0, .string (S []), .string (S [])] : Array Value).size = 7 := rfl
    rw [e1]
    simp only [Array.toList_map, Array.toList_range, List.getElem?_map, List.getElem?_range hj, Option.map_some]
    have hq : j % 7 = 0 ∨ j % 7 = 1 ∨ j % 7 = 2 ∨ j % 7 = 3 ∨ j % 7 = 4 ∨ j % 7 = 5 ∨ j % 7 = 6 := by omega
    rcases hq with hq | hq | hq | hq | hq | hq | hq <;> rw [hq] <;> rfl
  · have a1 : (pcsVs (List.replicate n zpc))[j]? = none := List.getElem?_eq_none (by rw [pcsVs_len, List.length_replicate]; omega)
    rw [a1]
    refine List.getElem?_eq_none ?_
    rw [Array.length_toList, size_zeroCells]
    have : (Value.agg #[.int .i64 0, .bool false, .int .i64 0, .slice none 0 0, .slice none 0 0, .string (S []), .string (S [])]).cells.size = 7 := rfl
    rw [this]; omega
theorem take_pcs (l : List (Pc × Value × Value)) (n : Nat) : (pcsVs l).take (n * 7) = pcsVs (l.take n) := by
  by_cases hn : n ≤ l.length
  · have h := congrArg pcsVs (List.take_append_drop n l)
    rw [pcsVs_app] at h
    have hl : (pcsVs (l.take n)).length = n * 7 := by rw [pcsVs_len, List.length_take, Nat.min_eq_left hn]
    rw [← h, ← hl, List.take_left]
  · rw [List.take_of_length_le (by rw [pcsVs_len]; omega), List.take_of_length_le (by omega)]
set_option maxRecDepth 100000 in
/-- pieces appended to a row of pieces -/
theorem run_append_pcs {W : World} {base : Nat} {v x : Value} {l : List Pc} (ty : TypeId) (h : PBuf base W v l) (news : List (Pc × Value × Value)) (hsrc : Src Tryz.prog 7 34 x news.length (pcsVs news) W) (hP : ∀ y ∈ news, PduAt W y.1.p y.2.1 y.2.2)
    (hbase : base ≤ W.heap.size) (hlen : (l.length + news.length) * 104 ≤ 140737488355328) :
    ∃ v' W', (Builtin.append_ #[34, 34] ty #[v, x]).run Tryz.prog W = .ok v' W' ∧ PBuf base W' v' (l ++ news.map (·.1)) ∧ W.grownBy W' v.ownBlock := by
  obtain ⟨i, hi, hz, hs, hby⟩ := infoPc
  have ht : Tryz.prog.underlying 34 = some (.slice 47) := Tryz.underlying34
  have hm : maxLen = 9223372036854775807 := rfl
  have hnsl : ∀ y ∈ news, SlV y.2.1 ∧ SlV y.2.2 := fun y hy => (hP y hy).sl
  have hone := pcsVs_one news hnsl
  have hcl := pcsVs_len news
  by_cases h0 : l.length + news.length = 0
  · obtain rfl : l = [] := List.eq_nil_of_length_eq_zero (by omega)
    obtain rfl : news = [] := List.eq_nil_of_length_eq_zero (by omega)
    have hcl : (Builtin.firstCells 7 0 x).run Tryz.prog W = .ok #[] W := hsrc.cells
    have hl : ∀ w' : World, (Builtin.lenOf x).run Tryz.prog w' = .ok 0 w' := hsrc.len
    rcases h with ⟨rfl, _⟩ | ⟨g, full, rfl, hbg, hg, h1, h2, h3, h4, h5⟩
    · refine ⟨.slice none 0 0, W, ?_, PBuf.nil _ _, ⟨rfl, rfl, rfl, Nat.le_refl _, fun _ _ _ => rfl⟩⟩
      simp [Builtin.append_, run_underlying ht, sizeOf, typeInfo, hi, hs, hl, hcl]
    · refine ⟨.slice (some ⟨g, 0, none⟩) 0 full.length, W, ?_, .inr ⟨g, full, rfl, hbg, hg, h1, h2, h3, h4, h5⟩, ⟨rfl, rfl, rfl, Nat.le_refl _, fun _ _ _ => rfl⟩⟩
      have hr := run_append_room_src (P := Tryz.prog) W 34 34 ty 47 i ht hi g 0 0 full.length x 0 [] (by rw [hs]; exact hsrc) (Nat.zero_le _) (fun j hj => by cases hj) (fun j hj => by cases hj)
      exact hr
  have grow : ∀ (p : Option Addr) (c : Nat) (olds : List (Pc × Value × Value)), v = .slice p l.length c → c < l.length + news.length → olds.map (·.1) = l → (∀ x ∈ olds, PduAt W x.1.p x.2.1 x.2.2) →
      (Builtin.firstCells 7 l.length (.slice p l.length c)).run Tryz.prog W.drew = .ok (pcsVs olds).toArray W.drew →
      ∃ v' W', (Builtin.append_ #[34, 34] ty #[v, x]).run Tryz.prog W = .ok v' W' ∧ PBuf base W' v' (l ++ news.map (·.1)) ∧ W.grownBy W' v.ownBlock := by
    intro p c olds hv hc hol hoP hfirst
    have hr := run_append_grow_src (P := Tryz.prog) W 34 34 ty 47 i _ ht hi hz p l.length c (pcsVs olds) (by rw [hs]; exact hfirst) x news.length (pcsVs news) (by rw [hs]; exact hsrc) hc (by omega)
      (by rw [hby]; exact growslice_fits (by omega) (by omega))
    have hge := grownCap_ge W (l.length + news.length) c 47
    have hle := grownCap_le_maxLen W (l.length + news.length) c 47 (by omega)
    generalize grownCap W (l.length + news.length) c 47 = G at hr hge hle
    have hrow : ((pcsVs olds ++ pcsVs news).toArray ++ Builtin.zeroCells (Value.agg #[.int .i64 0, .bool false, .int .i64 0, .slice none 0 0, .slice none 0 0, .string (S []), .string (S [])]).cells (G - (l.length + news.length))) = (pcsVs (olds ++ news ++ List.replicate (G - (l.length + news.length)) zpc)).toArray := by
      apply Array.ext'
      rw [Array.toList_append, zero_pcs, pcsVs_app, pcsVs_app]
    rw [hrow, ← hv] at hr
    have hol2 : olds.length = l.length := by rw [← hol, List.length_map]
    have hlow : Below W.heap.size W (W.drew.alloc (.cells (pcsVs (olds ++ news ++ List.replicate (G - (l.length + news.length)) zpc)).toArray 47)) := (Below.refl _ _).drew.alloc (Nat.le_refl _) _
    have htk : (olds ++ news ++ List.replicate (G - (l.length + news.length)) zpc).take (l ++ news.map (·.1)).length = olds ++ news := by
      refine List.take_left' ?_
      rw [List.length_append, List.length_append, hol2, List.length_map]
    have hfl : (olds ++ news ++ List.replicate (G - (l.length + news.length)) zpc).length = G := by
      rw [List.length_append, List.length_append, List.length_replicate, hol2]; omega
    refine ⟨_, _, hr, .inr ⟨W.heap.size, olds ++ news ++ List.replicate (G - (l.length + news.length)) zpc, by rw [hfl, List.length_append, List.length_map], hbase, heap_alloc_new W.drew _, ⟨by rw [hfl, List.length_append, List.length_map]; exact hge, by rw [hfl]; omega⟩, by rw [hfl]; exact hle, ?_, ?_, ?_⟩, ⟨rfl, rfl, rfl, by simp, fun k hk _ => heap_alloc_old W.drew _ hk⟩⟩
    · intro x hx
      simp only [List.mem_append] at hx
      rcases hx with (hx | hx) | hx
      · exact (hoP x hx).sl
      · exact hnsl x hx
      · rw [(List.mem_replicate.1 hx).2]; exact ⟨⟨none, 0, 0, rfl⟩, ⟨none, 0, 0, rfl⟩⟩
    · rw [htk, List.map_append, hol]
    · rw [htk]
      intro x hx
      simp only [List.mem_append] at hx
      rcases hx with hx | hx
      · exact (hoP x hx).later hlow
      · exact (hP x hx).later hlow
  rcases id h with ⟨rfl, rfl⟩ | ⟨g, full, rfl, hbg, hg, h1, h2, h3, h4, h5⟩
  · exact grow none 0 [] rfl (by simp only [List.length_nil] at h0 ⊢; omega) rfl (fun x hx => by cases hx) (run_firstCells_none W.drew 7 0 0 0)
  · have hcell := fun j => row_cell hg j
    have htkl : (full.take l.length).length = l.length := by rw [List.length_take, Nat.min_eq_left h1.1]
    by_cases hroom : l.length + news.length ≤ full.length
    · have hfro : ∀ j, W.frozen? ⟨g, j, none⟩ = false := fun j => by unfold World.frozen?; simp [hg]
      obtain ⟨a, y, c, hf, hal, hyl⟩ : ∃ a y c, full = a ++ y ++ c ∧ a.length = l.length ∧ y.length = news.length := by
        refine ⟨full.take l.length, (full.drop l.length).take news.length, (full.drop l.length).drop news.length, ?_, htkl, ?_⟩
        · rw [List.append_assoc, List.take_append_drop, List.take_append_drop]
        · rw [List.length_take, List.length_drop]; omega
      have hta : full.take l.length = a := by rw [hf, ← hal, List.append_assoc, List.take_left]
      have hr := run_append_room_src (P := Tryz.prog) W 34 34 ty 47 i ht hi g 0 l.length full.length x news.length (pcsVs news) (by rw [hs]; exact hsrc) hroom
        (fun j hj => by
          rw [hcl] at hj
          rw [hs, Nat.zero_add, hcell, List.getElem?_eq_getElem (by rw [pcsVs_len]; omega)]
          rfl) (fun j _ => hfro _)
      have hset : W.setCells g (0 + l.length * i.size) (pcsVs news) = W.setRow g (pcsVs (a ++ news ++ c)).toArray := by
        have hst := run_storeCells_at Tryz.prog g (l.length * 7) 47 (pcsVs news) 0 _ W hg (by rw [hcl, List.size_toArray, pcsVs_len]; omega) hone
        have hst2 := run_storeCells_cells (P := Tryz.prog) g (0 + l.length * i.size) (pcsVs news) 0 W
          (fun j hj => by
            rw [hcl] at hj
            rw [hs, Nat.zero_add, Nat.add_zero, hcell, List.getElem?_eq_getElem (by rw [pcsVs_len]; omega)]
            rfl) (fun j _ => hfro _) hone
        simp only [Nat.add_zero, Nat.zero_add, hs] at hst hst2
        rw [hst] at hst2
        have h6 := (Result.ok.inj hst2).2
        rw [hs, Nat.zero_add, ← h6]
        congr 2
        have e1 : (pcsVs full).take (l.length * 7) = pcsVs a := by rw [take_pcs, hta]
        have e2 : (pcsVs full).drop (l.length * 7 + (pcsVs news).length) = pcsVs c := by
          rw [hf, pcsVs_app]
          refine List.drop_left' ?_
          rw [pcsVs_len, List.length_append, hal, hcl, hyl]; omega
        simp only [e1, e2]
        rw [pcsVs_app, pcsVs_app]
      rw [hset] at hr
      have hfl : (a ++ news ++ c).length = full.length := by rw [hf]; simp [hyl]
      have hoth : ∀ k, k ≠ g → (W.setRow g (pcsVs (a ++ news ++ c)).toArray).heap[k]? = W.heap[k]? := fun k hk => setRow_other W g k _ hk
      have htk : (a ++ news ++ c).take (l ++ news.map (·.1)).length = a ++ news := by
        refine List.take_left' ?_
        rw [List.length_append, List.length_append, hal, List.length_map]
      refine ⟨_, _, hr, .inr ⟨g, a ++ news ++ c, by rw [hfl, List.length_append, List.length_map], hbg, setRow_heap W g _ _ _ _ hg, ⟨by rw [hfl, List.length_append, List.length_map]; exact hroom, by rw [hfl]; exact h1.2⟩, by rw [hfl]; exact h2, ?_, ?_, ?_⟩, ⟨rfl, rfl, rfl, by simp [World.setRow], fun k _ hk => hoth k (fun e => hk (by simp [Value.ownBlock, e]))⟩⟩
      · intro x hx
        simp only [List.mem_append] at hx
        rcases hx with (hx | hx) | hx
        · exact h3 x (by rw [hf]; simp [hx])
        · exact hnsl x hx
        · exact h3 x (by rw [hf]; simp [hx])
      · rw [htk, List.map_append, ← hta, h4]
      · rw [htk]
        intro x hx
        simp only [List.mem_append] at hx
        rcases hx with hx | hx
        · exact (h5 x (by rw [hta]; exact hx)).apartRow h3 hg (fun k hk _ => hoth k hk)
        · exact (hP x hx).apartRow h3 hg (fun k hk _ => hoth k hk)
    · refine grow (some ⟨g, 0, none⟩) full.length (full.take l.length) rfl (by omega) h4 h5 (run_firstCells_some W.drew 7 l.length ⟨g, 0, none⟩ l.length full.length (pcsVs (full.take l.length)) (by rw [pcsVs_len, htkl]) (fun j u hu => ?_))
      rw [Addr.add_lit, Nat.zero_add]
      have : W.drew.cell? ⟨g, j, none⟩ = W.cell? ⟨g, j, none⟩ := rfl
      rw [this, hcell]
      rw [← take_pcs, List.getElem?_take] at hu
      split at hu
      · exact hu
      · cases hu
/-- a piece appended to a row of pieces -/
theorem run_append_pc {W : World} {base : Nat} {v : Value} {l : List Pc} (ty : TypeId) (h : PBuf base W v l) (q : Pc) (vv va : Value) (b : Nat) (t : TypeId) (hb : Blk W b #[.int .i64 q.p.h.op, .bool q.p.h.now, .int .i64 q.p.h.fl, vv, va, .string (S q.p.d), .string (S q.sp)] t) (hs1 : SlV vv) (hs2 : SlV va)
    (hP : PduAt W q.p vv va) (hbase : base ≤ W.heap.size) (hlen : (l.length + 1) * 104 ≤ 140737488355328) :
    ∃ v' W', (Builtin.append_ #[34, 34] ty #[v, .slice (some ⟨b, 0, none⟩) 1 1]).run Tryz.prog W = .ok v' W' ∧ PBuf base W' v' (l ++ [q]) ∧ W.grownBy W' v.ownBlock := by
  have hsrc : Src Tryz.prog 7 34 (.slice (some ⟨b, 0, none⟩) 1 1) 1 (pcsVs [(q, vv, va)]) W := Src.ofSlice W Tryz.underlying34 ⟨b, 0, none⟩ 1 1 _ rfl (fun j u hu => by
    rw [Addr.add_lit, Nat.zero_add, hb.cell j]
    rw [← hu]
    simp [pcsVs, cells7]) (pcsVs_one _ (fun y hy => by rw [List.mem_singleton.1 hy]; exact ⟨hs1, hs2⟩))
  exact run_append_pcs ty h [(q, vv, va)] hsrc (fun y hy => by rw [List.mem_singleton.1 hy]; exact hP) hbase hlen
/-- what a row of pieces yields -/
theorem PBuf.src {base : Nat} {W : World} {v : Value} {l : List Pc} (h : PBuf base W v l) : ∃ news : List (Pc × Value × Value), news.map (·.1) = l ∧ news.length = l.length ∧ Src Tryz.prog 7 34 v news.length (pcsVs news) W ∧ ∀ y ∈ news, PduAt W y.1.p y.2.1 y.2.2 := by
  rcases h with ⟨rfl, rfl⟩ | ⟨g, full, rfl, hbg, hg, h1, h2, h3, h4, h5⟩
  · exact ⟨[], rfl, rfl, Src.ofNil W Tryz.underlying34 0, fun y hy => by cases hy⟩
  · have hl : (full.take l.length).length = l.length := by rw [List.length_take, Nat.min_eq_left h1.1]
    refine ⟨full.take l.length, h4, hl, ?_, h5⟩
    rw [hl]
    refine Src.ofSlice W Tryz.underlying34 ⟨g, 0, none⟩ l.length full.length _ (by rw [pcsVs_len, hl]) (fun j u hu => ?_) (pcsVs_one _ (fun y hy => h3 y (List.mem_of_mem_take hy)))
    rw [Addr.add_lit, Nat.zero_add, row_cell hg]
    rw [← take_pcs, List.getElem?_take] at hu
    split at hu
    · exact hu
    · cases hu
/-- no piece lies in a feed's own blocks -/
theorem PcsV.offF {W : World} {B : Nat} {H : Nat → Prop} {fb : Nat} {F : Fe} (hF : FeedAt W B H fb F) {v : Value} {l : List Pc} (h : PcsV W v l) : PcsV (offW H W) v l := by
  obtain ⟨p, c, hv, hlc, hc⟩ := h
  refine ⟨p, c, hv, hlc, fun hl => ?_⟩
  obtain ⟨b, o, hp, hcell⟩ := hc hl
  have hH : ¬ H b := fun hH => by
    obtain ⟨vv, va, _, c0, c1, _⟩ := hcell 0 hl
    by_cases hb : b = fb
    · subst hb
      obtain ⟨kv, t, hk, hv⟩ := hF.at_
      obtain ⟨pk, ck, rfl, _⟩ := hv.form
      rcases four_cell hk c1 with ⟨_, h⟩ | ⟨_, h⟩ | ⟨_, h⟩ | ⟨e, _⟩
      · simp at h
      · simp at h
      · simp at h
      · rcases four_cell hk c0 with ⟨e', _⟩ | ⟨e', _⟩ | ⟨_, h⟩ | ⟨_, h⟩
        · omega
        · omega
        · simp at h
        · simp at h
    · obtain ⟨n, h⟩ := (hF.u8 b hH hb).cell c1
      simp at h
  refine ⟨b, o, hp, fun j hj => ?_⟩
  obtain ⟨vv, va, hP, c0, c1, c2, c3, c4, c5, c6⟩ := hcell j hj
  have e : ∀ j, (offW H W).cell? ⟨b, j, none⟩ = W.cell? ⟨b, j, none⟩ := fun j => off_to (a := ⟨b, j, none⟩) hH
  exact ⟨vv, va, hP.offF hF, by rw [e]; exact c0, by rw [e]; exact c1, by rw [e]; exact c2, by rw [e]; exact c3, by rw [e]; exact c4, by rw [e]; exact c5, by rw [e]; exact c6⟩
/-! slices of PDUs that came in -/
def PdusV (W : World) (v : Value) (l : List Pd) : Prop := ∃ p c, v = .slice p l.length c ∧ (0 < l.length → ∃ b o, p = some ⟨b, o, none⟩ ∧ ∀ j (hj : j < l.length), ∃ vv va, PduAt W l[j] vv va ∧
  W.cell? ⟨b, o + j * 6, none⟩ = some (.int .i64 l[j].h.op) ∧ W.cell? ⟨b, o + j * 6 + 1, none⟩ = some (.bool l[j].h.now) ∧ W.cell? ⟨b, o + j * 6 + 2, none⟩ = some (.int .i64 l[j].h.fl) ∧ W.cell? ⟨b, o + j * 6 + 3, none⟩ = some vv ∧ W.cell? ⟨b, o + j * 6 + 4, none⟩ = some va ∧
  W.cell? ⟨b, o + j * 6 + 5, none⟩ = some (.string (S l[j].d)))
theorem PdusV.later {W W' : World} {v : Value} {l : List Pd} (h : PdusV W v l) (hb : Below W.heap.size W W') : PdusV W' v l := by
  obtain ⟨p, c, hv, hc⟩ := h
  refine ⟨p, c, hv, fun hl => ?_⟩
  obtain ⟨b, o, hp, hcell⟩ := hc hl
  refine ⟨b, o, hp, fun j hj => ?_⟩
  obtain ⟨vv, va, hP, c0, c1, c2, c3, c4, c5⟩ := hcell j hj
  exact ⟨vv, va, hP.later hb, later_cell hb c0, later_cell hb c1, later_cell hb c2, later_cell hb c3, later_cell hb c4, later_cell hb c5⟩
theorem PdusV.form {W : World} {v : Value} {l : List Pd} (h : PdusV W v l) : ∃ p c, v = .slice p l.length c := by obtain ⟨p, c, h, _⟩ := h; exact ⟨p, c, h⟩
end Go.Proofs.YtlkikkfbennmnaaGreatDoor
