/- LA02: several texts in one. -/
import Derived.Deep.AppendSrc
import Derived.Deep.RegionLaw
import Derived.LaidEql
import Derived.Laws.MakeOwn
import Derived.Laws.OwnMore
import Derived.RowKitTokens
import Derived.StillTailTactics
import Derived.Stop.Asserts
import Derived.Test.YtjbbbpgcegcbaaaGreatDoorRows
import Derived.Test.YtjbbbpgcegcbaaaGreatDoorLA01
namespace Go.Proofs.YtjbbbpgcegcbaaaGreatDoor
open Go.RowKit
def byteV (b : UInt8) : Value := .int .u8 (b.toNat : Int)
def bytesV (l : List UInt8) : List Value := l.map byteV
theorem bytesV_len (l : List UInt8) : (bytesV l).length = l.length := by simp [bytesV]
theorem bytesV_app (a b : List UInt8) : bytesV (a ++ b) = bytesV a ++ bytesV b := by simp [bytesV]
theorem bytesV_one (l : List UInt8) : ∀ u ∈ bytesV l, u.oneCell' = true := fun u hu => by
 simp [bytesV] at hu; obtain ⟨b, _, rfl⟩ := hu; rfl
theorem bytesV_cells (l : List UInt8) : (cells8 l).toList = bytesV l := by simp [cells8, bytesV, byteV]
def Buf (E : TypeId) (base : Nat) (W : World) (v : Value) (l : List UInt8) : Prop := W.ownsRow base E 1 v l.length (bytesV l)
theorem buf_nil (E : TypeId) (base : Nat) (W : World) : Buf E base W (.slice none 0 0) [] := World.ownsRow_nil W base E 1
theorem Buf.alloc {E : TypeId} {base : Nat} {W : World} {v : Value} {l : List UInt8} (h : Buf E base W v l) (o : Obj) : Buf E base (W.alloc o) v l := World.ownsRow.alloc h o
theorem Buf.drew {E : TypeId} {base : Nat} {W : World} {v : Value} {l : List UInt8} (h : Buf E base W v l) : Buf E base W.drew v l := h
theorem run_string_buf {P : Program} (src dst e : TypeId) (hs : P.underlying src = some (.slice e)) (he : P.underlying e = some (.int .u8)) (hd : P.underlying dst = some .string)
  {E : TypeId} {base : Nat} {W : World} {v : Value} {l : List UInt8} (h : Buf E base W v l) : (convert src dst v).run P W = .ok (.string (S l)) W := by
 rcases h.2 with ⟨rfl, h0⟩ | ⟨g, cap, cur, rfl, hbg, hg, hnc, hcm, hcs, htake⟩
 ·have : l = [] := List.eq_nil_of_length_eq_zero h0
  subst this
  have hn := run_convert_bytes_nil (P := P) W src e hs he 0 0
  have hc := run_convert_bytes_back (P := P) W src dst e ⟨0, 0, none⟩ 0 [] hs he hd (fun j hj => absurd hj (by simp))
  simp [convert, run_underlying hs, run_underlying he, run_underlying hd] at hn hc ⊢
  first | exact hn | exact hc | rfl
 ·exact run_convert_bytes_back (P := P) W src dst e ⟨g, 0, none⟩ cap l hs he hd (fun j hj => by
   have h2 := World.ownsRow.cells h (g := g) rfl j (byteV l[j]) (by simp [bytesV, List.getElem?_eq_getElem hj])
   exact h2)
theorem run_append_buf {P : Program} (w : World) (t tx ty e : TypeId) (i : TypeInfo) (ht : P.underlying t = some (.slice e)) (hi : P.info? e = some i) (hz : i.zero = some (.int .u8 0)) (hsize : i.size = 1) (hby : i.bytes = 1)
  (base : Nat) (hbase : base ≤ w.heap.size) (v : Value) (l : List UInt8) (hbuf : Buf e base w v l) (x : Value) (news : List UInt8) (hsrc : Src P 1 tx x news.length (bytesV news) w)
  (hlen : l.length + news.length ≤ 140737488355328) :
  ∃ v' w', (Builtin.append_ #[t, tx] ty #[v, x]).run P w = .ok v' w' ∧ Buf e base w' v' (l ++ news) ∧ w.grownBy w' v.ownBlock ∧ Below base w w' ∧ w.heap.size ≤ w'.heap.size := by
 have hm : maxLen = 9223372036854775807 := rfl
 have hlenV : (bytesV (l ++ news)).length = (l ++ news).length * 1 := by rw [bytesV_len]; omega
 have grown : ∀ (old : Nat), old < l.length + news.length → ∀ (row : Option Nat),
   Buf e base (w.drew.alloc (.cells ((bytesV l ++ bytesV news).toArray ++ Builtin.zeroCells (Value.int .u8 0).cells (grownCap w (l.length + news.length) old e - (l.length + news.length))) e))
    (.slice (some ⟨w.heap.size, 0, none⟩) (l.length + news.length) (grownCap w (l.length + news.length) old e)) (l ++ news) ∧
   w.grownBy (w.drew.alloc (.cells ((bytesV l ++ bytesV news).toArray ++ Builtin.zeroCells (Value.int .u8 0).cells (grownCap w (l.length + news.length) old e - (l.length + news.length))) e)) row := by
  intro old ho row
  have hge := grownCap_ge w (l.length + news.length) old e
  have hcm : grownCap w (l.length + news.length) old e ≤ maxLen := grownCap_le_maxLen w (l.length + news.length) old e (by omega)
  refine ⟨⟨hlenV, .inr ⟨w.heap.size, _, _, by rw [List.length_append], hbase, heap_alloc_new w.drew _, by rw [List.length_append]; exact hge, hcm, ?_, ?_⟩⟩, ⟨rfl, rfl, rfl, by simp, fun k hk _ => heap_alloc_old w.drew _ hk⟩⟩
  ·simp only [Array.size_append, List.size_toArray, size_zeroCells, List.length_append, bytesV_len]
   have : (Value.int .u8 0).cells.size = 1 := rfl
   rw [this]; omega
  ·simp only [Array.toList_append]
   rw [← bytesV_app, ← hlenV]
   exact List.take_left
 have below : ∀ w' : World, w.grownBy w' v.ownBlock → Below base w w' := fun w' hg =>
  (Below.refl _ _).grown hg hbase (fun k hk => (World.ownsRow.lt hbuf k hk).1)
 have fin : ∀ v' w', (Builtin.append_ #[t, tx] ty #[v, x]).run P w = .ok v' w' → Buf e base w' v' (l ++ news) → w.grownBy w' v.ownBlock →
   ∃ v' w', (Builtin.append_ #[t, tx] ty #[v, x]).run P w = .ok v' w' ∧ Buf e base w' v' (l ++ news) ∧ w.grownBy w' v.ownBlock ∧ Below base w w' ∧ w.heap.size ≤ w'.heap.size :=
  fun v' w' h1 h2 h3 => ⟨v', w', h1, h2, h3, below w' h3, h3.size⟩
 rcases hbuf.2 with ⟨rfl, h0⟩ | ⟨g, cap, cur, rfl, hbg, hg, hnc, hcm, hcs, htake⟩
 ·obtain rfl : l = [] := List.eq_nil_of_length_eq_zero h0
  by_cases hm0 : news.length = 0
  ·obtain rfl : news = [] := List.eq_nil_of_length_eq_zero hm0
   refine fin (.slice none 0 0) w ?_ (buf_nil e base w) ⟨rfl, rfl, rfl, Nat.le_refl _, fun _ _ _ => rfl⟩
   have hc : (Builtin.firstCells 1 0 x).run P w = .ok #[] w := hsrc.cells
   have hl : ∀ w' : World, (Builtin.lenOf x).run P w' = .ok 0 w' := hsrc.len
   rcases hsrc.kind with ⟨e', hk⟩ | hk <;> simp [Builtin.append_, run_underlying ht, run_underlying hk, sizeOf, typeInfo, hi, hsize, hl, hc]
  ·have hr := run_append_grow_src (P := P) w t tx ty e i (.int .u8 0) ht hi hz none 0 0 [] (by rw [hsize]; exact run_firstCells_none w.drew 1 0 0 0) x news.length (bytesV news) (by rw [hsize]; exact hsrc) (by omega) (by omega)
    (by rw [hby]; exact growslice_fits (by omega) (by omega))
   have hgr := grown 0 (by simp only [List.length_nil]; omega) (Value.ownBlock (.slice none 0 0))
   simp only [List.length_nil, Nat.zero_add, List.nil_append, bytesV, List.map_nil] at hgr hr ⊢
   exact fin _ _ hr hgr.1 hgr.2
 ·by_cases hroom : l.length + news.length ≤ cap
  ·have hcell : ∀ j, j < cap → w.cell? ⟨g, j, none⟩ = cur[j]? := fun j _ => cell_of_row w g j cur e (0, 0) hg
   have hfro : ∀ j, w.frozen? ⟨g, j, none⟩ = false := fun j => World.ownsRow.frozenAt hbuf j
   have hr := run_append_room_src (P := P) w t tx ty e i ht hi g 0 l.length cap x news.length (bytesV news) (by rw [hsize]; exact hsrc) hroom
    (fun j hj => by
     rw [bytesV_len] at hj
     have h1 := hcell (0 + l.length * i.size + j) (by rw [hsize]; omega)
     rw [h1, Array.getElem?_eq_getElem (by rw [hcs, hsize]; omega)]
     rfl) (fun j _ => hfro _)
   have hset : w.setCells g (0 + l.length * i.size) (bytesV news) = w.setRow g ((cur.toList.take l.length ++ bytesV news ++ cur.toList.drop (l.length + news.length)).toArray) := by
    have hst := run_storeCells_at P g (l.length * 1) e (bytesV news) 0 cur w hg (by rw [bytesV_len]; omega) (bytesV_one news)
    have hst2 := run_storeCells_cells (P := P) g (0 + l.length * i.size) (bytesV news) 0 w
     (fun j hj => by
      rw [bytesV_len] at hj
      have h1 := hcell (0 + l.length * i.size + 0 + j) (by rw [hsize]; omega)
      rw [h1, Array.getElem?_eq_getElem (by rw [hcs, hsize]; omega)]
      rfl) (fun j _ => hfro _) (bytesV_one news)
    simp only [Nat.add_zero, Nat.mul_one, Nat.zero_add, hsize, bytesV_len] at hst hst2
    rw [hst] at hst2
    have := Result.ok.inj hst2
    rw [hsize]
    simpa using this.2.symm
   rw [hset] at hr
   refine fin _ _ hr ⟨hlenV, .inr ⟨g, cap, _, by rw [List.length_append], hbg, setRow_heap w g cur _ e _ hg, by rw [List.length_append]; exact hroom, hcm, ?_, ?_⟩⟩
    ⟨rfl, rfl, rfl, by simp, fun k _ hk => setRow_other w g k _ (fun e => hk (by simp [Value.ownBlock, e]))⟩
   ·simp only [List.size_toArray, List.length_append, List.length_take, List.length_drop, Array.length_toList, bytesV_len]
    omega
   ·have ht2 : cur.toList.take l.length = bytesV l := by simpa using htake
    rw [ht2, ← bytesV_app]
    rw [List.length_append, ← List.length_append, ← hlenV]
    exact List.take_left
  ·have holds : ∀ j u, (bytesV l)[j]? = some u → w.cell? ((⟨g, 0, none⟩ : Addr).add j) = some u := World.ownsRow.cells hbuf (g := g) rfl
   have hr := run_append_grow_src (P := P) w t tx ty e i (.int .u8 0) ht hi hz (some ⟨g, 0, none⟩) l.length cap (bytesV l)
    (by rw [hsize]; exact run_firstCells_some w.drew 1 l.length ⟨g, 0, none⟩ l.length cap (bytesV l) (by rw [bytesV_len]; omega) (by simpa using holds)) x news.length (bytesV news) (by rw [hsize]; exact hsrc) (by omega) (by omega)
    (by rw [hby]; exact growslice_fits (by omega) (by omega))
   have hgr := grown cap (by omega) (Value.ownBlock (.slice (some ⟨g, 0, none⟩) l.length cap))
   exact fin _ _ hr hgr.1 hgr.2
theorem wp_append_buf {P : Program} {w : World} {o : Oper} {a : Act} {K : Act → World → Prop} {Q : Exit → Act → World → Prop} (s x : Operand) (t tx : TypeId)
  (ho : o.op = .call { callee := .builtin .append, args := #[s, x], argTypes := #[t, tx] })
  (e : TypeId) (i : TypeInfo) (ht : P.underlying t = some (.slice e)) (hi : P.info? e = some i) (hz : i.zero = some (.int .u8 0)) (hsize : i.size = 1) (hby : i.bytes = 1)
  (base : Nat) (v : Value) (l : List UInt8) (hs : a.eval s = v) (hbuf : Buf e base w v l) (hbase : base ≤ w.heap.size) (xv : Value) (news : List UInt8) (hx : a.eval x = xv) (hsrc : Src P 1 tx xv news.length (bytesV news) w)
  (hlen : l.length + news.length ≤ 140737488355328)
  (h : ∀ v' w', Buf e base w' v' (l ++ news) → Below base w w' → w.heap.size ≤ w'.heap.size → w.grownBy w' v.ownBlock → K (a.put o.dst v') w') : o.wp P a w K Q := by
 obtain ⟨v', w', hr, h2, h3, h4, h5⟩ := run_append_buf (P := P) w t tx o.type e i ht hi hz hsize hby base hbase v l hbuf xv news hsrc hlen
 unfold Oper.wp execOp
 simp only [ho, resolve, invoke, builtin, Sem.run_bind, Sem.run_pure, Result.andThen_ok, List.map_toArray, List.map_cons, List.map_nil, hs, hx, hr]
 exact h v' w' h2 h4 h5 h3
theorem wpList_append_buf {P : Program} {w : World} {ops : Array Oper} {rest : List Oper} {o : Oper} {a : Act} {Q : Exit → Act → World → Prop} (hgd : o.guard = none) (s x : Operand) (t tx : TypeId)
  (ho : o.op = .call { callee := .builtin .append, args := #[s, x], argTypes := #[t, tx] })
  (e : TypeId) (i : TypeInfo) (ht : P.underlying t = some (.slice e)) (hi : P.info? e = some i) (hz : i.zero = some (.int .u8 0)) (hsize : i.size = 1) (hby : i.bytes = 1)
  (base : Nat) (v : Value) (l : List UInt8) (hs : a.eval s = v) (hbuf : Buf e base w v l) (hbase : base ≤ w.heap.size) (xv : Value) (news : List UInt8) (hx : a.eval x = xv) (hsrc : Src P 1 tx xv news.length (bytesV news) w)
  (hlen : l.length + news.length ≤ 140737488355328)
  (h : ∀ v' w', Buf e base w' v' (l ++ news) → Below base w w' → w.heap.size ≤ w'.heap.size → w.grownBy w' v.ownBlock → wpList P ops Q rest (a.put o.dst v') w') : wpList P ops Q (o :: rest) a w :=
 wpList_plain hgd fun _ hK => wp_append_buf s x t tx ho e i ht hi hz hsize hby base v l hs hbuf hbase xv news hx hsrc hlen fun v' w' h2 h3 h4 h5 => hK _ _ (h v' w' h2 h3 h4 h5)
theorem step_append_buf {P : Program} {w : World} {ops : Array Oper} {o : Oper} {a : Act} {K : Act → World → Prop} {Q : Exit → Act → World → Prop} {E : Prop} (hgd : o.guard = none) (s x : Operand) (t tx : TypeId)
  (ho : o.op = .call { callee := .builtin .append, args := #[s, x], argTypes := #[t, tx] })
  (e : TypeId) (i : TypeInfo) (ht : P.underlying t = some (.slice e)) (hi : P.info? e = some i) (hz : i.zero = some (.int .u8 0)) (hsize : i.size = 1) (hby : i.bytes = 1)
  (base : Nat) (v : Value) (l : List UInt8) (hs : a.eval s = v) (hbuf : Buf e base w v l) (hbase : base ≤ w.heap.size) (xv : Value) (news : List UInt8) (hx : a.eval x = xv) (hsrc : Src P 1 tx xv news.length (bytesV news) w)
  (hlen : l.length + news.length ≤ 140737488355328)
  (h : ∀ v' w', Buf e base w' v' (l ++ news) → Below base w w' → w.heap.size ≤ w'.heap.size → w.grownBy w' v.ownBlock → K (a.put o.dst v') w') :
  if Region.wanted o (yielded ops a.tmps) = true then Oper.wp P o a w K Q else E := by
 have hw : Region.wanted o (yielded ops a.tmps) = true := by simp [Region.wanted, hgd]
 rw [if_pos hw]
 exact wp_append_buf s x t tx ho e i ht hi hz hsize hby base v l hs hbuf hbase xv news hx hsrc hlen h
theorem src_string {P : Program} {tx : TypeId} (hk : P.underlying tx = some .string) (l : List UInt8) (w : World) : Src P 1 tx (.string (S l)) l.length (bytesV l) w := by
 have h := Src.ofString (P := P) (w := w) hk (S l)
 rw [S_size] at h
 have e : byteCells (S l) = bytesV l := by simp [byteCells, S, bytesV, byteV]
 rw [e] at h; exact h
theorem src_block {P : Program} {tx e' : TypeId} (hk : P.underlying tx = some (.slice e')) {w : World} {b : Nat} {l : List UInt8} (h : BytesAt w b l) (n c : Nat) (hn : n ≤ l.length) :
  Src P 1 tx (.slice (some ⟨b, 0, none⟩) n c) (l.take n).length (bytesV (l.take n)) w := by
 have hl : (l.take n).length = n := by simp; omega
 rw [hl]
 refine Src.ofSlice (w := w) hk ⟨b, 0, none⟩ n c (bytesV (l.take n)) (by rw [bytesV_len]; omega) (fun j u hu => ?_) (bytesV_one _)
 have e1 : (⟨b, 0, none⟩ : Addr).add j = ⟨b, j, none⟩ := by simp [Addr.add]; omega
 have hj : j < (l.take n).length := by
  rcases Nat.lt_or_ge j (l.take n).length with h | h
  ·exact h
  ·rw [List.getElem?_eq_none (by rw [bytesV_len]; exact h)] at hu; cases hu
 rw [e1, bytesAt_get h j (by omega)]
 have hu2 : (bytesV (l.take n))[j]? = some (byteV (l.take n)[j]) := by unfold bytesV; rw [List.getElem?_map, List.getElem?_eq_getElem hj]; rfl
 rw [hu2] at hu
 rw [← Option.some.inj hu]
 simp [byteV]
theorem src_lit {P : Program} {tx e' : TypeId} (hk : P.underlying tx = some (.slice e')) (w : World) (l : List UInt8) (t : TypeId) (fr : Nat × Nat) (n c : Nat) (hn : n = l.length) :
  Src P 1 tx (.slice (some ⟨w.heap.size, 0, none⟩) n c) l.length (bytesV l) (w.alloc (.cells (cells8 l) t fr)) := by
 have h := src_block (P := P) hk (bytesAt_new w l t fr) n c (by omega)
 rw [List.take_of_length_le (by omega)] at h
 exact h
theorem run_make_buf {P : Program} (w : World) (t e : TypeId) (i : TypeInfo) (ht : P.underlying t = some (.slice e)) (hi : P.info? e = some i) (hz : i.zero = some (.int .u8 0)) (hsize : i.size = 1) (hby : i.bytes = 1)
  (kl kc : IntKind) (c : Nat) (hc : c ≤ 140737488355328) :
  (Instr.makeSlice t (.int kl 0) (.int kc (c : Int))).run P w = .ok (.slice (some ⟨w.heap.size, 0, none⟩) 0 c) (w.alloc (.cells (madeCells #[.int .u8 0] c) e)) := by
 have h := run_make (P := P) w t e i (.int .u8 0) ht hi hz kl kc 0 c (Int.le_refl _) (by omega) (by rw [hby]; omega) (by omega)
 simp only [Int.toNat_zero, Int.toNat_natCast, hsize, Nat.mul_one] at h
 exact h
theorem buf_made (w : World) (e : TypeId) (c : Nat) (hc : c ≤ 140737488355328) (base : Nat) (hb : base ≤ w.heap.size) :
  Buf e base (w.alloc (.cells (madeCells #[.int .u8 0] c) e)) (.slice (some ⟨w.heap.size, 0, none⟩) 0 c) [] :=
 World.ownsRow_made w _ c hb (by unfold maxLen; omega) (by rw [size_madeCells, Nat.mul_one])
theorem run_make_bytes {P : Program} (w : World) (t e : TypeId) (i : TypeInfo) (ht : P.underlying t = some (.slice e)) (hi : P.info? e = some i) (hz : i.zero = some (.int .u8 0)) (hsize : i.size = 1) (hby : i.bytes = 1)
  (kl kc : IntKind) (c : Nat) (hc : c ≤ 140737488355328) :
  (Instr.makeSlice t (.int kl (c : Int)) (.int kc (c : Int))).run P w = .ok (.slice (some ⟨w.heap.size, 0, none⟩) c c) (w.alloc (.cells (cells8 (List.replicate c 0)) e)) := by
 have h := run_make (P := P) w t e i (.int .u8 0) ht hi hz kl kc c c (by omega) (Int.le_refl _) (by rw [hby]; omega) (by omega)
 simp only [Int.toNat_natCast, hsize, Nat.mul_one] at h
 have e1 : madeCells (Value.int .u8 0).cells c = cells8 (List.replicate c 0) := by
  apply Array.ext'
  rw [show (Value.int .u8 0).cells = #[Value.int .u8 0] from rfl, toList_madeCells_one]
  simp [cells8]
 rw [e1] at h
 exact h
theorem buf_block (w : World) (e : TypeId) (l : List UInt8) (n : Nat) (hn : n = l.length) (hc : l.length ≤ 140737488355328) (base : Nat) (hb : base ≤ w.heap.size) :
  Buf e base (w.alloc (.cells (cells8 l) e)) (.slice (some ⟨w.heap.size, 0, none⟩) n n) l := by
 subst hn
 have h := World.ownsRow_lit (base := base) (e := e) (size := 1) w (cells8 l) l.length hb (by unfold maxLen; omega) (by rw [cells8_size, Nat.mul_one])
 rw [bytesV_cells] at h
 exact h
end Go.Proofs.YtjbbbpgcegcbaaaGreatDoor
namespace Go.Proofs.YtjbbbpgcegcbaaaGreatDoor
open Go.RowKit Go.Extern.Stop Go.Stop Go.Extern
theorem vOf_P (t : Addr) (w : World) : (ReflectliteValue.unpack (.iface 124 (.pointer (some t)))).run Tryz.prog w
  = .ok (.agg #[.pointer (some ⟨11, 124, none⟩), .pointer (some ⟨w.heap.size, 0, none⟩), .int .u64 150]) (w.alloc (.cells #[.pointer (some t)] 124)) := by kernel_rfl
theorem type_P (a : Addr) (w : World) : (ReflectliteValue.methodAny (ReflectliteValue.valueError "reflectlite.Value.Type" 0) (fun t _ _ _ => ReflectliteType.toType t) #[.agg #[.pointer (some ⟨11, 124, none⟩), .pointer (some a), .int .u64 150]]).run Tryz.prog w
  = .ok (.iface 230 (.agg #[.pointer (some ⟨11, 124, none⟩)])) w := by kernel_rfl
theorem m_Kind (h : Value) (w : World) : (Go.method 449 230 (.agg #[h]) "Kind").run Tryz.prog w = .ok (234, h) w := by kernel_rfl
theorem kind_P (w : World) : ((ReflectliteType.abiMethod fun t => (fun a : Nat => Value.int IntKind.u8 (a : Int)) <$> Rtype.kind t) #[.pointer (some ⟨11, 124, none⟩)]).run Tryz.prog w = .ok (.int .u8 22) w := by kernel_rfl
theorem kind_E (w : World) : ((ReflectliteType.abiMethod fun t => (fun a : Nat => Value.int IntKind.u8 (a : Int)) <$> Rtype.kind t) #[.pointer (some ⟨11, 56, none⟩)]).run Tryz.prog w = .ok (.int .u8 2) w := by kernel_rfl
theorem rlm (z : Sem Value) (f : TypeId → Addr → Nat → Nat → Sem Value) (v : Value) :
  ReflectliteValue.method z f #[v] = (do match ← ReflectliteValue.parts v with | none => z | some (t, a, fl) => f t a fl (fl % 32)) := rfl
theorem parts_P (a : Addr) (w : World) : (ReflectliteValue.parts (.agg #[.pointer (some ⟨11, 124, none⟩), .pointer (some a), .int .u64 150])).run Tryz.prog w = .ok (some (124, a, 150)) w := by kernel_rfl
theorem isNil_P (a p : Addr) (W : World) (ha : W.cell? a = some (.pointer (some p))) :
  (ReflectliteValue.method (ReflectliteValue.valueError "reflectlite.Value.IsNil" 0) ReflectliteValue.isNil #[.agg #[.pointer (some ⟨11, 124, none⟩), .pointer (some a), .int .u64 150]]).run Tryz.prog W = .ok (.bool false) W := by
 rw [rlm]
 simp only [Sem.run_bind, parts_P, Result.andThen]
 simp [ReflectliteValue.isNil, loadVar, isAgg, underlying, Tryz.underlying124, ha, Result.andThen]
theorem m_Elem (h : Value) (w : World) : (Go.method 449 230 (.agg #[h]) "Elem").run Tryz.prog w = .ok (248, .agg #[h]) w := by kernel_rfl
theorem m_Implements (h : Value) (w : World) : (Go.method 449 230 (.agg #[h]) "Implements").run Tryz.prog w = .ok (249, .agg #[h]) w := by kernel_rfl
theorem m_AssignableTo (h : Value) (w : World) : (Go.method 449 230 (.agg #[h]) "AssignableTo").run Tryz.prog w = .ok (246, .agg #[h]) w := by kernel_rfl
theorem elem_P (w : World) : (ReflectliteType.method ReflectliteType.elem #[.agg #[.pointer (some ⟨11, 124, none⟩)]]).run Tryz.prog w = .ok (.iface 230 (.agg #[.pointer (some ⟨11, 56, none⟩)])) w := by kernel_rfl
theorem impl_E (w : World) : (ReflectliteType.relation "Implements" ReflectliteType.implements_ #[.agg #[.pointer (some ⟨11, 56, none⟩)], .iface 230 (.agg #[.pointer (some ⟨11, 43, none⟩)])]).run Tryz.prog w = .ok (.bool true) w := by kernel_rfl
theorem typeOf_E (v : Value) (w : World) : (ReflectliteType.typeOf #[.iface 56 v]).run Tryz.prog w = .ok (.iface 230 (.agg #[.pointer (some ⟨11, 56, none⟩)])) w := by kernel_rfl
theorem asgn_E (w : World) : (ReflectliteType.relation "AssignableTo" ReflectliteType.assignableTo #[.agg #[.pointer (some ⟨11, 56, none⟩)], .iface 230 (.agg #[.pointer (some ⟨11, 56, none⟩)])]).run Tryz.prog w = .ok (.bool true) w := by kernel_rfl
theorem vOf_E (e : Int) (w : World) : (ReflectliteValue.unpack (.iface 56 (.int .i64 e))).run Tryz.prog w
  = .ok (.agg #[.pointer (some ⟨11, 56, none⟩), .pointer (some ⟨w.heap.size, 0, none⟩), .int .u64 130]) (w.alloc (.cells #[.int .i64 e] 56)) := by kernel_rfl
theorem elemOf_P (w : World) : (Rtype.elem? 124).run Tryz.prog w = .ok (some 56) w := by kernel_rfl
theorem mk_E (p : Addr) (w : World) : (ReflectliteValue.mk 56 p ReflectliteValue.flagAddr).run Tryz.prog w = .ok (.agg #[.pointer (some ⟨11, 56, none⟩), .pointer (some p), .int .u64 386]) w := by kernel_rfl
theorem elemV_P (a p : Addr) (W : World) (ha : W.cell? a = some (.pointer (some p))) :
  (ReflectliteValue.method (ReflectliteValue.valueError "reflectlite.Value.Elem" 0) ReflectliteValue.elem #[.agg #[.pointer (some ⟨11, 124, none⟩), .pointer (some a), .int .u64 150]]).run Tryz.prog W
   = .ok (.agg #[.pointer (some ⟨11, 56, none⟩), .pointer (some p), .int .u64 386]) W := by
 rw [rlm]
 simp only [Sem.run_bind, parts_P, Result.andThen]
 simp [ReflectliteValue.elem, loadVar, isAgg, underlying, Tryz.underlying124, ha, Result.andThen, elemOf_P, mk_E]
theorem rls (v x : Value) : ReflectliteValue.set #[v, x] = (do
  let (some (dst, a, fl), some (src, b, _)) := (← ReflectliteValue.parts v, ← ReflectliteValue.parts x)
   | unsupported (.noEntry "extern/(internal/reflectlite.Value).Set.zeroValue")
  if fl / ReflectliteValue.flagAddr % 2 == 0 then unsupported (.noEntry "extern/(internal/reflectlite.Value).Set.unaddressable")
  let val ← loadVar src b
  if ← Rtype.directlyAssignable dst src then storeVar dst a val
  else if ← Rtype.implements dst src then
   if (← Rtype.kind src) == 20 then
    match val with
    | .nilIface => unsupported (.noEntry "extern/reflectlite: a nil value of one interface type handed on as a value of another")
    | _ => storeVar dst a val
   else storeVar dst a (.iface src val)
  else panicString ("reflectlite.Set: value of type " ++ (← Rtype.spelt src) ++ " is not assignable to type " ++ (← Rtype.spelt dst))
  pure (.tuple #[])) := rfl
theorem parts_Ea (a : Addr) (w : World) : (ReflectliteValue.parts (.agg #[.pointer (some ⟨11, 56, none⟩), .pointer (some a), .int .u64 386])).run Tryz.prog w = .ok (some (56, a, 386)) w := by kernel_rfl
theorem parts_E (a : Addr) (w : World) : (ReflectliteValue.parts (.agg #[.pointer (some ⟨11, 56, none⟩), .pointer (some a), .int .u64 130])).run Tryz.prog w = .ok (some (56, a, 130)) w := by kernel_rfl
theorem direct_E (w : World) : (Rtype.directlyAssignable 56 56).run Tryz.prog w = .ok true w := by kernel_rfl
theorem set_E (ta b : Addr) (e : Int) (old : Value) (W : World) (hb : W.cell? b = some (.int .i64 e)) (ht : W.cell? ta = some old) (hf : W.frozen? ta = false) :
  (ReflectliteValue.set #[.agg #[.pointer (some ⟨11, 56, none⟩), .pointer (some ta), .int .u64 386], .agg #[.pointer (some ⟨11, 56, none⟩), .pointer (some b), .int .u64 130]]).run Tryz.prog W
   = .ok (.tuple #[]) (W.setCell ta (.int .i64 e)) := by
 rw [rls]
 simp only [Sem.run_bind, parts_Ea, parts_E, Result.andThen]
 simp [ReflectliteValue.flagAddr, loadVar, isAgg, underlying, Tryz.underlying56, hb, Result.andThen, direct_E, storeVar, Value.cells, storeCells, Addr.add]
 rw [run_store Tryz.prog W ta _ _ (by rfl)]
 simp [ht, hf]
def ErrCell (w : World) : Prop := w.cell? ⟨0, 0, none⟩ = some (.iface 230 (.agg #[.pointer (some ⟨11, 43, none⟩)]))
set_option maxRecDepth 100000 in
set_option maxHeartbeats 4000000 in
theorem as_hit (e : Int) (t : Addr) (old : Value) (w : World) (hg0 : ErrCell w) (ht0 : w.cell? t = some old) (hf0 : w.frozen? t = false) :
  Calls Tryz.prog 64 #[.iface 56 (.int .i64 e), .iface 124 (.pointer (some t))] w fun ev w' => ev = .returned (.bool true) ∧ ((((w.alloc (.cells #[.pointer (some t)] 124)).alloc (.cells #[.pointer (some ⟨11, 124, none⟩), .pointer (some ⟨w.heap.size, 0, none⟩), .int .u64 150] 172)).alloc (.cells #[.pointer (some ⟨11, 124, none⟩), .pointer (some ⟨w.heap.size, 0, none⟩), .int .u64 150] 172)).alloc (.cells #[.int .i64 e] 56)).setCell t (.int .i64 e) = w' := by
 have hg : w.cell? ⟨0, 0, none⟩ = some (.iface 230 (.agg #[.pointer (some ⟨11, 43, none⟩)])) := hg0
 have hVO := @run_callFunc_extern Tryz.prog 96 _ (fun args => ReflectliteValue.unpack (args.getD 0 (.tuple #[]))) Tryz.func96 (by kernel_rfl) (by kernel_rfl) (by kernel_rfl) (by kernel_rfl)
 have hTY := @run_callFunc_extern Tryz.prog 97 _ (ReflectliteValue.methodAny (ReflectliteValue.valueError "reflectlite.Value.Type" 0) (fun t _ _ _ => ReflectliteType.toType t)) Tryz.func97 (by kernel_rfl) (by kernel_rfl) (by kernel_rfl) (by kernel_rfl)
 have hNIL := @run_callFunc_extern Tryz.prog 98 _ (ReflectliteValue.method (ReflectliteValue.valueError "reflectlite.Value.IsNil" 0) ReflectliteValue.isNil) Tryz.func98 (by kernel_rfl) (by kernel_rfl) (by kernel_rfl) (by kernel_rfl)
 have hKD := @run_callFunc_extern Tryz.prog 234 _ (ReflectliteType.abiMethod fun t => do pure (.int .u8 (← Rtype.kind t))) Tryz.func234 (by kernel_rfl) (by kernel_rfl) (by kernel_rfl) (by kernel_rfl)
 have hREL := @run_callFunc_extern Tryz.prog 248 _ (ReflectliteType.method ReflectliteType.elem) Tryz.func248 (by kernel_rfl) (by kernel_rfl) (by kernel_rfl) (by kernel_rfl)
 have hRIM := @run_callFunc_extern Tryz.prog 249 _ (ReflectliteType.relation "Implements" ReflectliteType.implements_) Tryz.func249 (by kernel_rfl) (by kernel_rfl) (by kernel_rfl) (by kernel_rfl)
 have hTO := @run_callFunc_extern Tryz.prog 137 _ ReflectliteType.typeOf Tryz.func137 (by kernel_rfl) (by kernel_rfl) (by kernel_rfl) (by kernel_rfl)
 have hRAS := @run_callFunc_extern Tryz.prog 246 _ (ReflectliteType.relation "AssignableTo" ReflectliteType.assignableTo) Tryz.func246 (by kernel_rfl) (by kernel_rfl) (by kernel_rfl) (by kernel_rfl)
 have hEL := @run_callFunc_extern Tryz.prog 138 _ (ReflectliteValue.method (ReflectliteValue.valueError "reflectlite.Value.Elem" 0) ReflectliteValue.elem) Tryz.func138 (by kernel_rfl) (by kernel_rfl) (by kernel_rfl) (by kernel_rfl)
 have hSET := @run_callFunc_extern Tryz.prog 139 _ ReflectliteValue.set Tryz.func139 (by kernel_rfl) (by kernel_rfl) (by kernel_rfl) (by kernel_rfl)
 have k0 := typeOf_E
 have k1 := m_AssignableTo
 have k2 := asgn_E
 have k3 := vOf_E
 have k4 := vOf_P
 have k5 := type_P
 have k6 := m_Kind
 have k7 := m_Elem
 have k8 := m_Implements
 have k9 := kind_P
 have k10 := kind_E
 have k11 := elem_P
 have k12 := impl_E
 have n8 := isNil_P ⟨w.heap.size, 0, none⟩ t ((w.alloc (.cells #[.pointer (some t)] 124)).alloc (.cells #[.pointer (some ⟨11, 124, none⟩), .pointer (some ⟨w.heap.size, 0, none⟩), .int .u64 150] 172)) (by simp)
 have hlt : 0 < w.heap.size := block_lt_of_cell hg
 have hg2 : ((w.alloc (.cells #[.pointer (some t)] 124)).alloc (.cells #[.pointer (some ⟨11, 124, none⟩), .pointer (some ⟨w.heap.size, 0, none⟩), .int .u64 150] 172)).cell? ⟨0, 0, none⟩ = some (.iface 230 (.agg #[.pointer (some ⟨11, 43, none⟩)])) := by
  rw [World.cell?_alloc_lt _ _ ⟨0, 0, none⟩ (by first | (simp; done) | (simp; omega)), World.cell?_alloc_lt _ _ ⟨0, 0, none⟩ hlt]; exact hg
 have htl : t.block < w.heap.size := block_lt_of_cell ht0
 have el := elemV_P ⟨w.heap.size, 0, none⟩ t (((w.alloc (.cells #[.pointer (some t)] 124)).alloc (.cells #[.pointer (some ⟨11, 124, none⟩), .pointer (some ⟨w.heap.size, 0, none⟩), .int .u64 150] 172)).alloc (.cells #[.pointer (some ⟨11, 124, none⟩), .pointer (some ⟨w.heap.size, 0, none⟩), .int .u64 150] 172)) (by rw [World.cell?_alloc_lt _ _ ⟨w.heap.size, 0, none⟩ (by first | (simp; done) | (simp; omega))]; simp)
 have st := set_E t ⟨w.heap.size + 1 + 1 + 1, 0, none⟩ e old ((((w.alloc (.cells #[.pointer (some t)] 124)).alloc (.cells #[.pointer (some ⟨11, 124, none⟩), .pointer (some ⟨w.heap.size, 0, none⟩), .int .u64 150] 172)).alloc (.cells #[.pointer (some ⟨11, 124, none⟩), .pointer (some ⟨w.heap.size, 0, none⟩), .int .u64 150] 172)).alloc (.cells #[.int .i64 e] 56))
  (by rw [World.cell?_alloc_at _ _ _ _ (by simp)]; rfl)
  (by rw [World.cell?_alloc_lt _ _ t (by first | (simp; done) | (simp; omega)), World.cell?_alloc_lt _ _ t (by first | (simp; done) | (simp; omega)), World.cell?_alloc_lt _ _ t (by first | (simp; done) | (simp; omega)), World.cell?_alloc_lt _ _ t htl]; exact ht0)
  (by rw [World.frozen?_alloc_old _ _ t (by first | (simp; done) | (simp; omega)), World.frozen?_alloc_old _ _ t (by first | (simp; done) | (simp; omega)), World.frozen?_alloc_old _ _ t (by first | (simp; done) | (simp; omega)), World.frozen?_alloc_old _ _ t (Nat.ne_of_lt htl)]; exact hf0)
 clear hg0
 go_enter Tryz.func64, Tryz.ntmps64
 go_wp2
 refine wp_loop_rounds 1 ?_
 rw [rounds_succ]
 go_wp2
 go_ret
 exact ⟨rfl, rfl⟩
end Go.Proofs.YtjbbbpgcegcbaaaGreatDoor
namespace Go.Proofs.YtjbbbpgcegcbaaaGreatDoor
open Go.RowKit
theorem ErrCell.lt {w : World} (h : ErrCell w) : 0 < w.heap.size := block_lt_of_cell (w := w) (a := ⟨0, 0, none⟩) h
theorem ErrCell.later {w w' : World} (h : ErrCell w) (hb : Below w.heap.size w w') : ErrCell w' := by
 have := (bcell hb).1 0 0 h.lt
 unfold ErrCell at *
 rw [this]; exact h
theorem tell_nil (w : World) : Calls Tryz.prog 18 #[.nilIface] w fun e w' => e = .returned (.int .i64 0) ∧ w = w' := by
 go_enter Tryz.func18, Tryz.ntmps18
 go_wp2_with fail
 go_ret
 exact ⟨rfl, rfl⟩
theorem tell_err (n : Int) (w : World) (hg : ErrCell w) : Calls Tryz.prog 18 #[.iface 56 (.int .i64 n)] w fun e w' => e = .returned (.int .i64 n) ∧ Below w.heap.size w w' := by
 have hg1 : ErrCell (w.alloc (.cells #[.int .i64 0] 56)) := hg.later ((Below.refl _ _).alloc (Nat.le_refl _) _)
 have Hg1 := Lib.hid hg1
 clear hg hg1
 go_enter Tryz.func18, Tryz.ntmps18
 go_wp2_with fail
 refine (as_hit n ⟨w.heap.size, 0, none⟩ (.int .i64 0) _ Hg1.out (by simp) (by simp)).mono ?_
 rintro e w' ⟨rfl, rfl⟩
 go_wp2_with fail
 go_ret
 exact ⟨rfl, ((((((Below.refl _ _).alloc (Nat.le_refl _) _).alloc (by simp) _).alloc (by first | (simp; done) | (simp; omega)) _).alloc (by first | (simp; done) | (simp; omega)) _).alloc (by first | (simp; done) | (simp; omega)) _)⟩
end Go.Proofs.YtjbbbpgcegcbaaaGreatDoor
namespace Go.Proofs.YtjbbbpgcegcbaaaGreatDoor
open Go.RowKit Go.Extern.Stop Go.Stop Go.Extern
theorem typeOf_A (v : Value) (w : World) : (ReflectliteType.typeOf #[.iface 120 v]).run Tryz.prog w = .ok (.iface 230 (.agg #[.pointer (some ⟨11, 120, none⟩)])) w := by kernel_rfl
theorem asgn_A (w : World) : (ReflectliteType.relation "AssignableTo" ReflectliteType.assignableTo #[.agg #[.pointer (some ⟨11, 120, none⟩)], .iface 230 (.agg #[.pointer (some ⟨11, 56, none⟩)])]).run Tryz.prog w = .ok (.bool false) w := by kernel_rfl
theorem noAs_A (v : Value) (xT : TypeId) (w : World) : (Instr.typeAssert (.iface 120 v) xT 235 true).run Tryz.prog w = .ok (.tuple #[.nilIface, .bool false]) w :=
 run_typeAssert_lacksB Tryz.underlying235 (by kernel_rfl) (by kernel_rfl) v xT w
theorem hasUnwrap_A (a : Addr) (xT : TypeId) (w : World) : (Instr.typeAssert (.iface 120 (.pointer (some a))) xT 238 true).run Tryz.prog w = .ok (.tuple #[.iface 120 (.pointer (some a)), .bool true]) w := by kernel_rfl
theorem nilAhead_A (a : Addr) (w : World) : (nilAhead 449 120 (.pointer (some a)) "Unwrap").run Tryz.prog w = .ok (some false) w := by kernel_rfl
theorem method_A (a : Addr) (w : World) : (Go.method 449 120 (.pointer (some a)) "Unwrap").run Tryz.prog w = .ok (240, .pointer (some a)) w := by kernel_rfl
set_option maxRecDepth 100000 in
set_option maxHeartbeats 4000000 in
theorem as_hit_at (e : Int) (b : Nat) (t : Addr) (old : Value) (w : World) (hg0 : ErrCell w) (hp : w.cell? ⟨b, 0, none⟩ = some (.int .i64 e)) (ht0 : w.cell? t = some old) (hf0 : w.frozen? t = false) :
  Calls Tryz.prog 64 #[.iface 120 (.pointer (some ⟨b, 0, none⟩)), .iface 124 (.pointer (some t))] w fun ev w' => ev = .returned (.bool true) ∧ ((((w.alloc (.cells #[.pointer (some t)] 124)).alloc (.cells #[.pointer (some ⟨11, 124, none⟩), .pointer (some ⟨w.heap.size, 0, none⟩), .int .u64 150] 172)).alloc (.cells #[.pointer (some ⟨11, 124, none⟩), .pointer (some ⟨w.heap.size, 0, none⟩), .int .u64 150] 172)).alloc (.cells #[.int .i64 e] 56)).setCell t (.int .i64 e) = w' := by
 have hg : w.cell? ⟨0, 0, none⟩ = some (.iface 230 (.agg #[.pointer (some ⟨11, 43, none⟩)])) := hg0
 have hVO := @run_callFunc_extern Tryz.prog 96 _ (fun args => ReflectliteValue.unpack (args.getD 0 (.tuple #[]))) Tryz.func96 (by kernel_rfl) (by kernel_rfl) (by kernel_rfl) (by kernel_rfl)
 have hTY := @run_callFunc_extern Tryz.prog 97 _ (ReflectliteValue.methodAny (ReflectliteValue.valueError "reflectlite.Value.Type" 0) (fun t _ _ _ => ReflectliteType.toType t)) Tryz.func97 (by kernel_rfl) (by kernel_rfl) (by kernel_rfl) (by kernel_rfl)
 have hNIL := @run_callFunc_extern Tryz.prog 98 _ (ReflectliteValue.method (ReflectliteValue.valueError "reflectlite.Value.IsNil" 0) ReflectliteValue.isNil) Tryz.func98 (by kernel_rfl) (by kernel_rfl) (by kernel_rfl) (by kernel_rfl)
 have hKD := @run_callFunc_extern Tryz.prog 234 _ (ReflectliteType.abiMethod fun t => do pure (.int .u8 (← Rtype.kind t))) Tryz.func234 (by kernel_rfl) (by kernel_rfl) (by kernel_rfl) (by kernel_rfl)
 have hREL := @run_callFunc_extern Tryz.prog 248 _ (ReflectliteType.method ReflectliteType.elem) Tryz.func248 (by kernel_rfl) (by kernel_rfl) (by kernel_rfl) (by kernel_rfl)
 have hRIM := @run_callFunc_extern Tryz.prog 249 _ (ReflectliteType.relation "Implements" ReflectliteType.implements_) Tryz.func249 (by kernel_rfl) (by kernel_rfl) (by kernel_rfl) (by kernel_rfl)
 have hTO := @run_callFunc_extern Tryz.prog 137 _ ReflectliteType.typeOf Tryz.func137 (by kernel_rfl) (by kernel_rfl) (by kernel_rfl) (by kernel_rfl)
 have hRAS := @run_callFunc_extern Tryz.prog 246 _ (ReflectliteType.relation "AssignableTo" ReflectliteType.assignableTo) Tryz.func246 (by kernel_rfl) (by kernel_rfl) (by kernel_rfl) (by kernel_rfl)
 have hEL := @run_callFunc_extern Tryz.prog 138 _ (ReflectliteValue.method (ReflectliteValue.valueError "reflectlite.Value.Elem" 0) ReflectliteValue.elem) Tryz.func138 (by kernel_rfl) (by kernel_rfl) (by kernel_rfl) (by kernel_rfl)
 have hSET := @run_callFunc_extern Tryz.prog 139 _ ReflectliteValue.set Tryz.func139 (by kernel_rfl) (by kernel_rfl) (by kernel_rfl) (by kernel_rfl)
 have k0 := typeOf_E
 have k1 := m_AssignableTo
 have k2 := asgn_E
 have k3 := vOf_E
 have k4 := vOf_P
 have k5 := type_P
 have k6 := m_Kind
 have k7 := m_Elem
 have k8 := m_Implements
 have k9 := kind_P
 have k10 := kind_E
 have k11 := elem_P
 have k12 := impl_E
 have n8 := isNil_P ⟨w.heap.size, 0, none⟩ t ((w.alloc (.cells #[.pointer (some t)] 124)).alloc (.cells #[.pointer (some ⟨11, 124, none⟩), .pointer (some ⟨w.heap.size, 0, none⟩), .int .u64 150] 172)) (by simp)
 have hlt : 0 < w.heap.size := block_lt_of_cell hg
 have hg2 : ((w.alloc (.cells #[.pointer (some t)] 124)).alloc (.cells #[.pointer (some ⟨11, 124, none⟩), .pointer (some ⟨w.heap.size, 0, none⟩), .int .u64 150] 172)).cell? ⟨0, 0, none⟩ = some (.iface 230 (.agg #[.pointer (some ⟨11, 43, none⟩)])) := by
  rw [World.cell?_alloc_lt _ _ ⟨0, 0, none⟩ (by first | (simp; done) | (simp; omega)), World.cell?_alloc_lt _ _ ⟨0, 0, none⟩ hlt]; exact hg
 have htl : t.block < w.heap.size := block_lt_of_cell ht0
 have el := elemV_P ⟨w.heap.size, 0, none⟩ t (((w.alloc (.cells #[.pointer (some t)] 124)).alloc (.cells #[.pointer (some ⟨11, 124, none⟩), .pointer (some ⟨w.heap.size, 0, none⟩), .int .u64 150] 172)).alloc (.cells #[.pointer (some ⟨11, 124, none⟩), .pointer (some ⟨w.heap.size, 0, none⟩), .int .u64 150] 172)) (by rw [World.cell?_alloc_lt _ _ ⟨w.heap.size, 0, none⟩ (by first | (simp; done) | (simp; omega))]; simp)
 have st := set_E t ⟨w.heap.size + 1 + 1 + 1, 0, none⟩ e old ((((w.alloc (.cells #[.pointer (some t)] 124)).alloc (.cells #[.pointer (some ⟨11, 124, none⟩), .pointer (some ⟨w.heap.size, 0, none⟩), .int .u64 150] 172)).alloc (.cells #[.pointer (some ⟨11, 124, none⟩), .pointer (some ⟨w.heap.size, 0, none⟩), .int .u64 150] 172)).alloc (.cells #[.int .i64 e] 56))
  (by rw [World.cell?_alloc_at _ _ _ _ (by simp)]; rfl)
  (by rw [World.cell?_alloc_lt _ _ t (by first | (simp; done) | (simp; omega)), World.cell?_alloc_lt _ _ t (by first | (simp; done) | (simp; omega)), World.cell?_alloc_lt _ _ t (by first | (simp; done) | (simp; omega)), World.cell?_alloc_lt _ _ t htl]; exact ht0)
  (by rw [World.frozen?_alloc_old _ _ t (by first | (simp; done) | (simp; omega)), World.frozen?_alloc_old _ _ t (by first | (simp; done) | (simp; omega)), World.frozen?_alloc_old _ _ t (by first | (simp; done) | (simp; omega)), World.frozen?_alloc_old _ _ t (Nat.ne_of_lt htl)]; exact hf0)
 have ka := typeOf_A
 have kb := asgn_A
 have kc := noAs_A
 have kd := hasUnwrap_A
 have ke := nilAhead_A
 have kf := method_A
 have hbl : b < w.heap.size := block_lt_of_cell hp
 have hp3 : (((w.alloc (.cells #[.pointer (some t)] 124)).alloc (.cells #[.pointer (some ⟨11, 124, none⟩), .pointer (some ⟨w.heap.size, 0, none⟩), .int .u64 150] 172)).alloc (.cells #[.pointer (some ⟨11, 124, none⟩), .pointer (some ⟨w.heap.size, 0, none⟩), .int .u64 150] 172)).cell? ⟨b, 0, none⟩ = some (.int .i64 e) := by
  rw [World.cell?_alloc_lt _ _ ⟨b, 0, none⟩ (by first | (simp; done) | (simp; omega)), World.cell?_alloc_lt _ _ ⟨b, 0, none⟩ (by first | (simp; done) | (simp; omega)), World.cell?_alloc_lt _ _ ⟨b, 0, none⟩ hbl]; exact hp
 clear hg0
 go_enter Tryz.func64, Tryz.ntmps64
 go_wp2
 refine wp_loop_rounds 2 ?_
 rw [rounds_succ]
 go_wp2
 rw [rounds_succ]
 go_wp2
 go_ret
 exact ⟨rfl, rfl⟩
end Go.Proofs.YtjbbbpgcegcbaaaGreatDoor
