/- Several texts in one: Slices of additional headers; ahs.size, ahs.Right.  | Bytes that a call collects in a slice of its own: append from any source, make, read, turn into a string. No program stands in it.  | ahs.first, ahs.Read.  | ahs.Read.  | ahs.written, ahs.Write.  | slices.Equal of two slices of the same additional headers.  | wide (keep's): it answers one of both; what it makes is new.  -/
import Derived.Test.YtlkikkfbennmnaaGreatDoorGA
import Derived.Test.YtlkikkfbennmnaaGreatDoorGC
import Derived.Test.YtlkikkfbennmnaaGreatDoorGB
import Derived.Deep.RegionHeld3
import Derived.Deep.AppendSrc
import Derived.Laws.MakeOwn
import Derived.Laws.OwnMore
import Derived.StillTailTactics
import Derived.Deep.RegionLaw
import Derived.Laws.AppendOwn
import Derived.Laws.StructEq
import Derived.BigRegion
import Derived.Deep.QuietTactic
import Derived.BigQuiet
namespace Go.Proofs.YtlkikkfbennmnaaGreatDoor
open Go.RowKit
/-- the slice value v reads as these headers in W -/
def AhsV (W : World) (v : Value) (l : List Ah) : Prop := ∃ p c, v = .slice p l.length c ∧ l.length ≤ c ∧ (0 < l.length → ∃ b o, p = some ⟨b, o, none⟩ ∧ ∀ j (hj : j < l.length), W.cell? ⟨b, o + j * 2, none⟩ = some (.int .i64 l[j].k) ∧ W.cell? ⟨b, o + j * 2 + 1, none⟩ = some (.string (S l[j].d)))
theorem AhsV.later {W W' : World} {v : Value} {l : List Ah} (h : AhsV W v l) (hb : Below W.heap.size W W') : AhsV W' v l := by
  obtain ⟨p, c, hv, hlc, hc⟩ := h
  refine ⟨p, c, hv, hlc, fun hl => ?_⟩
  obtain ⟨b, o, hp, hcell⟩ := hc hl
  refine ⟨b, o, hp, fun j hj => ?_⟩
  obtain ⟨h1, h2⟩ := hcell j hj
  rw [(bcell hb).1 b (o + j * 2) (block_lt_of_cell (w := W) (a := ⟨b, o + j * 2, none⟩) h1), (bcell hb).1 b (o + j * 2 + 1) (block_lt_of_cell (w := W) (a := ⟨b, o + j * 2 + 1, none⟩) h2)]
  exact ⟨h1, h2⟩
theorem AhsV.drewN {W : World} {v : Value} {l : List Ah} (h : AhsV W v l) (n : Nat) : AhsV (W.drewN n) v l := h
theorem AhsV.nil (W : World) : AhsV W (.slice none 0 0) [] := ⟨none, 0, rfl, Nat.le_refl _, fun h => absurd h (by decide)⟩
theorem AhsV.form {W : World} {v : Value} {l : List Ah} (h : AhsV W v l) : ∃ p c, v = .slice p l.length c := by obtain ⟨p, c, h, _⟩ := h; exact ⟨p, c, h⟩
/-- all data are no more than memory has -/
def fitA (l : List Ah) : Prop := l.length ≤ 140737488355328 ∧ ∀ a ∈ l, a.d.length ≤ 140737488355328
def ahV (a : Ah) : Value := .agg #[.int .i64 a.k, .string (S a.d)]
theorem size_any (a : Ah) (w : World) (hd : a.d.length ≤ 140737488355328) :
    Calls Tryz.prog 72 #[.agg #[.int .i64 a.k, .string (S a.d)]] w fun e w' => e = .returned (.int .i64 (sizeA a : Nat)) ∧ Below w.heap.size w w' := by
  obtain ⟨k, d⟩ := a
  simp only at hd ⊢
  have P := fun w => Lib.hid (pad_any ((3 : Int) + (d.length : Int)) w)
  have hs : ((sizeA ⟨k, d⟩ : Nat) : Int) = 3 + (d.length : Int) + padI (3 + (d.length : Int)) := by
    unfold sizeA
    simp only
    rw [show (3 : Int) + (d.length : Int) = ((3 + d.length : Nat) : Int) by omega, padI_pad]
    omega
  have hp := padI_bd (3 + (d.length : Int))
  have Hs := Lib.hid hs
  clear hs
  go_enter Tryz.func72, Tryz.ntmps72
  go_wp2_with fail
  refine (P _).out.mono ?_
  rintro e w' ⟨rfl, rfl⟩
  go_wp2_with fail
  go_ret
  exact ⟨ret_int (by rw [Hs.out]), (Below.refl _ _).alloc (Nat.le_refl _) _⟩
set_option maxRecDepth 100000 in
theorem right_ahs (l : List Ah) (v : Value) (w : World) (hv : AhsV w v l) (hf : fitA l) :
    Calls Tryz.prog 47 #[v] w (RetE w (rightA l)) := by
  obtain ⟨p, c, rfl, _, hc⟩ := hv
  have Hc := Lib.hid hc
  have Hf := Lib.hid hf
  have hl47 := hf.1
  clear hc hf
  go_enter Tryz.func47, Tryz.ntmps47
  go_wp2_with fail
  go_loopw [3, 8] (fun x i wr => ∃ j all : Nat, j ≤ l.length ∧ all ≤ 1020 ∧ i = .int .i64 j ∧ x = .int .i64 all ∧ rightF all j (l.drop j) = rightA l ∧ Below w.heap.size w wr) (fun _ i _ => l.length - (intOf i).toNat)
  case atStart => exact ⟨0, 0, by omega, by omega, rfl, rfl, rfl, Below.refl _ _⟩
  case round =>
    obtain ⟨j, all, hj, hall, rfl, rfl, hr, hb⟩ := hrel
    have Hb := Lib.hid hb
    by_cases hlt : j < l.length
    · obtain ⟨b, o, rfl, hcl⟩ := Hc.out (by omega)
      obtain ⟨h1, h2⟩ := hcl j hlt
      rw [← (bcell hb).1 b (o + j * 2) (block_lt_of_cell (w := w) (a := ⟨b, o + j * 2, none⟩) h1)] at h1
      rw [← (bcell hb).1 b (o + j * 2 + 1) (block_lt_of_cell (w := w) (a := ⟨b, o + j * 2 + 1, none⟩) h2)] at h2
      obtain ⟨a, ha⟩ : ∃ a, l[j] = a := ⟨_, rfl⟩
      have hda := Hf.out.2 l[j] (List.getElem_mem hlt)
      rw [List.drop_eq_getElem_cons hlt, rightF_cons] at hr
      rw [ha] at h1 h2 hr hda
      obtain ⟨k, d⟩ := a
      simp only at h1 h2 hr hda
      have Hr := Lib.hid hr
      have hb1 := hb.alloc hb.size (.cells #[.int .i64 k, .string (S d)] 87)
      have Hb1 := Lib.hid hb1
      have ZZ := fun W => Lib.hid (size_any ⟨k, d⟩ W hda)
      have hsz : sizeA ⟨k, d⟩ ≤ 140737488355340 := by unfold sizeA; have := pad_le (3 + d.length); simp only; omega
      obtain ⟨z, hz⟩ : ∃ z, sizeA ⟨k, d⟩ = z := ⟨_, rfl⟩
      rw [hz] at Hr hsz
      simp only [hz] at ZZ
      clear hr hcl hb ha hb1 hda hz
      by_cases hk0 : k < 0
      · have hd0 : decide (k < 0) = true := decide_eq_true hk0
        go_wp2_with fail
        go_ret
        rw [← Hr.out, if_pos (.inl hk0)]
        exact ⟨_, rfl, .placed _ 2 j (by decide) (by simp) (by simp), Hb1.out.alloc Hb1.out.size _⟩
      · have hd0 : decide (k < 0) = false := decide_eq_false hk0
        by_cases hk1 : 255 < k
        · go_wp2_with fail
          go_ret
          rw [← Hr.out, if_pos (.inr hk1)]
          exact ⟨_, rfl, .placed _ 2 j (by decide) (by simp) (by simp), Hb1.out.alloc Hb1.out.size _⟩
        · go_wp2_with fail
          refine (ZZ _).out.mono ?_
          rintro e w2 ⟨rfl, hb2⟩
          have Hb2 := Lib.hid (below_then Hb1.out hb2)
          clear hb2
          by_cases hm : 1020 < all + z
          · go_wp2_with fail
            go_ret
            rw [← Hr.out, if_neg (by omega), if_pos hm]
            exact ⟨_, rfl, .placed _ 4 j (by decide) (by simp) (by simp), Hb2.out.alloc Hb2.out.size _⟩
          · go_wp2_with fail
            go_roundw
            case rel => exact ⟨j + 1, all + z, by omega, by omega, by go_num, by go_num, by rw [← Hr.out, if_neg (by omega), if_neg hm], Hb2.out⟩
            case measure => simp [intOf]; omega
    · obtain rfl : j = l.length := by omega
      have Hr := Lib.hid hr
      clear hr hb
      go_wp2_with fail
      go_ret
      rw [← Hr.out, List.drop_length]
      exact ⟨_, rfl, .good, Hb.out⟩
end Go.Proofs.YtlkikkfbennmnaaGreatDoor
namespace Go.Proofs.YtlkikkfbennmnaaGreatDoor
open Go.RowKit
def byteV (b : UInt8) : Value := .int .u8 (b.toNat : Int)
def bytesV (l : List UInt8) : List Value := l.map byteV
theorem bytesV_len (l : List UInt8) : (bytesV l).length = l.length := by simp [bytesV]
theorem bytesV_app (a b : List UInt8) : bytesV (a ++ b) = bytesV a ++ bytesV b := by simp [bytesV]
theorem bytesV_one (l : List UInt8) : ∀ u ∈ bytesV l, u.oneCell' = true := fun u hu => by
  simp [bytesV] at hu; obtain ⟨b, _, rfl⟩ := hu; rfl
theorem bytesV_cells (l : List UInt8) : (cells8 l).toList = bytesV l := by simp [cells8, bytesV, byteV]
/-- the slice v holds these bytes, in a block from base on -/
def Buf (E : TypeId) (base : Nat) (W : World) (v : Value) (l : List UInt8) : Prop := W.ownsRow base E 1 v l.length (bytesV l)
theorem buf_nil (E : TypeId) (base : Nat) (W : World) : Buf E base W (.slice none 0 0) [] := World.ownsRow_nil W base E 1
theorem Buf.alloc {E : TypeId} {base : Nat} {W : World} {v : Value} {l : List UInt8} (h : Buf E base W v l) (o : Obj) : Buf E base (W.alloc o) v l := World.ownsRow.alloc h o
theorem Buf.drew {E : TypeId} {base : Nat} {W : World} {v : Value} {l : List UInt8} (h : Buf E base W v l) : Buf E base W.drew v l := h
theorem Buf.drewN {E : TypeId} {base : Nat} {W : World} {v : Value} {l : List UInt8} (h : Buf E base W v l) (n : Nat) : Buf E base (W.drewN n) v l := h
theorem Buf.later {E : TypeId} {base : Nat} {W W' : World} {v : Value} {l : List UInt8} (h : Buf E base W v l) (hb : Below W.heap.size W W') : Buf E base W' v l := by
  refine World.ownsRow.kept (row := none) h ⟨hb.os, hb.tape, hb.output, hb.size, fun k hk _ => hb.block k hk⟩ ?_
  cases hv : v.ownBlock with
  | none => exact .inl rfl
  | some k => exact .inr (by simp)
theorem Buf.form {E : TypeId} {base : Nat} {W : World} {v : Value} {l : List UInt8} (h : Buf E base W v l) : ∃ p cap, v = .slice p l.length cap := by
  rcases h.2 with ⟨rfl, h0⟩ | ⟨g, cap, cur, hv, _⟩
  · exact ⟨none, 0, by rw [h0]⟩
  · exact ⟨_, _, hv⟩
theorem run_string_buf {P : Program} (src dst e : TypeId) (hs : P.underlying src = some (.slice e)) (he : P.underlying e = some (.int .u8)) (hd : P.underlying dst = some .string)
    {E : TypeId} {base : Nat} {W : World} {v : Value} {l : List UInt8} (h : Buf E base W v l) : (convert src dst v).run P W = .ok (.string (S l)) W := by
  rcases h.2 with ⟨rfl, h0⟩ | ⟨g, cap, cur, rfl, hbg, hg, hnc, hcm, hcs, htake⟩
  · have : l = [] := List.eq_nil_of_length_eq_zero h0
    subst this
    have hn := run_convert_bytes_nil (P := P) W src e hs he 0 0
    have hc := run_convert_bytes_back (P := P) W src dst e ⟨0, 0, none⟩ 0 [] hs he hd (fun j hj => absurd hj (by simp))
    simp [convert, run_underlying hs, run_underlying he, run_underlying hd] at hn hc ⊢
    first | exact hn | exact hc | rfl
  · exact run_convert_bytes_back (P := P) W src dst e ⟨g, 0, none⟩ cap l hs he hd (fun j hj => by
      have h2 := World.ownsRow.cells h (g := g) rfl j (byteV l[j]) (by simp [bytesV, List.getElem?_eq_getElem hj])
      exact h2)
theorem run_append_buf {P : Program} (w : World) (t tx ty e : TypeId) (i : TypeInfo) (ht : P.underlying t = some (.slice e)) (hi : P.info? e = some i) (hz : i.zero = some (.int .u8 0)) (hsize : i.size = 1) (hby : i.bytes = 1)
    (base : Nat) (hbase : base ≤ w.heap.size) (v : Value) (l : List UInt8) (hbuf : Buf e base w v l) (x : Value) (news : List UInt8) (hsrc : Src P 1 tx x news.length (bytesV news) w)
    (hlen : l.length + news.length ≤ 140737488355328) :
    ∃ v' w', (Builtin.append_ #[t, tx] ty #[v, x]).run P w = .ok v' w' ∧ Buf e base w' v' (l ++ news) ∧ w.grownBy w' v.ownBlock ∧ Below base w w' ∧ w.heap.size ≤ w'.heap.size := by
  have hm : maxLen = 9223372036854775807 := rfl
  have hlenV : (bytesV (l ++ news)).length = (l ++ news).length * 1 := by rw [bytesV_len]; omega
  have grown : ∀ (old : Nat), old < l.length + news.length → ∀ (row : Option Nat),
      Buf e base (w.drew.alloc (.cells ((bytesV l ++ bytesV news).toArray ++ Builtin.zeroCells (Value.int .u8 0).cells (grownCap w (l.length + news.length) old e - (l.length + news.length))) e))
        (.slice (some ⟨w.heap.size, 0, none⟩) (l.length + news.length) (grownCap w (l.length + news.length) old e)) (l ++ news) ∧
      w.grownBy (w.drew.alloc (.cells ((bytesV l ++ bytesV news).toArray ++ Builtin.zeroCells (Value.int .u8 0).cells (grownCap w (l.length + news.length) old e - (l.length + news.length))) e)) row := by
    intro old ho row
    have hge := grownCap_ge w (l.length + news.length) old e
    have hcm : grownCap w (l.length + news.length) old e ≤ maxLen := grownCap_le_maxLen w (l.length + news.length) old e (by omega)
    refine ⟨⟨hlenV, .inr ⟨w.heap.size, _, _, by rw [List.length_append], hbase, heap_alloc_new w.drew _, by rw [List.length_append]; exact hge, hcm, ?_, ?_⟩⟩, ⟨rfl, rfl, rfl, by simp, fun k hk _ => heap_alloc_old w.drew _ hk⟩⟩
    · simp only [Array.size_append, List.size_toArray, size_zeroCells, List.length_append, bytesV_len]
      have : (Value.int .u8 0).cells.size = 1 := rfl
      rw [this]; omega
    · simp only [Array.toList_append]
      rw [← bytesV_app, ← hlenV]
      exact List.take_left
  have below : ∀ w' : World, w.grownBy w' v.ownBlock → Below base w w' := fun w' hg =>
    (Below.refl _ _).grown hg hbase (fun k hk => (World.ownsRow.lt hbuf k hk).1)
  have fin : ∀ v' w', (Builtin.append_ #[t, tx] ty #[v, x]).run P w = .ok v' w' → Buf e base w' v' (l ++ news) → w.grownBy w' v.ownBlock →
      ∃ v' w', (Builtin.append_ #[t, tx] ty #[v, x]).run P w = .ok v' w' ∧ Buf e base w' v' (l ++ news) ∧ w.grownBy w' v.ownBlock ∧ Below base w w' ∧ w.heap.size ≤ w'.heap.size :=
    fun v' w' h1 h2 h3 => ⟨v', w', h1, h2, h3, below w' h3, h3.size⟩
  rcases hbuf.2 with ⟨rfl, h0⟩ | ⟨g, cap, cur, rfl, hbg, hg, hnc, hcm, hcs, htake⟩
  · obtain rfl : l = [] := List.eq_nil_of_length_eq_zero h0
    by_cases hm0 : news.length = 0
    · obtain rfl : news = [] := List.eq_nil_of_length_eq_zero hm0
      refine fin (.slice none 0 0) w ?_ (buf_nil e base w) ⟨rfl, rfl, rfl, Nat.le_refl _, fun _ _ _ => rfl⟩
      have hc : (Builtin.firstCells 1 0 x).run P w = .ok #[] w := hsrc.cells
      have hl : ∀ w' : World, (Builtin.lenOf x).run P w' = .ok 0 w' := hsrc.len
      rcases hsrc.kind with ⟨e', hk⟩ | hk <;> simp [Builtin.append_, run_underlying ht, run_underlying hk, sizeOf, typeInfo, hi, hsize, hl, hc]
    · have hr := run_append_grow_src (P := P) w t tx ty e i (.int .u8 0) ht hi hz none 0 0 [] (by rw [hsize]; exact run_firstCells_none w.drew 1 0 0 0) x news.length (bytesV news) (by rw [hsize]; exact hsrc) (by omega) (by omega)
        (by rw [hby]; exact growslice_fits (by omega) (by omega))
      have hgr := grown 0 (by simp only [List.length_nil]; omega) (Value.ownBlock (.slice none 0 0))
      simp only [List.length_nil, Nat.zero_add, List.nil_append, bytesV, List.map_nil] at hgr hr ⊢
      exact fin _ _ hr hgr.1 hgr.2
  · by_cases hroom : l.length + news.length ≤ cap
    · have hcell : ∀ j, j < cap → w.cell? ⟨g, j, none⟩ = cur[j]? := fun j _ => cell_of_row w g j cur e (0, 0) hg
      have hfro : ∀ j, w.frozen? ⟨g, j, none⟩ = false := fun j => World.ownsRow.frozenAt hbuf j
      have hr := run_append_room_src (P := P) w t tx ty e i ht hi g 0 l.length cap x news.length (bytesV news) (by rw [hsize]; exact hsrc) hroom
        (fun j hj => by
          rw [bytesV_len] at hj
          have h1 := hcell (0 + l.length * i.size + j) (by rw [hsize]; omega)
          rw [h1, Array.getElem?_eq_getElem (by rw [hcs, hsize]; omega)]
          rfl) (fun j _ => hfro _)
      have hset : w.setCells g (0 + l.length * i.size) (bytesV news) = w.setRow g ((cur.toList.take l.length ++ bytesV news ++ cur.toList.drop (l.length + news.length)).toArray) := by
        have hst := run_storeCells_at P g (l.length * 1) e (bytesV news) 0 cur w hg (by rw [bytesV_len]; omega) (bytesV_one news)
        have hst2 := run_storeCells_cells (P := P) g (0 + l.length * i.size) (bytesV news) 0 w
          (fun j hj => by
            rw [bytesV_len] at hj
            have h1 := hcell (0 + l.length * i.size + 0 + j) (by rw [hsize]; omega)
            rw [h1, Array.getElem?_eq_getElem (by rw [hcs, hsize]; omega)]
            rfl) (fun j _ => hfro _) (bytesV_one news)
        simp only [Nat.add_zero, Nat.mul_one, Nat.zero_add, hsize, bytesV_len] at hst hst2
        rw [hst] at hst2
        have := Result.ok.inj hst2
        rw [hsize]
        simpa using this.2.symm
      rw [hset] at hr
      refine fin _ _ hr ⟨hlenV, .inr ⟨g, cap, _, by rw [List.length_append], hbg, setRow_heap w g cur _ e _ hg, by rw [List.length_append]; exact hroom, hcm, ?_, ?_⟩⟩
        ⟨rfl, rfl, rfl, by simp, fun k _ hk => setRow_other w g k _ (fun e => hk (by simp [Value.ownBlock, e]))⟩
      · simp only [List.size_toArray, List.length_append, List.length_take, List.length_drop, Array.length_toList, bytesV_len]
        omega
      · have ht2 : cur.toList.take l.length = bytesV l := by simpa using htake
        rw [ht2, ← bytesV_app]
        rw [List.length_append, ← List.length_append, ← hlenV]
        exact List.take_left
    · have holds : ∀ j u, (bytesV l)[j]? = some u → w.cell? ((⟨g, 0, none⟩ : Addr).add j) = some u := World.ownsRow.cells hbuf (g := g) rfl
      have hr := run_append_grow_src (P := P) w t tx ty e i (.int .u8 0) ht hi hz (some ⟨g, 0, none⟩) l.length cap (bytesV l)
        (by rw [hsize]; exact run_firstCells_some w.drew 1 l.length ⟨g, 0, none⟩ l.length cap (bytesV l) (by rw [bytesV_len]; omega) (by simpa using holds)) x news.length (bytesV news) (by rw [hsize]; exact hsrc) (by omega) (by omega)
        (by rw [hby]; exact growslice_fits (by omega) (by omega))
      have hgr := grown cap (by omega) (Value.ownBlock (.slice (some ⟨g, 0, none⟩) l.length cap))
      exact fin _ _ hr hgr.1 hgr.2
theorem wp_append_buf {P : Program} {w : World} {o : Oper} {a : Act} {K : Act → World → Prop} {Q : Exit → Act → World → Prop} (s x : Operand) (t tx : TypeId)
    (ho : o.op = .call { callee := .builtin .append, args := #[s, x], argTypes := #[t, tx] })
    (e : TypeId) (i : TypeInfo) (ht : P.underlying t = some (.slice e)) (hi : P.info? e = some i) (hz : i.zero = some (.int .u8 0)) (hsize : i.size = 1) (hby : i.bytes = 1)
    (base : Nat) (v : Value) (l : List UInt8) (hs : a.eval s = v) (hbuf : Buf e base w v l) (hbase : base ≤ w.heap.size) (xv : Value) (news : List UInt8) (hx : a.eval x = xv) (hsrc : Src P 1 tx xv news.length (bytesV news) w)
    (hlen : l.length + news.length ≤ 140737488355328)
    (h : ∀ v' w', Buf e base w' v' (l ++ news) → Below base w w' → w.heap.size ≤ w'.heap.size → w.grownBy w' v.ownBlock → K (a.put o.dst v') w') : o.wp P a w K Q := by
  obtain ⟨v', w', hr, h2, h3, h4, h5⟩ := run_append_buf (P := P) w t tx o.type e i ht hi hz hsize hby base hbase v l hbuf xv news hsrc hlen
  unfold Oper.wp execOp
  simp only [ho, resolve, invoke, builtin, Sem.run_bind, Sem.run_pure, Result.andThen_ok, List.map_toArray, List.map_cons, List.map_nil, hs, hx, hr]
  exact h v' w' h2 h4 h5 h3
theorem wpList_append_buf {P : Program} {w : World} {ops : Array Oper} {rest : List Oper} {o : Oper} {a : Act} {Q : Exit → Act → World → Prop} (hgd : o.guard = none) (s x : Operand) (t tx : TypeId)
    (ho : o.op = .call { callee := .builtin .append, args := #[s, x], argTypes := #[t, tx] })
    (e : TypeId) (i : TypeInfo) (ht : P.underlying t = some (.slice e)) (hi : P.info? e = some i) (hz : i.zero = some (.int .u8 0)) (hsize : i.size = 1) (hby : i.bytes = 1)
    (base : Nat) (v : Value) (l : List UInt8) (hs : a.eval s = v) (hbuf : Buf e base w v l) (hbase : base ≤ w.heap.size) (xv : Value) (news : List UInt8) (hx : a.eval x = xv) (hsrc : Src P 1 tx xv news.length (bytesV news) w)
    (hlen : l.length + news.length ≤ 140737488355328)
    (h : ∀ v' w', Buf e base w' v' (l ++ news) → Below base w w' → w.heap.size ≤ w'.heap.size → w.grownBy w' v.ownBlock → wpList P ops Q rest (a.put o.dst v') w') : wpList P ops Q (o :: rest) a w :=
  wpList_plain hgd fun _ hK => wp_append_buf s x t tx ho e i ht hi hz hsize hby base v l hs hbuf hbase xv news hx hsrc hlen fun v' w' h2 h3 h4 h5 => hK _ _ (h v' w' h2 h3 h4 h5)
theorem step_append_buf {P : Program} {w : World} {ops : Array Oper} {o : Oper} {a : Act} {K : Act → World → Prop} {Q : Exit → Act → World → Prop} {E : Prop} (hgd : o.guard = none) (s x : Operand) (t tx : TypeId)
    (ho : o.op = .call { callee := .builtin .append, args := #[s, x], argTypes := #[t, tx] })
    (e : TypeId) (i : TypeInfo) (ht : P.underlying t = some (.slice e)) (hi : P.info? e = some i) (hz : i.zero = some (.int .u8 0)) (hsize : i.size = 1) (hby : i.bytes = 1)
    (base : Nat) (v : Value) (l : List UInt8) (hs : a.eval s = v) (hbuf : Buf e base w v l) (hbase : base ≤ w.heap.size) (xv : Value) (news : List UInt8) (hx : a.eval x = xv) (hsrc : Src P 1 tx xv news.length (bytesV news) w)
    (hlen : l.length + news.length ≤ 140737488355328)
    (h : ∀ v' w', Buf e base w' v' (l ++ news) → Below base w w' → w.heap.size ≤ w'.heap.size → w.grownBy w' v.ownBlock → K (a.put o.dst v') w') :
    if Region.wanted o (yielded ops a.tmps) = true then Oper.wp P o a w K Q else E := by
  have hw : Region.wanted o (yielded ops a.tmps) = true := by simp [Region.wanted, hgd]
  rw [if_pos hw]
  exact wp_append_buf s x t tx ho e i ht hi hz hsize hby base v l hs hbuf hbase xv news hx hsrc hlen h
/-- what is appended: a string's bytes; a slice literal in a new block; a slice of bytes in any block -/
theorem src_string {P : Program} {tx : TypeId} (hk : P.underlying tx = some .string) (l : List UInt8) (w : World) : Src P 1 tx (.string (S l)) l.length (bytesV l) w := by
  have h := Src.ofString (P := P) (w := w) hk (S l)
  rw [S_size] at h
  have e : byteCells (S l) = bytesV l := by simp [byteCells, S, bytesV, byteV]
  rw [e] at h; exact h
theorem src_block {P : Program} {tx e' : TypeId} (hk : P.underlying tx = some (.slice e')) {w : World} {b : Nat} {l : List UInt8} (h : BytesAt w b l) (n c : Nat) (hn : n ≤ l.length) :
    Src P 1 tx (.slice (some ⟨b, 0, none⟩) n c) (l.take n).length (bytesV (l.take n)) w := by
  have hl : (l.take n).length = n := by simp; omega
  rw [hl]
  refine Src.ofSlice (w := w) hk ⟨b, 0, none⟩ n c (bytesV (l.take n)) (by rw [bytesV_len]; omega) (fun j u hu => ?_) (bytesV_one _)
  have e1 : (⟨b, 0, none⟩ : Addr).add j = ⟨b, j, none⟩ := by simp [Addr.add]; omega
  have hj : j < (l.take n).length := by
    rcases Nat.lt_or_ge j (l.take n).length with h | h
    · exact h
    · rw [List.getElem?_eq_none (by rw [bytesV_len]; exact h)] at hu; cases hu
  rw [e1, bytesAt_get h j (by omega)]
  have hu2 : (bytesV (l.take n))[j]? = some (byteV (l.take n)[j]) := by unfold bytesV; rw [List.getElem?_map, List.getElem?_eq_getElem hj]; rfl
  rw [hu2] at hu
  rw [← Option.some.inj hu]
  simp [byteV]
theorem src_lit {P : Program} {tx e' : TypeId} (hk : P.underlying tx = some (.slice e')) (w : World) (l : List UInt8) (t : TypeId) (fr : Nat × Nat) (n c : Nat) (hn : n = l.length) :
    Src P 1 tx (.slice (some ⟨w.heap.size, 0, none⟩) n c) l.length (bytesV l) (w.alloc (.cells (cells8 l) t fr)) := by
  have h := src_block (P := P) hk (bytesAt_new w l t fr) n c (by omega)
  rw [List.take_of_length_le (by omega)] at h
  exact h
/-- make([]byte, 0, n) -/
theorem run_make_buf {P : Program} (w : World) (t e : TypeId) (i : TypeInfo) (ht : P.underlying t = some (.slice e)) (hi : P.info? e = some i) (hz : i.zero = some (.int .u8 0)) (hsize : i.size = 1) (hby : i.bytes = 1)
    (kl kc : IntKind) (c : Nat) (hc : c ≤ 140737488355328) :
    (Instr.makeSlice t (.int kl 0) (.int kc (c : Int))).run P w = .ok (.slice (some ⟨w.heap.size, 0, none⟩) 0 c) (w.alloc (.cells (madeCells #[.int .u8 0] c) e)) := by
  have h := run_make (P := P) w t e i (.int .u8 0) ht hi hz kl kc 0 c (Int.le_refl _) (by omega) (by rw [hby]; omega) (by omega)
  simp only [Int.toNat_zero, Int.toNat_natCast, hsize, Nat.mul_one] at h
  exact h
theorem buf_made (w : World) (e : TypeId) (c : Nat) (hc : c ≤ 140737488355328) (base : Nat) (hb : base ≤ w.heap.size) :
    Buf e base (w.alloc (.cells (madeCells #[.int .u8 0] c) e)) (.slice (some ⟨w.heap.size, 0, none⟩) 0 c) [] :=
  World.ownsRow_made w _ c hb (by unfold maxLen; omega) (by rw [size_madeCells, Nat.mul_one])
/-- make([]byte, n) -/
theorem run_make_bytes {P : Program} (w : World) (t e : TypeId) (i : TypeInfo) (ht : P.underlying t = some (.slice e)) (hi : P.info? e = some i) (hz : i.zero = some (.int .u8 0)) (hsize : i.size = 1) (hby : i.bytes = 1)
    (kl kc : IntKind) (c : Nat) (hc : c ≤ 140737488355328) :
    (Instr.makeSlice t (.int kl (c : Int)) (.int kc (c : Int))).run P w = .ok (.slice (some ⟨w.heap.size, 0, none⟩) c c) (w.alloc (.cells (cells8 (List.replicate c 0)) e)) := by
  have h := run_make (P := P) w t e i (.int .u8 0) ht hi hz kl kc c c (by omega) (Int.le_refl _) (by rw [hby]; omega) (by omega)
  simp only [Int.toNat_natCast, hsize, Nat.mul_one] at h
  have e1 : madeCells (Value.int .u8 0).cells c = cells8 (List.replicate c 0) := by
    apply Array.ext'
    rw [show (Value.int .u8 0).cells = #[Value.int .u8 0] from rfl, toList_madeCells_one]
    simp [cells8]
  rw [e1] at h
  exact h
theorem buf_block (w : World) (e : TypeId) (l : List UInt8) (n : Nat) (hn : n = l.length) (hc : l.length ≤ 140737488355328) (base : Nat) (hb : base ≤ w.heap.size) :
    Buf e base (w.alloc (.cells (cells8 l) e)) (.slice (some ⟨w.heap.size, 0, none⟩) n n) l := by
  subst hn
  have h := World.ownsRow_lit (base := base) (e := e) (size := 1) w (cells8 l) l.length hb (by unfold maxLen; omega) (by rw [cells8_size, Nat.mul_one])
  rw [bytesV_cells] at h
  exact h
end Go.Proofs.YtlkikkfbennmnaaGreatDoor
namespace Go.Proofs.YtlkikkfbennmnaaGreatDoor
open Go.RowKit
/-- a header and an error are returned -/
def RetFA (w : World) (r : Int × Ah) (e : Ending) (w' : World) : Prop := ∃ ev, e = .returned (.tuple #[.agg #[.int .i64 r.2.k, .string (S r.2.d)], ev]) ∧ ErrIs w' ev r.1 (-1) ∧ Below w.heap.size w w'
set_option maxRecDepth 100000 in
theorem first_any (s : List UInt8) (w : World) (hl : s.length ≤ 1100) :
    Calls Tryz.prog 113 #[.string (S s)] w (RetFA w (firstA s)) := by
  have hb0 := (Below.refl w.heap.size w).alloc (Nat.le_refl _) (.cells #[.int .i64 0, .string (S [])] 87)
  have Hb0 := Lib.hid hb0
  have HK := Lib.hid (Blk.new w #[.int .i64 0, .string (S [])] 87)
  by_cases h3 : s.length < 3
  · have E := Lib.hid (firstA_few h3)
    clear hb0
    go_enter Tryz.func113, Tryz.ntmps113
    go_wp2_with fail
    obtain ⟨q0, q1⟩ := HK.out.two
    go_wp2_with fail
    refine bodyPost_ret (v := .tuple #[.agg #[.int .i64 0, .string (S [])], .iface 51 (.int .i64 7)]) (by simp [results, Tryz.results113, go_sem]) rfl ?_
    rw [E.out]
    exact ⟨_, rfl, .bare 7 (by decide), Hb0.out⟩
  · have hn := val2_lt s
    obtain ⟨n, hv⟩ : ∃ n, val (s.take 2) = n := ⟨_, rfl⟩
    have G := fun w => Lib.hid (get_ok (s.take 2) w (by simp; omega))
    have E1 := Lib.hid (firstA_more (s := s))
    have E2 := Lib.hid (firstA_form (s := s))
    have E3 := Lib.hid (firstA_ok (s := s))
    simp only [hv] at G hn E1 E2 E3
    have hw := IntWalk.i64_in (n : Int) (by omega)
    by_cases hfew : s.length < 3 + n + pad (3 + n)
    · have U := fun w => Lib.hid (unpad_few s (3 + n) w (by omega) (.inr hfew))
      simp only [Int.natCast_add] at U
      have E := Lib.hid (E1.out (by omega) hfew)
      clear hb0 hv hfew E1 E2 E3
      go_enter Tryz.func113, Tryz.ntmps113
      go_wp2_with fail
      refine (G _).out.mono ?_
      rintro e w1 ⟨rfl, rfl⟩
      go_wp2_with fail
      refine (U _).out.mono ?_
      rintro e w1 ⟨rfl, rfl⟩
      go_wp2_with fail
      refine bodyPost_ret (v := .tuple #[.agg #[.int .i64 0, .string (S [])], .iface 51 (.int .i64 7)]) (by simp [results, Tryz.results113, go_sem]) rfl ?_
      rw [E.out]
      exact ⟨_, rfl, .bare 7 (by decide), Hb0.out⟩
    · cases hz : ((s.drop (3 + n)).take (pad (3 + n)) == zs (pad (3 + n))) with
      | false =>
        have U := fun w => Lib.hid (unpad_bad s (3 + n) w (by omega) (by omega) hz)
        simp only [Int.natCast_add] at U
        have E := Lib.hid (E2.out (by omega) (by omega) hz)
        clear hb0 hv hfew E1 E2 E3 hz
        go_enter Tryz.func113, Tryz.ntmps113
        go_wp2_with fail
        refine (G _).out.mono ?_
        rintro e w1 ⟨rfl, rfl⟩
        go_wp2_with fail
        refine (U _).out.mono ?_
        rintro e w1 ⟨rfl, m, rfl⟩
        go_wp2_with fail
        refine bodyPost_ret (v := .tuple #[.agg #[.int .i64 0, .string (S [])], .iface 51 (.int .i64 3)]) (by simp [results, Tryz.results113, go_sem]) rfl ?_
        rw [E.out]
        exact ⟨_, rfl, .bare 3 (by decide), ((below_drewN Hb0.out m).setCell (Nat.le_refl _) _).setCell (Nat.le_refl _) _⟩
      | true =>
        have U := fun w => Lib.hid (unpad_ok s (3 + n) w (by omega) (by omega) hz)
        simp only [Int.natCast_add] at U
        have E := Lib.hid (E3.out (by omega) (by omega) hz)
        have h2l : 2 < s.length := by omega
        have h3n : ((s.take (3 + n)).length) = 3 + n := by simp; omega
        have hdt : List.drop 3 (s.take (3 + n)) = (s.drop 3).take n := by rw [List.drop_take]; congr 1; omega
        obtain ⟨c, hc⟩ : ∃ c, s[2]'h2l = c := ⟨_, rfl⟩
        have hg : s.getD 2 0 = c := by rw [List.getD_eq_getElem?_getD, List.getElem?_eq_getElem h2l, hc]; rfl
        rw [hg] at E
        obtain ⟨t, ht⟩ : ∃ t, s.take (3 + n) = t := ⟨_, rfl⟩
        rw [ht] at h3n hdt U
        rw [← hdt] at E
        have hld : (t.drop 3).length = n := by simp; omega
        clear hb0 hv hfew E1 E2 E3 hz hg ht hdt
        go_enter Tryz.func113, Tryz.ntmps113
        go_wp2_with fail
        refine (G _).out.mono ?_
        rintro e w1 ⟨rfl, rfl⟩
        go_wp2_with fail
        refine (U _).out.mono ?_
        rintro e w1 ⟨rfl, m, rfl⟩
        have HK1 := Lib.hid (HK.out.drewN m)
        have HB1 := Lib.hid (below_drewN Hb0.out m)
        generalize (w.alloc (.cells #[.int .i64 0, .string (S [])] 87)).drewN m = w1 at HK1 HB1 ⊢
        obtain ⟨q0, q1⟩ := HK1.out.two
        have f0 := HK1.out.frozen 0
        have f1 := HK1.out.frozen 1
        go_wp2_with fail
        go_region
        go_wp2_with fail
        have w1c : wrap64 (c.toNat : Int) = (c.toNat : Int) := IntWalk.wrap64_in _ (by have := c.toNat_lt; omega)
        have htk : List.take n (List.drop 3 t) = List.drop 3 t := List.take_of_length_le (by omega)
        refine bodyPost_ret (v := .tuple #[.agg #[.int .i64 (c.toNat : Int), .string (S (t.drop 3))], .nilIface]) (by simp [results, Tryz.results113, go_sem, q0, q1, w1c, htk]) rfl ?_
        rw [E.out]
        exact ⟨_, rfl, .good, (HB1.out.drew.setCell (Nat.le_refl _) _).setCell (Nat.le_refl _) _⟩
/-- headers that a call collects in a slice of its own -/
def ahsVs (l : List Ah) : List Value := l.flatMap fun a => [.int .i64 a.k, .string (S a.d)]
theorem ahsVs_len : ∀ l : List Ah, (ahsVs l).length = l.length * 2
  | [] => rfl
  | a :: l => by
    have := ahsVs_len l
    unfold ahsVs at *
    simp only [List.flatMap_cons, List.length_append, List.length_cons, List.length_nil] at *
    omega
theorem ahsVs_app (l m : List Ah) : ahsVs (l ++ m) = ahsVs l ++ ahsVs m := by simp [ahsVs]
theorem ahsVs_one (l : List Ah) : ∀ u ∈ ahsVs l, u.oneCell' = true := by
  intro u hu
  unfold ahsVs at hu
  obtain ⟨a, _, h⟩ := List.mem_flatMap.1 hu
  rcases List.mem_cons.1 h with rfl | h
  · rfl
  · rw [List.mem_singleton.1 h]; rfl
theorem ahsVs_get : ∀ (l : List Ah) (j : Nat) (hj : j < l.length), (ahsVs l)[j * 2]? = some (.int .i64 l[j].k) ∧ (ahsVs l)[j * 2 + 1]? = some (.string (S l[j].d))
  | [], j, hj => by simp at hj
  | a :: l, 0, _ => ⟨rfl, rfl⟩
  | a :: l, j + 1, hj => by
    obtain ⟨h1, h2⟩ := ahsVs_get l j (by simpa using hj)
    have e : ahsVs (a :: l) = .int .i64 a.k :: .string (S a.d) :: ahsVs l := rfl
    rw [e, show (j + 1) * 2 = j * 2 + 1 + 1 by omega, List.getElem?_cons_succ, List.getElem?_cons_succ, h1, show j * 2 + 1 + 1 + 1 = (j * 2 + 1) + 1 + 1 by omega, List.getElem?_cons_succ, List.getElem?_cons_succ, h2]
    exact ⟨rfl, rfl⟩
def ABuf (base : Nat) (W : World) (v : Value) (l : List Ah) : Prop := W.ownsRow base 87 2 v l.length (ahsVs l)
theorem ABuf.nil (base : Nat) (W : World) : ABuf base W (.slice none 0 0) [] := World.ownsRow_nil W base 87 2
theorem ABuf.alloc {base : Nat} {W : World} {v : Value} {l : List Ah} (h : ABuf base W v l) (o : Obj) : ABuf base (W.alloc o) v l := World.ownsRow.alloc h o
theorem ABuf.drew {base : Nat} {W : World} {v : Value} {l : List Ah} (h : ABuf base W v l) : ABuf base W.drew v l := h
theorem ABuf.drewN {base : Nat} {W : World} {v : Value} {l : List Ah} (h : ABuf base W v l) (n : Nat) : ABuf base (W.drewN n) v l := h
theorem ABuf.later {base : Nat} {W W' : World} {v : Value} {l : List Ah} (h : ABuf base W v l) (hb : Below W.heap.size W W') : ABuf base W' v l := by
  refine World.ownsRow.kept (row := none) h ⟨hb.os, hb.tape, hb.output, hb.size, fun k hk _ => hb.block k hk⟩ ?_
  cases hv : v.ownBlock with
  | none => exact .inl rfl
  | some k => exact .inr (by simp)
theorem ABuf.form {base : Nat} {W : World} {v : Value} {l : List Ah} (h : ABuf base W v l) : ∃ p cap, v = .slice p l.length cap := by
  rcases h.2 with ⟨rfl, h0⟩ | ⟨g, cap, cur, hv, _⟩
  · exact ⟨none, 0, by rw [h0]⟩
  · exact ⟨_, _, hv⟩
theorem ABuf.ahs {base : Nat} {W : World} {v : Value} {l : List Ah} (h : ABuf base W v l) : AhsV W v l := by
  rcases h.2 with ⟨rfl, h0⟩ | ⟨g, cap, cur, rfl, hbg, hg, hnc, hcm, hcs, htake⟩
  · obtain rfl : l = [] := List.eq_nil_of_length_eq_zero h0
    exact AhsV.nil W
  · refine ⟨_, _, rfl, hnc, fun _ => ⟨g, 0, rfl, fun j hj => ?_⟩⟩
    obtain ⟨g1, g2⟩ := ahsVs_get l j hj
    have h1 := World.ownsRow.cells h (g := g) rfl (j * 2) _ g1
    have h2 := World.ownsRow.cells h (g := g) rfl (j * 2 + 1) _ g2
    have e1 : (⟨g, 0, none⟩ : Addr).add (j * 2) = ⟨g, 0 + j * 2, none⟩ := by simp only [Addr.add]; split <;> simp_all
    have e2 : (⟨g, 0, none⟩ : Addr).add (j * 2 + 1) = ⟨g, 0 + j * 2 + 1, none⟩ := by simp only [Addr.add]; split <;> simp_all <;> omega
    rw [e1] at h1
    rw [e2] at h2
    exact ⟨h1, h2⟩
theorem ABuf.ne {base : Nat} {W : World} {v : Value} {l : List Ah} (h : ABuf base W v l) {b : Nat} (hb : W.heap.size ≤ b) : ∀ k, v.ownBlock = some k → b ≠ k := fun k hk => by
  have := (World.ownsRow.lt h k hk).2
  omega
theorem ABuf.ge {base : Nat} {W : World} {v : Value} {l : List Ah} (h : ABuf base W v l) : ∀ k, v.ownBlock = some k → base ≤ k := fun k hk => (World.ownsRow.lt h k hk).1
theorem Blk.grownA {W W' : World} {b : Nat} {C : Array Value} {t : TypeId} {row : Option Nat} (h : Blk W b C t) (hg : W.grownBy W' row) (hne : ∀ k, row = some k → b ≠ k) : Blk W' b C t :=
  (hg.block b h.lt (fun e => hne b e.symm rfl)).trans h
theorem ABuf.other {base b : Nat} {W W' : World} {v : Value} {l : List Ah} (h : ABuf base W v l) (hg : W.grownBy W' (some b)) (hb : b < base) : ABuf base W' v l := by
  refine World.ownsRow.kept h hg ?_
  cases hv : v.ownBlock with
  | none => exact .inl rfl
  | some k => exact .inr (fun e => by have := (World.ownsRow.lt h k hv).1; have := Option.some.inj e; omega)
theorem grownBy_cell (W : World) (a : Addr) (u : Value) : W.grownBy (W.setCell a u) (some a.block) :=
  ⟨rfl, rfl, rfl, by simp, fun k _ hne => by
    have hk : k ≠ a.block := fun e => hne (by rw [e])
    exact Below.heap_setCell W a u k hk⟩
theorem ABuf.set {base : Nat} {W : World} {v : Value} {l : List Ah} (h : ABuf base W v l) {a : Addr} (hb : a.block < base) (u : Value) : ABuf base (W.setCell a u) v l := h.other (grownBy_cell W a u) hb
theorem infoAh : ∃ i, Tryz.prog.info? 87 = some i ∧ i.zero = some (.agg #[.int .i64 0, .string (S [])]) ∧ i.size = 2 ∧ i.bytes = 24 := info_parts (show (Tryz.prog.info? 87).map (fun i => (i.zero, i.size, i.bytes)) = some (some (.agg #[.int .i64 0, .string (S [])]), 2, 24) by kernel_rfl)
end Go.Proofs.YtlkikkfbennmnaaGreatDoor
namespace Go.Proofs.YtlkikkfbennmnaaGreatDoor
open Go.RowKit
/-- headers and an error are returned -/
def RetLE (w : World) (r : List Ah × Int × Int) (e : Ending) (w' : World) : Prop := ∃ v ev, e = .returned (.tuple #[v, ev]) ∧ AhsV w' v r.1 ∧ ErrIs w' ev r.2.1 r.2.2 ∧ Below w.heap.size w w'
theorem appA_sides (k : Int) (d : List UInt8) (wu : World) (N n base : Nat) (hN : wu.heap.size = N) (hn : n ≤ 5000) (hb : base ≤ N) :
    Hid (∀ j u, ([.int .i64 k, .string (S d)] : List Value)[j]? = some u → (wu.alloc (.cells #[.int .i64 k, .string (S d)] 87)).cell? ((⟨N, 0, none⟩ : Addr).add j) = some u) ∧ Hid (∀ u ∈ ([.int .i64 k, .string (S d)] : List Value), u.oneCell' = true) ∧ Hid (n + 1 ≤ maxLen) ∧ Hid ((n + 1) * 24 ≤ 140737488355328) ∧ Hid (base ≤ (wu.alloc (.cells #[.int .i64 k, .string (S d)] 87)).heap.size) := by
  subst hN
  refine ⟨Lib.hid ?_, Lib.hid ?_, Lib.hid (by unfold maxLen; omega), Lib.hid (by omega), Lib.hid (by simp; omega)⟩
  · intro j u h
    have hb := (Blk.new wu #[.int .i64 k, .string (S d)] 87).cell j
    have e1 : (⟨wu.heap.size, 0, none⟩ : Addr).add j = ⟨wu.heap.size, j, none⟩ := by simp only [Addr.add]; split <;> simp_all
    rw [e1, hb]
    simpa using h
  · exact ahsVs_one [⟨k, d⟩]
set_option maxRecDepth 100000 in
theorem read_ahs (s : List UInt8) (w : World) (hg : ErrCell w) (hl : s.length ≤ 140737488355328) :
    Calls Tryz.prog 97 #[.string (S s)] w (RetLE w (readA s)) := by
  by_cases h1 : 1020 < s.length
  · have E := Lib.hid (show readA s = ([], 4, -1) by unfold readA; rw [if_pos h1])
    clear hg
    go_enter Tryz.func97, Tryz.ntmps97
    go_wp2_with fail
    go_ret2
    rw [E.out]
    exact ⟨_, _, rfl, AhsV.nil _, .bare 4 (by decide), Below.refl _ _⟩
  · have E := Lib.hid (show readA s = readF s.length 0 s [] by unfold readA; rw [if_neg h1])
    have Hg := Lib.hid hg
    obtain ⟨i0, hi, hz0, hz1, hz2⟩ := infoAh
    clear hg hl
    go_enter Tryz.func97, Tryz.ntmps97
    go_wp2_with fail
    go_loopw [4, 5] (fun x i wr => ∃ (p f : Nat) (acc : List Ah), p ≤ s.length ∧ s.length ≤ f + p ∧ acc.length ≤ p ∧ i = .int .i64 p ∧ readF f p (s.drop p) acc = readA s ∧ ABuf w.heap.size wr x acc ∧ Below w.heap.size w wr) (fun _ i _ => s.length - (intOf i).toNat)
    case atStart => exact ⟨0, s.length, [], by omega, by omega, by simp, rfl, E.out.symm, ABuf.nil _ _, Below.refl _ _⟩
    case round =>
      obtain ⟨p, f, acc, hp, hf, hap, rfl, hr, hbuf, hb⟩ := hrel
      have Hb := Lib.hid hb
      have Hbuf := Lib.hid hbuf
      obtain ⟨pv, cv, rfl⟩ := hbuf.form
      by_cases hlt : p < s.length
      · obtain ⟨f1, rfl⟩ : ∃ f1, f = f1 + 1 := ⟨f - 1, by omega⟩
        have hne : s.drop p ≠ [] := fun e => by have := congrArg List.length e; simp at this; omega
        rw [readF_succ, if_neg hne] at hr
        have htk : List.take (s.length - p) (s.drop p) = s.drop p := List.take_of_length_le (by simp)
        have hdl : (s.drop p).length = s.length - p := by simp
        have FA := fun w => Lib.hid (first_any (s.drop p) w (by omega))
        have FW := firstA_wr (s := s.drop p)
        obtain ⟨⟨n, ⟨k, d⟩⟩, hfa⟩ : ∃ r, firstA (s.drop p) = r := ⟨_, rfl⟩
        rw [hfa] at hr FW
        simp only [hfa] at FA
        have Hr := Lib.hid hr
        have HFW := Lib.hid FW
        have Hdl := Lib.hid hdl
        clear hb hbuf hfa FW hne hr hdl
        go_wp2_with fail
        refine (FA _).out.mono ?_
        rintro e w1 ⟨ev, rfl, he, hb1⟩
        have hlow1 := (below_then Hb.out hb1).alloc (Nat.le_trans Hb.out.size hb1.size) (.cells #[.int .i64 k, .string (S d)] 87)
        have HB1 := Lib.hid ((Hbuf.out.later hb1).alloc (.cells #[.int .i64 k, .string (S d)] 87))
        have Hlow1 := Lib.hid hlow1
        have HBlk := Lib.hid (Blk.new w1 #[.int .i64 k, .string (S d)] 87)
        have hba := (Below.refl w1.heap.size w1).alloc (Nat.le_refl _) (.cells #[.int .i64 k, .string (S d)] 87)
        have he1 := he.later hba
        have Hne := Lib.hid (Hbuf.out.ne hb1.size)
        have Hge := Lib.hid Hbuf.out.ge
        have hsz1 : w.heap.size ≤ w1.heap.size := Nat.le_trans Hb.out.size hb1.size
        clear hb1 hlow1 hba
        by_cases hn : n = 0
        · subst hn
          obtain rfl := he.zero
          obtain ⟨hkk, hsa, _⟩ := HFW.out rfl
          rw [Hdl.out] at hsa
          have hsa' : 3 + d.length + pad (3 + d.length) ≤ s.length - p := hsa
          have hd47 : d.length ≤ 140737488355328 := by omega
          have ZZ := fun W => Lib.hid (size_any ⟨k, d⟩ W hd47)
          have hpos := sizeA_pos ⟨k, d⟩
          obtain ⟨z, hz⟩ : ∃ z, sizeA ⟨k, d⟩ = z := ⟨_, rfl⟩
          rw [hz] at hsa hpos Hr
          simp only [hz] at ZZ
          rw [if_pos rfl] at Hr
          simp only [List.drop_drop] at Hr
          obtain ⟨HA1, HA2, HA3, HA4, HA5⟩ := appA_sides k d (w1.alloc (.cells #[.int .i64 k, .string (S d)] 87)) (w1.heap.size + 1) acc.length w.heap.size (by simp) (by omega) (by omega)
          have HBa := Lib.hid (HB1.out.alloc (.cells #[.int .i64 k, .string (S d)] 87))
          clear he he1 hz HFW hkk hd47 hsa'
          go_wp2_with (at_builtin; refine wpList_append_own _ rfl _ _ 43 rfl w.heap.size 87 i0 (.agg #[.int .i64 0, .string (S [])]) 2 24 Tryz.underlying43 hi hz0 hz1 hz2 rfl (by decide) (.slice pv acc.length cv) acc.length (ahsVs acc) rfl HBa.out ⟨w1.heap.size + 1, 0, none⟩ 1 1 [.int .i64 k, .string (S d)] rfl rfl HA1.out HA2.out HA3.out HA4.out HA5.out ?_)
          intro v' wa hown hgrow hnil
          have hown' : ABuf w.heap.size wa v' (acc ++ [⟨k, d⟩]) := by
            unfold ABuf
            rw [ahsVs_app, List.length_append]
            exact hown
          have HBlk2 := (HBlk.out.alloc (.cells #[.int .i64 k, .string (S d)] 87)).grownA hgrow (Hne.out)
          obtain ⟨q0, q1⟩ := HBlk2.two
          have Hlow2 := Lib.hid ((Hlow1.out.alloc Hlow1.out.size (.cells #[.int .i64 k, .string (S d)] 87)).grown hgrow (by simp; omega) Hge.out)
          have Hown := Lib.hid hown'
          clear hown hown' hgrow hnil HBlk2
          go_wp2_with fail
          refine (ZZ _).out.mono ?_
          rintro e w3 ⟨rfl, hb3⟩
          have Hown3 := Lib.hid (Hown.out.later hb3)
          have Hlow3 := Lib.hid (below_then Hlow2.out hb3)
          clear hb3 q0 q1
          go_wp2_with fail
          go_roundw
          case rel => exact ⟨p + z, f1, acc ++ [⟨k, d⟩], by omega, by omega, by simp; omega, by go_num, Hr.out, Hown3.out, Hlow3.out⟩
          case measure => simp [intOf]; omega
        · obtain ⟨t, x, rfl⟩ := he.iface hn
          rw [if_neg hn] at Hr
          have T := Lib.hid (tell_is he1 (Hg.out.later Hlow1.out))
          have Hn := Lib.hid hn
          clear he he1 hn HFW
          go_wp2_with fail
          refine T.out.mono ?_
          rintro e w3 ⟨rfl, hb3⟩
          have Hlow3 := Lib.hid (below_then Hlow1.out hb3)
          clear hb3
          go_wp2_with fail
          go_ret2
          rw [← Hr.out]
          exact ⟨_, _, rfl, AhsV.nil _, .placed _ n p Hn.out (by simp) (by simp), Hlow3.out.alloc Hlow3.out.size _⟩
      · obtain rfl : p = s.length := by omega
        rw [List.drop_length, readF_nil] at hr
        have Hr := Lib.hid hr
        clear hb hbuf hr
        go_wp2_with fail
        go_ret2
        rw [← Hr.out]
        exact ⟨_, _, rfl, Hbuf.out.ahs, .good, Hb.out⟩
end Go.Proofs.YtlkikkfbennmnaaGreatDoor
namespace Go.Proofs.YtlkikkfbennmnaaGreatDoor
open Go.RowKit
theorem written_any (a : Ah) (w : World) (hk : 0 ≤ a.k ∧ a.k ≤ 255) (hd : a.d.length ≤ 2000) :
    Calls Tryz.prog 51 #[.agg #[.int .i64 a.k, .string (S a.d)]] w fun e w' => e = .returned (.string (S (wrA a))) ∧ Below w.heap.size w w' := by
  obtain ⟨k, d⟩ := a
  simp only at hk hd ⊢
  obtain ⟨c, rfl⟩ : ∃ c : Nat, k = c := ⟨k.toNat, by omega⟩
  have hc : c < 256 := by omega
  have P1 := fun w => Lib.hid (put_ok d.length 2 w (by decide) (Nat.div_eq_of_lt (by omega)))
  have P2 := fun w => Lib.hid (put_ok c 1 w (by decide) (Nat.div_eq_of_lt (by omega)))
  have P3 := fun w => Lib.hid (padded_any (be d.length 2 ++ be c 1 ++ d) w (by simp only [List.length_append, be_len]; omega))
  have E := Lib.hid (show wrA ⟨(c : Int), d⟩ = padded (be d.length 2 ++ be c 1 ++ d) from rfl)
  have l1 := be_len d.length 2
  have l2 := be_len c 1
  have e1 := wrap_u64_lt d.length (by omega)
  have e2 := wrap_u64_lt c (by omega)
  have hb0 := (Below.refl w.heap.size w).alloc (Nat.le_refl _) (.cells #[.int .i64 (c : Int), .string (S d)] 87)
  have Hb0 := Lib.hid hb0
  have hbk := Lib.hid (Blk.new w #[.int .i64 (c : Int), .string (S d)] 87)
  clear hb0
  go_enter Tryz.func51, Tryz.ntmps51
  go_wp2_with fail
  refine (P1 _).out.mono ?_
  rintro e w1 ⟨rfl, hb1⟩
  obtain ⟨q0, q1⟩ := (hbk.out.later hb1).two
  have hbk1 := Lib.hid (hbk.out.later hb1)
  have Hb1 := Lib.hid (below_then Hb0.out hb1)
  clear hb1
  go_wp2_with fail
  refine (P2 _).out.mono ?_
  rintro e w2 ⟨rfl, hb2⟩
  have Hb2 := Lib.hid (below_then Hb1.out hb2)
  have hbk2 := hbk1.out.later hb2
  clear q0 q1
  obtain ⟨q0, q1⟩ := hbk2.two
  clear hb2 hbk2
  go_wp2_with fail
  refine (P3 _).out.mono ?_
  rintro e w3 ⟨rfl, rfl⟩
  go_wp2_with fail
  go_ret
  rw [E.out]
  exact ⟨rfl, Hb2.out⟩
theorem info8w : (Tryz.prog.info? 5).map (fun i => (i.zero, i.size, i.bytes)) = some (some (.int .u8 0), 1, 1) := by kernel_rfl
theorem wrL_take_le (l : List Ah) (j : Nat) : (wrL (l.take j)).length ≤ (wrL l).length := by
  have h : (wrL l).length = (wrL (l.take j)).length + (wrL (l.drop j)).length := by rw [← List.length_append, ← wrL_app, List.take_append_drop]
  omega
set_option maxRecDepth 100000 in
theorem write_ahs (l : List Ah) (v : Value) (w : World) (hv : AhsV w v l) (hf : fitA l) :
    Calls Tryz.prog 29 #[v] w (RetSE w (writeA l)) := by
  have R := Lib.hid (right_ahs l v w hv hf)
  have hl47 := hf.1
  have HV := Lib.hid hv
  obtain ⟨i0, hi, hz0, hz1, hz2⟩ := info_parts info8w
  by_cases h0 : (rightA l).1 = 0
  · obtain ⟨hk, hs, hr⟩ := rightA_is l h0
    have Hk := Lib.hid hk
    have E := Lib.hid (writeA_ok hk hs)
    rw [hr] at R
    have hd := Lib.hid (data_lt hs)
    have Hf := Lib.hid hf
    clear hv hf h0 hr hk
    obtain ⟨p, c, rfl⟩ := HV.out.form
    go_enter Tryz.func29, Tryz.ntmps29
    go_wp2_with fail
    refine R.out.mono ?_
    rintro e w1 ⟨ev, rfl, he, hb1⟩
    obtain rfl := he.zero
    have Hb1 := Lib.hid hb1
    clear he hb1
    go_wp2_with fail
    go_loopw [5, 15] (fun b i wr => ∃ j : Nat, j ≤ l.length ∧ i = .int .i64 j ∧ Buf 5 w.heap.size wr b (wrL (l.take j)) ∧ Below w.heap.size w wr) (fun _ i _ => l.length - (intOf i).toNat)
    case atStart => exact ⟨0, by omega, rfl, buf_nil _ _ _, Hb1.out⟩
    case round =>
      obtain ⟨j, hj, rfl, hbuf, hb⟩ := hrel
      have Hb := Lib.hid hb
      have hsz := hb.size
      have hlj := wrL_take_le l j
      by_cases hlt : j < l.length
      · obtain ⟨p', c', hpe, _, hc⟩ := HV.out
        obtain ⟨b, o, rfl, hcl⟩ := hc (by omega)
        obtain ⟨h1, h2⟩ := hcl j hlt
        have hp : p = some ⟨b, o, none⟩ := by injection hpe
        subst hp
        rw [← (bcell hb).1 b (o + j * 2) (block_lt_of_cell (w := w) (a := ⟨b, o + j * 2, none⟩) h1)] at h1
        rw [← (bcell hb).1 b (o + j * 2 + 1) (block_lt_of_cell (w := w) (a := ⟨b, o + j * 2 + 1, none⟩) h2)] at h2
        obtain ⟨a, ha⟩ : ∃ a, l[j] = a := ⟨_, rfl⟩
        have hka := Hk.out l[j] (List.getElem_mem hlt)
        have hda : l[j].d.length ≤ 2000 := by
          have h1 : (wrL (l.take (j + 1))).length ≤ (wrL l).length := wrL_take_le l (j + 1)
          rw [List.take_succ_eq_append_getElem hlt, wrL_app, wrL_one, List.length_append, wrA_len] at h1
          unfold sizeA at h1; omega
        have hst := List.take_succ_eq_append_getElem hlt
        rw [ha] at h1 h2 hka hda hst
        have hla : (wrA a).length ≤ 3000 := by rw [wrA_len]; unfold sizeA; have := pad_le (3 + a.d.length); omega
        have W := fun w => Lib.hid (written_any a w hka hda)
        obtain ⟨k, d⟩ := a
        simp only at h1 h2 hka hda W
        have Hst := Lib.hid hst
        have hb1 := hb.alloc hb.size (.cells #[.int .i64 k, .string (S d)] 87)
        have Hb1 := Lib.hid hb1
        have HB2 := Lib.hid (hbuf.alloc (.cells #[.int .i64 k, .string (S d)] 87))
        have hz1' : w.heap.size ≤ (wr.alloc (.cells #[.int .i64 k, .string (S d)] 87)).heap.size := hb1.size
        have Hz := Lib.hid hz1'
        clear hst hcl hb hb1 hc hpe hbuf ha hka hda hz1'
        go_wp2_with fail
        refine (W _).out.mono ?_
        rintro e w2 ⟨rfl, hb2⟩
        have Hlo2 := Lib.hid (below_then Hb1.out hb2)
        have HB3 := Lib.hid (HB2.out.later hb2)
        have hz2' : w.heap.size ≤ w2.heap.size := Hlo2.out.size
        clear hb2 h1 h2
        go_wp2_with (at_builtin; refine wpList_append_buf rfl _ _ _ _ rfl 5 i0 Tryz.underlying63 hi hz0 hz1 hz2 w.heap.size _ (wrL (l.take j)) rfl HB3.out hz2' _ (wrA ⟨k, d⟩) rfl (src_string Tryz.underlying9 (wrA ⟨k, d⟩) _) (by omega) ?_; intro v3 w3 hb3 hlo3 hsz3 hg3)
        have HB4 := hb3
        rw [← wrL_one, ← wrL_app, ← Hst.out] at HB4
        have HB4 := Lib.hid HB4
        have Hlo4 := Lib.hid (Hlo2.out.trans hlo3)
        clear hb3 hlo3 hg3
        go_wp2_with fail
        go_roundw
        case rel => exact ⟨j + 1, by omega, by go_num, HB4.out, Hlo4.out⟩
        case measure => simp [intOf]; omega
      · obtain rfl : j = l.length := by omega
        rw [List.take_length] at hbuf
        have hcv := run_string_buf (P := Tryz.prog) 63 9 5 Tryz.underlying63 Tryz.underlying5 Tryz.underlying9 hbuf
        clear hb hbuf
        go_wp2_with fail
        go_ret2
        rw [E.out]
        exact ⟨_, rfl, .good, Hb.out⟩
  · have E := Lib.hid (show writeA l = ([], rightA l) by unfold writeA; rw [if_neg h0])
    obtain ⟨⟨n, q⟩, hr⟩ : ∃ r, rightA l = r := ⟨_, rfl⟩
    rw [hr] at R E h0
    clear hv hf hr
    obtain ⟨p, c, rfl⟩ := HV.out.form
    go_enter Tryz.func29, Tryz.ntmps29
    go_wp2_with fail
    refine R.out.mono ?_
    rintro e w1 ⟨ev, rfl, he, hb1⟩
    obtain ⟨t, x, rfl⟩ := he.iface h0
    have Hb1 := Lib.hid hb1
    have He := Lib.hid he
    clear he hb1
    go_wp2_with fail
    go_ret2
    rw [E.out]
    exact ⟨_, rfl, He.out, Hb1.out⟩
end Go.Proofs.YtlkikkfbennmnaaGreatDoor
namespace Go.Proofs.YtlkikkfbennmnaaGreatDoor
open Go.RowKit
theorem ah_same (w : World) (k : Int) (d : List UInt8) : (binOp .neq 87 (.agg #[.int .i64 k, .string (S d)]) (.agg #[.int .i64 k, .string (S d)])).run Tryz.prog w = .ok (.bool false) w := by
  have hS : Tryz.prog.underlying 87 = some (.struct (Tryz.prog.fieldsOf 87)) := by kernel_rfl
  have hp : Tryz.prog.stoodInHeld 87 = false := by kernel_rfl
  rw [run_neq_struct, show (10000 : Nat) = 9999 + 1 from rfl, run_equalIn_agg w 9999 87 _ _ hS hp]
  simp only [Program.fieldsOf, Tryz.underlying87]
  go_simp
set_option maxRecDepth 100000 in
theorem equalA_same (l : List Ah) (v v' : Value) (w : World) (hl : l.length ≤ 140737488355328) (hv : AhsV w v l) (hv' : AhsV w v' l) :
    Calls Tryz.prog 38 #[v, v'] w fun e w' => e = .returned (.bool true) ∧ Below w.heap.size w w' := by
  obtain ⟨p, c, rfl, _, hc⟩ := hv
  obtain ⟨p', c', rfl, _, hc'⟩ := hv'
  have hne : ((l.length : Int) != (l.length : Int)) = false := by simp
  have Hc := Lib.hid hc
  have Hc' := Lib.hid hc'
  clear hc hc'
  go_enter Tryz.func38, Tryz.ntmps38
  go_wp2_with fail
  go_loopw [13] (fun i wr => ∃ j : Nat, j ≤ l.length ∧ i = .int .i64 j ∧ Below w.heap.size w wr) (fun i _ => l.length - (intOf i).toNat)
  case atStart => exact ⟨0, by omega, rfl, Below.refl _ _⟩
  case round =>
    obtain ⟨j, hj, rfl, hb⟩ := hrel
    have Hb := Lib.hid hb
    by_cases hlt : j < l.length
    · obtain ⟨b, o, rfl, hcl⟩ := Hc.out (by omega)
      obtain ⟨b', o', rfl, hcl'⟩ := Hc'.out (by omega)
      obtain ⟨q0, q1⟩ := hcl j hlt
      obtain ⟨r0, r1⟩ := hcl' j hlt
      rw [← (bcell hb).1 b (o + j * 2) (block_lt_of_cell (w := w) (a := ⟨b, o + j * 2, none⟩) q0)] at q0
      rw [← (bcell hb).1 b (o + j * 2 + 1) (block_lt_of_cell (w := w) (a := ⟨b, o + j * 2 + 1, none⟩) q1)] at q1
      rw [← (bcell hb).1 b' (o' + j * 2) (block_lt_of_cell (w := w) (a := ⟨b', o' + j * 2, none⟩) r0)] at r0
      rw [← (bcell hb).1 b' (o' + j * 2 + 1) (block_lt_of_cell (w := w) (a := ⟨b', o' + j * 2 + 1, none⟩) r1)] at r1
      obtain ⟨⟨k, d⟩, ha⟩ : ∃ a, l[j] = a := ⟨_, rfl⟩
      rw [ha] at q0 q1 r0 r1
      simp only at q0 q1 r0 r1
      have hj0 : (0 : Int) ≤ (j : Int) := by omega
      have E2 := fun w => ah_same w k d
      clear hb hcl hcl' ha
      go_wp2_with fail
      go_quiet (fail)
      go_wp2_with fail
      go_roundw
      case rel => exact ⟨j + 1, by omega, by go_num, below_drewN Hb.out _⟩
      case measure => simp [intOf]; omega
    · clear hb
      go_wp2_with fail
      go_ret
      exact ⟨rfl, Hb.out⟩
end Go.Proofs.YtlkikkfbennmnaaGreatDoor
namespace Go.Proofs.YtlkikkfbennmnaaGreatDoor
open Go.RowKit
def RetBool (w : World) (e : Ending) (w' : World) : Prop := ∃ b, e = .returned (.bool b) ∧ Below w.heap.size w w'
set_option maxRecDepth 100000 in
theorem wideK_any (l : List Ah) (v : Value) (w : World) (hv : AhsV w v l) (hf : fitA l) :
    Calls Tryz.prog 44 #[v] w (RetBool w) := by
  obtain ⟨p, c, rfl, _, hc⟩ := hv
  have Hc := Lib.hid hc
  have hl47 := hf.1
  clear hc hf
  go_enter Tryz.func44, Tryz.ntmps44
  go_wp2_with fail
  go_loopw [3, 10] (fun x i wr => ∃ (j : Nat) (n : Int), j ≤ l.length ∧ i = .int .i64 j ∧ x = .int .i64 n ∧ Below w.heap.size w wr) (fun _ i _ => l.length - (intOf i).toNat)
  case atStart => exact ⟨0, _, by omega, rfl, rfl, Below.refl _ _⟩
  case round =>
    obtain ⟨j, n, hj, rfl, rfl, hb⟩ := hrel
    have Hb := Lib.hid hb
    by_cases hlt : j < l.length
    · obtain ⟨b, o, rfl, hcl⟩ := Hc.out (by omega)
      obtain ⟨h1, h2⟩ := hcl j hlt
      rw [← (bcell hb).1 b (o + j * 2) (block_lt_of_cell (w := w) (a := ⟨b, o + j * 2, none⟩) h1)] at h1
      rw [← (bcell hb).1 b (o + j * 2 + 1) (block_lt_of_cell (w := w) (a := ⟨b, o + j * 2 + 1, none⟩) h2)] at h2
      obtain ⟨⟨k, d⟩, ha⟩ : ∃ a, l[j] = a := ⟨_, rfl⟩
      rw [ha] at h1 h2
      simp only at h1 h2
      have Hb1 := Lib.hid (hb.alloc hb.size (.cells #[.int .i64 k, .string (S d)] 87))
      clear hcl hb ha
      go_wp2_with fail
      go_roundw
      case rel => exact ⟨j + 1, _, by omega, by go_num, rfl, Hb1.out⟩
      case measure => simp [intOf]; omega
    · clear hb
      go_wp2_with fail
      go_ret
      exact ⟨_, rfl, Hb.out⟩
end Go.Proofs.YtlkikkfbennmnaaGreatDoor
