/- head.number, head.row.list. -/
import Derived.Test.YtffdlchoaaakdaaGreatDoorFieldsAt
import Derived.Test.YtffdlchoaaakdaaGreatDoorShHd
import Derived.Test.YtffdlchoaaakdaaGreatDoorFind
import Derived.Lib.AtoiErrMem
namespace Go.Proofs.YtffdlchoaaakdaaGreatDoor
open Go.RowKit
/-- the cell of internal/bytealg.MaxLen -/
def MaxCell (w : World) : Prop := ∃ m : Int, w.cell? ⟨1, 0, none⟩ = some (.int .i64 m)
theorem MaxCell.later {w w' : World} (h : MaxCell w) (hb : Below w.heap.size w w') : MaxCell w' := by
  obtain ⟨m, hm⟩ := h
  exact ⟨m, by rw [(bcell hb).1 _ 0 (block_lt_of_cell (w := w) (a := ⟨_, 0, none⟩) hm)]; exact hm⟩
theorem number_any (l : List UInt8) (n : Int) (w : World) (hl : l.length ≤ 18) (h : Lib.atoi l = some n) :
    Calls Tryz.prog 40 #[.string (S l)] w fun e w' => e = .returned (.int .i64 n) ∧ Below w.heap.size w w' := by
  have C := Lib.hid (Tryz.strconv_Atoi (S l) n (by rw [S_size]; exact hl) (by simpa [S] using h) w)
  clear h
  go_enter Tryz.func40, Tryz.ntmps40
  go_wp2_with fail
  refine C.out.mono ?_
  rintro e w' ⟨rfl, t, rfl⟩
  have hb := Lib.bytesWorld_below w 5 t
  have Hb := Lib.hid hb
  clear hb
  go_wp2_with fail
  go_ret
  exact ⟨rfl, Hb.out⟩
theorem cut_any (l : List UInt8) (a b : List UInt8) (w : World) (hl : l.length < 1000) (h : Lib.cut l [32] = (a, b, true)) (hm : MaxCell w) :
    Calls Tryz.prog 39 #[.string (S l), .string (S [32])] w fun e w' => e = .returned (.tuple #[.string (S a), .string (S b), .bool true]) ∧ ∃ n, w' = w.drewN n := by
  obtain ⟨m, hm⟩ := hm
  have C := Tryz.strings_Cut (S l) (S [32]) m w (by rw [S_size]; omega) hm
  have e1 : (S l).data.toList = l := by simp [S]
  have e2 : (S [32]).data.toList = [32] := by simp [S]
  rw [e1, e2, h] at C
  exact C
/-- a block of fields -/
def Flds (W : World) (b : Nat) (fs : List Fd) : Prop := Blk W b (cellsF fs) 45
theorem Flds.get {W : World} {b : Nat} {fs : List Fd} (h : Flds W b fs) (j : Nat) (hj : j < fs.length) :
    W.cell? ⟨b, j * 3, none⟩ = some (.string (S fs[j].nm)) ∧ W.cell? ⟨b, j * 3 + 1, none⟩ = some (.int .i64 (fs[j].pos : Int)) ∧ W.cell? ⟨b, j * 3 + 2, none⟩ = some (.int .i64 (fs[j].sz : Int)) :=
  ⟨(Blk.cell h _).trans (cellsF_get fs j hj 0 (by decide)), (Blk.cell h _).trans (cellsF_get fs j hj 1 (by decide)), (Blk.cell h _).trans (cellsF_get fs j hj 2 (by decide))⟩
def RetFields (w : World) (fs : List Fd) (e : Ending) (w' : World) : Prop :=
  ∃ b, e = .returned (.slice (some ⟨b, 0, none⟩) fs.length fs.length) ∧ w.heap.size ≤ b ∧ Flds w' b fs ∧ Below w.heap.size w w'
theorem run_make_F (w : World) (n : Nat) (hn : n ≤ 100) : (Instr.makeSlice 25 (.int .i64 (n : Int)) (.int .i64 (n : Int))).run Tryz.prog w = .ok (.slice (some ⟨w.heap.size, 0, none⟩) n n) (w.alloc (.cells (cellsF (List.replicate n fd0)) 45)) := by
  obtain ⟨i, hi, hz, hs, hb⟩ := info_parts (show (Tryz.prog.info? 45).map (fun i => (i.zero, i.size, i.bytes)) = some (some (.agg #[.string (S []), .int .i64 0, .int .i64 0]), 3, 32) by kernel_rfl)
  have h := run_make (P := Tryz.prog) w 25 45 i _ Tryz.underlying25 hi hz .i64 .i64 n n (by omega) (Int.le_refl _) (by rw [hb]; omega) (by omega)
  simp only [Int.toNat_natCast, hs] at h
  rw [show (Value.agg #[Value.string (S []), Value.int IntKind.i64 0, Value.int IntKind.i64 0]).cells = #[Value.string (S []), Value.int IntKind.i64 0, Value.int IntKind.i64 0] from rfl, madeCells_F] at h
  exact h
/-- a block of strings -/
def Strs (W : World) (b : Nat) (l : List (List UInt8)) : Prop := ∀ j (hj : j < l.length), W.cell? ⟨b, j, none⟩ = some (.string (S l[j]))
theorem Strs.later {w w' : World} {b : Nat} {l : List (List UInt8)} (h : Strs w b l) (hb : Below w.heap.size w w') : Strs w' b l := fun j hj => by
  rw [(bcell hb).1 b j (block_lt_of_cell (w := w) (a := ⟨b, j, none⟩) (h j hj))]; exact h j hj
theorem split_any (k : Kd) (hk : k ∈ kinds) (w : World) (hm : MaxCell w) :
    Calls Tryz.prog 38 #[.string (S k.tx), .string (S [44, 32])] w fun e w' => ∃ b, e = .returned (.slice (some ⟨b, 0, none⟩) k.fs.length k.fs.length) ∧ w.heap.size ≤ b ∧ Strs w' b (k.fs.map fieldT) ∧ Below w.heap.size w w' := by
  have hs := spelt_of hk
  obtain ⟨m, hm2⟩ := hm
  have C := Tryz.strings_Split (S k.tx) (S [44, 32]) m _ (by rw [S_size]; have := hs.len; omega) hm2 (by rw [S_size]; decide)
  rw [countB_of hs, splitB_of hs] at C
  refine C.mono ?_
  rintro e w' ⟨rfl, rfl⟩
  refine ⟨_, rfl, Nat.le_refl _, fun j hj => ?_, (Below.refl _ _).alloc (Nat.le_refl _) _⟩
  rw [World.cell?_alloc_mark]
  simp only [List.map_map, List.getElem?_toArray, List.getElem?_map]
  rw [List.getElem?_eq_getElem (by simpa using hj)]
  simp
theorem row_keep {w W : World} {N b : Nat} {C : Array Value} {t : TypeId} (i : Nat) (x0 x1 x2 : Value) (hR : Blk W b C t) (hb : N ≤ b) (hB : Below N w W) :
    Blk (((W.setCell ⟨b, i, none⟩ x0).setCell ⟨b, i + 1, none⟩ x1).setCell ⟨b, i + 2, none⟩ x2) b (((C.setIfInBounds i x0).setIfInBounds (i + 1) x1).setIfInBounds (i + 2) x2) t ∧
    Below N w (((W.setCell ⟨b, i, none⟩ x0).setCell ⟨b, i + 1, none⟩ x1).setCell ⟨b, i + 2, none⟩ x2) :=
  ⟨((hR.set i x0).set (i + 1) x1).set (i + 2) x2, ((hB.setCell (p := ⟨b, i, none⟩) hb _).setCell (p := ⟨b, i + 1, none⟩) hb _).setCell (p := ⟨b, i + 2, none⟩) hb _⟩
set_option maxRecDepth 100000 in
theorem list_any (k : Kd) (hk : k ∈ kinds) (hlen : 1 ≤ k.fs.length ∧ k.fs.length ≤ 10) (w : World) (hm : MaxCell w) :
    Calls Tryz.prog 24 #[.agg #[.int .i64 (k.op : Int), .string (S k.nm), .int .i64 (k.fl : Int), .string (S k.tx)]] w (RetFields w k.fs) := by
  have hs := spelt_of hk
  have hmk := fun w => run_make_F w k.fs.length (by omega)
  have hb0 := (Below.refl w.heap.size w).alloc (Nat.le_refl _) (.cells #[.int .i64 (k.op : Int), .string (S k.nm), .int .i64 (k.fl : Int), .string (S k.tx)] 68)
  have C := Lib.hid (split_any k hk _ (hm.later hb0))
  have Hb0 := Lib.hid hb0
  have Hm := Lib.hid hm
  clear hb0 hm
  go_enter Tryz.func24, Tryz.ntmps24
  go_wp2_with fail
  refine C.out.mono ?_
  rintro e w1 ⟨b, rfl, hlb, hst, hb1⟩
  have Hst := Lib.hid hst
  have Hb1 := Lib.hid (below_then Hb0.out hb1)
  have hlt1 : b < w1.heap.size := block_lt_of_cell (w := w1) (a := ⟨b, 0, none⟩) (hst 0 (by rw [List.length_map]; omega))
  clear C hst hb1
  go_wp2_with fail
  go_loopw [21] (fun i wr => ∃ j : Nat, j ≤ k.fs.length ∧ i = .int .i64 j ∧ Blk wr w1.heap.size (cellsF (rowsF k.fs j)) 45 ∧ Below w1.heap.size w1 wr) (fun i _ => k.fs.length - (intOf i).toNat)
  case atStart => exact ⟨0, by omega, rfl, by rw [rowsF_0]; exact Blk.new _ _ _, (Below.refl _ _).alloc (Nat.le_refl _) _⟩
  case round =>
    obtain ⟨j, hj, rfl, hB, hbw⟩ := hrel
    have HB := Lib.hid hB
    have Hbw := Lib.hid hbw
    by_cases hlt : j < k.fs.length
    · obtain ⟨f, hf⟩ : ∃ f, k.fs[j] = f := ⟨_, rfl⟩
      obtain ⟨s1, s2, s3, s4, s5⟩ := hs.fld f (by rw [← hf]; exact List.getElem_mem _)
      have hc : wr.cell? ⟨b, j, none⟩ = some (.string (S (fieldT f))) := by
        have := (Hst.out.later hbw) j (by rw [List.length_map]; exact hlt)
        rw [this, List.getElem_map, hf]
      have hm1 := (Hm.out.later Hb1.out).later hbw
      have HM := Lib.hid hm1
      have C1 := fun n => Lib.hid (cut_any (fieldT f) f.nm (numT f) (wr.drewN n) (by omega) s1 hm1)
      have C2 := fun n => Lib.hid (cut_any (numT f) (dec2 f.pos) (dec2 f.sz) (wr.drewN n) (by unfold fieldT at s5; simp at s5; omega) s2 hm1)
      have d1 := dec2_len f.pos
      have d2 := dec2_len f.sz
      have N1 := fun w => Lib.hid (number_any (dec2 f.pos) f.pos w (by omega) s3)
      have N2 := fun w => Lib.hid (number_any (dec2 f.sz) f.sz w (by omega) s4)
      have Hf := Lib.hid hf
      clear hm1 hB hbw s1 s2 s3 s4 hf
      go_wp2_with fail
      refine (C1 0).out.mono ?_
      rintro e w2 ⟨rfl, n2, rfl⟩
      go_wp2_with fail
      refine (C2 _).out.mono ?_
      rintro e w3 ⟨rfl, n3, rfl⟩
      go_wp2_with fail
      refine (N1 _).out.mono ?_
      rintro e w4 ⟨rfl, hb4⟩
      have Hb4 := Lib.hid hb4
      clear hb4
      go_wp2_with fail
      refine (N2 _).out.mono ?_
      rintro e w5 ⟨rfl, hb5⟩
      have Hb5 := Lib.hid hb5
      clear hb5
      clear C1 C2 N1 N2
      have hW5 : Below (wr.drewN (n2 + n3)).heap.size (wr.drewN (n2 + n3)) w5 := below_then Hb4.out Hb5.out
      have hsz5 : wr.heap.size ≤ w5.heap.size := hW5.size
      have B5 : Blk w5 w1.heap.size (cellsF (rowsF k.fs j)) 45 := (HB.out.drewN (n2 + n3)).later hW5
      have hjl : j < (rowsF k.fs j).length := by rw [rowsF_len k.fs j hj]; exact hlt
      obtain ⟨q0, q1, q2⟩ := Flds.get B5 j hjl
      have f0 := B5.frozen (j * 3)
      have f1 := B5.frozen (j * 3 + 1)
      have f2 := B5.frozen (j * 3 + 2)
      have hB5 : Below w1.heap.size w1 w5 := (below_drewN Hbw.out (n2 + n3)).trans (hW5.mono Hbw.out.size)
      obtain ⟨g1, g2⟩ := row_keep (j * 3) (.string (S f.nm)) (.int .i64 (f.pos : Int)) (.int .i64 (f.sz : Int)) B5 (Nat.le_refl _) hB5
      rw [cellsF_set _ j hjl] at g1
      have hst := rowsF_step k.fs j hlt
      rw [Hf.out] at hst
      rw [hst] at g1
      have G1 := Lib.hid g1
      have G2 := Lib.hid g2
      clear g1 g2 hst B5 hW5 hB5 Hb4 Hb5
      go_wp2_with fail
      go_roundw
      case rel => exact ⟨j + 1, by omega, by go_num, G1.out, G2.out⟩
      case measure => simp [intOf]; omega
    · have hjn : j = k.fs.length := by omega
      subst hjn
      go_wp2_with fail
      go_ret
      have h1 := HB.out
      rw [rowsF_all] at h1
      exact ⟨_, rfl, Hb1.out.size, h1, below_then Hb1.out Hbw.out⟩
end Go.Proofs.YtffdlchoaaakdaaGreatDoor
