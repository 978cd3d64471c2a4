/- head.Name, Flags, Fields; named. -/
import Derived.Test.YtffdlchoaaakdaaGreatDoorList
namespace Go.Proofs.YtffdlchoaaakdaaGreatDoor
open Go.RowKit
theorem find_none {op : Int} (h : kindOf op = none) (w : World) : Calls Tryz.prog 23 #[.int .i64 op] w fun e W' => e = .returned (.tuple #[.agg #[.int .i64 0, .string (S []), .int .i64 0, .string (S [])], .iface 28 (.int .i64 1)]) ∧ Below w.heap.size w W' :=
  (find_any op w).mono fun e W' ⟨he, hb⟩ => ⟨by rw [he]; unfold findV; rw [h]; rfl, hb⟩
theorem find_some {op : Int} {k : Kd} (h : kindOf op = some k) (w : World) : Calls Tryz.prog 23 #[.int .i64 op] w fun e W' => e = .returned (.tuple #[.agg #[.int .i64 (k.op : Int), .string (S k.nm), .int .i64 (k.fl : Int), .string (S k.tx)], .nilIface]) ∧ Below w.heap.size w W' :=
  (find_any op w).mono fun e W' ⟨he, hb⟩ => ⟨by rw [he]; unfold findV; rw [h]; rfl, hb⟩
theorem name_none {op : Int} (h : kindOf op = none) (w : World) : Calls Tryz.prog 7 #[.int .i64 op] w fun e W' => e = .returned (.tuple #[.string (S []), .iface 28 (.int .i64 1)]) ∧ Below w.heap.size w W' := by
  have C := Lib.hid (find_none h w)
  clear h
  go_enter Tryz.func7, Tryz.ntmps7
  go_wp2_with fail
  refine C.out.mono ?_
  rintro e w' ⟨rfl, hb⟩
  have Hb := Lib.hid hb
  clear hb
  go_wp2_with fail
  go_ret2
  exact ⟨rfl, Hb.out.alloc Hb.out.size _⟩
theorem name_some {op : Int} {k : Kd} (h : kindOf op = some k) (w : World) : Calls Tryz.prog 7 #[.int .i64 op] w fun e W' => e = .returned (.tuple #[.string (S k.nm), .nilIface]) ∧ Below w.heap.size w W' := by
  have C := Lib.hid (find_some h w)
  clear h
  go_enter Tryz.func7, Tryz.ntmps7
  go_wp2_with fail
  refine C.out.mono ?_
  rintro e w' ⟨rfl, hb⟩
  have Hb := Lib.hid hb
  clear hb
  go_wp2_with fail
  go_ret2
  exact ⟨rfl, Hb.out.alloc Hb.out.size _⟩
theorem flags_none {op : Int} (h : kindOf op = none) (w : World) : Calls Tryz.prog 8 #[.int .i64 op] w fun e W' => e = .returned (.tuple #[.int .i64 0, .iface 28 (.int .i64 1)]) ∧ Below w.heap.size w W' := by
  have C := Lib.hid (find_none h w)
  clear h
  go_enter Tryz.func8, Tryz.ntmps8
  go_wp2_with fail
  refine C.out.mono ?_
  rintro e w' ⟨rfl, hb⟩
  have Hb := Lib.hid hb
  clear hb
  go_wp2_with fail
  go_ret2
  exact ⟨rfl, Hb.out.alloc Hb.out.size _⟩
theorem flags_some {op : Int} {k : Kd} (h : kindOf op = some k) (w : World) : Calls Tryz.prog 8 #[.int .i64 op] w fun e W' => e = .returned (.tuple #[.int .i64 (k.fl : Int), .nilIface]) ∧ Below w.heap.size w W' := by
  have C := Lib.hid (find_some h w)
  clear h
  go_enter Tryz.func8, Tryz.ntmps8
  go_wp2_with fail
  refine C.out.mono ?_
  rintro e w' ⟨rfl, hb⟩
  have Hb := Lib.hid hb
  clear hb
  go_wp2_with fail
  go_ret2
  exact ⟨rfl, Hb.out.alloc Hb.out.size _⟩
theorem fields_none {op : Int} (h : kindOf op = none) (w : World) : Calls Tryz.prog 9 #[.int .i64 op] w fun e W' => e = .returned (.tuple #[.slice none 0 0, .iface 28 (.int .i64 1)]) ∧ Below w.heap.size w W' := by
  have C := Lib.hid (find_none h w)
  clear h
  go_enter Tryz.func9, Tryz.ntmps9
  go_wp2_with fail
  refine C.out.mono ?_
  rintro e w' ⟨rfl, hb⟩
  have Hb := Lib.hid hb
  clear hb
  go_wp2_with fail
  go_ret2
  exact ⟨rfl, Hb.out.alloc Hb.out.size _⟩
def RetFieldsE (w : World) (fs : List Fd) (e : Ending) (w' : World) : Prop :=
  ∃ b, e = .returned (.tuple #[.slice (some ⟨b, 0, none⟩) fs.length fs.length, .nilIface]) ∧ w.heap.size ≤ b ∧ Flds w' b fs ∧ Below w.heap.size w w'
theorem kind_list {op : Int} {k : Kd} (h : kindOf op = some k) (w : World) (hm : MaxCell w) :
    Calls Tryz.prog 24 #[.agg #[.int .i64 (k.op : Int), .string (S k.nm), .int .i64 (k.fl : Int), .string (S k.tx)]] w (RetFields w k.fs) :=
  list_any k (kindOf_mem h).1 ⟨(kindFacts h).len0, (kindFacts h).len⟩ w hm
theorem fields_some {op : Int} {k : Kd} (h : kindOf op = some k) (w : World) (hm : MaxCell w) : Calls Tryz.prog 9 #[.int .i64 op] w (RetFieldsE w k.fs) := by
  have C := Lib.hid (find_some h w)
  have L := fun w hm => Lib.hid (kind_list h w hm)
  have Hm := Lib.hid hm
  clear h hm
  go_enter Tryz.func9, Tryz.ntmps9
  go_wp2_with fail
  refine C.out.mono ?_
  rintro e w' ⟨rfl, hb⟩
  have hb2 := hb.alloc hb.size (.cells #[.int .i64 (k.op : Int), .string (S k.nm), .int .i64 (k.fl : Int), .string (S k.tx)] 68)
  have L2 := Lib.hid (L _ (Hm.out.later hb2)).out
  have Hb2 := Lib.hid hb2
  clear hb hb2 L
  go_wp2_with fail
  refine L2.out.mono ?_
  rintro e w2 ⟨b, rfl, hlb, hF, hb3⟩
  have HF := Lib.hid hF
  have Hb3 := Lib.hid (below_then Hb2.out hb3)
  have hle : w.heap.size ≤ b := Nat.le_trans Hb2.out.size hlb
  clear hF hb3
  go_wp2_with fail
  go_ret2
  exact ⟨b, rfl, hle, HF.out, Hb3.out⟩
theorem nameIs_any (f : Fd) (n : List UInt8) (B : Nat) (w : World) (hB : w.cell? ⟨B, 0, none⟩ = some (.string (S n))) :
    Calls Tryz.prog 42 #[.agg #[.string (S f.nm), .int .i64 (f.pos : Int), .int .i64 (f.sz : Int)], .pointer (some ⟨B, 0, none⟩)] w fun e w' => e = .returned (.bool (f.nm == n)) ∧ Below w.heap.size w w' := by
  have hlt := block_lt_of_cell (w := w) (a := ⟨B, 0, none⟩) hB
  go_enter Tryz.func42, Tryz.ntmps42
  go_wp2_with fail
  go_ret
  exact ⟨rfl, (Below.refl _ _).alloc (Nat.le_refl _) _⟩
def idxI (fs : List Fd) (n : List UInt8) : Int := match idxName fs n with
  | some i => (i : Int)
  | none => -1
set_option maxRecDepth 100000 in
theorem indexFunc_any (fs : List Fd) (n : List UInt8) (b B : Nat) (w : World) (hl : fs.length ≤ 10) (hF : Flds w b fs) (hB : w.cell? ⟨B, 0, none⟩ = some (.string (S n))) :
    Calls Tryz.prog 41 #[.slice (some ⟨b, 0, none⟩) fs.length fs.length, .func (.func 42) #[] #[.pointer (some ⟨B, 0, none⟩)]] w fun e w' => e = .returned (.int .i64 (idxI fs n)) ∧ Below w.heap.size w w' := by
  have HF := Lib.hid hF
  have HB := Lib.hid hB
  have hltB := block_lt_of_cell (w := w) (a := ⟨B, 0, none⟩) hB
  clear hF hB
  go_enter Tryz.func41, Tryz.ntmps41
  go_wp2_with fail
  go_loopw [8] (fun i wr => ∃ j : Nat, j ≤ fs.length ∧ i = .int .i64 j ∧ (∀ x (hx : x < fs.length), x < j → fs[x].nm ≠ n) ∧ Below w.heap.size w wr) (fun i _ => fs.length - (intOf i).toNat)
  case atStart => exact ⟨0, by omega, rfl, fun x _ hx => by omega, Below.refl _ _⟩
  case round =>
    obtain ⟨j, hj, rfl, hno, hbw⟩ := hrel
    have Hno := Lib.hid hno
    have Hbw := Lib.hid hbw
    by_cases hlt : j < fs.length
    · obtain ⟨q0, q1, q2⟩ := Flds.get (Blk.later HF.out hbw) j hlt
      have C := Lib.hid (nameIs_any fs[j] n B wr (by rw [(bcell hbw).1 _ 0 hltB]; exact HB.out))
      clear hno hbw
      by_cases hn : fs[j].nm = n
      · have hnb : (fs[j].nm == n) = true := by simpa using hn
        rw [hnb] at C
        have Hn := Lib.hid hn
        clear hn hnb
        go_wp2_with fail
        refine C.out.mono ?_
        rintro e w' ⟨rfl, hb⟩
        have Hb := Lib.hid (below_then Hbw.out hb)
        clear hb
        go_wp2_with fail
        go_ret
        refine ⟨ret_int ?_, Hb.out⟩
        unfold idxI
        rw [idxName_first hlt (fun x hx => Hno.out x (by omega) hx) Hn.out]
      · have hnb : (fs[j].nm == n) = false := by simpa using hn
        rw [hnb] at C
        have Hn := Lib.hid hn
        clear hn hnb
        go_wp2_with fail
        refine C.out.mono ?_
        rintro e w' ⟨rfl, hb⟩
        have Hb := Lib.hid (below_then Hbw.out hb)
        clear hb
        go_wp2_with fail
        go_roundw
        case rel => exact ⟨j + 1, by omega, by go_num, fun x hx hxj => by
          by_cases e : x = j
          · subst e; exact Hn.out
          · exact Hno.out x hx (by omega), Hb.out⟩
        case measure => simp [intOf]; omega
    · clear hno hbw
      go_wp2_with fail
      go_ret
      refine ⟨ret_int ?_, Hbw.out⟩
      unfold idxI
      rw [idxName_all (fun x hx => Hno.out x hx (by omega))]
theorem named_any (fs : List Fd) (n : List UInt8) (b : Nat) (w : World) (hl : fs.length ≤ 10) (hF : Flds w b fs) :
    Calls Tryz.prog 25 #[.slice (some ⟨b, 0, none⟩) fs.length fs.length, .string (S n)] w fun e w' => e = .returned (.int .i64 (idxI fs n)) ∧ Below w.heap.size w w' := by
  have hb0 := (Below.refl w.heap.size w).alloc (Nat.le_refl _) (.cells #[.string (S n)] 9)
  have C := Lib.hid (indexFunc_any fs n b w.heap.size _ hl (Blk.later hF hb0) (by simp))
  have Hb0 := Lib.hid hb0
  clear hb0 hF
  go_enter Tryz.func25, Tryz.ntmps25
  go_wp2_with fail
  refine C.out.mono ?_
  rintro e w' ⟨rfl, hb⟩
  have Hb := Lib.hid (below_then Hb0.out hb)
  clear hb
  go_wp2_with fail
  go_ret
  exact ⟨rfl, Hb.out⟩
end Go.Proofs.YtffdlchoaaakdaaGreatDoor
