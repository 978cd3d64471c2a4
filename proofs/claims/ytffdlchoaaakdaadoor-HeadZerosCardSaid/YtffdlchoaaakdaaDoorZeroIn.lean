/- HeadZeros: is a byte one of a field? -/
import Derived.Test.YtffdlchoaaakdaaDoorZeroMath
namespace Go.Proofs.YtffdlchoaaakdaaDoor
open Go.RowKit
theorem ret_boolv {a b : Bool} (h : a = b) : Ending.returned (Value.bool a) = .returned (.bool b) := by rw [h]
theorem inIs_any (f : Fd) (a B : Nat) (w : World) (hp : f.pos ≤ 48) (hs : f.sz ≤ 8) (hB : w.cell? ⟨B, 0, none⟩ = some (.int .i64 (a : Int))) :
    Calls Tryd.prog 28 #[.agg #[.string (S f.nm), .int .i64 (f.pos : Int), .int .i64 (f.sz : Int)], .pointer (some ⟨B, 0, none⟩)] w fun e w' => e = .returned (.bool (decide (inF f a))) ∧ Below w.heap.size w w' := by
  have hlt := block_lt_of_cell (w := w) (a := ⟨B, 0, none⟩) hB
  have es : IntKind.i64.wrap ((f.pos : Int) + (f.sz : Int)) = (f.pos : Int) + f.sz := IntWalk.i64_in _ (by omega)
  by_cases h : f.pos ≤ a
  · by_cases h2 : a < f.pos + f.sz
    · have hd : decide (inF f a) = true := decide_eq_true ⟨h, h2⟩
      rw [hd]
      go_enter Tryd.func28, Tryd.ntmps28
      go_wp2_with fail
      go_ret
      exact ⟨ret_boolv (decide_eq_true (by omega)), (Below.refl _ _).alloc (Nat.le_refl _) _⟩
    · have hd : decide (inF f a) = false := decide_eq_false fun h' => h2 h'.2
      rw [hd]
      go_enter Tryd.func28, Tryd.ntmps28
      go_wp2_with fail
      go_ret
      exact ⟨ret_boolv (decide_eq_false (by omega)), (Below.refl _ _).alloc (Nat.le_refl _) _⟩
  · have hd : decide (inF f a) = false := decide_eq_false fun h' => h h'.1
    rw [hd]
    go_enter Tryd.func28, Tryd.ntmps28
    go_wp2_with fail
    go_ret
    exact ⟨rfl, (Below.refl _ _).alloc (Nat.le_refl _) _⟩
set_option maxRecDepth 100000 in
theorem indexIn_any (fs : List Fd) (a : Nat) (b B : Nat) (w : World) (hl : fs.length ≤ 10) (hok : ∀ f ∈ fs, f.pos ≤ 48 ∧ f.sz ≤ 8) (hF : Flds w b fs) (hB : w.cell? ⟨B, 0, none⟩ = some (.int .i64 (a : Int))) :
    Calls Tryd.prog 40 #[.slice (some ⟨b, 0, none⟩) fs.length fs.length, .func (.func 28) #[] #[.pointer (some ⟨B, 0, none⟩)]] w fun e w' =>
      (∃ r : Int, e = .returned (.int .i64 r) ∧ decide (0 ≤ r) = decide (∃ f ∈ fs, inF f a)) ∧ Below w.heap.size w w' := by
  have HF := Lib.hid hF
  have HB := Lib.hid hB
  have Hok := Lib.hid hok
  have hltB := block_lt_of_cell (w := w) (a := ⟨B, 0, none⟩) hB
  clear hF hB hok
  go_enter Tryd.func40, Tryd.ntmps40
  go_wp2_with fail
  go_loopw [8] (fun i wr => ∃ j : Nat, j ≤ fs.length ∧ i = .int .i64 j ∧ (∀ x (hx : x < fs.length), x < j → ¬ inF fs[x] a) ∧ Below w.heap.size w wr) (fun i _ => fs.length - (intOf i).toNat)
  case atStart => exact ⟨0, by omega, rfl, fun x _ hx => by omega, Below.refl _ _⟩
  case round =>
    obtain ⟨j, hj, rfl, hno, hbw⟩ := hrel
    have Hno := Lib.hid hno
    have Hbw := Lib.hid hbw
    by_cases hlt : j < fs.length
    · obtain ⟨q0, q1, q2⟩ := Flds.get (Blk.later HF.out hbw) j hlt
      obtain ⟨o1, o2⟩ := Hok.out fs[j] (List.getElem_mem hlt)
      have C := Lib.hid (inIs_any fs[j] a B wr o1 o2 (by rw [(bcell hbw).1 _ 0 hltB]; exact HB.out))
      clear hno hbw o1 o2
      by_cases hn : inF fs[j] a
      · rw [decide_eq_true hn] at C
        have Hn := Lib.hid hn
        clear hn
        go_wp2_with fail
        refine C.out.mono ?_
        rintro e w' ⟨rfl, hb⟩
        have Hb := Lib.hid (below_then Hbw.out hb)
        clear hb
        go_wp2_with fail
        go_ret
        refine ⟨⟨_, rfl, ?_⟩, Hb.out⟩
        rw [decide_eq_true (by omega), decide_eq_true ⟨fs[j], List.getElem_mem hlt, Hn.out⟩]
      · rw [decide_eq_false hn] at C
        have Hn := Lib.hid hn
        clear hn
        go_wp2_with fail
        refine C.out.mono ?_
        rintro e w' ⟨rfl, hb⟩
        have Hb := Lib.hid (below_then Hbw.out hb)
        clear hb
        go_wp2_with fail
        go_roundw
        case rel => exact ⟨j + 1, by omega, by go_num, fun x hx hxj => by
          by_cases e : x = j
          · subst e; exact Hn.out
          · exact Hno.out x hx (by omega), Hb.out⟩
        case measure => simp [intOf]; omega
    · clear hno hbw
      go_wp2_with fail
      go_ret
      refine ⟨⟨_, rfl, ?_⟩, Hbw.out⟩
      rw [decide_eq_false (by omega), decide_eq_false]
      rintro ⟨f, hf, hin⟩
      obtain ⟨x, hx, rfl⟩ := List.getElem_of_mem hf
      exact Hno.out x hx (by omega) hin
theorem containsIn_any (fs : List Fd) (a : Nat) (b B : Nat) (w : World) (hl : fs.length ≤ 10) (hok : ∀ f ∈ fs, f.pos ≤ 48 ∧ f.sz ≤ 8) (hF : Flds w b fs) (hB : w.cell? ⟨B, 0, none⟩ = some (.int .i64 (a : Int))) :
    Calls Tryd.prog 27 #[.slice (some ⟨b, 0, none⟩) fs.length fs.length, .func (.func 28) #[] #[.pointer (some ⟨B, 0, none⟩)]] w fun e w' =>
      e = .returned (.bool (decide (∃ f ∈ fs, inF f a))) ∧ Below w.heap.size w w' := by
  have C := Lib.hid (indexIn_any fs a b B w hl hok hF hB)
  clear hok hF hB
  go_enter Tryd.func27, Tryd.ntmps27
  go_wp2_with fail
  refine C.out.mono ?_
  rintro e w' ⟨⟨r, rfl, hr⟩, hb⟩
  have Hb := Lib.hid hb
  have Hr := Lib.hid hr
  clear hr hb
  go_wp2_with fail
  go_ret
  exact ⟨ret_boolv Hr.out, Hb.out⟩
end Go.Proofs.YtffdlchoaaakdaaDoor
