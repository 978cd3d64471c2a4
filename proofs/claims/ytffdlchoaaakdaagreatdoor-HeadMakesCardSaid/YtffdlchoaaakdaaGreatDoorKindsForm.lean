/- ref.kinds' great region: each operation's form, and what its value is, reckoned form by form. -/
import Derived.Test.YtffdlchoaaakdaaGreatDoorKindsTab
import Derived.Great.FillDense
namespace Go.Proofs.YtffdlchoaaakdaaGreatDoor
open Go Go.RowKit
structure Rk where
  op : Nat
  nm : List UInt8
  fl : Nat
  fs : List Fd
inductive KSpec where
  | fd (f : Fd)
  | row (fs : List Fd)
  | kd (k : Rk)
  | all (ks : List Rk)
  | fn
def fdV (f : Fd) : Value := .agg #[.string (S f.nm), .int .i64 (f.pos : Int), .int .i64 (f.sz : Int)]
def rkV (k : Rk) (b : Nat) : Value := .agg #[.int .i64 (k.op : Int), .string (S k.nm), .int .i64 (k.fl : Int), .slice (some ⟨b, 0, none⟩) k.fs.length k.fs.length]
def rkC (k : Rk) (b : Nat) : List Value := [.int .i64 (k.op : Int), .string (S k.nm), .int .i64 (k.fl : Int), .slice (some ⟨b, 0, none⟩) k.fs.length k.fs.length]
def cellsRk (ks : List Rk) (bs : List Nat) : Array Value := ((ks.zip bs).flatMap fun x => rkC x.1 x.2).toArray
def KSpec.holds : KSpec → Value → World → Prop
  | .fd f, v, _ => v = fdV f
  | .row fs, v, W => ∃ b, v = .slice (some ⟨b, 0, none⟩) fs.length fs.length ∧ Flds W b fs
  | .kd k, v, W => ∃ b, v = rkV k b ∧ Flds W b k.fs
  | .all ks, v, W => ∃ b, ∃ bs : List Nat, v = .slice (some ⟨b, 0, none⟩) ks.length ks.length ∧ bs.length = ks.length ∧ Blk W b (cellsRk ks bs) 66 ∧ ∀ x ∈ ks.zip bs, Flds W x.2 x.1.fs
  | .fn, v, _ => v = .func (.func 36) #[] #[]
theorem KSpec.later {s : KSpec} {v : Value} {W W' : World} (h : s.holds v W) (hb : Below W.heap.size W W') : s.holds v W' := by
  cases s with
  | fd f => exact h
  | row fs => obtain ⟨b, e, hF⟩ := h; exact ⟨b, e, Blk.later hF hb⟩
  | kd k => obtain ⟨b, e, hF⟩ := h; exact ⟨b, e, Blk.later hF hb⟩
  | all ks => obtain ⟨b, bs, e, hl, hB, hF⟩ := h; exact ⟨b, bs, e, hl, hB.later hb, fun x hx => Blk.later (hF x hx) hb⟩
  | fn => exact h
def KSpec.fd? : KSpec → Option Fd
  | .fd f => some f
  | _ => none
def KSpec.kd? : KSpec → Option Rk
  | .kd f => some f
  | _ => none
def optAll {α : Type} : List (Option α) → Option (List α)
  | [] => some []
  | x :: xs => match x, optAll xs with
    | some a, some l => some (a :: l)
    | _, _ => none
theorem optAll_eq {α : Type} : ∀ {l : List (Option α)} {r : List α}, optAll l = some r → l = r.map some
  | [], r, h => by cases h; rfl
  | x :: xs, r, h => by
    unfold optAll at h
    split at h
    · rename_i a l e
      cases h
      rw [List.map_cons, optAll_eq e]
    · cases h
inductive KForm where
  | mf
  | ld (n : Nat)
  | at (nm : List UInt8) (p s : Nat)
  | row (js : List Nat)
  | call (jf j : Nat)
  | kd (op : Nat) (nm : List UInt8) (fl : Nat) (j : Nat)
  | all (js : List Nat)
  | mv (j : Nat)
def tmpsP (js : List Nat) : Array (Nat × Operand) := (js.zipIdx.map fun x => (x.2, Operand.tmp (22 + x.1))).toArray
theorem tmpsP_eval (a : Act) (js : List Nat) : ((tmpsP js).map fun (i, x) => (i, a.eval x)).toList = ((js.map fun j => a.eval (.tmp (22 + j))).zipIdx 0).map fun x => (x.2, x.1) := by
  unfold tmpsP
  simp [List.zipIdx_map, List.map_map, Function.comp_def]
/-- a slice of parts of s cells is written out -/
theorem opw_rows {P : Program} {o : Oper} {a : Act} {w : World} {t e : TypeId} {s n : Nat} {js : List Nat} {z : Value} {b : Nat} {K : Act → World → Prop} {Q : Exit → Act → World → Prop} (ho : o.op = .buildSlice t n (tmpsP js))
    (hn : js.length = n) (hi : (P.info? e).map (fun i => (i.zero, i.size, i.bytes)) = some (some z, s, b)) (hu : P.underlying t = some (.slice e)) (hs : 0 < s) (hs4 : s ≤ 10) (hn0 : 0 < n) (hn1 : n ≤ 100)
    (hv : ∀ j ∈ js, (a.eval (.tmp (22 + j))).cells.size = s)
    (hK : K (a.put o.dst (.slice (some ⟨w.heap.size, 0, none⟩) n n)) (w.alloc (.cells ((js.map fun j => a.eval (.tmp (22 + j))).flatMap fun v => v.cells.toList).toArray e))) : Oper.wp P o a w K Q := by
  obtain ⟨i, hi', hz, hsz, _⟩ := info_parts hi
  have hm : n * s ≤ 1000 := Nat.le_trans (Nat.mul_le_mul hn1 hs4) (by decide)
  have hp : 0 < n * s := Nat.mul_pos hn0 hs
  refine opw_value ?_ hK
  have h := run_buildSlice (P := P) w t e n ((tmpsP js).map fun (i, x) => (i, a.eval x)) _ i _ hu hi' hz (by rw [hsz]; omega) (by rw [hsz]; omega) (by
    rw [hsz, tmpsP_eval]
    exact Great.fill_whole hs _ _ (fun v hv' => by obtain ⟨j, hj, rfl⟩ := List.mem_map.1 hv'; exact hv j hj) (by simp [hn]))
  unfold execOp
  rw [ho]
  simp only [Sem.run_bind, h]
  rfl
/-- the ten variables, by number: they lie in slots 1 to 10, the function in slot 11 -/
def kVars : List Fd := [⟨[76, 85, 78], 8, 8⟩, ⟨[73, 84, 84], 16, 4⟩, ⟨[84, 84, 84], 20, 4⟩, ⟨[67, 109, 100, 83, 78], 24, 4⟩, ⟨[69, 120, 112, 83, 116, 97, 116, 83, 78], 28, 4⟩, ⟨[83, 116, 97, 116, 83, 78], 24, 4⟩, ⟨[69, 120, 112, 67, 109, 100, 83, 78], 28, 4⟩, ⟨[77, 97, 120, 67, 109, 100, 83, 78], 32, 4⟩, ⟨[73, 83, 73, 68], 8, 6⟩, ⟨[84, 83, 73, 72], 14, 2⟩]
def KForm.toOp : KForm → Op
  | .mf => .move (.tmp 11)
  | .ld n => .load 45 (.tmp (n + 1))
  | .at nm p s => .call { callee := .value (.func 35), args := #[.const (.string (S nm)), .const (.int .i64 (p : Int)), .const (.int .i64 (s : Int))], argTypes := #[9, 3, 3] }
  | .row js => .buildSlice 25 js.length (tmpsP js)
  | .call jf j => .call { callee := .value (.tmp (22 + jf)), args := #[.tmp (22 + j)], argTypes := #[25] }
  | .kd op nm fl j => .build 66 #[(0, .const (.int .i64 (op : Int))), (1, .const (.string (S nm))), (2, .const (.int .i64 (fl : Int))), (3, .tmp (22 + j))]
  | .all js => .buildSlice 63 js.length (tmpsP js)
  | .mv j => .assign (.tmp (22 + j))
def KForm.uses : KForm → List Nat
  | .row js => js
  | .call jf j => [jf, j]
  | .kd _ _ _ j => [j]
  | .all js => js
  | .mv j => [j]
  | _ => []
def KForm.spec (sp : List KSpec) : KForm → Option KSpec
  | .mf => some .fn
  | .ld n => (kVars[n]?).map .fd
  | .at nm p s => some (.fd ⟨nm, p, s⟩)
  | .row js => if 0 < js.length ∧ js.length ≤ 100 then (optAll (js.map fun j => (sp[j]?).bind KSpec.fd?)).map .row else none
  | .call jf j => match sp[jf]?, sp[j]? with
    | some .fn, some (.row fs) => some (.row fs)
    | _, _ => none
  | .kd op nm fl j => match sp[j]? with
    | some (.row fs) => some (.kd ⟨op, nm, fl, fs⟩)
    | _ => none
  | .all js => if 0 < js.length ∧ js.length ≤ 100 then (optAll (js.map fun j => (sp[j]?).bind KSpec.kd?)).map .all else none
  | .mv j => sp[j]?
theorem map_of {α β : Type} {f : Nat → Option α} {g : Nat → β} {h : α → β} : ∀ {js : List Nat} {r : List α}, js.map f = r.map some → (∀ j ∈ js, ∀ x, f j = some x → g j = h x) → js.map g = r.map h
  | [], [], _, _ => rfl
  | [], _ :: _, e, _ => by cases e
  | _ :: _, [], e, _ => by cases e
  | j :: js, x :: r, e, hh => by
    simp only [List.map_cons, List.cons.injEq] at e ⊢
    exact ⟨hh j (List.mem_cons_self ..) x e.1, map_of e.2 fun k hk => hh k (List.mem_cons_of_mem _ hk)⟩
theorem map_some {α β γ : Type} {f : Nat → Option α} {g : Nat → β} {h : α → γ → β} {p : α → γ → Prop} : ∀ {js : List Nat} {r : List α}, js.map f = r.map some → (∀ j ∈ js, ∀ x, f j = some x → ∃ b, g j = h x b ∧ p x b) →
    ∃ bs : List γ, bs.length = r.length ∧ js.map g = (r.zip bs).map (fun y => h y.1 y.2) ∧ ∀ y ∈ r.zip bs, p y.1 y.2
  | [], [], _, _ => ⟨[], rfl, rfl, fun _ h => absurd h List.not_mem_nil⟩
  | [], _ :: _, e, _ => by cases e
  | _ :: _, [], e, _ => by cases e
  | j :: js, x :: r, e, hh => by
    simp only [List.map_cons, List.cons.injEq] at e
    obtain ⟨bs, hl, hm, hp⟩ := map_some e.2 fun k hk => hh k (List.mem_cons_of_mem _ hk)
    obtain ⟨b, hg, hpb⟩ := hh j (List.mem_cons_self ..) x e.1
    refine ⟨b :: bs, by simp [hl], by simp [hg, hm], fun y hy => ?_⟩
    rcases List.mem_cons.1 hy with rfl | hy
    · exact hpb
    · exact hp y hy
theorem flat_fd (fs : List Fd) : ((fs.map fdV).flatMap fun v => v.cells.toList).toArray = cellsF fs := by
  unfold cellsF
  rw [List.flatMap_map]
  rfl
theorem flat_rk (ks : List Rk) (bs : List Nat) : (((ks.zip bs).map fun y => rkV y.1 y.2).flatMap fun v => v.cells.toList).toArray = cellsRk ks bs := by
  unfold cellsRk
  rw [List.flatMap_map]
  rfl
theorem built_kd (op fl : Int) (nm : List UInt8) (b n : Nat) : Tryz.prog.built 66 [(0, .int .i64 op), (1, .string (S nm)), (2, .int .i64 fl), (3, .slice (some ⟨b, 0, none⟩) n n)] = some #[.int .i64 op, .string (S nm), .int .i64 fl, .slice (some ⟨b, 0, none⟩) n n] := by kernel_rfl
def kForms : List KForm := [.mf,
  .ld 0,
  .ld 1,
  .ld 2,
  .ld 3,
  .ld 4,
  .row [1, 2, 3, 4, 5],
  .call 0 6,
  .kd 0 [78, 111, 112, 79, 117, 116] 128 7,
  .mf,
  .ld 0,
  .ld 1,
  .at [76, 101, 110, 103, 116, 104] 20 4,
  .ld 3,
  .ld 4,
  .at [67, 100, 98, 65] 32 8,
  .at [67, 100, 98, 66] 40 8,
  .row [10, 11, 12, 13, 14, 15, 16],
  .call 9 17,
  .kd 1 [83, 99, 115, 105, 67, 111, 109, 109, 97, 110, 100] 231 18,
  .mf,
  .ld 0,
  .ld 1,
  .at [82, 101, 102, 84, 97, 103] 20 4,
  .ld 3,
  .ld 4,
  .at [82, 101, 102, 67, 109, 100, 83, 78] 32 4,
  .at [69, 120, 112, 68, 97, 116, 97, 83, 78] 36 4,
  .row [21, 22, 23, 24, 25, 26, 27],
  .call 20 28,
  .kd 2 [84, 97, 115, 107, 82, 101, 113, 117, 101, 115, 116] 255 29,
  .mf,
  .at [86, 101, 114, 115, 105, 111, 110, 77, 97, 120] 2 1,
  .at [86, 101, 114, 115, 105, 111, 110, 77, 105, 110] 3 1,
  .ld 8,
  .ld 9,
  .ld 1,
  .at [67, 73, 68] 20 2,
  .ld 3,
  .ld 4,
  .row [32, 33, 34, 35, 36, 37, 38, 39],
  .call 31 40,
  .kd 3 [76, 111, 103, 105, 110, 82, 101, 113, 117, 101, 115, 116] 207 41,
  .mf,
  .ld 0,
  .ld 1,
  .ld 2,
  .ld 3,
  .ld 4,
  .row [44, 45, 46, 47, 48],
  .call 43 49,
  .kd 4 [84, 101, 120, 116, 82, 101, 113, 117, 101, 115, 116] 192 50,
  .mf,
  .ld 0,
  .ld 1,
  .ld 2,
  .ld 4,
  .at [68, 97, 116, 97, 83, 78] 36 4,
  .at [79, 102, 102, 115, 101, 116] 40 4,
  .row [53, 54, 55, 56, 57, 58],
  .call 52 59,
  .kd 5 [68, 97, 116, 97, 79, 117, 116] 128 60,
  .mf,
  .ld 1,
  .at [67, 73, 68] 20 2,
  .ld 3,
  .ld 4,
  .row [63, 64, 65, 66],
  .call 62 67,
  .kd 6 [76, 111, 103, 111, 117, 116, 82, 101, 113, 117, 101, 115, 116] 255 68,
  .mf,
  .ld 0,
  .ld 1,
  .ld 2,
  .ld 4,
  .at [66, 101, 103, 82, 117, 110] 40 4,
  .at [82, 117, 110, 76, 101, 110, 103, 116, 104] 44 4,
  .row [71, 72, 73, 74, 75, 76],
  .call 70 77,
  .kd 16 [83, 110, 97, 99, 107] 143 78,
  .mf,
  .ld 0,
  .ld 1,
  .ld 2,
  .ld 5,
  .ld 6,
  .ld 7,
  .row [81, 82, 83, 84, 85, 86],
  .call 80 87,
  .kd 32 [78, 111, 112, 73, 110] 128 88,
  .mf,
  .at [82, 101, 115, 112, 111, 110, 115, 101] 2 1,
  .at [83, 116, 97, 116, 117, 115] 3 1,
  .ld 1,
  .at [83, 110, 97, 99, 107, 84, 97, 103] 20 4,
  .ld 5,
  .ld 6,
  .ld 7,
  .at [69, 120, 112, 68, 97, 116, 97, 83, 78] 36 4,
  .at [66, 105, 100, 105, 82, 101, 115, 105, 100, 117, 97, 108] 40 4,
  .at [82, 101, 115, 105, 100, 117, 97, 108] 44 4,
  .row [91, 92, 93, 94, 95, 96, 97, 98, 99, 100],
  .call 90 101,
  .kd 33 [83, 99, 115, 105, 82, 101, 115, 112, 111, 110, 115, 101] 158 102,
  .mf,
  .at [82, 101, 115, 112, 111, 110, 115, 101] 2 1,
  .ld 1,
  .ld 5,
  .ld 6,
  .ld 7,
  .row [105, 106, 107, 108, 109],
  .call 104 110,
  .kd 34 [84, 97, 115, 107, 82, 101, 115, 112, 111, 110, 115, 101] 128 111,
  .mf,
  .at [86, 101, 114, 115, 105, 111, 110, 77, 97, 120] 2 1,
  .at [86, 101, 114, 115, 105, 111, 110, 65, 99, 116, 105, 118, 101] 3 1,
  .ld 8,
  .ld 9,
  .ld 1,
  .ld 5,
  .ld 6,
  .ld 7,
  .at [83, 116, 97, 116, 117, 115, 67, 108, 97, 115, 115] 36 1,
  .at [83, 116, 97, 116, 117, 115, 68, 101, 116, 97, 105, 108] 37 1,
  .row [114, 115, 116, 117, 118, 119, 120, 121, 122, 123],
  .call 113 124,
  .kd 35 [76, 111, 103, 105, 110, 82, 101, 115, 112, 111, 110, 115, 101] 207 125,
  .mf,
  .ld 0,
  .ld 1,
  .ld 2,
  .ld 5,
  .ld 6,
  .ld 7,
  .row [128, 129, 130, 131, 132, 133],
  .call 127 134,
  .kd 36 [84, 101, 120, 116, 82, 101, 115, 112, 111, 110, 115, 101] 192 135,
  .mf,
  .at [83, 116, 97, 116, 117, 115] 3 1,
  .ld 0,
  .ld 1,
  .ld 2,
  .ld 5,
  .ld 6,
  .ld 7,
  .at [68, 97, 116, 97, 83, 78] 36 4,
  .at [79, 102, 102, 115, 101, 116] 40 4,
  .at [82, 101, 115, 105, 100, 117, 97, 108] 44 4,
  .row [138, 139, 140, 141, 142, 143, 144, 145, 146, 147],
  .call 137 148,
  .kd 37 [68, 97, 116, 97, 73, 110] 199 149,
  .mf,
  .at [82, 101, 115, 112, 111, 110, 115, 101] 2 1,
  .ld 1,
  .ld 5,
  .ld 6,
  .ld 7,
  .at [84, 105, 109, 101, 50, 87, 97, 105, 116] 40 2,
  .at [84, 105, 109, 101, 50, 82, 101, 116, 97, 105, 110] 42 2,
  .row [152, 153, 154, 155, 156, 157, 158],
  .call 151 159,
  .kd 38 [76, 111, 103, 111, 117, 116, 82, 101, 115, 112, 111, 110, 115, 101] 128 160,
  .mf,
  .ld 0,
  .ld 1,
  .ld 2,
  .ld 5,
  .ld 6,
  .ld 7,
  .at [82, 50, 84, 83, 78] 36 4,
  .at [79, 102, 102, 115, 101, 116] 40 4,
  .at [76, 101, 110, 103, 116, 104] 44 4,
  .row [163, 164, 165, 166, 167, 168, 169, 170, 171],
  .call 162 172,
  .kd 49 [82, 50, 84] 128 173,
  .mf,
  .ld 0,
  .ld 1,
  .ld 5,
  .ld 6,
  .ld 7,
  .at [69, 118, 101, 110, 116] 36 1,
  .at [86, 67, 111, 100, 101] 37 1,
  .at [80, 97, 114, 97, 109, 101, 116, 101, 114, 49] 38 2,
  .at [80, 97, 114, 97, 109, 101, 116, 101, 114, 50] 40 2,
  .at [80, 97, 114, 97, 109, 101, 116, 101, 114, 51] 42 2,
  .row [176, 177, 178, 179, 180, 181, 182, 183, 184, 185],
  .call 175 186,
  .kd 50 [65, 115, 121, 110, 99] 128 187,
  .mf,
  .at [82, 101, 97, 115, 111, 110] 2 1,
  .ld 1,
  .ld 5,
  .ld 6,
  .ld 7,
  .at [68, 97, 116, 97, 83, 78] 36 4,
  .row [190, 191, 192, 193, 194, 195],
  .call 189 196,
  .kd 63 [82, 101, 106, 101, 99, 116] 128 197,
  .all [8, 19, 30, 42, 51, 61, 69, 79, 89, 103, 112, 126, 136, 150, 161, 174, 188, 198],
  .mv 199]
def kSpecs : List KSpec := kForms.foldl (fun acc F => acc ++ [(F.spec acc).getD .fn]) []
theorem kForms_len : kForms.length = 201 := by kernel_rfl
theorem kForms_ok : kOps.toList.map (·.op) = kForms.map KForm.toOp := by kernel_rfl
theorem kSpecs_ok : kForms.map (fun F => F.spec kSpecs) = kSpecs.map some := by kernel_rfl
theorem kUses_ok : ((kOps.toList.zip kForms).all fun x => x.2.uses.all fun j => decide (j < 200) && x.1.after.toList.any fun e => e.on == j && Region.binds .any e) = true := by kernel_rfl
end Go.Proofs.YtffdlchoaaakdaaGreatDoor
