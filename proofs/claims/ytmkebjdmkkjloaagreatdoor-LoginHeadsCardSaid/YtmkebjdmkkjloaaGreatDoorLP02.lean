/- LP02: several texts in one. -/
import Derived.LaidEql
import Derived.Lib.Bytealg
import Derived.RowKitTokens
import Derived.Shelf.Small.Strs
import Derived.Shelf.Strings.Prefix
import Derived.Stop.Asserts
import Derived.Test.YtmkebjdmkkjloaaGreatDoorProg
import Derived.Test.YtmkebjdmkkjloaaGreatDoorRows
import Derived.Test.YtmkebjdmkkjloaaGreatDoorLP01
namespace Go.Proofs.YtmkebjdmkkjloaaGreatDoor
open Go.RowKit Go.Extern.Stop Go.Stop Go.Extern
theorem vOf_P (t : Addr) (w : World) : (ReflectliteValue.unpack (.iface 135 (.pointer (some t)))).run Tryz.prog w
    = .ok (.agg #[.pointer (some ⟨11, 135, none⟩), .pointer (some ⟨w.heap.size, 0, none⟩), .int .u64 150]) (w.alloc (.cells #[.pointer (some t)] 135)) := by kernel_rfl
theorem type_P (a : Addr) (w : World) : (ReflectliteValue.methodAny (ReflectliteValue.valueError "reflectlite.Value.Type" 0) (fun t _ _ _ => ReflectliteType.toType t) #[.agg #[.pointer (some ⟨11, 135, none⟩), .pointer (some a), .int .u64 150]]).run Tryz.prog w
    = .ok (.iface 222 (.agg #[.pointer (some ⟨11, 135, none⟩)])) w := by kernel_rfl
theorem m_Kind (h : Value) (w : World) : (Go.method 445 222 (.agg #[h]) "Kind").run Tryz.prog w = .ok (226, h) w := by kernel_rfl
theorem kind_P (w : World) : ((ReflectliteType.abiMethod fun t => (fun a : Nat => Value.int IntKind.u8 (a : Int)) <$> Rtype.kind t) #[.pointer (some ⟨11, 135, none⟩)]).run Tryz.prog w = .ok (.int .u8 22) w := by kernel_rfl
theorem kind_E (w : World) : ((ReflectliteType.abiMethod fun t => (fun a : Nat => Value.int IntKind.u8 (a : Int)) <$> Rtype.kind t) #[.pointer (some ⟨11, 80, none⟩)]).run Tryz.prog w = .ok (.int .u8 2) w := by kernel_rfl
theorem rlm (z : Sem Value) (f : TypeId → Addr → Nat → Nat → Sem Value) (v : Value) :
    ReflectliteValue.method z f #[v] = (do match ← ReflectliteValue.parts v with | none => z | some (t, a, fl) => f t a fl (fl % 32)) := rfl
theorem parts_P (a : Addr) (w : World) : (ReflectliteValue.parts (.agg #[.pointer (some ⟨11, 135, none⟩), .pointer (some a), .int .u64 150])).run Tryz.prog w = .ok (some (135, a, 150)) w := by kernel_rfl
theorem isNil_P (a p : Addr) (W : World) (ha : W.cell? a = some (.pointer (some p))) :
    (ReflectliteValue.method (ReflectliteValue.valueError "reflectlite.Value.IsNil" 0) ReflectliteValue.isNil #[.agg #[.pointer (some ⟨11, 135, none⟩), .pointer (some a), .int .u64 150]]).run Tryz.prog W = .ok (.bool false) W := by
  rw [rlm]
  simp only [Sem.run_bind, parts_P, Result.andThen]
  simp [ReflectliteValue.isNil, loadVar, isAgg, underlying, Tryz.underlying135, ha, Result.andThen]
theorem m_Elem (h : Value) (w : World) : (Go.method 445 222 (.agg #[h]) "Elem").run Tryz.prog w = .ok (241, .agg #[h]) w := by kernel_rfl
theorem m_Implements (h : Value) (w : World) : (Go.method 445 222 (.agg #[h]) "Implements").run Tryz.prog w = .ok (242, .agg #[h]) w := by kernel_rfl
theorem m_AssignableTo (h : Value) (w : World) : (Go.method 445 222 (.agg #[h]) "AssignableTo").run Tryz.prog w = .ok (239, .agg #[h]) w := by kernel_rfl
theorem elem_P (w : World) : (ReflectliteType.method ReflectliteType.elem #[.agg #[.pointer (some ⟨11, 135, none⟩)]]).run Tryz.prog w = .ok (.iface 222 (.agg #[.pointer (some ⟨11, 80, none⟩)])) w := by kernel_rfl
theorem impl_E (w : World) : (ReflectliteType.relation "Implements" ReflectliteType.implements_ #[.agg #[.pointer (some ⟨11, 80, none⟩)], .iface 222 (.agg #[.pointer (some ⟨11, 43, none⟩)])]).run Tryz.prog w = .ok (.bool true) w := by kernel_rfl
theorem typeOf_E (v : Value) (w : World) : (ReflectliteType.typeOf #[.iface 80 v]).run Tryz.prog w = .ok (.iface 222 (.agg #[.pointer (some ⟨11, 80, none⟩)])) w := by kernel_rfl
theorem asgn_E (w : World) : (ReflectliteType.relation "AssignableTo" ReflectliteType.assignableTo #[.agg #[.pointer (some ⟨11, 80, none⟩)], .iface 222 (.agg #[.pointer (some ⟨11, 80, none⟩)])]).run Tryz.prog w = .ok (.bool true) w := by kernel_rfl
theorem vOf_E (e : Int) (w : World) : (ReflectliteValue.unpack (.iface 80 (.int .i64 e))).run Tryz.prog w
    = .ok (.agg #[.pointer (some ⟨11, 80, none⟩), .pointer (some ⟨w.heap.size, 0, none⟩), .int .u64 130]) (w.alloc (.cells #[.int .i64 e] 80)) := by kernel_rfl
theorem elemOf_P (w : World) : (Rtype.elem? 135).run Tryz.prog w = .ok (some 80) w := by kernel_rfl
theorem mk_E (p : Addr) (w : World) : (ReflectliteValue.mk 80 p ReflectliteValue.flagAddr).run Tryz.prog w = .ok (.agg #[.pointer (some ⟨11, 80, none⟩), .pointer (some p), .int .u64 386]) w := by kernel_rfl
theorem elemV_P (a p : Addr) (W : World) (ha : W.cell? a = some (.pointer (some p))) :
    (ReflectliteValue.method (ReflectliteValue.valueError "reflectlite.Value.Elem" 0) ReflectliteValue.elem #[.agg #[.pointer (some ⟨11, 135, none⟩), .pointer (some a), .int .u64 150]]).run Tryz.prog W
      = .ok (.agg #[.pointer (some ⟨11, 80, none⟩), .pointer (some p), .int .u64 386]) W := by
  rw [rlm]
  simp only [Sem.run_bind, parts_P, Result.andThen]
  simp [ReflectliteValue.elem, loadVar, isAgg, underlying, Tryz.underlying135, ha, Result.andThen, elemOf_P, mk_E]
theorem rls (v x : Value) : ReflectliteValue.set #[v, x] = (do
    let (some (dst, a, fl), some (src, b, _)) := (← ReflectliteValue.parts v, ← ReflectliteValue.parts x)
      | unsupported (.noEntry "extern/(internal/reflectlite.Value).Set.zeroValue")
    if fl / ReflectliteValue.flagAddr % 2 == 0 then unsupported (.noEntry "extern/(internal/reflectlite.Value).Set.unaddressable")
    let val ← loadVar src b
    if ← Rtype.directlyAssignable dst src then storeVar dst a val
    else if ← Rtype.implements dst src then
      if (← Rtype.kind src) == 20 then
        match val with
        | .nilIface => unsupported (.noEntry "extern/reflectlite: a nil value of one interface type handed on as a value of another")
        | _ => storeVar dst a val
      else storeVar dst a (.iface src val)
    else panicString ("reflectlite.Set: value of type " ++ (← Rtype.spelt src) ++ " is not assignable to type " ++ (← Rtype.spelt dst))
    pure (.tuple #[])) := rfl
theorem parts_Ea (a : Addr) (w : World) : (ReflectliteValue.parts (.agg #[.pointer (some ⟨11, 80, none⟩), .pointer (some a), .int .u64 386])).run Tryz.prog w = .ok (some (80, a, 386)) w := by kernel_rfl
theorem parts_E (a : Addr) (w : World) : (ReflectliteValue.parts (.agg #[.pointer (some ⟨11, 80, none⟩), .pointer (some a), .int .u64 130])).run Tryz.prog w = .ok (some (80, a, 130)) w := by kernel_rfl
theorem direct_E (w : World) : (Rtype.directlyAssignable 80 80).run Tryz.prog w = .ok true w := by kernel_rfl
theorem set_E (ta b : Addr) (e : Int) (old : Value) (W : World) (hb : W.cell? b = some (.int .i64 e)) (ht : W.cell? ta = some old) (hf : W.frozen? ta = false) :
    (ReflectliteValue.set #[.agg #[.pointer (some ⟨11, 80, none⟩), .pointer (some ta), .int .u64 386], .agg #[.pointer (some ⟨11, 80, none⟩), .pointer (some b), .int .u64 130]]).run Tryz.prog W
      = .ok (.tuple #[]) (W.setCell ta (.int .i64 e)) := by
  rw [rls]
  simp only [Sem.run_bind, parts_Ea, parts_E, Result.andThen]
  simp [ReflectliteValue.flagAddr, loadVar, isAgg, underlying, Tryz.underlying80, hb, Result.andThen, direct_E, storeVar, Value.cells, storeCells, Addr.add]
  rw [run_store Tryz.prog W ta _ _ (by rfl)]
  simp [ht, hf]
def ErrCell (w : World) : Prop := w.cell? ⟨0, 0, none⟩ = some (.iface 222 (.agg #[.pointer (some ⟨11, 43, none⟩)]))
set_option maxRecDepth 100000 in
set_option maxHeartbeats 4000000 in
theorem as_hit (e : Int) (t : Addr) (old : Value) (w : World) (hg0 : ErrCell w) (ht0 : w.cell? t = some old) (hf0 : w.frozen? t = false) :
    Calls Tryz.prog 63 #[.iface 80 (.int .i64 e), .iface 135 (.pointer (some t))] w fun ev w' => ev = .returned (.bool true) ∧ ((((w.alloc (.cells #[.pointer (some t)] 135)).alloc (.cells #[.pointer (some ⟨11, 135, none⟩), .pointer (some ⟨w.heap.size, 0, none⟩), .int .u64 150] 176)).alloc (.cells #[.pointer (some ⟨11, 135, none⟩), .pointer (some ⟨w.heap.size, 0, none⟩), .int .u64 150] 176)).alloc (.cells #[.int .i64 e] 80)).setCell t (.int .i64 e) = w' := by
  have hg : w.cell? ⟨0, 0, none⟩ = some (.iface 222 (.agg #[.pointer (some ⟨11, 43, none⟩)])) := hg0
  have hVO := @run_callFunc_extern Tryz.prog 87 _ (fun args => ReflectliteValue.unpack (args.getD 0 (.tuple #[]))) Tryz.func87 (by kernel_rfl) (by kernel_rfl) (by kernel_rfl) (by kernel_rfl)
  have hTY := @run_callFunc_extern Tryz.prog 88 _ (ReflectliteValue.methodAny (ReflectliteValue.valueError "reflectlite.Value.Type" 0) (fun t _ _ _ => ReflectliteType.toType t)) Tryz.func88 (by kernel_rfl) (by kernel_rfl) (by kernel_rfl) (by kernel_rfl)
  have hNIL := @run_callFunc_extern Tryz.prog 89 _ (ReflectliteValue.method (ReflectliteValue.valueError "reflectlite.Value.IsNil" 0) ReflectliteValue.isNil) Tryz.func89 (by kernel_rfl) (by kernel_rfl) (by kernel_rfl) (by kernel_rfl)
  have hKD := @run_callFunc_extern Tryz.prog 226 _ (ReflectliteType.abiMethod fun t => do pure (.int .u8 (← Rtype.kind t))) Tryz.func226 (by kernel_rfl) (by kernel_rfl) (by kernel_rfl) (by kernel_rfl)
  have hREL := @run_callFunc_extern Tryz.prog 241 _ (ReflectliteType.method ReflectliteType.elem) Tryz.func241 (by kernel_rfl) (by kernel_rfl) (by kernel_rfl) (by kernel_rfl)
  have hRIM := @run_callFunc_extern Tryz.prog 242 _ (ReflectliteType.relation "Implements" ReflectliteType.implements_) Tryz.func242 (by kernel_rfl) (by kernel_rfl) (by kernel_rfl) (by kernel_rfl)
  have hTO := @run_callFunc_extern Tryz.prog 120 _ ReflectliteType.typeOf Tryz.func120 (by kernel_rfl) (by kernel_rfl) (by kernel_rfl) (by kernel_rfl)
  have hRAS := @run_callFunc_extern Tryz.prog 239 _ (ReflectliteType.relation "AssignableTo" ReflectliteType.assignableTo) Tryz.func239 (by kernel_rfl) (by kernel_rfl) (by kernel_rfl) (by kernel_rfl)
  have hEL := @run_callFunc_extern Tryz.prog 121 _ (ReflectliteValue.method (ReflectliteValue.valueError "reflectlite.Value.Elem" 0) ReflectliteValue.elem) Tryz.func121 (by kernel_rfl) (by kernel_rfl) (by kernel_rfl) (by kernel_rfl)
  have hSET := @run_callFunc_extern Tryz.prog 122 _ ReflectliteValue.set Tryz.func122 (by kernel_rfl) (by kernel_rfl) (by kernel_rfl) (by kernel_rfl)
  have k0 := typeOf_E
  have k1 := m_AssignableTo
  have k2 := asgn_E
  have k3 := vOf_E
  have k4 := vOf_P
  have k5 := type_P
  have k6 := m_Kind
  have k7 := m_Elem
  have k8 := m_Implements
  have k9 := kind_P
  have k10 := kind_E
  have k11 := elem_P
  have k12 := impl_E
  have n8 := isNil_P ⟨w.heap.size, 0, none⟩ t ((w.alloc (.cells #[.pointer (some t)] 135)).alloc (.cells #[.pointer (some ⟨11, 135, none⟩), .pointer (some ⟨w.heap.size, 0, none⟩), .int .u64 150] 176)) (by simp)
  have hlt : 0 < w.heap.size := block_lt_of_cell hg
  have hg2 : ((w.alloc (.cells #[.pointer (some t)] 135)).alloc (.cells #[.pointer (some ⟨11, 135, none⟩), .pointer (some ⟨w.heap.size, 0, none⟩), .int .u64 150] 176)).cell? ⟨0, 0, none⟩ = some (.iface 222 (.agg #[.pointer (some ⟨11, 43, none⟩)])) := by
    rw [World.cell?_alloc_lt _ _ ⟨0, 0, none⟩ (by first | (simp; done) | (simp; omega)), World.cell?_alloc_lt _ _ ⟨0, 0, none⟩ hlt]; exact hg
  have htl : t.block < w.heap.size := block_lt_of_cell ht0
  have el := elemV_P ⟨w.heap.size, 0, none⟩ t (((w.alloc (.cells #[.pointer (some t)] 135)).alloc (.cells #[.pointer (some ⟨11, 135, none⟩), .pointer (some ⟨w.heap.size, 0, none⟩), .int .u64 150] 176)).alloc (.cells #[.pointer (some ⟨11, 135, none⟩), .pointer (some ⟨w.heap.size, 0, none⟩), .int .u64 150] 176)) (by rw [World.cell?_alloc_lt _ _ ⟨w.heap.size, 0, none⟩ (by first | (simp; done) | (simp; omega))]; simp)
  have st := set_E t ⟨w.heap.size + 1 + 1 + 1, 0, none⟩ e old ((((w.alloc (.cells #[.pointer (some t)] 135)).alloc (.cells #[.pointer (some ⟨11, 135, none⟩), .pointer (some ⟨w.heap.size, 0, none⟩), .int .u64 150] 176)).alloc (.cells #[.pointer (some ⟨11, 135, none⟩), .pointer (some ⟨w.heap.size, 0, none⟩), .int .u64 150] 176)).alloc (.cells #[.int .i64 e] 80))
    (by rw [World.cell?_alloc_at _ _ _ _ (by simp)]; rfl)
    (by rw [World.cell?_alloc_lt _ _ t (by first | (simp; done) | (simp; omega)), World.cell?_alloc_lt _ _ t (by first | (simp; done) | (simp; omega)), World.cell?_alloc_lt _ _ t (by first | (simp; done) | (simp; omega)), World.cell?_alloc_lt _ _ t htl]; exact ht0)
    (by rw [World.frozen?_alloc_old _ _ t (by first | (simp; done) | (simp; omega)), World.frozen?_alloc_old _ _ t (by first | (simp; done) | (simp; omega)), World.frozen?_alloc_old _ _ t (by first | (simp; done) | (simp; omega)), World.frozen?_alloc_old _ _ t (Nat.ne_of_lt htl)]; exact hf0)
  clear hg0
  go_enter Tryz.func63, Tryz.ntmps63
  go_wp2
  refine wp_loop_rounds 1 ?_
  rw [rounds_succ]
  go_wp2
  go_ret
  exact ⟨rfl, rfl⟩
end Go.Proofs.YtmkebjdmkkjloaaGreatDoor
namespace Go.Proofs.YtmkebjdmkkjloaaGreatDoor
open Go.RowKit
theorem ErrCell.lt {w : World} (h : ErrCell w) : 0 < w.heap.size := block_lt_of_cell (w := w) (a := ⟨0, 0, none⟩) h
theorem ErrCell.later {w w' : World} (h : ErrCell w) (hb : Below w.heap.size w w') : ErrCell w' := by
  have := (bcell hb).1 0 0 h.lt
  unfold ErrCell at *
  rw [this]; exact h
theorem ErrCell.drawn {w : World} (h : ErrCell w) (n : Nat) : ErrCell (w.drewN n) := h
theorem tell_nil (w : World) : Calls Tryz.prog 34 #[.nilIface] w fun e w' => e = .returned (.int .i64 0) ∧ w = w' := by
  go_enter Tryz.func34, Tryz.ntmps34
  go_wp2_with fail
  go_ret
  exact ⟨rfl, rfl⟩
theorem tell_err (n : Int) (w : World) (hg : ErrCell w) : Calls Tryz.prog 34 #[.iface 80 (.int .i64 n)] w fun e w' => e = .returned (.int .i64 n) ∧ Below w.heap.size w w' := by
  have hg1 : ErrCell (w.alloc (.cells #[.int .i64 0] 80)) := hg.later ((Below.refl _ _).alloc (Nat.le_refl _) _)
  have Hg1 := Lib.hid hg1
  clear hg hg1
  go_enter Tryz.func34, Tryz.ntmps34
  go_wp2_with fail
  refine (as_hit n ⟨w.heap.size, 0, none⟩ (.int .i64 0) _ Hg1.out (by simp) (by simp)).mono ?_
  rintro e w' ⟨rfl, rfl⟩
  go_wp2_with fail
  go_ret
  exact ⟨rfl, ((((((Below.refl _ _).alloc (Nat.le_refl _) _).alloc (by simp) _).alloc (by first | (simp; done) | (simp; omega)) _).alloc (by first | (simp; done) | (simp; omega)) _).alloc (by first | (simp; done) | (simp; omega)) _)⟩
end Go.Proofs.YtmkebjdmkkjloaaGreatDoor
namespace Go.Proofs.YtmkebjdmkkjloaaGreatDoor
open Go.RowKit Go.Extern.Stop Go.Stop Go.Extern
theorem typeOf_A (v : Value) (w : World) : (ReflectliteType.typeOf #[.iface 154 v]).run Tryz.prog w = .ok (.iface 222 (.agg #[.pointer (some ⟨11, 154, none⟩)])) w := by kernel_rfl
theorem asgn_A (w : World) : (ReflectliteType.relation "AssignableTo" ReflectliteType.assignableTo #[.agg #[.pointer (some ⟨11, 154, none⟩)], .iface 222 (.agg #[.pointer (some ⟨11, 80, none⟩)])]).run Tryz.prog w = .ok (.bool false) w := by kernel_rfl
theorem noAs_A (v : Value) (xT : TypeId) (w : World) : (Instr.typeAssert (.iface 154 v) xT 227 true).run Tryz.prog w = .ok (.tuple #[.nilIface, .bool false]) w :=
  run_typeAssert_lacksB Tryz.underlying227 (by kernel_rfl) (by kernel_rfl) v xT w
theorem hasUnwrap_A (a : Addr) (xT : TypeId) (w : World) : (Instr.typeAssert (.iface 154 (.pointer (some a))) xT 230 true).run Tryz.prog w = .ok (.tuple #[.iface 154 (.pointer (some a)), .bool true]) w := by kernel_rfl
theorem nilAhead_A (a : Addr) (w : World) : (nilAhead 445 154 (.pointer (some a)) "Unwrap").run Tryz.prog w = .ok (some false) w := by kernel_rfl
theorem method_A (a : Addr) (w : World) : (Go.method 445 154 (.pointer (some a)) "Unwrap").run Tryz.prog w = .ok (234, .pointer (some a)) w := by kernel_rfl
set_option maxRecDepth 100000 in
set_option maxHeartbeats 4000000 in
theorem as_hit_at (e : Int) (b : Nat) (t : Addr) (old : Value) (w : World) (hg0 : ErrCell w) (hp : w.cell? ⟨b, 0, none⟩ = some (.int .i64 e)) (ht0 : w.cell? t = some old) (hf0 : w.frozen? t = false) :
    Calls Tryz.prog 63 #[.iface 154 (.pointer (some ⟨b, 0, none⟩)), .iface 135 (.pointer (some t))] w fun ev w' => ev = .returned (.bool true) ∧ ((((w.alloc (.cells #[.pointer (some t)] 135)).alloc (.cells #[.pointer (some ⟨11, 135, none⟩), .pointer (some ⟨w.heap.size, 0, none⟩), .int .u64 150] 176)).alloc (.cells #[.pointer (some ⟨11, 135, none⟩), .pointer (some ⟨w.heap.size, 0, none⟩), .int .u64 150] 176)).alloc (.cells #[.int .i64 e] 80)).setCell t (.int .i64 e) = w' := by
  have hg : w.cell? ⟨0, 0, none⟩ = some (.iface 222 (.agg #[.pointer (some ⟨11, 43, none⟩)])) := hg0
  have hVO := @run_callFunc_extern Tryz.prog 87 _ (fun args => ReflectliteValue.unpack (args.getD 0 (.tuple #[]))) Tryz.func87 (by kernel_rfl) (by kernel_rfl) (by kernel_rfl) (by kernel_rfl)
  have hTY := @run_callFunc_extern Tryz.prog 88 _ (ReflectliteValue.methodAny (ReflectliteValue.valueError "reflectlite.Value.Type" 0) (fun t _ _ _ => ReflectliteType.toType t)) Tryz.func88 (by kernel_rfl) (by kernel_rfl) (by kernel_rfl) (by kernel_rfl)
  have hNIL := @run_callFunc_extern Tryz.prog 89 _ (ReflectliteValue.method (ReflectliteValue.valueError "reflectlite.Value.IsNil" 0) ReflectliteValue.isNil) Tryz.func89 (by kernel_rfl) (by kernel_rfl) (by kernel_rfl) (by kernel_rfl)
  have hKD := @run_callFunc_extern Tryz.prog 226 _ (ReflectliteType.abiMethod fun t => do pure (.int .u8 (← Rtype.kind t))) Tryz.func226 (by kernel_rfl) (by kernel_rfl) (by kernel_rfl) (by kernel_rfl)
  have hREL := @run_callFunc_extern Tryz.prog 241 _ (ReflectliteType.method ReflectliteType.elem) Tryz.func241 (by kernel_rfl) (by kernel_rfl) (by kernel_rfl) (by kernel_rfl)
  have hRIM := @run_callFunc_extern Tryz.prog 242 _ (ReflectliteType.relation "Implements" ReflectliteType.implements_) Tryz.func242 (by kernel_rfl) (by kernel_rfl) (by kernel_rfl) (by kernel_rfl)
  have hTO := @run_callFunc_extern Tryz.prog 120 _ ReflectliteType.typeOf Tryz.func120 (by kernel_rfl) (by kernel_rfl) (by kernel_rfl) (by kernel_rfl)
  have hRAS := @run_callFunc_extern Tryz.prog 239 _ (ReflectliteType.relation "AssignableTo" ReflectliteType.assignableTo) Tryz.func239 (by kernel_rfl) (by kernel_rfl) (by kernel_rfl) (by kernel_rfl)
  have hEL := @run_callFunc_extern Tryz.prog 121 _ (ReflectliteValue.method (ReflectliteValue.valueError "reflectlite.Value.Elem" 0) ReflectliteValue.elem) Tryz.func121 (by kernel_rfl) (by kernel_rfl) (by kernel_rfl) (by kernel_rfl)
  have hSET := @run_callFunc_extern Tryz.prog 122 _ ReflectliteValue.set Tryz.func122 (by kernel_rfl) (by kernel_rfl) (by kernel_rfl) (by kernel_rfl)
  have k0 := typeOf_E
  have k1 := m_AssignableTo
  have k2 := asgn_E
  have k3 := vOf_E
  have k4 := vOf_P
  have k5 := type_P
  have k6 := m_Kind
  have k7 := m_Elem
  have k8 := m_Implements
  have k9 := kind_P
  have k10 := kind_E
  have k11 := elem_P
  have k12 := impl_E
  have n8 := isNil_P ⟨w.heap.size, 0, none⟩ t ((w.alloc (.cells #[.pointer (some t)] 135)).alloc (.cells #[.pointer (some ⟨11, 135, none⟩), .pointer (some ⟨w.heap.size, 0, none⟩), .int .u64 150] 176)) (by simp)
  have hlt : 0 < w.heap.size := block_lt_of_cell hg
  have hg2 : ((w.alloc (.cells #[.pointer (some t)] 135)).alloc (.cells #[.pointer (some ⟨11, 135, none⟩), .pointer (some ⟨w.heap.size, 0, none⟩), .int .u64 150] 176)).cell? ⟨0, 0, none⟩ = some (.iface 222 (.agg #[.pointer (some ⟨11, 43, none⟩)])) := by
    rw [World.cell?_alloc_lt _ _ ⟨0, 0, none⟩ (by first | (simp; done) | (simp; omega)), World.cell?_alloc_lt _ _ ⟨0, 0, none⟩ hlt]; exact hg
  have htl : t.block < w.heap.size := block_lt_of_cell ht0
  have el := elemV_P ⟨w.heap.size, 0, none⟩ t (((w.alloc (.cells #[.pointer (some t)] 135)).alloc (.cells #[.pointer (some ⟨11, 135, none⟩), .pointer (some ⟨w.heap.size, 0, none⟩), .int .u64 150] 176)).alloc (.cells #[.pointer (some ⟨11, 135, none⟩), .pointer (some ⟨w.heap.size, 0, none⟩), .int .u64 150] 176)) (by rw [World.cell?_alloc_lt _ _ ⟨w.heap.size, 0, none⟩ (by first | (simp; done) | (simp; omega))]; simp)
  have st := set_E t ⟨w.heap.size + 1 + 1 + 1, 0, none⟩ e old ((((w.alloc (.cells #[.pointer (some t)] 135)).alloc (.cells #[.pointer (some ⟨11, 135, none⟩), .pointer (some ⟨w.heap.size, 0, none⟩), .int .u64 150] 176)).alloc (.cells #[.pointer (some ⟨11, 135, none⟩), .pointer (some ⟨w.heap.size, 0, none⟩), .int .u64 150] 176)).alloc (.cells #[.int .i64 e] 80))
    (by rw [World.cell?_alloc_at _ _ _ _ (by simp)]; rfl)
    (by rw [World.cell?_alloc_lt _ _ t (by first | (simp; done) | (simp; omega)), World.cell?_alloc_lt _ _ t (by first | (simp; done) | (simp; omega)), World.cell?_alloc_lt _ _ t (by first | (simp; done) | (simp; omega)), World.cell?_alloc_lt _ _ t htl]; exact ht0)
    (by rw [World.frozen?_alloc_old _ _ t (by first | (simp; done) | (simp; omega)), World.frozen?_alloc_old _ _ t (by first | (simp; done) | (simp; omega)), World.frozen?_alloc_old _ _ t (by first | (simp; done) | (simp; omega)), World.frozen?_alloc_old _ _ t (Nat.ne_of_lt htl)]; exact hf0)
  have ka := typeOf_A
  have kb := asgn_A
  have kc := noAs_A
  have kd := hasUnwrap_A
  have ke := nilAhead_A
  have kf := method_A
  have hbl : b < w.heap.size := block_lt_of_cell hp
  have hp3 : (((w.alloc (.cells #[.pointer (some t)] 135)).alloc (.cells #[.pointer (some ⟨11, 135, none⟩), .pointer (some ⟨w.heap.size, 0, none⟩), .int .u64 150] 176)).alloc (.cells #[.pointer (some ⟨11, 135, none⟩), .pointer (some ⟨w.heap.size, 0, none⟩), .int .u64 150] 176)).cell? ⟨b, 0, none⟩ = some (.int .i64 e) := by
    rw [World.cell?_alloc_lt _ _ ⟨b, 0, none⟩ (by first | (simp; done) | (simp; omega)), World.cell?_alloc_lt _ _ ⟨b, 0, none⟩ (by first | (simp; done) | (simp; omega)), World.cell?_alloc_lt _ _ ⟨b, 0, none⟩ hbl]; exact hp
  clear hg0
  go_enter Tryz.func63, Tryz.ntmps63
  go_wp2
  refine wp_loop_rounds 2 ?_
  rw [rounds_succ]
  go_wp2
  rw [rounds_succ]
  go_wp2
  go_ret
  exact ⟨rfl, rfl⟩
end Go.Proofs.YtmkebjdmkkjloaaGreatDoor
namespace Go.Proofs.YtmkebjdmkkjloaaGreatDoor
open Go.RowKit
inductive ErrIs (W : World) : Value → Int → Int → Prop
  | good : ErrIs W .nilIface 0 (-1)
  | bare (n : Int) (hn : n ≠ 0) : ErrIs W (.iface 80 (.int .i64 n)) n (-1)
  | placed (b : Nat) (n p : Int) (hn : n ≠ 0) (h0 : W.cell? ⟨b, 0, none⟩ = some (.int .i64 n)) (h1 : W.cell? ⟨b, 1, none⟩ = some (.int .i64 p)) : ErrIs W (.iface 154 (.pointer (some ⟨b, 0, none⟩))) n p
theorem ErrIs.later {w w' : World} {v : Value} {n p : Int} (h : ErrIs w v n p) (hb : Below w.heap.size w w') : ErrIs w' v n p := by
  cases h with
  | good => exact .good
  | bare _ hn => exact .bare _ hn
  | placed b _ _ hn h0 h1 =>
    have hlt := block_lt_of_cell (w := w) (a := ⟨b, 0, none⟩) h0
    exact .placed b _ _ hn (by rw [(bcell hb).1 b 0 hlt]; exact h0) (by rw [(bcell hb).1 b 1 hlt]; exact h1)
theorem ErrIs.drawn {w : World} {v : Value} {n p : Int} (h : ErrIs w v n p) (k : Nat) : ErrIs (w.drewN k) v n p := by
  cases h with
  | good => exact .good
  | bare _ hn => exact .bare _ hn
  | placed b _ _ hn h0 h1 => exact .placed b _ _ hn h0 h1
theorem ErrIs.zero {w : World} {v : Value} {p : Int} (h : ErrIs w v 0 p) : v = .nilIface := by
  generalize hn : (0 : Int) = n at h
  cases h with
  | good => rfl
  | bare _ h => exact absurd hn.symm h
  | placed _ _ _ h => exact absurd hn.symm h
theorem ErrIs.iface {W : World} {v : Value} {n p : Int} (h : ErrIs W v n p) (hn : n ≠ 0) : ∃ t x, v = .iface t x := by
  cases h with
  | good => exact absurd rfl hn
  | bare => exact ⟨_, _, rfl⟩
  | placed => exact ⟨_, _, rfl⟩
def I64 (n : Int) : Prop := -9223372036854775808 ≤ n ∧ n ≤ 9223372036854775807
def RetE (w : World) (r : Int × Int) (e : Ending) (w' : World) : Prop := ∃ v, e = .returned v ∧ ErrIs w' v r.1 r.2 ∧ Below w.heap.size w w'
def RetSE (w : World) (r : List UInt8 × Int × Int) (e : Ending) (w' : World) : Prop :=
  ∃ v, e = .returned (.tuple #[.string (S r.1), v]) ∧ ErrIs w' v r.2.1 r.2.2 ∧ Below w.heap.size w w'
end Go.Proofs.YtmkebjdmkkjloaaGreatDoor
namespace Go.Proofs.YtmkebjdmkkjloaaGreatDoor
open Go.RowKit
theorem tell_at (b : Nat) (n : Int) (w : World) (hg : ErrCell w) (hp : w.cell? ⟨b, 0, none⟩ = some (.int .i64 n)) :
    Calls Tryz.prog 34 #[.iface 154 (.pointer (some ⟨b, 0, none⟩))] w fun e w' => e = .returned (.int .i64 n) ∧ Below w.heap.size w w' := by
  have hb : Below w.heap.size w (w.alloc (.cells #[.int .i64 0] 80)) := (Below.refl _ _).alloc (Nat.le_refl _) _
  have hg1 : ErrCell (w.alloc (.cells #[.int .i64 0] 80)) := hg.later hb
  have hp1 : (w.alloc (.cells #[.int .i64 0] 80)).cell? ⟨b, 0, none⟩ = some (.int .i64 n) := by
    rw [(bcell hb).1 b 0 (block_lt_of_cell (w := w) (a := ⟨b, 0, none⟩) hp)]; exact hp
  have Hg1 := Lib.hid hg1
  have Hp1 := Lib.hid hp1
  clear hg hg1 hp1 hb
  go_enter Tryz.func34, Tryz.ntmps34
  go_wp2_with fail
  refine (as_hit_at n b ⟨w.heap.size, 0, none⟩ (.int .i64 0) _ Hg1.out Hp1.out (by simp) (by simp)).mono ?_
  rintro e w' ⟨rfl, rfl⟩
  go_wp2_with fail
  go_ret
  exact ⟨rfl, ((((((Below.refl _ _).alloc (Nat.le_refl _) _).alloc (by simp) _).alloc (by first | (simp; done) | (simp; omega)) _).alloc (by first | (simp; done) | (simp; omega)) _).alloc (by first | (simp; done) | (simp; omega)) _)⟩
theorem tell_is {w : World} {v : Value} {n p : Int} (h : ErrIs w v n p) (hg : ErrCell w) :
    Calls Tryz.prog 34 #[v] w fun e w' => e = .returned (.int .i64 n) ∧ Below w.heap.size w w' := by
  cases h with
  | good => exact (tell_nil w).mono fun _ _ ⟨h1, h2⟩ => ⟨h1, by rw [← h2]; exact Below.refl _ _⟩
  | bare => exact tell_err n w hg
  | placed b _ _ _ h0 _ => exact tell_at b n w hg h0
end Go.Proofs.YtmkebjdmkkjloaaGreatDoor
namespace Go.Proofs.YtmkebjdmkkjloaaGreatDoor
open Go.RowKit
theorem digit_any (c : UInt8) (w : World) :
    Calls Tryz.prog 199 #[.int .u8 (c.toNat : Int)] w fun e w' => e = .returned (.tuple #[.int .u8 ((hexN c : Nat) : Int), .bool (hexV c).isSome]) ∧ w = w' := by
  have hc := c.toNat_lt
  have hcases : (c.toNat < 48 ∨ (57 < c.toNat ∧ c.toNat < 65) ∨ (70 < c.toNat ∧ c.toNat < 97) ∨ 102 < c.toNat) ∨ (48 ≤ c.toNat ∧ c.toNat ≤ 57) ∨ (97 ≤ c.toNat ∧ c.toNat ≤ 102) ∨ (65 ≤ c.toNat ∧ c.toNat ≤ 70) := by omega
  rcases hcases with (h | ⟨h, h2⟩ | ⟨h, h2⟩ | h) | ⟨h, h2⟩ | ⟨h, h2⟩ | ⟨h, h2⟩
  all_goals
    first
    | have hv : hexV c = none := by unfold hexV; rw [if_neg (by omega), if_neg (by omega), if_neg (by omega)]
    | have hv : hexV c = some (c.toNat - 48) := by unfold hexV; rw [if_pos (by omega)]
    | have hv : hexV c = some (c.toNat - 87) := by unfold hexV; rw [if_neg (by omega), if_pos (by omega)]
    | have hv : hexV c = some (c.toNat - 55) := by unfold hexV; rw [if_neg (by omega), if_neg (by omega), if_pos (by omega)]
    have Hv := Lib.hid hv
    clear hv
    go_enter Tryz.func199, Tryz.ntmps199
    go_wp2_with fail
    go_ret2
    refine ⟨?_, rfl⟩
    unfold hexN
    rw [Hv.out]
    simp
    try omega
theorem wrong_any (n : Nat) (w : World) (hn : n ≤ 140737488351232) :
    Calls Tryz.prog 200 #[.int .i64 n] w fun e w' => ∃ v, e = .returned v ∧ ErrIs w' v 3 (2 + n) ∧ Below w.heap.size w w' := by
  go_enter Tryz.func200, Tryz.ntmps200
  go_wp2_with fail
  go_ret
  exact ⟨_, rfl, .placed _ _ _ (by decide) (by simp) (by simp), (Below.refl _ _).alloc (Nat.le_refl _) _⟩
theorem or_nib (x : UInt8) (n : Nat) (hn : n < 16) : bits .or .u8 ((x.toNat : Int) * 16 % 256) (n : Int) = ((UInt8.ofNat (x.toNat % 16 * 16 + n)).toNat : Int) := by
  have e : (x.toNat : Int) * 16 % 256 = ((x.toNat % 16 * 16 : Nat) : Int) := by omega
  have hb : x.toNat % 16 * 16 < 256 := by omega
  rw [e, u8_or_nat _ _ hb (by omega)]
  have hn4 : n < 2 ^ 4 := hn
  have := nat_join (x.toNat % 16) 4 n hn4
  rw [show (2 : Nat) ^ 4 = 16 from rfl] at this
  rw [this, UInt8.toNat_ofNat', Nat.mod_eq_of_lt (show x.toNat % 16 * 16 + n < 2 ^ 8 by omega)]
theorem info8r : (Tryz.prog.info? 5).map (fun i => (i.zero, i.size, i.bytes)) = some (some (.int .u8 0), 1, 1) := by kernel_rfl
theorem readDigits_odd (l : List UInt8) (w : World) (hl : l.length ≤ 4294967280) (ho : l.length % 2 ≠ 0) :
    Calls Tryz.prog 174 #[.string (S l)] w fun e w' => e = .returned (.tuple #[.string (S []), .iface 80 (.int .i64 7)]) ∧ w = w' := by
  have h : ((l.length : Int) % 2 != 0) = true := by rw [bne_iff_ne]; omega
  clear ho
  go_enter Tryz.func174, Tryz.ntmps174
  go_wp2_with fail
  go_ret2
  exact ⟨rfl, rfl⟩
set_option maxRecDepth 100000 in
theorem readDigits_loop (l : List UInt8) (m : Nat) (w : World) (hl : l.length ≤ 4294967280) (ho : l.length % 2 = 0) (hm : m ≤ l.length) (hgood : ∀ j (hj : j < l.length), j < m → (hexV l[j]).isSome = true) (hbad : ∀ (hj : m < l.length), (hexV l[m]).isSome = false)
    (r : List UInt8 × Int × Int) (hr1 : m < l.length → r = ([], 3, 2 + (m : Int))) (hr2 : ¬ m < l.length → r = (unhex l, 0, -1)) :
    Calls Tryz.prog 174 #[.string (S l)] w (RetSE w r) := by
  obtain ⟨i0, hi, hz0, hz1, hz2⟩ := info_parts info8r
  have hmk := fun w => run_make_bytes (P := Tryz.prog) w 127 5 i0 Tryz.underlying127 hi hz0 hz1 hz2 .i64 .i64 (l.length / 2) (by omega)
  simp only [Int.natCast_ediv, Int.cast_ofNat_Int] at hmk
  have h : ((l.length : Int) % 2 != 0) = false := by rw [Bool.eq_false_iff, Ne, bne_iff_ne]; omega
  have hH0 := hexRow_0 l
  rw [← hH0] at hmk
  have Ho := Lib.hid ho
  have Hgood := Lib.hid hgood
  have Hbad := Lib.hid hbad
  have Hr1 := Lib.hid hr1
  have Hr2 := Lib.hid hr2
  clear ho hH0 hgood hbad hr1 hr2
  go_enter Tryz.func174, Tryz.ntmps174
  go_wp2_with fail
  clear hmk h
  go_loopg [19] (l.length + 1) (fun g c wr => ∃ k : Nat, k ≤ m ∧ g + k = l.length + 1 ∧ c = .int .i64 k ∧ wr = w.alloc (.cells (cells8 (hexRow l k)) 5))
  case atStart => exact ⟨0, by omega, by omega, rfl, rfl⟩
  case round =>
    obtain ⟨k, hk, hg, rfl, rfl⟩ := hrel
    have Hg := Lib.hid hg
    clear hg
    by_cases hlt : k < m
    · have hkl : k < l.length := by omega
      have hki : (k : Int) < (l.length : Int) := by omega
      have hv : (hexV l[k]).isSome = true := Hgood.out k hkl hlt
      have hlen := hexRow_len l k
      have hi2 : k / 2 < (hexRow l k).length := by rw [hlen]; have := Ho.out; omega
      have hst := hexRow_step l k hkl Ho.out hi2
      have hc := cells8_get (hexRow l k) (k / 2) hi2
      have hx1 : 0 ≤ (k : Int) / 2 := by omega
      have hx2 : (k : Int) / 2 < (l.length : Int) / 2 := by have := Ho.out; omega
      obtain ⟨x, hx⟩ : ∃ x, (hexRow l k)[k / 2]'hi2 = x := ⟨_, rfl⟩
      rw [hx] at hst hc
      have hst2 : (cells8 (hexRow l k)).setIfInBounds (k / 2) (.int .u8 ((UInt8.ofNat (x.toNat % 16 * 16 + hexN l[k])).toNat : Int)) = cells8 (hexRow l (k + 1)) := by rw [cells8_set, hst]
      have hor := or_nib x (hexN l[k]) (hexN_lt _)
      obtain ⟨y, hy⟩ : ∃ y, UInt8.ofNat (x.toNat % 16 * 16 + hexN l[k]) = y := ⟨_, rfl⟩
      rw [hy] at hor hst2
      clear hst hlen hx hi2 hy
      go_wp2_with fail
      refine (digit_any _ _).mono ?_
      rintro e w2 ⟨rfl, rfl⟩
      rw [hv]
      go_wp2_with fail
      go_roundg (gk - 1)
      case measure => have := Hg.out; omega
      case rel => exact ⟨k + 1, by omega, by have := Hg.out; omega, by go_num, rfl⟩
    · have hkm : k = m := by omega
      subst hkm
      clear hlt
      by_cases hkl : k < l.length
      · have hki : (k : Int) < (l.length : Int) := by omega
        have hv : (hexV l[k]).isSome = false := Hbad.out hkl
        have hb : Below w.heap.size w (w.alloc (.cells (cells8 (hexRow l k)) 5)) := (Below.refl _ _).alloc (Nat.le_refl _) _
        go_wp2_with fail
        refine (digit_any _ _).mono ?_
        rintro e w2 ⟨rfl, rfl⟩
        rw [hv]
        go_wp2_with fail
        refine (wrong_any k _ (by omega)).mono ?_
        rintro e w3 ⟨v, rfl, he, hb3⟩
        go_wp2_with fail
        go_ret2
        rw [Hr1.out hkl]
        exact ⟨v, rfl, he, below_then hb hb3⟩
      · have hkl2 : k = l.length := by omega
        subst hkl2
        clear hkl
        have hlen := hexRow_len l l.length
        have hcv := run_string_buf (P := Tryz.prog) 127 9 5 Tryz.underlying127 Tryz.underlying5 Tryz.underlying9 (buf_block w 5 (hexRow l l.length) (l.length / 2) hlen.symm (by omega) w.heap.size (Nat.le_refl _))
        rw [show hexRow l l.length = unhex l from rfl] at *
        clear hlen
        go_wp2_with fail
        go_ret2
        rw [Hr2.out (Nat.lt_irrefl _)]
        exact ⟨_, rfl, .good, (Below.refl _ _).alloc (Nat.le_refl _) _⟩
theorem readDigits_any (l : List UInt8) (w : World) (hl : l.length ≤ 4294967280) :
    Calls Tryz.prog 174 #[.string (S l)] w (RetSE w (readHex l)) := by
  by_cases ho : l.length % 2 = 0
  · cases hf : l.findIdx? (fun c => (hexV c).isNone) with
    | some m =>
      obtain ⟨hm, hp, hall⟩ := List.findIdx?_eq_some_iff_getElem.1 hf
      have e : readHex l = ([], 3, 2 + (m : Int)) := by unfold readHex; rw [if_neg (by omega), hf]
      rw [e]
      have h := readDigits_loop l m w hl ho (by omega) (fun j hj hjm => by
        have := hall j hjm; cases h : hexV l[j] <;> simp_all) (fun hj => by cases h : hexV l[m] <;> simp_all) _ (fun _ => rfl) (fun h => absurd hm h)
      exact h
    | none =>
      have hall := List.findIdx?_eq_none_iff.1 hf
      have e : readHex l = (unhex l, 0, -1) := by unfold readHex; rw [if_neg (by omega), hf]
      rw [e]
      have h := readDigits_loop l l.length w hl ho (Nat.le_refl _) (fun j hj _ => by
        have := hall l[j] (List.getElem_mem hj); cases h : hexV l[j] <;> simp_all) (fun hj => absurd hj (by omega)) _ (fun h => absurd h (Nat.lt_irrefl _)) (fun _ => rfl)
      exact h
  · have e : readHex l = ([], 7, -1) := by unfold readHex; rw [if_pos (by omega)]
    rw [e]
    exact (readDigits_odd l w hl ho).mono fun _ _ ⟨h1, h2⟩ => ⟨_, h1, .bare _ (by decide), by rw [← h2]; exact Below.refl _ _⟩
end Go.Proofs.YtmkebjdmkkjloaaGreatDoor
namespace Go.Proofs
open Go.Shelf
def Tryz.lays137_ren : Go.Shelf.Ren := ⟨fun | 137 => 165 | 217 => 170 | 266 => 197 | n => n, fun | 9 => 9 | 5 => 5 | 3 => 3 | n => n, fun | n => n⟩
theorem Tryz.lays137 : Go.Proofs.Lays.n137 Tryz.prog Tryz.lays137_ren := {
  mixed := by kernel_rfl
  f137 := Tryz.func165.trans (congrArg some (by kernel_rfl))
  f217 := Tryz.func170.trans (congrArg some (by kernel_rfl))
  f266 := Tryz.func197.trans (congrArg some (by kernel_rfl))
  t3 := Tryz.underlying3
  a3 := Tryz.isAgg3
  z3 := Tryz.sizeOf3
  v3 := Tryz.zeroValue3
  t5 := Tryz.underlying5
  a5 := Tryz.isAgg5
  z5 := Tryz.sizeOf5
  v5 := Tryz.zeroValue5
  t9 := Tryz.underlying9
  a9 := Tryz.isAgg9
  z9 := Tryz.sizeOf9
  v9 := Tryz.zeroValue9 }
open Go.RowKit in
theorem Tryz.strings_IndexByte (s : ByteArray) (c : Int) (w : World) :
    Calls Tryz.prog 165 #[.string s, .int .u8 c] w fun e w' => e = .returned (.int .i64 (Lib.indexByte s.data.toList c.toNat.toUInt8)) ∧ w' = w := Any.strings_IndexByte Tryz.lays137 s c w
end Go.Proofs
namespace Go.Proofs
open Go.Shelf
def Tryz.lays100_ren : Go.Shelf.Ren := ⟨fun | 100 => 210 | 207 => 211 | n => n, fun | 9 => 9 | 4 => 4 | 3 => 3 | n => n, fun | n => n⟩
theorem Tryz.lays100 : Go.Proofs.Lays.n100 Tryz.prog Tryz.lays100_ren := {
  mixed := by kernel_rfl
  f100 := Tryz.func210.trans (congrArg some (by kernel_rfl))
  f207 := Tryz.func211.trans (congrArg some (by kernel_rfl))
  t3 := Tryz.underlying3
  a3 := Tryz.isAgg3
  z3 := Tryz.sizeOf3
  v3 := Tryz.zeroValue3
  t4 := Tryz.underlying4
  a4 := Tryz.isAgg4
  z4 := Tryz.sizeOf4
  v4 := Tryz.zeroValue4
  t9 := Tryz.underlying9
  a9 := Tryz.isAgg9
  z9 := Tryz.sizeOf9
  v9 := Tryz.zeroValue9 }
open Go.RowKit Go.Lib in
theorem Tryz.strings_HasSuffix (s p : ByteArray) (w : World) (hs : s.size ≤ 9223372036854775807) :
    Calls Tryz.prog 210 #[.string s, .string p] w fun e w' => e = .returned (.bool (Lib.hasSuffix s.data.toList p.data.toList)) ∧ w' = w := Any.strings_HasSuffix Tryz.lays100 s p w hs
end Go.Proofs
namespace Go.Proofs.YtmkebjdmkkjloaaGreatDoor
def letN (c : UInt8) : Int := Lib.indexByte letterTab c
theorem letN_bd (c : UInt8) : -1 ≤ letN c ∧ letN c < 64 := by
  have h : ∀ n : Fin 256, -1 ≤ letN (UInt8.ofNat n.1) ∧ letN (UInt8.ofNat n.1) < 64 := by decide +kernel
  have := h ⟨c.toNat, c.toNat_lt⟩
  simpa using this
def stepL (st : Nat × Nat × List UInt8) (n : Nat) : Nat × Nat × List UInt8 :=
  if 2 ≤ st.2.1 then ((st.1 * 64 + n) % 2 ^ (st.2.1 - 2), st.2.1 - 2, st.2.2 ++ [UInt8.ofNat ((st.1 * 64 + n) / 2 ^ (st.2.1 - 2))]) else (st.1 * 64 + n, st.2.1 + 6, st.2.2)
def runL (l : List UInt8) : Nat × Nat × List UInt8 := l.foldl (fun st c => stepL st (letN c).toNat) (0, 0, [])
theorem runL_snoc (l : List UInt8) (c : UInt8) : runL (l ++ [c]) = stepL (runL l) (letN c).toNat := by simp [runL]
def LInv (st : Nat × Nat × List UInt8) (k : Nat) : Prop := (st.2.1 = 0 ∨ st.2.1 = 2 ∨ st.2.1 = 4 ∨ st.2.1 = 6) ∧ st.1 < 2 ^ st.2.1 ∧ 8 * st.2.2.length + st.2.1 = 6 * k
theorem stepL_inv (st : Nat × Nat × List UInt8) (k n : Nat) (hn : n < 64) (h : LInv st k) : LInv (stepL st n) (k + 1) := by
  obtain ⟨a, s, o⟩ := st
  obtain ⟨hs, ha, hk⟩ := h
  simp only at hs ha hk
  rcases hs with rfl | rfl | rfl | rfl
  all_goals simp [stepL, LInv]
  all_goals omega
theorem runL_inv (l : List UInt8) : LInv (runL l) l.length := by
  have h : ∀ (l : List UInt8) (st : Nat × Nat × List UInt8) (k : Nat), LInv st k → LInv (l.foldl (fun st c => stepL st (letN c).toNat) st) (k + l.length) := by
    intro l
    induction l with
    | nil => intro st k h; exact h
    | cons c l ih =>
      intro st k h
      rw [List.foldl_cons, List.length_cons, show k + (l.length + 1) = (k + 1) + l.length from by omega]
      exact ih _ _ (stepL_inv _ _ _ (by have := letN_bd c; omega) h)
  have := h l (0, 0, []) 0 ⟨.inl rfl, by decide, rfl⟩
  rw [Nat.zero_add] at this
  exact this
def eqs (l : List UInt8) : Nat := if Lib.hasSuffix l [61, 61] then 2 else if Lib.hasSuffix l [61] then 1 else 0
theorem eqs_len (l : List UInt8) : eqs l ≤ l.length := by
  unfold eqs
  split
  · rename_i h
    have := (List.isSuffixOf_iff_suffix.1 h).length_le
    simpa using this
  · split
    · rename_i h
      have := (List.isSuffixOf_iff_suffix.1 h).length_le
      simpa using this
    · omega
def readLet (l : List UInt8) : List UInt8 × Int × Int :=
  if l.length % 4 ≠ 0 then ([], 7, -1) else match (l.take (l.length - eqs l)).findIdx? (fun c => letN c < 0) with
    | some i => ([], 3, 2 + (i : Int))
    | none => if (runL (l.take (l.length - eqs l))).1 ≠ 0 then ([], 3, 2 + ((l.length - eqs l - 1 : Nat) : Int)) else ((runL (l.take (l.length - eqs l))).2.2, 0, -1)
end Go.Proofs.YtmkebjdmkkjloaaGreatDoor
