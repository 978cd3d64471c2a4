/-
  NARROWER THAN 'FOR EVERY INPUT', by the rows' own cells (each row's printed sentence says how): AhsWrites: laid · AhsReads: laid · AhsBack: laid · AhsOnly: laid · AhsJoins: laid · AhsCut: laid · AhsRoom: laid.
  DERIVED. THE GIVEN ROWS OF THIS SEAT. 7 by the template 'for every input the law returns true; each argument reads behind the call as it read before'; 0 by the template 'total and deterministic' (their statements: YtceinedicbdngaaDoorTotals.lean).
  GIVEN WITH THE SEED: the statements are not yours to turn. If you find one false, say at which input.
  Laid BY PROGRAM, IN A SANDBOX (cutbox-rows.mjs): the forced cells as the released guide's own fill.sh prints them over the translation 227f9350b69ddaca… (all of the seat's roots in one cut). By AI agents, Wed Nov 11 2026. No macro, syntax, notation, axiom, sorry.
-/
import Derived.Test.YtceinedicbdngaaDoorChecked
import GoSem.Claim
import GoSem.ClaimJoined
import GoSem.ClaimMapViews
import Derived.JoinedTies
import Derived.KernelRfl
namespace Go.Proofs.YtceinedicbdngaaDoor
/- THE CELL 'sum', in the pinned program and in every row, IS THE sha256 OF THE DUMP (.gsa) THAT YtceinedicbdngaaDoorProg.lean LOADS. Nothing in Lean hashes anything: it is a label: what it is worth is what the hold of that sum in a sandbox is worth. -/
noncomputable def Tryd.pinned : Pinned := { name := "ytceinedicbdngaadoor", sum := "227f9350b69ddaca841224cd20d9aba2597c1c1fe389ec5ce129e6600a8c2b2e", checked := Tryd.checked }
namespace Rows
def none {H : Type} : Left H := { results := [], args := [] }

/- WHAT THE LISTED PACKAGE-LEVEL VARIABLES READ AS WHEN THE CALL BEGINS. Each datum BY PROGRAM (the guide's laid-datum.mjs) off the statement by which the dump's own 'gosem.cut.vars' lays the variable. In a bare row this is a premise. The card (YtceinedicbdngaaDoorCards.lean) ties it to the program's text. -/
def laid_errors_errorType {H : Type} : DataW H := .iface "internal/reflectlite.rtype" (.agg [.ptr (.lit (.string [101, 114, 114, 111, 114]))])

/-- 'quaymasterlaw.AhsWrites': WHATEVER THE INPUT: true; the input reads as it did. -/
def ahsWritesSpec : ChangeSpec := { name := "ahsWrites", fn := fun _ => fun
  | [d] => { results := [.lit (.bool true)], args := [d] }
  | _ => none }
def ahsWritesRow : OpenClaim := { program := "ytceinedicbdngaadoor", sum := "227f9350b69ddaca841224cd20d9aba2597c1c1fe389ec5ce129e6600a8c2b2e", func := "quaymaster/quaymasterlaw.AhsWrites", spec := "ahsWrites", inPlace := ["internal/reflectlite.ValueOf", "(internal/reflectlite.Value).Type", "(internal/reflectlite.Value).IsNil", "internal/reflectlite.TypeOf", "(internal/reflectlite.Value).Elem", "(internal/reflectlite.Value).Set"], unfollowed := true, recurses := true, named := ["errors.errorType"], apart := false, laid := [("errors.errorType", laid_errors_errorType)] }
def AhsWritesSaid : Prop := ahsWritesRow.holds Tryd.pinned (OpenSpec.ofChange ahsWritesSpec)

/-- ITS FALSE NEIGHBOUR: 'it returns false'. Refute it at one input. -/
def ahsWritesWrong : ChangeSpec := { name := "ahsWrites", fn := fun _ => fun
  | [d] => { results := [.lit (.bool false)], args := [d] }
  | _ => none }
def AhsWritesWrongFalsely : Prop := ahsWritesRow.holds Tryd.pinned (OpenSpec.ofChange ahsWritesWrong)

/-- 'quaymasterlaw.AhsReads': WHATEVER THE INPUT: true; the input reads as it did. -/
def ahsReadsSpec : ChangeSpec := { name := "ahsReads", fn := fun _ => fun
  | [d] => { results := [.lit (.bool true)], args := [d] }
  | _ => none }
def ahsReadsRow : OpenClaim := { program := "ytceinedicbdngaadoor", sum := "227f9350b69ddaca841224cd20d9aba2597c1c1fe389ec5ce129e6600a8c2b2e", func := "quaymaster/quaymasterlaw.AhsReads", spec := "ahsReads", inPlace := ["internal/bytealg.CountString", "internal/bytealg.IndexByteString", "internal/bytealg.IndexString", "internal/reflectlite.ValueOf", "(internal/reflectlite.Value).Type", "(internal/reflectlite.Value).IsNil", "internal/reflectlite.TypeOf", "(internal/reflectlite.Value).Elem", "(internal/reflectlite.Value).Set"], unfollowed := true, recurses := true, named := ["internal/bytealg.MaxLen", "errors.errorType"], apart := false, laid := [("errors.errorType", laid_errors_errorType)] }
def AhsReadsSaid : Prop := ahsReadsRow.holds Tryd.pinned (OpenSpec.ofChange ahsReadsSpec)

/-- ITS FALSE NEIGHBOUR: 'it returns false'. Refute it at one input. -/
def ahsReadsWrong : ChangeSpec := { name := "ahsReads", fn := fun _ => fun
  | [d] => { results := [.lit (.bool false)], args := [d] }
  | _ => none }
def AhsReadsWrongFalsely : Prop := ahsReadsRow.holds Tryd.pinned (OpenSpec.ofChange ahsReadsWrong)

/-- 'quaymasterkeep.AhsBack': WHATEVER THE INPUT: true; the input reads as it did. -/
def ahsBackSpec : ChangeSpec := { name := "ahsBack", fn := fun _ => fun
  | [d] => { results := [.lit (.bool true)], args := [d] }
  | _ => none }
def ahsBackRow : OpenClaim := { program := "ytceinedicbdngaadoor", sum := "227f9350b69ddaca841224cd20d9aba2597c1c1fe389ec5ce129e6600a8c2b2e", func := "quaymaster/quaymasterkeep.AhsBack", spec := "ahsBack", inPlace := ["internal/reflectlite.ValueOf", "(internal/reflectlite.Value).Type", "(internal/reflectlite.Value).IsNil", "internal/reflectlite.TypeOf", "(internal/reflectlite.Value).Elem", "(internal/reflectlite.Value).Set"], unfollowed := true, recurses := true, named := ["errors.errorType"], apart := false, laid := [("errors.errorType", laid_errors_errorType)] }
def AhsBackSaid : Prop := ahsBackRow.holds Tryd.pinned (OpenSpec.ofChange ahsBackSpec)

/-- ITS FALSE NEIGHBOUR: 'it returns false'. Refute it at one input. -/
def ahsBackWrong : ChangeSpec := { name := "ahsBack", fn := fun _ => fun
  | [d] => { results := [.lit (.bool false)], args := [d] }
  | _ => none }
def AhsBackWrongFalsely : Prop := ahsBackRow.holds Tryd.pinned (OpenSpec.ofChange ahsBackWrong)

/-- 'quaymasterkeep.AhsOnly': WHATEVER THE INPUT: true; the input reads as it did. -/
def ahsOnlySpec : ChangeSpec := { name := "ahsOnly", fn := fun _ => fun
  | [d] => { results := [.lit (.bool true)], args := [d] }
  | _ => none }
def ahsOnlyRow : OpenClaim := { program := "ytceinedicbdngaadoor", sum := "227f9350b69ddaca841224cd20d9aba2597c1c1fe389ec5ce129e6600a8c2b2e", func := "quaymaster/quaymasterkeep.AhsOnly", spec := "ahsOnly", inPlace := ["internal/reflectlite.ValueOf", "(internal/reflectlite.Value).Type", "(internal/reflectlite.Value).IsNil", "internal/reflectlite.TypeOf", "(internal/reflectlite.Value).Elem", "(internal/reflectlite.Value).Set"], unfollowed := true, recurses := true, named := ["errors.errorType"], apart := false, laid := [("errors.errorType", laid_errors_errorType)] }
def AhsOnlySaid : Prop := ahsOnlyRow.holds Tryd.pinned (OpenSpec.ofChange ahsOnlySpec)

/-- ITS FALSE NEIGHBOUR: 'it returns false'. Refute it at one input. -/
def ahsOnlyWrong : ChangeSpec := { name := "ahsOnly", fn := fun _ => fun
  | [d] => { results := [.lit (.bool false)], args := [d] }
  | _ => none }
def AhsOnlyWrongFalsely : Prop := ahsOnlyRow.holds Tryd.pinned (OpenSpec.ofChange ahsOnlyWrong)

/-- 'quaymasterkeep.AhsJoins': WHATEVER THE INPUT: true; the input reads as it did. -/
def ahsJoinsSpec : ChangeSpec := { name := "ahsJoins", fn := fun _ => fun
  | [d1, d2] => { results := [.lit (.bool true)], args := [d1, d2] }
  | _ => none }
def ahsJoinsRow : OpenClaim := { program := "ytceinedicbdngaadoor", sum := "227f9350b69ddaca841224cd20d9aba2597c1c1fe389ec5ce129e6600a8c2b2e", func := "quaymaster/quaymasterkeep.AhsJoins", spec := "ahsJoins", inPlace := ["internal/reflectlite.ValueOf", "(internal/reflectlite.Value).Type", "(internal/reflectlite.Value).IsNil", "internal/reflectlite.TypeOf", "(internal/reflectlite.Value).Elem", "(internal/reflectlite.Value).Set"], unfollowed := true, recurses := true, named := ["errors.errorType"], apart := false, laid := [("errors.errorType", laid_errors_errorType)] }
def AhsJoinsSaid : Prop := ahsJoinsRow.holds Tryd.pinned (OpenSpec.ofChange ahsJoinsSpec)

/-- ITS FALSE NEIGHBOUR: 'it returns false'. Refute it at one input. -/
def ahsJoinsWrong : ChangeSpec := { name := "ahsJoins", fn := fun _ => fun
  | [d1, d2] => { results := [.lit (.bool false)], args := [d1, d2] }
  | _ => none }
def AhsJoinsWrongFalsely : Prop := ahsJoinsRow.holds Tryd.pinned (OpenSpec.ofChange ahsJoinsWrong)

/-- 'quaymasterkeep.AhsCut': WHATEVER THE INPUT: true; the input reads as it did. -/
def ahsCutSpec : ChangeSpec := { name := "ahsCut", fn := fun _ => fun
  | [d1, d2] => { results := [.lit (.bool true)], args := [d1, d2] }
  | _ => none }
def ahsCutRow : OpenClaim := { program := "ytceinedicbdngaadoor", sum := "227f9350b69ddaca841224cd20d9aba2597c1c1fe389ec5ce129e6600a8c2b2e", func := "quaymaster/quaymasterkeep.AhsCut", spec := "ahsCut", inPlace := ["internal/reflectlite.ValueOf", "(internal/reflectlite.Value).Type", "(internal/reflectlite.Value).IsNil", "internal/reflectlite.TypeOf", "(internal/reflectlite.Value).Elem", "(internal/reflectlite.Value).Set"], unfollowed := true, recurses := true, named := ["errors.errorType"], apart := false, laid := [("errors.errorType", laid_errors_errorType)] }
def AhsCutSaid : Prop := ahsCutRow.holds Tryd.pinned (OpenSpec.ofChange ahsCutSpec)

/-- ITS FALSE NEIGHBOUR: 'it returns false'. Refute it at one input. -/
def ahsCutWrong : ChangeSpec := { name := "ahsCut", fn := fun _ => fun
  | [d1, d2] => { results := [.lit (.bool false)], args := [d1, d2] }
  | _ => none }
def AhsCutWrongFalsely : Prop := ahsCutRow.holds Tryd.pinned (OpenSpec.ofChange ahsCutWrong)

/-- 'quaymasterkeep.AhsRoom': WHATEVER THE INPUT: true; the input reads as it did. -/
def ahsRoomSpec : ChangeSpec := { name := "ahsRoom", fn := fun _ => fun
  | [d1, d2] => { results := [.lit (.bool true)], args := [d1, d2] }
  | _ => none }
def ahsRoomRow : OpenClaim := { program := "ytceinedicbdngaadoor", sum := "227f9350b69ddaca841224cd20d9aba2597c1c1fe389ec5ce129e6600a8c2b2e", func := "quaymaster/quaymasterkeep.AhsRoom", spec := "ahsRoom", inPlace := ["internal/reflectlite.ValueOf", "(internal/reflectlite.Value).Type", "(internal/reflectlite.Value).IsNil", "internal/reflectlite.TypeOf", "(internal/reflectlite.Value).Elem", "(internal/reflectlite.Value).Set"], unfollowed := true, recurses := true, named := ["errors.errorType"], apart := false, laid := [("errors.errorType", laid_errors_errorType)] }
def AhsRoomSaid : Prop := ahsRoomRow.holds Tryd.pinned (OpenSpec.ofChange ahsRoomSpec)

/-- ITS FALSE NEIGHBOUR: 'it returns false'. Refute it at one input. -/
def ahsRoomWrong : ChangeSpec := { name := "ahsRoom", fn := fun _ => fun
  | [d1, d2] => { results := [.lit (.bool false)], args := [d1, d2] }
  | _ => none }
def AhsRoomWrongFalsely : Prop := ahsRoomRow.holds Tryd.pinned (OpenSpec.ofChange ahsRoomWrong)

/- THE SECOND FORM. 'bulk': how many values and letters a reading holds, each counted each time it is reached (what is shared counts as often as it is met; a slice's spare places count too). A statement '..UptoSaid' is the law's where the arguments, and the package variables that the reading takes, are together of bulk at most 1048576: NARROWER than '..Said'. Prove '..Said' where nothing that the law and all that it calls make is longer than what came in: it says more and counts as full. Else prove '..UptoSaid'. A law counts once. -/
mutual
def uptoBulk {H : Type} : DataW H → Nat
  | .lit (.string bytes) => bytes.length + 1
  | .lit _ => 1
  | .nil => 1
  | .ptr d => uptoBulk d + 1
  | .slice elems spare => uptoBulkAll elems + uptoBulkAll spare + 1
  | .agg parts => uptoBulkAll parts + 1
  | .iface _ d => uptoBulk d + 1
  | .map entries => uptoBulkEntries entries + 1
  | .held _ => 1
def uptoBulkAll {H : Type} : List (DataW H) → Nat
  | [] => 0
  | d :: r => uptoBulk d + uptoBulkAll r
def uptoBulkEntries {H : Type} : List (Lit × DataW H) → Nat
  | [] => 0
  | x :: r => uptoBulkEntry x + uptoBulkEntries r
def uptoBulkEntry {H : Type} : Lit × DataW H → Nat
  | (.string bytes, d) => bytes.length + uptoBulk d + 1
  | (_, d) => uptoBulk d + 1
 end
def uptoSmall : (H : Type) → List (DataW H) → Bool := fun _ ds => decide (uptoBulkAll ds ≤ 1048576)
def OpenSpec.upto (s : _root_.Go.ChangeSpec) : _root_.Go.OpenSpec := { _root_.Go.OpenSpec.ofChange s with cond := some uptoSmall }

/-- 'quaymasterlaw.AhsWrites', WHERE WHAT IT READS IS OF BULK AT MOST 1048576: true; the input reads as it did. -/
def ahsWritesUptoRow : OpenClaim := { program := "ytceinedicbdngaadoor", sum := "227f9350b69ddaca841224cd20d9aba2597c1c1fe389ec5ce129e6600a8c2b2e", func := "quaymaster/quaymasterlaw.AhsWrites", spec := "ahsWrites", inPlace := ["internal/reflectlite.ValueOf", "(internal/reflectlite.Value).Type", "(internal/reflectlite.Value).IsNil", "internal/reflectlite.TypeOf", "(internal/reflectlite.Value).Elem", "(internal/reflectlite.Value).Set"], unfollowed := true, recurses := true, named := ["errors.errorType"], apart := false, laid := [("errors.errorType", laid_errors_errorType)], narrowed := true }
def AhsWritesUptoSaid : Prop := ahsWritesUptoRow.holds Tryd.pinned (OpenSpec.upto ahsWritesSpec)

/-- 'quaymasterlaw.AhsReads', WHERE WHAT IT READS IS OF BULK AT MOST 1048576: true; the input reads as it did. -/
def ahsReadsUptoRow : OpenClaim := { program := "ytceinedicbdngaadoor", sum := "227f9350b69ddaca841224cd20d9aba2597c1c1fe389ec5ce129e6600a8c2b2e", func := "quaymaster/quaymasterlaw.AhsReads", spec := "ahsReads", inPlace := ["internal/bytealg.CountString", "internal/bytealg.IndexByteString", "internal/bytealg.IndexString", "internal/reflectlite.ValueOf", "(internal/reflectlite.Value).Type", "(internal/reflectlite.Value).IsNil", "internal/reflectlite.TypeOf", "(internal/reflectlite.Value).Elem", "(internal/reflectlite.Value).Set"], unfollowed := true, recurses := true, named := ["internal/bytealg.MaxLen", "errors.errorType"], apart := false, laid := [("errors.errorType", laid_errors_errorType)], narrowed := true }
def AhsReadsUptoSaid : Prop := ahsReadsUptoRow.holds Tryd.pinned (OpenSpec.upto ahsReadsSpec)

/-- 'quaymasterkeep.AhsBack', WHERE WHAT IT READS IS OF BULK AT MOST 1048576: true; the input reads as it did. -/
def ahsBackUptoRow : OpenClaim := { program := "ytceinedicbdngaadoor", sum := "227f9350b69ddaca841224cd20d9aba2597c1c1fe389ec5ce129e6600a8c2b2e", func := "quaymaster/quaymasterkeep.AhsBack", spec := "ahsBack", inPlace := ["internal/reflectlite.ValueOf", "(internal/reflectlite.Value).Type", "(internal/reflectlite.Value).IsNil", "internal/reflectlite.TypeOf", "(internal/reflectlite.Value).Elem", "(internal/reflectlite.Value).Set"], unfollowed := true, recurses := true, named := ["errors.errorType"], apart := false, laid := [("errors.errorType", laid_errors_errorType)], narrowed := true }
def AhsBackUptoSaid : Prop := ahsBackUptoRow.holds Tryd.pinned (OpenSpec.upto ahsBackSpec)

/-- 'quaymasterkeep.AhsOnly', WHERE WHAT IT READS IS OF BULK AT MOST 1048576: true; the input reads as it did. -/
def ahsOnlyUptoRow : OpenClaim := { program := "ytceinedicbdngaadoor", sum := "227f9350b69ddaca841224cd20d9aba2597c1c1fe389ec5ce129e6600a8c2b2e", func := "quaymaster/quaymasterkeep.AhsOnly", spec := "ahsOnly", inPlace := ["internal/reflectlite.ValueOf", "(internal/reflectlite.Value).Type", "(internal/reflectlite.Value).IsNil", "internal/reflectlite.TypeOf", "(internal/reflectlite.Value).Elem", "(internal/reflectlite.Value).Set"], unfollowed := true, recurses := true, named := ["errors.errorType"], apart := false, laid := [("errors.errorType", laid_errors_errorType)], narrowed := true }
def AhsOnlyUptoSaid : Prop := ahsOnlyUptoRow.holds Tryd.pinned (OpenSpec.upto ahsOnlySpec)

/-- 'quaymasterkeep.AhsJoins', WHERE WHAT IT READS IS OF BULK AT MOST 1048576: true; the input reads as it did. -/
def ahsJoinsUptoRow : OpenClaim := { program := "ytceinedicbdngaadoor", sum := "227f9350b69ddaca841224cd20d9aba2597c1c1fe389ec5ce129e6600a8c2b2e", func := "quaymaster/quaymasterkeep.AhsJoins", spec := "ahsJoins", inPlace := ["internal/reflectlite.ValueOf", "(internal/reflectlite.Value).Type", "(internal/reflectlite.Value).IsNil", "internal/reflectlite.TypeOf", "(internal/reflectlite.Value).Elem", "(internal/reflectlite.Value).Set"], unfollowed := true, recurses := true, named := ["errors.errorType"], apart := false, laid := [("errors.errorType", laid_errors_errorType)], narrowed := true }
def AhsJoinsUptoSaid : Prop := ahsJoinsUptoRow.holds Tryd.pinned (OpenSpec.upto ahsJoinsSpec)

/-- 'quaymasterkeep.AhsCut', WHERE WHAT IT READS IS OF BULK AT MOST 1048576: true; the input reads as it did. -/
def ahsCutUptoRow : OpenClaim := { program := "ytceinedicbdngaadoor", sum := "227f9350b69ddaca841224cd20d9aba2597c1c1fe389ec5ce129e6600a8c2b2e", func := "quaymaster/quaymasterkeep.AhsCut", spec := "ahsCut", inPlace := ["internal/reflectlite.ValueOf", "(internal/reflectlite.Value).Type", "(internal/reflectlite.Value).IsNil", "internal/reflectlite.TypeOf", "(internal/reflectlite.Value).Elem", "(internal/reflectlite.Value).Set"], unfollowed := true, recurses := true, named := ["errors.errorType"], apart := false, laid := [("errors.errorType", laid_errors_errorType)], narrowed := true }
def AhsCutUptoSaid : Prop := ahsCutUptoRow.holds Tryd.pinned (OpenSpec.upto ahsCutSpec)

/-- 'quaymasterkeep.AhsRoom', WHERE WHAT IT READS IS OF BULK AT MOST 1048576: true; the input reads as it did. -/
def ahsRoomUptoRow : OpenClaim := { program := "ytceinedicbdngaadoor", sum := "227f9350b69ddaca841224cd20d9aba2597c1c1fe389ec5ce129e6600a8c2b2e", func := "quaymaster/quaymasterkeep.AhsRoom", spec := "ahsRoom", inPlace := ["internal/reflectlite.ValueOf", "(internal/reflectlite.Value).Type", "(internal/reflectlite.Value).IsNil", "internal/reflectlite.TypeOf", "(internal/reflectlite.Value).Elem", "(internal/reflectlite.Value).Set"], unfollowed := true, recurses := true, named := ["errors.errorType"], apart := false, laid := [("errors.errorType", laid_errors_errorType)], narrowed := true }
def AhsRoomUptoSaid : Prop := ahsRoomUptoRow.holds Tryd.pinned (OpenSpec.upto ahsRoomSpec)

end Rows
end Go.Proofs.YtceinedicbdngaaDoor
