/-
  NARROWER THAN 'FOR EVERY INPUT', by the rows' own cells (each row's printed sentence says how): FnWire: ifaces, laid · FnWireBack: ifaces, laid · FnExactReadNote: ifaces, laid.
  DERIVED. THE GIVEN ROWS OF THIS SEAT. 3 by the template 'for every input the law returns true; each argument reads behind the call as it read before'; 0 by the template 'total and deterministic' (their statements: YtgjbebfcbpfngaaDoorTotals.lean).
  GIVEN WITH THE SEED: the statements are not yours to turn. If you find one false, say at which input.
  Laid BY PROGRAM, IN A SANDBOX (cutbox-rows.mjs): the forced cells as the released guide's own fill.sh prints them over the translation ad8fa3eb0503ff32… (all of the seat's roots in one cut). By AI agents, Wed Nov 11 2026. No macro, syntax, notation, axiom, sorry.
-/
import Derived.Test.YtgjbebfcbpfngaaDoorChecked
import GoSem.Claim
import GoSem.ClaimJoined
import GoSem.ClaimMapViews
import Derived.JoinedTies
import Derived.KernelRfl
namespace Go.Proofs.YtgjbebfcbpfngaaDoor
/- THE CELL 'sum', in the pinned program and in every row, IS THE sha256 OF THE DUMP (.gsa) THAT YtgjbebfcbpfngaaDoorProg.lean LOADS. Nothing in Lean hashes anything: it is a label: what it is worth is what the hold of that sum in a sandbox is worth. -/
noncomputable def Tryd.pinned : Pinned := { name := "ytgjbebfcbpfngaadoor", sum := "ad8fa3eb0503ff32d9f2cf114e50a5e3034068131dea775df7d5956f9458e6af", checked := Tryd.checked }
namespace Rows
def none {H : Type} : Left H := { results := [], args := [] }

/- WHAT THE LISTED PACKAGE-LEVEL VARIABLES READ AS WHEN THE CALL BEGINS. Each datum BY PROGRAM (the guide's laid-datum.mjs) off the statement by which the dump's own 'gosem.cut.vars' lays the variable. In a bare row this is a premise. The card (YtgjbebfcbpfngaaDoorCards.lean) ties it to the program's text. -/
def laid_errors_errorType {H : Type} : DataW H := .iface "internal/reflectlite.rtype" (.agg [.ptr (.lit (.string [101, 114, 114, 111, 114]))])
def laid_loop_example_g00695_impl_errEnd {H : Type} : DataW H := .iface "*errors.errorString" (.ptr (.agg [.lit (.string [116, 104, 101, 114, 101, 32, 105, 115, 32, 110, 111, 32, 98, 121, 116, 101, 32, 108, 101, 102, 116])]))
def laid_loop_example_g00695_impl_errEndless {H : Type} : DataW H := .iface "*errors.errorString" (.ptr (.agg [.lit (.string [116, 104, 101, 32, 110, 117, 109, 98, 101, 114, 32, 104, 97, 115, 32, 110, 111, 32, 108, 97, 115, 116, 32, 98, 121, 116, 101, 32, 119, 104, 101, 114, 101, 32, 105, 116, 32, 109, 117, 115, 116, 32, 104, 97, 118, 101, 32, 111, 110, 101])]))
def laid_loop_example_g00695_impl_errShorter {H : Type} : DataW H := .iface "*errors.errorString" (.ptr (.agg [.lit (.string [116, 104, 101, 32, 110, 117, 109, 98, 101, 114, 32, 99, 111, 117, 108, 100, 32, 98, 101, 32, 115, 104, 111, 114, 116, 101, 114])]))
def laid_loop_example_g00695_impl_errManySeals {H : Type} : DataW H := .iface "*errors.errorString" (.ptr (.agg [.lit (.string [116, 104, 101, 114, 101, 32, 97, 114, 101, 32, 109, 111, 114, 101, 32, 83, 101, 97, 108, 115, 32, 116, 104, 97, 110, 32, 109, 97, 121, 32, 98, 101])]))

/-- 'laws.FnWire': WHATEVER THE INPUT: true; the input reads as it did. -/
def fnWireSpec : ChangeSpec := { name := "fnWire", vars := ["loop.example/g00695/impl.errEnd", "loop.example/g00695/impl.errShorter", "loop.example/g00695/impl.errEndless", "loop.example/g00695/impl.errManySeals"], fn := fun _ => fun
  | [d, g1, g2, g3, g4] => { results := [.lit (.bool true)], args := [d], vars := [g1, g2, g3, g4] }
  | _ => none }
def fnWireRow : OpenClaim := { program := "ytgjbebfcbpfngaadoor", sum := "ad8fa3eb0503ff32d9f2cf114e50a5e3034068131dea775df7d5956f9458e6af", func := "loop.example/g00695/laws.FnWire", spec := "fnWire", inPlace := ["internal/reflectlite.TypeOf", "internal/reflectlite.ValueOf", "(internal/reflectlite.Value).Type", "(internal/reflectlite.Value).IsNil", "(internal/reflectlite.Value).Elem", "(internal/reflectlite.Value).Set"], unfollowed := true, recurses := true, named := ["loop.example/g00695/impl.errEnd", "loop.example/g00695/impl.errShorter", "loop.example/g00695/impl.errEndless", "loop.example/g00695/impl.errManySeals", "errors.errorType"], ifaces := true, apart := false, laid := [("errors.errorType", laid_errors_errorType), ("loop.example/g00695/impl.errEnd", laid_loop_example_g00695_impl_errEnd), ("loop.example/g00695/impl.errEndless", laid_loop_example_g00695_impl_errEndless), ("loop.example/g00695/impl.errShorter", laid_loop_example_g00695_impl_errShorter), ("loop.example/g00695/impl.errManySeals", laid_loop_example_g00695_impl_errManySeals)] }
def FnWireSaid : Prop := fnWireRow.holds Tryd.pinned (OpenSpec.ofChange fnWireSpec)

/-- ITS FALSE NEIGHBOUR: 'it returns false'. Refute it at one input. -/
def fnWireWrong : ChangeSpec := { name := "fnWire", vars := ["loop.example/g00695/impl.errEnd", "loop.example/g00695/impl.errShorter", "loop.example/g00695/impl.errEndless", "loop.example/g00695/impl.errManySeals"], fn := fun _ => fun
  | [d, g1, g2, g3, g4] => { results := [.lit (.bool false)], args := [d], vars := [g1, g2, g3, g4] }
  | _ => none }
def FnWireWrongFalsely : Prop := fnWireRow.holds Tryd.pinned (OpenSpec.ofChange fnWireWrong)

/-- 'laws.FnWireBack': WHATEVER THE INPUT: true; the input reads as it did. -/
def fnWireBackSpec : ChangeSpec := { name := "fnWireBack", vars := ["loop.example/g00695/impl.errEnd", "loop.example/g00695/impl.errShorter", "loop.example/g00695/impl.errEndless", "loop.example/g00695/impl.errManySeals"], fn := fun _ => fun
  | [d, g1, g2, g3, g4] => { results := [.lit (.bool true)], args := [d], vars := [g1, g2, g3, g4] }
  | _ => none }
def fnWireBackRow : OpenClaim := { program := "ytgjbebfcbpfngaadoor", sum := "ad8fa3eb0503ff32d9f2cf114e50a5e3034068131dea775df7d5956f9458e6af", func := "loop.example/g00695/laws.FnWireBack", spec := "fnWireBack", inPlace := ["internal/reflectlite.TypeOf", "internal/reflectlite.ValueOf", "(internal/reflectlite.Value).Type", "(internal/reflectlite.Value).IsNil", "(internal/reflectlite.Value).Elem", "(internal/reflectlite.Value).Set"], unfollowed := true, recurses := true, named := ["loop.example/g00695/impl.errEnd", "loop.example/g00695/impl.errShorter", "loop.example/g00695/impl.errEndless", "loop.example/g00695/impl.errManySeals", "errors.errorType"], ifaces := true, apart := false, laid := [("errors.errorType", laid_errors_errorType), ("loop.example/g00695/impl.errEnd", laid_loop_example_g00695_impl_errEnd), ("loop.example/g00695/impl.errEndless", laid_loop_example_g00695_impl_errEndless), ("loop.example/g00695/impl.errShorter", laid_loop_example_g00695_impl_errShorter), ("loop.example/g00695/impl.errManySeals", laid_loop_example_g00695_impl_errManySeals)] }
def FnWireBackSaid : Prop := fnWireBackRow.holds Tryd.pinned (OpenSpec.ofChange fnWireBackSpec)

/-- ITS FALSE NEIGHBOUR: 'it returns false'. Refute it at one input. -/
def fnWireBackWrong : ChangeSpec := { name := "fnWireBack", vars := ["loop.example/g00695/impl.errEnd", "loop.example/g00695/impl.errShorter", "loop.example/g00695/impl.errEndless", "loop.example/g00695/impl.errManySeals"], fn := fun _ => fun
  | [d, g1, g2, g3, g4] => { results := [.lit (.bool false)], args := [d], vars := [g1, g2, g3, g4] }
  | _ => none }
def FnWireBackWrongFalsely : Prop := fnWireBackRow.holds Tryd.pinned (OpenSpec.ofChange fnWireBackWrong)

/-- 'laws.FnExactReadNote': WHATEVER THE INPUT: true; the input reads as it did. -/
def fnExactReadNoteSpec : ChangeSpec := { name := "fnExactReadNote", vars := ["loop.example/g00695/impl.errEnd", "loop.example/g00695/impl.errShorter", "loop.example/g00695/impl.errEndless", "loop.example/g00695/impl.errManySeals"], fn := fun _ => fun
  | [d1, d2, g1, g2, g3, g4] => { results := [.lit (.bool true)], args := [d1, d2], vars := [g1, g2, g3, g4] }
  | _ => none }
def fnExactReadNoteRow : OpenClaim := { program := "ytgjbebfcbpfngaadoor", sum := "ad8fa3eb0503ff32d9f2cf114e50a5e3034068131dea775df7d5956f9458e6af", func := "loop.example/g00695/laws.FnExactReadNote", spec := "fnExactReadNote", inPlace := ["internal/reflectlite.TypeOf", "internal/reflectlite.ValueOf", "(internal/reflectlite.Value).Type", "(internal/reflectlite.Value).IsNil", "(internal/reflectlite.Value).Elem", "(internal/reflectlite.Value).Set"], unfollowed := true, recurses := true, named := ["loop.example/g00695/impl.errEnd", "loop.example/g00695/impl.errShorter", "loop.example/g00695/impl.errEndless", "loop.example/g00695/impl.errManySeals", "errors.errorType"], ifaces := true, apart := false, laid := [("errors.errorType", laid_errors_errorType), ("loop.example/g00695/impl.errEnd", laid_loop_example_g00695_impl_errEnd), ("loop.example/g00695/impl.errEndless", laid_loop_example_g00695_impl_errEndless), ("loop.example/g00695/impl.errShorter", laid_loop_example_g00695_impl_errShorter), ("loop.example/g00695/impl.errManySeals", laid_loop_example_g00695_impl_errManySeals)] }
def FnExactReadNoteSaid : Prop := fnExactReadNoteRow.holds Tryd.pinned (OpenSpec.ofChange fnExactReadNoteSpec)

/-- ITS FALSE NEIGHBOUR: 'it returns false'. Refute it at one input. -/
def fnExactReadNoteWrong : ChangeSpec := { name := "fnExactReadNote", vars := ["loop.example/g00695/impl.errEnd", "loop.example/g00695/impl.errShorter", "loop.example/g00695/impl.errEndless", "loop.example/g00695/impl.errManySeals"], fn := fun _ => fun
  | [d1, d2, g1, g2, g3, g4] => { results := [.lit (.bool false)], args := [d1, d2], vars := [g1, g2, g3, g4] }
  | _ => none }
def FnExactReadNoteWrongFalsely : Prop := fnExactReadNoteRow.holds Tryd.pinned (OpenSpec.ofChange fnExactReadNoteWrong)

/- THE SECOND FORM. 'bulk': how many values and letters a reading holds, each counted each time it is reached (what is shared counts as often as it is met; a slice's spare places count too). A statement '..UptoSaid' is the law's where the arguments, and the package variables that the reading takes, are together of bulk at most 1048576: NARROWER than '..Said'. Prove '..Said' where nothing that the law and all that it calls make is longer than what came in: it says more and counts as full. Else prove '..UptoSaid'. A law counts once. -/
mutual
def uptoBulk {H : Type} : DataW H → Nat
  | .lit (.string bytes) => bytes.length + 1
  | .lit _ => 1
  | .nil => 1
  | .ptr d => uptoBulk d + 1
  | .slice elems spare => uptoBulkAll elems + uptoBulkAll spare + 1
  | .agg parts => uptoBulkAll parts + 1
  | .iface _ d => uptoBulk d + 1
  | .map entries => uptoBulkEntries entries + 1
  | .held _ => 1
def uptoBulkAll {H : Type} : List (DataW H) → Nat
  | [] => 0
  | d :: r => uptoBulk d + uptoBulkAll r
def uptoBulkEntries {H : Type} : List (Lit × DataW H) → Nat
  | [] => 0
  | x :: r => uptoBulkEntry x + uptoBulkEntries r
def uptoBulkEntry {H : Type} : Lit × DataW H → Nat
  | (.string bytes, d) => bytes.length + uptoBulk d + 1
  | (_, d) => uptoBulk d + 1
 end
def uptoSmall : (H : Type) → List (DataW H) → Bool := fun _ ds => decide (uptoBulkAll ds ≤ 1048576)
def OpenSpec.upto (s : _root_.Go.ChangeSpec) : _root_.Go.OpenSpec := { _root_.Go.OpenSpec.ofChange s with cond := some uptoSmall }

/-- 'laws.FnWire', WHERE WHAT IT READS IS OF BULK AT MOST 1048576: true; the input reads as it did. -/
def fnWireUptoRow : OpenClaim := { program := "ytgjbebfcbpfngaadoor", sum := "ad8fa3eb0503ff32d9f2cf114e50a5e3034068131dea775df7d5956f9458e6af", func := "loop.example/g00695/laws.FnWire", spec := "fnWire", inPlace := ["internal/reflectlite.TypeOf", "internal/reflectlite.ValueOf", "(internal/reflectlite.Value).Type", "(internal/reflectlite.Value).IsNil", "(internal/reflectlite.Value).Elem", "(internal/reflectlite.Value).Set"], unfollowed := true, recurses := true, named := ["loop.example/g00695/impl.errEnd", "loop.example/g00695/impl.errShorter", "loop.example/g00695/impl.errEndless", "loop.example/g00695/impl.errManySeals", "errors.errorType"], ifaces := true, apart := false, laid := [("errors.errorType", laid_errors_errorType), ("loop.example/g00695/impl.errEnd", laid_loop_example_g00695_impl_errEnd), ("loop.example/g00695/impl.errEndless", laid_loop_example_g00695_impl_errEndless), ("loop.example/g00695/impl.errShorter", laid_loop_example_g00695_impl_errShorter), ("loop.example/g00695/impl.errManySeals", laid_loop_example_g00695_impl_errManySeals)], narrowed := true }
def FnWireUptoSaid : Prop := fnWireUptoRow.holds Tryd.pinned (OpenSpec.upto fnWireSpec)

/-- 'laws.FnWireBack', WHERE WHAT IT READS IS OF BULK AT MOST 1048576: true; the input reads as it did. -/
def fnWireBackUptoRow : OpenClaim := { program := "ytgjbebfcbpfngaadoor", sum := "ad8fa3eb0503ff32d9f2cf114e50a5e3034068131dea775df7d5956f9458e6af", func := "loop.example/g00695/laws.FnWireBack", spec := "fnWireBack", inPlace := ["internal/reflectlite.TypeOf", "internal/reflectlite.ValueOf", "(internal/reflectlite.Value).Type", "(internal/reflectlite.Value).IsNil", "(internal/reflectlite.Value).Elem", "(internal/reflectlite.Value).Set"], unfollowed := true, recurses := true, named := ["loop.example/g00695/impl.errEnd", "loop.example/g00695/impl.errShorter", "loop.example/g00695/impl.errEndless", "loop.example/g00695/impl.errManySeals", "errors.errorType"], ifaces := true, apart := false, laid := [("errors.errorType", laid_errors_errorType), ("loop.example/g00695/impl.errEnd", laid_loop_example_g00695_impl_errEnd), ("loop.example/g00695/impl.errEndless", laid_loop_example_g00695_impl_errEndless), ("loop.example/g00695/impl.errShorter", laid_loop_example_g00695_impl_errShorter), ("loop.example/g00695/impl.errManySeals", laid_loop_example_g00695_impl_errManySeals)], narrowed := true }
def FnWireBackUptoSaid : Prop := fnWireBackUptoRow.holds Tryd.pinned (OpenSpec.upto fnWireBackSpec)

/-- 'laws.FnExactReadNote', WHERE WHAT IT READS IS OF BULK AT MOST 1048576: true; the input reads as it did. -/
def fnExactReadNoteUptoRow : OpenClaim := { program := "ytgjbebfcbpfngaadoor", sum := "ad8fa3eb0503ff32d9f2cf114e50a5e3034068131dea775df7d5956f9458e6af", func := "loop.example/g00695/laws.FnExactReadNote", spec := "fnExactReadNote", inPlace := ["internal/reflectlite.TypeOf", "internal/reflectlite.ValueOf", "(internal/reflectlite.Value).Type", "(internal/reflectlite.Value).IsNil", "(internal/reflectlite.Value).Elem", "(internal/reflectlite.Value).Set"], unfollowed := true, recurses := true, named := ["loop.example/g00695/impl.errEnd", "loop.example/g00695/impl.errShorter", "loop.example/g00695/impl.errEndless", "loop.example/g00695/impl.errManySeals", "errors.errorType"], ifaces := true, apart := false, laid := [("errors.errorType", laid_errors_errorType), ("loop.example/g00695/impl.errEnd", laid_loop_example_g00695_impl_errEnd), ("loop.example/g00695/impl.errEndless", laid_loop_example_g00695_impl_errEndless), ("loop.example/g00695/impl.errShorter", laid_loop_example_g00695_impl_errShorter), ("loop.example/g00695/impl.errManySeals", laid_loop_example_g00695_impl_errManySeals)], narrowed := true }
def FnExactReadNoteUptoSaid : Prop := fnExactReadNoteUptoRow.holds Tryd.pinned (OpenSpec.upto fnExactReadNoteSpec)

end Rows
end Go.Proofs.YtgjbebfcbpfngaaDoor
