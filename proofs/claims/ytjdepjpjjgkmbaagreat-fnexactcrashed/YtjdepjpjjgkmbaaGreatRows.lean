/-
  No cell of these rows narrows 'for every input' (looked for: loops, veiled, ifaces, maps, wideKeys, modest, calm, conditions, laid).
  DERIVED. THE GIVEN ROWS OF THIS SEAT. 9 by the template 'for every input the law returns true; each argument reads behind the call as it read before'; 0 by the template 'total and deterministic' (their statements: YtjdepjpjjgkmbaaGreatTotals.lean).
  GIVEN WITH THE SEED: the statements are not yours to turn. If you find one false, say at which input.
  Laid BY PROGRAM, IN A SANDBOX (cutbox-rows.mjs): the forced cells as the released guide's own fill.sh prints them over the translation 47e24db2d5655ab3… (all of the seat's roots in one cut). By AI agents, Wed Nov 11 2026. No macro, syntax, notation, axiom, sorry.
-/
import Derived.Test.YtjdepjpjjgkmbaaGreatChecked
import GoSem.Claim
import GoSem.ClaimJoined
import GoSem.ClaimMapViews
import Derived.JoinedTies
import Derived.KernelRfl
namespace Go.Proofs.YtjdepjpjjgkmbaaGreat
/- THE CELL 'sum', in the pinned program and in every row, IS THE sha256 OF THE DUMP (.gsa) THAT YtjdepjpjjgkmbaaGreatProg.lean LOADS. Nothing in Lean hashes anything: it is a label: what it is worth is what the hold of that sum in a sandbox is worth. -/
noncomputable def Tryz.pinned : Pinned := { name := "ytjdepjpjjgkmbaagreat", sum := "47e24db2d5655ab33750ff9c1b554186ed75b596d3c065a4461820d1376d474a", checked := Tryz.checked }
namespace Rows
def none {H : Type} : Left H := { results := [], args := [] }

/-- 'laws.FnCrash': WHATEVER THE INPUT: true; the input reads as it did. -/
def fnCrashSpec : ChangeSpec := { name := "fnCrash", fn := fun _ => fun
  | [d] => { results := [.lit (.bool true)], args := [d] }
  | _ => none }
def fnCrashRow : OpenClaim := { program := "ytjdepjpjjgkmbaagreat", sum := "47e24db2d5655ab33750ff9c1b554186ed75b596d3c065a4461820d1376d474a", func := "loop.example/g00695/laws.FnCrash", spec := "fnCrash", unfollowed := true, recurses := true, apart := false }
def FnCrashSaid : Prop := fnCrashRow.holds Tryz.pinned (OpenSpec.ofChange fnCrashSpec)

/-- ITS FALSE NEIGHBOUR: 'it returns false'. Refute it at one input. -/
def fnCrashWrong : ChangeSpec := { name := "fnCrash", fn := fun _ => fun
  | [d] => { results := [.lit (.bool false)], args := [d] }
  | _ => none }
def FnCrashWrongFalsely : Prop := fnCrashRow.holds Tryz.pinned (OpenSpec.ofChange fnCrashWrong)

/-- 'laws.FnNoted': WHATEVER THE INPUT: true; the input reads as it did. -/
def fnNotedSpec : ChangeSpec := { name := "fnNoted", fn := fun _ => fun
  | [d] => { results := [.lit (.bool true)], args := [d] }
  | _ => none }
def fnNotedRow : OpenClaim := { program := "ytjdepjpjjgkmbaagreat", sum := "47e24db2d5655ab33750ff9c1b554186ed75b596d3c065a4461820d1376d474a", func := "loop.example/g00695/laws.FnNoted", spec := "fnNoted", unfollowed := true, recurses := true, apart := false }
def FnNotedSaid : Prop := fnNotedRow.holds Tryz.pinned (OpenSpec.ofChange fnNotedSpec)

/-- ITS FALSE NEIGHBOUR: 'it returns false'. Refute it at one input. -/
def fnNotedWrong : ChangeSpec := { name := "fnNoted", fn := fun _ => fun
  | [d] => { results := [.lit (.bool false)], args := [d] }
  | _ => none }
def FnNotedWrongFalsely : Prop := fnNotedRow.holds Tryz.pinned (OpenSpec.ofChange fnNotedWrong)

/-- 'laws.FnExactJournalOk': WHATEVER THE INPUT: true; the input reads as it did. -/
def fnExactJournalOkSpec : ChangeSpec := { name := "fnExactJournalOk", fn := fun _ => fun
  | [d1, d2] => { results := [.lit (.bool true)], args := [d1, d2] }
  | _ => none }
def fnExactJournalOkRow : OpenClaim := { program := "ytjdepjpjjgkmbaagreat", sum := "47e24db2d5655ab33750ff9c1b554186ed75b596d3c065a4461820d1376d474a", func := "loop.example/g00695/laws.FnExactJournalOk", spec := "fnExactJournalOk", unfollowed := true, recurses := true, apart := false }
def FnExactJournalOkSaid : Prop := fnExactJournalOkRow.holds Tryz.pinned (OpenSpec.ofChange fnExactJournalOkSpec)

/-- ITS FALSE NEIGHBOUR: 'it returns false'. Refute it at one input. -/
def fnExactJournalOkWrong : ChangeSpec := { name := "fnExactJournalOk", fn := fun _ => fun
  | [d1, d2] => { results := [.lit (.bool false)], args := [d1, d2] }
  | _ => none }
def FnExactJournalOkWrongFalsely : Prop := fnExactJournalOkRow.holds Tryz.pinned (OpenSpec.ofChange fnExactJournalOkWrong)

/-- 'laws.FnExactNoted': WHATEVER THE INPUT: true; the input reads as it did. -/
def fnExactNotedSpec : ChangeSpec := { name := "fnExactNoted", fn := fun _ => fun
  | [d1, d2, d3, d4, d5, d6, d7, d8] => { results := [.lit (.bool true)], args := [d1, d2, d3, d4, d5, d6, d7, d8] }
  | _ => none }
def fnExactNotedRow : OpenClaim := { program := "ytjdepjpjjgkmbaagreat", sum := "47e24db2d5655ab33750ff9c1b554186ed75b596d3c065a4461820d1376d474a", func := "loop.example/g00695/laws.FnExactNoted", spec := "fnExactNoted", unfollowed := true, recurses := true, apart := false }
def FnExactNotedSaid : Prop := fnExactNotedRow.holds Tryz.pinned (OpenSpec.ofChange fnExactNotedSpec)

/-- ITS FALSE NEIGHBOUR: 'it returns false'. Refute it at one input. -/
def fnExactNotedWrong : ChangeSpec := { name := "fnExactNoted", fn := fun _ => fun
  | [d1, d2, d3, d4, d5, d6, d7, d8] => { results := [.lit (.bool false)], args := [d1, d2, d3, d4, d5, d6, d7, d8] }
  | _ => none }
def FnExactNotedWrongFalsely : Prop := fnExactNotedRow.holds Tryz.pinned (OpenSpec.ofChange fnExactNotedWrong)

/-- 'laws.FnExactSynced': WHATEVER THE INPUT: true; the input reads as it did. -/
def fnExactSyncedSpec : ChangeSpec := { name := "fnExactSynced", fn := fun _ => fun
  | [d1, d2] => { results := [.lit (.bool true)], args := [d1, d2] }
  | _ => none }
def fnExactSyncedRow : OpenClaim := { program := "ytjdepjpjjgkmbaagreat", sum := "47e24db2d5655ab33750ff9c1b554186ed75b596d3c065a4461820d1376d474a", func := "loop.example/g00695/laws.FnExactSynced", spec := "fnExactSynced", unfollowed := true, recurses := true, apart := false }
def FnExactSyncedSaid : Prop := fnExactSyncedRow.holds Tryz.pinned (OpenSpec.ofChange fnExactSyncedSpec)

/-- ITS FALSE NEIGHBOUR: 'it returns false'. Refute it at one input. -/
def fnExactSyncedWrong : ChangeSpec := { name := "fnExactSynced", fn := fun _ => fun
  | [d1, d2] => { results := [.lit (.bool false)], args := [d1, d2] }
  | _ => none }
def FnExactSyncedWrongFalsely : Prop := fnExactSyncedRow.holds Tryz.pinned (OpenSpec.ofChange fnExactSyncedWrong)

/-- 'laws.FnExactCrashed': WHATEVER THE INPUT: true; the input reads as it did. -/
def fnExactCrashedSpec : ChangeSpec := { name := "fnExactCrashed", fn := fun _ => fun
  | [d1, d2, d3] => { results := [.lit (.bool true)], args := [d1, d2, d3] }
  | _ => none }
def fnExactCrashedRow : OpenClaim := { program := "ytjdepjpjjgkmbaagreat", sum := "47e24db2d5655ab33750ff9c1b554186ed75b596d3c065a4461820d1376d474a", func := "loop.example/g00695/laws.FnExactCrashed", spec := "fnExactCrashed", unfollowed := true, recurses := true, apart := false }
def FnExactCrashedSaid : Prop := fnExactCrashedRow.holds Tryz.pinned (OpenSpec.ofChange fnExactCrashedSpec)

/-- ITS FALSE NEIGHBOUR: 'it returns false'. Refute it at one input. -/
def fnExactCrashedWrong : ChangeSpec := { name := "fnExactCrashed", fn := fun _ => fun
  | [d1, d2, d3] => { results := [.lit (.bool false)], args := [d1, d2, d3] }
  | _ => none }
def FnExactCrashedWrongFalsely : Prop := fnExactCrashedRow.holds Tryz.pinned (OpenSpec.ofChange fnExactCrashedWrong)

/-- 'laws.FnExactReadied': WHATEVER THE INPUT: true; the input reads as it did. -/
def fnExactReadiedSpec : ChangeSpec := { name := "fnExactReadied", fn := fun _ => fun
  | [d1, d2, d3] => { results := [.lit (.bool true)], args := [d1, d2, d3] }
  | _ => none }
def fnExactReadiedRow : OpenClaim := { program := "ytjdepjpjjgkmbaagreat", sum := "47e24db2d5655ab33750ff9c1b554186ed75b596d3c065a4461820d1376d474a", func := "loop.example/g00695/laws.FnExactReadied", spec := "fnExactReadied", unfollowed := true, recurses := true, apart := false }
def FnExactReadiedSaid : Prop := fnExactReadiedRow.holds Tryz.pinned (OpenSpec.ofChange fnExactReadiedSpec)

/-- ITS FALSE NEIGHBOUR: 'it returns false'. Refute it at one input. -/
def fnExactReadiedWrong : ChangeSpec := { name := "fnExactReadied", fn := fun _ => fun
  | [d1, d2, d3] => { results := [.lit (.bool false)], args := [d1, d2, d3] }
  | _ => none }
def FnExactReadiedWrongFalsely : Prop := fnExactReadiedRow.holds Tryz.pinned (OpenSpec.ofChange fnExactReadiedWrong)

/-- 'laws.FnReady': WHATEVER THE INPUT: true; the input reads as it did. -/
def fnReadySpec : ChangeSpec := { name := "fnReady", fn := fun _ => fun
  | [d] => { results := [.lit (.bool true)], args := [d] }
  | _ => none }
def fnReadyRow : OpenClaim := { program := "ytjdepjpjjgkmbaagreat", sum := "47e24db2d5655ab33750ff9c1b554186ed75b596d3c065a4461820d1376d474a", func := "loop.example/g00695/laws.FnReady", spec := "fnReady", unfollowed := true, recurses := true, apart := false }
def FnReadySaid : Prop := fnReadyRow.holds Tryz.pinned (OpenSpec.ofChange fnReadySpec)

/-- ITS FALSE NEIGHBOUR: 'it returns false'. Refute it at one input. -/
def fnReadyWrong : ChangeSpec := { name := "fnReady", fn := fun _ => fun
  | [d] => { results := [.lit (.bool false)], args := [d] }
  | _ => none }
def FnReadyWrongFalsely : Prop := fnReadyRow.holds Tryz.pinned (OpenSpec.ofChange fnReadyWrong)

/-- 'laws.FnExactNewServer': WHATEVER THE INPUT: true; the input reads as it did. -/
def fnExactNewServerSpec : ChangeSpec := { name := "fnExactNewServer", fn := fun _ => fun
  | [d1, d2] => { results := [.lit (.bool true)], args := [d1, d2] }
  | _ => none }
def fnExactNewServerRow : OpenClaim := { program := "ytjdepjpjjgkmbaagreat", sum := "47e24db2d5655ab33750ff9c1b554186ed75b596d3c065a4461820d1376d474a", func := "loop.example/g00695/laws.FnExactNewServer", spec := "fnExactNewServer", unfollowed := true, recurses := true, apart := false }
def FnExactNewServerSaid : Prop := fnExactNewServerRow.holds Tryz.pinned (OpenSpec.ofChange fnExactNewServerSpec)

/-- ITS FALSE NEIGHBOUR: 'it returns false'. Refute it at one input. -/
def fnExactNewServerWrong : ChangeSpec := { name := "fnExactNewServer", fn := fun _ => fun
  | [d1, d2] => { results := [.lit (.bool false)], args := [d1, d2] }
  | _ => none }
def FnExactNewServerWrongFalsely : Prop := fnExactNewServerRow.holds Tryz.pinned (OpenSpec.ofChange fnExactNewServerWrong)

/- THE SECOND FORM. 'bulk': how many values and letters a reading holds, each counted each time it is reached (what is shared counts as often as it is met; a slice's spare places count too). A statement '..UptoSaid' is the law's where the arguments, and the package variables that the reading takes, are together of bulk at most 1048576: NARROWER than '..Said'. Prove '..Said' where nothing that the law and all that it calls make is longer than what came in: it says more and counts as full. Else prove '..UptoSaid'. A law counts once. -/
mutual
def uptoBulk {H : Type} : DataW H → Nat
  | .lit (.string bytes) => bytes.length + 1
  | .lit _ => 1
  | .nil => 1
  | .ptr d => uptoBulk d + 1
  | .slice elems spare => uptoBulkAll elems + uptoBulkAll spare + 1
  | .agg parts => uptoBulkAll parts + 1
  | .iface _ d => uptoBulk d + 1
  | .map entries => uptoBulkEntries entries + 1
  | .held _ => 1
def uptoBulkAll {H : Type} : List (DataW H) → Nat
  | [] => 0
  | d :: r => uptoBulk d + uptoBulkAll r
def uptoBulkEntries {H : Type} : List (Lit × DataW H) → Nat
  | [] => 0
  | x :: r => uptoBulkEntry x + uptoBulkEntries r
def uptoBulkEntry {H : Type} : Lit × DataW H → Nat
  | (.string bytes, d) => bytes.length + uptoBulk d + 1
  | (_, d) => uptoBulk d + 1
 end
def uptoSmall : (H : Type) → List (DataW H) → Bool := fun _ ds => decide (uptoBulkAll ds ≤ 1048576)
def OpenSpec.upto (s : _root_.Go.ChangeSpec) : _root_.Go.OpenSpec := { _root_.Go.OpenSpec.ofChange s with cond := some uptoSmall }

/-- 'laws.FnCrash', WHERE WHAT IT READS IS OF BULK AT MOST 1048576: true; the input reads as it did. -/
def fnCrashUptoRow : OpenClaim := { program := "ytjdepjpjjgkmbaagreat", sum := "47e24db2d5655ab33750ff9c1b554186ed75b596d3c065a4461820d1376d474a", func := "loop.example/g00695/laws.FnCrash", spec := "fnCrash", unfollowed := true, recurses := true, apart := false, narrowed := true }
def FnCrashUptoSaid : Prop := fnCrashUptoRow.holds Tryz.pinned (OpenSpec.upto fnCrashSpec)

/-- 'laws.FnNoted', WHERE WHAT IT READS IS OF BULK AT MOST 1048576: true; the input reads as it did. -/
def fnNotedUptoRow : OpenClaim := { program := "ytjdepjpjjgkmbaagreat", sum := "47e24db2d5655ab33750ff9c1b554186ed75b596d3c065a4461820d1376d474a", func := "loop.example/g00695/laws.FnNoted", spec := "fnNoted", unfollowed := true, recurses := true, apart := false, narrowed := true }
def FnNotedUptoSaid : Prop := fnNotedUptoRow.holds Tryz.pinned (OpenSpec.upto fnNotedSpec)

/-- 'laws.FnExactJournalOk', WHERE WHAT IT READS IS OF BULK AT MOST 1048576: true; the input reads as it did. -/
def fnExactJournalOkUptoRow : OpenClaim := { program := "ytjdepjpjjgkmbaagreat", sum := "47e24db2d5655ab33750ff9c1b554186ed75b596d3c065a4461820d1376d474a", func := "loop.example/g00695/laws.FnExactJournalOk", spec := "fnExactJournalOk", unfollowed := true, recurses := true, apart := false, narrowed := true }
def FnExactJournalOkUptoSaid : Prop := fnExactJournalOkUptoRow.holds Tryz.pinned (OpenSpec.upto fnExactJournalOkSpec)

/-- 'laws.FnExactNoted', WHERE WHAT IT READS IS OF BULK AT MOST 1048576: true; the input reads as it did. -/
def fnExactNotedUptoRow : OpenClaim := { program := "ytjdepjpjjgkmbaagreat", sum := "47e24db2d5655ab33750ff9c1b554186ed75b596d3c065a4461820d1376d474a", func := "loop.example/g00695/laws.FnExactNoted", spec := "fnExactNoted", unfollowed := true, recurses := true, apart := false, narrowed := true }
def FnExactNotedUptoSaid : Prop := fnExactNotedUptoRow.holds Tryz.pinned (OpenSpec.upto fnExactNotedSpec)

/-- 'laws.FnExactSynced', WHERE WHAT IT READS IS OF BULK AT MOST 1048576: true; the input reads as it did. -/
def fnExactSyncedUptoRow : OpenClaim := { program := "ytjdepjpjjgkmbaagreat", sum := "47e24db2d5655ab33750ff9c1b554186ed75b596d3c065a4461820d1376d474a", func := "loop.example/g00695/laws.FnExactSynced", spec := "fnExactSynced", unfollowed := true, recurses := true, apart := false, narrowed := true }
def FnExactSyncedUptoSaid : Prop := fnExactSyncedUptoRow.holds Tryz.pinned (OpenSpec.upto fnExactSyncedSpec)

/-- 'laws.FnExactCrashed', WHERE WHAT IT READS IS OF BULK AT MOST 1048576: true; the input reads as it did. -/
def fnExactCrashedUptoRow : OpenClaim := { program := "ytjdepjpjjgkmbaagreat", sum := "47e24db2d5655ab33750ff9c1b554186ed75b596d3c065a4461820d1376d474a", func := "loop.example/g00695/laws.FnExactCrashed", spec := "fnExactCrashed", unfollowed := true, recurses := true, apart := false, narrowed := true }
def FnExactCrashedUptoSaid : Prop := fnExactCrashedUptoRow.holds Tryz.pinned (OpenSpec.upto fnExactCrashedSpec)

/-- 'laws.FnExactReadied', WHERE WHAT IT READS IS OF BULK AT MOST 1048576: true; the input reads as it did. -/
def fnExactReadiedUptoRow : OpenClaim := { program := "ytjdepjpjjgkmbaagreat", sum := "47e24db2d5655ab33750ff9c1b554186ed75b596d3c065a4461820d1376d474a", func := "loop.example/g00695/laws.FnExactReadied", spec := "fnExactReadied", unfollowed := true, recurses := true, apart := false, narrowed := true }
def FnExactReadiedUptoSaid : Prop := fnExactReadiedUptoRow.holds Tryz.pinned (OpenSpec.upto fnExactReadiedSpec)

/-- 'laws.FnReady', WHERE WHAT IT READS IS OF BULK AT MOST 1048576: true; the input reads as it did. -/
def fnReadyUptoRow : OpenClaim := { program := "ytjdepjpjjgkmbaagreat", sum := "47e24db2d5655ab33750ff9c1b554186ed75b596d3c065a4461820d1376d474a", func := "loop.example/g00695/laws.FnReady", spec := "fnReady", unfollowed := true, recurses := true, apart := false, narrowed := true }
def FnReadyUptoSaid : Prop := fnReadyUptoRow.holds Tryz.pinned (OpenSpec.upto fnReadySpec)

/-- 'laws.FnExactNewServer', WHERE WHAT IT READS IS OF BULK AT MOST 1048576: true; the input reads as it did. -/
def fnExactNewServerUptoRow : OpenClaim := { program := "ytjdepjpjjgkmbaagreat", sum := "47e24db2d5655ab33750ff9c1b554186ed75b596d3c065a4461820d1376d474a", func := "loop.example/g00695/laws.FnExactNewServer", spec := "fnExactNewServer", unfollowed := true, recurses := true, apart := false, narrowed := true }
def FnExactNewServerUptoSaid : Prop := fnExactNewServerUptoRow.holds Tryz.pinned (OpenSpec.upto fnExactNewServerSpec)

end Rows
end Go.Proofs.YtjdepjpjjgkmbaaGreat
