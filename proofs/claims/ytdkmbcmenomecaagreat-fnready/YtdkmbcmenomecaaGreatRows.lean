/-
  No cell of these rows narrows 'for every input' (looked for: loops, veiled, ifaces, maps, wideKeys, modest, calm, conditions, laid).
  DERIVED. THE GIVEN ROWS OF THIS SEAT. 3 by the template 'for every input the law returns true; each argument reads behind the call as it read before'; 0 by the template 'total and deterministic' (their statements: YtdkmbcmenomecaaGreatTotals.lean).
  GIVEN WITH THE SEED: the statements are not yours to turn. If you find one false, say at which input.
  Laid BY PROGRAM, IN A SANDBOX (cutbox-rows.mjs): the forced cells as the released guide's own fill.sh prints them over the translation 3dab47ade8318ec6… (all of the seat's roots in one cut). By AI agents, Wed Nov 11 2026. No macro, syntax, notation, axiom, sorry.
-/
import Derived.Test.YtdkmbcmenomecaaGreatChecked
import GoSem.Claim
import GoSem.ClaimJoined
import GoSem.ClaimMapViews
import Derived.JoinedTies
import Derived.KernelRfl
namespace Go.Proofs.YtdkmbcmenomecaaGreat
/- THE CELL 'sum', in the pinned program and in every row, IS THE sha256 OF THE DUMP (.gsa) THAT YtdkmbcmenomecaaGreatProg.lean LOADS. Nothing in Lean hashes anything: it is a label: what it is worth is what the hold of that sum in a sandbox is worth. -/
noncomputable def Tryz.pinned : Pinned := { name := "ytdkmbcmenomecaagreat", sum := "3dab47ade8318ec68231bc6ad7a8df7a8ebf6865cf46ce8cbddd16a6d3170897", checked := Tryz.checked }
namespace Rows
def none {H : Type} : Left H := { results := [], args := [] }

/-- 'laws.FnReady': WHATEVER THE INPUT: true; the input reads as it did. -/
def fnReadySpec : ChangeSpec := { name := "fnReady", fn := fun _ => fun
  | [d] => { results := [.lit (.bool true)], args := [d] }
  | _ => none }
def fnReadyRow : OpenClaim := { program := "ytdkmbcmenomecaagreat", sum := "3dab47ade8318ec68231bc6ad7a8df7a8ebf6865cf46ce8cbddd16a6d3170897", func := "loop.example/g00695/laws.FnReady", spec := "fnReady", unfollowed := true, recurses := true, apart := false }
def FnReadySaid : Prop := fnReadyRow.holds Tryz.pinned (OpenSpec.ofChange fnReadySpec)

/-- ITS FALSE NEIGHBOUR: 'it returns false'. Refute it at one input. -/
def fnReadyWrong : ChangeSpec := { name := "fnReady", fn := fun _ => fun
  | [d] => { results := [.lit (.bool false)], args := [d] }
  | _ => none }
def FnReadyWrongFalsely : Prop := fnReadyRow.holds Tryz.pinned (OpenSpec.ofChange fnReadyWrong)

/-- 'laws.FnExactCodeReady': WHATEVER THE INPUT: true; the input reads as it did. -/
def fnExactCodeReadySpec : ChangeSpec := { name := "fnExactCodeReady", fn := fun _ => fun
  | [d1, d2, d3] => { results := [.lit (.bool true)], args := [d1, d2, d3] }
  | _ => none }
def fnExactCodeReadyRow : OpenClaim := { program := "ytdkmbcmenomecaagreat", sum := "3dab47ade8318ec68231bc6ad7a8df7a8ebf6865cf46ce8cbddd16a6d3170897", func := "loop.example/g00695/laws.FnExactCodeReady", spec := "fnExactCodeReady", unfollowed := true, recurses := true, apart := false }
def FnExactCodeReadySaid : Prop := fnExactCodeReadyRow.holds Tryz.pinned (OpenSpec.ofChange fnExactCodeReadySpec)

/-- ITS FALSE NEIGHBOUR: 'it returns false'. Refute it at one input. -/
def fnExactCodeReadyWrong : ChangeSpec := { name := "fnExactCodeReady", fn := fun _ => fun
  | [d1, d2, d3] => { results := [.lit (.bool false)], args := [d1, d2, d3] }
  | _ => none }
def FnExactCodeReadyWrongFalsely : Prop := fnExactCodeReadyRow.holds Tryz.pinned (OpenSpec.ofChange fnExactCodeReadyWrong)

/-- 'laws.FnExactReadied': WHATEVER THE INPUT: true; the input reads as it did. -/
def fnExactReadiedSpec : ChangeSpec := { name := "fnExactReadied", fn := fun _ => fun
  | [d1, d2, d3] => { results := [.lit (.bool true)], args := [d1, d2, d3] }
  | _ => none }
def fnExactReadiedRow : OpenClaim := { program := "ytdkmbcmenomecaagreat", sum := "3dab47ade8318ec68231bc6ad7a8df7a8ebf6865cf46ce8cbddd16a6d3170897", func := "loop.example/g00695/laws.FnExactReadied", spec := "fnExactReadied", unfollowed := true, recurses := true, apart := false }
def FnExactReadiedSaid : Prop := fnExactReadiedRow.holds Tryz.pinned (OpenSpec.ofChange fnExactReadiedSpec)

/-- ITS FALSE NEIGHBOUR: 'it returns false'. Refute it at one input. -/
def fnExactReadiedWrong : ChangeSpec := { name := "fnExactReadied", fn := fun _ => fun
  | [d1, d2, d3] => { results := [.lit (.bool false)], args := [d1, d2, d3] }
  | _ => none }
def FnExactReadiedWrongFalsely : Prop := fnExactReadiedRow.holds Tryz.pinned (OpenSpec.ofChange fnExactReadiedWrong)

/- THE SECOND FORM. 'bulk': how many values and letters a reading holds, each counted each time it is reached (what is shared counts as often as it is met; a slice's spare places count too). A statement '..UptoSaid' is the law's where the arguments, and the package variables that the reading takes, are together of bulk at most 1048576: NARROWER than '..Said'. Prove '..Said' where nothing that the law and all that it calls make is longer than what came in: it says more and counts as full. Else prove '..UptoSaid'. A law counts once. -/
mutual
def uptoBulk {H : Type} : DataW H → Nat
  | .lit (.string bytes) => bytes.length + 1
  | .lit _ => 1
  | .nil => 1
  | .ptr d => uptoBulk d + 1
  | .slice elems spare => uptoBulkAll elems + uptoBulkAll spare + 1
  | .agg parts => uptoBulkAll parts + 1
  | .iface _ d => uptoBulk d + 1
  | .map entries => uptoBulkEntries entries + 1
  | .held _ => 1
def uptoBulkAll {H : Type} : List (DataW H) → Nat
  | [] => 0
  | d :: r => uptoBulk d + uptoBulkAll r
def uptoBulkEntries {H : Type} : List (Lit × DataW H) → Nat
  | [] => 0
  | x :: r => uptoBulkEntry x + uptoBulkEntries r
def uptoBulkEntry {H : Type} : Lit × DataW H → Nat
  | (.string bytes, d) => bytes.length + uptoBulk d + 1
  | (_, d) => uptoBulk d + 1
 end
def uptoSmall : (H : Type) → List (DataW H) → Bool := fun _ ds => decide (uptoBulkAll ds ≤ 1048576)
def OpenSpec.upto (s : _root_.Go.ChangeSpec) : _root_.Go.OpenSpec := { _root_.Go.OpenSpec.ofChange s with cond := some uptoSmall }

/-- 'laws.FnReady', WHERE WHAT IT READS IS OF BULK AT MOST 1048576: true; the input reads as it did. -/
def fnReadyUptoRow : OpenClaim := { program := "ytdkmbcmenomecaagreat", sum := "3dab47ade8318ec68231bc6ad7a8df7a8ebf6865cf46ce8cbddd16a6d3170897", func := "loop.example/g00695/laws.FnReady", spec := "fnReady", unfollowed := true, recurses := true, apart := false, narrowed := true }
def FnReadyUptoSaid : Prop := fnReadyUptoRow.holds Tryz.pinned (OpenSpec.upto fnReadySpec)

/-- 'laws.FnExactCodeReady', WHERE WHAT IT READS IS OF BULK AT MOST 1048576: true; the input reads as it did. -/
def fnExactCodeReadyUptoRow : OpenClaim := { program := "ytdkmbcmenomecaagreat", sum := "3dab47ade8318ec68231bc6ad7a8df7a8ebf6865cf46ce8cbddd16a6d3170897", func := "loop.example/g00695/laws.FnExactCodeReady", spec := "fnExactCodeReady", unfollowed := true, recurses := true, apart := false, narrowed := true }
def FnExactCodeReadyUptoSaid : Prop := fnExactCodeReadyUptoRow.holds Tryz.pinned (OpenSpec.upto fnExactCodeReadySpec)

/-- 'laws.FnExactReadied', WHERE WHAT IT READS IS OF BULK AT MOST 1048576: true; the input reads as it did. -/
def fnExactReadiedUptoRow : OpenClaim := { program := "ytdkmbcmenomecaagreat", sum := "3dab47ade8318ec68231bc6ad7a8df7a8ebf6865cf46ce8cbddd16a6d3170897", func := "loop.example/g00695/laws.FnExactReadied", spec := "fnExactReadied", unfollowed := true, recurses := true, apart := false, narrowed := true }
def FnExactReadiedUptoSaid : Prop := fnExactReadiedUptoRow.holds Tryz.pinned (OpenSpec.upto fnExactReadiedSpec)

end Rows
end Go.Proofs.YtdkmbcmenomecaaGreat
