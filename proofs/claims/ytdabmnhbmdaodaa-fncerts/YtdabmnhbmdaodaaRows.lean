/-
  No cell of these rows narrows 'for every input' (looked for: loops, veiled, ifaces, maps, wideKeys, modest, calm, conditions, laid).
  DERIVED. THE GIVEN ROWS OF THIS SEAT. 7 by the template 'for every input the law returns true; each argument reads behind the call as it read before'; 0 by the template 'total and deterministic' (their statements: YtdabmnhbmdaodaaTotals.lean).
  GIVEN WITH THE SEED: the statements are not yours to turn. If you find one false, say at which input.
  Laid BY PROGRAM, IN A SANDBOX (cutbox-rows.mjs): the forced cells as the released guide's own fill.sh prints them over the translation 99d646c2a4eabb70… (all of the seat's roots in one cut). By AI agents, Wed Nov 11 2026. No macro, syntax, notation, axiom, sorry.
-/
import Derived.Test.YtdabmnhbmdaodaaChecked
import GoSem.Claim
import GoSem.ClaimJoined
import GoSem.ClaimMapViews
import Derived.JoinedTies
import Derived.KernelRfl
namespace Go.Proofs.Ytdabmnhbmdaodaa
/- THE CELL 'sum', in the pinned program and in every row, IS THE sha256 OF THE DUMP (.gsa) THAT YtdabmnhbmdaodaaProg.lean LOADS. Nothing in Lean hashes anything: it is a label: what it is worth is what the hold of that sum in a sandbox is worth. -/
noncomputable def Try.pinned : Pinned := { name := "ytdabmnhbmdaodaa", sum := "99d646c2a4eabb70d2d15d72220ab5a4ebea4b7254a84c129e7f661d83aeaaa0", checked := Try.checked }
namespace Rows
def none {H : Type} : Left H := { results := [], args := [] }

/-- 'laws.FnJoined': WHATEVER THE INPUT: true; the input reads as it did. -/
def fnJoinedSpec : ChangeSpec := { name := "fnJoined", fn := fun _ => fun
  | [d] => { results := [.lit (.bool true)], args := [d] }
  | _ => none }
def fnJoinedRow : OpenClaim := { program := "ytdabmnhbmdaodaa", sum := "99d646c2a4eabb70d2d15d72220ab5a4ebea4b7254a84c129e7f661d83aeaaa0", func := "loop.example/g00695/laws.FnJoined", spec := "fnJoined", unfollowed := true, recurses := true, apart := false }
def FnJoinedSaid : Prop := fnJoinedRow.holds Try.pinned (OpenSpec.ofChange fnJoinedSpec)

/-- ITS FALSE NEIGHBOUR: 'it returns false'. Refute it at one input. -/
def fnJoinedWrong : ChangeSpec := { name := "fnJoined", fn := fun _ => fun
  | [d] => { results := [.lit (.bool false)], args := [d] }
  | _ => none }
def FnJoinedWrongFalsely : Prop := fnJoinedRow.holds Try.pinned (OpenSpec.ofChange fnJoinedWrong)

/-- 'laws.FnCerts': WHATEVER THE INPUT: true; the input reads as it did. -/
def fnCertsSpec : ChangeSpec := { name := "fnCerts", fn := fun _ => fun
  | [d] => { results := [.lit (.bool true)], args := [d] }
  | _ => none }
def fnCertsRow : OpenClaim := { program := "ytdabmnhbmdaodaa", sum := "99d646c2a4eabb70d2d15d72220ab5a4ebea4b7254a84c129e7f661d83aeaaa0", func := "loop.example/g00695/laws.FnCerts", spec := "fnCerts", unfollowed := true, recurses := true, apart := false }
def FnCertsSaid : Prop := fnCertsRow.holds Try.pinned (OpenSpec.ofChange fnCertsSpec)

/-- ITS FALSE NEIGHBOUR: 'it returns false'. Refute it at one input. -/
def fnCertsWrong : ChangeSpec := { name := "fnCerts", fn := fun _ => fun
  | [d] => { results := [.lit (.bool false)], args := [d] }
  | _ => none }
def FnCertsWrongFalsely : Prop := fnCertsRow.holds Try.pinned (OpenSpec.ofChange fnCertsWrong)

/-- 'laws.FnExactJoinSeals': WHATEVER THE INPUT: true; the input reads as it did. -/
def fnExactJoinSealsSpec : ChangeSpec := { name := "fnExactJoinSeals", fn := fun _ => fun
  | [d1, d2] => { results := [.lit (.bool true)], args := [d1, d2] }
  | _ => none }
def fnExactJoinSealsRow : OpenClaim := { program := "ytdabmnhbmdaodaa", sum := "99d646c2a4eabb70d2d15d72220ab5a4ebea4b7254a84c129e7f661d83aeaaa0", func := "loop.example/g00695/laws.FnExactJoinSeals", spec := "fnExactJoinSeals", unfollowed := true, recurses := true, apart := false }
def FnExactJoinSealsSaid : Prop := fnExactJoinSealsRow.holds Try.pinned (OpenSpec.ofChange fnExactJoinSealsSpec)

/-- ITS FALSE NEIGHBOUR: 'it returns false'. Refute it at one input. -/
def fnExactJoinSealsWrong : ChangeSpec := { name := "fnExactJoinSeals", fn := fun _ => fun
  | [d1, d2] => { results := [.lit (.bool false)], args := [d1, d2] }
  | _ => none }
def FnExactJoinSealsWrongFalsely : Prop := fnExactJoinSealsRow.holds Try.pinned (OpenSpec.ofChange fnExactJoinSealsWrong)

/-- 'laws.FnExactGoodSeals': WHATEVER THE INPUT: true; the input reads as it did. -/
def fnExactGoodSealsSpec : ChangeSpec := { name := "fnExactGoodSeals", fn := fun _ => fun
  | [d1, d2, d3] => { results := [.lit (.bool true)], args := [d1, d2, d3] }
  | _ => none }
def fnExactGoodSealsRow : OpenClaim := { program := "ytdabmnhbmdaodaa", sum := "99d646c2a4eabb70d2d15d72220ab5a4ebea4b7254a84c129e7f661d83aeaaa0", func := "loop.example/g00695/laws.FnExactGoodSeals", spec := "fnExactGoodSeals", unfollowed := true, recurses := true, apart := false }
def FnExactGoodSealsSaid : Prop := fnExactGoodSealsRow.holds Try.pinned (OpenSpec.ofChange fnExactGoodSealsSpec)

/-- ITS FALSE NEIGHBOUR: 'it returns false'. Refute it at one input. -/
def fnExactGoodSealsWrong : ChangeSpec := { name := "fnExactGoodSeals", fn := fun _ => fun
  | [d1, d2, d3] => { results := [.lit (.bool false)], args := [d1, d2, d3] }
  | _ => none }
def FnExactGoodSealsWrongFalsely : Prop := fnExactGoodSealsRow.holds Try.pinned (OpenSpec.ofChange fnExactGoodSealsWrong)

/-- 'laws.FnExactCertCount': WHATEVER THE INPUT: true; the input reads as it did. -/
def fnExactCertCountSpec : ChangeSpec := { name := "fnExactCertCount", fn := fun _ => fun
  | [d1, d2, d3] => { results := [.lit (.bool true)], args := [d1, d2, d3] }
  | _ => none }
def fnExactCertCountRow : OpenClaim := { program := "ytdabmnhbmdaodaa", sum := "99d646c2a4eabb70d2d15d72220ab5a4ebea4b7254a84c129e7f661d83aeaaa0", func := "loop.example/g00695/laws.FnExactCertCount", spec := "fnExactCertCount", unfollowed := true, recurses := true, apart := false }
def FnExactCertCountSaid : Prop := fnExactCertCountRow.holds Try.pinned (OpenSpec.ofChange fnExactCertCountSpec)

/-- ITS FALSE NEIGHBOUR: 'it returns false'. Refute it at one input. -/
def fnExactCertCountWrong : ChangeSpec := { name := "fnExactCertCount", fn := fun _ => fun
  | [d1, d2, d3] => { results := [.lit (.bool false)], args := [d1, d2, d3] }
  | _ => none }
def FnExactCertCountWrongFalsely : Prop := fnExactCertCountRow.holds Try.pinned (OpenSpec.ofChange fnExactCertCountWrong)

/-- 'laws.FnExactCertOk': WHATEVER THE INPUT: true; the input reads as it did. -/
def fnExactCertOkSpec : ChangeSpec := { name := "fnExactCertOk", fn := fun _ => fun
  | [d1, d2, d3] => { results := [.lit (.bool true)], args := [d1, d2, d3] }
  | _ => none }
def fnExactCertOkRow : OpenClaim := { program := "ytdabmnhbmdaodaa", sum := "99d646c2a4eabb70d2d15d72220ab5a4ebea4b7254a84c129e7f661d83aeaaa0", func := "loop.example/g00695/laws.FnExactCertOk", spec := "fnExactCertOk", unfollowed := true, recurses := true, apart := false }
def FnExactCertOkSaid : Prop := fnExactCertOkRow.holds Try.pinned (OpenSpec.ofChange fnExactCertOkSpec)

/-- ITS FALSE NEIGHBOUR: 'it returns false'. Refute it at one input. -/
def fnExactCertOkWrong : ChangeSpec := { name := "fnExactCertOk", fn := fun _ => fun
  | [d1, d2, d3] => { results := [.lit (.bool false)], args := [d1, d2, d3] }
  | _ => none }
def FnExactCertOkWrongFalsely : Prop := fnExactCertOkRow.holds Try.pinned (OpenSpec.ofChange fnExactCertOkWrong)

/-- 'laws.FnExactProvenOk': WHATEVER THE INPUT: true; the input reads as it did. -/
def fnExactProvenOkSpec : ChangeSpec := { name := "fnExactProvenOk", fn := fun _ => fun
  | [d1, d2, d3, d4, d5] => { results := [.lit (.bool true)], args := [d1, d2, d3, d4, d5] }
  | _ => none }
def fnExactProvenOkRow : OpenClaim := { program := "ytdabmnhbmdaodaa", sum := "99d646c2a4eabb70d2d15d72220ab5a4ebea4b7254a84c129e7f661d83aeaaa0", func := "loop.example/g00695/laws.FnExactProvenOk", spec := "fnExactProvenOk", unfollowed := true, recurses := true, apart := false }
def FnExactProvenOkSaid : Prop := fnExactProvenOkRow.holds Try.pinned (OpenSpec.ofChange fnExactProvenOkSpec)

/-- ITS FALSE NEIGHBOUR: 'it returns false'. Refute it at one input. -/
def fnExactProvenOkWrong : ChangeSpec := { name := "fnExactProvenOk", fn := fun _ => fun
  | [d1, d2, d3, d4, d5] => { results := [.lit (.bool false)], args := [d1, d2, d3, d4, d5] }
  | _ => none }
def FnExactProvenOkWrongFalsely : Prop := fnExactProvenOkRow.holds Try.pinned (OpenSpec.ofChange fnExactProvenOkWrong)

/- THE SECOND FORM. 'bulk': how many values and letters a reading holds, each counted each time it is reached (what is shared counts as often as it is met; a slice's spare places count too). A statement '..UptoSaid' is the law's where the arguments, and the package variables that the reading takes, are together of bulk at most 1048576: NARROWER than '..Said'. Prove '..Said' where nothing that the law and all that it calls make is longer than what came in: it says more and counts as full. Else prove '..UptoSaid'. A law counts once. -/
mutual
def uptoBulk {H : Type} : DataW H → Nat
  | .lit (.string bytes) => bytes.length + 1
  | .lit _ => 1
  | .nil => 1
  | .ptr d => uptoBulk d + 1
  | .slice elems spare => uptoBulkAll elems + uptoBulkAll spare + 1
  | .agg parts => uptoBulkAll parts + 1
  | .iface _ d => uptoBulk d + 1
  | .map entries => uptoBulkEntries entries + 1
  | .held _ => 1
def uptoBulkAll {H : Type} : List (DataW H) → Nat
  | [] => 0
  | d :: r => uptoBulk d + uptoBulkAll r
def uptoBulkEntries {H : Type} : List (Lit × DataW H) → Nat
  | [] => 0
  | x :: r => uptoBulkEntry x + uptoBulkEntries r
def uptoBulkEntry {H : Type} : Lit × DataW H → Nat
  | (.string bytes, d) => bytes.length + uptoBulk d + 1
  | (_, d) => uptoBulk d + 1
 end
def uptoSmall : (H : Type) → List (DataW H) → Bool := fun _ ds => decide (uptoBulkAll ds ≤ 1048576)
def OpenSpec.upto (s : _root_.Go.ChangeSpec) : _root_.Go.OpenSpec := { _root_.Go.OpenSpec.ofChange s with cond := some uptoSmall }

/-- 'laws.FnJoined', WHERE WHAT IT READS IS OF BULK AT MOST 1048576: true; the input reads as it did. -/
def fnJoinedUptoRow : OpenClaim := { program := "ytdabmnhbmdaodaa", sum := "99d646c2a4eabb70d2d15d72220ab5a4ebea4b7254a84c129e7f661d83aeaaa0", func := "loop.example/g00695/laws.FnJoined", spec := "fnJoined", unfollowed := true, recurses := true, apart := false, narrowed := true }
def FnJoinedUptoSaid : Prop := fnJoinedUptoRow.holds Try.pinned (OpenSpec.upto fnJoinedSpec)

/-- 'laws.FnCerts', WHERE WHAT IT READS IS OF BULK AT MOST 1048576: true; the input reads as it did. -/
def fnCertsUptoRow : OpenClaim := { program := "ytdabmnhbmdaodaa", sum := "99d646c2a4eabb70d2d15d72220ab5a4ebea4b7254a84c129e7f661d83aeaaa0", func := "loop.example/g00695/laws.FnCerts", spec := "fnCerts", unfollowed := true, recurses := true, apart := false, narrowed := true }
def FnCertsUptoSaid : Prop := fnCertsUptoRow.holds Try.pinned (OpenSpec.upto fnCertsSpec)

/-- 'laws.FnExactJoinSeals', WHERE WHAT IT READS IS OF BULK AT MOST 1048576: true; the input reads as it did. -/
def fnExactJoinSealsUptoRow : OpenClaim := { program := "ytdabmnhbmdaodaa", sum := "99d646c2a4eabb70d2d15d72220ab5a4ebea4b7254a84c129e7f661d83aeaaa0", func := "loop.example/g00695/laws.FnExactJoinSeals", spec := "fnExactJoinSeals", unfollowed := true, recurses := true, apart := false, narrowed := true }
def FnExactJoinSealsUptoSaid : Prop := fnExactJoinSealsUptoRow.holds Try.pinned (OpenSpec.upto fnExactJoinSealsSpec)

/-- 'laws.FnExactGoodSeals', WHERE WHAT IT READS IS OF BULK AT MOST 1048576: true; the input reads as it did. -/
def fnExactGoodSealsUptoRow : OpenClaim := { program := "ytdabmnhbmdaodaa", sum := "99d646c2a4eabb70d2d15d72220ab5a4ebea4b7254a84c129e7f661d83aeaaa0", func := "loop.example/g00695/laws.FnExactGoodSeals", spec := "fnExactGoodSeals", unfollowed := true, recurses := true, apart := false, narrowed := true }
def FnExactGoodSealsUptoSaid : Prop := fnExactGoodSealsUptoRow.holds Try.pinned (OpenSpec.upto fnExactGoodSealsSpec)

/-- 'laws.FnExactCertCount', WHERE WHAT IT READS IS OF BULK AT MOST 1048576: true; the input reads as it did. -/
def fnExactCertCountUptoRow : OpenClaim := { program := "ytdabmnhbmdaodaa", sum := "99d646c2a4eabb70d2d15d72220ab5a4ebea4b7254a84c129e7f661d83aeaaa0", func := "loop.example/g00695/laws.FnExactCertCount", spec := "fnExactCertCount", unfollowed := true, recurses := true, apart := false, narrowed := true }
def FnExactCertCountUptoSaid : Prop := fnExactCertCountUptoRow.holds Try.pinned (OpenSpec.upto fnExactCertCountSpec)

/-- 'laws.FnExactCertOk', WHERE WHAT IT READS IS OF BULK AT MOST 1048576: true; the input reads as it did. -/
def fnExactCertOkUptoRow : OpenClaim := { program := "ytdabmnhbmdaodaa", sum := "99d646c2a4eabb70d2d15d72220ab5a4ebea4b7254a84c129e7f661d83aeaaa0", func := "loop.example/g00695/laws.FnExactCertOk", spec := "fnExactCertOk", unfollowed := true, recurses := true, apart := false, narrowed := true }
def FnExactCertOkUptoSaid : Prop := fnExactCertOkUptoRow.holds Try.pinned (OpenSpec.upto fnExactCertOkSpec)

/-- 'laws.FnExactProvenOk', WHERE WHAT IT READS IS OF BULK AT MOST 1048576: true; the input reads as it did. -/
def fnExactProvenOkUptoRow : OpenClaim := { program := "ytdabmnhbmdaodaa", sum := "99d646c2a4eabb70d2d15d72220ab5a4ebea4b7254a84c129e7f661d83aeaaa0", func := "loop.example/g00695/laws.FnExactProvenOk", spec := "fnExactProvenOk", unfollowed := true, recurses := true, apart := false, narrowed := true }
def FnExactProvenOkUptoSaid : Prop := fnExactProvenOkUptoRow.holds Try.pinned (OpenSpec.upto fnExactProvenOkSpec)

end Rows
end Go.Proofs.Ytdabmnhbmdaodaa
