/-
  No cell of these rows narrows 'for every input' (looked for: loops, veiled, ifaces, maps, wideKeys, modest, calm, conditions, laid).
  DERIVED. THE GIVEN ROWS OF THIS SEAT. 5 by the template 'for every input the law returns true; each argument reads behind the call as it read before'; 0 by the template 'total and deterministic' (their statements: YtecjoopmipfilaaTotals.lean).
  GIVEN WITH THE SEED: the statements are not yours to turn. If you find one false, say at which input.
  Laid BY PROGRAM, IN A SANDBOX (cutbox-rows.mjs): the forced cells as the released guide's own fill.sh prints them over the translation 62dd9aaf41df72c7… (all of the seat's roots in one cut). By AI agents, Wed Nov 11 2026. No macro, syntax, notation, axiom, sorry.
-/
import Derived.Test.YtecjoopmipfilaaChecked
import GoSem.Claim
import GoSem.ClaimJoined
import GoSem.ClaimMapViews
import Derived.JoinedTies
import Derived.KernelRfl
namespace Go.Proofs.Ytecjoopmipfilaa
/- THE CELL 'sum', in the pinned program and in every row, IS THE sha256 OF THE DUMP (.gsa) THAT YtecjoopmipfilaaProg.lean LOADS. Nothing in Lean hashes anything: it is a label: what it is worth is what the hold of that sum in a sandbox is worth. -/
noncomputable def Try.pinned : Pinned := { name := "ytecjoopmipfilaa", sum := "62dd9aaf41df72c795f47e2b843abe4f5f57bf5d17007c96724050aeb310938c", checked := Try.checked }
namespace Rows
def none {H : Type} : Left H := { results := [], args := [] }

/-- 'laws.FnQuorums': WHATEVER THE INPUT: true; the input reads as it did. -/
def fnQuorumsSpec : ChangeSpec := { name := "fnQuorums", fn := fun _ => fun
  | [d] => { results := [.lit (.bool true)], args := [d] }
  | _ => none }
def fnQuorumsRow : OpenClaim := { program := "ytecjoopmipfilaa", sum := "62dd9aaf41df72c795f47e2b843abe4f5f57bf5d17007c96724050aeb310938c", func := "loop.example/g00695/laws.FnQuorums", spec := "fnQuorums", unfollowed := true, recurses := true, apart := false }
def FnQuorumsSaid : Prop := fnQuorumsRow.holds Try.pinned (OpenSpec.ofChange fnQuorumsSpec)

/-- ITS FALSE NEIGHBOUR: 'it returns false'. Refute it at one input. -/
def fnQuorumsWrong : ChangeSpec := { name := "fnQuorums", fn := fun _ => fun
  | [d] => { results := [.lit (.bool false)], args := [d] }
  | _ => none }
def FnQuorumsWrongFalsely : Prop := fnQuorumsRow.holds Try.pinned (OpenSpec.ofChange fnQuorumsWrong)

/-- 'laws.FnExactGroupOk': WHATEVER THE INPUT: true; the input reads as it did. -/
def fnExactGroupOkSpec : ChangeSpec := { name := "fnExactGroupOk", fn := fun _ => fun
  | [d] => { results := [.lit (.bool true)], args := [d] }
  | _ => none }
def fnExactGroupOkRow : OpenClaim := { program := "ytecjoopmipfilaa", sum := "62dd9aaf41df72c795f47e2b843abe4f5f57bf5d17007c96724050aeb310938c", func := "loop.example/g00695/laws.FnExactGroupOk", spec := "fnExactGroupOk", unfollowed := true, recurses := true, apart := false }
def FnExactGroupOkSaid : Prop := fnExactGroupOkRow.holds Try.pinned (OpenSpec.ofChange fnExactGroupOkSpec)

/-- ITS FALSE NEIGHBOUR: 'it returns false'. Refute it at one input. -/
def fnExactGroupOkWrong : ChangeSpec := { name := "fnExactGroupOk", fn := fun _ => fun
  | [d] => { results := [.lit (.bool false)], args := [d] }
  | _ => none }
def FnExactGroupOkWrongFalsely : Prop := fnExactGroupOkRow.holds Try.pinned (OpenSpec.ofChange fnExactGroupOkWrong)

/-- 'laws.FnExactQuorumOf': WHATEVER THE INPUT: true; the input reads as it did. -/
def fnExactQuorumOfSpec : ChangeSpec := { name := "fnExactQuorumOf", fn := fun _ => fun
  | [d] => { results := [.lit (.bool true)], args := [d] }
  | _ => none }
def fnExactQuorumOfRow : OpenClaim := { program := "ytecjoopmipfilaa", sum := "62dd9aaf41df72c795f47e2b843abe4f5f57bf5d17007c96724050aeb310938c", func := "loop.example/g00695/laws.FnExactQuorumOf", spec := "fnExactQuorumOf", unfollowed := true, recurses := true, apart := false }
def FnExactQuorumOfSaid : Prop := fnExactQuorumOfRow.holds Try.pinned (OpenSpec.ofChange fnExactQuorumOfSpec)

/-- ITS FALSE NEIGHBOUR: 'it returns false'. Refute it at one input. -/
def fnExactQuorumOfWrong : ChangeSpec := { name := "fnExactQuorumOf", fn := fun _ => fun
  | [d] => { results := [.lit (.bool false)], args := [d] }
  | _ => none }
def FnExactQuorumOfWrongFalsely : Prop := fnExactQuorumOfRow.holds Try.pinned (OpenSpec.ofChange fnExactQuorumOfWrong)

/-- 'laws.FnExactIsServer': WHATEVER THE INPUT: true; the input reads as it did. -/
def fnExactIsServerSpec : ChangeSpec := { name := "fnExactIsServer", fn := fun _ => fun
  | [d1, d2] => { results := [.lit (.bool true)], args := [d1, d2] }
  | _ => none }
def fnExactIsServerRow : OpenClaim := { program := "ytecjoopmipfilaa", sum := "62dd9aaf41df72c795f47e2b843abe4f5f57bf5d17007c96724050aeb310938c", func := "loop.example/g00695/laws.FnExactIsServer", spec := "fnExactIsServer", unfollowed := true, recurses := true, apart := false }
def FnExactIsServerSaid : Prop := fnExactIsServerRow.holds Try.pinned (OpenSpec.ofChange fnExactIsServerSpec)

/-- ITS FALSE NEIGHBOUR: 'it returns false'. Refute it at one input. -/
def fnExactIsServerWrong : ChangeSpec := { name := "fnExactIsServer", fn := fun _ => fun
  | [d1, d2] => { results := [.lit (.bool false)], args := [d1, d2] }
  | _ => none }
def FnExactIsServerWrongFalsely : Prop := fnExactIsServerRow.holds Try.pinned (OpenSpec.ofChange fnExactIsServerWrong)

/-- 'laws.FnExactIsClient': WHATEVER THE INPUT: true; the input reads as it did. -/
def fnExactIsClientSpec : ChangeSpec := { name := "fnExactIsClient", fn := fun _ => fun
  | [d1, d2] => { results := [.lit (.bool true)], args := [d1, d2] }
  | _ => none }
def fnExactIsClientRow : OpenClaim := { program := "ytecjoopmipfilaa", sum := "62dd9aaf41df72c795f47e2b843abe4f5f57bf5d17007c96724050aeb310938c", func := "loop.example/g00695/laws.FnExactIsClient", spec := "fnExactIsClient", unfollowed := true, recurses := true, apart := false }
def FnExactIsClientSaid : Prop := fnExactIsClientRow.holds Try.pinned (OpenSpec.ofChange fnExactIsClientSpec)

/-- ITS FALSE NEIGHBOUR: 'it returns false'. Refute it at one input. -/
def fnExactIsClientWrong : ChangeSpec := { name := "fnExactIsClient", fn := fun _ => fun
  | [d1, d2] => { results := [.lit (.bool false)], args := [d1, d2] }
  | _ => none }
def FnExactIsClientWrongFalsely : Prop := fnExactIsClientRow.holds Try.pinned (OpenSpec.ofChange fnExactIsClientWrong)

/- THE SECOND FORM. 'bulk': how many values and letters a reading holds, each counted each time it is reached (what is shared counts as often as it is met; a slice's spare places count too). A statement '..UptoSaid' is the law's where the arguments, and the package variables that the reading takes, are together of bulk at most 1048576: NARROWER than '..Said'. Prove '..Said' where nothing that the law and all that it calls make is longer than what came in: it says more and counts as full. Else prove '..UptoSaid'. A law counts once. -/
mutual
def uptoBulk {H : Type} : DataW H → Nat
  | .lit (.string bytes) => bytes.length + 1
  | .lit _ => 1
  | .nil => 1
  | .ptr d => uptoBulk d + 1
  | .slice elems spare => uptoBulkAll elems + uptoBulkAll spare + 1
  | .agg parts => uptoBulkAll parts + 1
  | .iface _ d => uptoBulk d + 1
  | .map entries => uptoBulkEntries entries + 1
  | .held _ => 1
def uptoBulkAll {H : Type} : List (DataW H) → Nat
  | [] => 0
  | d :: r => uptoBulk d + uptoBulkAll r
def uptoBulkEntries {H : Type} : List (Lit × DataW H) → Nat
  | [] => 0
  | x :: r => uptoBulkEntry x + uptoBulkEntries r
def uptoBulkEntry {H : Type} : Lit × DataW H → Nat
  | (.string bytes, d) => bytes.length + uptoBulk d + 1
  | (_, d) => uptoBulk d + 1
 end
def uptoSmall : (H : Type) → List (DataW H) → Bool := fun _ ds => decide (uptoBulkAll ds ≤ 1048576)
def OpenSpec.upto (s : _root_.Go.ChangeSpec) : _root_.Go.OpenSpec := { _root_.Go.OpenSpec.ofChange s with cond := some uptoSmall }

/-- 'laws.FnQuorums', WHERE WHAT IT READS IS OF BULK AT MOST 1048576: true; the input reads as it did. -/
def fnQuorumsUptoRow : OpenClaim := { program := "ytecjoopmipfilaa", sum := "62dd9aaf41df72c795f47e2b843abe4f5f57bf5d17007c96724050aeb310938c", func := "loop.example/g00695/laws.FnQuorums", spec := "fnQuorums", unfollowed := true, recurses := true, apart := false, narrowed := true }
def FnQuorumsUptoSaid : Prop := fnQuorumsUptoRow.holds Try.pinned (OpenSpec.upto fnQuorumsSpec)

/-- 'laws.FnExactGroupOk', WHERE WHAT IT READS IS OF BULK AT MOST 1048576: true; the input reads as it did. -/
def fnExactGroupOkUptoRow : OpenClaim := { program := "ytecjoopmipfilaa", sum := "62dd9aaf41df72c795f47e2b843abe4f5f57bf5d17007c96724050aeb310938c", func := "loop.example/g00695/laws.FnExactGroupOk", spec := "fnExactGroupOk", unfollowed := true, recurses := true, apart := false, narrowed := true }
def FnExactGroupOkUptoSaid : Prop := fnExactGroupOkUptoRow.holds Try.pinned (OpenSpec.upto fnExactGroupOkSpec)

/-- 'laws.FnExactQuorumOf', WHERE WHAT IT READS IS OF BULK AT MOST 1048576: true; the input reads as it did. -/
def fnExactQuorumOfUptoRow : OpenClaim := { program := "ytecjoopmipfilaa", sum := "62dd9aaf41df72c795f47e2b843abe4f5f57bf5d17007c96724050aeb310938c", func := "loop.example/g00695/laws.FnExactQuorumOf", spec := "fnExactQuorumOf", unfollowed := true, recurses := true, apart := false, narrowed := true }
def FnExactQuorumOfUptoSaid : Prop := fnExactQuorumOfUptoRow.holds Try.pinned (OpenSpec.upto fnExactQuorumOfSpec)

/-- 'laws.FnExactIsServer', WHERE WHAT IT READS IS OF BULK AT MOST 1048576: true; the input reads as it did. -/
def fnExactIsServerUptoRow : OpenClaim := { program := "ytecjoopmipfilaa", sum := "62dd9aaf41df72c795f47e2b843abe4f5f57bf5d17007c96724050aeb310938c", func := "loop.example/g00695/laws.FnExactIsServer", spec := "fnExactIsServer", unfollowed := true, recurses := true, apart := false, narrowed := true }
def FnExactIsServerUptoSaid : Prop := fnExactIsServerUptoRow.holds Try.pinned (OpenSpec.upto fnExactIsServerSpec)

/-- 'laws.FnExactIsClient', WHERE WHAT IT READS IS OF BULK AT MOST 1048576: true; the input reads as it did. -/
def fnExactIsClientUptoRow : OpenClaim := { program := "ytecjoopmipfilaa", sum := "62dd9aaf41df72c795f47e2b843abe4f5f57bf5d17007c96724050aeb310938c", func := "loop.example/g00695/laws.FnExactIsClient", spec := "fnExactIsClient", unfollowed := true, recurses := true, apart := false, narrowed := true }
def FnExactIsClientUptoSaid : Prop := fnExactIsClientUptoRow.holds Try.pinned (OpenSpec.upto fnExactIsClientSpec)

end Rows
end Go.Proofs.Ytecjoopmipfilaa
