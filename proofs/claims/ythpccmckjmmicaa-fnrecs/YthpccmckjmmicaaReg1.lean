/- The opens of a shelf: where the one of a client stands, and which it is (the program's and the model's): contracts of each of them. -/
import Derived.Test.YthpccmckjmmicaaRegBase
namespace Go.Proofs.Ythpccmckjmmicaa
open Go.RowKit

/-- What placeOf answers. -/
def Place (c : Int) (os : List Opn) (w : World) (e : Ending) (w' : World) : Prop :=
  Below w.heap.size w w' ∧ ((∃ i : Nat, firstAt c os i ∧ e = .returned (.tuple #[.int .i64 (i : Int), .int .i64 ((i : Int) + 1)])) ∨ (noneAt c os ∧ e = .returned (.tuple #[.int .i64 (behN c os : Int), .int .i64 (behN c os : Int)])))

end Go.Proofs.Ythpccmckjmmicaa
