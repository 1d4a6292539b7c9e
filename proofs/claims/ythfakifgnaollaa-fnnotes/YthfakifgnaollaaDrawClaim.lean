/- What the model's draws of claims leave: a claim, and the cursor further on; the cursor is a right one. -/
import Derived.Test.YthfakifgnaollaaDrawStamp
import Derived.Test.YthfakifgnaollaaFresh
namespace Go.Proofs.Ythfakifgnaollaa
open Go.RowKit

/-- What the draw of a claim leaves. -/
def DrawnClaim (t : TypeId) (kd : IntKind) (g : Nat) (A : Option Addr) (n cap : Nat) (w : World) (e : Ending) (w' : World) : Prop :=
  ∃ ck ch ct cq cv : Int, e = .returned (.agg #[.int .i64 ck, .int .i64 ch, .int .i64 ct, .int .i64 cq, .int .i64 cv]) ∧ Cur w' t kd g A n cap ∧ w.grownBy w' (some g)

end Go.Proofs.Ythfakifgnaollaa
