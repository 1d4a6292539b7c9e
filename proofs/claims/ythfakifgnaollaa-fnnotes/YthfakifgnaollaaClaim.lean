/- What the functions of impl/l03_claim.go answer at every claim: contracts of each of them. -/
import Derived.Test.YthfakifgnaollaaStamp
import Derived.Test.YthfakifgnaollaaGroupMore
import Derived.Test.YthfakifgnaollaaClaimBase
namespace Go.Proofs.Ythfakifgnaollaa
open Go.RowKit

end Go.Proofs.Ythfakifgnaollaa
