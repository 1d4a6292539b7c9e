/- The parts of impl/l05_note.go: what a note has, values, seals that can be sent, what is answered: contracts of each of them. -/
import Derived.Test.YtdkmbcmenomecaaNoteShape
import Derived.Test.YtdkmbcmenomecaaSpecStamp
namespace Go.Proofs.Ytdkmbcmenomecaa
open Go.RowKit

end Go.Proofs.Ytdkmbcmenomecaa

/- The rest of impl/l05_note.go's parts: what was, seals that can be sent, stamps and values: contracts of each of them. -/
namespace Go.Proofs.Ytdkmbcmenomecaa
open Go.RowKit

end Go.Proofs.Ytdkmbcmenomecaa
