/- What the functions of impl/l01_group.go answer at every group whose keys can be read: contracts of each of them. -/
import Derived.Test.YtdkmbcmenomecaaChecked
import Derived.Test.YtdkmbcmenomecaaBase
import Derived.WalkKit
import Derived.OwnWalk
import Derived.Outline
import Derived.Deep.RegionHeld3
import Derived.Deep.DeepCutAuto
import Derived.Laws.EntriesVeiled
import Derived.IntWalk
namespace Go.Proofs.Ytdkmbcmenomecaa
open Go.RowKit

/-- What the five rules of a group say. -/
def ruleB (s l c sh : Int) (zs : List Int) : Nat → Bool
  | 0 => inB s 1 10
  | 1 => inB c 1 6
  | 2 => inB sh 1 4
  | 3 => inB l 0 ((s - 1) / 3)
  | _ => decide ((zs.length : Int) = s + c) && keysB zs

theorem okB_all {s l c sh : Int} {zs : List Int} (h : ∀ j, j < 5 → ruleB s l c sh zs j = true) : okB s l c sh zs = true := by
  have h0 := h 0 (by omega)
  have h1 := h 1 (by omega)
  have h2 := h 2 (by omega)
  have h3 := h 3 (by omega)
  have h4 := h 4 (by omega)
  simp only [ruleB] at h0 h1 h2 h3 h4
  simp only [okB, h0, h1, h2, h3, Bool.true_and]; exact h4
theorem okB_none {s l c sh : Int} {zs : List Int} {j : Nat} (h : j < 5) (hj : ruleB s l c sh zs j = false) : okB s l c sh zs = false := by
  have : j = 0 ∨ j = 1 ∨ j = 2 ∨ j = 3 ∨ j = 4 := by omega
  rcases this with rfl | rfl | rfl | rfl | rfl <;> simp only [ruleB] at hj <;> simp only [okB, Bool.and_assoc, hj, Bool.false_and, Bool.and_false]

theorem all_succ {P : Nat → Bool} {k : Nat} (h : ∀ j, j < k → P j = true) (hk : P k = true) : ∀ j, j < k + 1 → P j = true := fun j hj => by
  rcases Nat.lt_or_ge j k with h1 | h1
  · exact h j h1
  · have e : j = k := by omega
    rw [e]; exact hk

end Go.Proofs.Ytdkmbcmenomecaa
