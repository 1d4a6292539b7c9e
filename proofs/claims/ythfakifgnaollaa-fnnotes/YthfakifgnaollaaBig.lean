/- What the laws' own big answers: are there more than 4096 bytes; no conditions. -/
import Derived.Test.YthfakifgnaollaaWithin
namespace Go.Proofs.Ythfakifgnaollaa
open Go.RowKit

theorem big_any (A : Option Addr) (n cap : Nat) (w : World) (_hm : n ≤ maxLen) :
    Calls Try.prog 6 #[.slice A n cap] w fun e w' => e = .returned (.bool (decide (4096 < n))) ∧ w = w' := by
  unfold maxLen at _hm
  by_cases h : 4096 < n
  · have e : Hid (decide (4096 < n) = true) := by show decide (4096 < n) = true; simpa using h
    go_enter Try.func6, Try.ntmps6
    go_wp2
    go_ret
    exact ⟨by rw [e.out]; simp; omega, rfl⟩
  · have e : Hid (decide (4096 < n) = false) := by show decide (4096 < n) = false; simpa using h
    go_enter Try.func6, Try.ntmps6
    go_wp2
    go_ret
    exact ⟨by rw [e.out]; simp; omega, rfl⟩

end Go.Proofs.Ythfakifgnaollaa
