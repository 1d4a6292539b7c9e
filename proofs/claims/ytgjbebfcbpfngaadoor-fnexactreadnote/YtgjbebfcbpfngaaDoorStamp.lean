/- What the functions of impl/l02_stamp.go answer at every stamp: contracts of each of them. -/
import Derived.Test.YtgjbebfcbpfngaaDoorWithin
import Derived.Test.YtgjbebfcbpfngaaDoorStampBase
namespace Go.Proofs.YtgjbebfcbpfngaaDoor
open Go.RowKit

theorem twoAfter {w : World} {g : Nat} {t : TypeId} {v0 v1 : Value} (h : Box w g t #[v0, v1]) : (∀ p : After w, p.x.cell? ⟨g, 0, none⟩ = some v0) ∧ (∀ p : After w, p.x.cell? ⟨g, 1, none⟩ = some v1) :=
  ⟨After.cell h.lt (h.cell 0), After.cell h.lt (h.cell 1)⟩
theorem pairsAfter {w : World} {A : Option Addr} {n : Nat} {ps : List (Int × Int)} (h : Pairs w w.heap.size A n ps) (p : After w) : Pairs p.x p.x.heap.size A n ps := h.later p.bel

theorem stampOk_any (c k : Int) (w : World) :
    Calls Tryd.prog 70 #[.agg #[.int .i64 c, .int .i64 k]] w fun e w' => e = .returned (.bool (stB c k)) ∧ Below w.heap.size w w' := by
  by_cases hc : c = 0
  · subst hc
    by_cases hk : k = 0
    · subst hk
      go_enter Tryd.func70, Tryd.ntmps70
      go_wp2
      go_ret
      exact ⟨rfl, bel_alloc _ _⟩
    · have e : Hid (stB 0 k = false) := by show stB 0 k = false; simp [stB, hk]
      have hk' : (k == 0) = false := by simpa using hk
      go_enter Tryd.func70, Tryd.ntmps70
      go_wp2
      go_ret
      exact ⟨by rw [e.out]; first | rfl | simp [hk], bel_alloc _ _⟩
  · have hc' : (c == 0) = false := by simpa using hc
    have e := Lib.hid (stB_not hc k)
    rcases h1 : inB c 1 100000 with _ | _
    · go_enter Tryd.func70, Tryd.ntmps70
      go_wp2_with (go_at_call 38; refine (within_any _ _ _ _).mono ?_; rintro e w' ⟨rfl, rfl⟩)
      go_ret
      exact ⟨by rw [e.out, h1]; rfl, bel_alloc _ _⟩
    · go_enter Tryd.func70, Tryd.ntmps70
      go_wp2_with (go_at_call 38; refine (within_any _ _ _ _).mono ?_; rintro e w' ⟨rfl, rfl⟩)
      go_ret
      exact ⟨by rw [e.out, h1]; rfl, bel_alloc _ _⟩

end Go.Proofs.YtgjbebfcbpfngaaDoor
