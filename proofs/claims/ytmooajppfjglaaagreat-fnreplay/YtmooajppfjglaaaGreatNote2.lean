/- The parts of impl/l05_note.go: what a note has, values, seals that can be sent, what is answered: contracts of each of them. -/
import Derived.Test.YtmooajppfjglaaaGreatNoteShape
import Derived.Test.YtmooajppfjglaaaGreatSpecStamp
namespace Go.Proofs.YtmooajppfjglaaaGreat
open Go.RowKit

theorem isValue_any (x : Int) (w : World) :
    Calls Tryz.prog 172 #[.int .i64 x] w fun e w' => e = .returned (.bool (valB x)) ∧ w = w' := by
  go_enter Tryz.func172, Tryz.ntmps172
  go_wp2_with (go_at_call 117; refine (within_any _ _ _ _).mono ?_; rintro e w' ⟨rfl, rfl⟩)
  go_ret
  exact ⟨rfl, rfl⟩
theorem isValueB_is {x : Int} {b : Bool} (h : valB x = b) (w : World) : Calls Tryz.prog 172 #[.int .i64 x] w fun e w' => e = .returned (.bool b) ∧ w = w' := h ▸ isValue_any x w
theorem stampB_is {c k : Int} {b : Bool} (h : stB c k = b) (w : World) : Calls Tryz.prog 66 #[.agg #[.int .i64 c, .int .i64 k]] w fun e w' => e = .returned (.bool b) ∧ Below w.heap.size w w' := h ▸ stampOk_any c k w
theorem withinB_is {x lo hi : Int} {b : Bool} (h : inB x lo hi = b) (w : World) : Calls Tryz.prog 117 #[.int .i64 x, .int .i64 lo, .int .i64 hi] w fun e w' => e = .returned (.bool b) ∧ w = w' := h ▸ within_any x lo hi w

end Go.Proofs.YtmooajppfjglaaaGreat

/- The rest of impl/l05_note.go's parts: what was, seals that can be sent, stamps and values: contracts of each of them. -/
namespace Go.Proofs.YtmooajppfjglaaaGreat
open Go.RowKit

end Go.Proofs.YtmooajppfjglaaaGreat
