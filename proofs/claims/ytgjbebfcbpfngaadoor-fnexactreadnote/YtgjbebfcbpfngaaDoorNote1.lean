/- The parts of impl/l05_note.go: what a note has, values, seals that can be sent, what is answered: contracts of each of them. -/
import Derived.Test.YtgjbebfcbpfngaaDoorNoteBase
import Derived.Test.YtgjbebfcbpfngaaDoorStamp
namespace Go.Proofs.YtgjbebfcbpfngaaDoor
open Go.RowKit

theorem isValue_any (x : Int) (w : World) :
    Calls Tryd.prog 71 #[.int .i64 x] w fun e w' => e = .returned (.bool (valB x)) ∧ w = w' := by
  go_enter Tryd.func71, Tryd.ntmps71
  go_wp2_with (go_at_call 38; refine (within_any _ _ _ _).mono ?_; rintro e w' ⟨rfl, rfl⟩)
  go_ret
  exact ⟨rfl, rfl⟩
theorem isValueB_is {x : Int} {b : Bool} (h : valB x = b) (w : World) : Calls Tryd.prog 71 #[.int .i64 x] w fun e w' => e = .returned (.bool b) ∧ w = w' := h ▸ isValue_any x w
theorem stampB_is {c k : Int} {b : Bool} (h : stB c k = b) (w : World) : Calls Tryd.prog 70 #[.agg #[.int .i64 c, .int .i64 k]] w fun e w' => e = .returned (.bool b) ∧ Below w.heap.size w w' := h ▸ stampOk_any c k w
theorem withinB_is {x lo hi : Int} {b : Bool} (h : inB x lo hi = b) (w : World) : Calls Tryd.prog 38 #[.int .i64 x, .int .i64 lo, .int .i64 hi] w fun e w' => e = .returned (.bool b) ∧ w = w' := h ▸ within_any x lo hi w

set_option maxHeartbeats 1000000 in
theorem hasValue_is (k1 k2 k3 k4 k5 t1 t2 v1 o1 o2 v2 : Int) (P : Option Addr) (p pc : Nat) (Q : Option Addr) (q qc : Nat) (l1 l2 v3 : Int) (w : World) :
    Calls Tryd.prog 72 #[.agg #[.int .i64 k1, .int .i64 k2, .int .i64 k3, .int .i64 k4, .int .i64 k5, .int .i64 t1, .int .i64 t2, .int .i64 v1, .int .i64 o1, .int .i64 o2, .int .i64 v2, .slice P p pc, .slice Q q qc, .int .i64 l1, .int .i64 l2, .int .i64 v3]] w fun e w' => e = .returned (.bool (hvB t1 t2 v1 p)) ∧ Below w.heap.size w w' := by
  have E0 := bel_alloc w (.cells #[.int .i64 k1, .int .i64 k2, .int .i64 k3, .int .i64 k4, .int .i64 k5, .int .i64 t1, .int .i64 t2, .int .i64 v1, .int .i64 o1, .int .i64 o2, .int .i64 v2, .slice P p pc, .slice Q q qc, .int .i64 l1, .int .i64 l2, .int .i64 v3] 31)
  rcases z2_cases t1 t2 with ⟨rfl, rfl, hz⟩ | ⟨hz, h | ⟨h, h'⟩⟩
  · rcases z1_cases v1 with ⟨rfl, hy⟩ | ⟨hy, h1, h2⟩
    · by_cases hp : p = 0
      · subst hp
        go_enter Tryd.func72, Tryd.ntmps72
        go_wp2
        go_ret
        exact ⟨rfl, E0⟩
      · have hp0 : 0 < p := by omega
        have HV : Hid (hvB 0 0 0 p = true) := by show hvB 0 0 0 p = true; simp [hvB, z0B, hp]
        go_enter Tryd.func72, Tryd.ntmps72
        go_wp2
        go_ret
        exact ⟨by rw [HV.out]; rfl, E0⟩
    · have HV : Hid (hvB 0 0 v1 p = true) := by show hvB 0 0 v1 p = true; simp [hvB, hy]
      go_enter Tryd.func72, Tryd.ntmps72
      go_wp2
      go_ret
      exact ⟨by rw [HV.out]; rfl, E0⟩
  all_goals
    have HV : Hid (hvB t1 t2 v1 p = true) := by show hvB t1 t2 v1 p = true; simp [hvB, hz]
    clear hz
    go_enter Tryd.func72, Tryd.ntmps72
    go_wp2
    go_ret
    exact ⟨by rw [HV.out]; rfl, E0⟩

end Go.Proofs.YtgjbebfcbpfngaaDoor
