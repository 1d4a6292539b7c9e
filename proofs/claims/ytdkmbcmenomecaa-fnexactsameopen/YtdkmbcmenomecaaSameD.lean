/- SameOpen and its model over shelves and notes of one's own: contracts of both; conditions: the sizes. -/
import Derived.Test.YtdkmbcmenomecaaKinds8
import Derived.Test.YtdkmbcmenomecaaSame8b
namespace Go.Proofs.Ytdkmbcmenomecaa
open Go.RowKit

def sameD (r : RegD) (d : NoteD) : Bool := sameB r.os d.k2 d.t1 d.t2 d.v1
theorem same8_is {r : RegD} {d : NoteD} {w : World} {F1 F2 : Nat → Prop} {C1 C2 : Array Value} {z : Bool} (h1 : LieR r w F1 (.agg C1)) (h2 : LieN d w F2 (.agg C2)) (z1 : r.sz ≤ 1048576) (_z2 : d.sz ≤ 1048576) (hz : sameD r d = z) :
    Calls Try.prog 9 #[.agg C1, .agg C2] w fun e w' => e = .returned (.bool z) ∧ Below w.heap.size w w' := by
  obtain ⟨X, x, xc, Y, y, yc, e1, s1, s2, l1, l2⟩ := h1.slc
  obtain ⟨A', n', c', A2, n2, c2, e1', m1, m1', hp1, hq1⟩ := h1.at
  obtain ⟨P, p, pc, Q, q, qc, e2, m1, m2, hp, hq⟩ := h2.at
  rw [e1] at e1'
  injection e1' with e1'
  simp only [Array.mk.injEq, List.cons.injEq, Value.slice.injEq, and_true, true_and] at e1'
  obtain ⟨-, rfl, rfl, rfl⟩ := e1'
  injection e1 with e1
  injection e2 with e2
  subst e1
  unfold RegD.sz at z1
  exact sameOpen_is e2 (by omega) hq1.1 hz
theorem specSame8_is {r : RegD} {d : NoteD} {w : World} {F1 F2 : Nat → Prop} {C1 C2 : Array Value} {z : Bool} (h1 : LieR r w F1 (.agg C1)) (h2 : LieN d w F2 (.agg C2)) (z1 : r.sz ≤ 1048576) (_z2 : d.sz ≤ 1048576) (hz : sameD r d = z) :
    Calls Try.prog 6 #[.agg C1, .agg C2] w fun e w' => e = .returned (.bool z) ∧ Below w.heap.size w w' := by
  obtain ⟨X, x, xc, Y, y, yc, e1, s1, s2, l1, l2⟩ := h1.slc
  obtain ⟨A', n', c', A2, n2, c2, e1', m1, m1', hp1, hq1⟩ := h1.at
  obtain ⟨P, p, pc, Q, q, qc, e2, m1, m2, hp, hq⟩ := h2.at
  rw [e1] at e1'
  injection e1' with e1'
  simp only [Array.mk.injEq, List.cons.injEq, Value.slice.injEq, and_true, true_and] at e1'
  obtain ⟨-, rfl, rfl, rfl⟩ := e1'
  injection e1 with e1
  injection e2 with e2
  subst e1
  unfold RegD.sz at z1
  exact specSame_is e2 (by omega) hq1.1 hz

end Go.Proofs.Ytdkmbcmenomecaa
