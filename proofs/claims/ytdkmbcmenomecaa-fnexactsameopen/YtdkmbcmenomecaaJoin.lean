/- The library's Grow and Concat over slices of pairs: two of them, one behind the other, in memory of their own. -/
import Derived.Test.YtdkmbcmenomecaaSortSym
import Derived.Test.YtdkmbcmenomecaaDrawSpec
import Derived.Lib.AppendZerosOnto
import Derived.Laws.AppendOwnNone
import Derived.Test.YtdkmbcmenomecaaSortStable
import Derived.Test.YtdkmbcmenomecaaSpecStamp
namespace Go.Proofs.Ytdkmbcmenomecaa
open Go.RowKit

/-- A slice of pairs: nil, or somewhere. -/
def Slc (w : World) (v : Value) (ps : List (Int × Int)) : Prop :=
  (v = .slice none 0 0 ∧ ps = []) ∨ ∃ b o n cap, v = .slice (some ⟨b, o, none⟩) n cap ∧ Pairs w w.heap.size (some ⟨b, o, none⟩) n ps
theorem Slc.later {w w' : World} {v : Value} {ps : List (Int × Int)} (h : Slc w v ps) (hb : Below w.heap.size w w') : Slc w' v ps := by
  rcases h with h | ⟨b, o, n, cap, rfl, hp⟩
  · exact .inl h
  · exact .inr ⟨b, o, n, cap, rfl, hp.later hb⟩

end Go.Proofs.Ytdkmbcmenomecaa

/- JoinSeals: what it answers is what its model puts together, in memory of its own; up to some four million seals. -/
namespace Go.Proofs.Ytdkmbcmenomecaa
open Go.RowKit

theorem own_held {w : World} {base : Nat} {e : TypeId} {q cap : Nat} {ps : List (Int × Int)} (h : w.ownsRow base e 2 (.slice (some ⟨q, 0, none⟩) ps.length cap) ps.length (flatP ps)) : Held w q ps := by
  refine ⟨(h.lt q rfl).2, fun o => ?_, fun i hi => ?_, fun i hi => ?_⟩
  · rcases h.2 with ⟨h', _⟩ | ⟨g', cap', cur, h', _, hg, _⟩
    · simp at h'
    · simp only [Value.slice.injEq, Option.some.injEq, Addr.mk.injEq, and_true, true_and] at h'
      obtain ⟨rfl, rfl⟩ := h'
      simp [World.frozen?, hg]
  · rw [h.cellAt (i * 2) (by omega)]; exact (flatP_at hi).1
  · rw [h.cellAt (i * 2 + 1) (by omega)]; exact (flatP_at hi).2

/-- A list of pairs of the call's own: nil, or a new block from its beginning. -/
def Own (w : World) (v : Value) (ps : List (Int × Int)) (w' : World) : Prop :=
  ((v = .slice none 0 0 ∧ ps = []) ∨ ∃ g cap, w.heap.size ≤ g ∧ v = .slice (some ⟨g, 0, none⟩) ps.length cap ∧ ps.length ≤ cap ∧ cap ≤ maxLen ∧ Held w' g ps) ∧ Below w.heap.size w w'
theorem Own.slc {w w' : World} {v : Value} {ps : List (Int × Int)} (h : Own w v ps w') : Slc w' v ps := by
  rcases h.1 with h | ⟨g, cap, _, rfl, _, _, hh⟩
  · exact .inl h
  · exact .inr ⟨g, 0, _, cap, rfl, hh.pairs⟩
theorem Own.later {w w1 w' : World} {v : Value} {ps : List (Int × Int)} (h : Own w v ps w1) (hb : Below w1.heap.size w1 w') : Own w v ps w' := by
  refine ⟨?_, bel_trans h.2 hb⟩
  rcases h.1 with h | ⟨g, cap, hg, rfl, h1, h2, hh⟩
  · exact .inl h
  · exact .inr ⟨g, cap, hg, rfl, h1, h2, hh.later hb⟩

end Go.Proofs.Ytdkmbcmenomecaa
