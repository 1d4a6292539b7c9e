/- What the model's draws out of the code leave, chapter 2: two stamps, a stamp and a client, a list of stamps; the bytes can be read. -/
import Derived.Test.YtgjbebfcbpfngaaDoorDrawStamp
import Derived.Test.YtgjbebfcbpfngaaDoorFresh
namespace Go.Proofs.YtgjbebfcbpfngaaDoor
open Go.RowKit

/-- Two stamps. -/
def MadeTwo (w : World) (e : Ending) (w' : World) : Prop :=
  ∃ a b c d : Int, e = .returned (.tuple #[.agg #[.int .i64 a, .int .i64 b], .agg #[.int .i64 c, .int .i64 d]]) ∧ Below w.heap.size w w'

/-- A stamp and a number. -/
def MadeOneNum (w : World) (e : Ending) (w' : World) : Prop :=
  ∃ a b x : Int, e = .returned (.tuple #[.agg #[.int .i64 a, .int .i64 b], .int .i64 x]) ∧ Below w.heap.size w w'

/-- The cells of a list of pairs. -/
def flatP (ps : List (Int × Int)) : List Value := ps.flatMap fun p => [.int .i64 p.1, .int .i64 p.2]
theorem flatP_len (ps : List (Int × Int)) : (flatP ps).length = ps.length * 2 := by
  induction ps with
  | nil => rfl
  | cons p ps ih => show (flatP ps).length + 1 + 1 = _; rw [ih, List.length_cons]; omega
theorem flatP_snoc (ps : List (Int × Int)) (x y : Int) : flatP (ps ++ [(x, y)]) = flatP ps ++ [.int .i64 x, .int .i64 y] := by simp [flatP]
theorem flatP_at {ps : List (Int × Int)} {i : Nat} (h : i < ps.length) : (flatP ps)[i * 2]? = some (.int .i64 (pth ps i).1) ∧ (flatP ps)[i * 2 + 1]? = some (.int .i64 (pth ps i).2) := by
  induction ps generalizing i with
  | nil => simp at h
  | cons p ps ih =>
    have e : flatP (p :: ps) = .int .i64 p.1 :: .int .i64 p.2 :: flatP ps := rfl
    rcases i with _ | i
    · exact ⟨rfl, rfl⟩
    · have := ih (i := i) (by simpa using h)
      rw [e, show (i + 1) * 2 = i * 2 + 1 + 1 by omega]
      simp only [List.getElem?_cons_succ]
      have ep : pth (p :: ps) (i + 1) = pth ps i := by simp [pth]
      rw [ep]
      exact this
theorem own_pairs {w : World} {base : Nat} {e : TypeId} {q cap : Nat} {ps : List (Int × Int)} (h : w.ownsRow base e 2 (.slice (some ⟨q, 0, none⟩) ps.length cap) ps.length (flatP ps)) : Pairs w w.heap.size (some ⟨q, 0, none⟩) ps.length ps := by
  refine ⟨rfl, fun _ => ⟨q, 0, rfl, (h.lt q rfl).2, fun i hi => ?_⟩⟩
  rw [Nat.zero_add, h.cellAt (i * 2) (by omega), h.cellAt (i * 2 + 1) (by omega)]
  exact flatP_at hi

theorem Tryd.infoStampI : (Tryd.prog.info? 28).map (fun i => (i.zero, i.size, i.bytes)) = some (some (.agg #[.int .i64 0, .int .i64 0]), 2, 16) := by kernel_rfl

/-- A list of at most m pairs, made anew. -/
def MadeList (m : Nat) (w : World) (e : Ending) (w' : World) : Prop :=
  ∃ (q cap' : Nat) (ps : List (Int × Int)), e = .returned (.slice (some ⟨q, 0, none⟩) ps.length cap') ∧ Pairs w' w'.heap.size (some ⟨q, 0, none⟩) ps.length ps ∧ ps.length ≤ m ∧ Below w.heap.size w w'

/-- The loop's state: at most k more are drawn. -/
def StampsUp (w wr : World) (t tc : TypeId) (g : Nat) (A : Option Addr) (n cap k : Nat) (v : Value) : Prop :=
  ∃ (q cap' : Nat) (ps : List (Int × Int)), v = .slice (some ⟨q, 0, none⟩) ps.length cap' ∧ ps.length + k ≤ 5 ∧ Cur wr tc .i64 g A n cap ∧ wr.ownsRow (g + 1) t 2 (.slice (some ⟨q, 0, none⟩) ps.length cap') ps.length (flatP ps) ∧ Below w.heap.size w wr

end Go.Proofs.YtgjbebfcbpfngaaDoor
