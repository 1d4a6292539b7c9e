/- The laws' own copies of a group, their size and the test that two are alike: contracts of each of them. -/
import Derived.Test.YtdkmbcmenomecaaGroup
import Derived.Test.YtdkmbcmenomecaaBase
namespace Go.Proofs.Ytdkmbcmenomecaa
open Go.RowKit

theorem Try.infoInt64 : (Try.prog.info? 2).map (fun i => (i.zero, i.size, i.bytes)) = some (some (.int .i64 0), 1, 8) := by kernel_rfl

/-- What a copy of n numbers leaves: a new row that holds them. -/
def MadeRow (w : World) (n : Nat) (zs : List Int) (e : Ending) (w' : World) : Prop :=
  ∃ g, w.heap.size ≤ g ∧ e = .returned (.slice (some ⟨g, 0, none⟩) n n) ∧ Row w' w'.heap.size (some ⟨g, 0, none⟩) n zs ∧ Below w.heap.size w w'

/-- The first k are copied. -/
def upto (zs : List Int) (k j : Nat) : Value := if j < k then .int .i64 (nth zs j) else .int .i64 0

theorem upto_succ {w : World} {b n k : Nat} {zs : List Int} (h : w.rowIs b 2 n (upto zs k)) :
    (w.setCell ⟨b, k, none⟩ (.int .i64 (nth zs k))).rowIs b 2 n (upto zs (k + 1)) :=
  (h.set k _).congr fun i _ => by
    unfold upto
    by_cases e : i = k
    · subst e; simp
    · by_cases f : i < k
      · simp [e, f, show i < k + 1 by omega]
      · simp [e, f, show ¬ i < k + 1 by omega]

/-- A copy of a group: the same numbers, new keys. -/
def MadeGroup (w : World) (s l c sh : Int) (n : Nat) (zs : List Int) (e : Ending) (w' : World) : Prop :=
  ∃ g, w.heap.size ≤ g ∧ e = .returned (.agg #[.int .i64 s, .int .i64 l, .int .i64 c, .int .i64 sh, .slice (some ⟨g, 0, none⟩) n n]) ∧ Row w' w'.heap.size (some ⟨g, 0, none⟩) n zs ∧ Below w.heap.size w w'

end Go.Proofs.Ytdkmbcmenomecaa

/- The laws' own copies of a group whose keys can be written, and their marks: contracts of each of them. -/
namespace Go.Proofs.Ytdkmbcmenomecaa
open Go.RowKit

/-- What a copy of n numbers leaves: a new row that holds them, and that can be written. -/
def MadeRowF (w : World) (n : Nat) (zs : List Int) (e : Ending) (w' : World) : Prop :=
  ∃ g, w.heap.size ≤ g ∧ e = .returned (.slice (some ⟨g, 0, none⟩) n n) ∧ Row w' w'.heap.size (some ⟨g, 0, none⟩) n zs ∧ (∀ i, w'.frozen? ⟨g, i, none⟩ = false) ∧ g < w'.heap.size ∧ Below w.heap.size w w'

/-- A copy of a group: the same numbers, new keys, which can be written. -/
def MadeGroupF (w : World) (s l c sh : Int) (n : Nat) (zs : List Int) (e : Ending) (w' : World) : Prop :=
  ∃ g, w.heap.size ≤ g ∧ e = .returned (.agg #[.int .i64 s, .int .i64 l, .int .i64 c, .int .i64 sh, .slice (some ⟨g, 0, none⟩) n n]) ∧ Row w' w'.heap.size (some ⟨g, 0, none⟩) n zs ∧ (∀ i, w'.frozen? ⟨g, i, none⟩ = false) ∧ g < w'.heap.size ∧ Below w.heap.size w w'

theorem Row.write {w : World} {g n : Nat} {zs : List Int} (h : Row w w.heap.size (some ⟨g, 0, none⟩) n zs) (i : Nat) (k : Int) : Row (w.setCell ⟨g, i, none⟩ (.int .i64 k)) (w.setCell ⟨g, i, none⟩ (.int .i64 k)).heap.size (some ⟨g, 0, none⟩) n (zs.set i k) := by
  refine ⟨by simpa using h.1, fun hn => ?_⟩
  obtain ⟨b, o, hA, hb, hc⟩ := h.2 hn
  cases hA
  refine ⟨_, _, rfl, by rw [size_set]; exact hb, fun j hj => ?_⟩
  have hcj := hc j hj
  rw [Nat.zero_add] at hcj ⊢
  by_cases e : j = i
  · subst e
    rw [World.cell?_setCell_same _ _ _ hcj]
    simp [nth, h.1, hj]
  · rw [World.cell?_setCell_other _ _ _ _ (fun e' => e (by injection e' with _ e'; exact e'.symm)), hcj]
    simp [nth, show ¬ i = j by omega]

end Go.Proofs.Ytdkmbcmenomecaa
