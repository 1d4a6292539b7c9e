/- A stamp that comes in is read as two numbers, a list of stamps as a list of pairs; no conditions. -/
import Derived.Test.YtjdepjpjjgkmbaaGreatFrame
import Derived.Test.YtjdepjpjjgkmbaaGreatStampBase
import Derived.Deep.SlicePairs
namespace Go.Proofs.YtjdepjpjjgkmbaaGreat
set_option maxRecDepth 100000
open Go.ChangeShapes Go.WideShapes Go.ChangeAt Go.RowKit Go.Deep
set_option linter.unusedVariables false

/-- What the reading of a stamp that came in tells: its two numbers. -/
theorem stamp_read {H : Type} {enc : TypeId × Value → H} {W : World} {r : Reach} {b0 : Nat} {v : Value} {d : DataW H} {p : List MemPlace} (hv : Value.okWide Tryz.prog W r b0 57 v) (h : DataW.Trod enc Tryz.prog W 0 (fun _ => true) true 57 v d p) :
    ∃ (c k : Int), v = .agg #[.int .i64 c, .int .i64 k] := by
  obtain ⟨l0, m, rfl, h5, get⟩ := one_fields Tryz.underlying57 (by kernel_rfl) (by kernel_rfl) hv h
  have h5 : l0.length = 2 := h5
  obtain ⟨c0, l1, rfl⟩ : ∃ c0 l1, l0 = c0 :: l1 := List.exists_cons_of_length_pos (by omega)
  obtain ⟨c1, l2, rfl⟩ : ∃ c0 l2, l1 = c0 :: l2 := List.exists_cons_of_length_pos (by simp only [List.length_cons] at h5; omega)
  obtain rfl : l2 = [] := List.eq_nil_of_length_eq_zero (by simp only [List.length_cons] at h5; omega)
  obtain ⟨y0, g0⟩ := get 0 _ _ rfl rfl
  obtain ⟨y1, g1⟩ := get 1 _ _ rfl rfl
  obtain ⟨s, e0, _, _⟩ := DataW.trod_int Tryz.underlying2 g0
  obtain ⟨l, e1, _, _⟩ := DataW.trod_int Tryz.underlying2 g1
  simp only [List.cons.injEq, and_true] at e0 e1
  subst e0 e1
  exact ⟨s, l, rfl⟩

/-- The number that a value is. -/
def intV : Value → Int
  | .int _ z => z
  | _ => 0

/-- What the reading of a slice of structs of two int64 tells: a list of pairs. -/
theorem pairs_of {H : Type} {enc : TypeId × Value → H} {P : Program} {W : World} {t e : TypeId} {f0 f1 : Field} {fuel : Nat} {v : Value} {x : DataW H × List MemPlace} (ht : P.underlying t = some (.slice e)) (he : P.underlying e = some (.struct #[f0, f1]))
    (ce : P.cellsOf e = 2) (o0 : f0.offset = 0) (o1 : f1.offset = 1) (c0 : P.cellsOf f0.type = 1) (c1 : P.cellsOf f1.type = 1) (u0 : P.underlying f0.type = some (.int .i64)) (u1 : P.underlying f1.type = some (.int .i64))
    (h : DataW.trod enc P W 0 (fun _ => true) true fuel t [v] = some x) :
    ∃ (A : Option Addr) (n cap : Nat) (ps : List (Int × Int)), v = .slice A n cap ∧ Pairs W W.heap.size A n ps ∧ n ≤ maxLen := by
  rcases open_slice_pairs ht he ce o0 o1 c0 c1 h with ⟨e4, _⟩ | ⟨a, len, cap, m, n, V0, V1, D0, D1, P0, P1, e4, _, hl, hm, hmm, _, hc⟩
  · simp only [List.cons.injEq, and_true] at e4
    subst e4
    exact ⟨none, 0, 0, [], rfl, ⟨rfl, fun h => absurd h (by omega)⟩, by unfold maxLen; omega⟩
  · simp only [List.cons.injEq, and_true] at e4
    subst e4
    have hmm : m = cap := by simpa using hmm
    refine ⟨some a, len, cap, (List.range len).map fun i => (intV (V0 i), intV (V1 i)), rfl, ⟨by simp, fun hn => ?_⟩, by omega⟩
    obtain ⟨b, o, spot⟩ := a
    have hs : spot = none := by
      have := (hc 0 (by omega)).1
      simpa [Addr.add] using World.cell?_spot this
    subst hs
    have ea : ∀ i, (⟨b, o, none⟩ : Addr).add i = ⟨b, o + i, none⟩ := fun i => by
      unfold Addr.add
      split
      · simp_all
      · rfl
    refine ⟨b, o, rfl, ?_, fun i hi => ?_⟩
    · have := block_lt_of_cell (hc 0 (by omega)).1
      rw [ea] at this
      exact this
    · obtain ⟨h0, h1, t0, t1⟩ := hc i (by omega)
      obtain ⟨z0, e0, _, _⟩ := DataW.trod_int u0 t0
      obtain ⟨z1, e1, _, _⟩ := DataW.trod_int u1 t1
      simp only [List.cons.injEq, and_true] at e0 e1
      rw [ea] at h0 h1
      have ep : pth ((List.range len).map fun i => (intV (V0 i), intV (V1 i))) i = (intV (V0 i), intV (V1 i)) := by simp [pth, hi]
      rw [ep, h0, show o + i * 2 + 1 = o + (i * 2 + 1) by omega, h1, e0, e1]
      exact ⟨rfl, rfl⟩

end Go.Proofs.YtjdepjpjjgkmbaaGreat
