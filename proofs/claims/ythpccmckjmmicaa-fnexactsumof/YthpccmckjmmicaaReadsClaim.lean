/- A claim that comes in is read as five numbers, a seal as two. -/
import Derived.Test.YthpccmckjmmicaaFrame
namespace Go.Proofs.Ythpccmckjmmicaa
set_option maxRecDepth 100000
open Go.ChangeShapes Go.WideShapes Go.ChangeAt Go.RowKit Go.Deep
set_option linter.unusedVariables false

/-- What the reading of a seal that came in tells: its two numbers. -/
theorem seal_read {H : Type} {enc : TypeId × Value → H} {W : World} {r : Reach} {b0 : Nat} {v : Value} {d : DataW H} {p : List MemPlace} (hv : Value.okWide Try.prog W r b0 80 v) (h : DataW.Trod enc Try.prog W 0 (fun _ => true) true 80 v d p) :
    ∃ (c k : Int), v = .agg #[.int .i64 c, .int .i64 k] := by
  obtain ⟨l0, m, rfl, h5, get⟩ := one_fields Try.underlying80 (by kernel_rfl) (by kernel_rfl) hv h
  have h5 : l0.length = 2 := h5
  obtain ⟨c0, l1, rfl⟩ : ∃ c0 l1, l0 = c0 :: l1 := List.exists_cons_of_length_pos (by omega)
  obtain ⟨c1, l2, rfl⟩ : ∃ c0 l2, l1 = c0 :: l2 := List.exists_cons_of_length_pos (by simp only [List.length_cons] at h5; omega)
  obtain rfl : l2 = [] := List.eq_nil_of_length_eq_zero (by simp only [List.length_cons] at h5; omega)
  obtain ⟨y0, g0⟩ := get 0 _ _ rfl rfl
  obtain ⟨y1, g1⟩ := get 1 _ _ rfl rfl
  obtain ⟨s, e0, _, _⟩ := DataW.trod_int Try.underlying2 g0
  obtain ⟨l, e1, _, _⟩ := DataW.trod_int Try.underlying2 g1
  simp only [List.cons.injEq, and_true] at e0 e1
  subst e0 e1
  exact ⟨s, l, rfl⟩

theorem cells_int : Try.prog.cellsOf 2 = 1 := by kernel_rfl
theorem cells_stamp : Try.prog.cellsOf 38 = 2 := by kernel_rfl
end Go.Proofs.Ythpccmckjmmicaa
