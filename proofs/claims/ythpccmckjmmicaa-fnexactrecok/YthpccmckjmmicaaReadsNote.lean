/- A note that comes in is read as fourteen numbers and two lists of pairs. -/
import Derived.Test.YthpccmckjmmicaaReadsSeal
import Derived.Test.YthpccmckjmmicaaReadsClaim
namespace Go.Proofs.Ythpccmckjmmicaa
set_option maxRecDepth 100000
open Go.ChangeShapes Go.WideShapes Go.ChangeAt Go.RowKit Go.Deep
set_option linter.unusedVariables false

theorem cells_seals : Try.prog.cellsOf 39 = 1 := by kernel_rfl

/-- One number, read. -/
theorem int_of {H : Type} {enc : TypeId × Value → H} {W : World} {m : Nat} {x : Value} {y : DataW H × List MemPlace} (h : DataW.trod enc Try.prog W 0 (fun _ => true) true m 2 [x] = some y) : ∃ z : Int, x = .int .i64 z := by
  obtain ⟨z, e, _, _⟩ := DataW.trod_int Try.underlying2 h
  simp only [List.cons.injEq, and_true] at e
  exact ⟨z, e⟩
/-- A stamp's two cells, read. -/
theorem two_of {H : Type} {enc : TypeId × Value → H} {W : World} {m : Nat} {x x' : Value} {y : DataW H × List MemPlace} (h : DataW.trod enc Try.prog W 0 (fun _ => true) true m 38 [x, x'] = some y) : ∃ z z' : Int, x = .int .i64 z ∧ x' = .int .i64 z' := by
  obtain ⟨m', get'⟩ := sub_fields Try.underlying38 h
  obtain ⟨z0, k0⟩ := get' 0 _ rfl
  obtain ⟨z1, k1⟩ := get' 1 _ rfl
  have k0 : DataW.trod enc Try.prog W 0 (fun _ => true) true m' 2 (List.take (Try.prog.cellsOf 2) (List.drop 0 [x, x'])) = some z0 := k0
  rw [cells_int] at k0
  have k1 : DataW.trod enc Try.prog W 0 (fun _ => true) true m' 2 (List.take (Try.prog.cellsOf 2) (List.drop 1 [x, x'])) = some z1 := k1
  rw [cells_int] at k1
  obtain ⟨a, ha⟩ := int_of (show DataW.trod enc Try.prog W 0 (fun _ => true) true m' 2 [x] = some z0 from k0)
  obtain ⟨b, hb⟩ := int_of (show DataW.trod enc Try.prog W 0 (fun _ => true) true m' 2 [x'] = some z1 from k1)
  exact ⟨a, b, ha, hb⟩

end Go.Proofs.Ythpccmckjmmicaa
