/- A record that comes in is read as eight numbers and a list of pairs; no conditions. -/
import Derived.Test.YthpccmckjmmicaaReadsSeal
import Derived.Test.YthpccmckjmmicaaReadsNote
namespace Go.Proofs.Ythpccmckjmmicaa
set_option maxRecDepth 100000
open Go.ChangeShapes Go.WideShapes Go.ChangeAt Go.RowKit Go.Deep
set_option linter.unusedVariables false

theorem cells_sealsR : Try.prog.cellsOf 39 = 1 := by kernel_rfl
theorem cells_rec : Try.prog.cellsOf 41 = 9 := by kernel_rfl

/-- A record's nine cells, read. -/
theorem nine_of {H : Type} {enc : TypeId × Value → H} {W : World} {m : Nat} {c0 c1 c2 c3 c4 c5 c6 c7 c8 : Value} {y : DataW H × List MemPlace} (h : DataW.trod enc Try.prog W 0 (fun _ => true) true m 41 [c0, c1, c2, c3, c4, c5, c6, c7, c8] = some y) :
    ∃ (r1 r2 r3 r4 r5 r6 r7 : Int) (L : Option Addr) (n mc : Nat) (r8 : Int) (ps : List (Int × Int)), c0 = .int .i64 r1 ∧ c1 = .int .i64 r2 ∧ c2 = .int .i64 r3 ∧ c3 = .int .i64 r4 ∧ c4 = .int .i64 r5 ∧ c5 = .int .i64 r6 ∧ c6 = .int .i64 r7 ∧ c7 = .slice L n mc ∧ c8 = .int .i64 r8 ∧ Pairs W W.heap.size L n ps ∧ n ≤ maxLen := by
  obtain ⟨m', get⟩ := sub_fields Try.underlying41 h
  obtain ⟨z0, g0⟩ := get 0 _ rfl
  have g0 : DataW.trod enc Try.prog W 0 (fun _ => true) true m' 2 (List.take (Try.prog.cellsOf 2) (List.drop 0 [c0, c1, c2, c3, c4, c5, c6, c7, c8])) = some z0 := g0
  rw [cells_int] at g0
  obtain ⟨z1, g1⟩ := get 1 _ rfl
  have g1 : DataW.trod enc Try.prog W 0 (fun _ => true) true m' 2 (List.take (Try.prog.cellsOf 2) (List.drop 1 [c0, c1, c2, c3, c4, c5, c6, c7, c8])) = some z1 := g1
  rw [cells_int] at g1
  obtain ⟨z2, g2⟩ := get 2 _ rfl
  have g2 : DataW.trod enc Try.prog W 0 (fun _ => true) true m' 2 (List.take (Try.prog.cellsOf 2) (List.drop 2 [c0, c1, c2, c3, c4, c5, c6, c7, c8])) = some z2 := g2
  rw [cells_int] at g2
  obtain ⟨z3, g3⟩ := get 3 _ rfl
  have g3 : DataW.trod enc Try.prog W 0 (fun _ => true) true m' 2 (List.take (Try.prog.cellsOf 2) (List.drop 3 [c0, c1, c2, c3, c4, c5, c6, c7, c8])) = some z3 := g3
  rw [cells_int] at g3
  obtain ⟨z4, g4⟩ := get 4 _ rfl
  have g4 : DataW.trod enc Try.prog W 0 (fun _ => true) true m' 38 (List.take (Try.prog.cellsOf 38) (List.drop 4 [c0, c1, c2, c3, c4, c5, c6, c7, c8])) = some z4 := g4
  rw [cells_stamp] at g4
  obtain ⟨z5, g5⟩ := get 5 _ rfl
  have g5 : DataW.trod enc Try.prog W 0 (fun _ => true) true m' 2 (List.take (Try.prog.cellsOf 2) (List.drop 6 [c0, c1, c2, c3, c4, c5, c6, c7, c8])) = some z5 := g5
  rw [cells_int] at g5
  obtain ⟨z6, g6⟩ := get 6 _ rfl
  have g6 : DataW.trod enc Try.prog W 0 (fun _ => true) true m' 39 (List.take (Try.prog.cellsOf 39) (List.drop 7 [c0, c1, c2, c3, c4, c5, c6, c7, c8])) = some z6 := g6
  rw [cells_sealsR] at g6
  obtain ⟨z7, g7⟩ := get 7 _ rfl
  have g7 : DataW.trod enc Try.prog W 0 (fun _ => true) true m' 2 (List.take (Try.prog.cellsOf 2) (List.drop 8 [c0, c1, c2, c3, c4, c5, c6, c7, c8])) = some z7 := g7
  rw [cells_int] at g7
  obtain ⟨r1, rfl⟩ := int_of (show DataW.trod enc Try.prog W 0 (fun _ => true) true m' 2 [c0] = some z0 from g0)
  obtain ⟨r2, rfl⟩ := int_of (show DataW.trod enc Try.prog W 0 (fun _ => true) true m' 2 [c1] = some z1 from g1)
  obtain ⟨r3, rfl⟩ := int_of (show DataW.trod enc Try.prog W 0 (fun _ => true) true m' 2 [c2] = some z2 from g2)
  obtain ⟨r4, rfl⟩ := int_of (show DataW.trod enc Try.prog W 0 (fun _ => true) true m' 2 [c3] = some z3 from g3)
  obtain ⟨r5, r6, rfl, rfl⟩ := two_of (show DataW.trod enc Try.prog W 0 (fun _ => true) true m' 38 [c4, c5] = some z4 from g4)
  obtain ⟨r7, rfl⟩ := int_of (show DataW.trod enc Try.prog W 0 (fun _ => true) true m' 2 [c6] = some z5 from g5)
  obtain ⟨L, n, mc, ps, rfl, hp, hm⟩ := pairs_of Try.underlying39 Try.underlying80 (by kernel_rfl) rfl rfl (by kernel_rfl) (by kernel_rfl) Try.underlying2 Try.underlying2 (show DataW.trod enc Try.prog W 0 (fun _ => true) true m' 39 [c7] = some z6 from g6)
  obtain ⟨r8, rfl⟩ := int_of (show DataW.trod enc Try.prog W 0 (fun _ => true) true m' 2 [c8] = some z7 from g7)
  exact ⟨r1, r2, r3, r4, r5, r6, r7, L, n, mc, r8, ps, rfl, rfl, rfl, rfl, rfl, rfl, rfl, rfl, rfl, hp, hm⟩

/-- What the reading of a record that came in tells. -/
theorem rec_read {H : Type} {enc : TypeId × Value → H} {W : World} {r : Reach} {b0 : Nat} {v : Value} {d : DataW H} {p : List MemPlace} (hv : Value.okWide Try.prog W r b0 41 v) (h : DataW.Trod enc Try.prog W 0 (fun _ => true) true 41 v d p) :
    ∃ (r1 r2 r3 r4 r5 r6 r7 : Int) (L : Option Addr) (n mc : Nat) (r8 : Int) (ps : List (Int × Int)), v = .agg #[.int .i64 r1, .int .i64 r2, .int .i64 r3, .int .i64 r4, .int .i64 r5, .int .i64 r6, .int .i64 r7, .slice L n mc, .int .i64 r8] ∧ Pairs W W.heap.size L n ps ∧ n ≤ maxLen := by
  obtain ⟨cs, rfl, hsz⟩ := okWide_struct Try.underlying41 hv
  obtain ⟨y0⟩ := cs
  have h5 : y0.length = 9 := by simpa using hsz.trans cells_rec
  obtain ⟨fuel, hf⟩ := h
  have hf : DataW.trod enc Try.prog W 0 (fun _ => true) true fuel 41 y0 = some (d, p) := hf
  match y0, h5 with
  | [c0, c1, c2, c3, c4, c5, c6, c7, c8], _ =>
    obtain ⟨r1, r2, r3, r4, r5, r6, r7, L, n, mc, r8, ps, rfl, rfl, rfl, rfl, rfl, rfl, rfl, rfl, rfl, hp, hm⟩ := nine_of hf
    exact ⟨r1, r2, r3, r4, r5, r6, r7, L, n, mc, r8, ps, rfl, hp, hm⟩

end Go.Proofs.Ythpccmckjmmicaa
