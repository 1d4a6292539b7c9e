/- A note that comes in is read as fourteen numbers and two lists of pairs. -/
import Derived.Test.YtdkmbcmenomecaaGreatReadsSeal
import Derived.Test.YtdkmbcmenomecaaGreatReadsClaim
namespace Go.Proofs.YtdkmbcmenomecaaGreat
set_option maxRecDepth 100000
open Go.ChangeShapes Go.WideShapes Go.ChangeAt Go.RowKit Go.Deep
set_option linter.unusedVariables false

theorem cells_note : Tryz.prog.cellsOf 54 = 16 := by kernel_rfl
theorem cells_seals : Tryz.prog.cellsOf 49 = 1 := by kernel_rfl

/-- One number, read. -/
theorem int_of {H : Type} {enc : TypeId × Value → H} {W : World} {m : Nat} {x : Value} {y : DataW H × List MemPlace} (h : DataW.trod enc Tryz.prog W 0 (fun _ => true) true m 2 [x] = some y) : ∃ z : Int, x = .int .i64 z := by
  obtain ⟨z, e, _, _⟩ := DataW.trod_int Tryz.underlying2 h
  simp only [List.cons.injEq, and_true] at e
  exact ⟨z, e⟩
/-- A stamp's two cells, read. -/
theorem two_of {H : Type} {enc : TypeId × Value → H} {W : World} {m : Nat} {x x' : Value} {y : DataW H × List MemPlace} (h : DataW.trod enc Tryz.prog W 0 (fun _ => true) true m 48 [x, x'] = some y) : ∃ z z' : Int, x = .int .i64 z ∧ x' = .int .i64 z' := by
  obtain ⟨m', get'⟩ := sub_fields Tryz.underlying48 h
  obtain ⟨z0, k0⟩ := get' 0 _ rfl
  obtain ⟨z1, k1⟩ := get' 1 _ rfl
  have k0 : DataW.trod enc Tryz.prog W 0 (fun _ => true) true m' 2 (List.take (Tryz.prog.cellsOf 2) (List.drop 0 [x, x'])) = some z0 := k0
  rw [cells_int] at k0
  have k1 : DataW.trod enc Tryz.prog W 0 (fun _ => true) true m' 2 (List.take (Tryz.prog.cellsOf 2) (List.drop 1 [x, x'])) = some z1 := k1
  rw [cells_int] at k1
  obtain ⟨a, ha⟩ := int_of (show DataW.trod enc Tryz.prog W 0 (fun _ => true) true m' 2 [x] = some z0 from k0)
  obtain ⟨b, hb⟩ := int_of (show DataW.trod enc Tryz.prog W 0 (fun _ => true) true m' 2 [x'] = some z1 from k1)
  exact ⟨a, b, ha, hb⟩

/-- What the reading of a note that came in tells. -/
theorem note_read {H : Type} {enc : TypeId × Value → H} {W : World} {r : Reach} {b0 : Nat} {v : Value} {d : DataW H} {p : List MemPlace} (hv : Value.okWide Tryz.prog W r b0 54 v) (h : DataW.Trod enc Tryz.prog W 0 (fun _ => true) true 54 v d p) :
    ∃ (k1 k2 k3 k4 k5 t1 t2 v1 o1 o2 v2 : Int) (P : Option Addr) (p pc : Nat) (Q : Option Addr) (q qc : Nat) (l1 l2 v3 : Int) (ps qs : List (Int × Int)), v = .agg #[.int .i64 k1, .int .i64 k2, .int .i64 k3, .int .i64 k4, .int .i64 k5, .int .i64 t1, .int .i64 t2, .int .i64 v1, .int .i64 o1, .int .i64 o2, .int .i64 v2, .slice P p pc, .slice Q q qc, .int .i64 l1, .int .i64 l2, .int .i64 v3] ∧ Pairs W W.heap.size P p ps ∧ p ≤ maxLen ∧ Pairs W W.heap.size Q q qs ∧ q ≤ maxLen := by
  obtain ⟨cs, rfl, hsz⟩ := okWide_struct Tryz.underlying54 hv
  obtain ⟨y0⟩ := cs
  have h5 : y0.length = 16 := by simpa using hsz.trans cells_note
  obtain ⟨fuel, hf⟩ := h
  have hf : DataW.trod enc Tryz.prog W 0 (fun _ => true) true fuel 54 y0 = some (d, p) := hf
  obtain ⟨c0, y1, rfl⟩ : ∃ c0 l1, y0 = c0 :: l1 := List.exists_cons_of_length_pos (by omega)
  obtain ⟨c1, y2, rfl⟩ : ∃ c0 l1, y1 = c0 :: l1 := List.exists_cons_of_length_pos (by simp only [List.length_cons] at h5; omega)
  obtain ⟨c2, y3, rfl⟩ : ∃ c0 l1, y2 = c0 :: l1 := List.exists_cons_of_length_pos (by simp only [List.length_cons] at h5; omega)
  obtain ⟨c3, y4, rfl⟩ : ∃ c0 l1, y3 = c0 :: l1 := List.exists_cons_of_length_pos (by simp only [List.length_cons] at h5; omega)
  obtain ⟨c4, y5, rfl⟩ : ∃ c0 l1, y4 = c0 :: l1 := List.exists_cons_of_length_pos (by simp only [List.length_cons] at h5; omega)
  obtain ⟨c5, y6, rfl⟩ : ∃ c0 l1, y5 = c0 :: l1 := List.exists_cons_of_length_pos (by simp only [List.length_cons] at h5; omega)
  obtain ⟨c6, y7, rfl⟩ : ∃ c0 l1, y6 = c0 :: l1 := List.exists_cons_of_length_pos (by simp only [List.length_cons] at h5; omega)
  obtain ⟨c7, y8, rfl⟩ : ∃ c0 l1, y7 = c0 :: l1 := List.exists_cons_of_length_pos (by simp only [List.length_cons] at h5; omega)
  obtain ⟨c8, y9, rfl⟩ : ∃ c0 l1, y8 = c0 :: l1 := List.exists_cons_of_length_pos (by simp only [List.length_cons] at h5; omega)
  obtain ⟨c9, y10, rfl⟩ : ∃ c0 l1, y9 = c0 :: l1 := List.exists_cons_of_length_pos (by simp only [List.length_cons] at h5; omega)
  obtain ⟨c10, y11, rfl⟩ : ∃ c0 l1, y10 = c0 :: l1 := List.exists_cons_of_length_pos (by simp only [List.length_cons] at h5; omega)
  obtain ⟨c11, y12, rfl⟩ : ∃ c0 l1, y11 = c0 :: l1 := List.exists_cons_of_length_pos (by simp only [List.length_cons] at h5; omega)
  obtain ⟨c12, y13, rfl⟩ : ∃ c0 l1, y12 = c0 :: l1 := List.exists_cons_of_length_pos (by simp only [List.length_cons] at h5; omega)
  obtain ⟨c13, y14, rfl⟩ : ∃ c0 l1, y13 = c0 :: l1 := List.exists_cons_of_length_pos (by simp only [List.length_cons] at h5; omega)
  obtain ⟨c14, y15, rfl⟩ : ∃ c0 l1, y14 = c0 :: l1 := List.exists_cons_of_length_pos (by simp only [List.length_cons] at h5; omega)
  obtain ⟨c15, y16, rfl⟩ : ∃ c0 l1, y15 = c0 :: l1 := List.exists_cons_of_length_pos (by simp only [List.length_cons] at h5; omega)
  obtain rfl : y16 = [] := List.eq_nil_of_length_eq_zero (by simp only [List.length_cons] at h5; omega)
  obtain ⟨m, get⟩ := sub_fields Tryz.underlying54 hf
  obtain ⟨z0, g0⟩ := get 0 _ rfl
  have g0 : DataW.trod enc Tryz.prog W 0 (fun _ => true) true m 2 (List.take (Tryz.prog.cellsOf 2) (List.drop 0 [c0, c1, c2, c3, c4, c5, c6, c7, c8, c9, c10, c11, c12, c13, c14, c15])) = some z0 := g0
  rw [cells_int] at g0
  obtain ⟨z1, g1⟩ := get 1 _ rfl
  have g1 : DataW.trod enc Tryz.prog W 0 (fun _ => true) true m 2 (List.take (Tryz.prog.cellsOf 2) (List.drop 1 [c0, c1, c2, c3, c4, c5, c6, c7, c8, c9, c10, c11, c12, c13, c14, c15])) = some z1 := g1
  rw [cells_int] at g1
  obtain ⟨z2, g2⟩ := get 2 _ rfl
  have g2 : DataW.trod enc Tryz.prog W 0 (fun _ => true) true m 2 (List.take (Tryz.prog.cellsOf 2) (List.drop 2 [c0, c1, c2, c3, c4, c5, c6, c7, c8, c9, c10, c11, c12, c13, c14, c15])) = some z2 := g2
  rw [cells_int] at g2
  obtain ⟨z3, g3⟩ := get 3 _ rfl
  have g3 : DataW.trod enc Tryz.prog W 0 (fun _ => true) true m 2 (List.take (Tryz.prog.cellsOf 2) (List.drop 3 [c0, c1, c2, c3, c4, c5, c6, c7, c8, c9, c10, c11, c12, c13, c14, c15])) = some z3 := g3
  rw [cells_int] at g3
  obtain ⟨z4, g4⟩ := get 4 _ rfl
  have g4 : DataW.trod enc Tryz.prog W 0 (fun _ => true) true m 2 (List.take (Tryz.prog.cellsOf 2) (List.drop 4 [c0, c1, c2, c3, c4, c5, c6, c7, c8, c9, c10, c11, c12, c13, c14, c15])) = some z4 := g4
  rw [cells_int] at g4
  obtain ⟨z5, g5⟩ := get 5 _ rfl
  have g5 : DataW.trod enc Tryz.prog W 0 (fun _ => true) true m 48 (List.take (Tryz.prog.cellsOf 48) (List.drop 5 [c0, c1, c2, c3, c4, c5, c6, c7, c8, c9, c10, c11, c12, c13, c14, c15])) = some z5 := g5
  rw [cells_stamp] at g5
  obtain ⟨z6, g6⟩ := get 6 _ rfl
  have g6 : DataW.trod enc Tryz.prog W 0 (fun _ => true) true m 2 (List.take (Tryz.prog.cellsOf 2) (List.drop 7 [c0, c1, c2, c3, c4, c5, c6, c7, c8, c9, c10, c11, c12, c13, c14, c15])) = some z6 := g6
  rw [cells_int] at g6
  obtain ⟨z7, g7⟩ := get 7 _ rfl
  have g7 : DataW.trod enc Tryz.prog W 0 (fun _ => true) true m 48 (List.take (Tryz.prog.cellsOf 48) (List.drop 8 [c0, c1, c2, c3, c4, c5, c6, c7, c8, c9, c10, c11, c12, c13, c14, c15])) = some z7 := g7
  rw [cells_stamp] at g7
  obtain ⟨z8, g8⟩ := get 8 _ rfl
  have g8 : DataW.trod enc Tryz.prog W 0 (fun _ => true) true m 2 (List.take (Tryz.prog.cellsOf 2) (List.drop 10 [c0, c1, c2, c3, c4, c5, c6, c7, c8, c9, c10, c11, c12, c13, c14, c15])) = some z8 := g8
  rw [cells_int] at g8
  obtain ⟨z9, g9⟩ := get 9 _ rfl
  have g9 : DataW.trod enc Tryz.prog W 0 (fun _ => true) true m 49 (List.take (Tryz.prog.cellsOf 49) (List.drop 11 [c0, c1, c2, c3, c4, c5, c6, c7, c8, c9, c10, c11, c12, c13, c14, c15])) = some z9 := g9
  rw [cells_seals] at g9
  obtain ⟨z10, g10⟩ := get 10 _ rfl
  have g10 : DataW.trod enc Tryz.prog W 0 (fun _ => true) true m 49 (List.take (Tryz.prog.cellsOf 49) (List.drop 12 [c0, c1, c2, c3, c4, c5, c6, c7, c8, c9, c10, c11, c12, c13, c14, c15])) = some z10 := g10
  rw [cells_seals] at g10
  obtain ⟨z11, g11⟩ := get 11 _ rfl
  have g11 : DataW.trod enc Tryz.prog W 0 (fun _ => true) true m 48 (List.take (Tryz.prog.cellsOf 48) (List.drop 13 [c0, c1, c2, c3, c4, c5, c6, c7, c8, c9, c10, c11, c12, c13, c14, c15])) = some z11 := g11
  rw [cells_stamp] at g11
  obtain ⟨z12, g12⟩ := get 12 _ rfl
  have g12 : DataW.trod enc Tryz.prog W 0 (fun _ => true) true m 2 (List.take (Tryz.prog.cellsOf 2) (List.drop 15 [c0, c1, c2, c3, c4, c5, c6, c7, c8, c9, c10, c11, c12, c13, c14, c15])) = some z12 := g12
  rw [cells_int] at g12
  obtain ⟨x0, rfl⟩ := int_of (show DataW.trod enc Tryz.prog W 0 (fun _ => true) true m 2 [c0] = some z0 from g0)
  obtain ⟨x1, rfl⟩ := int_of (show DataW.trod enc Tryz.prog W 0 (fun _ => true) true m 2 [c1] = some z1 from g1)
  obtain ⟨x2, rfl⟩ := int_of (show DataW.trod enc Tryz.prog W 0 (fun _ => true) true m 2 [c2] = some z2 from g2)
  obtain ⟨x3, rfl⟩ := int_of (show DataW.trod enc Tryz.prog W 0 (fun _ => true) true m 2 [c3] = some z3 from g3)
  obtain ⟨x4, rfl⟩ := int_of (show DataW.trod enc Tryz.prog W 0 (fun _ => true) true m 2 [c4] = some z4 from g4)
  obtain ⟨x5, x5', rfl, rfl⟩ := two_of (show DataW.trod enc Tryz.prog W 0 (fun _ => true) true m 48 [c5, c6] = some z5 from g5)
  obtain ⟨x6, rfl⟩ := int_of (show DataW.trod enc Tryz.prog W 0 (fun _ => true) true m 2 [c7] = some z6 from g6)
  obtain ⟨x7, x7', rfl, rfl⟩ := two_of (show DataW.trod enc Tryz.prog W 0 (fun _ => true) true m 48 [c8, c9] = some z7 from g7)
  obtain ⟨x8, rfl⟩ := int_of (show DataW.trod enc Tryz.prog W 0 (fun _ => true) true m 2 [c10] = some z8 from g8)
  obtain ⟨A9, n9, cap9, ps9, rfl, hp9, hm9⟩ := pairs_of Tryz.underlying49 Tryz.underlying137 (by kernel_rfl) rfl rfl (by kernel_rfl) (by kernel_rfl) Tryz.underlying2 Tryz.underlying2 (show DataW.trod enc Tryz.prog W 0 (fun _ => true) true m 49 [c11] = some z9 from g9)
  obtain ⟨A10, n10, cap10, ps10, rfl, hp10, hm10⟩ := pairs_of Tryz.underlying49 Tryz.underlying137 (by kernel_rfl) rfl rfl (by kernel_rfl) (by kernel_rfl) Tryz.underlying2 Tryz.underlying2 (show DataW.trod enc Tryz.prog W 0 (fun _ => true) true m 49 [c12] = some z10 from g10)
  obtain ⟨x11, x11', rfl, rfl⟩ := two_of (show DataW.trod enc Tryz.prog W 0 (fun _ => true) true m 48 [c13, c14] = some z11 from g11)
  obtain ⟨x12, rfl⟩ := int_of (show DataW.trod enc Tryz.prog W 0 (fun _ => true) true m 2 [c15] = some z12 from g12)
  exact ⟨x0, x1, x2, x3, x4, x5, x5', x6, x7, x7', x8, A9, n9, cap9, A10, n10, cap10, x11, x11', x12, ps9, ps10, rfl, hp9, hm9, hp10, hm10⟩

end Go.Proofs.YtdkmbcmenomecaaGreat
