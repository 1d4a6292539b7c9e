/- FnExactReadied: at every group, shelf and note the program answers as its model and leaves its argument alone: the law answers true; no condition beyond the given row's own. -/
import Derived.Test.YtjdepjpjjgkmbaaGreatFrame
import Derived.Test.YtjdepjpjjgkmbaaGreatReadsSeal
import Derived.Test.YtjdepjpjjgkmbaaGreatRegBase
import Derived.Test.YtjdepjpjjgkmbaaGreatRows
import Derived.Test.YtjdepjpjjgkmbaaGreatLawsReadied
import Derived.Test.YtjdepjpjjgkmbaaGreatReads

/- A claim that comes in is read as five numbers, a seal as two. -/
namespace Go.Proofs.YtjdepjpjjgkmbaaGreat
set_option maxRecDepth 100000
open Go.ChangeShapes Go.WideShapes Go.ChangeAt Go.RowKit Go.Deep
set_option linter.unusedVariables false

theorem cells_int : Tryz.prog.cellsOf 2 = 1 := by kernel_rfl
theorem cells_stamp : Tryz.prog.cellsOf 57 = 2 := by kernel_rfl
end Go.Proofs.YtjdepjpjjgkmbaaGreat

/- A note that comes in is read as fourteen numbers and two lists of pairs. -/
namespace Go.Proofs.YtjdepjpjjgkmbaaGreat
set_option maxRecDepth 100000
open Go.ChangeShapes Go.WideShapes Go.ChangeAt Go.RowKit Go.Deep
set_option linter.unusedVariables false

theorem cells_note : Tryz.prog.cellsOf 75 = 16 := by kernel_rfl
theorem cells_seals : Tryz.prog.cellsOf 58 = 1 := by kernel_rfl

/-- One number, read. -/
theorem int_of {H : Type} {enc : TypeId × Value → H} {W : World} {m : Nat} {x : Value} {y : DataW H × List MemPlace} (h : DataW.trod enc Tryz.prog W 0 (fun _ => true) true m 2 [x] = some y) : ∃ z : Int, x = .int .i64 z := by
  obtain ⟨z, e, _, _⟩ := DataW.trod_int Tryz.underlying2 h
  simp only [List.cons.injEq, and_true] at e
  exact ⟨z, e⟩
/-- A stamp's two cells, read. -/
theorem two_of {H : Type} {enc : TypeId × Value → H} {W : World} {m : Nat} {x x' : Value} {y : DataW H × List MemPlace} (h : DataW.trod enc Tryz.prog W 0 (fun _ => true) true m 57 [x, x'] = some y) : ∃ z z' : Int, x = .int .i64 z ∧ x' = .int .i64 z' := by
  obtain ⟨m', get'⟩ := sub_fields Tryz.underlying57 h
  obtain ⟨z0, k0⟩ := get' 0 _ rfl
  obtain ⟨z1, k1⟩ := get' 1 _ rfl
  have k0 : DataW.trod enc Tryz.prog W 0 (fun _ => true) true m' 2 (List.take (Tryz.prog.cellsOf 2) (List.drop 0 [x, x'])) = some z0 := k0
  rw [cells_int] at k0
  have k1 : DataW.trod enc Tryz.prog W 0 (fun _ => true) true m' 2 (List.take (Tryz.prog.cellsOf 2) (List.drop 1 [x, x'])) = some z1 := k1
  rw [cells_int] at k1
  obtain ⟨a, ha⟩ := int_of (show DataW.trod enc Tryz.prog W 0 (fun _ => true) true m' 2 [x] = some z0 from k0)
  obtain ⟨b, hb⟩ := int_of (show DataW.trod enc Tryz.prog W 0 (fun _ => true) true m' 2 [x'] = some z1 from k1)
  exact ⟨a, b, ha, hb⟩

/-- What the reading of a note that came in tells. -/
theorem note_read {H : Type} {enc : TypeId × Value → H} {W : World} {r : Reach} {b0 : Nat} {v : Value} {d : DataW H} {p : List MemPlace} (hv : Value.okWide Tryz.prog W r b0 75 v) (h : DataW.Trod enc Tryz.prog W 0 (fun _ => true) true 75 v d p) :
    ∃ (k1 k2 k3 k4 k5 t1 t2 v1 o1 o2 v2 : Int) (P : Option Addr) (p pc : Nat) (Q : Option Addr) (q qc : Nat) (l1 l2 v3 : Int) (ps qs : List (Int × Int)), v = .agg #[.int .i64 k1, .int .i64 k2, .int .i64 k3, .int .i64 k4, .int .i64 k5, .int .i64 t1, .int .i64 t2, .int .i64 v1, .int .i64 o1, .int .i64 o2, .int .i64 v2, .slice P p pc, .slice Q q qc, .int .i64 l1, .int .i64 l2, .int .i64 v3] ∧ Pairs W W.heap.size P p ps ∧ p ≤ maxLen ∧ Pairs W W.heap.size Q q qs ∧ q ≤ maxLen := by
  obtain ⟨cs, rfl, hsz⟩ := okWide_struct Tryz.underlying75 hv
  obtain ⟨y0⟩ := cs
  have h5 : y0.length = 16 := by simpa using hsz.trans cells_note
  obtain ⟨fuel, hf⟩ := h
  have hf : DataW.trod enc Tryz.prog W 0 (fun _ => true) true fuel 75 y0 = some (d, p) := hf
  obtain ⟨c0, y1, rfl⟩ : ∃ c0 l1, y0 = c0 :: l1 := List.exists_cons_of_length_pos (by omega)
  obtain ⟨c1, y2, rfl⟩ : ∃ c0 l1, y1 = c0 :: l1 := List.exists_cons_of_length_pos (by simp only [List.length_cons] at h5; omega)
  obtain ⟨c2, y3, rfl⟩ : ∃ c0 l1, y2 = c0 :: l1 := List.exists_cons_of_length_pos (by simp only [List.length_cons] at h5; omega)
  obtain ⟨c3, y4, rfl⟩ : ∃ c0 l1, y3 = c0 :: l1 := List.exists_cons_of_length_pos (by simp only [List.length_cons] at h5; omega)
  obtain ⟨c4, y5, rfl⟩ : ∃ c0 l1, y4 = c0 :: l1 := List.exists_cons_of_length_pos (by simp only [List.length_cons] at h5; omega)
  obtain ⟨c5, y6, rfl⟩ : ∃ c0 l1, y5 = c0 :: l1 := List.exists_cons_of_length_pos (by simp only [List.length_cons] at h5; omega)
  obtain ⟨c6, y7, rfl⟩ : ∃ c0 l1, y6 = c0 :: l1 := List.exists_cons_of_length_pos (by simp only [List.length_cons] at h5; omega)
  obtain ⟨c7, y8, rfl⟩ : ∃ c0 l1, y7 = c0 :: l1 := List.exists_cons_of_length_pos (by simp only [List.length_cons] at h5; omega)
  obtain ⟨c8, y9, rfl⟩ : ∃ c0 l1, y8 = c0 :: l1 := List.exists_cons_of_length_pos (by simp only [List.length_cons] at h5; omega)
  obtain ⟨c9, y10, rfl⟩ : ∃ c0 l1, y9 = c0 :: l1 := List.exists_cons_of_length_pos (by simp only [List.length_cons] at h5; omega)
  obtain ⟨c10, y11, rfl⟩ : ∃ c0 l1, y10 = c0 :: l1 := List.exists_cons_of_length_pos (by simp only [List.length_cons] at h5; omega)
  obtain ⟨c11, y12, rfl⟩ : ∃ c0 l1, y11 = c0 :: l1 := List.exists_cons_of_length_pos (by simp only [List.length_cons] at h5; omega)
  obtain ⟨c12, y13, rfl⟩ : ∃ c0 l1, y12 = c0 :: l1 := List.exists_cons_of_length_pos (by simp only [List.length_cons] at h5; omega)
  obtain ⟨c13, y14, rfl⟩ : ∃ c0 l1, y13 = c0 :: l1 := List.exists_cons_of_length_pos (by simp only [List.length_cons] at h5; omega)
  obtain ⟨c14, y15, rfl⟩ : ∃ c0 l1, y14 = c0 :: l1 := List.exists_cons_of_length_pos (by simp only [List.length_cons] at h5; omega)
  obtain ⟨c15, y16, rfl⟩ : ∃ c0 l1, y15 = c0 :: l1 := List.exists_cons_of_length_pos (by simp only [List.length_cons] at h5; omega)
  obtain rfl : y16 = [] := List.eq_nil_of_length_eq_zero (by simp only [List.length_cons] at h5; omega)
  obtain ⟨m, get⟩ := sub_fields Tryz.underlying75 hf
  obtain ⟨z0, g0⟩ := get 0 _ rfl
  have g0 : DataW.trod enc Tryz.prog W 0 (fun _ => true) true m 2 (List.take (Tryz.prog.cellsOf 2) (List.drop 0 [c0, c1, c2, c3, c4, c5, c6, c7, c8, c9, c10, c11, c12, c13, c14, c15])) = some z0 := g0
  rw [cells_int] at g0
  obtain ⟨z1, g1⟩ := get 1 _ rfl
  have g1 : DataW.trod enc Tryz.prog W 0 (fun _ => true) true m 2 (List.take (Tryz.prog.cellsOf 2) (List.drop 1 [c0, c1, c2, c3, c4, c5, c6, c7, c8, c9, c10, c11, c12, c13, c14, c15])) = some z1 := g1
  rw [cells_int] at g1
  obtain ⟨z2, g2⟩ := get 2 _ rfl
  have g2 : DataW.trod enc Tryz.prog W 0 (fun _ => true) true m 2 (List.take (Tryz.prog.cellsOf 2) (List.drop 2 [c0, c1, c2, c3, c4, c5, c6, c7, c8, c9, c10, c11, c12, c13, c14, c15])) = some z2 := g2
  rw [cells_int] at g2
  obtain ⟨z3, g3⟩ := get 3 _ rfl
  have g3 : DataW.trod enc Tryz.prog W 0 (fun _ => true) true m 2 (List.take (Tryz.prog.cellsOf 2) (List.drop 3 [c0, c1, c2, c3, c4, c5, c6, c7, c8, c9, c10, c11, c12, c13, c14, c15])) = some z3 := g3
  rw [cells_int] at g3
  obtain ⟨z4, g4⟩ := get 4 _ rfl
  have g4 : DataW.trod enc Tryz.prog W 0 (fun _ => true) true m 2 (List.take (Tryz.prog.cellsOf 2) (List.drop 4 [c0, c1, c2, c3, c4, c5, c6, c7, c8, c9, c10, c11, c12, c13, c14, c15])) = some z4 := g4
  rw [cells_int] at g4
  obtain ⟨z5, g5⟩ := get 5 _ rfl
  have g5 : DataW.trod enc Tryz.prog W 0 (fun _ => true) true m 57 (List.take (Tryz.prog.cellsOf 57) (List.drop 5 [c0, c1, c2, c3, c4, c5, c6, c7, c8, c9, c10, c11, c12, c13, c14, c15])) = some z5 := g5
  rw [cells_stamp] at g5
  obtain ⟨z6, g6⟩ := get 6 _ rfl
  have g6 : DataW.trod enc Tryz.prog W 0 (fun _ => true) true m 2 (List.take (Tryz.prog.cellsOf 2) (List.drop 7 [c0, c1, c2, c3, c4, c5, c6, c7, c8, c9, c10, c11, c12, c13, c14, c15])) = some z6 := g6
  rw [cells_int] at g6
  obtain ⟨z7, g7⟩ := get 7 _ rfl
  have g7 : DataW.trod enc Tryz.prog W 0 (fun _ => true) true m 57 (List.take (Tryz.prog.cellsOf 57) (List.drop 8 [c0, c1, c2, c3, c4, c5, c6, c7, c8, c9, c10, c11, c12, c13, c14, c15])) = some z7 := g7
  rw [cells_stamp] at g7
  obtain ⟨z8, g8⟩ := get 8 _ rfl
  have g8 : DataW.trod enc Tryz.prog W 0 (fun _ => true) true m 2 (List.take (Tryz.prog.cellsOf 2) (List.drop 10 [c0, c1, c2, c3, c4, c5, c6, c7, c8, c9, c10, c11, c12, c13, c14, c15])) = some z8 := g8
  rw [cells_int] at g8
  obtain ⟨z9, g9⟩ := get 9 _ rfl
  have g9 : DataW.trod enc Tryz.prog W 0 (fun _ => true) true m 58 (List.take (Tryz.prog.cellsOf 58) (List.drop 11 [c0, c1, c2, c3, c4, c5, c6, c7, c8, c9, c10, c11, c12, c13, c14, c15])) = some z9 := g9
  rw [cells_seals] at g9
  obtain ⟨z10, g10⟩ := get 10 _ rfl
  have g10 : DataW.trod enc Tryz.prog W 0 (fun _ => true) true m 58 (List.take (Tryz.prog.cellsOf 58) (List.drop 12 [c0, c1, c2, c3, c4, c5, c6, c7, c8, c9, c10, c11, c12, c13, c14, c15])) = some z10 := g10
  rw [cells_seals] at g10
  obtain ⟨z11, g11⟩ := get 11 _ rfl
  have g11 : DataW.trod enc Tryz.prog W 0 (fun _ => true) true m 57 (List.take (Tryz.prog.cellsOf 57) (List.drop 13 [c0, c1, c2, c3, c4, c5, c6, c7, c8, c9, c10, c11, c12, c13, c14, c15])) = some z11 := g11
  rw [cells_stamp] at g11
  obtain ⟨z12, g12⟩ := get 12 _ rfl
  have g12 : DataW.trod enc Tryz.prog W 0 (fun _ => true) true m 2 (List.take (Tryz.prog.cellsOf 2) (List.drop 15 [c0, c1, c2, c3, c4, c5, c6, c7, c8, c9, c10, c11, c12, c13, c14, c15])) = some z12 := g12
  rw [cells_int] at g12
  obtain ⟨x0, rfl⟩ := int_of (show DataW.trod enc Tryz.prog W 0 (fun _ => true) true m 2 [c0] = some z0 from g0)
  obtain ⟨x1, rfl⟩ := int_of (show DataW.trod enc Tryz.prog W 0 (fun _ => true) true m 2 [c1] = some z1 from g1)
  obtain ⟨x2, rfl⟩ := int_of (show DataW.trod enc Tryz.prog W 0 (fun _ => true) true m 2 [c2] = some z2 from g2)
  obtain ⟨x3, rfl⟩ := int_of (show DataW.trod enc Tryz.prog W 0 (fun _ => true) true m 2 [c3] = some z3 from g3)
  obtain ⟨x4, rfl⟩ := int_of (show DataW.trod enc Tryz.prog W 0 (fun _ => true) true m 2 [c4] = some z4 from g4)
  obtain ⟨x5, x5', rfl, rfl⟩ := two_of (show DataW.trod enc Tryz.prog W 0 (fun _ => true) true m 57 [c5, c6] = some z5 from g5)
  obtain ⟨x6, rfl⟩ := int_of (show DataW.trod enc Tryz.prog W 0 (fun _ => true) true m 2 [c7] = some z6 from g6)
  obtain ⟨x7, x7', rfl, rfl⟩ := two_of (show DataW.trod enc Tryz.prog W 0 (fun _ => true) true m 57 [c8, c9] = some z7 from g7)
  obtain ⟨x8, rfl⟩ := int_of (show DataW.trod enc Tryz.prog W 0 (fun _ => true) true m 2 [c10] = some z8 from g8)
  obtain ⟨A9, n9, cap9, ps9, rfl, hp9, hm9⟩ := pairs_of Tryz.underlying58 Tryz.underlying138 (by kernel_rfl) rfl rfl (by kernel_rfl) (by kernel_rfl) Tryz.underlying2 Tryz.underlying2 (show DataW.trod enc Tryz.prog W 0 (fun _ => true) true m 58 [c11] = some z9 from g9)
  obtain ⟨A10, n10, cap10, ps10, rfl, hp10, hm10⟩ := pairs_of Tryz.underlying58 Tryz.underlying138 (by kernel_rfl) rfl rfl (by kernel_rfl) (by kernel_rfl) Tryz.underlying2 Tryz.underlying2 (show DataW.trod enc Tryz.prog W 0 (fun _ => true) true m 58 [c12] = some z10 from g10)
  obtain ⟨x11, x11', rfl, rfl⟩ := two_of (show DataW.trod enc Tryz.prog W 0 (fun _ => true) true m 57 [c13, c14] = some z11 from g11)
  obtain ⟨x12, rfl⟩ := int_of (show DataW.trod enc Tryz.prog W 0 (fun _ => true) true m 2 [c15] = some z12 from g12)
  exact ⟨x0, x1, x2, x3, x4, x5, x5', x6, x7, x7', x8, A9, n9, cap9, A10, n10, cap10, x11, x11', x12, ps9, ps10, rfl, hp9, hm9, hp10, hm10⟩

end Go.Proofs.YtjdepjpjjgkmbaaGreat

/- An open that comes in is read as four numbers, a list of opens as a list of them, a shelf as three numbers and two lists; no conditions. -/
namespace Go.Proofs.YtjdepjpjjgkmbaaGreat
set_option maxRecDepth 100000
open Go.ChangeShapes Go.WideShapes Go.ChangeAt Go.RowKit Go.Deep
set_option linter.unusedVariables false

theorem cells_open : Tryz.prog.cellsOf 197 = 4 := by kernel_rfl
theorem cells_opens : Tryz.prog.cellsOf 71 = 1 := by kernel_rfl
theorem cells_reg : Tryz.prog.cellsOf 73 = 5 := by kernel_rfl

/-- An open's four cells, read. -/
theorem four_of {H : Type} {enc : TypeId × Value → H} {W : World} {m : Nat} {c0 c1 c2 c3 : Value} {y : DataW H × List MemPlace} (h : DataW.trod enc Tryz.prog W 0 (fun _ => true) true m 197 [c0, c1, c2, c3] = some y) :
    ∃ a b c d : Int, c0 = .int .i64 a ∧ c1 = .int .i64 b ∧ c2 = .int .i64 c ∧ c3 = .int .i64 d := by
  obtain ⟨m', get⟩ := sub_fields Tryz.underlying197 h
  obtain ⟨z0, g0⟩ := get 0 _ rfl
  have g0 : DataW.trod enc Tryz.prog W 0 (fun _ => true) true m' 2 (List.take (Tryz.prog.cellsOf 2) (List.drop 0 [c0, c1, c2, c3])) = some z0 := g0
  rw [cells_int] at g0
  obtain ⟨z1, g1⟩ := get 1 _ rfl
  have g1 : DataW.trod enc Tryz.prog W 0 (fun _ => true) true m' 57 (List.take (Tryz.prog.cellsOf 57) (List.drop 1 [c0, c1, c2, c3])) = some z1 := g1
  rw [cells_stamp] at g1
  obtain ⟨z2, g2⟩ := get 2 _ rfl
  have g2 : DataW.trod enc Tryz.prog W 0 (fun _ => true) true m' 2 (List.take (Tryz.prog.cellsOf 2) (List.drop 3 [c0, c1, c2, c3])) = some z2 := g2
  rw [cells_int] at g2
  obtain ⟨a, ha⟩ := int_of (show DataW.trod enc Tryz.prog W 0 (fun _ => true) true m' 2 [c0] = some z0 from g0)
  obtain ⟨b, c, hb, hc⟩ := two_of (show DataW.trod enc Tryz.prog W 0 (fun _ => true) true m' 57 [c1, c2] = some z1 from g1)
  obtain ⟨d, hd⟩ := int_of (show DataW.trod enc Tryz.prog W 0 (fun _ => true) true m' 2 [c3] = some z2 from g2)
  exact ⟨a, b, c, d, ha, hb, hc, hd⟩

/-- A list of opens, read. -/
theorem opens_of {H : Type} {enc : TypeId × Value → H} {W : World} {fuel : Nat} {v : Value} {x : DataW H × List MemPlace} (h : DataW.trod enc Tryz.prog W 0 (fun _ => true) true fuel 71 [v] = some x) :
    ∃ (A : Option Addr) (n cap : Nat) (os : List Opn), v = .slice A n cap ∧ Quads W W.heap.size A n os ∧ n ≤ maxLen := by
  rcases open_slice Tryz.underlying71 h with ⟨e4, _⟩ | ⟨a, len, cap, m, n, D, Pl, e4, _, hl, hm, hmm, _, hx⟩
  · simp only [List.cons.injEq, and_true] at e4
    subst e4
    exact ⟨none, 0, 0, [], rfl, ⟨rfl, fun h => absurd h (by omega)⟩, by unfold maxLen; omega⟩
  · simp only [List.cons.injEq, and_true] at e4
    subst e4
    have hmm : m = cap := by simpa using hmm
    have each : ∀ i, i < len → ∃ q : Opn, W.cell? (a.add (i * 4)) = some (.int .i64 q.1) ∧ W.cell? (a.add (i * 4 + 1)) = some (.int .i64 q.2.1) ∧ W.cell? (a.add (i * 4 + 2)) = some (.int .i64 q.2.2.1) ∧ W.cell? (a.add (i * 4 + 3)) = some (.int .i64 q.2.2.2) := by
      intro i hi
      obtain ⟨cs', h1, h2⟩ := hx i (by omega)
      rw [cells_open] at h1
      obtain ⟨_, hlen, hcell⟩ := World.cells?_some h1
      match cs', hlen with
      | [c0, c1, c2, c3], _ =>
        obtain ⟨z0, z1, z2, z3, rfl, rfl, rfl, rfl⟩ := four_of h2
        have e0 := hcell 0 (by omega)
        have e1 := hcell 1 (by omega)
        have e2 := hcell 2 (by omega)
        have e3 := hcell 3 (by omega)
        rw [add_add] at e0 e1 e2 e3
        exact ⟨(z0, z1, z2, z3), by simpa using e0, by simpa using e1, by simpa using e2, by simpa using e3⟩
    obtain ⟨q, hq⟩ := choose_lt each
    refine ⟨some a, len, cap, (List.range len).map q, rfl, ⟨by simp, fun hn => ?_⟩, by omega⟩
    obtain ⟨b, o, spot⟩ := a
    have hs : spot = none := by
      have := (hq 0 (by omega)).1
      simpa [Addr.add] using World.cell?_spot this
    subst hs
    have ea : ∀ i, (⟨b, o, none⟩ : Addr).add i = ⟨b, o + i, none⟩ := fun i => by
      unfold Addr.add
      split
      · simp_all
      · rfl
    refine ⟨b, o, rfl, ?_, fun i hi => ?_⟩
    · have := block_lt_of_cell (hq 0 (by omega)).1
      rw [ea] at this
      exact this
    · obtain ⟨h0, h1, h2, h3⟩ := hq i hi
      rw [ea] at h0 h1 h2 h3
      have ep : oth ((List.range len).map q) i = q i := by simp [oth, hi]
      rw [ep]
      exact ⟨h0, h1, h2, h3⟩

/-- What the reading of a shelf that came in tells. -/
theorem reg_read {H : Type} {enc : TypeId × Value → H} {W : World} {r : Reach} {b0 : Nat} {v : Value} {d : DataW H} {p : List MemPlace} (hv : Value.okWide Tryz.prog W r b0 73 v) (h : DataW.Trod enc Tryz.prog W 0 (fun _ => true) true 73 v d p) :
    ∃ (rt rq rv : Int) (P : Option Addr) (p pc : Nat) (Q : Option Addr) (q qc : Nat) (ps : List (Int × Int)) (os : List Opn), v = .agg #[.int .i64 rt, .int .i64 rq, .int .i64 rv, .slice P p pc, .slice Q q qc] ∧ Pairs W W.heap.size P p ps ∧ p ≤ maxLen ∧ Quads W W.heap.size Q q os ∧ q ≤ maxLen := by
  obtain ⟨cs, rfl, hsz⟩ := okWide_struct Tryz.underlying73 hv
  obtain ⟨y0⟩ := cs
  have h5 : y0.length = 5 := by simpa using hsz.trans cells_reg
  obtain ⟨fuel, hf⟩ := h
  have hf : DataW.trod enc Tryz.prog W 0 (fun _ => true) true fuel 73 y0 = some (d, p) := hf
  match y0, h5 with
  | [c0, c1, c2, c3, c4], _ =>
    obtain ⟨m, get⟩ := sub_fields Tryz.underlying73 hf
    obtain ⟨z0, g0⟩ := get 0 _ rfl
    have g0 : DataW.trod enc Tryz.prog W 0 (fun _ => true) true m 57 (List.take (Tryz.prog.cellsOf 57) (List.drop 0 [c0, c1, c2, c3, c4])) = some z0 := g0
    rw [cells_stamp] at g0
    obtain ⟨z1, g1⟩ := get 1 _ rfl
    have g1 : DataW.trod enc Tryz.prog W 0 (fun _ => true) true m 2 (List.take (Tryz.prog.cellsOf 2) (List.drop 2 [c0, c1, c2, c3, c4])) = some z1 := g1
    rw [cells_int] at g1
    obtain ⟨z2, g2⟩ := get 2 _ rfl
    have g2 : DataW.trod enc Tryz.prog W 0 (fun _ => true) true m 58 (List.take (Tryz.prog.cellsOf 58) (List.drop 3 [c0, c1, c2, c3, c4])) = some z2 := g2
    rw [cells_seals] at g2
    obtain ⟨z3, g3⟩ := get 3 _ rfl
    have g3 : DataW.trod enc Tryz.prog W 0 (fun _ => true) true m 71 (List.take (Tryz.prog.cellsOf 71) (List.drop 4 [c0, c1, c2, c3, c4])) = some z3 := g3
    rw [cells_opens] at g3
    obtain ⟨rt, rq, rfl, rfl⟩ := two_of (show DataW.trod enc Tryz.prog W 0 (fun _ => true) true m 57 [c0, c1] = some z0 from g0)
    obtain ⟨rv, rfl⟩ := int_of (show DataW.trod enc Tryz.prog W 0 (fun _ => true) true m 2 [c2] = some z1 from g1)
    obtain ⟨A9, n9, cap9, ps9, rfl, hp9, hm9⟩ := pairs_of Tryz.underlying58 Tryz.underlying138 (by kernel_rfl) rfl rfl (by kernel_rfl) (by kernel_rfl) Tryz.underlying2 Tryz.underlying2 (show DataW.trod enc Tryz.prog W 0 (fun _ => true) true m 58 [c3] = some z2 from g2)
    obtain ⟨A, n, cap, os, rfl, hq, hmq⟩ := opens_of (show DataW.trod enc Tryz.prog W 0 (fun _ => true) true m 71 [c4] = some z3 from g3)
    exact ⟨rt, rq, rv, A9, n9, cap9, A, n, cap, ps9, os, rfl, hp9, hm9, hq, hmq⟩

end Go.Proofs.YtjdepjpjjgkmbaaGreat

namespace Go.Proofs.YtjdepjpjjgkmbaaGreat
open Go.ChangeShapes Go.WideShapes Go.ChangeAt Go.RowKit Go.Deep
set_option linter.unusedVariables false

namespace fnExactReadiedF
set_option maxRecDepth 100000 in
theorem lifted (os : Os) (started : os.Started) (H : Type) (enc : TypeId × Value → H) :
    ReturnsInHanded {} Tryz.checked os 9 .any (Rows.fnExactReadiedSpec.pre6 enc Tryz.prog Tryz.f9 Rows.fnExactReadiedRow.domain false) (Rows.fnExactReadiedSpec.post enc Tryz.prog Tryz.f9 false true false false) := by
  refine returnsInHanded_of_change (C := Tryz.checked) own started (by kernel_rfl) Tryz.func9
    (ChangeSpec.witness6 (enc := enc) (C := Tryz.checked) false ⟨#[], #[.agg #[.int .i64 0, .int .i64 0, .int .i64 0, .int .i64 0, .slice none 0 0], .agg #[.int .i64 0, .int .i64 0, .int .i64 0, .slice none 0 0, .slice none 0 0], .agg #[.int .i64 0, .int .i64 0, .int .i64 0, .int .i64 0, .int .i64 0, .int .i64 0, .int .i64 0, .int .i64 0, .int .i64 0, .int .i64 0, .int .i64 0, .slice none 0 0, .slice none 0 0, .int .i64 0, .int .i64 0, .int .i64 0]], []⟩ 8 (by kernel_rfl) (by kernel_rfl) (by kernel_rfl) (by kernel_rfl)) ?_
  intro W base args ds gs before hval0 hW hcnd _
  have hval : ∀ (j : Nat) t v, Tryz.f9.params[j]? = some t → args[j]? = some v → Value.okWide Tryz.prog W .any base t v := hval0
  have hW' := hW
  obtain ⟨p, q, hA0, hV, rfl, hfz, hnd⟩ := hW
  have hA : DataW.TrodAll enc Tryz.prog W 0 (fun _ => true) true Tryz.f9.params.toList args.toList ds p := hA0
  rw [Tryz.params9] at hA hval
  obtain ⟨v0, vs0, d0, ds0, p0, q0, hargs, rfl, rfl, h0, r0⟩ := trodAll_cons hA
  obtain ⟨v1, vs1, d1, ds1, p1, q1, rfl, rfl, rfl, h1, r1⟩ := trodAll_cons r0
  obtain ⟨v2, vs2, d2, ds2, p2, q2, rfl, rfl, rfl, h2, r2⟩ := trodAll_cons r1
  obtain ⟨rfl, rfl, rfl⟩ := trodAll_nil r2
  obtain rfl : args = #[v0, v1, v2] := by cases args; simp_all
  obtain ⟨rfl, rfl⟩ := trodVars_none hV
  have t0 := h0
  have lt0 : ∀ x ∈ p0, x.block < W.heap.size := by obtain ⟨m, hm⟩ := t0; exact DataW.trod_lt m _ _ _ hm
  obtain ⟨s0, l0, c0, sh0, A0, n0, cap0, zs0, rfl, hp0, hm0⟩ := group_read (hval 0 47 v0 rfl rfl) h0
  have t1 := h1
  have lt1 : ∀ x ∈ p1, x.block < W.heap.size := by obtain ⟨m, hm⟩ := t1; exact DataW.trod_lt m _ _ _ hm
  obtain ⟨rt1, rq1, rv1, PA1, pn1, pc1, QA1, qn1, qc1, ps1, os1, rfl, hp1, hm1, hq1, hmq1⟩ := reg_read (hval 1 73 v1 rfl rfl) h1
  have t2 := h2
  have lt2 : ∀ x ∈ p2, x.block < W.heap.size := by obtain ⟨m, hm⟩ := t2; exact DataW.trod_lt m _ _ _ hm
  obtain ⟨nk2, nf2, nt2, no2, nh2, ta2, tb2, va2, oa2, ob2, vb2, PA2, pn2, pc2, QA2, qn2, qc2, la2, lb2, vc2, ps2, qs2, rfl, hp2, hm2, hq2, hmq2⟩ := note_read (hval 2 75 v2 rfl rfl) h2
  clear hA0 hval0
  have walk : Calls Tryz.prog 9 #[.agg #[.int .i64 s0, .int .i64 l0, .int .i64 c0, .int .i64 sh0, .slice A0 n0 cap0], .agg #[.int .i64 rt1, .int .i64 rq1, .int .i64 rv1, .slice PA1 pn1 pc1, .slice QA1 qn1 qc1], .agg #[.int .i64 nk2, .int .i64 nf2, .int .i64 nt2, .int .i64 no2, .int .i64 nh2, .int .i64 ta2, .int .i64 tb2, .int .i64 va2, .int .i64 oa2, .int .i64 ob2, .int .i64 vb2, .slice PA2 pn2 pc2, .slice QA2 qn2 qc2, .int .i64 la2, .int .i64 lb2, .int .i64 vc2]] W fun e w' => e = .returned (.bool true) ∧ Below W.heap.size W w' := by
    exact exactRdd_any _ _ _ ⟨s0, l0, c0, sh0, zs0⟩ ⟨rt1, rq1, rv1, ps1, os1⟩ ⟨nk2, nf2, nt2, no2, nh2, ta2, tb2, va2, oa2, ob2, vb2, la2, lb2, vc2, ps2, qs2⟩ W ⟨A0, n0, cap0, rfl, hm0, hp0.all⟩ ⟨PA1, pn1, pc1, QA1, qn1, qc1, rfl, hm1, hmq1, hp1.all, hq1.all⟩ ⟨PA2, pn2, pc2, QA2, qn2, qc2, rfl, hm2, hmq2, hp2.all, hq2.all⟩
  refine walk.mono fun e W' ⟨he, bel⟩ => ?_
  subst he
  exact ⟨_, rfl, _, _, _, [], _, [], hW', trodAll_mk1 (shut_bool Tryz.underlying4 _), (trodAll_cons_mk (Below.trod laidOut (by kernel_rfl) (of_decide_eq_true (by kernel_rfl)) t0 bel lt0) (trodAll_cons_mk (Below.trod laidOut (by kernel_rfl) (of_decide_eq_true (by kernel_rfl)) t1 bel lt1) (trodAll_cons_mk (Below.trod laidOut (by kernel_rfl) (of_decide_eq_true (by kernel_rfl)) t2 bel lt2) trodAll_mk0))), rfl, bel.frame _, fun h => by cases h⟩

theorem proved : Rows.FnExactReadiedSaid :=
  OpenClaim.holds_of_wide 9 Tryz.f9 rfl rfl rfl rfl rfl rfl rfl ⟨rfl, rfl, rfl, rfl, rfl⟩ rfl rfl rfl rfl rfl (by kernel_rfl) Tryz.func9 (by kernel_rfl)
    (of_decide_eq_true (by kernel_rfl)) (by unfold Func.isWrapper; first | (rw [if_pos (by decide +kernel)]; kernel_rfl) | (rw [if_neg (by decide +kernel)]; exact ⟨rfl, rfl⟩))
    (fun os started H enc _ => lifted os started H enc)
end fnExactReadiedF

theorem fnExactReadied_holds : Rows.FnExactReadiedSaid := fnExactReadiedF.proved
end Go.Proofs.YtjdepjpjjgkmbaaGreat
