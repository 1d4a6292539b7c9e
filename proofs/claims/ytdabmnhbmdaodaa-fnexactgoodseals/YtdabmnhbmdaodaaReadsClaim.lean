/- A claim that comes in is read as five numbers, a seal as two. -/
import Derived.Test.YtdabmnhbmdaodaaFrame
namespace Go.Proofs.Ytdabmnhbmdaodaa
set_option maxRecDepth 100000
open Go.ChangeShapes Go.WideShapes Go.ChangeAt Go.RowKit Go.Deep
set_option linter.unusedVariables false

/-- What the reading of a seal that came in tells: its two numbers. -/
theorem seal_read {H : Type} {enc : TypeId × Value → H} {W : World} {r : Reach} {b0 : Nat} {v : Value} {d : DataW H} {p : List MemPlace} (hv : Value.okWide Try.prog W r b0 89 v) (h : DataW.Trod enc Try.prog W 0 (fun _ => true) true 89 v d p) :
    ∃ (c k : Int), v = .agg #[.int .i64 c, .int .i64 k] := by
  obtain ⟨l0, m, rfl, h5, get⟩ := one_fields Try.underlying89 (by kernel_rfl) (by kernel_rfl) hv h
  have h5 : l0.length = 2 := h5
  obtain ⟨c0, l1, rfl⟩ : ∃ c0 l1, l0 = c0 :: l1 := List.exists_cons_of_length_pos (by omega)
  obtain ⟨c1, l2, rfl⟩ : ∃ c0 l2, l1 = c0 :: l2 := List.exists_cons_of_length_pos (by simp only [List.length_cons] at h5; omega)
  obtain rfl : l2 = [] := List.eq_nil_of_length_eq_zero (by simp only [List.length_cons] at h5; omega)
  obtain ⟨y0, g0⟩ := get 0 _ _ rfl rfl
  obtain ⟨y1, g1⟩ := get 1 _ _ rfl rfl
  obtain ⟨s, e0, _, _⟩ := DataW.trod_int Try.underlying2 g0
  obtain ⟨l, e1, _, _⟩ := DataW.trod_int Try.underlying2 g1
  simp only [List.cons.injEq, and_true] at e0 e1
  subst e0 e1
  exact ⟨s, l, rfl⟩

theorem cells_int : Try.prog.cellsOf 2 = 1 := by kernel_rfl
theorem cells_stamp : Try.prog.cellsOf 52 = 2 := by kernel_rfl
theorem cells_claim : Try.prog.cellsOf 54 = 5 := by kernel_rfl

/-- What the reading of a claim that came in tells: its five numbers. -/
theorem claim_read {H : Type} {enc : TypeId × Value → H} {W : World} {r : Reach} {b0 : Nat} {v : Value} {d : DataW H} {p : List MemPlace} (hv : Value.okWide Try.prog W r b0 54 v) (h : DataW.Trod enc Try.prog W 0 (fun _ => true) true 54 v d p) :
    ∃ (ck ch ct cq cv : Int), v = .agg #[.int .i64 ck, .int .i64 ch, .int .i64 ct, .int .i64 cq, .int .i64 cv] := by
  obtain ⟨cs, rfl, hsz⟩ := okWide_struct Try.underlying54 hv
  obtain ⟨l0⟩ := cs
  have h5 : l0.length = 5 := by simpa using hsz.trans cells_claim
  obtain ⟨fuel, hf⟩ := h
  have hf : DataW.trod enc Try.prog W 0 (fun _ => true) true fuel 54 l0 = some (d, p) := hf
  obtain ⟨c0, l1, rfl⟩ : ∃ c0 l1, l0 = c0 :: l1 := List.exists_cons_of_length_pos (by omega)
  obtain ⟨c1, l2, rfl⟩ : ∃ c0 l2, l1 = c0 :: l2 := List.exists_cons_of_length_pos (by simp only [List.length_cons] at h5; omega)
  obtain ⟨c2, l3, rfl⟩ : ∃ c0 l3, l2 = c0 :: l3 := List.exists_cons_of_length_pos (by simp only [List.length_cons] at h5; omega)
  obtain ⟨c3, l4, rfl⟩ : ∃ c0 l4, l3 = c0 :: l4 := List.exists_cons_of_length_pos (by simp only [List.length_cons] at h5; omega)
  obtain ⟨c4, l5, rfl⟩ : ∃ c0 l5, l4 = c0 :: l5 := List.exists_cons_of_length_pos (by simp only [List.length_cons] at h5; omega)
  obtain rfl : l5 = [] := List.eq_nil_of_length_eq_zero (by simp only [List.length_cons] at h5; omega)
  obtain ⟨m, get⟩ := sub_fields Try.underlying54 hf
  obtain ⟨y0, g0⟩ := get 0 _ rfl
  obtain ⟨y1, g1⟩ := get 1 _ rfl
  obtain ⟨y2, g2⟩ := get 2 _ rfl
  obtain ⟨y3, g3⟩ := get 3 _ rfl
  have g0 : DataW.trod enc Try.prog W 0 (fun _ => true) true m 2 (List.take (Try.prog.cellsOf 2) (List.drop 0 [c0, c1, c2, c3, c4])) = some y0 := g0
  rw [cells_int] at g0
  have g1 : DataW.trod enc Try.prog W 0 (fun _ => true) true m 2 (List.take (Try.prog.cellsOf 2) (List.drop 1 [c0, c1, c2, c3, c4])) = some y1 := g1
  rw [cells_int] at g1
  have g2 : DataW.trod enc Try.prog W 0 (fun _ => true) true m 52 (List.take (Try.prog.cellsOf 52) (List.drop 2 [c0, c1, c2, c3, c4])) = some y2 := g2
  rw [cells_stamp] at g2
  have g3 : DataW.trod enc Try.prog W 0 (fun _ => true) true m 2 (List.take (Try.prog.cellsOf 2) (List.drop 4 [c0, c1, c2, c3, c4])) = some y3 := g3
  rw [cells_int] at g3
  obtain ⟨m', get'⟩ := sub_fields Try.underlying52 g2
  obtain ⟨z0, k0⟩ := get' 0 _ rfl
  obtain ⟨z1, k1⟩ := get' 1 _ rfl
  have k0 : DataW.trod enc Try.prog W 0 (fun _ => true) true m' 2 (List.take (Try.prog.cellsOf 2) (List.drop 0 [c2, c3])) = some z0 := k0
  rw [cells_int] at k0
  have k1 : DataW.trod enc Try.prog W 0 (fun _ => true) true m' 2 (List.take (Try.prog.cellsOf 2) (List.drop 1 [c2, c3])) = some z1 := k1
  rw [cells_int] at k1
  obtain ⟨a0, e0, _, _⟩ := DataW.trod_int Try.underlying2 g0
  obtain ⟨a1, e1, _, _⟩ := DataW.trod_int Try.underlying2 g1
  obtain ⟨a2, e2, _, _⟩ := DataW.trod_int Try.underlying2 k0
  obtain ⟨a3, e3, _, _⟩ := DataW.trod_int Try.underlying2 k1
  obtain ⟨a4, e4, _, _⟩ := DataW.trod_int Try.underlying2 g3
  simp only [List.drop_succ_cons, List.drop_zero, List.take_succ_cons, List.take_zero, List.cons.injEq, and_true] at e0 e1 e2 e3 e4
  subst e0 e1 e2 e3 e4
  exact ⟨a0, a1, a2, a3, a4, rfl⟩

end Go.Proofs.Ytdabmnhbmdaodaa
