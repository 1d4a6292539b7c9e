/- An open that comes in is read as four numbers, a list of opens as a list of them, a shelf as three numbers and two lists; no conditions. -/
import Derived.Test.YtdkmbcmenomecaaGreatReadsNote
import Derived.Test.YtdkmbcmenomecaaGreatRegBase
namespace Go.Proofs.YtdkmbcmenomecaaGreat
set_option maxRecDepth 100000
open Go.ChangeShapes Go.WideShapes Go.ChangeAt Go.RowKit Go.Deep
set_option linter.unusedVariables false

theorem cells_open : Tryz.prog.cellsOf 140 = 4 := by kernel_rfl
theorem cells_opens : Tryz.prog.cellsOf 50 = 1 := by kernel_rfl
theorem cells_reg : Tryz.prog.cellsOf 52 = 5 := by kernel_rfl

/-- An open's four cells, read. -/
theorem four_of {H : Type} {enc : TypeId × Value → H} {W : World} {m : Nat} {c0 c1 c2 c3 : Value} {y : DataW H × List MemPlace} (h : DataW.trod enc Tryz.prog W 0 (fun _ => true) true m 140 [c0, c1, c2, c3] = some y) :
    ∃ a b c d : Int, c0 = .int .i64 a ∧ c1 = .int .i64 b ∧ c2 = .int .i64 c ∧ c3 = .int .i64 d := by
  obtain ⟨m', get⟩ := sub_fields Tryz.underlying140 h
  obtain ⟨z0, g0⟩ := get 0 _ rfl
  have g0 : DataW.trod enc Tryz.prog W 0 (fun _ => true) true m' 2 (List.take (Tryz.prog.cellsOf 2) (List.drop 0 [c0, c1, c2, c3])) = some z0 := g0
  rw [cells_int] at g0
  obtain ⟨z1, g1⟩ := get 1 _ rfl
  have g1 : DataW.trod enc Tryz.prog W 0 (fun _ => true) true m' 48 (List.take (Tryz.prog.cellsOf 48) (List.drop 1 [c0, c1, c2, c3])) = some z1 := g1
  rw [cells_stamp] at g1
  obtain ⟨z2, g2⟩ := get 2 _ rfl
  have g2 : DataW.trod enc Tryz.prog W 0 (fun _ => true) true m' 2 (List.take (Tryz.prog.cellsOf 2) (List.drop 3 [c0, c1, c2, c3])) = some z2 := g2
  rw [cells_int] at g2
  obtain ⟨a, ha⟩ := int_of (show DataW.trod enc Tryz.prog W 0 (fun _ => true) true m' 2 [c0] = some z0 from g0)
  obtain ⟨b, c, hb, hc⟩ := two_of (show DataW.trod enc Tryz.prog W 0 (fun _ => true) true m' 48 [c1, c2] = some z1 from g1)
  obtain ⟨d, hd⟩ := int_of (show DataW.trod enc Tryz.prog W 0 (fun _ => true) true m' 2 [c3] = some z2 from g2)
  exact ⟨a, b, c, d, ha, hb, hc, hd⟩

theorem open_read {H : Type} {enc : TypeId × Value → H} {W : World} {r : Reach} {b0 : Nat} {v : Value} {d : DataW H} {p : List MemPlace} (hv : Value.okWide Tryz.prog W r b0 140 v) (h : DataW.Trod enc Tryz.prog W 0 (fun _ => true) true 140 v d p) :
    ∃ (a b c e : Int), v = .agg #[.int .i64 a, .int .i64 b, .int .i64 c, .int .i64 e] := by
  obtain ⟨cs, rfl, hsz⟩ := okWide_struct Tryz.underlying140 hv
  obtain ⟨y0⟩ := cs
  have h5 : y0.length = 4 := by simpa using hsz.trans cells_open
  obtain ⟨fuel, hf⟩ := h
  have hf : DataW.trod enc Tryz.prog W 0 (fun _ => true) true fuel 140 y0 = some (d, p) := hf
  match y0, h5 with
  | [c0, c1, c2, c3], _ =>
    obtain ⟨a, b, c, e, rfl, rfl, rfl, rfl⟩ := four_of hf
    exact ⟨a, b, c, e, rfl⟩

/-- A list of opens, read. -/
theorem opens_of {H : Type} {enc : TypeId × Value → H} {W : World} {fuel : Nat} {v : Value} {x : DataW H × List MemPlace} (h : DataW.trod enc Tryz.prog W 0 (fun _ => true) true fuel 50 [v] = some x) :
    ∃ (A : Option Addr) (n cap : Nat) (os : List Opn), v = .slice A n cap ∧ Quads W W.heap.size A n os ∧ n ≤ maxLen := by
  rcases open_slice Tryz.underlying50 h with ⟨e4, _⟩ | ⟨a, len, cap, m, n, D, Pl, e4, _, hl, hm, hmm, _, hx⟩
  · simp only [List.cons.injEq, and_true] at e4
    subst e4
    exact ⟨none, 0, 0, [], rfl, ⟨rfl, fun h => absurd h (by omega)⟩, by unfold maxLen; omega⟩
  · simp only [List.cons.injEq, and_true] at e4
    subst e4
    have hmm : m = cap := by simpa using hmm
    have each : ∀ i, i < len → ∃ q : Opn, W.cell? (a.add (i * 4)) = some (.int .i64 q.1) ∧ W.cell? (a.add (i * 4 + 1)) = some (.int .i64 q.2.1) ∧ W.cell? (a.add (i * 4 + 2)) = some (.int .i64 q.2.2.1) ∧ W.cell? (a.add (i * 4 + 3)) = some (.int .i64 q.2.2.2) := by
      intro i hi
      obtain ⟨cs', h1, h2⟩ := hx i (by omega)
      rw [cells_open] at h1
      obtain ⟨_, hlen, hcell⟩ := World.cells?_some h1
      match cs', hlen with
      | [c0, c1, c2, c3], _ =>
        obtain ⟨z0, z1, z2, z3, rfl, rfl, rfl, rfl⟩ := four_of h2
        have e0 := hcell 0 (by omega)
        have e1 := hcell 1 (by omega)
        have e2 := hcell 2 (by omega)
        have e3 := hcell 3 (by omega)
        rw [add_add] at e0 e1 e2 e3
        exact ⟨(z0, z1, z2, z3), by simpa using e0, by simpa using e1, by simpa using e2, by simpa using e3⟩
    obtain ⟨q, hq⟩ := choose_lt each
    refine ⟨some a, len, cap, (List.range len).map q, rfl, ⟨by simp, fun hn => ?_⟩, by omega⟩
    obtain ⟨b, o, spot⟩ := a
    have hs : spot = none := by
      have := (hq 0 (by omega)).1
      simpa [Addr.add] using World.cell?_spot this
    subst hs
    have ea : ∀ i, (⟨b, o, none⟩ : Addr).add i = ⟨b, o + i, none⟩ := fun i => by
      unfold Addr.add
      split
      · simp_all
      · rfl
    refine ⟨b, o, rfl, ?_, fun i hi => ?_⟩
    · have := block_lt_of_cell (hq 0 (by omega)).1
      rw [ea] at this
      exact this
    · obtain ⟨h0, h1, h2, h3⟩ := hq i hi
      rw [ea] at h0 h1 h2 h3
      have ep : oth ((List.range len).map q) i = q i := by simp [oth, hi]
      rw [ep]
      exact ⟨h0, h1, h2, h3⟩

/-- What the reading of a shelf that came in tells. -/
theorem reg_read {H : Type} {enc : TypeId × Value → H} {W : World} {r : Reach} {b0 : Nat} {v : Value} {d : DataW H} {p : List MemPlace} (hv : Value.okWide Tryz.prog W r b0 52 v) (h : DataW.Trod enc Tryz.prog W 0 (fun _ => true) true 52 v d p) :
    ∃ (rt rq rv : Int) (P : Option Addr) (p pc : Nat) (Q : Option Addr) (q qc : Nat) (ps : List (Int × Int)) (os : List Opn), v = .agg #[.int .i64 rt, .int .i64 rq, .int .i64 rv, .slice P p pc, .slice Q q qc] ∧ Pairs W W.heap.size P p ps ∧ p ≤ maxLen ∧ Quads W W.heap.size Q q os ∧ q ≤ maxLen := by
  obtain ⟨cs, rfl, hsz⟩ := okWide_struct Tryz.underlying52 hv
  obtain ⟨y0⟩ := cs
  have h5 : y0.length = 5 := by simpa using hsz.trans cells_reg
  obtain ⟨fuel, hf⟩ := h
  have hf : DataW.trod enc Tryz.prog W 0 (fun _ => true) true fuel 52 y0 = some (d, p) := hf
  match y0, h5 with
  | [c0, c1, c2, c3, c4], _ =>
    obtain ⟨m, get⟩ := sub_fields Tryz.underlying52 hf
    obtain ⟨z0, g0⟩ := get 0 _ rfl
    have g0 : DataW.trod enc Tryz.prog W 0 (fun _ => true) true m 48 (List.take (Tryz.prog.cellsOf 48) (List.drop 0 [c0, c1, c2, c3, c4])) = some z0 := g0
    rw [cells_stamp] at g0
    obtain ⟨z1, g1⟩ := get 1 _ rfl
    have g1 : DataW.trod enc Tryz.prog W 0 (fun _ => true) true m 2 (List.take (Tryz.prog.cellsOf 2) (List.drop 2 [c0, c1, c2, c3, c4])) = some z1 := g1
    rw [cells_int] at g1
    obtain ⟨z2, g2⟩ := get 2 _ rfl
    have g2 : DataW.trod enc Tryz.prog W 0 (fun _ => true) true m 49 (List.take (Tryz.prog.cellsOf 49) (List.drop 3 [c0, c1, c2, c3, c4])) = some z2 := g2
    rw [cells_seals] at g2
    obtain ⟨z3, g3⟩ := get 3 _ rfl
    have g3 : DataW.trod enc Tryz.prog W 0 (fun _ => true) true m 50 (List.take (Tryz.prog.cellsOf 50) (List.drop 4 [c0, c1, c2, c3, c4])) = some z3 := g3
    rw [cells_opens] at g3
    obtain ⟨rt, rq, rfl, rfl⟩ := two_of (show DataW.trod enc Tryz.prog W 0 (fun _ => true) true m 48 [c0, c1] = some z0 from g0)
    obtain ⟨rv, rfl⟩ := int_of (show DataW.trod enc Tryz.prog W 0 (fun _ => true) true m 2 [c2] = some z1 from g1)
    obtain ⟨A9, n9, cap9, ps9, rfl, hp9, hm9⟩ := pairs_of Tryz.underlying49 Tryz.underlying137 (by kernel_rfl) rfl rfl (by kernel_rfl) (by kernel_rfl) Tryz.underlying2 Tryz.underlying2 (show DataW.trod enc Tryz.prog W 0 (fun _ => true) true m 49 [c3] = some z2 from g2)
    obtain ⟨A, n, cap, os, rfl, hq, hmq⟩ := opens_of (show DataW.trod enc Tryz.prog W 0 (fun _ => true) true m 50 [c4] = some z3 from g3)
    exact ⟨rt, rq, rv, A9, n9, cap9, A, n, cap, ps9, os, rfl, hp9, hm9, hq, hmq⟩

end Go.Proofs.YtdkmbcmenomecaaGreat
