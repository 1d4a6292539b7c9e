/- FnExactNoted: at every group, journal, four numbers, stamp and list of seals the program answers as its model and leaves its argument alone: the law answers true; no condition beyond the given row's own. -/
import Derived.Test.YtjdepjpjjgkmbaaGreatRows
import Derived.Test.YtjdepjpjjgkmbaaGreatExactNotedSeg0
import Derived.Test.YtjdepjpjjgkmbaaGreatChecked
import Derived.WalkKit
import Derived.ProofKit
import Derived.OpenShut
import Derived.ShutString
import Derived.ChangeOld
import Derived.Below
import Derived.Carry
import Derived.Deep.Fields
import Derived.Laws.Rows
import Derived.Test.YtjdepjpjjgkmbaaGreatExactNotedSeg1
import Derived.Deep.SlicePairs
import Derived.Test.YtjdepjpjjgkmbaaGreatExactNotedSeg3
import Derived.Test.YtjdepjpjjgkmbaaGreatExactNotedSeg6

/- A struct of one-cell fields that comes in is read field by field; two facts of the program's own; no conditions. -/
namespace Go.Proofs.YtjdepjpjjgkmbaaGreat
open Go.ChangeShapes Go.WideShapes Go.ChangeAt Go.RowKit Go.Deep
set_option linter.unusedVariables false

/-- A struct of one-cell fields, by value: its cells, each with its own reading. -/
theorem one_fields {H : Type} {enc : TypeId × Value → H} {P : Program} {W : World} {r : Reach} {b0 : Nat} {t : TypeId} {fs : Array Field} {v : Value} {d : DataW H} {p : List MemPlace} (hs : P.underlying t = some (.struct fs)) (hone : oneCellFields P fs = true) (hC : P.cellsOf t = fs.size)
    (hv : Value.okWide P W r b0 t v) (h : DataW.Trod enc P W 0 (fun _ => true) true t v d p) :
    ∃ (l : List Value) (m : Nat), v = .agg l.toArray ∧ l.length = fs.size ∧ ∀ (i : Nat) (f : Field) (u : Value), fs[i]? = some f → l[i]? = some u → ∃ y, DataW.trod enc P W 0 (fun _ => true) true m f.type [u] = some y := by
  obtain ⟨cs, rfl, hsz⟩ := okWide_struct hs hv
  obtain ⟨fuel, hf⟩ := h
  obtain ⟨xs, m, _, _, _, hxl, hg⟩ := DataW.trod_struct hs hf
  obtain ⟨l⟩ := cs
  refine ⟨l, m, rfl, by simpa using hsz.trans hC, fun i f u hi hu => ?_⟩
  have h1 := hg i f hi
  obtain ⟨ho, hk⟩ := hone_of hone i f hi
  rw [ho, hk] at h1
  have e : ((Value.agg (List.toArray l)).cells.toList.drop i).take 1 = [u] := by
    show (l.drop i).take 1 = [u]
    rw [List.take_one, List.head?_drop, hu]
    rfl
  rw [e] at h1
  have hlt : i < xs.length := by rw [hxl]; exact (Array.getElem?_eq_some_iff.1 hi).1
  exact ⟨_, h1.trans (List.getElem?_eq_getElem hlt)⟩

/-- Whatever struct, its cells laid out: each field's own cells with their own reading. -/
theorem sub_fields {H : Type} {enc : TypeId × Value → H} {P : Program} {W : World} {t : TypeId} {fs : Array Field} {fuel : Nat} {cs : List Value} {x : DataW H × List MemPlace} (hs : P.underlying t = some (.struct fs)) (h : DataW.trod enc P W 0 (fun _ => true) true fuel t cs = some x) :
    ∃ m, ∀ (i : Nat) (f : Field), fs[i]? = some f → ∃ y, DataW.trod enc P W 0 (fun _ => true) true m f.type ((cs.drop f.offset).take (P.cellsOf f.type)) = some y := by
  obtain ⟨xs, m, _, _, _, hxl, hg⟩ := DataW.trod_struct hs h
  refine ⟨m, fun i f hi => ?_⟩
  have h1 := hg i f hi
  have hlt : i < xs.length := by rw [hxl]; exact (Array.getElem?_eq_some_iff.1 hi).1
  exact ⟨_, h1.trans (List.getElem?_eq_getElem hlt)⟩

theorem own : ownKnob Tryz.prog.godebug = none := by kernel_rfl
theorem laidOut : laidOutB Tryz.prog = true := by kernel_rfl

end Go.Proofs.YtjdepjpjjgkmbaaGreat

/- A group that comes in is read as four numbers and a row of keys. -/
namespace Go.Proofs.YtjdepjpjjgkmbaaGreat
set_option maxRecDepth 100000
open Go.ChangeShapes Go.WideShapes Go.ChangeAt Go.RowKit Go.Deep
set_option linter.unusedVariables false

/-- What the reading of a group that came in tells: its four numbers, and its keys as a row. -/
theorem group_read {H : Type} {enc : TypeId × Value → H} {W : World} {r : Reach} {b0 : Nat} {v : Value} {d : DataW H} {p : List MemPlace} (hv : Value.okWide Tryz.prog W r b0 47 v) (h : DataW.Trod enc Tryz.prog W 0 (fun _ => true) true 47 v d p) :
    ∃ (s l c sh : Int) (A : Option Addr) (n cap : Nat) (zs : List Int), v = .agg #[.int .i64 s, .int .i64 l, .int .i64 c, .int .i64 sh, .slice A n cap] ∧ Row W W.heap.size A n zs ∧ n ≤ maxLen := by
  obtain ⟨l0, m, rfl, h5, get⟩ := one_fields Tryz.underlying47 (by kernel_rfl) (by kernel_rfl) hv h
  have h5 : l0.length = 5 := h5
  obtain ⟨c0, l1, rfl⟩ : ∃ c0 l1, l0 = c0 :: l1 := List.exists_cons_of_length_pos (by omega)
  obtain ⟨c1, l2, rfl⟩ : ∃ c0 l2, l1 = c0 :: l2 := List.exists_cons_of_length_pos (by simp only [List.length_cons] at h5; omega)
  obtain ⟨c2, l3, rfl⟩ : ∃ c0 l3, l2 = c0 :: l3 := List.exists_cons_of_length_pos (by simp only [List.length_cons] at h5; omega)
  obtain ⟨c3, l4, rfl⟩ : ∃ c0 l4, l3 = c0 :: l4 := List.exists_cons_of_length_pos (by simp only [List.length_cons] at h5; omega)
  obtain ⟨c4, l5, rfl⟩ : ∃ c0 l5, l4 = c0 :: l5 := List.exists_cons_of_length_pos (by simp only [List.length_cons] at h5; omega)
  obtain rfl : l5 = [] := List.eq_nil_of_length_eq_zero (by simp only [List.length_cons] at h5; omega)
  obtain ⟨y0, g0⟩ := get 0 _ _ rfl rfl
  obtain ⟨y1, g1⟩ := get 1 _ _ rfl rfl
  obtain ⟨y2, g2⟩ := get 2 _ _ rfl rfl
  obtain ⟨y3, g3⟩ := get 3 _ _ rfl rfl
  obtain ⟨y4, g4⟩ := get 4 _ _ rfl rfl
  obtain ⟨s, e0, _, _⟩ := DataW.trod_int Tryz.underlying2 g0
  obtain ⟨l, e1, _, _⟩ := DataW.trod_int Tryz.underlying2 g1
  obtain ⟨c, e2, _, _⟩ := DataW.trod_int Tryz.underlying2 g2
  obtain ⟨sh, e3, _, _⟩ := DataW.trod_int Tryz.underlying2 g3
  simp only [List.cons.injEq, and_true] at e0 e1 e2 e3
  subst e0 e1 e2 e3
  rcases open_ints Tryz.underlying24 Tryz.underlying2 (by kernel_rfl) g4 with ⟨e4, _⟩ | ⟨a, len, cap, zs, e4, _, hl, hm, hz, _, hcell, _⟩
  · simp only [List.cons.injEq, and_true] at e4
    subst e4
    exact ⟨s, l, c, sh, none, 0, 0, [], rfl, ⟨rfl, fun h => absurd h (by omega)⟩, by unfold maxLen; omega⟩
  · simp only [List.cons.injEq, and_true] at e4
    subst e4
    have hzc : zs.length = cap := by simpa using hz
    refine ⟨s, l, c, sh, some a, len, cap, zs.take len, rfl, ⟨by rw [List.length_take]; omega, fun hn => ?_⟩, by omega⟩
    obtain ⟨b, o, spot⟩ := a
    have hc0 := hcell 0 (by omega)
    have hs : spot = none := by simpa [Addr.add] using World.cell?_spot hc0
    subst hs
    refine ⟨b, o, rfl, ?_, fun i hi => ?_⟩
    · have := block_lt_of_cell hc0
      simpa [Addr.add] using this
    · have hci := hcell i (by omega)
      have ea : (⟨b, o, none⟩ : Addr).add i = ⟨b, o + i, none⟩ := by
        unfold Addr.add
        split
        · simp_all
        · rfl
      rw [ea] at hci
      rw [hci]
      have : nth (zs.take len) i = zs.getD i 0 := by simp [nth, hi]
      rw [this]

end Go.Proofs.YtjdepjpjjgkmbaaGreat

/- A stamp that comes in is read as two numbers, a list of stamps as a list of pairs; no conditions. -/
namespace Go.Proofs.YtjdepjpjjgkmbaaGreat
set_option maxRecDepth 100000
open Go.ChangeShapes Go.WideShapes Go.ChangeAt Go.RowKit Go.Deep
set_option linter.unusedVariables false

/-- What the reading of a stamp that came in tells: its two numbers. -/
theorem stamp_read {H : Type} {enc : TypeId × Value → H} {W : World} {r : Reach} {b0 : Nat} {v : Value} {d : DataW H} {p : List MemPlace} (hv : Value.okWide Tryz.prog W r b0 57 v) (h : DataW.Trod enc Tryz.prog W 0 (fun _ => true) true 57 v d p) :
    ∃ (c k : Int), v = .agg #[.int .i64 c, .int .i64 k] := by
  obtain ⟨l0, m, rfl, h5, get⟩ := one_fields Tryz.underlying57 (by kernel_rfl) (by kernel_rfl) hv h
  have h5 : l0.length = 2 := h5
  obtain ⟨c0, l1, rfl⟩ : ∃ c0 l1, l0 = c0 :: l1 := List.exists_cons_of_length_pos (by omega)
  obtain ⟨c1, l2, rfl⟩ : ∃ c0 l2, l1 = c0 :: l2 := List.exists_cons_of_length_pos (by simp only [List.length_cons] at h5; omega)
  obtain rfl : l2 = [] := List.eq_nil_of_length_eq_zero (by simp only [List.length_cons] at h5; omega)
  obtain ⟨y0, g0⟩ := get 0 _ _ rfl rfl
  obtain ⟨y1, g1⟩ := get 1 _ _ rfl rfl
  obtain ⟨s, e0, _, _⟩ := DataW.trod_int Tryz.underlying2 g0
  obtain ⟨l, e1, _, _⟩ := DataW.trod_int Tryz.underlying2 g1
  simp only [List.cons.injEq, and_true] at e0 e1
  subst e0 e1
  exact ⟨s, l, rfl⟩

/-- The number that a value is. -/
def intV : Value → Int
  | .int _ z => z
  | _ => 0

/-- What the reading of a slice of structs of two int64 tells: a list of pairs. -/
theorem pairs_of {H : Type} {enc : TypeId × Value → H} {P : Program} {W : World} {t e : TypeId} {f0 f1 : Field} {fuel : Nat} {v : Value} {x : DataW H × List MemPlace} (ht : P.underlying t = some (.slice e)) (he : P.underlying e = some (.struct #[f0, f1]))
    (ce : P.cellsOf e = 2) (o0 : f0.offset = 0) (o1 : f1.offset = 1) (c0 : P.cellsOf f0.type = 1) (c1 : P.cellsOf f1.type = 1) (u0 : P.underlying f0.type = some (.int .i64)) (u1 : P.underlying f1.type = some (.int .i64))
    (h : DataW.trod enc P W 0 (fun _ => true) true fuel t [v] = some x) :
    ∃ (A : Option Addr) (n cap : Nat) (ps : List (Int × Int)), v = .slice A n cap ∧ Pairs W W.heap.size A n ps ∧ n ≤ maxLen := by
  rcases open_slice_pairs ht he ce o0 o1 c0 c1 h with ⟨e4, _⟩ | ⟨a, len, cap, m, n, V0, V1, D0, D1, P0, P1, e4, _, hl, hm, hmm, _, hc⟩
  · simp only [List.cons.injEq, and_true] at e4
    subst e4
    exact ⟨none, 0, 0, [], rfl, ⟨rfl, fun h => absurd h (by omega)⟩, by unfold maxLen; omega⟩
  · simp only [List.cons.injEq, and_true] at e4
    subst e4
    have hmm : m = cap := by simpa using hmm
    refine ⟨some a, len, cap, (List.range len).map fun i => (intV (V0 i), intV (V1 i)), rfl, ⟨by simp, fun hn => ?_⟩, by omega⟩
    obtain ⟨b, o, spot⟩ := a
    have hs : spot = none := by
      have := (hc 0 (by omega)).1
      simpa [Addr.add] using World.cell?_spot this
    subst hs
    have ea : ∀ i, (⟨b, o, none⟩ : Addr).add i = ⟨b, o + i, none⟩ := fun i => by
      unfold Addr.add
      split
      · simp_all
      · rfl
    refine ⟨b, o, rfl, ?_, fun i hi => ?_⟩
    · have := block_lt_of_cell (hc 0 (by omega)).1
      rw [ea] at this
      exact this
    · obtain ⟨h0, h1, t0, t1⟩ := hc i (by omega)
      obtain ⟨z0, e0, _, _⟩ := DataW.trod_int u0 t0
      obtain ⟨z1, e1, _, _⟩ := DataW.trod_int u1 t1
      simp only [List.cons.injEq, and_true] at e0 e1
      rw [ea] at h0 h1
      have ep : pth ((List.range len).map fun i => (intV (V0 i), intV (V1 i))) i = (intV (V0 i), intV (V1 i)) := by simp [pth, hi]
      rw [ep, h0, show o + i * 2 + 1 = o + (i * 2 + 1) by omega, h1, e0, e1]
      exact ⟨rfl, rfl⟩

end Go.Proofs.YtjdepjpjjgkmbaaGreat

/- A list of seals that comes in is read as a list of pairs. -/
namespace Go.Proofs.YtjdepjpjjgkmbaaGreat
set_option maxRecDepth 100000
open Go.ChangeShapes Go.WideShapes Go.ChangeAt Go.RowKit Go.Deep

theorem seals_read {H : Type} {enc : TypeId × Value → H} {W : World} {r : Reach} {b0 : Nat} {v : Value} {d : DataW H} {p : List MemPlace} (hv : Value.okWide Tryz.prog W r b0 58 v) (h : DataW.Trod enc Tryz.prog W 0 (fun _ => true) true 58 v d p) :
    ∃ (A : Option Addr) (n cap : Nat) (ps : List (Int × Int)), v = .slice A n cap ∧ Pairs W W.heap.size A n ps ∧ n ≤ maxLen := by
  obtain ⟨a0, len0, cap0, rfl⟩ := okWide_slice Tryz.underlying58 hv
  obtain ⟨fuel, hf⟩ := h
  exact pairs_of Tryz.underlying58 Tryz.underlying138 (by kernel_rfl) rfl rfl (by kernel_rfl) (by kernel_rfl) Tryz.underlying2 Tryz.underlying2 hf

end Go.Proofs.YtjdepjpjjgkmbaaGreat

/- A claim that comes in is read as five numbers, a seal as two. -/
namespace Go.Proofs.YtjdepjpjjgkmbaaGreat
set_option maxRecDepth 100000
open Go.ChangeShapes Go.WideShapes Go.ChangeAt Go.RowKit Go.Deep
set_option linter.unusedVariables false

theorem cells_int : Tryz.prog.cellsOf 2 = 1 := by kernel_rfl
theorem cells_stamp : Tryz.prog.cellsOf 57 = 2 := by kernel_rfl
end Go.Proofs.YtjdepjpjjgkmbaaGreat

/- A note that comes in is read as fourteen numbers and two lists of pairs. -/
namespace Go.Proofs.YtjdepjpjjgkmbaaGreat
set_option maxRecDepth 100000
open Go.ChangeShapes Go.WideShapes Go.ChangeAt Go.RowKit Go.Deep
set_option linter.unusedVariables false

/-- One number, read. -/
theorem int_of {H : Type} {enc : TypeId × Value → H} {W : World} {m : Nat} {x : Value} {y : DataW H × List MemPlace} (h : DataW.trod enc Tryz.prog W 0 (fun _ => true) true m 2 [x] = some y) : ∃ z : Int, x = .int .i64 z := by
  obtain ⟨z, e, _, _⟩ := DataW.trod_int Tryz.underlying2 h
  simp only [List.cons.injEq, and_true] at e
  exact ⟨z, e⟩
/-- A stamp's two cells, read. -/
theorem two_of {H : Type} {enc : TypeId × Value → H} {W : World} {m : Nat} {x x' : Value} {y : DataW H × List MemPlace} (h : DataW.trod enc Tryz.prog W 0 (fun _ => true) true m 57 [x, x'] = some y) : ∃ z z' : Int, x = .int .i64 z ∧ x' = .int .i64 z' := by
  obtain ⟨m', get'⟩ := sub_fields Tryz.underlying57 h
  obtain ⟨z0, k0⟩ := get' 0 _ rfl
  obtain ⟨z1, k1⟩ := get' 1 _ rfl
  have k0 : DataW.trod enc Tryz.prog W 0 (fun _ => true) true m' 2 (List.take (Tryz.prog.cellsOf 2) (List.drop 0 [x, x'])) = some z0 := k0
  rw [cells_int] at k0
  have k1 : DataW.trod enc Tryz.prog W 0 (fun _ => true) true m' 2 (List.take (Tryz.prog.cellsOf 2) (List.drop 1 [x, x'])) = some z1 := k1
  rw [cells_int] at k1
  obtain ⟨a, ha⟩ := int_of (show DataW.trod enc Tryz.prog W 0 (fun _ => true) true m' 2 [x] = some z0 from k0)
  obtain ⟨b, hb⟩ := int_of (show DataW.trod enc Tryz.prog W 0 (fun _ => true) true m' 2 [x'] = some z1 from k1)
  exact ⟨a, b, ha, hb⟩

end Go.Proofs.YtjdepjpjjgkmbaaGreat

/- A record that comes in is read as eight numbers and a list of pairs; no conditions. -/
namespace Go.Proofs.YtjdepjpjjgkmbaaGreat
set_option maxRecDepth 100000
open Go.ChangeShapes Go.WideShapes Go.ChangeAt Go.RowKit Go.Deep
set_option linter.unusedVariables false

theorem cells_sealsR : Tryz.prog.cellsOf 58 = 1 := by kernel_rfl
theorem cells_rec : Tryz.prog.cellsOf 188 = 9 := by kernel_rfl

/-- A record's nine cells, read. -/
theorem nine_of {H : Type} {enc : TypeId × Value → H} {W : World} {m : Nat} {c0 c1 c2 c3 c4 c5 c6 c7 c8 : Value} {y : DataW H × List MemPlace} (h : DataW.trod enc Tryz.prog W 0 (fun _ => true) true m 188 [c0, c1, c2, c3, c4, c5, c6, c7, c8] = some y) :
    ∃ (r1 r2 r3 r4 r5 r6 r7 : Int) (L : Option Addr) (n mc : Nat) (r8 : Int) (ps : List (Int × Int)), c0 = .int .i64 r1 ∧ c1 = .int .i64 r2 ∧ c2 = .int .i64 r3 ∧ c3 = .int .i64 r4 ∧ c4 = .int .i64 r5 ∧ c5 = .int .i64 r6 ∧ c6 = .int .i64 r7 ∧ c7 = .slice L n mc ∧ c8 = .int .i64 r8 ∧ Pairs W W.heap.size L n ps ∧ n ≤ maxLen := by
  obtain ⟨m', get⟩ := sub_fields Tryz.underlying188 h
  obtain ⟨z0, g0⟩ := get 0 _ rfl
  have g0 : DataW.trod enc Tryz.prog W 0 (fun _ => true) true m' 2 (List.take (Tryz.prog.cellsOf 2) (List.drop 0 [c0, c1, c2, c3, c4, c5, c6, c7, c8])) = some z0 := g0
  rw [cells_int] at g0
  obtain ⟨z1, g1⟩ := get 1 _ rfl
  have g1 : DataW.trod enc Tryz.prog W 0 (fun _ => true) true m' 2 (List.take (Tryz.prog.cellsOf 2) (List.drop 1 [c0, c1, c2, c3, c4, c5, c6, c7, c8])) = some z1 := g1
  rw [cells_int] at g1
  obtain ⟨z2, g2⟩ := get 2 _ rfl
  have g2 : DataW.trod enc Tryz.prog W 0 (fun _ => true) true m' 2 (List.take (Tryz.prog.cellsOf 2) (List.drop 2 [c0, c1, c2, c3, c4, c5, c6, c7, c8])) = some z2 := g2
  rw [cells_int] at g2
  obtain ⟨z3, g3⟩ := get 3 _ rfl
  have g3 : DataW.trod enc Tryz.prog W 0 (fun _ => true) true m' 2 (List.take (Tryz.prog.cellsOf 2) (List.drop 3 [c0, c1, c2, c3, c4, c5, c6, c7, c8])) = some z3 := g3
  rw [cells_int] at g3
  obtain ⟨z4, g4⟩ := get 4 _ rfl
  have g4 : DataW.trod enc Tryz.prog W 0 (fun _ => true) true m' 57 (List.take (Tryz.prog.cellsOf 57) (List.drop 4 [c0, c1, c2, c3, c4, c5, c6, c7, c8])) = some z4 := g4
  rw [cells_stamp] at g4
  obtain ⟨z5, g5⟩ := get 5 _ rfl
  have g5 : DataW.trod enc Tryz.prog W 0 (fun _ => true) true m' 2 (List.take (Tryz.prog.cellsOf 2) (List.drop 6 [c0, c1, c2, c3, c4, c5, c6, c7, c8])) = some z5 := g5
  rw [cells_int] at g5
  obtain ⟨z6, g6⟩ := get 6 _ rfl
  have g6 : DataW.trod enc Tryz.prog W 0 (fun _ => true) true m' 58 (List.take (Tryz.prog.cellsOf 58) (List.drop 7 [c0, c1, c2, c3, c4, c5, c6, c7, c8])) = some z6 := g6
  rw [cells_sealsR] at g6
  obtain ⟨z7, g7⟩ := get 7 _ rfl
  have g7 : DataW.trod enc Tryz.prog W 0 (fun _ => true) true m' 2 (List.take (Tryz.prog.cellsOf 2) (List.drop 8 [c0, c1, c2, c3, c4, c5, c6, c7, c8])) = some z7 := g7
  rw [cells_int] at g7
  obtain ⟨r1, rfl⟩ := int_of (show DataW.trod enc Tryz.prog W 0 (fun _ => true) true m' 2 [c0] = some z0 from g0)
  obtain ⟨r2, rfl⟩ := int_of (show DataW.trod enc Tryz.prog W 0 (fun _ => true) true m' 2 [c1] = some z1 from g1)
  obtain ⟨r3, rfl⟩ := int_of (show DataW.trod enc Tryz.prog W 0 (fun _ => true) true m' 2 [c2] = some z2 from g2)
  obtain ⟨r4, rfl⟩ := int_of (show DataW.trod enc Tryz.prog W 0 (fun _ => true) true m' 2 [c3] = some z3 from g3)
  obtain ⟨r5, r6, rfl, rfl⟩ := two_of (show DataW.trod enc Tryz.prog W 0 (fun _ => true) true m' 57 [c4, c5] = some z4 from g4)
  obtain ⟨r7, rfl⟩ := int_of (show DataW.trod enc Tryz.prog W 0 (fun _ => true) true m' 2 [c6] = some z5 from g5)
  obtain ⟨L, n, mc, ps, rfl, hp, hm⟩ := pairs_of Tryz.underlying58 Tryz.underlying138 (by kernel_rfl) rfl rfl (by kernel_rfl) (by kernel_rfl) Tryz.underlying2 Tryz.underlying2 (show DataW.trod enc Tryz.prog W 0 (fun _ => true) true m' 58 [c7] = some z6 from g6)
  obtain ⟨r8, rfl⟩ := int_of (show DataW.trod enc Tryz.prog W 0 (fun _ => true) true m' 2 [c8] = some z7 from g7)
  exact ⟨r1, r2, r3, r4, r5, r6, r7, L, n, mc, r8, ps, rfl, rfl, rfl, rfl, rfl, rfl, rfl, rfl, rfl, hp, hm⟩

end Go.Proofs.YtjdepjpjjgkmbaaGreat

/- An open that comes in is read as four numbers, a list of opens as a list of them, a shelf as three numbers and two lists; no conditions. -/
namespace Go.Proofs.YtjdepjpjjgkmbaaGreat
set_option maxRecDepth 100000
open Go.ChangeShapes Go.WideShapes Go.ChangeAt Go.RowKit Go.Deep
set_option linter.unusedVariables false

end Go.Proofs.YtjdepjpjjgkmbaaGreat

/- A list of records that comes in is read as a list of records, each with its list of pairs; no conditions. -/
namespace Go.Proofs.YtjdepjpjjgkmbaaGreat
set_option maxRecDepth 100000
open Go.ChangeShapes Go.WideShapes Go.ChangeAt Go.RowKit Go.Deep
set_option linter.unusedVariables false

theorem recs_of {H : Type} {enc : TypeId × Value → H} {W : World} {fuel : Nat} {v : Value} {x : DataW H × List MemPlace} (h : DataW.trod enc Tryz.prog W 0 (fun _ => true) true fuel 48 [v] = some x) :
    ∃ (A : Option Addr) (n cap : Nat) (ds : List RecD), v = .slice A n cap ∧ RecsF ds W (· < W.heap.size) A n ∧ n ≤ maxLen := by
  rcases open_slice Tryz.underlying48 h with ⟨e4, _⟩ | ⟨a, len, cap, m, n, D, Pl, e4, _, hl, hm, hmm, _, hx⟩
  · simp only [List.cons.injEq, and_true] at e4
    subst e4
    exact ⟨none, 0, 0, [], rfl, ⟨rfl, fun h => absurd h (by omega)⟩, by unfold maxLen; omega⟩
  · simp only [List.cons.injEq, and_true] at e4
    subst e4
    have hmm : m = cap := by simpa using hmm
    have each : ∀ i, i < len → ∃ q : RecD × Option Addr × Nat × Nat, (∀ j v, (q.1.cells (.slice q.2.1 q.2.2.1 q.2.2.2))[j]? = some v → W.cell? (a.add (i * 9 + j)) = some v) ∧ PairsF W (· < W.heap.size) q.2.1 q.2.2.1 q.1.ps ∧ q.2.2.1 ≤ maxLen := by
      intro i hi
      obtain ⟨cs', h1, h2⟩ := hx i (by omega)
      rw [cells_rec] at h1
      obtain ⟨_, hlen, hcell⟩ := World.cells?_some h1
      match cs', hlen with
      | [c0, c1, c2, c3, c4, c5, c6, c7, c8], hl9 =>
        obtain ⟨r1, r2, r3, r4, r5, r6, r7, L, n, mc, r8, ps, rfl, rfl, rfl, rfl, rfl, rfl, rfl, rfl, rfl, hp, hm⟩ := nine_of h2
        refine ⟨(⟨r1, r2, r3, r4, r5, r6, r7, ps, r8⟩, L, n, mc), fun j v hv => ?_, hp.all, hm⟩
        have hj : j < 9 := (Array.getElem?_eq_some_iff.1 hv).1
        have e := hcell j hj
        rw [add_add] at e
        rw [e]
        simpa [RecD.cells] using hv
    haveI : Inhabited (RecD × Option Addr × Nat × Nat) := ⟨(⟨0, 0, 0, 0, 0, 0, 0, [], 0⟩, none, 0, 0)⟩
    obtain ⟨q, hq⟩ := choose_lt each
    refine ⟨some a, len, cap, (List.range len).map fun i => (q i).1, rfl, ⟨by simp, fun hn => ?_⟩, by omega⟩
    obtain ⟨b, o, spot⟩ := a
    have hs : spot = none := by
      have := (hq 0 (by omega)).1 0 _ rfl
      simpa [Addr.add] using World.cell?_spot this
    subst hs
    have ea : ∀ i, (⟨b, o, none⟩ : Addr).add i = ⟨b, o + i, none⟩ := fun i => by
      unfold Addr.add
      split
      · simp_all
      · rfl
    have hb : b < W.heap.size := by
      have := block_lt_of_cell ((hq 0 (by omega)).1 0 _ rfl)
      rw [ea] at this
      exact this
    refine ⟨b, o, rfl, hb, hb, fun i hi => ?_⟩
    have hi' : i < len := by simpa using hi
    obtain ⟨h0, h1, h2⟩ := hq i hi'
    have ep : ((List.range len).map fun i => (q i).1)[i] = (q i).1 := by simp
    rw [ep]
    have C : ∀ j v, ((q i).1.cells (.slice (q i).2.1 (q i).2.2.1 (q i).2.2.2))[j]? = some v → W.cell? ⟨b, o + i * 9 + j, none⟩ = some v := fun j v hv => by
      have := h0 j v hv
      rw [ea, show o + (i * 9 + j) = o + i * 9 + j by omega] at this
      exact this
    exact ⟨(q i).2.1, (q i).2.2.1, (q i).2.2.2, ⟨C 0 _ rfl, C 1 _ rfl, C 2 _ rfl, C 3 _ rfl, C 4 _ rfl, C 5 _ rfl, C 6 _ rfl, C 7 _ rfl, C 8 _ rfl⟩, h2, h1⟩

end Go.Proofs.YtjdepjpjjgkmbaaGreat

/- A journal that comes in is read as two lists of records; no conditions. -/
namespace Go.Proofs.YtjdepjpjjgkmbaaGreat
set_option maxRecDepth 100000
open Go.ChangeShapes Go.WideShapes Go.ChangeAt Go.RowKit Go.Deep
set_option linter.unusedVariables false

theorem cells_recs : Tryz.prog.cellsOf 48 = 1 := by kernel_rfl
theorem cells_jour : Tryz.prog.cellsOf 50 = 2 := by kernel_rfl
/-- What the reading of a journal that came in tells. -/
theorem jour_read {H : Type} {enc : TypeId × Value → H} {W : World} {r : Reach} {b0 : Nat} {v : Value} {d : DataW H} {p : List MemPlace} (hv : Value.okWide Tryz.prog W r b0 50 v) (h : DataW.Trod enc Tryz.prog W 0 (fun _ => true) true 50 v d p) :
    ∃ (A : Option Addr) (n c : Nat) (A' : Option Addr) (n' c' : Nat) (ks ls : List RecD), v = .agg #[.slice A n c, .slice A' n' c'] ∧ RecsF ks W (· < W.heap.size) A n ∧ n ≤ maxLen ∧ RecsF ls W (· < W.heap.size) A' n' ∧ n' ≤ maxLen := by
  obtain ⟨cs, rfl, hsz⟩ := okWide_struct Tryz.underlying50 hv
  obtain ⟨y0⟩ := cs
  have h5 : y0.length = 2 := by simpa using hsz.trans cells_jour
  obtain ⟨fuel, hf⟩ := h
  have hf : DataW.trod enc Tryz.prog W 0 (fun _ => true) true fuel 50 y0 = some (d, p) := hf
  match y0, h5 with
  | [c0, c1], _ =>
    obtain ⟨m', get⟩ := sub_fields Tryz.underlying50 hf
    obtain ⟨z0, g0⟩ := get 0 _ rfl
    have g0 : DataW.trod enc Tryz.prog W 0 (fun _ => true) true m' 48 (List.take (Tryz.prog.cellsOf 48) (List.drop 0 [c0, c1])) = some z0 := g0
    rw [cells_recs] at g0
    obtain ⟨z1, g1⟩ := get 1 _ rfl
    have g1 : DataW.trod enc Tryz.prog W 0 (fun _ => true) true m' 48 (List.take (Tryz.prog.cellsOf 48) (List.drop 1 [c0, c1])) = some z1 := g1
    rw [cells_recs] at g1
    obtain ⟨A, n, c, ks, rfl, h1, m1⟩ := recs_of (show DataW.trod enc Tryz.prog W 0 (fun _ => true) true m' 48 [c0] = some z0 from g0)
    obtain ⟨A', n', c', ls, rfl, h2, m2⟩ := recs_of (show DataW.trod enc Tryz.prog W 0 (fun _ => true) true m' 48 [c1] = some z1 from g1)
    exact ⟨A, n, c, A', n', c', ks, ls, rfl, h1, m1, h2, m2⟩
end Go.Proofs.YtjdepjpjjgkmbaaGreat

namespace Go.Proofs.YtjdepjpjjgkmbaaGreat
open Go.ChangeShapes Go.WideShapes Go.ChangeAt Go.RowKit Go.Deep
set_option linter.unusedVariables false

namespace fnExactNotedF
set_option maxRecDepth 100000 in
theorem lifted (os : Os) (started : os.Started) (H : Type) (enc : TypeId × Value → H) :
    ReturnsInHanded {} Tryz.checked os 6 .any (Rows.fnExactNotedSpec.pre6 enc Tryz.prog Tryz.f6 Rows.fnExactNotedRow.domain false) (Rows.fnExactNotedSpec.post enc Tryz.prog Tryz.f6 false true false false) := by
  refine returnsInHanded_of_change (C := Tryz.checked) own started (by kernel_rfl) Tryz.func6
    (ChangeSpec.witness6 (enc := enc) (C := Tryz.checked) false ⟨#[], #[.agg #[.int .i64 0, .int .i64 0, .int .i64 0, .int .i64 0, .slice none 0 0], .agg #[.slice none 0 0, .slice none 0 0], .int .i64 0, .int .i64 0, .int .i64 0, .agg #[.int .i64 0, .int .i64 0], .int .i64 0, .slice none 0 0], []⟩ 8 (by kernel_rfl) (by kernel_rfl) (by kernel_rfl) (by kernel_rfl)) ?_
  intro W base args ds gs before hval0 hW hcnd _
  have hval : ∀ (j : Nat) t v, Tryz.f6.params[j]? = some t → args[j]? = some v → Value.okWide Tryz.prog W .any base t v := hval0
  have hW' := hW
  obtain ⟨p, q, hA0, hV, rfl, hfz, hnd⟩ := hW
  have hA : DataW.TrodAll enc Tryz.prog W 0 (fun _ => true) true Tryz.f6.params.toList args.toList ds p := hA0
  rw [Tryz.params6] at hA hval
  obtain ⟨v0, vs0, d0, ds0, p0, q0, hargs, rfl, rfl, h0, r0⟩ := trodAll_cons hA
  obtain ⟨v1, vs1, d1, ds1, p1, q1, rfl, rfl, rfl, h1, r1⟩ := trodAll_cons r0
  obtain ⟨v2, vs2, d2, ds2, p2, q2, rfl, rfl, rfl, h2, r2⟩ := trodAll_cons r1
  obtain ⟨v3, vs3, d3, ds3, p3, q3, rfl, rfl, rfl, h3, r3⟩ := trodAll_cons r2
  obtain ⟨v4, vs4, d4, ds4, p4, q4, rfl, rfl, rfl, h4, r4⟩ := trodAll_cons r3
  obtain ⟨v5, vs5, d5, ds5, p5, q5, rfl, rfl, rfl, h5, r5⟩ := trodAll_cons r4
  obtain ⟨v6, vs6, d6, ds6, p6, q6, rfl, rfl, rfl, h6, r6⟩ := trodAll_cons r5
  obtain ⟨v7, vs7, d7, ds7, p7, q7, rfl, rfl, rfl, h7, r7⟩ := trodAll_cons r6
  obtain ⟨rfl, rfl, rfl⟩ := trodAll_nil r7
  obtain rfl : args = #[v0, v1, v2, v3, v4, v5, v6, v7] := by cases args; simp_all
  obtain ⟨rfl, rfl⟩ := trodVars_none hV
  have t0 := h0
  have lt0 : ∀ x ∈ p0, x.block < W.heap.size := by obtain ⟨m, hm⟩ := t0; exact DataW.trod_lt m _ _ _ hm
  obtain ⟨s0, l0, c0, sh0, A0, n0, cap0, zs0, rfl, hp0, hm0⟩ := group_read (hval 0 47 v0 rfl rfl) h0
  have t1 := h1
  have lt1 : ∀ x ∈ p1, x.block < W.heap.size := by obtain ⟨m, hm⟩ := t1; exact DataW.trod_lt m _ _ _ hm
  obtain ⟨KA1, kn1, kc1, LA1, ln1, lc1, ks1, ls1, rfl, hp1, hm1, hq1, hmq1⟩ := jour_read (hval 1 50 v1 rfl rfl) h1
  obtain ⟨x2, rfl, rfl, rfl, wi2⟩ := open_int Tryz.underlying2 (hval 2 2 v2 rfl rfl) h2
  obtain ⟨x3, rfl, rfl, rfl, wi3⟩ := open_int Tryz.underlying2 (hval 3 2 v3 rfl rfl) h3
  obtain ⟨x4, rfl, rfl, rfl, wi4⟩ := open_int Tryz.underlying2 (hval 4 2 v4 rfl rfl) h4
  have t5 := h5
  have lt5 : ∀ x ∈ p5, x.block < W.heap.size := by obtain ⟨m, hm⟩ := t5; exact DataW.trod_lt m _ _ _ hm
  obtain ⟨c5, k5, rfl⟩ := stamp_read (hval 5 57 v5 rfl rfl) h5
  obtain ⟨x6, rfl, rfl, rfl, wi6⟩ := open_int Tryz.underlying2 (hval 6 2 v6 rfl rfl) h6
  have t7 := h7
  have lt7 : ∀ x ∈ p7, x.block < W.heap.size := by obtain ⟨m, hm⟩ := t7; exact DataW.trod_lt m _ _ _ hm
  obtain ⟨A7, n7, cap7, ps7, rfl, hp7, hm7⟩ := seals_read (hval 7 58 v7 rfl rfl) h7
  clear hA0 hval0
  have walk : Calls Tryz.prog 6 #[.agg #[.int .i64 s0, .int .i64 l0, .int .i64 c0, .int .i64 sh0, .slice A0 n0 cap0], .agg #[.slice KA1 kn1 kc1, .slice LA1 ln1 lc1], .int .i64 x2, .int .i64 x3, .int .i64 x4, .agg #[.int .i64 c5, .int .i64 k5], .int .i64 x6, .slice A7 n7 cap7] W fun e w' => e = .returned (.bool true) ∧ Below W.heap.size W w' := by
    exact exactNo10_any _ _ ⟨s0, l0, c0, sh0, zs0⟩ ⟨ks1, ls1⟩ x2 x3 x4 c5 k5 x6 A7 n7 cap7 ps7 W ⟨A0, n0, cap0, rfl, hm0, hp0.all⟩ ⟨KA1, kn1, kc1, LA1, ln1, lc1, rfl, hm1, hmq1, hp1, hq1⟩ hp7.all hm7
  refine walk.mono fun e W' ⟨he, bel⟩ => ?_
  subst he
  exact ⟨_, rfl, _, _, _, [], _, [], hW', trodAll_mk1 (shut_bool Tryz.underlying4 _), (trodAll_cons_mk (Below.trod laidOut (by kernel_rfl) (of_decide_eq_true (by kernel_rfl)) t0 bel lt0) (trodAll_cons_mk (Below.trod laidOut (by kernel_rfl) (of_decide_eq_true (by kernel_rfl)) t1 bel lt1) (trodAll_cons_mk (shut_int Tryz.underlying2 wi2) (trodAll_cons_mk (shut_int Tryz.underlying2 wi3) (trodAll_cons_mk (shut_int Tryz.underlying2 wi4) (trodAll_cons_mk (Below.trod laidOut (by kernel_rfl) (of_decide_eq_true (by kernel_rfl)) t5 bel lt5) (trodAll_cons_mk (shut_int Tryz.underlying2 wi6) (trodAll_cons_mk (Below.trod laidOut (by kernel_rfl) (of_decide_eq_true (by kernel_rfl)) t7 bel lt7) trodAll_mk0)))))))), rfl, bel.frame _, fun h => by cases h⟩

theorem proved : Rows.FnExactNotedSaid :=
  OpenClaim.holds_of_wide 6 Tryz.f6 rfl rfl rfl rfl rfl rfl rfl ⟨rfl, rfl, rfl, rfl, rfl⟩ rfl rfl rfl rfl rfl (by kernel_rfl) Tryz.func6 (by kernel_rfl)
    (of_decide_eq_true (by kernel_rfl)) (by unfold Func.isWrapper; first | (rw [if_pos (by decide +kernel)]; kernel_rfl) | (rw [if_neg (by decide +kernel)]; exact ⟨rfl, rfl⟩))
    (fun os started H enc _ => lifted os started H enc)
end fnExactNotedF

theorem fnExactNoted_holds : Rows.FnExactNotedSaid := fnExactNotedF.proved
end Go.Proofs.YtjdepjpjjgkmbaaGreat
