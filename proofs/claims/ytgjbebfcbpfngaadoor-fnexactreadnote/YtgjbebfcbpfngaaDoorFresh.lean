/- A variable made ahead of a call whose contract speaks of a world: what is known then; no conditions. -/
import Derived.Test.YtgjbebfcbpfngaaDoorDraw
namespace Go.Proofs.YtgjbebfcbpfngaaDoor
open Go.RowKit

theorem rowNew {w : World} {A : Option Addr} {n : Nat} {zs : List Int} (h : Row w w.heap.size A n zs) (o : Obj) : Row (w.alloc o) (w.alloc o).heap.size A n zs :=
  (h.below (bel_alloc w o) (Nat.le_refl _)).more (bel_alloc w o).size
theorem bel_of_alloc {w w' : World} {o : Obj} (h : Below (w.alloc o).heap.size (w.alloc o) w') : Below w.heap.size w w' := bel_trans (bel_alloc w o) h
theorem box_of_alloc {w w' : World} {t : TypeId} {cs : Array Value} (h : Below (w.alloc (.cells cs t)).heap.size (w.alloc (.cells cs t)) w') : Box w' w.heap.size t cs :=
  (Box.new w t cs).later h (by simp)
/-- A variable of two cells, written. -/
theorem Box.put2 {w : World} {g : Nat} {t : TypeId} {a b : Value} (h : Box w g t #[a, b]) (u v : Value) : Box ((w.setCell ⟨g, 0, none⟩ u).setCell ⟨g, 1, none⟩ v) g t #[u, v] := (h.set 0 u).set 1 v
theorem Box.put5 {w : World} {g : Nat} {t : TypeId} {a b c d e : Value} (h : Box w g t #[a, b, c, d, e]) (u0 u1 u2 u3 u4 : Value) : Box (((((w.setCell ⟨g, 0, none⟩ u0).setCell ⟨g, 1, none⟩ u1).setCell ⟨g, 2, none⟩ u2).setCell ⟨g, 3, none⟩ u3).setCell ⟨g, 4, none⟩ u4) g t #[u0, u1, u2, u3, u4] := ((((h.set 0 u0).set 1 u1).set 2 u2).set 3 u3).set 4 u4
theorem bel_put2 {w w' : World} {B g : Nat} (h : Below B w w') (hg : B ≤ g) (u v : Value) : Below B w ((w'.setCell ⟨g, 0, none⟩ u).setCell ⟨g, 1, none⟩ v) := (h.setCell hg u).setCell hg v
theorem Box.far2 {w : World} {g R : Nat} {t : TypeId} {cs : Array Value} (h : Box w g t cs) (hR : R ≠ g) (u v : Value) : Box ((w.setCell ⟨R, 0, none⟩ u).setCell ⟨R, 1, none⟩ v) g t cs :=
  (h.far (p := ⟨R, 0, none⟩) hR u).far (p := ⟨R, 1, none⟩) hR v

theorem twelve {w : World} {g g' g'' : Nat} {t t' t'' : TypeId} {v0 v1 v2 v3 v4 u0 u1 u2 u3 u4 y0 y1 : Value} (h : Box w g t #[v0, v1, v2, v3, v4]) (h' : Box w g' t' #[u0, u1, u2, u3, u4]) (h'' : Box w g'' t'' #[y0, y1]) :
    w.cell? ⟨g, 0, none⟩ = some v0 ∧ w.cell? ⟨g, 1, none⟩ = some v1 ∧ w.cell? ⟨g, 2, none⟩ = some v2 ∧ w.cell? ⟨g, 3, none⟩ = some v3 ∧ w.cell? ⟨g, 4, none⟩ = some v4 ∧
    w.cell? ⟨g', 0, none⟩ = some u0 ∧ w.cell? ⟨g', 1, none⟩ = some u1 ∧ w.cell? ⟨g', 2, none⟩ = some u2 ∧ w.cell? ⟨g', 3, none⟩ = some u3 ∧ w.cell? ⟨g', 4, none⟩ = some u4 ∧ w.cell? ⟨g'', 0, none⟩ = some y0 ∧ w.cell? ⟨g'', 1, none⟩ = some y1 :=
  ⟨h.cell 0, h.cell 1, h.cell 2, h.cell 3, h.cell 4, h'.cell 0, h'.cell 1, h'.cell 2, h'.cell 3, h'.cell 4, h''.cell 0, h''.cell 1⟩

end Go.Proofs.YtgjbebfcbpfngaaDoor
