/- The exact law of WithOpen answers true, whatever it is given: its walk (written by laws_with.py). -/
import Derived.Test.YtghdnokjgmmgiaaGreatVarReg
import Derived.Test.YtghdnokjgmmgiaaGreatSpecReg1
import Derived.Test.YtghdnokjgmmgiaaGreatLawsJoin
namespace Go.Proofs.YtghdnokjgmmgiaaGreat
open Go.RowKit

theorem pairsNew {w : World} {A : Option Addr} {n : Nat} {ps : List (Int × Int)} (h : Pairs w w.heap.size A n ps) (o : Obj) : Pairs (w.alloc o) (w.alloc o).heap.size A n ps := h.later (bel_alloc w o)
theorem quadsNew {w : World} {A : Option Addr} {n : Nat} {os : List Opn} (h : Quads w w.heap.size A n os) (o : Obj) : Quads (w.alloc o) (w.alloc o).heap.size A n os := h.later (bel_alloc w o)
theorem HeldQ.slcQ {w : World} {g n : Nat} {os : List Opn} (h : HeldQ w g os) (hl : os.length = n) (hm : n ≤ maxLen) : SlcQ w (.slice (some ⟨g, 0, none⟩) n n) os := .inr ⟨g, 0, n, n, rfl, Nat.le_refl _, hm, h.qds hl⟩
theorem nine {w : World} {g g' : Nat} {t t' : TypeId} {v0 v1 v2 v3 v4 u0 u1 u2 u3 : Value} (h : Box w g t #[v0, v1, v2, v3, v4]) (h' : Box w g' t' #[u0, u1, u2, u3]) :
    w.cell? ⟨g, 0, none⟩ = some v0 ∧ w.cell? ⟨g, 1, none⟩ = some v1 ∧ w.cell? ⟨g, 2, none⟩ = some v2 ∧ w.cell? ⟨g, 3, none⟩ = some v3 ∧ w.cell? ⟨g, 4, none⟩ = some v4 ∧ w.cell? ⟨g', 0, none⟩ = some u0 ∧ w.cell? ⟨g', 1, none⟩ = some u1 ∧ w.cell? ⟨g', 2, none⟩ = some u2 ∧ w.cell? ⟨g', 3, none⟩ = some u3 :=
  ⟨h.cell 0, h.cell 1, h.cell 2, h.cell 3, h.cell 4, h'.cell 0, h'.cell 1, h'.cell 2, h'.cell 3⟩
theorem boxFar5 {w : World} {g R : Nat} {t : TypeId} {cs : Array Value} (h : Box w g t cs) (hR : R ≠ g) (u0 u1 u2 u3 u4 : Value) : Box (((((w.setCell ⟨R, 0, none⟩ u0).setCell ⟨R, 1, none⟩ u1).setCell ⟨R, 2, none⟩ u2).setCell ⟨R, 3, none⟩ u3).setCell ⟨R, 4, none⟩ u4) g t cs :=
  ((((h.far (p := ⟨R, 0, none⟩) hR u0).far (p := ⟨R, 1, none⟩) hR u1).far (p := ⟨R, 2, none⟩) hR u2).far (p := ⟨R, 3, none⟩) hR u3).far (p := ⟨R, 4, none⟩) hR u4
theorem bel_put5 {w w' : World} {B g : Nat} (h : Below B w w') (hg : B ≤ g) (u0 u1 u2 u3 u4 : Value) : Below B w (((((w'.setCell ⟨g, 0, none⟩ u0).setCell ⟨g, 1, none⟩ u1).setCell ⟨g, 2, none⟩ u2).setCell ⟨g, 3, none⟩ u3).setCell ⟨g, 4, none⟩ u4) := ((((h.setCell hg u0).setCell hg u1).setCell hg u2).setCell hg u3).setCell hg u4
/-- A shelf was answered into a new variable. -/
def VarAt (w0 wr : World) (p : Value) (rt rq rv : Int) (ps : List (Int × Int)) (os : List Opn) : Prop :=
  ∃ (g : Nat) (A : Option Addr) (n c : Nat) (A' : Option Addr) (n' c' : Nat), p = .pointer (some ⟨g, 0, none⟩) ∧ Var wr w0.heap.size wr.heap.size g A n c A' n' c' rt rq rv ps os ∧ Below w0.heap.size w0 wr
theorem varAt_new {w0 W w4 : World} {B : Nat} {A : Option Addr} {n c : Nat} {A' : Option Addr} {n' c' : Nat} {rt rq rv : Int} {ps : List (Int × Int)} {os : List Opn} (h0 : w0.heap.size ≤ W.heap.size) (hB : W.heap.size ≤ B) (hB' : B ≤ w4.heap.size) (hR : ResP w4 W.heap.size B (.slice A n c) ps) (hV : ResO w4 B (.slice A' n' c') os) (hb : Below w0.heap.size w0 w4) :
    VarAt w0 (w4.alloc (.cells #[.int .i64 rt, .int .i64 rq, .int .i64 rv, .slice A n c, .slice A' n' c'] 32)) (.pointer (some ⟨w4.heap.size, 0, none⟩)) rt rq rv ps os :=
  ⟨_, _, _, _, _, _, _, rfl, var_new (W := W) h0 hB hB' hR hV, bel_trans hb (bel_alloc _ _)⟩
theorem varAt_put {w0 W w4 : World} {B g : Nat} {z0 z1 z2 z3 z4 : Value} {A : Option Addr} {n c : Nat} {A' : Option Addr} {n' c' : Nat} {rt rq rv : Int} {ps : List (Int × Int)} {os : List Opn} (X : Box w4 g 32 #[z0, z1, z2, z3, z4]) (hg : w0.heap.size ≤ g) (hgW : g < W.heap.size) (hB : W.heap.size ≤ B) (hB' : B ≤ w4.heap.size) (hR : ResP w4 W.heap.size B (.slice A n c) ps) (hV : ResO w4 B (.slice A' n' c') os) (hb : Below w0.heap.size w0 w4) :
    VarAt w0 (((((w4.setCell ⟨g, 0, none⟩ (.int .i64 rt)).setCell ⟨g, 1, none⟩ (.int .i64 rq)).setCell ⟨g, 2, none⟩ (.int .i64 rv)).setCell ⟨g, 3, none⟩ (.slice A n c)).setCell ⟨g, 4, none⟩ (.slice A' n' c')) (.pointer (some ⟨g, 0, none⟩)) rt rq rv ps os :=
  ⟨_, _, _, _, _, _, _, rfl, var_put (W := W) X hg hgW hB hB' hR hV, bel_put5 hb hg _ _ _ _ _⟩

end Go.Proofs.YtghdnokjgmmgiaaGreat
