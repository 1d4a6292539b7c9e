/- A note's cells as one array, kept whole: a load of all of it, its single cells, its size; no conditions. -/
import Derived.Test.YtgjbebfcbpfngaaDoorNoteKeep
import Derived.Laws.Rows
namespace Go.Proofs.YtgjbebfcbpfngaaDoor
open Go.RowKit

/-- A load of a whole variable whose block is known. -/
theorem wpList_load_box {P : Program} {ops : Array Oper} {rest : List Oper} {o : Oper} {a : Act} {w : World} {Q : Exit → Act → World → Prop} (ty : TypeId) (x : Operand) (ho : o.op = .load ty x)
    (g : Nat) (hx : a.eval x = .pointer (some ⟨g, 0, none⟩)) (t : TypeId) (cs : Array Value) (hg : Box w g t cs) (d : TypeDesc)
    (hu : P.underlying ty = some d) (hd : (match d with | .struct _ | .array _ _ => true | _ => false) = true) (hi : (P.info? ty).map (·.size) = some cs.size)
    (hw : Region.wanted o (yielded ops a.tmps) = true) (h : wpList P ops Q rest (a.put o.dst (.agg cs)) w) : wpList P ops Q (o :: rest) a w := by
  unfold wpList
  rw [if_pos hw]
  exact .inl (wp_load_row ty x ho g hx t cs (0, 0) d hg hu hd hi h)

section
variable {N : Array Value} {k1 k2 k3 k4 k5 t1 t2 v1 o1 o2 v2 : Int} {P : Option Addr} {p pc : Nat} {Q : Option Addr} {q qc : Nat} {l1 l2 v3 : Int}
theorem sizeN (hN : N = #[.int .i64 k1, .int .i64 k2, .int .i64 k3, .int .i64 k4, .int .i64 k5, .int .i64 t1, .int .i64 t2, .int .i64 v1, .int .i64 o1, .int .i64 o2, .int .i64 v2, .slice P p pc, .slice Q q qc, .int .i64 l1, .int .i64 l2, .int .i64 v3]) : (Tryd.prog.info? 31).map (·.size) = some N.size := by subst hN; kernel_rfl
theorem len16 (hN : N = #[.int .i64 k1, .int .i64 k2, .int .i64 k3, .int .i64 k4, .int .i64 k5, .int .i64 t1, .int .i64 t2, .int .i64 v1, .int .i64 o1, .int .i64 o2, .int .i64 v2, .slice P p pc, .slice Q q qc, .int .i64 l1, .int .i64 l2, .int .i64 v3]) : N.size = 16 := by subst hN; rfl
theorem cellsN (hN : N = #[.int .i64 k1, .int .i64 k2, .int .i64 k3, .int .i64 k4, .int .i64 k5, .int .i64 t1, .int .i64 t2, .int .i64 v1, .int .i64 o1, .int .i64 o2, .int .i64 v2, .slice P p pc, .slice Q q qc, .int .i64 l1, .int .i64 l2, .int .i64 v3]) : N[0]? = some (.int .i64 k1) ∧ N[1]? = some (.int .i64 k2) ∧ N[2]? = some (.int .i64 k3) ∧ N[3]? = some (.int .i64 k4) ∧ N[4]? = some (.int .i64 k5) ∧ N[5]? = some (.int .i64 t1) ∧ N[6]? = some (.int .i64 t2) ∧ N[7]? = some (.int .i64 v1) ∧
    N[8]? = some (.int .i64 o1) ∧ N[9]? = some (.int .i64 o2) ∧ N[10]? = some (.int .i64 v2) ∧ N[11]? = some (.slice P p pc) ∧ N[12]? = some (.slice Q q qc) ∧ N[13]? = some (.int .i64 l1) ∧ N[14]? = some (.int .i64 l2) ∧ N[15]? = some (.int .i64 v3) := by
  subst hN
  exact ⟨rfl, rfl, rfl, rfl, rfl, rfl, rfl, rfl, rfl, rfl, rfl, rfl, rfl, rfl, rfl, rfl⟩
end

end Go.Proofs.YtgjbebfcbpfngaaDoor
