/- A note's cells as one array: its shape, its parts, a variable written whole; no conditions. -/
import Derived.Test.YtgjbebfcbpfngaaDoorNoteCells
import Derived.Test.YtgjbebfcbpfngaaDoorDraw
import Derived.Laws.Tables
namespace Go.Proofs.YtgjbebfcbpfngaaDoor
open Go.RowKit

theorem size_setRow (w : World) (g : Nat) (cs : Array Value) : (w.setRow g cs).heap.size = w.heap.size := by simp [World.setRow]
theorem Box.setRow {w : World} {g : Nat} {t : TypeId} {old : Array Value} (h : Box w g t old) (cs : Array Value) : Box (w.setRow g cs) g t cs := by
  unfold Box at h ⊢
  simp [World.setRow, Array.getElem?_modify, h]
theorem heap_setRow (w : World) (g : Nat) (cs : Array Value) (k : Nat) (h : k ≠ g) : (w.setRow g cs).heap[k]? = w.heap[k]? := by
  simp [World.setRow, Array.getElem?_modify, show ¬ g = k from fun e => h e.symm]
theorem grown_setRow {a b : World} {g : Nat} (h : a.grownBy b (some g)) (cs : Array Value) : a.grownBy (b.setRow g cs) (some g) :=
  ⟨h.os, h.tape, h.output, by rw [size_setRow]; exact h.size, fun k hk hne => (heap_setRow b g cs k (fun e => hne (by rw [e]))).trans (h.block k hk hne)⟩

/-- A note's cells: fourteen numbers, and these two lists. -/
def Shape (N : Array Value) (c m : Value) : Prop := ∃ k1 k2 k3 k4 k5 t1 t2 v1 o1 o2 v2 l1 l2 v3 : Int, N = #[.int .i64 k1, .int .i64 k2, .int .i64 k3, .int .i64 k4, .int .i64 k5, .int .i64 t1, .int .i64 t2, .int .i64 v1, .int .i64 o1, .int .i64 o2, .int .i64 v2, c, m, .int .i64 l1, .int .i64 l2, .int .i64 v3]
/-- A place in a note that is a number. -/
def isNum (i : Nat) : Prop := i = 0 ∨ i = 1 ∨ i = 2 ∨ i = 3 ∨ i = 4 ∨ i = 5 ∨ i = 6 ∨ i = 7 ∨ i = 8 ∨ i = 9 ∨ i = 10 ∨ i = 13 ∨ i = 14 ∨ i = 15
theorem Shape.size {N : Array Value} {c m : Value} (h : Shape N c m) : N.size = 16 := by
  obtain ⟨k1, k2, k3, k4, k5, t1, t2, v1, o1, o2, v2, l1, l2, v3, rfl⟩ := h; rfl
theorem Shape.info {N : Array Value} {c m : Value} (h : Shape N c m) : (Tryd.prog.info? 31).map (·.size) = some N.size := by
  rw [h.size]; kernel_rfl
theorem Shape.put {N : Array Value} {c m : Value} (h : Shape N c m) {i : Nat} (hi : isNum i) (z : Int) : Shape (N.setIfInBounds i (.int .i64 z)) c m := by
  obtain ⟨k1, k2, k3, k4, k5, t1, t2, v1, o1, o2, v2, l1, l2, v3, rfl⟩ := h
  rcases hi with rfl | rfl | rfl | rfl | rfl | rfl | rfl | rfl | rfl | rfl | rfl | rfl | rfl | rfl
  · exact ⟨z, k2, k3, k4, k5, t1, t2, v1, o1, o2, v2, l1, l2, v3, rfl⟩
  · exact ⟨k1, z, k3, k4, k5, t1, t2, v1, o1, o2, v2, l1, l2, v3, rfl⟩
  · exact ⟨k1, k2, z, k4, k5, t1, t2, v1, o1, o2, v2, l1, l2, v3, rfl⟩
  · exact ⟨k1, k2, k3, z, k5, t1, t2, v1, o1, o2, v2, l1, l2, v3, rfl⟩
  · exact ⟨k1, k2, k3, k4, z, t1, t2, v1, o1, o2, v2, l1, l2, v3, rfl⟩
  · exact ⟨k1, k2, k3, k4, k5, z, t2, v1, o1, o2, v2, l1, l2, v3, rfl⟩
  · exact ⟨k1, k2, k3, k4, k5, t1, z, v1, o1, o2, v2, l1, l2, v3, rfl⟩
  · exact ⟨k1, k2, k3, k4, k5, t1, t2, z, o1, o2, v2, l1, l2, v3, rfl⟩
  · exact ⟨k1, k2, k3, k4, k5, t1, t2, v1, z, o2, v2, l1, l2, v3, rfl⟩
  · exact ⟨k1, k2, k3, k4, k5, t1, t2, v1, o1, z, v2, l1, l2, v3, rfl⟩
  · exact ⟨k1, k2, k3, k4, k5, t1, t2, v1, o1, o2, z, l1, l2, v3, rfl⟩
  · exact ⟨k1, k2, k3, k4, k5, t1, t2, v1, o1, o2, v2, z, l2, v3, rfl⟩
  · exact ⟨k1, k2, k3, k4, k5, t1, t2, v1, o1, o2, v2, l1, z, v3, rfl⟩
  · exact ⟨k1, k2, k3, k4, k5, t1, t2, v1, o1, o2, v2, l1, l2, z, rfl⟩
theorem Shape.cert {N : Array Value} {c m : Value} (h : Shape N c m) (v : Value) : Shape (N.setIfInBounds 11 v) v m := by
  obtain ⟨k1, k2, k3, k4, k5, t1, t2, v1, o1, o2, v2, l1, l2, v3, rfl⟩ := h
  exact ⟨k1, k2, k3, k4, k5, t1, t2, v1, o1, o2, v2, l1, l2, v3, rfl⟩
theorem Shape.more {N : Array Value} {c m : Value} (h : Shape N c m) (v : Value) : Shape (N.setIfInBounds 12 v) c v := by
  obtain ⟨k1, k2, k3, k4, k5, t1, t2, v1, o1, o2, v2, l1, l2, v3, rfl⟩ := h
  exact ⟨k1, k2, k3, k4, k5, t1, t2, v1, o1, o2, v2, l1, l2, v3, rfl⟩
theorem Shape.num {N : Array Value} {c m : Value} (h : Shape N c m) {i : Nat} (hi : isNum i) : ∃ z : Int, N[i]? = some (.int .i64 z) := by
  obtain ⟨k1, k2, k3, k4, k5, t1, t2, v1, o1, o2, v2, l1, l2, v3, rfl⟩ := h
  rcases hi with rfl | rfl | rfl | rfl | rfl | rfl | rfl | rfl | rfl | rfl | rfl | rfl | rfl | rfl <;> exact ⟨_, rfl⟩
theorem Shape.at11 {N : Array Value} {c m : Value} (h : Shape N c m) : N[11]? = some c := by
  obtain ⟨k1, k2, k3, k4, k5, t1, t2, v1, o1, o2, v2, l1, l2, v3, rfl⟩ := h; rfl
theorem Shape.at12 {N : Array Value} {c m : Value} (h : Shape N c m) : N[12]? = some m := by
  obtain ⟨k1, k2, k3, k4, k5, t1, t2, v1, o1, o2, v2, l1, l2, v3, rfl⟩ := h; rfl
theorem Shape.one {N : Array Value} {c m : Value} (h : Shape N c m) (hc : c.oneCell' = true) (hm : m.oneCell' = true) : N.all (·.oneCell') = true := by
  obtain ⟨k1, k2, k3, k4, k5, t1, t2, v1, o1, o2, v2, l1, l2, v3, rfl⟩ := h
  rw [Array.all_eq_true_iff_forall_mem]
  intro x hx
  simp only [List.mem_toArray, List.mem_cons, List.not_mem_nil, or_false] at hx
  rcases hx with rfl | rfl | rfl | rfl | rfl | rfl | rfl | rfl | rfl | rfl | rfl | rfl | rfl | rfl | rfl | rfl <;> first | rfl | exact hc | exact hm
/-- The zero note. -/
def ZN : Array Value := #[.int .i64 0, .int .i64 0, .int .i64 0, .int .i64 0, .int .i64 0, .int .i64 0, .int .i64 0, .int .i64 0, .int .i64 0, .int .i64 0, .int .i64 0, .slice none 0 0, .slice none 0 0, .int .i64 0, .int .i64 0, .int .i64 0]

end Go.Proofs.YtgjbebfcbpfngaaDoor
