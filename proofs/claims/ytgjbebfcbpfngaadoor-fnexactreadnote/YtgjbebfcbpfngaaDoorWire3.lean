/- What numbers of impl/l06_wire.go answers: a list of pointers to a note's numbers; no conditions. -/
import Derived.Test.YtgjbebfcbpfngaaDoorWire2
import Derived.BigRegion
namespace Go.Proofs.YtgjbebfcbpfngaaDoor
open Go.RowKit Go.Deep

/-- The places of a note's numbers. -/
def ptrs (g : Nat) : Array Value := #[.pointer (some ⟨g, 0, none⟩), .pointer (some ⟨g, 1, none⟩), .pointer (some ⟨g, 2, none⟩), .pointer (some ⟨g, 3, none⟩), .pointer (some ⟨g, 4, none⟩), .pointer (some ⟨g, 5, none⟩), .pointer (some ⟨g, 6, none⟩), .pointer (some ⟨g, 7, none⟩), .pointer (some ⟨g, 8, none⟩), .pointer (some ⟨g, 9, none⟩), .pointer (some ⟨g, 10, none⟩), .pointer (some ⟨g, 13, none⟩), .pointer (some ⟨g, 14, none⟩), .pointer (some ⟨g, 15, none⟩)]

set_option maxRecDepth 100000 in
set_option maxHeartbeats 2000000 in
theorem numbers_is (g : Nat) (w : World) : Calls Tryd.prog 27 #[.pointer (some ⟨g, 0, none⟩)] w fun e w' => e = .returned (.slice (some ⟨w.heap.size, 0, none⟩) 14 14) ∧ Box w' w.heap.size 57 (ptrs g) ∧ Below w.heap.size w w' := by
  go_enter Tryd.func27, Tryd.ntmps27
  go_wp2_with fail
  go_region
  go_wp2
  go_ret
  exact ⟨rfl, Box.new w _ _, (bel_alloc w _).drew⟩

/-- Each pointer leads to its number. -/
theorem ptrs_at {N : Array Value} {k1 k2 k3 k4 k5 t1 t2 v1 o1 o2 v2 : Int} {P : Option Addr} {p pc : Nat} {Q : Option Addr} {q qc : Nat} {l1 l2 v3 : Int} (hN : N = #[.int .i64 k1, .int .i64 k2, .int .i64 k3, .int .i64 k4, .int .i64 k5, .int .i64 t1, .int .i64 t2, .int .i64 v1, .int .i64 o1, .int .i64 o2, .int .i64 v2, .slice P p pc, .slice Q q qc, .int .i64 l1, .int .i64 l2, .int .i64 v3]) (g k : Nat) (hk : k < 14) :
    ∃ j, (ptrs g)[k]? = some (.pointer (some ⟨g, j, none⟩)) ∧ N[j]? = some (.int .i64 (nth (numN k1 k2 k3 k4 k5 t1 t2 v1 o1 o2 v2 l1 l2 v3) k)) := by
  subst hN
  obtain rfl | rfl | rfl | rfl | rfl | rfl | rfl | rfl | rfl | rfl | rfl | rfl | rfl | rfl : k = 0 ∨ k = 1 ∨ k = 2 ∨ k = 3 ∨ k = 4 ∨ k = 5 ∨ k = 6 ∨ k = 7 ∨ k = 8 ∨ k = 9 ∨ k = 10 ∨ k = 11 ∨ k = 12 ∨ k = 13 := by omega
  all_goals exact ⟨_, rfl, rfl⟩
theorem numN_len (k1 k2 k3 k4 k5 t1 t2 v1 o1 o2 v2 l1 l2 v3 : Int) : (numN k1 k2 k3 k4 k5 t1 t2 v1 o1 o2 v2 l1 l2 v3).length = 14 := rfl
theorem take_lay {ns : List Int} {k : Nat} (hk : k < ns.length) : layAll (ns.take (k + 1)) = layAll (ns.take k) ++ lay (nth ns k) := by
  rw [List.take_succ_eq_append_getElem hk, layAll_app, layAll_one, nth_lt hk]
theorem take_len {ns : List Int} (h : ∀ z ∈ ns, Num z) (hl : ns.length ≤ 100) (k : Nat) : (layAll (ns.take k)).length ≤ 500 := by
  have h1 := layAll_len (zs := ns.take k) (fun z hz => h z (List.mem_of_mem_take hz))
  have h2 : (ns.take k).length ≤ ns.length := List.length_take_le' _ _
  omega
theorem nth_num {ns : List Int} (h : ∀ z ∈ ns, Num z) {k : Nat} (hk : k < ns.length) : Num (nth ns k) := by
  rw [nth_lt hk]; exact h _ (List.getElem_mem _)
theorem pack_len {k1 k2 k3 k4 k5 t1 t2 v1 o1 o2 v2 l1 l2 v3 : Int} {ps qs : List (Int × Int)} (h : Fits k1 k2 k3 k4 k5 t1 t2 v1 o1 o2 v2 l1 l2 v3 ps qs) :
    (layAll (numN k1 k2 k3 k4 k5 t1 t2 v1 o1 o2 v2 l1 l2 v3)).length ≤ 70 ∧ (layAll (sealN ps)).length ≤ 205 ∧ (layAll (sealN qs)).length ≤ 205 := by
  have h1 := layAll_len h.num
  have h2 := layAll_len (sealN_num h.pl h.ps)
  have h3 := layAll_len (sealN_num h.ql h.qs)
  rw [sealN_len] at h2 h3
  rw [numN_len] at h1
  have := h.pl
  have := h.ql
  omega

end Go.Proofs.YtgjbebfcbpfngaaDoor
