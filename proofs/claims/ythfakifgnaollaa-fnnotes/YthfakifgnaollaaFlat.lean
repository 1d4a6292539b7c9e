/- The cells of a list of pairs, one behind the other; no conditions. -/
import Derived.Test.YthfakifgnaollaaDrawStamps
namespace Go.Proofs.Ythfakifgnaollaa
open Go.RowKit

theorem Try.infoSealI : (Try.prog.info? 78).map (fun i => (i.zero, i.size, i.bytes)) = some (some (.agg #[.int .i64 0, .int .i64 0]), 2, 16) := by kernel_rfl

/-- The cells of a slice of pairs. -/
theorem pairs_news {w : World} {B : Nat} {b o n : Nat} {ps : List (Int × Int)} (h : Pairs w B (some ⟨b, o, none⟩) n ps) : ∀ j u, (flatP ps)[j]? = some u → w.cell? ((⟨b, o, none⟩ : Addr).add j) = some u := by
  intro j u hu
  have hj : j < ps.length * 2 := by
    rw [← flatP_len]
    rcases Nat.lt_or_ge j (flatP ps).length with h' | h'
    · exact h'
    · rw [List.getElem?_eq_none h'] at hu; cases hu
  rw [h.1] at hj
  obtain ⟨b', o', hA, _, hc⟩ := h.2 (by omega)
  cases hA
  rw [show (⟨b, o, none⟩ : Addr).add j = ⟨b, o + j, none⟩ by unfold Addr.add; split <;> simp_all]
  have h2 : j % 2 = 0 ∨ j % 2 = 1 := by omega
  rcases h2 with h2 | h2
  · obtain ⟨k, rfl⟩ : ∃ k, j = k * 2 := ⟨j / 2, by omega⟩
    rw [(hc k (by omega)).1]
    rw [(flatP_at (by rw [h.1]; omega)).1] at hu
    exact hu
  · obtain ⟨k, rfl⟩ : ∃ k, j = k * 2 + 1 := ⟨j / 2, by omega⟩
    rw [← Nat.add_assoc, (hc k (by omega)).2]
    rw [(flatP_at (by rw [h.1]; omega)).2] at hu
    exact hu
theorem flatP_one (ps : List (Int × Int)) : ∀ u ∈ flatP ps, u.oneCell' = true := by
  intro u hu
  simp only [flatP, List.mem_flatMap] at hu
  obtain ⟨p, _, hp⟩ := hu
  simp only [List.mem_cons, List.not_mem_nil, or_false] at hp
  rcases hp with rfl | rfl <;> rfl
theorem flatP_app (a b : List (Int × Int)) : flatP (a ++ b) = flatP a ++ flatP b := by simp [flatP]

end Go.Proofs.Ythfakifgnaollaa
