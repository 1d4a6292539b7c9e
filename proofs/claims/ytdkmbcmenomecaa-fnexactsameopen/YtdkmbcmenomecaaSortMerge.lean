/- The library's stable sort over a slice of pairs, fifth part: merging two ranges in order. -/
import Derived.Test.YtdkmbcmenomecaaSortSym
import Derived.Deep.CutBlock
namespace Go.Proofs.Ytdkmbcmenomecaa
open Go.RowKit

/-- Two merged parts, none of the first larger than one of the second, are the whole merged. -/
theorem merge_parts {X1 X2 Y1 Y2 Z1 Z2 : List (Int × Int)} (hX : Srt (X1 ++ X2)) (hY : Srt (Y1 ++ Y2)) (h12 : ∀ p ∈ X1, ∀ q ∈ Y2, p.1 ≤ q.1) (h21 : ∀ p ∈ Y1, ∀ q ∈ X2, p.1 < q.1)
    (s1 : Srt Z1) (e1 : Same Z1 (X1 ++ Y1)) (s2 : Srt Z2) (e2 : Same Z2 (X2 ++ Y2)) : Srt (Z1 ++ Z2) ∧ Same (Z1 ++ Z2) ((X1 ++ X2) ++ (Y1 ++ Y2)) := by
  have hX' := (List.pairwise_append.1 hX).2.2
  have hY' := (List.pairwise_append.1 hY).2.2
  refine ⟨List.pairwise_append.2 ⟨s1, s2, fun p hp q hq => ?_⟩, ?_⟩
  · rcases List.mem_append.1 (e1.mem.1 hp) with hp | hp <;> rcases List.mem_append.1 (e2.mem.1 hq) with hq | hq
    · exact hX' p hp q hq
    · exact h12 p hp q hq
    · exact Int.le_of_lt (h21 p hp q hq)
    · exact hY' p hp q hq
  · refine (e1.app e2).trans ?_
    have e : Same (X1 ++ ((Y1 ++ X2) ++ Y2)) (X1 ++ ((X2 ++ Y1) ++ Y2)) := (Same.refl X1).app ((Same.swap fun p hp q hq => by
      have := h21 q hq p hp
      omega).app (Same.refl Y2))
    simpa using e

/-- Where the two ranges are parted. -/
theorem part_at {X Y : List (Int × Int)} {a m b mid N s e s0 r0 : Nat} (hX : Srt X) (hY : Srt Y) (hXl : a + X.length = m) (hYl : m + Y.length = b) (hmid : mid = (a + b) / 2) (hN : mid + m = N) (he : s + e = N)
    (C : (m ≤ mid ∧ s0 = a ∧ r0 = m) ∨ (mid < m ∧ s0 + b = N ∧ r0 = mid)) (h1 : s0 ≤ s) (h2 : s ≤ r0)
    (F1 : s0 < s → (pth X (s - 1 - a)).1 ≤ (pth Y (e - m)).1) (F2 : s < r0 → (pth Y (e - 1 - m)).1 < (pth X (s - a)).1) :
    (∀ p ∈ X.take (s - a), ∀ q ∈ Y.drop (e - m), p.1 ≤ q.1) ∧ (∀ p ∈ Y.take (e - m), ∀ q ∈ X.drop (s - a), p.1 < q.1) := by
  constructor
  · intro p hp q hq
    obtain ⟨t, ht, rfl⟩ := mem_pth hp
    obtain ⟨u, hu, rfl⟩ := mem_pth hq
    rw [List.length_take] at ht
    rw [List.length_drop] at hu
    rw [pth_take (by omega), pth_drop]
    have h3 := F1 (by omega)
    have h4 := srt_at hX (i := t) (j := s - 1 - a) (by omega) (by omega)
    have h5 := srt_at hY (i := e - m) (j := e - m + u) (by omega) (by omega)
    omega
  · intro p hp q hq
    obtain ⟨t, ht, rfl⟩ := mem_pth hp
    obtain ⟨u, hu, rfl⟩ := mem_pth hq
    rw [List.length_take] at ht
    rw [List.length_drop] at hu
    rw [pth_take (by omega), pth_drop]
    have h3 := F2 (by omega)
    have h4 := srt_at hY (i := t) (j := e - 1 - m) (by omega) (by omega)
    have h5 := srt_at hX (i := s - a) (j := s - a + u) (by omega) (by omega)
    omega

end Go.Proofs.Ytdkmbcmenomecaa
