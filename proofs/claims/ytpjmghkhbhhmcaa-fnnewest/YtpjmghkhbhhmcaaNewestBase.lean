/- The newest of a list of stamps: none is newer, it is one of them or the zero one, it is right; no conditions. -/
import Derived.Test.YtpjmghkhbhhmcaaStampBase
namespace Go.Proofs.Ytpjmghkhbhhmcaa

theorem cmp_one {a b c d : Int} : cmpN a b c d = 1 ↔ stB a b = true ∧ stB c d = true ∧ (c < a ∨ (a = c ∧ d < b)) := by
  rcases h1 : stB a b with _ | _
  · rw [cmpN_no1 h1]; simp
  rcases h2 : stB c d with _ | _
  · rw [cmpN_no2 h2]; simp
  rw [cmpN_yes h1 h2]
  unfold orN
  rcases Int.lt_trichotomy a c with h | h | h
  · rw [sgn_lt h]; simp; omega
  · subst h
    rw [sgn_eq]
    rcases Int.lt_trichotomy b d with k | k | k
    · rw [sgn_lt k]; simp; omega
    · subst k; rw [sgn_eq]; simp
    · rw [sgn_gt k]; simp; omega
  · rw [sgn_gt h]; simp; omega

theorem pick_ok {b p : Int × Int} (h : stB b.1 b.2 = true) : stB (pickP b p).1 (pickP b p).2 = true := by
  unfold pickP
  split
  · rename_i hc
    exact (cmp_one.1 hc).1
  · exact h

/-- What holds of the newest of the first k. -/
theorem best_upto (ps : List (Int × Int)) (k : Nat) (hk : k ≤ ps.length) :
    stB (bestP (ps.take k)).1 (bestP (ps.take k)).2 = true ∧ (bestP (ps.take k) = (0, 0) ∨ ∃ i, i < k ∧ pth ps i = bestP (ps.take k)) ∧
    ∀ i, i < k → cmpN (pth ps i).1 (pth ps i).2 (bestP (ps.take k)).1 (bestP (ps.take k)).2 ≠ 1 := by
  induction k with
  | zero => exact ⟨rfl, .inl rfl, fun i hi => absurd hi (by omega)⟩
  | succ k ih =>
    obtain ⟨h1, h2, h3⟩ := ih (by omega)
    rw [best_snoc (by omega)]
    generalize bestP (ps.take k) = b at h1 h2 h3
    refine ⟨pick_ok h1, ?_, fun i hi => ?_⟩
    · unfold pickP
      split
      · exact .inr ⟨k, by omega, rfl⟩
      · rcases h2 with h2 | ⟨i, hi, h2⟩
        · exact .inl h2
        · exact .inr ⟨i, by omega, h2⟩
    · unfold pickP
      split
      · rename_i hc
        obtain ⟨c1, c2, c3⟩ := cmp_one.1 hc
        intro hq
        obtain ⟨q1, q2, q3⟩ := cmp_one.1 hq
        by_cases e : i = k
        · subst e; omega
        · exact h3 i (by omega) (cmp_one.2 ⟨q1, c2, by omega⟩)
      · rename_i hc
        by_cases e : i = k
        · subst e; exact hc
        · exact h3 i (by omega)

theorem best_all (ps : List (Int × Int)) {p q : Int} (h : bestP ps = (p, q)) :
    stB p q = true ∧ ((p, q) = (0, 0) ∨ ∃ i, i < ps.length ∧ pth ps i = (p, q)) ∧ ∀ i, i < ps.length → cmpN (pth ps i).1 (pth ps i).2 p q ≠ 1 := by
  have := best_upto ps ps.length (Nat.le_refl _)
  rw [List.take_length, h] at this
  exact this

/-- Is it one of the first k, or the zero one? -/
def inK (ps : List (Int × Int)) (n : Int × Int) : Nat → Bool
  | 0 => decide (n = (0, 0))
  | k + 1 => inK ps n k || decide (pth ps k = n)
theorem inK_more {ps : List (Int × Int)} {n : Int × Int} {k : Nat} (h : inK ps n k = true) (j : Nat) : inK ps n (k + j) = true := by
  induction j with
  | zero => exact h
  | succ j ih => show (inK ps n (k + j) || _) = true; rw [ih]; rfl
theorem inK_all {ps : List (Int × Int)} {p q : Int} (h : bestP ps = (p, q)) : inK ps (p, q) ps.length = true := by
  rcases (best_all ps h).2.1 with e | ⟨i, hi, e⟩
  · have h0 : inK ps (p, q) 0 = true := decide_eq_true e
    have := inK_more h0 ps.length
    rwa [Nat.zero_add] at this
  · have h0 : inK ps (p, q) (i + 1) = true := by show (inK ps (p, q) i || decide _) = true; rw [decide_eq_true e, Bool.or_true]
    have := inK_more h0 (ps.length - (i + 1))
    rwa [show i + 1 + (ps.length - (i + 1)) = ps.length by omega] at this

end Go.Proofs.Ytpjmghkhbhhmcaa
