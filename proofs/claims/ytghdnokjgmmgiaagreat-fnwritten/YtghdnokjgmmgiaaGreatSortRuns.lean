/- Words of the library's stable sort: a list that is made of runs in order; no conditions. -/
import Derived.Test.YtghdnokjgmmgiaaGreatStampBase
namespace Go.Proofs.YtghdnokjgmmgiaaGreat
open Go.RowKit

/-- Runs in order, each of k, the last one of k or fewer. -/
inductive Runs (k : Nat) : List (Int × Int) → Prop
  | last {l : List (Int × Int)} : l.length ≤ k → Srt l → Runs k l
  | cons {x l : List (Int × Int)} : x.length = k → Srt x → Runs k l → Runs k (x ++ l)
/-- Runs in order, each of k. -/
inductive Full (k : Nat) : List (Int × Int) → Prop
  | nil : Full k []
  | snoc {l x : List (Int × Int)} : Full k l → x.length = k → Srt x → Full k (l ++ x)
theorem Runs.nil (k : Nat) : Runs k [] := .last (Nat.zero_le _) (by simp [Srt])
theorem Full.runs {k : Nat} {l r : List (Int × Int)} (h : Full k l) (hr : Runs k r) : Runs k (l ++ r) := by
  induction h generalizing r with
  | nil => exact hr
  | snoc _ hx hs ih => rw [List.append_assoc]; exact ih (.cons hx hs hr)
theorem Runs.small {k : Nat} {l : List (Int × Int)} (h : Runs k l) (hl : l.length ≤ k) : Srt l := by
  cases h with
  | last _ hs => exact hs
  | cons hx hs hr =>
    rename_i x r
    rw [List.length_append] at hl
    rw [List.length_eq_zero_iff.1 (by omega : r.length = 0), List.append_nil]
    exact hs
theorem Runs.split {k : Nat} {l : List (Int × Int)} (h : Runs k l) (hl : k < l.length) : ∃ x r, l = x ++ r ∧ x.length = k ∧ Srt x ∧ Runs k r := by
  cases h with
  | last hk _ => omega
  | cons hx hs hr => exact ⟨_, _, rfl, hx, hs, hr⟩
/-- The first two runs. -/
theorem Runs.two {k : Nat} {l : List (Int × Int)} (h0 : 0 < k) (h : Runs k l) (hl : k * 2 ≤ l.length) : ∃ x y r, l = x ++ (y ++ r) ∧ x.length = k ∧ y.length = k ∧ Srt x ∧ Srt y ∧ Runs k r := by
  obtain ⟨x, r, rfl, hx, hs, hr⟩ := h.split (by omega)
  rw [List.length_append] at hl
  rcases Nat.lt_or_ge k r.length with h | h
  · obtain ⟨y, r', rfl, hy, hs', hr'⟩ := hr.split h
    exact ⟨x, y, r', rfl, hx, hy, hs, hs', hr'⟩
  · exact ⟨x, r, [], by simp, hx, by omega, hs, hr.small h, Runs.nil k⟩

end Go.Proofs.YtghdnokjgmmgiaaGreat
