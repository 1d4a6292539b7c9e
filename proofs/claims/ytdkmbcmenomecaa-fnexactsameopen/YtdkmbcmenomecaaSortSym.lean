/- The library's stable sort over a slice of pairs, second part: comparing two pairs, sorting by insertion. -/
import Derived.Test.YtdkmbcmenomecaaSpecStamp
namespace Go.Proofs.Ytdkmbcmenomecaa
open Go.RowKit

/-- Not smaller: 0 or 1. -/
theorem sgn_ge {a c : Int} (h : ¬ a < c) : sgn a c = if c < a then 1 else 0 := by simp [sgn, h]

theorem Srt.mid {Z1 Z2 : List (Int × Int)} {y : Int × Int} (h : Srt (Z1 ++ Z2)) (h1 : ∀ p ∈ Z1, p.1 ≤ y.1) (h2 : ∀ p ∈ Z2, y.1 < p.1) : Srt (Z1 ++ y :: Z2) := by
  have h' := List.pairwise_append.1 h
  refine List.pairwise_append.2 ⟨h'.1, List.pairwise_cons.2 ⟨fun p hp => Int.le_of_lt (h2 p hp), h'.2.1⟩, fun p hp q hq => ?_⟩
  rcases List.mem_cons.1 hq with e | e
  · rw [e]; exact h1 p hp
  · exact h'.2.2 p hp q e
theorem Same.mid {Z1 Z2 X1 : List (Int × Int)} {y : Int × Int} (h : Same (Z1 ++ Z2) X1) (h2 : ∀ p ∈ Z2, y.1 < p.1) : Same (Z1 ++ y :: Z2) (X1 ++ [y]) := by
  have e : Same (Z1 ++ ([y] ++ Z2)) (Z1 ++ (Z2 ++ [y])) := (Same.refl Z1).app (Same.swap fun p hp q hq => by
    simp only [List.mem_singleton] at hq
    have := h2 p hp
    rw [hq]
    omega)
  refine Same.trans e ?_
  rw [← List.append_assoc]
  exact h.app (Same.refl _)
theorem Srt.last {Z : List (Int × Int)} {z : Int × Int} (h : Srt (Z ++ [z])) : ∀ p ∈ Z ++ [z], p.1 ≤ z.1 := by
  have h' := List.pairwise_append.1 h
  intro p hp
  rcases List.mem_append.1 hp with e | e
  · exact h'.2.2 p e z (by simp)
  · simp only [List.mem_singleton] at e
    rw [e]
    exact Int.le_refl _

/-- What sorting leaves. -/
def Sorts (w : World) (g : Nat) (A X B : List (Int × Int)) (e : Ending) (w' : World) : Prop :=
  ∃ Z : List (Int × Int), Z.length = X.length ∧ Srt Z ∧ Same Z X ∧ Does w g (A ++ (Z ++ B)) e w'

end Go.Proofs.Ytdkmbcmenomecaa

/- The library's stable sort over a slice of pairs, third part: merging where one side is a single pair. -/
namespace Go.Proofs.Ytdkmbcmenomecaa
open Go.RowKit

/-- Smaller ones ahead, none smaller behind. -/
theorem Srt.mid2 {Z1 Z2 : List (Int × Int)} {y : Int × Int} (h : Srt (Z1 ++ Z2)) (h1 : ∀ p ∈ Z1, p.1 ≤ y.1) (h2 : ∀ p ∈ Z2, y.1 ≤ p.1) : Srt (Z1 ++ y :: Z2) := by
  have h' := List.pairwise_append.1 h
  refine List.pairwise_append.2 ⟨h'.1, List.pairwise_cons.2 ⟨fun p hp => h2 p hp, h'.2.1⟩, fun p hp q hq => ?_⟩
  rcases List.mem_cons.1 hq with e | e
  · rw [e]; exact h1 p hp
  · exact h'.2.2 p hp q e
theorem sgn_nn {a c : Int} (h : ¬ a < c) : ∃ s : Int, sgn a c = s ∧ 0 ≤ s ∧ s ≤ 1 ∧ decide (s < 0) = false := by
  have := sgn_ge h
  refine ⟨_, rfl, ?_, ?_, ?_⟩ <;> rw [this] <;> split <;> simp
theorem mem_pth {l : List (Int × Int)} {p : Int × Int} (h : p ∈ l) : ∃ i, i < l.length ∧ p = pth l i := by
  obtain ⟨i, hi, rfl⟩ := List.getElem_of_mem h
  exact ⟨i, hi, (pth_lt hi).symm⟩
theorem pth_right (P Q : List (Int × Int)) (i : Nat) : pth (P ++ Q) (P.length + i) = pth Q i := by
  simp [pth, List.getElem?_append_right]
theorem pth_left {P : List (Int × Int)} {i : Nat} (h : i < P.length) (Q : List (Int × Int)) : pth (P ++ Q) i = pth P i := by
  simp [pth, List.getElem?_append_left h]
theorem pth_take {l : List (Int × Int)} {i k : Nat} (h : i < k) : pth (l.take k) i = pth l i := by simp [pth, h]
theorem pth_drop (l : List (Int × Int)) (i k : Nat) : pth (l.drop k) i = pth l (k + i) := by simp [pth, List.getElem?_drop]

theorem pth_seg {d P Y Q : List (Int × Int)} {h m : Nat} (hd : d = P ++ (Y ++ Q)) (hm : m = P.length) (h1 : m ≤ h) (h2 : h < m + Y.length) : pth d h = pth Y (h - m) := by
  subst hd hm
  obtain ⟨t, rfl⟩ : ∃ t, h = P.length + t := ⟨h - P.length, by omega⟩
  rw [pth_right, pth_left (by omega), show P.length + t - P.length = t by omega]

end Go.Proofs.Ytdkmbcmenomecaa

/- The library's stable sort over a slice of pairs, fourth part: merging where the other side is a single pair. -/
namespace Go.Proofs.Ytdkmbcmenomecaa
open Go.RowKit

end Go.Proofs.Ytdkmbcmenomecaa
