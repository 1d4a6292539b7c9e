/- Words of chapter 7: slices of opens (four numbers each), the open of a client, putting an open to its place; no conditions. -/
import Derived.Test.YtjdepjpjjgkmbaaGreatSpecStamp
import Derived.Test.YtjdepjpjjgkmbaaGreatDrawSpec
namespace Go.Proofs.YtjdepjpjjgkmbaaGreat
open Go.RowKit

/-- An open: its client, its stamp's count and client, its value. -/
abbrev Opn := Int × Int × Int × Int
/-- The open at place i. -/
def oth (os : List Opn) (i : Nat) : Opn := os.getD i (0, 0, 0, 0)
theorem oth_lt {os : List Opn} {i : Nat} (h : i < os.length) : oth os i = os[i] := by simp [oth, h]

/-- The slice of n opens at A holds os, in blocks below B. -/
def Quads (w : World) (B : Nat) (A : Option Addr) (n : Nat) (os : List Opn) : Prop :=
  os.length = n ∧ (0 < n → ∃ b o, A = some ⟨b, o, none⟩ ∧ b < B ∧ ∀ i, i < n → w.cell? ⟨b, o + i * 4, none⟩ = some (.int .i64 (oth os i).1) ∧ w.cell? ⟨b, o + i * 4 + 1, none⟩ = some (.int .i64 (oth os i).2.1) ∧ w.cell? ⟨b, o + i * 4 + 2, none⟩ = some (.int .i64 (oth os i).2.2.1) ∧ w.cell? ⟨b, o + i * 4 + 3, none⟩ = some (.int .i64 (oth os i).2.2.2))
theorem Quads.keep {w w' : World} {B : Nat} {A : Option Addr} {n : Nat} {os : List Opn} (h : Quads w B A n os) (hk : ∀ p : Addr, p.block < B → w'.cell? p = w.cell? p) : Quads w' B A n os := by
  refine ⟨h.1, fun hn => ?_⟩
  obtain ⟨b, o, hA, hb, hc⟩ := h.2 hn
  exact ⟨b, o, hA, hb, fun i hi => ⟨(hk ⟨b, o + i * 4, none⟩ hb).trans (hc i hi).1, (hk ⟨b, o + i * 4 + 1, none⟩ hb).trans (hc i hi).2.1, (hk ⟨b, o + i * 4 + 2, none⟩ hb).trans (hc i hi).2.2.1, (hk ⟨b, o + i * 4 + 3, none⟩ hb).trans (hc i hi).2.2.2⟩⟩
theorem Quads.below {w w' : World} {B C : Nat} {A : Option Addr} {n : Nat} {os : List Opn} (h : Quads w B A n os) (hb : Below C w w') (hBC : B ≤ C) : Quads w' B A n os :=
  h.keep fun _ hp => hb.cell (Nat.lt_of_lt_of_le hp hBC)
theorem Quads.more {w : World} {B C : Nat} {A : Option Addr} {n : Nat} {os : List Opn} (h : Quads w B A n os) (hBC : B ≤ C) : Quads w C A n os := by
  refine ⟨h.1, fun hn => ?_⟩
  obtain ⟨b, o, hA, hb, hc⟩ := h.2 hn
  exact ⟨b, o, hA, by omega, hc⟩
theorem Quads.later {w w' : World} {A : Option Addr} {n : Nat} {os : List Opn} (h : Quads w w.heap.size A n os) (hb : Below w.heap.size w w') : Quads w' w'.heap.size A n os :=
  (h.below hb (Nat.le_refl _)).more hb.size
theorem quadsAfter {w : World} {A : Option Addr} {n : Nat} {os : List Opn} (h : Quads w w.heap.size A n os) (p : After w) : Quads p.x p.x.heap.size A n os := h.later p.bel
theorem quads_nil (w : World) (B : Nat) (A : Option Addr) : Quads w B A 0 [] := ⟨rfl, fun h => absurd h (by omega)⟩

theorem Box.four {w : World} {g : Nat} {t : TypeId} {v0 v1 v2 v3 : Value} (h : Box w g t #[v0, v1, v2, v3]) :
    w.cell? ⟨g, 0, none⟩ = some v0 ∧ w.cell? ⟨g, 1, none⟩ = some v1 ∧ w.cell? ⟨g, 2, none⟩ = some v2 ∧ w.cell? ⟨g, 3, none⟩ = some v3 := ⟨h.cell 0, h.cell 1, h.cell 2, h.cell 3⟩

/-- The cells of opens. -/
def flatO (os : List Opn) : List Value := os.flatMap fun o => [.int .i64 o.1, .int .i64 o.2.1, .int .i64 o.2.2.1, .int .i64 o.2.2.2]
theorem flatO_len (os : List Opn) : (flatO os).length = os.length * 4 := by
  induction os with
  | nil => rfl
  | cons o os ih => show (flatO os).length + 1 + 1 + 1 + 1 = _; rw [ih, List.length_cons]; omega
theorem flatO_snoc (os : List Opn) (a b c d : Int) : flatO (os ++ [(a, b, c, d)]) = flatO os ++ [.int .i64 a, .int .i64 b, .int .i64 c, .int .i64 d] := by simp [flatO]
theorem flatO_app (a b : List Opn) : flatO (a ++ b) = flatO a ++ flatO b := by simp [flatO]
theorem flatO_at {os : List Opn} {i : Nat} (h : i < os.length) : (flatO os)[i * 4]? = some (.int .i64 (oth os i).1) ∧ (flatO os)[i * 4 + 1]? = some (.int .i64 (oth os i).2.1) ∧ (flatO os)[i * 4 + 2]? = some (.int .i64 (oth os i).2.2.1) ∧ (flatO os)[i * 4 + 3]? = some (.int .i64 (oth os i).2.2.2) := by
  induction os generalizing i with
  | nil => simp at h
  | cons p os ih =>
    have e : flatO (p :: os) = .int .i64 p.1 :: .int .i64 p.2.1 :: .int .i64 p.2.2.1 :: .int .i64 p.2.2.2 :: flatO os := rfl
    rcases i with _ | i
    · exact ⟨rfl, rfl, rfl, rfl⟩
    · have := ih (i := i) (by simpa using h)
      rw [e, show (i + 1) * 4 = i * 4 + 1 + 1 + 1 + 1 by omega, show i * 4 + 1 + 1 + 1 + 1 + 1 = (i * 4 + 1) + 1 + 1 + 1 + 1 by omega, show i * 4 + 1 + 1 + 1 + 1 + 2 = (i * 4 + 2) + 1 + 1 + 1 + 1 by omega, show i * 4 + 1 + 1 + 1 + 1 + 3 = (i * 4 + 3) + 1 + 1 + 1 + 1 by omega]
      simp only [List.getElem?_cons_succ]
      have ep : oth (p :: os) (i + 1) = oth os i := by simp [oth]
      rw [ep]
      exact this
theorem flatO_one (os : List Opn) : ∀ u ∈ flatO os, u.oneCell' = true := by
  intro u hu
  unfold flatO at hu
  rw [List.mem_flatMap] at hu
  obtain ⟨p, _, hp⟩ := hu
  simp only [List.mem_cons, List.mem_nil_iff, or_false] at hp
  rcases hp with rfl | rfl | rfl | rfl <;> rfl
theorem quads_news {w : World} {B : Nat} {b o n : Nat} {os : List Opn} (h : Quads w B (some ⟨b, o, none⟩) n os) : ∀ j u, (flatO os)[j]? = some u → w.cell? ((⟨b, o, none⟩ : Addr).add j) = some u := by
  intro j u hu
  have hj : j < os.length * 4 := by
    rw [← flatO_len]
    exact (List.getElem?_eq_some_iff.1 hu).1
  have hi : j / 4 < os.length := by omega
  obtain ⟨b', o', hA, _, hc⟩ := h.2 (by have := h.1; omega)
  cases hA
  obtain ⟨c0, c1, c2, c3⟩ := hc (j / 4) (by have := h.1; omega)
  obtain ⟨f0, f1, f2, f3⟩ := flatO_at hi
  rw [show (⟨b, o, none⟩ : Addr).add j = ⟨b, o + j, none⟩ by unfold Addr.add; split <;> simp_all]
  have hcase : j = j / 4 * 4 ∨ j = j / 4 * 4 + 1 ∨ j = j / 4 * 4 + 2 ∨ j = j / 4 * 4 + 3 := by omega
  generalize hq : j / 4 = q at *
  rcases hcase with e | e | e | e
  · rw [e] at hu ⊢; rw [c0, ← f0, hu]
  · rw [e] at hu ⊢; rw [← Nat.add_assoc, c1, ← f1, hu]
  · rw [e] at hu ⊢; rw [← Nat.add_assoc, c2, ← f2, hu]
  · rw [e] at hu ⊢; rw [← Nat.add_assoc, c3, ← f3, hu]
theorem own_quads {w : World} {base : Nat} {e : TypeId} {q cap : Nat} {os : List Opn} (h : w.ownsRow base e 4 (.slice (some ⟨q, 0, none⟩) os.length cap) os.length (flatO os)) : Quads w w.heap.size (some ⟨q, 0, none⟩) os.length os := by
  refine ⟨rfl, fun _ => ⟨q, 0, rfl, (h.lt q rfl).2, fun i hi => ?_⟩⟩
  rw [Nat.zero_add, h.cellAt (i * 4) (by omega), h.cellAt (i * 4 + 1) (by omega), h.cellAt (i * 4 + 2) (by omega), h.cellAt (i * 4 + 3) (by omega)]
  exact flatO_at hi

/-- The block g holds these opens, from its beginning, and can be written. -/
structure HeldQ (w : World) (g : Nat) (d : List Opn) : Prop where
  lt : g < w.heap.size
  fr : ∀ o, w.frozen? ⟨g, o, none⟩ = false
  cs : ∀ i, i < d.length → w.cell? ⟨g, i * 4, none⟩ = some (.int .i64 (oth d i).1) ∧ w.cell? ⟨g, i * 4 + 1, none⟩ = some (.int .i64 (oth d i).2.1) ∧ w.cell? ⟨g, i * 4 + 2, none⟩ = some (.int .i64 (oth d i).2.2.1) ∧ w.cell? ⟨g, i * 4 + 3, none⟩ = some (.int .i64 (oth d i).2.2.2)
theorem HeldQ.keep {w w' : World} {g : Nat} {d : List Opn} (h : HeldQ w g d) (hl : g < w'.heap.size) (hf : ∀ o, w'.frozen? ⟨g, o, none⟩ = w.frozen? ⟨g, o, none⟩) (hc : ∀ o, w'.cell? ⟨g, o, none⟩ = w.cell? ⟨g, o, none⟩) : HeldQ w' g d :=
  ⟨hl, fun o => (hf o).trans (h.fr o), fun i hi => ⟨(hc _).trans (h.cs i hi).1, (hc _).trans (h.cs i hi).2.1, (hc _).trans (h.cs i hi).2.2.1, (hc _).trans (h.cs i hi).2.2.2⟩⟩
theorem HeldQ.later {w w' : World} {g : Nat} {d : List Opn} (h : HeldQ w g d) (hb : Below w.heap.size w w') : HeldQ w' g d :=
  h.keep (Nat.lt_of_lt_of_le h.lt hb.size) (fun o => hb.frozen (p := ⟨g, o, none⟩) h.lt) (fun o => hb.cell (p := ⟨g, o, none⟩) h.lt)
theorem HeldQ.kept {w w' : World} {g : Nat} {d : List Opn} {r : Option Nat} (h : HeldQ w g d) (hg : w.grownBy w' r) (hne : r ≠ some g) : HeldQ w' g d :=
  h.keep (Nat.lt_of_lt_of_le h.lt hg.size) (fun o => hg.frozen_far ⟨g, o, none⟩ h.lt (fun e => hne e.symm)) (fun o => hg.cell_far ⟨g, o, none⟩ h.lt (fun e => hne e.symm))
theorem HeldQ.quads {w : World} {g : Nat} {os : List Opn} (h : HeldQ w g os) : Quads w w.heap.size (some ⟨g, 0, none⟩) os.length os :=
  ⟨rfl, fun _ => ⟨g, 0, rfl, h.lt, fun i hi => by rw [Nat.zero_add]; exact h.cs i hi⟩⟩
theorem HeldQ.qds {w : World} {g n : Nat} {os : List Opn} (h : HeldQ w g os) (hl : os.length = n) : Quads w w.heap.size (some ⟨g, 0, none⟩) n os := hl ▸ h.quads
theorem own_heldQ {w : World} {base : Nat} {e : TypeId} {q cap : Nat} {os : List Opn} (h : w.ownsRow base e 4 (.slice (some ⟨q, 0, none⟩) os.length cap) os.length (flatO os)) : HeldQ w q os := by
  refine ⟨(h.lt q rfl).2, fun o => ?_, fun i hi => ?_⟩
  · rcases h.2 with ⟨h', _⟩ | ⟨g', cap', cur, h', _, hg, _⟩
    · simp at h'
    · simp only [Value.slice.injEq, Option.some.injEq, Addr.mk.injEq, and_true, true_and] at h'
      obtain ⟨rfl, rfl⟩ := h'
      simp [World.frozen?, hg]
  · rw [h.cellAt (i * 4) (by omega), h.cellAt (i * 4 + 1) (by omega), h.cellAt (i * 4 + 2) (by omega), h.cellAt (i * 4 + 3) (by omega)]
    exact flatO_at hi
theorem HeldQ.put {w : World} {g : Nat} {d : List Opn} (h : HeldQ w g d) (i : Nat) (x : Opn) :
    HeldQ ((((w.setCell ⟨g, i * 4, none⟩ (.int .i64 x.1)).setCell ⟨g, i * 4 + 1, none⟩ (.int .i64 x.2.1)).setCell ⟨g, i * 4 + 2, none⟩ (.int .i64 x.2.2.1)).setCell ⟨g, i * 4 + 3, none⟩ (.int .i64 x.2.2.2)) g (d.set i x) := by
  refine ⟨by simp only [size_set]; exact h.lt, fun o => by simp only [World.frozen?_setCell]; exact h.fr o, fun j hj => ?_⟩
  rw [List.length_set] at hj
  obtain ⟨c0, c1, c2, c3⟩ := h.cs j hj
  by_cases e : j = i
  · subst e
    have ex : oth (d.set j x) j = x := by simp [oth, hj]
    rw [ex]
    refine ⟨?_, ?_, ?_, ?_⟩
    · rw [cell_set1 (cell_set1 (cell_set1 (cell_set1 c0)))]; simp
    · rw [cell_set1 (cell_set1 (cell_set1 (cell_set1 c1)))]; simp
    · rw [cell_set1 (cell_set1 (cell_set1 (cell_set1 c2)))]; simp
    · rw [cell_set1 (cell_set1 (cell_set1 (cell_set1 c3)))]; simp
  · have ex : oth (d.set i x) j = oth d j := by simp [oth, show ¬ i = j from fun h => e h.symm]
    rw [ex]
    refine ⟨?_, ?_, ?_, ?_⟩
    · rw [cell_set1 (cell_set1 (cell_set1 (cell_set1 c0))), if_neg (by omega), if_neg (by omega), if_neg (by omega), if_neg (by omega)]
    · rw [cell_set1 (cell_set1 (cell_set1 (cell_set1 c1))), if_neg (by omega), if_neg (by omega), if_neg (by omega), if_neg (by omega)]
    · rw [cell_set1 (cell_set1 (cell_set1 (cell_set1 c2))), if_neg (by omega), if_neg (by omega), if_neg (by omega), if_neg (by omega)]
    · rw [cell_set1 (cell_set1 (cell_set1 (cell_set1 c3))), if_neg (by omega), if_neg (by omega), if_neg (by omega), if_neg (by omega)]

/-- A part of a slice of opens. -/
theorem Quads.take {w : World} {B : Nat} {b o n k : Nat} {os : List Opn} (h : Quads w B (some ⟨b, o, none⟩) n os) (hk : k ≤ n) : Quads w B (some ⟨b, o, none⟩) k (os.take k) := by
  refine ⟨by rw [List.length_take, h.1]; omega, fun hpos => ?_⟩
  obtain ⟨b', o', hA, hb, hc⟩ := h.2 (by omega)
  cases hA
  refine ⟨b, o, rfl, hb, fun i hi => ?_⟩
  have e : oth (os.take k) i = oth os i := by simp [oth, hi]
  rw [e]
  exact hc i (by omega)
theorem Quads.drop {w : World} {B : Nat} {b o n k : Nat} {os : List Opn} (h : Quads w B (some ⟨b, o, none⟩) n os) (hk : k ≤ n) : Quads w B (some ⟨b, o + k * 4, none⟩) (n - k) (os.drop k) := by
  refine ⟨by rw [List.length_drop, h.1], fun hpos => ?_⟩
  obtain ⟨b', o', hA, hb, hc⟩ := h.2 (by omega)
  cases hA
  refine ⟨b, o + k * 4, rfl, hb, fun i hi => ?_⟩
  have e : oth (os.drop k) i = oth os (k + i) := by simp [oth, List.getElem?_drop]
  rw [e]
  have := hc (k + i) (by omega)
  rw [show o + (k + i) * 4 = o + k * 4 + i * 4 by omega] at this
  exact this

/-- The first open of a client. -/
def getO (os : List Opn) (k : Int) : Option Opn := os.find? fun o => o.1 == k
/-- What OpenOf answers. -/
def opV : Option Opn → Value
  | none => .tuple #[.agg #[.int .i64 0, .int .i64 0, .int .i64 0, .int .i64 0], .bool false]
  | some o => .tuple #[.agg #[.int .i64 o.1, .int .i64 o.2.1, .int .i64 o.2.2.1, .int .i64 o.2.2.2], .bool true]
/-- The place behind the last open of a lesser client. -/
def behS (c : Int) (s : Nat × Nat) (o : Opn) : Nat × Nat := (s.1 + 1, if o.1 < c then s.1 + 1 else s.2)
def behN (c : Int) (os : List Opn) : Nat := (os.foldl (behS c) (0, 0)).2
theorem beh_fst (c : Int) (os : List Opn) (s : Nat × Nat) : (os.foldl (behS c) s).1 = s.1 + os.length := by
  induction os generalizing s with
  | nil => rfl
  | cons o os ih => rw [List.foldl_cons, ih, List.length_cons]; simp only [behS]; omega
theorem behN_snoc {c : Int} {os : List Opn} {k : Nat} (h : k < os.length) : behN c (os.take (k + 1)) = if (oth os k).1 < c then k + 1 else behN c (os.take k) := by
  rw [List.take_succ_eq_append_getElem h, ← oth_lt h]
  unfold behN
  rw [List.foldl_append, List.foldl_cons, List.foldl_nil]
  have := beh_fst c (os.take k) (0, 0)
  simp only [behS, this, List.length_take]
  split
  · omega
  · rfl
theorem behN_le (c : Int) (os : List Opn) : behN c os ≤ os.length := by
  have key : ∀ k, k ≤ os.length → behN c (os.take k) ≤ k := by
    intro k
    induction k with
    | zero => intro _; rw [List.take_zero]; exact Nat.le_refl _
    | succ k ih =>
      intro hk
      rw [behN_snoc (by omega)]
      split
      · omega
      · have := ih (by omega); omega
  have := key os.length (Nat.le_refl _)
  rwa [List.take_length] at this
/-- Where the first open of a client stands, or that there is none. -/
def firstAt (c : Int) (os : List Opn) (i : Nat) : Prop := i < os.length ∧ (oth os i).1 = c ∧ ∀ j, j < i → (oth os j).1 ≠ c
def noneAt (c : Int) (os : List Opn) : Prop := ∀ j, j < os.length → (oth os j).1 ≠ c
theorem getO_some {c : Int} {os : List Opn} {i : Nat} (h : firstAt c os i) : getO os c = some (oth os i) := by
  obtain ⟨hi, hc, hb⟩ := h
  unfold getO
  rw [List.find?_eq_some_iff_getElem]
  refine ⟨by simp [hc], i, hi, (oth_lt hi).symm, fun j hj => ?_⟩
  have := hb j hj
  rw [oth_lt (by omega)] at this
  simpa using this
theorem getO_none {c : Int} {os : List Opn} (h : noneAt c os) : getO os c = none := by
  unfold getO
  rw [List.find?_eq_none]
  intro o ho
  obtain ⟨j, hj, rfl⟩ := List.getElem_of_mem ho
  have := h j hj
  rw [oth_lt hj] at this
  simpa using this
/-- The opens with one more, in its place. -/
def putO (os : List Opn) (i j : Nat) (o : Opn) : List Opn := os.take i ++ [o] ++ os.drop j
theorem putO_len {os : List Opn} {i j : Nat} {o : Opn} (hi : i ≤ os.length) (hj : j ≤ os.length) : (putO os i j o).length = i + 1 + (os.length - j) := by
  simp [putO]; omega
theorem getO_app (a b : List Opn) (k : Int) : getO (a ++ b) k = (getO a k).or (getO b k) := by simp [getO, List.find?_append]
theorem getO_take {c : Int} {os : List Opn} {i : Nat} (h : ∀ j, j < i → (oth os j).1 ≠ c) : getO (os.take i) c = none := by
  refine getO_none fun j hj => ?_
  rw [List.length_take] at hj
  have e : oth (os.take i) j = oth os j := by simp [oth, show j < i by omega]
  rw [e]
  exact h j (by omega)
theorem getO_one (o : Opn) (k : Int) : getO [o] k = if o.1 = k then some o else none := by
  by_cases h : o.1 = k <;> simp [getO, h]
theorem getO_put {os : List Opn} {i : Nat} {o : Opn} {k : Int} (h : firstAt o.1 os i) : getO (putO os i (i + 1) o) k = if o.1 = k then some o else getO os k := by
  unfold putO
  rw [getO_app, getO_app, getO_one]
  have e : os = os.take i ++ [oth os i] ++ os.drop (i + 1) := by
    rw [oth_lt h.1, ← List.take_succ_eq_append_getElem h.1, List.take_append_drop]
  by_cases hk : o.1 = k
  · subst hk
    rw [getO_take h.2.2]
    simp
  · rw [if_neg hk, if_neg hk]
    conv => rhs; rw [e]
    rw [getO_app, getO_app, getO_one, if_neg (by rw [h.2.1]; exact hk)]
theorem getO_add {os : List Opn} {i : Nat} {o : Opn} {k : Int} (hi : i ≤ os.length) (h : noneAt o.1 os) : getO (putO os i i o) k = if o.1 = k then some o else getO os k := by
  unfold putO
  rw [getO_app, getO_app, getO_one]
  by_cases hk : o.1 = k
  · subst hk
    rw [getO_take fun j hj => h j (by omega)]
    simp
  · rw [if_neg hk, if_neg hk]
    conv => rhs; rw [← List.take_append_drop i os]
    rw [getO_app]
    simp
theorem first_cases (c : Int) (os : List Opn) : (∃ i, firstAt c os i) ∨ noneAt c os := by
  by_cases h : ∃ j, j < os.length ∧ (oth os j).1 = c
  · left
    have hf : ∀ n, (∃ j, j < n ∧ j < os.length ∧ (oth os j).1 = c) → ∃ i, firstAt c os i := by
      intro n
      induction n with
      | zero => rintro ⟨j, hj, _⟩; omega
      | succ n ih =>
        rintro ⟨j, hj, h1, h2⟩
        by_cases hn : ∃ j, j < n ∧ j < os.length ∧ (oth os j).1 = c
        · exact ih hn
        · by_cases e : j = n
          · subst e
            exact ⟨j, h1, h2, fun m hm hc => hn ⟨m, hm, by omega, hc⟩⟩
          · exact absurd ⟨j, by omega, h1, h2⟩ hn
    obtain ⟨j, h1, h2⟩ := h
    exact hf (j + 1) ⟨j, by omega, h1, h2⟩
  · right
    intro j hj hc
    exact h ⟨j, hj, hc⟩
/-- Where an open is put: it takes a place, or comes between. -/
theorem putO_cases (os : List Opn) (o : Opn) : ∃ i j, i ≤ os.length ∧ i ≤ j ∧ j ≤ os.length ∧ j ≤ i + 1 ∧ ((j = i + 1 ∧ firstAt o.1 os i) ∨ (j = i ∧ i = behN o.1 os ∧ noneAt o.1 os)) := by
  rcases first_cases o.1 os with ⟨i, h⟩ | h
  · have := h.1
    exact ⟨i, i + 1, by omega, by omega, by omega, by omega, .inl ⟨rfl, h⟩⟩
  · have := behN_le o.1 os
    exact ⟨behN o.1 os, behN o.1 os, this, Nat.le_refl _, this, by omega, .inr ⟨rfl, rfl, h⟩⟩

/-- What WithOpen puts together. -/
def withO (os : List Opn) (o : Opn) : List Opn :=
  match os.findIdx? (fun x => x.1 == o.1) with
  | some i => putO os i (i + 1) o
  | none => putO os (behN o.1 os) (behN o.1 os) o
theorem withO_first {os : List Opn} {o : Opn} {i : Nat} (h : firstAt o.1 os i) : withO os o = putO os i (i + 1) o := by
  have e : os.findIdx? (fun x => x.1 == o.1) = some i := by
    rw [List.findIdx?_eq_some_iff_getElem]
    refine ⟨h.1, by have := h.2.1; rw [oth_lt h.1] at this; simp [this], fun j hj => ?_⟩
    have hj' : j < os.length := Nat.lt_trans hj h.1
    have := h.2.2 j hj
    rw [oth_lt hj'] at this
    simpa using this
  unfold withO
  rw [e]
theorem withO_none {os : List Opn} {o : Opn} (h : noneAt o.1 os) : withO os o = putO os (behN o.1 os) (behN o.1 os) o := by
  have e : os.findIdx? (fun x => x.1 == o.1) = none := by
    rw [List.findIdx?_eq_none_iff]
    intro x hx
    obtain ⟨j, hj, rfl⟩ := List.getElem_of_mem hx
    have := h j hj
    rw [oth_lt hj] at this
    simpa using this
  unfold withO
  rw [e]
theorem getO_with (os : List Opn) (o : Opn) (k : Int) : getO (withO os o) k = if o.1 = k then some o else getO os k := by
  rcases first_cases o.1 os with ⟨i, h⟩ | h
  · rw [withO_first h]; exact getO_put h
  · rw [withO_none h]; exact getO_add (behN_le _ _) h
theorem withO_len (os : List Opn) (o : Opn) : (withO os o).length ≤ os.length + 1 ∧ 1 ≤ (withO os o).length := by
  rcases first_cases o.1 os with ⟨i, h⟩ | h
  · rw [withO_first h, putO_len (by have := h.1; omega) (by have := h.1; omega)]; have := h.1; omega
  · rw [withO_none h, putO_len (behN_le _ _) (behN_le _ _)]; have := behN_le o.1 os; omega

end Go.Proofs.YtjdepjpjjgkmbaaGreat
