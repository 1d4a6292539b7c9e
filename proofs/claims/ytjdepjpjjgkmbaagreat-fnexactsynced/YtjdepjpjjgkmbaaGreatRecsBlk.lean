/- A block of records of one's own: each with its list in blocks of its own; made anew, written, read; no conditions. -/
import Derived.Deep.MidRow
import Derived.Test.YtjdepjpjjgkmbaaGreatKinds9S
namespace Go.Proofs.YtjdepjpjjgkmbaaGreat
open Go Go.RowKit

theorem turns_setCells9 (g : Nat) : ∀ (vs : List Value) (o : Nat) (w : World), Turns (· = g) w (w.setCells g o vs)
  | [], _, w => Turns.of_below (Below.refl _ _)
  | v :: vs, o, w => (turns_cell9 w g o v).trans (turns_setCells9 g vs (o + 1) _)
where
  turns_cell9 (w : World) (g o : Nat) (u : Value) : Turns (· = g) w (w.setCell ⟨g, o, none⟩ u) :=
    ⟨rfl, rfl, rfl, by rw [size_set]; exact Nat.le_refl _, fun i _ hne => Below.heap_setCell w ⟨g, o, none⟩ u i hne⟩
def zeroC : RecD := ⟨0, 0, 0, 0, 0, 0, 0, [], 0⟩
/-- The block g holds n records, D of them; the list of the one at place i lies in blocks of Fs i, apart from all others'. -/
structure RecsAt (w : World) (g n : Nat) (D : Nat → RecD) (Fs : Nat → Nat → Prop) : Prop where
  lt : g < w.heap.size
  fr : ∀ o, w.frozen? ⟨g, o, none⟩ = false
  row : ∀ i, i < n → ∃ u, w.rangeAt g (i * 9) ((D i).cells u).toList ∧ LieC (D i) w (Fs i) (.agg ((D i).cells u))
  apart : ∀ i, i < n → ∀ b, Fs i b → b ≠ g
  two : ∀ i j, i < n → j < n → i ≠ j → ∀ b, Fs i b → ¬ Fs j b
theorem RecsAt.turn {w w' : World} {g n : Nat} {D : Nat → RecD} {Fs : Nat → Nat → Prop} {T : Nat → Prop} (h : RecsAt w g n D Fs) (ht : Turns T w w') (hg : ¬ T g) (hF : ∀ i, i < n → ∀ b, Fs i b → ¬ T b) : RecsAt w' g n D Fs :=
  ⟨Nat.lt_of_lt_of_le h.lt ht.size, fun o => (ht.frozen h.lt hg o).trans (h.fr o), fun i hi => by
    obtain ⟨u, h1, h2⟩ := h.row i hi
    exact ⟨u, fun j v hv => (ht.cell h.lt hg _).trans (h1 j v hv), (keepsLC _).turn h2 ht (hF i hi)⟩, h.apart, h.two⟩
theorem RecsAt.later {w w' : World} {g n : Nat} {D : Nat → RecD} {Fs : Nat → Nat → Prop} (h : RecsAt w g n D Fs) (hb : Below w.heap.size w w') : RecsAt w' g n D Fs :=
  h.turn (T := fun _ => False) (Turns.of_below hb) (fun h => h) (fun _ _ _ _ h => h)
theorem cells_len (d : RecD) (u : Value) : (d.cells u).toList.length = 9 := rfl
theorem RecsAt.there {w : World} {g n : Nat} {D : Nat → RecD} {Fs : Nat → Nat → Prop} (h : RecsAt w g n D Fs) {i : Nat} (hi : i < n) : w.there g (i * 9) 9 := fun j hj => by
  obtain ⟨u, h1, -⟩ := h.row i hi
  exact ⟨h1.isSome j (by rw [cells_len]; exact hj), h.fr _⟩
def upD (D : Nat → RecD) (i : Nat) (d : RecD) : Nat → RecD := fun j => if j = i then d else D j
def upFs (Fs : Nat → Nat → Prop) (i : Nat) (F : Nat → Prop) : Nat → Nat → Prop := fun j => if j = i then F else Fs j
/-- One of them is written anew. -/
theorem RecsAt.put {w : World} {g n : Nat} {D : Nat → RecD} {Fs : Nat → Nat → Prop} (h : RecsAt w g n D Fs) {i : Nat} (hi : i < n) {d : RecD} {F : Nat → Prop} {u : Value} (hL : LieC d w F (.agg (d.cells u))) (hg : ∀ b, F b → b ≠ g) (ho : ∀ j, j < n → j ≠ i → ∀ b, F b → ¬ Fs j b) :
    RecsAt (w.setCells g (i * 9) (d.cells u).toList) g n (upD D i d) (upFs Fs i F) := by
  have ht := turns_setCells9 g (d.cells u).toList (i * 9) w
  refine ⟨Nat.lt_of_lt_of_le h.lt ht.size, fun o => (World.frozen?_setCells g _ _ _ _).trans (h.fr o), fun j hj => ?_, fun j hj b hb => ?_, fun j k hj hk hjk b hb hb2 => ?_⟩
  · by_cases e : j = i
    · subst e
      refine ⟨u, ?_, ?_⟩
      · simp only [upD, if_true]
        exact World.rangeAt_setCells_same w g _ _ (h.there hi)
      · simp only [upD, upFs, if_true]
        exact (keepsLC _).turn hL ht hg
    · obtain ⟨u', h1, h2⟩ := h.row j hj
      refine ⟨u', ?_, ?_⟩
      · simp only [upD, if_neg e]
        exact World.rangeAt_setCells_apart h1 g _ _ (.inr (by simp only [cells_len]; omega))
      · simp only [upD, upFs, if_neg e]
        exact (keepsLC _).turn h2 ht (h.apart j hj)
  · unfold upFs at hb
    split at hb
    · exact hg b hb
    · exact h.apart j hj b hb
  · unfold upFs at hb hb2
    split at hb <;> split at hb2
    · omega
    · exact ho k hk (by assumption) b hb hb2
    · exact ho j hj (by assumption) b hb2 hb
    · exact h.two j k hj hk hjk b hb hb2
/-- Records of one's own behind lo: no list lies below it. -/
def RecsOwn (w : World) (g lo n : Nat) (D : Nat → RecD) : Prop :=
  lo ≤ g ∧ ∃ Fs, RecsAt w g n D Fs ∧ ∀ i, i < n → ∀ b, Fs i b → lo ≤ b ∧ b < w.heap.size
theorem RecsOwn.turn {w w' : World} {g lo n : Nat} {D : Nat → RecD} {T : Nat → Prop} (h : RecsOwn w g lo n D) (ht : Turns T w w') (hT : ∀ b, T b → b < lo) : RecsOwn w' g lo n D := by
  obtain ⟨hg, Fs, hR, hF⟩ := h
  exact ⟨hg, Fs, hR.turn ht (fun h => by have := hT _ h; omega) (fun i hi b hb hb2 => by have := hT b hb2; have := (hF i hi b hb).1; omega), fun i hi b hb => ⟨(hF i hi b hb).1, Nat.lt_of_lt_of_le (hF i hi b hb).2 ht.size⟩⟩
theorem RecsOwn.later {w w' : World} {g lo n : Nat} {D : Nat → RecD} (h : RecsOwn w g lo n D) (hb : Below w.heap.size w w') : RecsOwn w' g lo n D := h.turn (T := fun _ => False) (Turns.of_below hb) (fun _ h => h.elim)
/-- One of them is written anew, with a new list. -/
theorem RecsOwn.put {w w1 : World} {g lo n : Nat} {D : Nat → RecD} (h : RecsOwn w g lo n D) (hb : Below w.heap.size w w1) {i : Nat} (hi : i < n) {d : RecD} {u : Value} (hL : LieC d w1 (Iv w.heap.size w1.heap.size) (.agg (d.cells u))) :
    RecsOwn (w1.setCells g (i * 9) (d.cells u).toList) g lo n (upD D i d) := by
  obtain ⟨hg, Fs, hR, hF⟩ := h
  have hlt := hR.lt
  have hs := (turns_setCells9 g (d.cells u).toList (i * 9) w1).size
  refine ⟨hg, _, (hR.later hb).put hi hL (fun b hb1 => by have := hb1.1; omega) (fun j hj _ b hb1 hb2 => by have := hb1.1; have := (hF j hj b hb2).2; omega), fun j hj b hb1 => ?_⟩
  unfold upFs at hb1
  split at hb1
  · exact ⟨by have := hb1.1; omega, Nat.lt_of_lt_of_le hb1.2 hs⟩
  · have := hF j hj b hb1
    have := hb.size
    omega
theorem RecsOwn.low {w : World} {g lo lo' n : Nat} {D : Nat → RecD} (h : RecsOwn w g lo n D) (hl : lo' ≤ lo) : RecsOwn w g lo' n D := by
  obtain ⟨hg, Fs, hR, hF⟩ := h
  exact ⟨by omega, Fs, hR, fun i hi b hb => ⟨by have := (hF i hi b hb).1; omega, (hF i hi b hb).2⟩⟩
/-- Records that nothing was written to yet. -/
theorem recs_new (w : World) (t : TypeId) (n : Nat) : RecsOwn (w.alloc (.cells (madeCells (zeroC.cells (.slice none 0 0)) (n * 9)) t)) w.heap.size w.heap.size n (fun _ => zeroC) := by
  have hb := Box.new w t (madeCells (zeroC.cells (.slice none 0 0)) (n * 9))
  refine ⟨Nat.le_refl _, fun _ _ => False, ⟨hb.lt, hb.frozen, fun i hi => ⟨.slice none 0 0, fun j v hv => ?_, ⟨_, rfl, .inl ⟨rfl, rfl⟩⟩⟩, fun _ _ _ h => h.elim, fun _ _ _ _ _ _ h => h.elim⟩, fun _ _ _ h => h.elim⟩
  have hj : j < 9 := by
    have := (List.getElem?_eq_some_iff.1 hv).1
    rwa [cells_len] at this
  refine (hb.cell _).trans ?_
  rw [← hv]
  have e : (i * 9 + j) % 9 = j := by omega
  have hl : i * 9 + j < n * 9 := by omega
  have h9 : (zeroC.cells (.slice none 0 0)).size = 9 := rfl
  simp [madeCells, hl, h9, e, hj]
end Go.Proofs.YtjdepjpjjgkmbaaGreat
