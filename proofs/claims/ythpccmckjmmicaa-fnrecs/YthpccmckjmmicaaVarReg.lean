/- The marks of opens and of shelves: what is written, what is found again, and what stays: contracts of each of them. -/
import Derived.Test.YthpccmckjmmicaaReg3
import Derived.Test.YthpccmckjmmicaaCopiesReg
namespace Go.Proofs.Ythpccmckjmmicaa
open Go.RowKit

/-- Only blocks from lo up to hi may have been written. -/
structure Band (lo hi : Nat) (w w' : World) : Prop where
  os : w'.os = w.os
  tape : w'.tape = w.tape
  output : w'.output = w.output
  size : w.heap.size ≤ w'.heap.size
  block : ∀ i, i < w.heap.size → (i < lo ∨ hi ≤ i) → w'.heap[i]? = w.heap[i]?
theorem Band.refl (lo hi : Nat) (w : World) : Band lo hi w w := ⟨rfl, rfl, rfl, Nat.le_refl _, fun _ _ _ => rfl⟩
theorem Band.trans {lo hi : Nat} {a b c : World} (h : Band lo hi a b) (k : Band lo hi b c) : Band lo hi a c :=
  ⟨k.os.trans h.os, k.tape.trans h.tape, k.output.trans h.output, Nat.le_trans h.size k.size, fun i hi' hb => (k.block i (Nat.lt_of_lt_of_le hi' h.size) hb).trans (h.block i hi' hb)⟩
theorem Band.of_below {lo hi : Nat} {a b : World} (h : Below a.heap.size a b) : Band lo hi a b := ⟨h.os, h.tape, h.output, h.size, fun i hi' _ => h.block i hi'⟩
theorem Band.of_grown {lo hi g : Nat} {a b : World} (h : a.grownBy b (some g)) (h1 : lo ≤ g) (h2 : g < hi) : Band lo hi a b :=
  ⟨h.os, h.tape, h.output, h.size, fun i hi' hb => h.block i hi' (by intro e; injection e with e; omega)⟩
theorem Band.below {lo hi : Nat} {w a b : World} (h : Band lo hi a b) (hb : Below w.heap.size w a) (hl : w.heap.size ≤ lo) : Below w.heap.size w b :=
  ⟨h.os.trans hb.os, h.tape.trans hb.tape, h.output.trans hb.output, Nat.le_trans hb.size h.size, fun i hi' => (h.block i (Nat.lt_of_lt_of_le hi' hb.size) (.inl (by omega))).trans (hb.block i hi')⟩
theorem Band.cell {lo hi : Nat} {a b : World} (h : Band lo hi a b) {g : Nat} (hg : g < a.heap.size) (hb : g < lo ∨ hi ≤ g) (o : Nat) : b.cell? ⟨g, o, none⟩ = a.cell? ⟨g, o, none⟩ := World.cell?_of_block (h.block g hg hb)
theorem Band.frozen {lo hi : Nat} {a b : World} (h : Band lo hi a b) {g : Nat} (hg : g < a.heap.size) (hb : g < lo ∨ hi ≤ g) (o : Nat) : b.frozen? ⟨g, o, none⟩ = a.frozen? ⟨g, o, none⟩ := World.frozen?_of_block (h.block g hg hb)
theorem Box.band {lo hi : Nat} {a b : World} {g : Nat} {t : TypeId} {cs : Array Value} (hx : Box a g t cs) (h : Band lo hi a b) (hb : g < lo ∨ hi ≤ g) : Box b g t cs := (h.block g hx.lt hb).trans hx
theorem Held.band {lo hi : Nat} {a b : World} {g : Nat} {d : List (Int × Int)} (hx : Held a g d) (h : Band lo hi a b) (hb : g < lo ∨ hi ≤ g) : Held b g d :=
  ⟨Nat.lt_of_lt_of_le hx.lt h.size, fun o => (h.frozen hx.lt hb o).trans (hx.fr o), fun i hi' => (h.cell hx.lt hb _).trans (hx.at0 i hi'), fun i hi' => (h.cell hx.lt hb _).trans (hx.at1 i hi')⟩
theorem HeldQ.band {lo hi : Nat} {a b : World} {g : Nat} {d : List Opn} (hx : HeldQ a g d) (h : Band lo hi a b) (hb : g < lo ∨ hi ≤ g) : HeldQ b g d :=
  hx.keep (Nat.lt_of_lt_of_le hx.lt h.size) (fun o => h.frozen hx.lt hb o) (fun o => h.cell hx.lt hb o)

/-- A list of opens in a block of its own from lo to hi, or nil. -/
def ResQ (wr : World) (lo hi : Nat) (v : Value) (D : List Opn) : Prop :=
  (v = .slice none 0 0 ∧ D = []) ∨ ∃ g cap, lo ≤ g ∧ g < hi ∧ v = .slice (some ⟨g, 0, none⟩) D.length cap ∧ D.length ≤ cap ∧ cap ≤ maxLen ∧ HeldQ wr g D
theorem ResO.resQ {wr : World} {lo : Nat} {v : Value} {D : List Opn} (h : ResO wr lo v D) : ResQ wr lo wr.heap.size v D := by
  rcases h with h | ⟨g, cap, h1, h2, h3, h4, h5⟩
  · exact .inl h
  · exact .inr ⟨g, cap, h1, h5.lt, h2, h3, h4, h5⟩
theorem ResQ.resO {wr : World} {lo hi : Nat} {v : Value} {D : List Opn} (h : ResQ wr lo hi v D) : ResO wr lo v D := by
  rcases h with h | ⟨g, cap, h1, _, h2, h3, h4, h5⟩
  · exact .inl h
  · exact .inr ⟨g, cap, h1, h2, h3, h4, h5⟩
theorem ResQ.later {wr w' : World} {lo hi : Nat} {v : Value} {D : List Opn} (h : ResQ wr lo hi v D) (hb : Below wr.heap.size wr w') : ResQ w' lo hi v D := by
  rcases h with h | ⟨g, cap, h1, h2, h3, h4, h5, h6⟩
  · exact .inl h
  · exact .inr ⟨g, cap, h1, h2, h3, h4, h5, h6.later hb⟩
theorem ResP.band {wr w' : World} {lo hi l h' : Nat} {u : Value} {D : List (Int × Int)} (h : ResP wr l h' u D) (hb : Band lo hi wr w') (hd : h' ≤ lo ∨ hi ≤ l) : ResP w' l h' u D := by
  rcases h with h | ⟨g, cap, h1, h2, h3, h4, h5, h6⟩
  · exact .inl h
  · exact .inr ⟨g, cap, h1, h2, h3, h4, h5, h6.band hb (by omega)⟩
theorem ResQ.band {wr w' : World} {lo hi l h' : Nat} {u : Value} {D : List Opn} (h : ResQ wr l h' u D) (hb : Band lo hi wr w') (hd : h' ≤ lo ∨ hi ≤ l) : ResQ w' l h' u D := by
  rcases h with h | ⟨g, cap, h1, h2, h3, h4, h5, h6⟩
  · exact .inl h
  · exact .inr ⟨g, cap, h1, h2, h3, h4, h5, h6.band hb (by omega)⟩

/-- Marked from k on. -/
def MarkedQ (k : Int) (d : List Opn) : Prop := ∀ j, j < d.length → oth d j = (k + 4 * j, k + 4 * j + 1, k + 4 * j + 2, k + 4 * j + 3)

theorem markP_is {wr : World} {lo hi : Nat} {u : Value} {D : List (Int × Int)} (k : Int) (h : ResP wr lo hi u D) (hn : D.length ≤ 1048577) (hk0 : 0 ≤ k) (hk1 : k ≤ 50000000) :
    Calls Try.prog 23 #[u, .int .i64 k] wr fun e w' => e = .returned (.int .i64 (k + 2 * D.length)) ∧ ∃ D', D'.length = D.length ∧ Marked k D' ∧ ResP w' lo hi u D' ∧ Band lo hi wr w' := by
  rcases h with ⟨rfl, rfl⟩ | ⟨g, cap, h1, h2, rfl, h4, h5, h6⟩
  · refine (mark_nil k wr).mono ?_
    rintro e w' ⟨rfl, rfl⟩
    exact ⟨by simp, [], rfl, fun j hj => absurd hj (by simp), .inl ⟨rfl, rfl⟩, Band.refl _ _ _⟩
  · refine (mark_is g D.length cap k D wr (by omega) hk0 (by omega) rfl h6).mono ?_
    rintro e w' ⟨rfl, D', hd1, hd2, hd3, hg⟩
    exact ⟨rfl, D', hd1, hd2, .inr ⟨g, cap, h1, h2, by rw [hd1], by omega, h5, hd3⟩, Band.of_grown hg h1 h2⟩
theorem heldP_is {wr : World} {lo hi : Nat} {u : Value} {D : List (Int × Int)} (k : Int) (h : ResP wr lo hi u D) (hM : Marked k D) (hn : D.length ≤ 1048577) (hk0 : 0 ≤ k) (hk1 : k ≤ 50000000) :
    Calls Try.prog 51 #[u, .int .i64 k] wr fun e w' => e = .returned (.int .i64 (k + 2 * D.length)) ∧ wr = w' := by
  rcases h with ⟨rfl, rfl⟩ | ⟨g, cap, h1, h2, rfl, h4, h5, h6⟩
  · refine (held_nil k wr).mono ?_
    rintro e w' ⟨rfl, rfl⟩
    exact ⟨by simp, rfl⟩
  · exact held_is g D.length cap k D wr (by omega) hk0 (by omega) rfl hM h6
end Go.Proofs.Ythpccmckjmmicaa

/- A variable that holds a shelf, with its lists in blocks of their own, all within a stretch of blocks: what keeps it, its marks, two of them compared. -/
namespace Go.Proofs.Ythpccmckjmmicaa
open Go.RowKit

theorem ResQ.far {w : World} {lo hi : Nat} {u : Value} {D : List Opn} (h : ResQ w lo hi u D) {b : Nat} (hb : b < lo) (o : Nat) (x : Value) : ResQ (w.setCell ⟨b, o, none⟩ x) lo hi u D := by
  rcases h with h | ⟨g, cap, h1, h2, h3, h4, h5, h6⟩
  · exact .inl h
  · exact .inr ⟨g, cap, h1, h2, h3, h4, h5, h6.far (by omega) o x⟩
end Go.Proofs.Ythpccmckjmmicaa
