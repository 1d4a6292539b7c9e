/- The laws' own copies of a note, their size and the test that two are alike: contracts of each of them. -/
import Derived.Test.YtmooajppfjglaaaGreatSpecStamp
import Derived.Test.YtmooajppfjglaaaGreatNoteShape
import Derived.Test.YtmooajppfjglaaaGreatCopiesMark
import Derived.Test.YtmooajppfjglaaaGreatNote2
import Derived.Test.YtmooajppfjglaaaGreatSpecNote1
namespace Go.Proofs.YtmooajppfjglaaaGreat
open Go.RowKit

/-- What a copying of a note keeps: the note, the answer's variable, the copy so far. -/
structure TN (w wr : World) (tn ti : TypeId) (src zer cur : Array Value) : Prop where
  nb : Box wr w.heap.size tn src
  rb : Box wr (w.heap.size + 1) ti zer
  ob : Box wr (w.heap.size + 1 + 1) ti cur
  bel : Below w.heap.size w wr
theorem TN.later {w wr w' : World} {tn ti : TypeId} {src zer cur : Array Value} (h : TN w wr tn ti src zer cur) (hb : Below wr.heap.size wr w') : TN w w' tn ti src zer cur :=
  ⟨h.nb.later hb h.nb.lt, h.rb.later hb h.rb.lt, h.ob.later hb h.ob.lt, bel_trans h.bel hb⟩
theorem TN.put {w wr : World} {tn ti : TypeId} {src zer cur : Array Value} (h : TN w wr tn ti src zer cur) (i : Nat) (u : Value) : TN w (wr.setCell ⟨w.heap.size + 1 + 1, i, none⟩ u) tn ti src zer (cur.setIfInBounds i u) :=
  ⟨h.nb.far (p := ⟨w.heap.size + 1 + 1, i, none⟩) (by simp; omega) u, h.rb.far (p := ⟨w.heap.size + 1 + 1, i, none⟩) (by simp) u, h.ob.set i u, h.bel.setCell (p := ⟨w.heap.size + 1 + 1, i, none⟩) (by simp; omega) u⟩
theorem TN.start (w : World) (tn ti : TypeId) (src zer cur : Array Value) : TN w (((w.alloc (.cells src tn)).alloc (.cells zer ti)).alloc (.cells cur ti)) tn ti src zer cur := by
  have B1 := (Box.new (w.alloc (.cells src tn)) ti zer).alloc (.cells cur ti)
  have B2 := Box.new ((w.alloc (.cells src tn)).alloc (.cells zer ti)) ti cur
  simp only [World.size_alloc] at B1 B2
  exact ⟨((Box.new w tn src).alloc _).alloc _, B1, B2, bel_trans (bel_trans (bel_alloc _ _) (bel_alloc _ _)) (bel_alloc _ _)⟩

theorem Held.far {w : World} {g : Nat} {d : List (Int × Int)} (h : Held w g d) {a : Addr} (ha : a.block ≠ g) (u : Value) : Held (w.setCell a u) g d := by
  have hf : (w.setCell a u).heap[g]? = w.heap[g]? := Below.heap_setCell w a u g (fun e => ha e.symm)
  refine ⟨by rw [size_set]; exact h.lt, fun o => ?_, fun i hi => ?_, fun i hi => ?_⟩
  · rw [← h.fr o]
    unfold World.frozen?
    simp only [hf]
  · rw [World.cell?_of_block hf]; exact h.at0 i hi
  · rw [World.cell?_of_block hf]; exact h.at1 i hi

/-- What a copy of a note leaves: the same numbers, and lists of its own. -/
def MadeNote (w : World) (k1 k2 k3 k4 k5 t1 t2 v1 o1 o2 v2 : Int) (p q : Nat) (l1 l2 v3 : Int) (ps qs : List (Int × Int)) (e : Ending) (w' : World) : Prop :=
  ∃ g1 g2, w.heap.size + 1 + 1 < g1 ∧ g1 < g2 ∧ e = .returned (.agg #[.int .i64 k1, .int .i64 k2, .int .i64 k3, .int .i64 k4, .int .i64 k5, .int .i64 t1, .int .i64 t2, .int .i64 v1, .int .i64 o1, .int .i64 o2, .int .i64 v2, .slice (some ⟨g1, 0, none⟩) p p, .slice (some ⟨g2, 0, none⟩) q q, .int .i64 l1, .int .i64 l2, .int .i64 v3]) ∧ Held w' g1 ps ∧ Held w' g2 qs ∧ Below w.heap.size w w'

/-- What the test that two notes are alike keeps: both, and their lists. -/
structure EN (w wr : World) (t : TypeId) (x y : Array Value) (P : Option Addr) (p : Nat) (ps : List (Int × Int)) (Q : Option Addr) (q : Nat) (qs : List (Int × Int)) (P' Q' : Option Addr) : Prop where
  xb : Box wr w.heap.size t x
  yb : Box wr (w.heap.size + 1) t y
  hp : Pairs wr wr.heap.size P p ps
  hq : Pairs wr wr.heap.size Q q qs
  hp' : Pairs wr wr.heap.size P' p ps
  hq' : Pairs wr wr.heap.size Q' q qs
  bel : Below w.heap.size w wr
theorem EN.later {w wr w' : World} {t : TypeId} {x y : Array Value} {P : Option Addr} {p : Nat} {ps : List (Int × Int)} {Q : Option Addr} {q : Nat} {qs : List (Int × Int)} {P' Q' : Option Addr} (h : EN w wr t x y P p ps Q q qs P' Q') (hb : Below wr.heap.size wr w') : EN w w' t x y P p ps Q q qs P' Q' :=
  ⟨h.xb.later hb h.xb.lt, h.yb.later hb h.yb.lt, h.hp.later hb, h.hq.later hb, h.hp'.later hb, h.hq'.later hb, bel_trans h.bel hb⟩

end Go.Proofs.YtmooajppfjglaaaGreat

/- The exact laws of AnswerTo and NoteOk answer true, whatever they are given: walks of each of them (written by laws_note.py). -/
namespace Go.Proofs.YtmooajppfjglaaaGreat
open Go.RowKit

theorem noteNote {w : World} {g g' : Nat} {t t' : TypeId} {a0 a1 a2 a3 a4 a5 a6 a7 a8 a9 a10 a11 a12 a13 a14 a15 b0 b1 b2 b3 b4 b5 b6 b7 b8 b9 b10 b11 b12 b13 b14 b15 : Value} (h : Box w g t #[a0, a1, a2, a3, a4, a5, a6, a7, a8, a9, a10, a11, a12, a13, a14, a15]) (h' : Box w g' t' #[b0, b1, b2, b3, b4, b5, b6, b7, b8, b9, b10, b11, b12, b13, b14, b15]) :
    w.cell? ⟨g, 0, none⟩ = some a0 ∧ w.cell? ⟨g, 1, none⟩ = some a1 ∧ w.cell? ⟨g, 2, none⟩ = some a2 ∧ w.cell? ⟨g, 3, none⟩ = some a3 ∧ w.cell? ⟨g, 4, none⟩ = some a4 ∧ w.cell? ⟨g, 5, none⟩ = some a5 ∧ w.cell? ⟨g, 6, none⟩ = some a6 ∧ w.cell? ⟨g, 7, none⟩ = some a7 ∧ w.cell? ⟨g, 8, none⟩ = some a8 ∧ w.cell? ⟨g, 9, none⟩ = some a9 ∧ w.cell? ⟨g, 10, none⟩ = some a10 ∧ w.cell? ⟨g, 11, none⟩ = some a11 ∧ w.cell? ⟨g, 12, none⟩ = some a12 ∧ w.cell? ⟨g, 13, none⟩ = some a13 ∧ w.cell? ⟨g, 14, none⟩ = some a14 ∧ w.cell? ⟨g, 15, none⟩ = some a15 ∧ w.cell? ⟨g', 0, none⟩ = some b0 ∧ w.cell? ⟨g', 1, none⟩ = some b1 ∧ w.cell? ⟨g', 2, none⟩ = some b2 ∧ w.cell? ⟨g', 3, none⟩ = some b3 ∧ w.cell? ⟨g', 4, none⟩ = some b4 ∧ w.cell? ⟨g', 5, none⟩ = some b5 ∧ w.cell? ⟨g', 6, none⟩ = some b6 ∧ w.cell? ⟨g', 7, none⟩ = some b7 ∧ w.cell? ⟨g', 8, none⟩ = some b8 ∧ w.cell? ⟨g', 9, none⟩ = some b9 ∧ w.cell? ⟨g', 10, none⟩ = some b10 ∧ w.cell? ⟨g', 11, none⟩ = some b11 ∧ w.cell? ⟨g', 12, none⟩ = some b12 ∧ w.cell? ⟨g', 13, none⟩ = some b13 ∧ w.cell? ⟨g', 14, none⟩ = some b14 ∧ w.cell? ⟨g', 15, none⟩ = some b15 :=
  ⟨h.cell 0, h.cell 1, h.cell 2, h.cell 3, h.cell 4, h.cell 5, h.cell 6, h.cell 7, h.cell 8, h.cell 9, h.cell 10, h.cell 11, h.cell 12, h.cell 13, h.cell 14, h.cell 15, h'.cell 0, h'.cell 1, h'.cell 2, h'.cell 3, h'.cell 4, h'.cell 5, h'.cell 6, h'.cell 7, h'.cell 8, h'.cell 9, h'.cell 10, h'.cell 11, h'.cell 12, h'.cell 13, h'.cell 14, h'.cell 15⟩
theorem groupNote {w : World} {g g' : Nat} {t t' : TypeId} {a0 a1 a2 a3 a4 b0 b1 b2 b3 b4 b5 b6 b7 b8 b9 b10 b11 b12 b13 b14 b15 : Value} (h : Box w g t #[a0, a1, a2, a3, a4]) (h' : Box w g' t' #[b0, b1, b2, b3, b4, b5, b6, b7, b8, b9, b10, b11, b12, b13, b14, b15]) :
    w.cell? ⟨g, 0, none⟩ = some a0 ∧ w.cell? ⟨g, 1, none⟩ = some a1 ∧ w.cell? ⟨g, 2, none⟩ = some a2 ∧ w.cell? ⟨g, 3, none⟩ = some a3 ∧ w.cell? ⟨g, 4, none⟩ = some a4 ∧ w.cell? ⟨g', 0, none⟩ = some b0 ∧ w.cell? ⟨g', 1, none⟩ = some b1 ∧ w.cell? ⟨g', 2, none⟩ = some b2 ∧ w.cell? ⟨g', 3, none⟩ = some b3 ∧ w.cell? ⟨g', 4, none⟩ = some b4 ∧ w.cell? ⟨g', 5, none⟩ = some b5 ∧ w.cell? ⟨g', 6, none⟩ = some b6 ∧ w.cell? ⟨g', 7, none⟩ = some b7 ∧ w.cell? ⟨g', 8, none⟩ = some b8 ∧ w.cell? ⟨g', 9, none⟩ = some b9 ∧ w.cell? ⟨g', 10, none⟩ = some b10 ∧ w.cell? ⟨g', 11, none⟩ = some b11 ∧ w.cell? ⟨g', 12, none⟩ = some b12 ∧ w.cell? ⟨g', 13, none⟩ = some b13 ∧ w.cell? ⟨g', 14, none⟩ = some b14 ∧ w.cell? ⟨g', 15, none⟩ = some b15 :=
  ⟨h.cell 0, h.cell 1, h.cell 2, h.cell 3, h.cell 4, h'.cell 0, h'.cell 1, h'.cell 2, h'.cell 3, h'.cell 4, h'.cell 5, h'.cell 6, h'.cell 7, h'.cell 8, h'.cell 9, h'.cell 10, h'.cell 11, h'.cell 12, h'.cell 13, h'.cell 14, h'.cell 15⟩
theorem groupGroup {w : World} {g g' : Nat} {t t' : TypeId} {a0 a1 a2 a3 a4 b0 b1 b2 b3 b4 : Value} (h : Box w g t #[a0, a1, a2, a3, a4]) (h' : Box w g' t' #[b0, b1, b2, b3, b4]) :
    w.cell? ⟨g, 0, none⟩ = some a0 ∧ w.cell? ⟨g, 1, none⟩ = some a1 ∧ w.cell? ⟨g, 2, none⟩ = some a2 ∧ w.cell? ⟨g, 3, none⟩ = some a3 ∧ w.cell? ⟨g, 4, none⟩ = some a4 ∧ w.cell? ⟨g', 0, none⟩ = some b0 ∧ w.cell? ⟨g', 1, none⟩ = some b1 ∧ w.cell? ⟨g', 2, none⟩ = some b2 ∧ w.cell? ⟨g', 3, none⟩ = some b3 ∧ w.cell? ⟨g', 4, none⟩ = some b4 :=
  ⟨h.cell 0, h.cell 1, h.cell 2, h.cell 3, h.cell 4, h'.cell 0, h'.cell 1, h'.cell 2, h'.cell 3, h'.cell 4⟩
theorem made_pairs_of {w : World} {g p : Nat} {ps : List (Int × Int)} (h : Held w g ps) (hl : ps.length = p) : Pairs w w.heap.size (some ⟨g, 0, none⟩) p ps := hl ▸ h.pairs

end Go.Proofs.YtmooajppfjglaaaGreat
