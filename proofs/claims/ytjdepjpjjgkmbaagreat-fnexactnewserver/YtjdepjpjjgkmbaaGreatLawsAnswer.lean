/- The laws' own copies of a note, their size and the test that two are alike: contracts of each of them. -/
import Derived.Test.YtjdepjpjjgkmbaaGreatSpecStamp
import Derived.Test.YtjdepjpjjgkmbaaGreatNoteShape
import Derived.Test.YtjdepjpjjgkmbaaGreatCopiesMark
import Derived.Test.YtjdepjpjjgkmbaaGreatNote2
import Derived.Test.YtjdepjpjjgkmbaaGreatSpecNote1
namespace Go.Proofs.YtjdepjpjjgkmbaaGreat
open Go.RowKit

theorem szNote_le (k1 k2 k3 k4 k5 t1 t2 v1 o1 o2 v2 : Int) (P : Option Addr) (p pc : Nat) (Q : Option Addr) (q qc : Nat) (l1 l2 v3 : Int) (L : Int) (w : World) (h1 : L ≤ 1048576) (hm : (p : Int) + q ≤ L) :
    Calls Tryz.prog 43 #[.agg #[.int .i64 k1, .int .i64 k2, .int .i64 k3, .int .i64 k4, .int .i64 k5, .int .i64 t1, .int .i64 t2, .int .i64 v1, .int .i64 o1, .int .i64 o2, .int .i64 v2, .slice P p pc, .slice Q q qc, .int .i64 l1, .int .i64 l2, .int .i64 v3], .int .i64 L] w fun e w' => e = .returned (.int .i64 (L - p - q)) ∧ Below w.heap.size w w' := by
  have E0 := bel_alloc w (.cells #[.int .i64 k1, .int .i64 k2, .int .i64 k3, .int .i64 k4, .int .i64 k5, .int .i64 t1, .int .i64 t2, .int .i64 v1, .int .i64 o1, .int .i64 o2, .int .i64 v2, .slice P p pc, .slice Q q qc, .int .i64 l1, .int .i64 l2, .int .i64 v3] 75)
  have h2 : ¬ (L - p < 0) := by omega
  have h3 : ¬ (L - p - q < 0) := by omega
  go_enter Tryz.func43, Tryz.ntmps43
  go_wp2_with fail
  refine (szSeals_le P p pc L _ h1 (by omega)).mono ?_
  rintro e w' ⟨rfl, rfl⟩
  go_wp2_with fail
  refine (szSeals_le Q q qc (L - p) _ (by omega) (by omega)).mono ?_
  rintro e w' ⟨rfl, rfl⟩
  go_wp2
  go_ret
  exact ⟨rfl, E0⟩
theorem szNote_gt (k1 k2 k3 k4 k5 t1 t2 v1 o1 o2 v2 : Int) (P : Option Addr) (p pc : Nat) (Q : Option Addr) (q qc : Nat) (l1 l2 v3 : Int) (L : Int) (w : World) (h0 : 0 ≤ L) (h1 : L ≤ 1048576) (hm : L < (p : Int) + q) (hp : p ≤ maxLen) (hq : q ≤ maxLen) :
    Calls Tryz.prog 43 #[.agg #[.int .i64 k1, .int .i64 k2, .int .i64 k3, .int .i64 k4, .int .i64 k5, .int .i64 t1, .int .i64 t2, .int .i64 v1, .int .i64 o1, .int .i64 o2, .int .i64 v2, .slice P p pc, .slice Q q qc, .int .i64 l1, .int .i64 l2, .int .i64 v3], .int .i64 L] w fun e w' => e = .returned (.int .i64 (-1)) ∧ Below w.heap.size w w' := by
  have E0 := bel_alloc w (.cells #[.int .i64 k1, .int .i64 k2, .int .i64 k3, .int .i64 k4, .int .i64 k5, .int .i64 t1, .int .i64 t2, .int .i64 v1, .int .i64 o1, .int .i64 o2, .int .i64 v2, .slice P p pc, .slice Q q qc, .int .i64 l1, .int .i64 l2, .int .i64 v3] 75)
  by_cases h : (p : Int) ≤ L
  · have h2 : ¬ (L - p < 0) := by omega
    have HQ := Lib.hid hq
    clear hp hq
    go_enter Tryz.func43, Tryz.ntmps43
    go_wp2_with fail
    refine (szSeals_le P p pc L _ h1 h).mono ?_
    rintro e w' ⟨rfl, rfl⟩
    go_wp2_with fail
    refine (szSeals_gt Q q qc (L - p) _ (by omega) (by omega) (by omega) HQ.out).mono ?_
    rintro e w' ⟨rfl, rfl⟩
    go_wp2
    go_ret
    exact ⟨rfl, E0⟩
  · have HP := Lib.hid hp
    clear hp hq
    go_enter Tryz.func43, Tryz.ntmps43
    go_wp2_with fail
    refine (szSeals_gt P p pc L _ h0 h1 (by omega) HP.out).mono ?_
    rintro e w' ⟨rfl, rfl⟩
    go_wp2
    go_ret
    exact ⟨rfl, E0⟩

/-- What a copying of a note keeps: the note, the answer's variable, the copy so far. -/
structure TN (w wr : World) (tn ti : TypeId) (src zer cur : Array Value) : Prop where
  nb : Box wr w.heap.size tn src
  rb : Box wr (w.heap.size + 1) ti zer
  ob : Box wr (w.heap.size + 1 + 1) ti cur
  bel : Below w.heap.size w wr
theorem TN.later {w wr w' : World} {tn ti : TypeId} {src zer cur : Array Value} (h : TN w wr tn ti src zer cur) (hb : Below wr.heap.size wr w') : TN w w' tn ti src zer cur :=
  ⟨h.nb.later hb h.nb.lt, h.rb.later hb h.rb.lt, h.ob.later hb h.ob.lt, bel_trans h.bel hb⟩
theorem TN.put {w wr : World} {tn ti : TypeId} {src zer cur : Array Value} (h : TN w wr tn ti src zer cur) (i : Nat) (u : Value) : TN w (wr.setCell ⟨w.heap.size + 1 + 1, i, none⟩ u) tn ti src zer (cur.setIfInBounds i u) :=
  ⟨h.nb.far (p := ⟨w.heap.size + 1 + 1, i, none⟩) (by simp; omega) u, h.rb.far (p := ⟨w.heap.size + 1 + 1, i, none⟩) (by simp) u, h.ob.set i u, h.bel.setCell (p := ⟨w.heap.size + 1 + 1, i, none⟩) (by simp; omega) u⟩
theorem TN.start (w : World) (tn ti : TypeId) (src zer cur : Array Value) : TN w (((w.alloc (.cells src tn)).alloc (.cells zer ti)).alloc (.cells cur ti)) tn ti src zer cur := by
  have B1 := (Box.new (w.alloc (.cells src tn)) ti zer).alloc (.cells cur ti)
  have B2 := Box.new ((w.alloc (.cells src tn)).alloc (.cells zer ti)) ti cur
  simp only [World.size_alloc] at B1 B2
  exact ⟨((Box.new w tn src).alloc _).alloc _, B1, B2, bel_trans (bel_trans (bel_alloc _ _) (bel_alloc _ _)) (bel_alloc _ _)⟩

theorem Held.far {w : World} {g : Nat} {d : List (Int × Int)} (h : Held w g d) {a : Addr} (ha : a.block ≠ g) (u : Value) : Held (w.setCell a u) g d := by
  have hf : (w.setCell a u).heap[g]? = w.heap[g]? := Below.heap_setCell w a u g (fun e => ha e.symm)
  refine ⟨by rw [size_set]; exact h.lt, fun o => ?_, fun i hi => ?_, fun i hi => ?_⟩
  · rw [← h.fr o]
    unfold World.frozen?
    simp only [hf]
  · rw [World.cell?_of_block hf]; exact h.at0 i hi
  · rw [World.cell?_of_block hf]; exact h.at1 i hi

/-- What a copy of a note leaves: the same numbers, and lists of its own. -/
def MadeNote (w : World) (k1 k2 k3 k4 k5 t1 t2 v1 o1 o2 v2 : Int) (p q : Nat) (l1 l2 v3 : Int) (ps qs : List (Int × Int)) (e : Ending) (w' : World) : Prop :=
  ∃ g1 g2, w.heap.size + 1 + 1 < g1 ∧ g1 < g2 ∧ e = .returned (.agg #[.int .i64 k1, .int .i64 k2, .int .i64 k3, .int .i64 k4, .int .i64 k5, .int .i64 t1, .int .i64 t2, .int .i64 v1, .int .i64 o1, .int .i64 o2, .int .i64 v2, .slice (some ⟨g1, 0, none⟩) p p, .slice (some ⟨g2, 0, none⟩) q q, .int .i64 l1, .int .i64 l2, .int .i64 v3]) ∧ Held w' g1 ps ∧ Held w' g2 qs ∧ Below w.heap.size w w'

set_option maxHeartbeats 8000000 in
theorem toNote_any (k1 k2 k3 k4 k5 t1 t2 v1 o1 o2 v2 : Int) (P : Option Addr) (p pc : Nat) (Q : Option Addr) (q qc : Nat) (l1 l2 v3 : Int) (ps qs : List (Int × Int)) (w : World) (hm : p ≤ 1048576) (hm' : q ≤ 1048576) (hp : Pairs w w.heap.size P p ps) (hq : Pairs w w.heap.size Q q qs) :
    Calls Tryz.prog 46 #[.agg #[.int .i64 k1, .int .i64 k2, .int .i64 k3, .int .i64 k4, .int .i64 k5, .int .i64 t1, .int .i64 t2, .int .i64 v1, .int .i64 o1, .int .i64 o2, .int .i64 v2, .slice P p pc, .slice Q q qc, .int .i64 l1, .int .i64 l2, .int .i64 v3]] w (MadeNote w k1 k2 k3 k4 k5 t1 t2 v1 o1 o2 v2 p q l1 l2 v3 ps qs) := by
  have HP := Lib.hid hp
  have HQ := Lib.hid hq
  clear hp hq
  have K0 := TN.start w 75 85 #[.int .i64 k1, .int .i64 k2, .int .i64 k3, .int .i64 k4, .int .i64 k5, .int .i64 t1, .int .i64 t2, .int .i64 v1, .int .i64 o1, .int .i64 o2, .int .i64 v2, .slice P p pc, .slice Q q qc, .int .i64 l1, .int .i64 l2, .int .i64 v3] #[.int .i64 0, .int .i64 0, .int .i64 0, .int .i64 0, .int .i64 0, .int .i64 0, .int .i64 0, .int .i64 0, .int .i64 0, .int .i64 0, .int .i64 0, .slice none 0 0, .slice none 0 0, .int .i64 0, .int .i64 0, .int .i64 0] #[.int .i64 k1, .int .i64 k2, .int .i64 k3, .int .i64 k4, .int .i64 k5, .int .i64 0, .int .i64 0, .int .i64 0, .int .i64 0, .int .i64 0, .int .i64 0, .slice none 0 0, .slice none 0 0, .int .i64 0, .int .i64 0, .int .i64 0]
  go_enter Tryz.func46, Tryz.ntmps46
  go_wp2_with fail
  generalize (((w.alloc _).alloc _).alloc _ : World) = w0 at K0 ⊢
  refine (toStamp_any t1 t2 w0).mono ?_
  rintro e w1 ⟨rfl, hb⟩
  have K1 := K0.later hb
  clear hb K0
  obtain ⟨a0, a1, a2, a3, a4, a5, a6, a7, a8, a9, a10, a11, a12, a13, a14, a15⟩ := sixteen K1.nb
  obtain ⟨b0, b1, b2, b3, b4, b5, b6, b7, b8, b9, b10, b11, b12, b13, b14, b15⟩ := sixteen K1.ob
  have fr := K1.ob.frozen
  have K1' : TN w _ 75 85 #[.int .i64 k1, .int .i64 k2, .int .i64 k3, .int .i64 k4, .int .i64 k5, .int .i64 t1, .int .i64 t2, .int .i64 v1, .int .i64 o1, .int .i64 o2, .int .i64 v2, .slice P p pc, .slice Q q qc, .int .i64 l1, .int .i64 l2, .int .i64 v3] #[.int .i64 0, .int .i64 0, .int .i64 0, .int .i64 0, .int .i64 0, .int .i64 0, .int .i64 0, .int .i64 0, .int .i64 0, .int .i64 0, .int .i64 0, .slice none 0 0, .slice none 0 0, .int .i64 0, .int .i64 0, .int .i64 0] #[.int .i64 k1, .int .i64 k2, .int .i64 k3, .int .i64 k4, .int .i64 k5, .int .i64 t1, .int .i64 t2, .int .i64 v1, .int .i64 0, .int .i64 0, .int .i64 0, .slice none 0 0, .slice none 0 0, .int .i64 0, .int .i64 0, .int .i64 0] := (((K1.put 5 (.int .i64 t1)).put 6 (.int .i64 t2)).put 7 (.int .i64 v1))
  clear K1
  go_wp2_with fail
  generalize ((((w1.setCell _ _).setCell _ _).setCell _ _) : World) = x1 at K1' ⊢
  clear fr a0 a1 a2 a3 a4 a5 a6 a7 a8 a9 a10 a11 a12 a13 a14 a15 b0 b1 b2 b3 b4 b5 b6 b7 b8 b9 b10 b11 b12 b13 b14 b15
  refine (toStamp_any o1 o2 x1).mono ?_
  rintro e w2 ⟨rfl, hb⟩
  have K2 := K1'.later hb
  clear hb K1'
  obtain ⟨a0, a1, a2, a3, a4, a5, a6, a7, a8, a9, a10, a11, a12, a13, a14, a15⟩ := sixteen K2.nb
  obtain ⟨b0, b1, b2, b3, b4, b5, b6, b7, b8, b9, b10, b11, b12, b13, b14, b15⟩ := sixteen K2.ob
  have fr := K2.ob.frozen
  have K2' : TN w _ 75 85 #[.int .i64 k1, .int .i64 k2, .int .i64 k3, .int .i64 k4, .int .i64 k5, .int .i64 t1, .int .i64 t2, .int .i64 v1, .int .i64 o1, .int .i64 o2, .int .i64 v2, .slice P p pc, .slice Q q qc, .int .i64 l1, .int .i64 l2, .int .i64 v3] #[.int .i64 0, .int .i64 0, .int .i64 0, .int .i64 0, .int .i64 0, .int .i64 0, .int .i64 0, .int .i64 0, .int .i64 0, .int .i64 0, .int .i64 0, .slice none 0 0, .slice none 0 0, .int .i64 0, .int .i64 0, .int .i64 0] #[.int .i64 k1, .int .i64 k2, .int .i64 k3, .int .i64 k4, .int .i64 k5, .int .i64 t1, .int .i64 t2, .int .i64 v1, .int .i64 o1, .int .i64 o2, .int .i64 v2, .slice none 0 0, .slice none 0 0, .int .i64 0, .int .i64 0, .int .i64 0] := (((K2.put 8 (.int .i64 o1)).put 9 (.int .i64 o2)).put 10 (.int .i64 v2))
  clear K2
  go_wp2_with fail
  generalize ((((w2.setCell _ _).setCell _ _).setCell _ _) : World) = x2 at K2' ⊢
  clear fr a0 a1 a2 a3 a4 a5 a6 a7 a8 a9 a10 a11 a12 a13 a14 a15 b0 b1 b2 b3 b4 b5 b6 b7 b8 b9 b10 b11 b12 b13 b14 b15
  refine (toSeals_any P p pc ps x2 hm ((HP.out.later K2'.bel))).mono ?_
  rintro e w3 ⟨g1, hg1, rfl, hl1, h1, hb⟩
  have hs1 := K2'.ob.lt
  have K3 := K2'.later hb
  have hg1 : w.heap.size + 1 + 1 < g1 := by omega
  have hG1 := h1.lt
  clear hb K2' hs1
  obtain ⟨a0, a1, a2, a3, a4, a5, a6, a7, a8, a9, a10, a11, a12, a13, a14, a15⟩ := sixteen K3.nb
  obtain ⟨b0, b1, b2, b3, b4, b5, b6, b7, b8, b9, b10, b11, b12, b13, b14, b15⟩ := sixteen K3.ob
  have fr := K3.ob.frozen
  have K3' : TN w _ 75 85 #[.int .i64 k1, .int .i64 k2, .int .i64 k3, .int .i64 k4, .int .i64 k5, .int .i64 t1, .int .i64 t2, .int .i64 v1, .int .i64 o1, .int .i64 o2, .int .i64 v2, .slice P p pc, .slice Q q qc, .int .i64 l1, .int .i64 l2, .int .i64 v3] #[.int .i64 0, .int .i64 0, .int .i64 0, .int .i64 0, .int .i64 0, .int .i64 0, .int .i64 0, .int .i64 0, .int .i64 0, .int .i64 0, .int .i64 0, .slice none 0 0, .slice none 0 0, .int .i64 0, .int .i64 0, .int .i64 0] #[.int .i64 k1, .int .i64 k2, .int .i64 k3, .int .i64 k4, .int .i64 k5, .int .i64 t1, .int .i64 t2, .int .i64 v1, .int .i64 o1, .int .i64 o2, .int .i64 v2, .slice (some ⟨g1, 0, none⟩) p p, .slice none 0 0, .int .i64 0, .int .i64 0, .int .i64 0] := (K3.put 11 (.slice (some ⟨g1, 0, none⟩) p p))
  replace h1 := (h1.far (a := ⟨w.heap.size + 1 + 1, 11, none⟩) (by simp; omega) (.slice (some ⟨g1, 0, none⟩) p p))
  have hG1 := h1.lt
  clear K3
  go_wp2_with fail
  generalize ((w3.setCell _ _) : World) = x3 at K3' h1 hG1 ⊢
  clear fr a0 a1 a2 a3 a4 a5 a6 a7 a8 a9 a10 a11 a12 a13 a14 a15 b0 b1 b2 b3 b4 b5 b6 b7 b8 b9 b10 b11 b12 b13 b14 b15
  refine (toSeals_any Q q qc qs x3 hm' ((HQ.out.later K3'.bel))).mono ?_
  rintro e w4 ⟨g2, hg2, rfl, hl2, h2, hb⟩
  have K4 := K3'.later hb
  replace h1 := h1.later hb
  have hg2 : g1 < g2 := by omega
  clear hb K3' hG1
  obtain ⟨a0, a1, a2, a3, a4, a5, a6, a7, a8, a9, a10, a11, a12, a13, a14, a15⟩ := sixteen K4.nb
  obtain ⟨b0, b1, b2, b3, b4, b5, b6, b7, b8, b9, b10, b11, b12, b13, b14, b15⟩ := sixteen K4.ob
  have fr := K4.ob.frozen
  have K4' : TN w _ 75 85 #[.int .i64 k1, .int .i64 k2, .int .i64 k3, .int .i64 k4, .int .i64 k5, .int .i64 t1, .int .i64 t2, .int .i64 v1, .int .i64 o1, .int .i64 o2, .int .i64 v2, .slice P p pc, .slice Q q qc, .int .i64 l1, .int .i64 l2, .int .i64 v3] #[.int .i64 0, .int .i64 0, .int .i64 0, .int .i64 0, .int .i64 0, .int .i64 0, .int .i64 0, .int .i64 0, .int .i64 0, .int .i64 0, .int .i64 0, .slice none 0 0, .slice none 0 0, .int .i64 0, .int .i64 0, .int .i64 0] #[.int .i64 k1, .int .i64 k2, .int .i64 k3, .int .i64 k4, .int .i64 k5, .int .i64 t1, .int .i64 t2, .int .i64 v1, .int .i64 o1, .int .i64 o2, .int .i64 v2, .slice (some ⟨g1, 0, none⟩) p p, .slice (some ⟨g2, 0, none⟩) q q, .int .i64 0, .int .i64 0, .int .i64 0] := (K4.put 12 (.slice (some ⟨g2, 0, none⟩) q q))
  replace h1 := (h1.far (a := ⟨w.heap.size + 1 + 1, 12, none⟩) (by simp; omega) (.slice (some ⟨g2, 0, none⟩) q q))
  replace h2 := (h2.far (a := ⟨w.heap.size + 1 + 1, 12, none⟩) (by simp; omega) (.slice (some ⟨g2, 0, none⟩) q q))
  clear K4
  go_wp2_with fail
  generalize ((w4.setCell _ _) : World) = x4 at K4' h1 h2 ⊢
  clear fr a0 a1 a2 a3 a4 a5 a6 a7 a8 a9 a10 a11 a12 a13 a14 a15 b0 b1 b2 b3 b4 b5 b6 b7 b8 b9 b10 b11 b12 b13 b14 b15
  refine (toStamp_any l1 l2 x4).mono ?_
  rintro e w5 ⟨rfl, hb⟩
  have K5 := K4'.later hb
  replace h1 := h1.later hb
  replace h2 := h2.later hb
  clear hb K4'
  obtain ⟨a0, a1, a2, a3, a4, a5, a6, a7, a8, a9, a10, a11, a12, a13, a14, a15⟩ := sixteen K5.nb
  obtain ⟨b0, b1, b2, b3, b4, b5, b6, b7, b8, b9, b10, b11, b12, b13, b14, b15⟩ := sixteen K5.ob
  have fr := K5.ob.frozen
  obtain ⟨c0, c1, c2, c3, c4, c5, c6, c7, c8, c9, c10, c11, c12, c13, c14, c15⟩ := sixteen K5.rb
  have fq := K5.rb.frozen
  have HB := Lib.hid (((((((((((((((((((K5.put 13 (.int .i64 l1)).put 14 (.int .i64 l2)).put 15 (.int .i64 v3)).bel.setCell (p := ⟨w.heap.size + 1, 0, none⟩) (by simp) (.int .i64 k1)).setCell (p := ⟨w.heap.size + 1, 1, none⟩) (by simp) (.int .i64 k2)).setCell (p := ⟨w.heap.size + 1, 2, none⟩) (by simp) (.int .i64 k3)).setCell (p := ⟨w.heap.size + 1, 3, none⟩) (by simp) (.int .i64 k4)).setCell (p := ⟨w.heap.size + 1, 4, none⟩) (by simp) (.int .i64 k5)).setCell (p := ⟨w.heap.size + 1, 5, none⟩) (by simp) (.int .i64 t1)).setCell (p := ⟨w.heap.size + 1, 6, none⟩) (by simp) (.int .i64 t2)).setCell (p := ⟨w.heap.size + 1, 7, none⟩) (by simp) (.int .i64 v1)).setCell (p := ⟨w.heap.size + 1, 8, none⟩) (by simp) (.int .i64 o1)).setCell (p := ⟨w.heap.size + 1, 9, none⟩) (by simp) (.int .i64 o2)).setCell (p := ⟨w.heap.size + 1, 10, none⟩) (by simp) (.int .i64 v2)).setCell (p := ⟨w.heap.size + 1, 11, none⟩) (by simp) (.slice (some ⟨g1, 0, none⟩) p p)).setCell (p := ⟨w.heap.size + 1, 12, none⟩) (by simp) (.slice (some ⟨g2, 0, none⟩) q q)).setCell (p := ⟨w.heap.size + 1, 13, none⟩) (by simp) (.int .i64 l1)).setCell (p := ⟨w.heap.size + 1, 14, none⟩) (by simp) (.int .i64 l2)).setCell (p := ⟨w.heap.size + 1, 15, none⟩) (by simp) (.int .i64 v3))
  have H1 := Lib.hid (((((((((((((((((((h1.far (a := ⟨w.heap.size + 1 + 1, 13, none⟩) (by simp; omega) (.int .i64 l1)).far (a := ⟨w.heap.size + 1 + 1, 14, none⟩) (by simp; omega) (.int .i64 l2)).far (a := ⟨w.heap.size + 1 + 1, 15, none⟩) (by simp; omega) (.int .i64 v3)).far (a := ⟨w.heap.size + 1, 0, none⟩) (by simp; omega) (.int .i64 k1)).far (a := ⟨w.heap.size + 1, 1, none⟩) (by simp; omega) (.int .i64 k2)).far (a := ⟨w.heap.size + 1, 2, none⟩) (by simp; omega) (.int .i64 k3)).far (a := ⟨w.heap.size + 1, 3, none⟩) (by simp; omega) (.int .i64 k4)).far (a := ⟨w.heap.size + 1, 4, none⟩) (by simp; omega) (.int .i64 k5)).far (a := ⟨w.heap.size + 1, 5, none⟩) (by simp; omega) (.int .i64 t1)).far (a := ⟨w.heap.size + 1, 6, none⟩) (by simp; omega) (.int .i64 t2)).far (a := ⟨w.heap.size + 1, 7, none⟩) (by simp; omega) (.int .i64 v1)).far (a := ⟨w.heap.size + 1, 8, none⟩) (by simp; omega) (.int .i64 o1)).far (a := ⟨w.heap.size + 1, 9, none⟩) (by simp; omega) (.int .i64 o2)).far (a := ⟨w.heap.size + 1, 10, none⟩) (by simp; omega) (.int .i64 v2)).far (a := ⟨w.heap.size + 1, 11, none⟩) (by simp; omega) (.slice (some ⟨g1, 0, none⟩) p p)).far (a := ⟨w.heap.size + 1, 12, none⟩) (by simp; omega) (.slice (some ⟨g2, 0, none⟩) q q)).far (a := ⟨w.heap.size + 1, 13, none⟩) (by simp; omega) (.int .i64 l1)).far (a := ⟨w.heap.size + 1, 14, none⟩) (by simp; omega) (.int .i64 l2)).far (a := ⟨w.heap.size + 1, 15, none⟩) (by simp; omega) (.int .i64 v3))
  have H2 := Lib.hid (((((((((((((((((((h2.far (a := ⟨w.heap.size + 1 + 1, 13, none⟩) (by simp; omega) (.int .i64 l1)).far (a := ⟨w.heap.size + 1 + 1, 14, none⟩) (by simp; omega) (.int .i64 l2)).far (a := ⟨w.heap.size + 1 + 1, 15, none⟩) (by simp; omega) (.int .i64 v3)).far (a := ⟨w.heap.size + 1, 0, none⟩) (by simp; omega) (.int .i64 k1)).far (a := ⟨w.heap.size + 1, 1, none⟩) (by simp; omega) (.int .i64 k2)).far (a := ⟨w.heap.size + 1, 2, none⟩) (by simp; omega) (.int .i64 k3)).far (a := ⟨w.heap.size + 1, 3, none⟩) (by simp; omega) (.int .i64 k4)).far (a := ⟨w.heap.size + 1, 4, none⟩) (by simp; omega) (.int .i64 k5)).far (a := ⟨w.heap.size + 1, 5, none⟩) (by simp; omega) (.int .i64 t1)).far (a := ⟨w.heap.size + 1, 6, none⟩) (by simp; omega) (.int .i64 t2)).far (a := ⟨w.heap.size + 1, 7, none⟩) (by simp; omega) (.int .i64 v1)).far (a := ⟨w.heap.size + 1, 8, none⟩) (by simp; omega) (.int .i64 o1)).far (a := ⟨w.heap.size + 1, 9, none⟩) (by simp; omega) (.int .i64 o2)).far (a := ⟨w.heap.size + 1, 10, none⟩) (by simp; omega) (.int .i64 v2)).far (a := ⟨w.heap.size + 1, 11, none⟩) (by simp; omega) (.slice (some ⟨g1, 0, none⟩) p p)).far (a := ⟨w.heap.size + 1, 12, none⟩) (by simp; omega) (.slice (some ⟨g2, 0, none⟩) q q)).far (a := ⟨w.heap.size + 1, 13, none⟩) (by simp; omega) (.int .i64 l1)).far (a := ⟨w.heap.size + 1, 14, none⟩) (by simp; omega) (.int .i64 l2)).far (a := ⟨w.heap.size + 1, 15, none⟩) (by simp; omega) (.int .i64 v3))
  replace hl1 := Lib.hid hl1
  replace hl2 := Lib.hid hl2
  clear K5 h1 h2
  go_wp2_with fail
  exact bodyPost_ret (v := .agg #[.int .i64 k1, .int .i64 k2, .int .i64 k3, .int .i64 k4, .int .i64 k5, .int .i64 t1, .int .i64 t2, .int .i64 v1, .int .i64 o1, .int .i64 o2, .int .i64 v2, .slice (some ⟨g1, 0, none⟩) p p, .slice (some ⟨g2, 0, none⟩) q q, .int .i64 l1, .int .i64 l2, .int .i64 v3]) (by simp [results, Tryz.results46, go_sem, c0, c1, c2, c3, c4, c5, c6, c7, c8, c9, c10, c11, c12, c13, c14, c15]) rfl ⟨g1, g2, hg1, hg2, rfl, H1.out, H2.out, HB.out⟩

/-- What the test that two notes are alike keeps: both, and their lists. -/
structure EN (w wr : World) (t : TypeId) (x y : Array Value) (P : Option Addr) (p : Nat) (ps : List (Int × Int)) (Q : Option Addr) (q : Nat) (qs : List (Int × Int)) (P' Q' : Option Addr) : Prop where
  xb : Box wr w.heap.size t x
  yb : Box wr (w.heap.size + 1) t y
  hp : Pairs wr wr.heap.size P p ps
  hq : Pairs wr wr.heap.size Q q qs
  hp' : Pairs wr wr.heap.size P' p ps
  hq' : Pairs wr wr.heap.size Q' q qs
  bel : Below w.heap.size w wr
theorem EN.later {w wr w' : World} {t : TypeId} {x y : Array Value} {P : Option Addr} {p : Nat} {ps : List (Int × Int)} {Q : Option Addr} {q : Nat} {qs : List (Int × Int)} {P' Q' : Option Addr} (h : EN w wr t x y P p ps Q q qs P' Q') (hb : Below wr.heap.size wr w') : EN w w' t x y P p ps Q q qs P' Q' :=
  ⟨h.xb.later hb h.xb.lt, h.yb.later hb h.yb.lt, h.hp.later hb, h.hq.later hb, h.hp'.later hb, h.hq'.later hb, bel_trans h.bel hb⟩

set_option maxRecDepth 100000 in
set_option maxHeartbeats 8000000 in
theorem eqNote_same (k1 k2 k3 k4 k5 t1 t2 v1 o1 o2 v2 : Int) (P : Option Addr) (p pc : Nat) (Q : Option Addr) (q qc : Nat) (l1 l2 v3 : Int) (P' : Option Addr) (pc' : Nat) (Q' : Option Addr) (qc' : Nat) (ps qs : List (Int × Int)) (w : World) (hm : p ≤ 1048576) (hm' : q ≤ 1048576) (hp : Pairs w w.heap.size P p ps) (hq : Pairs w w.heap.size Q q qs) (hp' : Pairs w w.heap.size P' p ps) (hq' : Pairs w w.heap.size Q' q qs) :
    Calls Tryz.prog 49 #[.agg #[.int .i64 k1, .int .i64 k2, .int .i64 k3, .int .i64 k4, .int .i64 k5, .int .i64 t1, .int .i64 t2, .int .i64 v1, .int .i64 o1, .int .i64 o2, .int .i64 v2, .slice P p pc, .slice Q q qc, .int .i64 l1, .int .i64 l2, .int .i64 v3], .agg #[.int .i64 k1, .int .i64 k2, .int .i64 k3, .int .i64 k4, .int .i64 k5, .int .i64 t1, .int .i64 t2, .int .i64 v1, .int .i64 o1, .int .i64 o2, .int .i64 v2, .slice P' p pc', .slice Q' q qc', .int .i64 l1, .int .i64 l2, .int .i64 v3]] w fun e w' => e = .returned (.bool true) ∧ Below w.heap.size w w' := by
  have K0 : EN w ((w.alloc (.cells #[.int .i64 k1, .int .i64 k2, .int .i64 k3, .int .i64 k4, .int .i64 k5, .int .i64 t1, .int .i64 t2, .int .i64 v1, .int .i64 o1, .int .i64 o2, .int .i64 v2, .slice P p pc, .slice Q q qc, .int .i64 l1, .int .i64 l2, .int .i64 v3] 85)).alloc (.cells #[.int .i64 k1, .int .i64 k2, .int .i64 k3, .int .i64 k4, .int .i64 k5, .int .i64 t1, .int .i64 t2, .int .i64 v1, .int .i64 o1, .int .i64 o2, .int .i64 v2, .slice P' p pc', .slice Q' q qc', .int .i64 l1, .int .i64 l2, .int .i64 v3] 85)) 85 #[.int .i64 k1, .int .i64 k2, .int .i64 k3, .int .i64 k4, .int .i64 k5, .int .i64 t1, .int .i64 t2, .int .i64 v1, .int .i64 o1, .int .i64 o2, .int .i64 v2, .slice P p pc, .slice Q q qc, .int .i64 l1, .int .i64 l2, .int .i64 v3] #[.int .i64 k1, .int .i64 k2, .int .i64 k3, .int .i64 k4, .int .i64 k5, .int .i64 t1, .int .i64 t2, .int .i64 v1, .int .i64 o1, .int .i64 o2, .int .i64 v2, .slice P' p pc', .slice Q' q qc', .int .i64 l1, .int .i64 l2, .int .i64 v3] P p ps Q q qs P' Q' := by
    have E0 := bel_trans (bel_alloc w (.cells #[.int .i64 k1, .int .i64 k2, .int .i64 k3, .int .i64 k4, .int .i64 k5, .int .i64 t1, .int .i64 t2, .int .i64 v1, .int .i64 o1, .int .i64 o2, .int .i64 v2, .slice P p pc, .slice Q q qc, .int .i64 l1, .int .i64 l2, .int .i64 v3] 85)) (bel_alloc _ (.cells #[.int .i64 k1, .int .i64 k2, .int .i64 k3, .int .i64 k4, .int .i64 k5, .int .i64 t1, .int .i64 t2, .int .i64 v1, .int .i64 o1, .int .i64 o2, .int .i64 v2, .slice P' p pc', .slice Q' q qc', .int .i64 l1, .int .i64 l2, .int .i64 v3] 85))
    have Y := Box.new (w.alloc (.cells #[.int .i64 k1, .int .i64 k2, .int .i64 k3, .int .i64 k4, .int .i64 k5, .int .i64 t1, .int .i64 t2, .int .i64 v1, .int .i64 o1, .int .i64 o2, .int .i64 v2, .slice P p pc, .slice Q q qc, .int .i64 l1, .int .i64 l2, .int .i64 v3] 85)) 85 #[.int .i64 k1, .int .i64 k2, .int .i64 k3, .int .i64 k4, .int .i64 k5, .int .i64 t1, .int .i64 t2, .int .i64 v1, .int .i64 o1, .int .i64 o2, .int .i64 v2, .slice P' p pc', .slice Q' q qc', .int .i64 l1, .int .i64 l2, .int .i64 v3]
    simp only [World.size_alloc] at Y
    exact ⟨(Box.new w _ _).alloc _, Y, hp.later E0, hq.later E0, hp'.later E0, hq'.later E0, E0⟩
  clear hp hq hp' hq'
  go_enter Tryz.func49, Tryz.ntmps49
  obtain ⟨a0, a1, a2, a3, a4, a5, a6, a7, a8, a9, a10, a11, a12, a13, a14, a15⟩ := sixteen K0.xb
  obtain ⟨b0, b1, b2, b3, b4, b5, b6, b7, b8, b9, b10, b11, b12, b13, b14, b15⟩ := sixteen K0.yb
  go_wp2_with fail
  generalize ((w.alloc _).alloc _ : World) = w0 at K0 a0 a1 a2 a3 a4 a5 a6 a7 a8 a9 a10 a11 a12 a13 a14 a15 b0 b1 b2 b3 b4 b5 b6 b7 b8 b9 b10 b11 b12 b13 b14 b15 ⊢
  refine (eqStamp_same t1 t2 w0).mono ?_
  rintro e w1 ⟨rfl, hb⟩
  have K1 := K0.later hb
  clear hb K0 a0 a1 a2 a3 a4 a5 a6 a7 a8 a9 a10 a11 a12 a13 a14 a15 b0 b1 b2 b3 b4 b5 b6 b7 b8 b9 b10 b11 b12 b13 b14 b15
  obtain ⟨a0, a1, a2, a3, a4, a5, a6, a7, a8, a9, a10, a11, a12, a13, a14, a15⟩ := sixteen K1.xb
  obtain ⟨b0, b1, b2, b3, b4, b5, b6, b7, b8, b9, b10, b11, b12, b13, b14, b15⟩ := sixteen K1.yb
  go_wp2_with fail
  refine (eqStamp_same o1 o2 w1).mono ?_
  rintro e w2 ⟨rfl, hb⟩
  have K2 := K1.later hb
  clear hb K1 a0 a1 a2 a3 a4 a5 a6 a7 a8 a9 a10 a11 a12 a13 a14 a15 b0 b1 b2 b3 b4 b5 b6 b7 b8 b9 b10 b11 b12 b13 b14 b15
  obtain ⟨a0, a1, a2, a3, a4, a5, a6, a7, a8, a9, a10, a11, a12, a13, a14, a15⟩ := sixteen K2.xb
  obtain ⟨b0, b1, b2, b3, b4, b5, b6, b7, b8, b9, b10, b11, b12, b13, b14, b15⟩ := sixteen K2.yb
  go_wp2_with fail
  refine (eqSeals_same P P' p pc pc' ps w2 hm K2.hp K2.hp').mono ?_
  rintro e w3 ⟨rfl, hb⟩
  have K3 := K2.later hb
  clear hb K2 a0 a1 a2 a3 a4 a5 a6 a7 a8 a9 a10 a11 a12 a13 a14 a15 b0 b1 b2 b3 b4 b5 b6 b7 b8 b9 b10 b11 b12 b13 b14 b15
  obtain ⟨a0, a1, a2, a3, a4, a5, a6, a7, a8, a9, a10, a11, a12, a13, a14, a15⟩ := sixteen K3.xb
  obtain ⟨b0, b1, b2, b3, b4, b5, b6, b7, b8, b9, b10, b11, b12, b13, b14, b15⟩ := sixteen K3.yb
  go_wp2_with fail
  refine (eqSeals_same Q Q' q qc qc' qs w3 hm' K3.hq K3.hq').mono ?_
  rintro e w4 ⟨rfl, hb⟩
  have K4 := K3.later hb
  clear hb K3 a0 a1 a2 a3 a4 a5 a6 a7 a8 a9 a10 a11 a12 a13 a14 a15 b0 b1 b2 b3 b4 b5 b6 b7 b8 b9 b10 b11 b12 b13 b14 b15
  obtain ⟨a0, a1, a2, a3, a4, a5, a6, a7, a8, a9, a10, a11, a12, a13, a14, a15⟩ := sixteen K4.xb
  obtain ⟨b0, b1, b2, b3, b4, b5, b6, b7, b8, b9, b10, b11, b12, b13, b14, b15⟩ := sixteen K4.yb
  go_wp2_with fail
  refine (eqStamp_same l1 l2 w4).mono ?_
  rintro e w5 ⟨rfl, hb⟩
  have K5 := K4.later hb
  clear hb K4 a0 a1 a2 a3 a4 a5 a6 a7 a8 a9 a10 a11 a12 a13 a14 a15 b0 b1 b2 b3 b4 b5 b6 b7 b8 b9 b10 b11 b12 b13 b14 b15
  obtain ⟨a0, a1, a2, a3, a4, a5, a6, a7, a8, a9, a10, a11, a12, a13, a14, a15⟩ := sixteen K5.xb
  obtain ⟨b0, b1, b2, b3, b4, b5, b6, b7, b8, b9, b10, b11, b12, b13, b14, b15⟩ := sixteen K5.yb
  have E := K5.bel
  clear K5
  go_wp2
  go_ret
  exact ⟨rfl, E⟩

end Go.Proofs.YtjdepjpjjgkmbaaGreat

/- The exact laws of AnswerTo and NoteOk answer true, whatever they are given: walks of each of them (written by laws_note.py). -/
namespace Go.Proofs.YtjdepjpjjgkmbaaGreat
open Go.RowKit

theorem noteNote {w : World} {g g' : Nat} {t t' : TypeId} {a0 a1 a2 a3 a4 a5 a6 a7 a8 a9 a10 a11 a12 a13 a14 a15 b0 b1 b2 b3 b4 b5 b6 b7 b8 b9 b10 b11 b12 b13 b14 b15 : Value} (h : Box w g t #[a0, a1, a2, a3, a4, a5, a6, a7, a8, a9, a10, a11, a12, a13, a14, a15]) (h' : Box w g' t' #[b0, b1, b2, b3, b4, b5, b6, b7, b8, b9, b10, b11, b12, b13, b14, b15]) :
    w.cell? ⟨g, 0, none⟩ = some a0 ∧ w.cell? ⟨g, 1, none⟩ = some a1 ∧ w.cell? ⟨g, 2, none⟩ = some a2 ∧ w.cell? ⟨g, 3, none⟩ = some a3 ∧ w.cell? ⟨g, 4, none⟩ = some a4 ∧ w.cell? ⟨g, 5, none⟩ = some a5 ∧ w.cell? ⟨g, 6, none⟩ = some a6 ∧ w.cell? ⟨g, 7, none⟩ = some a7 ∧ w.cell? ⟨g, 8, none⟩ = some a8 ∧ w.cell? ⟨g, 9, none⟩ = some a9 ∧ w.cell? ⟨g, 10, none⟩ = some a10 ∧ w.cell? ⟨g, 11, none⟩ = some a11 ∧ w.cell? ⟨g, 12, none⟩ = some a12 ∧ w.cell? ⟨g, 13, none⟩ = some a13 ∧ w.cell? ⟨g, 14, none⟩ = some a14 ∧ w.cell? ⟨g, 15, none⟩ = some a15 ∧ w.cell? ⟨g', 0, none⟩ = some b0 ∧ w.cell? ⟨g', 1, none⟩ = some b1 ∧ w.cell? ⟨g', 2, none⟩ = some b2 ∧ w.cell? ⟨g', 3, none⟩ = some b3 ∧ w.cell? ⟨g', 4, none⟩ = some b4 ∧ w.cell? ⟨g', 5, none⟩ = some b5 ∧ w.cell? ⟨g', 6, none⟩ = some b6 ∧ w.cell? ⟨g', 7, none⟩ = some b7 ∧ w.cell? ⟨g', 8, none⟩ = some b8 ∧ w.cell? ⟨g', 9, none⟩ = some b9 ∧ w.cell? ⟨g', 10, none⟩ = some b10 ∧ w.cell? ⟨g', 11, none⟩ = some b11 ∧ w.cell? ⟨g', 12, none⟩ = some b12 ∧ w.cell? ⟨g', 13, none⟩ = some b13 ∧ w.cell? ⟨g', 14, none⟩ = some b14 ∧ w.cell? ⟨g', 15, none⟩ = some b15 :=
  ⟨h.cell 0, h.cell 1, h.cell 2, h.cell 3, h.cell 4, h.cell 5, h.cell 6, h.cell 7, h.cell 8, h.cell 9, h.cell 10, h.cell 11, h.cell 12, h.cell 13, h.cell 14, h.cell 15, h'.cell 0, h'.cell 1, h'.cell 2, h'.cell 3, h'.cell 4, h'.cell 5, h'.cell 6, h'.cell 7, h'.cell 8, h'.cell 9, h'.cell 10, h'.cell 11, h'.cell 12, h'.cell 13, h'.cell 14, h'.cell 15⟩
theorem groupNote {w : World} {g g' : Nat} {t t' : TypeId} {a0 a1 a2 a3 a4 b0 b1 b2 b3 b4 b5 b6 b7 b8 b9 b10 b11 b12 b13 b14 b15 : Value} (h : Box w g t #[a0, a1, a2, a3, a4]) (h' : Box w g' t' #[b0, b1, b2, b3, b4, b5, b6, b7, b8, b9, b10, b11, b12, b13, b14, b15]) :
    w.cell? ⟨g, 0, none⟩ = some a0 ∧ w.cell? ⟨g, 1, none⟩ = some a1 ∧ w.cell? ⟨g, 2, none⟩ = some a2 ∧ w.cell? ⟨g, 3, none⟩ = some a3 ∧ w.cell? ⟨g, 4, none⟩ = some a4 ∧ w.cell? ⟨g', 0, none⟩ = some b0 ∧ w.cell? ⟨g', 1, none⟩ = some b1 ∧ w.cell? ⟨g', 2, none⟩ = some b2 ∧ w.cell? ⟨g', 3, none⟩ = some b3 ∧ w.cell? ⟨g', 4, none⟩ = some b4 ∧ w.cell? ⟨g', 5, none⟩ = some b5 ∧ w.cell? ⟨g', 6, none⟩ = some b6 ∧ w.cell? ⟨g', 7, none⟩ = some b7 ∧ w.cell? ⟨g', 8, none⟩ = some b8 ∧ w.cell? ⟨g', 9, none⟩ = some b9 ∧ w.cell? ⟨g', 10, none⟩ = some b10 ∧ w.cell? ⟨g', 11, none⟩ = some b11 ∧ w.cell? ⟨g', 12, none⟩ = some b12 ∧ w.cell? ⟨g', 13, none⟩ = some b13 ∧ w.cell? ⟨g', 14, none⟩ = some b14 ∧ w.cell? ⟨g', 15, none⟩ = some b15 :=
  ⟨h.cell 0, h.cell 1, h.cell 2, h.cell 3, h.cell 4, h'.cell 0, h'.cell 1, h'.cell 2, h'.cell 3, h'.cell 4, h'.cell 5, h'.cell 6, h'.cell 7, h'.cell 8, h'.cell 9, h'.cell 10, h'.cell 11, h'.cell 12, h'.cell 13, h'.cell 14, h'.cell 15⟩
theorem groupGroup {w : World} {g g' : Nat} {t t' : TypeId} {a0 a1 a2 a3 a4 b0 b1 b2 b3 b4 : Value} (h : Box w g t #[a0, a1, a2, a3, a4]) (h' : Box w g' t' #[b0, b1, b2, b3, b4]) :
    w.cell? ⟨g, 0, none⟩ = some a0 ∧ w.cell? ⟨g, 1, none⟩ = some a1 ∧ w.cell? ⟨g, 2, none⟩ = some a2 ∧ w.cell? ⟨g, 3, none⟩ = some a3 ∧ w.cell? ⟨g, 4, none⟩ = some a4 ∧ w.cell? ⟨g', 0, none⟩ = some b0 ∧ w.cell? ⟨g', 1, none⟩ = some b1 ∧ w.cell? ⟨g', 2, none⟩ = some b2 ∧ w.cell? ⟨g', 3, none⟩ = some b3 ∧ w.cell? ⟨g', 4, none⟩ = some b4 :=
  ⟨h.cell 0, h.cell 1, h.cell 2, h.cell 3, h.cell 4, h'.cell 0, h'.cell 1, h'.cell 2, h'.cell 3, h'.cell 4⟩
theorem made_pairs_of {w : World} {g p : Nat} {ps : List (Int × Int)} (h : Held w g ps) (hl : ps.length = p) : Pairs w w.heap.size (some ⟨g, 0, none⟩) p ps := hl ▸ h.pairs

end Go.Proofs.YtjdepjpjjgkmbaaGreat
