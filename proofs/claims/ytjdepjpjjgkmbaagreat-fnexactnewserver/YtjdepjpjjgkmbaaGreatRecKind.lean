/- A record as data behind variables, and what the laws do with one: sizes, copies, comparisons, marks; conditions: the sizes. -/
import Derived.Test.YtjdepjpjjgkmbaaGreatKinds8a
import Derived.Test.YtjdepjpjjgkmbaaGreatMix9
import Derived.Test.YtjdepjpjjgkmbaaGreatCopiesMark
namespace Go.Proofs.YtjdepjpjjgkmbaaGreat
open Go Go.RowKit

theorem nineAfter {w : World} {g : Nat} {t : TypeId} {v0 v1 v2 v3 v4 v5 v6 v7 v8 : Value} (h : Box w g t #[v0, v1, v2, v3, v4, v5, v6, v7, v8]) :
    (∀ p : After w, p.x.cell? ⟨g, 0, none⟩ = some v0) ∧ (∀ p : After w, p.x.cell? ⟨g, 1, none⟩ = some v1) ∧ (∀ p : After w, p.x.cell? ⟨g, 2, none⟩ = some v2) ∧ (∀ p : After w, p.x.cell? ⟨g, 3, none⟩ = some v3) ∧ (∀ p : After w, p.x.cell? ⟨g, 4, none⟩ = some v4) ∧ (∀ p : After w, p.x.cell? ⟨g, 5, none⟩ = some v5) ∧ (∀ p : After w, p.x.cell? ⟨g, 6, none⟩ = some v6) ∧ (∀ p : After w, p.x.cell? ⟨g, 7, none⟩ = some v7) ∧ (∀ p : After w, p.x.cell? ⟨g, 8, none⟩ = some v8) :=
  ⟨After.cell h.lt (h.cell 0), After.cell h.lt (h.cell 1), After.cell h.lt (h.cell 2), After.cell h.lt (h.cell 3), After.cell h.lt (h.cell 4), After.cell h.lt (h.cell 5), After.cell h.lt (h.cell 6), After.cell h.lt (h.cell 7), After.cell h.lt (h.cell 8)⟩

/-- A record's numbers. -/
structure RecD where
  r1 : Int
  r2 : Int
  r3 : Int
  r4 : Int
  r5 : Int
  r6 : Int
  r7 : Int
  ps : List (Int × Int)
  r8 : Int
def RecD.cells (d : RecD) (u : Value) : Array Value := #[.int .i64 d.r1, .int .i64 d.r2, .int .i64 d.r3, .int .i64 d.r4, .int .i64 d.r5, .int .i64 d.r6, .int .i64 d.r7, u, .int .i64 d.r8]
def RecD.sz (d : RecD) : Nat := d.ps.length
def RecD.mk8 (d : RecD) : Int := 2 * d.ps.length
/-- What SumOf answers. -/
def RecD.sum (d : RecD) : Int := sumN d.r1 d.r2 d.r3 d.r4 d.r5 d.r6 d.r7 d.ps
/-- A value reads as a record, through blocks of F alone; it is one's own. -/
def AtC (d : RecD) (w : World) (F : Nat → Prop) (v : Value) : Prop :=
  ∃ (A : Option Addr) (n cap : Nat), v = .agg (d.cells (.slice A n cap)) ∧ n ≤ maxLen ∧ PairsF w F A n d.ps
def LieC (d : RecD) (w : World) (F : Nat → Prop) (v : Value) : Prop := ∃ u, v = .agg (d.cells u) ∧ OwnP w F u d.ps
theorem keepsC (d : RecD) : Keeps (AtC d) := ⟨fun ⟨A, n, c, e, h1, h2⟩ ht hd => ⟨A, n, c, e, h1, h2.turn ht hd⟩, fun ⟨A, n, c, e, h1, h2⟩ hs => ⟨A, n, c, e, h1, h2.1, fun hn b o e => hs b (h2.2 hn b o e)⟩⟩
theorem keepsLC (d : RecD) : Keeps (LieC d) := ⟨fun ⟨u, e, h⟩ ht hd => ⟨u, e, h.turn ht hd⟩, fun ⟨u, e, h⟩ hs => ⟨u, e, h.sub hs⟩⟩
theorem LieC.at {d : RecD} {w : World} {F : Nat → Prop} {v : Value} (h : LieC d w F v) : AtC d w F v := by
  obtain ⟨u, e, h⟩ := h
  obtain ⟨A, cap, rfl, h1, h2, -⟩ := h.at
  exact ⟨A, _, cap, e, h1, h2⟩
theorem sizeC {d : RecD} {w : World} {F : Nat → Prop} {C : Array Value} (h : AtC d w F (.agg C)) : (Tryz.prog.info? 188).map (·.size) = some C.size ∧ (Tryz.prog.info? 46).map (·.size) = some C.size := by
  obtain ⟨A, n, cap, e, _⟩ := h
  injection e with e
  subst e
  exact ⟨by kernel_rfl, by kernel_rfl⟩
theorem oneC {d : RecD} {w : World} {F : Nat → Prop} {C : Array Value} (h : AtC d w F (.agg C)) : C.size = 9 ∧ C.all (·.oneCell') = true := by
  obtain ⟨A, n, cap, e, _⟩ := h
  injection e with e
  subst e
  exact ⟨rfl, by simp [RecD.cells, Value.oneCell']⟩

theorem szRec_le (r1 r2 r3 r4 r5 r6 r7 : Int) (L : Option Addr) (m mc : Nat) (r8 : Int) (K : Int) (w : World) (h1 : K ≤ 1048576) (hm : (m : Int) ≤ K) :
    Calls Tryz.prog 146 #[.agg #[.int .i64 r1, .int .i64 r2, .int .i64 r3, .int .i64 r4, .int .i64 r5, .int .i64 r6, .int .i64 r7, .slice L m mc, .int .i64 r8], .int .i64 K] w fun e w' => e = .returned (.int .i64 (K - m)) ∧ Below w.heap.size w w' := by
  have hn1 : ¬ (K : Int) - m < 0 := by omega
  have hb0 := bel_alloc w (.cells #[.int .i64 r1, .int .i64 r2, .int .i64 r3, .int .i64 r4, .int .i64 r5, .int .i64 r6, .int .i64 r7, .slice L m mc, .int .i64 r8] 188)
  go_enter Tryz.func146, Tryz.ntmps146
  go_wp2_with (go_at_call 30; refine (szSeals_le L m mc K _ h1 (by omega)).mono ?_; rintro e w1 ⟨rfl, rfl⟩)
  go_ret
  exact ⟨rfl, hb0⟩
theorem szRec_gt (r1 r2 r3 r4 r5 r6 r7 : Int) (L : Option Addr) (m mc : Nat) (r8 : Int) (K : Int) (w : World) (h0 : 0 ≤ K) (h1 : K ≤ 1048576) (hm : K < (m : Int)) (hx : m ≤ maxLen) :
    Calls Tryz.prog 146 #[.agg #[.int .i64 r1, .int .i64 r2, .int .i64 r3, .int .i64 r4, .int .i64 r5, .int .i64 r6, .int .i64 r7, .slice L m mc, .int .i64 r8], .int .i64 K] w fun e w' => e = .returned (.int .i64 (-1)) ∧ Below w.heap.size w w' := by
  have hb0 := bel_alloc w (.cells #[.int .i64 r1, .int .i64 r2, .int .i64 r3, .int .i64 r4, .int .i64 r5, .int .i64 r6, .int .i64 r7, .slice L m mc, .int .i64 r8] 188)
  have HX := Lib.hid hx
  clear hx
  go_enter Tryz.func146, Tryz.ntmps146
  go_wp2_with (go_at_call 30; refine (szSeals_gt L m mc K _ h0 h1 hm HX.out).mono ?_; rintro e w1 ⟨rfl, rfl⟩)
  go_ret
  exact ⟨rfl, hb0⟩

set_option maxHeartbeats 2000000 in
theorem eqRec_same (r1 r2 r3 r4 r5 r6 r7 : Int) (L : Option Addr) (m mc : Nat) (r8 : Int) (L' : Option Addr) (mc' : Nat) (ps : List (Int × Int)) (w : World) (hp : m ≤ 1048576) (h1 : Pairs w w.heap.size L m ps) (h2 : Pairs w w.heap.size L' m ps) :
    Calls Tryz.prog 148 #[.agg #[.int .i64 r1, .int .i64 r2, .int .i64 r3, .int .i64 r4, .int .i64 r5, .int .i64 r6, .int .i64 r7, .slice L m mc, .int .i64 r8], .agg #[.int .i64 r1, .int .i64 r2, .int .i64 r3, .int .i64 r4, .int .i64 r5, .int .i64 r6, .int .i64 r7, .slice L' m mc', .int .i64 r8]] w fun e w' => e = .returned (.bool true) ∧ Below w.heap.size w w' := by
  have D := (Box.new w 46 #[.int .i64 r1, .int .i64 r2, .int .i64 r3, .int .i64 r4, .int .i64 r5, .int .i64 r6, .int .i64 r7, .slice L m mc, .int .i64 r8]).alloc (.cells #[.int .i64 r1, .int .i64 r2, .int .i64 r3, .int .i64 r4, .int .i64 r5, .int .i64 r6, .int .i64 r7, .slice L' m mc', .int .i64 r8] 46)
  have X := Box.new (w.alloc (.cells #[.int .i64 r1, .int .i64 r2, .int .i64 r3, .int .i64 r4, .int .i64 r5, .int .i64 r6, .int .i64 r7, .slice L m mc, .int .i64 r8] 46)) 46 #[.int .i64 r1, .int .i64 r2, .int .i64 r3, .int .i64 r4, .int .i64 r5, .int .i64 r6, .int .i64 r7, .slice L' m mc', .int .i64 r8]
  have hb0 := bel_trans (bel_alloc w (.cells #[.int .i64 r1, .int .i64 r2, .int .i64 r3, .int .i64 r4, .int .i64 r5, .int .i64 r6, .int .i64 r7, .slice L m mc, .int .i64 r8] 46)) (bel_alloc _ (.cells #[.int .i64 r1, .int .i64 r2, .int .i64 r3, .int .i64 r4, .int .i64 r5, .int .i64 r6, .int .i64 r7, .slice L' m mc', .int .i64 r8] 46))
  simp only [World.size_alloc] at X
  have H1 := Lib.hid (h1.later hb0)
  have H2 := Lib.hid (h2.later hb0)
  clear h1 h2
  go_enter Tryz.func148, Tryz.ntmps148
  go_upto_region 1 with fail
  generalize ((w.alloc _).alloc _ : World) = w0 at D X hb0 H1 H2 ⊢
  obtain ⟨d0, d1, d2, d3, d4, d5, d6, d7, d8⟩ := D.nine
  obtain ⟨x0, x1, x2, x3, x4, x5, x6, x7, x8⟩ := X.nine
  go_wp2_with fail
  refine (eqStamp_same r5 r6 w0).mono ?_
  rintro e w1 ⟨rfl, hb1⟩
  have D1 := D.later hb1 D.lt
  have X1 := X.later hb1 X.lt
  have E1 := bel_trans hb0 hb1
  have H3 := Lib.hid (H1.out.later hb1)
  have H4 := Lib.hid (H2.out.later hb1)
  clear d0 d1 d2 d3 d4 d5 d6 d7 d8 x0 x1 x2 x3 x4 x5 x6 x7 x8 D X hb0 hb1 H1 H2
  obtain ⟨d0, d1, d2, d3, d4, d5, d6, d7, d8⟩ := D1.nine
  obtain ⟨x0, x1, x2, x3, x4, x5, x6, x7, x8⟩ := X1.nine
  clear d0 d1 d2 d3 d4 d5 d8 x0 x1 x2 x3 x4 x5 x8
  go_wp2_with fail
  refine (eqSeals_same L L' m mc mc' ps w1 hp H3.out H4.out).mono ?_
  rintro e w2 ⟨rfl, hb2⟩
  have D2 := D1.later hb2 D1.lt
  have X2 := X1.later hb2 X1.lt
  have E2 := bel_trans E1 hb2
  have d8 := D2.cell 8
  have x8 := X2.cell 8
  clear D1 X1 E1 hb2 H3 H4 d6 d7 x6 x7
  go_wp2
  go_ret
  exact ⟨rfl, E2⟩

/-- A record's variable, and what is written into it. -/
theorem Box.setR {w : World} {g : Nat} {t : TypeId} {v0 v1 v2 v3 v4 v5 v6 v7 v8 : Value} (h : Box w g t #[v0, v1, v2, v3, v4, v5, v6, v7, v8]) (u0 u1 u2 u3 : Value) : Box ((((w.setCell ⟨g, 0, none⟩ u0).setCell ⟨g, 1, none⟩ u1).setCell ⟨g, 2, none⟩ u2).setCell ⟨g, 3, none⟩ u3) g t #[u0, u1, u2, u3, v4, v5, v6, v7, v8] :=
  (((h.set 0 u0).set 1 u1).set 2 u2).set 3 u3
theorem Box.farR {w : World} {g R : Nat} {t : TypeId} {cs : Array Value} (h : Box w g t cs) (hR : R ≠ g) (u0 u1 u2 u3 : Value) : Box ((((w.setCell ⟨R, 0, none⟩ u0).setCell ⟨R, 1, none⟩ u1).setCell ⟨R, 2, none⟩ u2).setCell ⟨R, 3, none⟩ u3) g t cs :=
  (((h.far (p := ⟨R, 0, none⟩) hR u0).far (p := ⟨R, 1, none⟩) hR u1).far (p := ⟨R, 2, none⟩) hR u2).far (p := ⟨R, 3, none⟩) hR u3
theorem bel_farR {w wr : World} {R : Nat} (h : Below w.heap.size w wr) (hR : w.heap.size ≤ R) (u0 u1 u2 u3 : Value) : Below w.heap.size w ((((wr.setCell ⟨R, 0, none⟩ u0).setCell ⟨R, 1, none⟩ u1).setCell ⟨R, 2, none⟩ u2).setCell ⟨R, 3, none⟩ u3) :=
  (((h.setCell (p := ⟨R, 0, none⟩) hR u0).setCell (p := ⟨R, 1, none⟩) hR u1).setCell (p := ⟨R, 2, none⟩) hR u2).setCell (p := ⟨R, 3, none⟩) hR u3

set_option maxRecDepth 100000 in
set_option maxHeartbeats 4000000 in
theorem toRec_any (r1 r2 r3 r4 r5 r6 r7 : Int) (L : Option Addr) (m mc : Nat) (r8 : Int) (ps : List (Int × Int)) (w : World) (hp : m ≤ 1048576) (h1 : Pairs w w.heap.size L m ps) :
    Calls Tryz.prog 147 #[.agg #[.int .i64 r1, .int .i64 r2, .int .i64 r3, .int .i64 r4, .int .i64 r5, .int .i64 r6, .int .i64 r7, .slice L m mc, .int .i64 r8]] w fun e w' => ∃ g, w.heap.size ≤ g ∧ e = .returned (.agg #[.int .i64 r1, .int .i64 r2, .int .i64 r3, .int .i64 r4, .int .i64 r5, .int .i64 r6, .int .i64 r7, .slice (some ⟨g, 0, none⟩) m m, .int .i64 r8]) ∧ Held w' g ps ∧ Below w.heap.size w w' := by
  have D := ((Box.new w 188 #[.int .i64 r1, .int .i64 r2, .int .i64 r3, .int .i64 r4, .int .i64 r5, .int .i64 r6, .int .i64 r7, .slice L m mc, .int .i64 r8]).alloc (.cells #[.int .i64 0, .int .i64 0, .int .i64 0, .int .i64 0, .int .i64 0, .int .i64 0, .int .i64 0, .slice none 0 0, .int .i64 0] 46)).alloc (.cells #[.int .i64 0, .int .i64 0, .int .i64 0, .int .i64 0, .int .i64 0, .int .i64 0, .int .i64 0, .slice none 0 0, .int .i64 0] 46)
  have X := (Box.new (w.alloc (.cells #[.int .i64 r1, .int .i64 r2, .int .i64 r3, .int .i64 r4, .int .i64 r5, .int .i64 r6, .int .i64 r7, .slice L m mc, .int .i64 r8] 188)) 46 #[.int .i64 0, .int .i64 0, .int .i64 0, .int .i64 0, .int .i64 0, .int .i64 0, .int .i64 0, .slice none 0 0, .int .i64 0]).alloc (.cells #[.int .i64 0, .int .i64 0, .int .i64 0, .int .i64 0, .int .i64 0, .int .i64 0, .int .i64 0, .slice none 0 0, .int .i64 0] 46)
  have Y := Box.new ((w.alloc (.cells #[.int .i64 r1, .int .i64 r2, .int .i64 r3, .int .i64 r4, .int .i64 r5, .int .i64 r6, .int .i64 r7, .slice L m mc, .int .i64 r8] 188)).alloc (.cells #[.int .i64 0, .int .i64 0, .int .i64 0, .int .i64 0, .int .i64 0, .int .i64 0, .int .i64 0, .slice none 0 0, .int .i64 0] 46)) 46 #[.int .i64 0, .int .i64 0, .int .i64 0, .int .i64 0, .int .i64 0, .int .i64 0, .int .i64 0, .slice none 0 0, .int .i64 0]
  have hb0 := bel_trans (bel_trans (bel_alloc w (.cells #[.int .i64 r1, .int .i64 r2, .int .i64 r3, .int .i64 r4, .int .i64 r5, .int .i64 r6, .int .i64 r7, .slice L m mc, .int .i64 r8] 188)) (bel_alloc _ (.cells #[.int .i64 0, .int .i64 0, .int .i64 0, .int .i64 0, .int .i64 0, .int .i64 0, .int .i64 0, .slice none 0 0, .int .i64 0] 46))) (bel_alloc _ (.cells #[.int .i64 0, .int .i64 0, .int .i64 0, .int .i64 0, .int .i64 0, .int .i64 0, .int .i64 0, .slice none 0 0, .int .i64 0] 46))
  simp only [World.size_alloc] at X Y
  have H1 := Lib.hid h1
  clear h1
  go_enter Tryz.func147, Tryz.ntmps147
  go_upto_region 2 with fail
  generalize (((w.alloc _).alloc _).alloc _ : World) = w0 at hb0 D X Y ⊢
  obtain ⟨d0, d1, d2, d3, d4, d5, d6, d7, d8⟩ := D.nine
  obtain ⟨y0, y1, y2, y3, y4, y5, y6, y7, y8⟩ := Y.nine
  have fy := Y.frozen
  have hn1 : w.heap.size + 1 + 1 ≠ w.heap.size := by omega
  have hn2 : w.heap.size + 1 + 1 ≠ w.heap.size + 1 := by omega
  have hn3 : w.heap.size ≤ w.heap.size + 1 + 1 := by omega
  have D1 := D.farR hn1 (.int .i64 r1) (.int .i64 r2) (.int .i64 r3) (.int .i64 r4)
  have X1 := X.farR hn2 (.int .i64 r1) (.int .i64 r2) (.int .i64 r3) (.int .i64 r4)
  have Y1 := Y.setR (.int .i64 r1) (.int .i64 r2) (.int .i64 r3) (.int .i64 r4)
  have E1 := bel_farR hb0 hn3 (.int .i64 r1) (.int .i64 r2) (.int .i64 r3) (.int .i64 r4)
  replace D1 := Lib.hid D1
  replace X1 := Lib.hid X1
  replace Y1 := Lib.hid Y1
  replace E1 := Lib.hid E1
  go_wp2_with fail
  clear d0 d1 d2 d3 d4 d5 d6 d7 d8 y0 y1 y2 y3 y4 y5 y6 y7 y8 fy D X Y hb0
  generalize ((((w0.setCell _ _).setCell _ _).setCell _ _).setCell _ _ : World) = w1 at D1 X1 Y1 E1 ⊢
  refine (toStamp_any r5 r6 w1).mono ?_
  rintro e w2 ⟨rfl, hb2⟩
  have D2 := D1.out.later hb2 D1.out.lt
  have X2 := X1.out.later hb2 X1.out.lt
  have Y2 := Y1.out.later hb2 Y1.out.lt
  have E2 := bel_trans E1.out hb2
  clear D1 X1 Y1 E1 hb2
  obtain ⟨d0, d1, d2, d3, d4, d5, d6, d7, d8⟩ := D2.nine
  obtain ⟨y0, y1, y2, y3, y4, y5, y6, y7, y8⟩ := Y2.nine
  have fy := Y2.frozen
  have D3 := Lib.hid (((D2.far (p := ⟨w.heap.size + 1 + 1, 4, none⟩) hn1 (.int .i64 r5)).far (p := ⟨w.heap.size + 1 + 1, 5, none⟩) hn1 (.int .i64 r6)).far (p := ⟨w.heap.size + 1 + 1, 6, none⟩) hn1 (.int .i64 r7))
  have X3 := Lib.hid (((X2.far (p := ⟨w.heap.size + 1 + 1, 4, none⟩) hn2 (.int .i64 r5)).far (p := ⟨w.heap.size + 1 + 1, 5, none⟩) hn2 (.int .i64 r6)).far (p := ⟨w.heap.size + 1 + 1, 6, none⟩) hn2 (.int .i64 r7))
  have Y3 := Lib.hid (((Y2.set 4 (.int .i64 r5)).set 5 (.int .i64 r6)).set 6 (.int .i64 r7))
  have E3 := Lib.hid (((E2.setCell (p := ⟨w.heap.size + 1 + 1, 4, none⟩) hn3 (.int .i64 r5)).setCell (p := ⟨w.heap.size + 1 + 1, 5, none⟩) hn3 (.int .i64 r6)).setCell (p := ⟨w.heap.size + 1 + 1, 6, none⟩) hn3 (.int .i64 r7))
  go_wp2_with fail
  clear d0 d1 d2 d3 d4 d5 d6 d7 d8 y0 y1 y2 y3 y4 y5 y6 y7 y8 fy D2 X2 Y2 E2
  generalize (((w2.setCell _ _).setCell _ _).setCell _ _ : World) = w3 at D3 X3 Y3 E3 ⊢
  refine (toSeals_any L m mc ps w3 hp (H1.out.later E3.out)).mono ?_
  rintro e w4 ⟨g, hg, rfl, _, hh, hb4⟩
  have D4 := D3.out.later hb4 D3.out.lt
  have X4 := X3.out.later hb4 X3.out.lt
  have Y4 : Box w4 (w.heap.size + 1 + 1) 46 #[.int .i64 r1, .int .i64 r2, .int .i64 r3, .int .i64 r4, .int .i64 r5, .int .i64 r6, .int .i64 r7, .slice none 0 0, .int .i64 0] := Y3.out.later hb4 Y3.out.lt
  have E4 := bel_trans E3.out hb4
  have hYl := Y3.out.lt
  have hg1 : w.heap.size ≤ g := Nat.le_trans E3.out.size hg
  have hgY : w.heap.size + 1 + 1 < g := by omega
  clear D3 X3 Y3 E3 hb4
  obtain ⟨d0, d1, d2, d3, d4, d5, d6, d7, d8⟩ := D4.nine
  obtain ⟨y0, y1, y2, y3, y4, y5, y6, y7, y8⟩ := Y4.nine
  obtain ⟨x0, x1, x2, x3, x4, x5, x6, x7, x8⟩ := X4.nine
  have fy := Y4.frozen
  have fx := X4.frozen
  have HH := Lib.hid hh
  clear d0 d1 d2 d3 d4 d5 d6 d7 hh
  go_wp2
  exact bodyPost_ret (v := .agg #[.int .i64 r1, .int .i64 r2, .int .i64 r3, .int .i64 r4, .int .i64 r5, .int .i64 r6, .int .i64 r7, .slice (some ⟨g, 0, none⟩) m m, .int .i64 r8]) (by simp [results, Tryz.results147, go_sem, x0, x1, x2, x3, x4, x5, x6, x7, x8]) rfl ⟨g, hg1, rfl, by
    repeat (first | (with_reducible exact HH.out) | refine HeldK.far ?_ (by omega) _ _), by
    repeat (first | (with_reducible exact E4) | refine Below.setCell ?_ (by simp; try omega) _)⟩
end Go.Proofs.YtjdepjpjjgkmbaaGreat
