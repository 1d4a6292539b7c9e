/- FnWritten: whatever bytes it is given, the law answers true and leaves them alone; no condition beyond the given row's own. -/
import Derived.Test.YtghdnokjgmmgiaaGreatDrawReg5
import Derived.Test.YtghdnokjgmmgiaaGreatLikes
import Derived.Test.YtghdnokjgmmgiaaGreatRegBase
import Derived.Test.YtghdnokjgmmgiaaGreatSpecReg4
import Derived.Test.YtghdnokjgmmgiaaGreatRows
import Derived.Test.YtghdnokjgmmgiaaGreatReadsBytes
import Derived.WalkKit
import Derived.ProofKit
import Derived.OpenShut
import Derived.ShutString
import Derived.ChangeOld
import Derived.Below
import Derived.Carry
import Derived.Laws.Rows

/- The model's DrawWritten: a group, a shelf, a stamp, a value and seals, made anew (written by draw_reg7.py). -/
namespace Go.Proofs.YtghdnokjgmmgiaaGreat
open Go.RowKit Go.Deep

/-- What is made. -/
def MadeW (w : World) (e : Ending) (w' : World) : Prop :=
  ∃ (s l c sh : Int) (q m cap' : Nat) (zs : List Int) (x a b d : Int) (A3 : Option Addr) (c3 : Nat) (A4 : Option Addr) (c4 : Nat) (ps : List (Int × Int)) (os : List Opn) (ct cq y : Int) (A5 : Option Addr) (c5 : Nat) (cs : List (Int × Int)), e = .returned (.tuple #[.agg #[.int .i64 s, .int .i64 l, .int .i64 c, .int .i64 sh, .slice (some ⟨q, 0, none⟩) m cap'], .int .i64 x, .agg #[.int .i64 a, .int .i64 b, .int .i64 d, (.slice A3 ps.length c3), (.slice A4 os.length c4)], .agg #[.int .i64 ct, .int .i64 cq], .int .i64 y, .slice A5 cs.length c5]) ∧ m ≤ 100 ∧ ps.length ≤ 21 ∧ os.length ≤ 7 ∧ cs.length ≤ 20 ∧ Row w' w'.heap.size (some ⟨q, 0, none⟩) m zs ∧ Slc w' (.slice A3 ps.length c3) ps ∧ SlcQ w' (.slice A4 os.length c4) os ∧ Slc w' (.slice A5 cs.length c5) cs ∧ Below w.heap.size w w'

/-- What DrawWritten keeps ahead of its stamp. -/
structure D0 (w wr : World) (g : Nat) (A : Option Addr) (n cap : Nat) (U V : Nat) (s l c sh : Int) (q m cap' : Nat) (zs : List Int) (a b d : Int) (u v : Value) (ps : List (Int × Int)) (os : List Opn) : Prop where
  cur : Cur wr 102 .i64 g A n cap
  bel : Below w.heap.size w wr
  r1 : Box wr w.heap.size 26 #[.int .i64 0, .int .i64 0, .int .i64 0, .int .i64 0, .slice none 0 0]
  r2 : Box wr (w.heap.size + 1) 32 #[.int .i64 0, .int .i64 0, .int .i64 0, .slice none 0 0, .slice none 0 0]
  r3 : Box wr (w.heap.size + 2) 28 #[.int .i64 0, .int .i64 0]
  gr : Box wr U 26 #[.int .i64 s, .int .i64 l, .int .i64 c, .int .i64 sh, .slice (some ⟨q, 0, none⟩) m cap']
  var : Box wr V 32 #[.int .i64 a, .int .i64 b, .int .i64 d, u, v]
  row : Row wr wr.heap.size (some ⟨q, 0, none⟩) m zs
  ou : wr.ownsRow (g + 1) 94 2 u ps.length (flatP ps)
  ov : wr.ownsRow (g + 1) 82 4 v os.length (flatO os)
  gl : w.heap.size + 2 < g
  gU : g < U
  gV : g < V
  gq : g < q
  ql : q < wr.heap.size
/-- And behind it. -/
structure D1 (w wr : World) (g : Nat) (A : Option Addr) (n cap : Nat) (U V : Nat) (s l c sh : Int) (q m cap' : Nat) (zs : List Int) (a b d : Int) (u v : Value) (ps : List (Int × Int)) (os : List Opn) (T : Nat) (ct cq : Int) (L : Value) (cs : List (Int × Int)) : Prop where
  k : D0 w wr g A n cap U V s l c sh q m cap' zs a b d u v ps os
  st : Box wr T 28 #[.int .i64 ct, .int .i64 cq]
  oL : wr.ownsRow (g + 1) 94 2 L cs.length (flatP cs)
  gT : g < T
  TU : T ≠ U
  TV : T ≠ V
  Tq : T ≠ q
  uT : u.ownBlock ≠ some T
  vT : v.ownBlock ≠ some T
  LT : L.ownBlock ≠ some T
section
variable {w wr w' : World} {g : Nat} {A : Option Addr} {n cap : Nat} {U V : Nat} {s l c sh : Int} {q m cap' : Nat} {zs : List Int} {a b d : Int} {u v : Value} {ps : List (Int × Int)} {os : List Opn} {T : Nat} {ct cq : Int} {L : Value} {cs : List (Int × Int)}
theorem D0.draw (h : D0 w wr g A n cap U V s l c sh q m cap' zs a b d u v ps os) (hg : wr.grownBy w' (some g)) (hc : Cur w' 102 .i64 g A n cap) : D0 w w' g A n cap U V s l c sh q m cap' zs a b d u v ps os := by
  have h1 := h.gl
  have h2 := h.gU
  have h3 := h.gV
  have h4 := h.gq
  exact { h with
    cur := hc
    bel := bel_grown h.bel hg (by omega)
    r1 := h.r1.kept hg (by intro e; injection e with e; omega)
    r2 := h.r2.kept hg (by intro e; injection e with e; omega)
    r3 := h.r3.kept hg (by intro e; injection e with e; omega)
    gr := h.gr.kept hg (by intro e; injection e with e; omega)
    var := h.var.kept hg (by intro e; injection e with e; omega)
    row := h.row.kept hg (by intro e; injection e with e; omega)
    ou := h.ou.kept hg (.inr (own_ne h.ou (by omega)))
    ov := h.ov.kept hg (.inr (own_ne h.ov (by omega)))
    ql := Nat.lt_of_lt_of_le h.ql hg.size }
theorem D0.later (h : D0 w wr g A n cap U V s l c sh q m cap' zs a b d u v ps os) (hb : Below wr.heap.size wr w') : D0 w w' g A n cap U V s l c sh q m cap' zs a b d u v ps os :=
  h.draw (grown_bel hb _) (h.cur.kept (grown_bel hb none) (fun q hq => by cases hq))
theorem D1.draw (h : D1 w wr g A n cap U V s l c sh q m cap' zs a b d u v ps os T ct cq L cs) (hg : wr.grownBy w' (some g)) (hc : Cur w' 102 .i64 g A n cap) : D1 w w' g A n cap U V s l c sh q m cap' zs a b d u v ps os T ct cq L cs := by
  have h1 := h.gT
  exact { h with
    k := h.k.draw hg hc
    st := h.st.kept hg (by intro e; injection e with e; omega)
    oL := h.oL.kept hg (.inr (own_ne h.oL (by omega))) }
theorem D1.later (h : D1 w wr g A n cap U V s l c sh q m cap' zs a b d u v ps os T ct cq L cs) (hb : Below wr.heap.size wr w') : D1 w w' g A n cap U V s l c sh q m cap' zs a b d u v ps os T ct cq L cs :=
  h.draw (grown_bel hb _) (h.k.cur.kept (grown_bel hb none) (fun q hq => by cases hq))
/-- The stamp is made. -/
theorem D0.stamp (h : D0 w wr g A n cap U V s l c sh q m cap' zs a b d u v ps os) (hg : wr.grownBy w' (some g)) (hc : Cur w' 102 .i64 g A n cap) (hT : Box w' T 28 #[.int .i64 ct, .int .i64 cq]) (hl : wr.heap.size ≤ T) : D1 w w' g A n cap U V s l c sh q m cap' zs a b d u v ps os T ct cq (.slice none 0 0) [] := by
  have h1 := h.gr.lt
  have h2 := h.var.lt
  have h3 := h.ql
  have h4 := h.cur.lt
  exact { k := h.draw hg hc, st := hT, oL := ⟨rfl, .inl ⟨rfl, rfl⟩⟩, gT := by omega, TU := by omega, TV := by omega, Tq := by omega, uT := fun e => by have := (h.ou.lt _ e).2; omega, vT := fun e => by have := (h.ov.lt _ e).2; omega, LT := by simp [Value.ownBlock] }
/-- A cell of the stamp is written. -/
theorem D1.put (h : D1 w wr g A n cap U V s l c sh q m cap' zs a b d u v ps os T ct cq L cs) (i : Nat) (z : Value) {ct' cq' : Int} (e : (#[.int .i64 ct, .int .i64 cq] : Array Value).setIfInBounds i z = #[.int .i64 ct', .int .i64 cq']) : D1 w (wr.setCell ⟨T, i, none⟩ z) g A n cap U V s l c sh q m cap' zs a b d u v ps os T ct' cq' L cs := by
  have h1 := h.k.gl
  have h2 := h.gT
  have h3 := h.TU
  have h4 := h.TV
  have h5 := h.Tq
  have hg : wr.grownBy (wr.setCell ⟨T, i, none⟩ z) (some T) := grown_set (grown_refl wr _) i _
  exact { h with
    k := { h.k with
      cur := h.k.cur.kept hg (fun r hr => by injection hr with hr; omega)
      bel := bel_grown h.k.bel hg (by omega)
      r1 := h.k.r1.kept hg (by intro e; injection e with e; omega)
      r2 := h.k.r2.kept hg (by intro e; injection e with e; omega)
      r3 := h.k.r3.kept hg (by intro e; injection e with e; omega)
      gr := h.k.gr.kept hg (by intro e; injection e with e; omega)
      var := h.k.var.kept hg (by intro e; injection e with e; omega)
      row := h.k.row.kept hg (by intro e; injection e with e; omega)
      ou := h.k.ou.kept hg (.inr h.uT)
      ov := h.k.ov.kept hg (.inr h.vT)
      ql := Nat.lt_of_lt_of_le h.k.ql hg.size }
    st := e ▸ h.st.set i z
    oL := h.oL.kept hg (.inr h.LT) }
/-- The seals are made. -/
theorem D1.list (h : D1 w wr g A n cap U V s l c sh q m cap' zs a b d u v ps os T ct cq L cs) {L' : Value} {cs' : List (Int × Int)} (hg : wr.grownBy w' (some g)) (hc : Cur w' 102 .i64 g A n cap) (ho : w'.ownsRow wr.heap.size 94 2 L' cs'.length (flatP cs')) : D1 w w' g A n cap U V s l c sh q m cap' zs a b d u v ps os T ct cq L' cs' := by
  have h1 := h.st.lt
  have h2 := h.k.cur.lt
  exact { h.draw hg hc with
    oL := ownLow ho (by omega)
    LT := own_ne ho h1 }
/-- The answer is laid into the results. -/
theorem D1.fin (h : D1 w wr g A n cap U V s l c sh q m cap' zs a b d u v ps os T ct cq L cs) {A3 : Option Addr} {c3 : Nat} {A4 : Option Addr} {c4 : Nat} {A5 : Option Addr} {c5 : Nat} (eu : u = (.slice A3 ps.length c3)) (ev : v = (.slice A4 os.length c4)) (eL : L = .slice A5 cs.length c5) (hm : m ≤ 100) (hp : ps.length ≤ 21) (ho : os.length ≤ 7) (hl : cs.length ≤ 20) (x y : Int) (x0 x1 x2 x3 x4 y0 y1 y2 y3 y4 z0 z1 : Value) :
    MadeW w (.returned (.tuple #[.agg #[.int .i64 s, .int .i64 l, .int .i64 c, .int .i64 sh, .slice (some ⟨q, 0, none⟩) m cap'], .int .i64 x, .agg #[.int .i64 a, .int .i64 b, .int .i64 d, (.slice A3 ps.length c3), (.slice A4 os.length c4)], .agg #[.int .i64 ct, .int .i64 cq], .int .i64 y, .slice A5 cs.length c5])) ((((((((((((wr.setCell ⟨w.heap.size, 0, none⟩ x0).setCell ⟨w.heap.size, 1, none⟩ x1).setCell ⟨w.heap.size, 2, none⟩ x2).setCell ⟨w.heap.size, 3, none⟩ x3).setCell ⟨w.heap.size, 4, none⟩ x4).setCell ⟨w.heap.size + 1, 0, none⟩ y0).setCell ⟨w.heap.size + 1, 1, none⟩ y1).setCell ⟨w.heap.size + 1, 2, none⟩ y2).setCell ⟨w.heap.size + 1, 3, none⟩ y3).setCell ⟨w.heap.size + 1, 4, none⟩ y4).setCell ⟨w.heap.size + 2, 0, none⟩ z0).setCell ⟨w.heap.size + 2, 1, none⟩ z1).drew := by
  subst eu ev eL
  have h1 := h.k.gl
  have h2 := h.k.gq
  have gx := grown5 wr w.heap.size x0 x1 x2 x3 x4
  have gy := grown5 (((((wr.setCell ⟨w.heap.size, 0, none⟩ x0).setCell ⟨w.heap.size, 1, none⟩ x1).setCell ⟨w.heap.size, 2, none⟩ x2).setCell ⟨w.heap.size, 3, none⟩ x3).setCell ⟨w.heap.size, 4, none⟩ x4) (w.heap.size + 1) y0 y1 y2 y3 y4
  have gz := grown_drew (grown2 ((((((((((wr.setCell ⟨w.heap.size, 0, none⟩ x0).setCell ⟨w.heap.size, 1, none⟩ x1).setCell ⟨w.heap.size, 2, none⟩ x2).setCell ⟨w.heap.size, 3, none⟩ x3).setCell ⟨w.heap.size, 4, none⟩ x4).setCell ⟨w.heap.size + 1, 0, none⟩ y0).setCell ⟨w.heap.size + 1, 1, none⟩ y1).setCell ⟨w.heap.size + 1, 2, none⟩ y2).setCell ⟨w.heap.size + 1, 3, none⟩ y3).setCell ⟨w.heap.size + 1, 4, none⟩ y4) (w.heap.size + 2) z0 z1)
  have bb := bel_grown (bel_grown (bel_grown h.k.bel gx (by omega)) gy (by omega)) gz (by omega)
  have rr := ((h.k.row.kept gx (by intro e; injection e with e; omega)).kept gy (by intro e; injection e with e; omega)).kept gz (by intro e; injection e with e; omega)
  have o1 := ((h.k.ou.kept gx (.inr (own_ne h.k.ou (by omega)))).kept gy (.inr (own_ne h.k.ou (by omega)))).kept gz (.inr (own_ne h.k.ou (by omega)))
  have o2 := ((h.k.ov.kept gx (.inr (own_ne h.k.ov (by omega)))).kept gy (.inr (own_ne h.k.ov (by omega)))).kept gz (.inr (own_ne h.k.ov (by omega)))
  have o3 := ((h.oL.kept gx (.inr (own_ne h.oL (by omega)))).kept gy (.inr (own_ne h.oL (by omega)))).kept gz (.inr (own_ne h.oL (by omega)))
  exact ⟨s, l, c, sh, q, m, cap', zs, x, a, b, d, A3, c3, A4, c4, ps, os, ct, cq, y, A5, c5, cs, rfl, hm, hp, ho, hl, rr, own_slcP o1, own_slcQ o2, own_slcP o3, bb⟩
end
/-- The two cells of a new stamp are written. -/
theorem stamp_end {w3 w5 : World} {g : Nat} {A : Option Addr} {n cap T : Nat} {v0 v1 : Value} (hc : Cur w5 102 .i64 g A n cap) (F : w3.grownBy w5 (some g)) (B : Box w5 T 28 #[v0, v1]) (hT : w3.heap.size ≤ T) (hg : g < w3.heap.size) (ct cq : Value) :
    w3.heap.size ≤ T ∧ Box ((w5.setCell ⟨T, 0, none⟩ ct).setCell ⟨T, 1, none⟩ cq) T 28 #[ct, cq] ∧ Cur ((w5.setCell ⟨T, 0, none⟩ ct).setCell ⟨T, 1, none⟩ cq) 102 .i64 g A n cap ∧ w3.grownBy ((w5.setCell ⟨T, 0, none⟩ ct).setCell ⟨T, 1, none⟩ cq) (some g) :=
  ⟨hT, B.put2 _ _, hc.kept (grown2 w5 T ct cq) (fun r hr => by injection hr with hr; omega), grown_new (grown_new F (p := ⟨T, 0, none⟩) hT ct) (p := ⟨T, 1, none⟩) hT cq⟩

set_option maxRecDepth 100000 in
set_option maxHeartbeats 8000000 in
theorem drawWritten_any (A : Option Addr) (n cap : Nat) (w : World) (hn : n ≤ 4096) (hB : Bytes w w.heap.size A n) :
    Calls Tryz.prog 6 #[.slice A n cap] w (MadeW w) := by
  have E0 := bel_trans (bel_trans (bel_alloc w (.cells #[.int .i64 0, .int .i64 0, .int .i64 0, .int .i64 0, .slice none 0 0] 26)) (bel_alloc _ (.cells #[.int .i64 0, .int .i64 0, .int .i64 0, .slice none 0 0, .slice none 0 0] 32))) (bel_alloc _ (.cells #[.int .i64 0, .int .i64 0] 28))
  have R1 := ((Box.new w 26 #[.int .i64 0, .int .i64 0, .int .i64 0, .int .i64 0, .slice none 0 0]).alloc (.cells #[.int .i64 0, .int .i64 0, .int .i64 0, .slice none 0 0, .slice none 0 0] 32)).alloc (.cells #[.int .i64 0, .int .i64 0] 28)
  have R2 := (Box.new (w.alloc (.cells #[.int .i64 0, .int .i64 0, .int .i64 0, .int .i64 0, .slice none 0 0] 26)) 32 #[.int .i64 0, .int .i64 0, .int .i64 0, .slice none 0 0, .slice none 0 0]).alloc (.cells #[.int .i64 0, .int .i64 0] 28)
  have R3 := Box.new ((w.alloc (.cells #[.int .i64 0, .int .i64 0, .int .i64 0, .int .i64 0, .slice none 0 0] 26)).alloc (.cells #[.int .i64 0, .int .i64 0, .int .i64 0, .slice none 0 0, .slice none 0 0] 32)) 28 #[.int .i64 0, .int .i64 0]
  simp only [World.size_alloc] at R2 R3
  have HB := Lib.hid hB
  clear hB
  go_enter Tryz.func6, Tryz.ntmps6
  go_wp2_with fail
  generalize (((w.alloc _).alloc _).alloc _ : World) = w0 at E0 R1 R2 R3 ⊢
  refine (l1New_any A n cap w0 hn ((HB.out.below E0 (Nat.le_refl _)).more E0.size)).mono ?_
  rintro e w1 ⟨g, hg, rfl, hc1, hb1⟩
  have E1 := bel_trans E0 hb1
  have S1 := R1.later hb1 R1.lt
  have S2 := R2.later hb1 R2.lt
  have S3 := R3.later hb1 R3.lt
  have hz := R3.lt
  have hg : w.heap.size + 2 < g := Nat.lt_of_lt_of_le hz hg
  have hg1 := hc1.lt
  clear R1 R2 R3 E0 hb1
  go_wp2_with fail
  refine (l7DrawAny_any g A n cap w1 hc1).mono ?_
  rintro e w2 ⟨s, l, c, sh, q, m, cap', zs, x, a, b, d, u, v, ps, os, rfl, hok, hs6, hc3, hml, hq2, hrow, hps, hos, ou, ov, hc2, hg2⟩
  obtain ⟨A3, c3, rfl⟩ := own_form ou
  obtain ⟨A4, c4, rfl⟩ := own_form ov
  obtain ⟨ok1, _, ok2, _, _, _⟩ := okB_parts hok
  have hs2 := hg2.size
  have E2 := bel_grown E1 hg2 (by omega)
  have hb3 := bel_trans (bel_alloc w2 (.cells #[.int .i64 s, .int .i64 l, .int .i64 c, .int .i64 sh, .slice (some ⟨q, 0, none⟩) m cap'] 26)) (bel_alloc _ (.cells #[.int .i64 a, .int .i64 b, .int .i64 d, .slice A3 ps.length c3, .slice A4 os.length c4] 32))
  have G3 := (Box.new w2 26 #[.int .i64 s, .int .i64 l, .int .i64 c, .int .i64 sh, .slice (some ⟨q, 0, none⟩) m cap']).alloc (.cells #[.int .i64 a, .int .i64 b, .int .i64 d, .slice A3 ps.length c3, .slice A4 os.length c4] 32)
  have V3 := Box.new (w2.alloc (.cells #[.int .i64 s, .int .i64 l, .int .i64 c, .int .i64 sh, .slice (some ⟨q, 0, none⟩) m cap'] 26)) 32 #[.int .i64 a, .int .i64 b, .int .i64 d, .slice A3 ps.length c3, .slice A4 os.length c4]
  simp only [World.size_alloc] at V3
  have hql : q < w2.heap.size := by
    have h := hok
    simp only [okB, Bool.and_eq_true, decide_eq_true_eq] at h
    have h1 := h.1.2
    have h0 := hrow.1
    obtain ⟨bb, oo, e, hbb, _⟩ := hrow.2 (by omega)
    injection e with e
    injection e with e _ _
    omega
  have T1 := S1.kept hg2 (by intro e; injection e with e; omega)
  have T2 := S2.kept hg2 (by intro e; injection e with e; omega)
  have T3 := S3.kept hg2 (by intro e; injection e with e; omega)
  have K3 : D0 w ((w2.alloc (.cells #[.int .i64 s, .int .i64 l, .int .i64 c, .int .i64 sh, .slice (some ⟨q, 0, none⟩) m cap'] 26)).alloc (.cells #[.int .i64 a, .int .i64 b, .int .i64 d, .slice A3 ps.length c3, .slice A4 os.length c4] 32)) g A n cap w2.heap.size (w2.heap.size + 1) s l c sh q m cap' zs a b d (.slice A3 ps.length c3) (.slice A4 os.length c4) ps os := {
    cur := hc2.kept (grown_bel hb3 none) (fun q hq => by cases hq)
    bel := bel_trans E2 hb3
    r1 := T1.later hb3 T1.lt
    r2 := T2.later hb3 T2.lt
    r3 := T3.later hb3 T3.lt
    gr := G3
    var := V3
    row := (hrow.below hb3 (Nat.le_refl _)).more hb3.size
    ou := ownLow (ou.kept (grown_bel hb3 none) (by cases Value.ownBlock (.slice A3 ps.length c3) <;> simp)) (by omega)
    ov := ownLow (ov.kept (grown_bel hb3 none) (by cases Value.ownBlock (.slice A4 os.length c4) <;> simp)) (by omega)
    gl := hg
    gU := by omega
    gV := by omega
    gq := by omega
    ql := by have := hb3.size; omega }
  clear S1 S2 S3 E1 E2 T1 T2 T3 hc1 hc2 hg2 ou ov hrow hok hb3 V3 G3
  go_upto_region 3 with fail
  generalize ((w2.alloc _).alloc _ : World) = w3 at K3 ⊢
  generalize hU : w2.heap.size = U at K3 ⊢
  generalize hV : U + 1 = V at K3 ⊢
  clear hU hV hql hq2 hs2
  obtain ⟨d0, d1, d2, d3, d4⟩ := K3.gr.five
  have hg3 := K3.cur.lt
  have hU3 := K3.gr.lt
  have hgU := K3.gU
  go_cut [12] (fun y wr => ∃ (T : Nat) (ct cq : Int), y = .pointer (some ⟨T, 0, none⟩) ∧ w3.heap.size ≤ T ∧ Box wr T 28 #[.int .i64 ct, .int .i64 cq] ∧ Cur wr 102 .i64 g A n cap ∧ w3.grownBy wr (some g))
  case first =>
    have q1 : w3.heap.size ≠ U := by omega
    go_wp2_with fail
    go_region_held3 (fun w' => w'.cell? ⟨U, 0, none⟩ = some (.int .i64 s) ∧ w'.cell? ⟨U, 2, none⟩ = some (.int .i64 c))
      (first | (with_reducible exact J5) | (with_reducible exact J4) | (with_reducible exact (And.intro ((G5.alloc _).cell 0) ((G5.alloc _).cell 2))) | (with_reducible exact (And.intro ((G4.alloc _).cell 0) ((G4.alloc _).cell 2))) | (with_reducible exact (And.intro ((G5.far2 q1 _ _).cell 0) ((G5.far2 q1 _ _).cell 2))) | (with_reducible exact (And.intro ((G5.far2 q2 _ _).cell 0) ((G5.far2 q2 _ _).cell 2))) | go_keep)
      (first
        | (go_at_call 29; (with_reducible refine (l1Below_any g A n cap 5 _ (by omega) ?_).mono ?_); (first | exact K3.cur | exact curNew K3.cur _); rintro e w4 ⟨r, ⟨hr0, hr1⟩, rfl, hc4, hg4⟩; (first | (have B4 := gbox_of_alloc (grown_of_drew hg4) (by omega); have F4 := grown_of_alloc (grown_of_drew hg4)) | have F4 := grown_of_drew hg4); have G4 := K3.gr.kept F4 (by intro e; injection e with e; omega); have J4 := And.intro (G4.cell 0) (G4.cell 2); have l4 := F4.size; have q2 : w4.heap.size ≠ U := (by omega))
        | (go_at_call 29; (with_reducible refine (l1Below_any g A n cap c _ (by omega) ?_).mono ?_); (first | exact hc4 | exact curNew hc4 _); rintro e w5 ⟨r2, ⟨hs0', hs1'⟩, rfl, hc5, hg5⟩; (first | (have B5 := gbox_of_alloc hg5 (by omega); have F5 := grown_of_alloc hg5) | (have B5 := B4.kept hg5 (by intro e; injection e with e; omega); have F5 := hg5) | have F5 := hg5); have F6 := grown_trans F4 F5; have G5 := G4.kept F5 (by intro e; injection e with e; omega); have J5 := And.intro (G5.cell 0) (G5.cell 2); have l5 := F5.size; (first | (obtain ⟨b0, b1⟩ := B5.two; have fb := B5.frozen) | skip); have hw2 : IntKind.i64.wrap (s + r2) = s + r2 := IntWalk.i64_in _ (by omega)))
    all_goals go_wp2_with fail
    all_goals go_meet
    all_goals first
      | (have B' : Box w5 w4.heap.size 28 _ := (by with_reducible exact B5); exact ⟨_, _, _, rfl, stamp_end hc5 F6 B' (by omega) hg3 _ _⟩)
      | (have B' : Box w5 w3.heap.size 28 _ := (by with_reducible exact B5); exact ⟨_, _, _, rfl, stamp_end hc5 F6 B' (by omega) hg3 _ _⟩)
      | exact ⟨_, _, _, rfl, by omega, Box.new w5 _ _, curNew hc5 _, grown_alloc F6 _⟩
  case rest =>
  obtain ⟨T, ct, cq, rfl, hT, BT, hcT, FT⟩ := hcut
  obtain ⟨w4, rfl⟩ : ∃ x, x = wc := ⟨_, rfl⟩
  have K4 := K3.stamp FT hcT BT hT
  clear K3 FT hcT BT d0 d1 d2 d3 d4
  obtain ⟨t0, t1⟩ := K4.st.two
  have ft := K4.st.frozen
  have HM : Hid (m ≤ maxLen) := by show m ≤ maxLen; unfold maxLen; omega
  clear hT hgU hU3 hg3
  go_upto_if 35 with fail
  go_cut [] (fun wr => ∃ cq : Int, D1 w wr g A n cap U V s l c sh q m cap' zs a b d (.slice A3 ps.length c3) (.slice A4 os.length c4) ps os T ct cq (.slice none 0 0) [])
  case first =>
    by_cases h0 : ct = 0
    · subst h0
      have HK := Lib.hid (K4.put 1 (.int .i64 0) rfl)
      clear K4
      go_wp2_with fail
      go_meet
      exact ⟨_, HK.out⟩
    · have h1 : (ct == 0) = false := by simpa using h0
      go_wp2_with fail
      go_meet
      exact ⟨_, K4⟩
  case rest =>
  clear K4 t0 t1 ft cq
  obtain ⟨cq, K5⟩ := hcut
  obtain ⟨w5, rfl⟩ : ∃ x, x = wc := ⟨_, rfl⟩
  go_wp2_with fail
  refine (l1Below_any g A n cap 4 w5 (by omega) K5.k.cur).mono ?_
  rintro e w6 ⟨y, _, rfl, hcN, hgN⟩
  have K6 := K5.draw hgN hcN
  clear K5 hcN hgN
  go_wp2_with fail
  refine wp_region_sink 8 (fun w' => (w'.cell? ⟨U, 0, none⟩ = some (.int .i64 s) ∧ w'.cell? ⟨U, 1, none⟩ = some (.int .i64 l) ∧ w'.cell? ⟨U, 2, none⟩ = some (.int .i64 c) ∧ w'.cell? ⟨U, 3, none⟩ = some (.int .i64 sh) ∧ w'.cell? ⟨U, 4, none⟩ = some (.slice (some ⟨q, 0, none⟩) m cap')) ∧ (w'.cell? ⟨T, 0, none⟩ = some (.int .i64 ct) ∧ w'.cell? ⟨T, 1, none⟩ = some (.int .i64 cq))) (by kernel_rfl) ⟨K6.k.gr.five, K6.st.two⟩ (fun hH => ?_)
  refine wpAnyE_take (i := 0) (v := ?vp0) (by simp only [List.getElem?_toArray, List.getElem?_cons_zero]; rfl) (by kernel_rfl) (by kernel_rfl) (by kernel_rfl) (by exact fun _ _ _ h => h) (by kernel_rfl) (Or.inl ⟨by rfl, ?yp0⟩) hH ?rp0
  case yp0 => (intro w' hSw; (try dsimp only at hSw); go_simp; try with_reducible rfl)
  try simp only [Act.put, List.setIfInBounds_toArray, List.set_cons_zero, List.set_cons_succ]
  refine wpAnyE_take (i := 1) (v := ?vp1) (by simp only [List.getElem?_toArray, List.getElem?_cons_succ, List.getElem?_cons_zero]; rfl) (by kernel_rfl) (by kernel_rfl) (by kernel_rfl) (by exact fun _ _ _ h => h) (by kernel_rfl) (Or.inl ⟨by rfl, ?yp1⟩) hH ?rp1
  case yp1 => (intro w' hSw; (try dsimp only at hSw); go_simp; try with_reducible rfl)
  try simp only [Act.put, List.setIfInBounds_toArray, List.set_cons_zero, List.set_cons_succ]
  refine wpAnyE_take (i := 4) (v := ?vp4) (by simp only [List.getElem?_toArray, List.getElem?_cons_succ, List.getElem?_cons_zero]; rfl) (by kernel_rfl) (by kernel_rfl) (by kernel_rfl) (by exact fun _ _ _ h => h) (by kernel_rfl) (Or.inl ⟨by rfl, ?yp4⟩) hH ?rp4
  case yp4 => (intro w' hSw; (try dsimp only at hSw); go_simp; try with_reducible rfl)
  try simp only [Act.put, List.setIfInBounds_toArray, List.set_cons_zero, List.set_cons_succ]
  refine wpAnyE_take (i := 5) (v := ?vp5) (by simp only [List.getElem?_toArray, List.getElem?_cons_succ, List.getElem?_cons_zero]; rfl) (by kernel_rfl) (by kernel_rfl) (by kernel_rfl) (by exact fun _ _ _ h => h) (by kernel_rfl) (Or.inl ⟨by rfl, ?yp5⟩) hH ?rp5
  case yp5 => (intro w' hSw; (try dsimp only at hSw); go_simp; try with_reducible rfl)
  try simp only [Act.put, List.setIfInBounds_toArray, List.set_cons_zero, List.set_cons_succ]
  refine wpAnyE_one (i := 2) (by kernel_rfl) (by simp only [List.getElem?_toArray, List.getElem?_cons_succ, List.getElem?_cons_zero]; rfl) (fun K hK => ?_)
  go_simp
  refine (l1Min_any x 3 _).mono ?_
  rintro e w7 ⟨rfl, rfl⟩
  clear hH
  refine hK.out _ _ ⟨K6.k.gr.five, K6.st.two⟩ (fun hH => ?_)
  clear hK K
  try simp only [Act.put, List.setIfInBounds_toArray, List.set_cons_zero, List.set_cons_succ]
  refine wpAnyE_one (i := 3) (by kernel_rfl) (by simp only [List.getElem?_toArray, List.getElem?_cons_succ, List.getElem?_cons_zero]; rfl) (fun K hK => ?_)
  go_simp
  refine (l1Max_any 0 _ _).mono ?_
  rintro e w7 ⟨rfl, rfl⟩
  clear hH
  refine hK.out _ _ ⟨K6.k.gr.five, K6.st.two⟩ (fun hH => ?_)
  clear hK K
  try simp only [Act.put, List.setIfInBounds_toArray, List.set_cons_zero, List.set_cons_succ]
  refine wpAnyE_one (i := 6) (by kernel_rfl) (by simp only [List.getElem?_toArray, List.getElem?_cons_succ, List.getElem?_cons_zero]; rfl) (fun K hK => ?_)
  go_simp
  refine (l4Ready_is _ ct cq y _).mono ?_
  rintro e w8 ⟨rfl, hb8⟩
  have K8 := K6.later (bel_drew' hb8)
  clear hH
  refine hK.out _ _ ⟨K8.k.gr.five, K8.st.two⟩ (fun hH => ?_)
  clear hK K
  try simp only [Act.put, List.setIfInBounds_toArray, List.set_cons_zero, List.set_cons_succ]
  refine wpAnyE_one (i := 7) (by kernel_rfl) (by simp only [List.getElem?_toArray, List.getElem?_cons_succ, List.getElem?_cons_zero]; rfl) (fun K hK => ?_)
  go_simp
  refine (l4Cert_any s l c sh (some ⟨q, 0, none⟩) m cap' zs 1 _ ct cq y _ HM.out K8.k.row).mono ?_
  rintro e w9 ⟨p9, c9, cs, rfl, o9, h9, hb9⟩
  have K9 := K8.list (grown_bel hb9 _) (K8.k.cur.kept (grown_bel hb9 none) (fun q hq => by cases hq)) o9
  clear hH
  refine hK.out _ _ ⟨K9.k.gr.five, K9.st.two⟩ (fun hH => ?_)
  clear hK K
  try simp only [Act.put, List.setIfInBounds_toArray, List.set_cons_zero, List.set_cons_succ]
  refine wpAnyE_last (by kernel_rfl) (by simp only [List.getElem?_toArray, List.getElem?_cons_succ, List.getElem?_cons_zero]; rfl) (by kernel_rfl) (fun K hK => ?_)
  go_simp
  refine hK.out _ _ ?_
  clear hK K
  try simp only [Act.put, List.setIfInBounds_toArray, List.set_cons_zero, List.set_cons_succ]
  clear K6 K8 hH hb8 o9 hb9
  go_wp2_with fail
  refine (l1Once_any g A n cap 4 w9 (by omega) K9.k.cur).mono ?_
  rintro e w10 ⟨bb, rfl, hcN, hgN⟩
  have K10 := K9.draw hgN hcN
  clear K9 hgN hcN
  go_upto_if 48 with fail
  go_cut [14] (fun lv wr => ∃ (A5 : Option Addr) (c5 : Nat) (cs : List (Int × Int)), lv = .slice A5 cs.length c5 ∧ cs.length ≤ 20 ∧ D1 w wr g A n cap U V s l c sh q m cap' zs a b d (.slice A3 ps.length c3) (.slice A4 os.length c4) ps os T ct cq (.slice A5 cs.length c5) cs)
  case first =>
    rcases bb with _ | _
    · go_wp2_with fail
      go_meet
      exact ⟨_, _, _, rfl, by omega, K10⟩
    · go_wp2_with fail
      refine wp_region_sink 6 (fun w' => (w'.cell? ⟨U, 0, none⟩ = some (.int .i64 s) ∧ w'.cell? ⟨U, 1, none⟩ = some (.int .i64 l) ∧ w'.cell? ⟨U, 2, none⟩ = some (.int .i64 c) ∧ w'.cell? ⟨U, 3, none⟩ = some (.int .i64 sh) ∧ w'.cell? ⟨U, 4, none⟩ = some (.slice (some ⟨q, 0, none⟩) m cap')) ∧ (w'.cell? ⟨T, 0, none⟩ = some (.int .i64 ct) ∧ w'.cell? ⟨T, 1, none⟩ = some (.int .i64 cq))) (by kernel_rfl) ⟨K10.k.gr.five, K10.st.two⟩ (fun hH => ?_)
      refine wpAnyE_take (i := 0) (v := ?vq0) (by simp only [List.getElem?_toArray, List.getElem?_cons_zero]; rfl) (by kernel_rfl) (by kernel_rfl) (by kernel_rfl) (by exact fun _ _ _ h => h) (by kernel_rfl) (Or.inl ⟨by rfl, ?yq0⟩) hH ?rq0
      case yq0 => (intro w' hSw; (try dsimp only at hSw); go_simp; try with_reducible rfl)
      try simp only [Act.put, List.setIfInBounds_toArray, List.set_cons_zero, List.set_cons_succ]
      refine wpAnyE_take (i := 1) (v := ?vq1) (by simp only [List.getElem?_toArray, List.getElem?_cons_succ, List.getElem?_cons_zero]; rfl) (by kernel_rfl) (by kernel_rfl) (by kernel_rfl) (by exact fun _ _ _ h => h) (by kernel_rfl) (Or.inl ⟨by rfl, ?yq1⟩) hH ?rq1
      case yq1 => (intro w' hSw; (try dsimp only at hSw); go_simp; try with_reducible rfl)
      try simp only [Act.put, List.setIfInBounds_toArray, List.set_cons_zero, List.set_cons_succ]
      refine wpAnyE_take (i := 2) (v := ?vq2) (by simp only [List.getElem?_toArray, List.getElem?_cons_succ, List.getElem?_cons_zero]; rfl) (by kernel_rfl) (by kernel_rfl) (by kernel_rfl) (by exact fun _ _ _ h => h) (by kernel_rfl) (Or.inl ⟨by rfl, ?yq2⟩) hH ?rq2
      case yq2 => (intro w' hSw; (try dsimp only at hSw); go_simp; try with_reducible rfl)
      try simp only [Act.put, List.setIfInBounds_toArray, List.set_cons_zero, List.set_cons_succ]
      refine wpAnyE_take (i := 3) (v := ?vq3) (by simp only [List.getElem?_toArray, List.getElem?_cons_succ, List.getElem?_cons_zero]; rfl) (by kernel_rfl) (by kernel_rfl) (by kernel_rfl) (by exact fun _ _ _ h => h) (by kernel_rfl) (Or.inl ⟨by rfl, ?yq3⟩) hH ?rq3
      case yq3 => (intro w' hSw; (try dsimp only at hSw); go_simp; try with_reducible rfl)
      try simp only [Act.put, List.setIfInBounds_toArray, List.set_cons_zero, List.set_cons_succ]
      refine wpAnyE_one (i := 4) (by kernel_rfl) (by simp only [List.getElem?_toArray, List.getElem?_cons_succ, List.getElem?_cons_zero]; rfl) (fun K hK => ?_)
      go_simp
      refine (l4Ready_is 0 ct cq y _).mono ?_
      rintro e w11 ⟨rfl, hb11⟩
      have K11 := K10.later (bel_drew' hb11)
      clear hH
      refine hK.out _ _ ⟨K11.k.gr.five, K11.st.two⟩ (fun hH => ?_)
      clear hK K
      try simp only [Act.put, List.setIfInBounds_toArray, List.set_cons_zero, List.set_cons_succ]
      refine wpAnyE_one (i := 5) (by kernel_rfl) (by simp only [List.getElem?_toArray, List.getElem?_cons_succ, List.getElem?_cons_zero]; rfl) (fun K hK => ?_)
      go_simp
      refine (l4Draw_any g A n cap s l c sh q 0 m cap' zs 1 0 ct cq y _ HM.out K11.k.cur K11.k.row (by have := K11.k.gq; omega)).mono ?_
      rintro e w12 ⟨p12, c12, cs2, rfl, o12, h12, hc12, hg12⟩
      have K12 := K11.list hg12 hc12 (ownLow o12 (by omega))
      clear hH
      refine hK.out _ _ ⟨K12.k.gr.five, K12.st.two⟩ (fun hH => ?_)
      clear hK K
      try simp only [Act.put, List.setIfInBounds_toArray, List.set_cons_zero, List.set_cons_succ]
      refine wpAnyE_last (by kernel_rfl) (by simp only [List.getElem?_toArray, List.getElem?_cons_succ, List.getElem?_cons_zero]; rfl) (by kernel_rfl) (fun K hK => ?_)
      go_simp
      refine hK.out _ _ ?_
      clear hK K
      try simp only [Act.put, List.setIfInBounds_toArray, List.set_cons_zero, List.set_cons_succ]
      clear K10 K11 hH hb11 hg12 hc12 o12
      go_wp2_with fail
      go_meet
      exact ⟨_, _, _, rfl, by omega, K12⟩
  case rest =>
  clear K10 h9 cs p9 c9
  obtain ⟨A5, c5, cs, rfl, hcs, K11⟩ := hcut
  obtain ⟨w11, rfl⟩ : ∃ x, x = wc := ⟨_, rfl⟩
  go_wp2_with fail
  refine (l1Once_any g A n cap 12 w11 (by omega) K11.k.cur).mono ?_
  rintro e w12 ⟨bb, rfl, hcN, hgN⟩
  have K12 := K11.draw hgN hcN
  clear K11 hgN hcN
  go_upto_if 56 with fail
  go_cut [] (fun wr => ∃ ct cq : Int, D1 w wr g A n cap U V s l c sh q m cap' zs a b d (.slice A3 ps.length c3) (.slice A4 os.length c4) ps os T ct cq (.slice A5 cs.length c5) cs)
  case first =>
    rcases bb with _ | _
    · go_wp2_with fail
      go_meet
      exact ⟨_, _, K12⟩
    · go_wp2_with fail
      refine (l2DrawAny_any g A n cap w12 K12.k.cur).mono ?_
      rintro e w13 ⟨z1, z2, rfl, hcN, hgN⟩
      have K13 := K12.draw hgN hcN
      clear K12 hgN hcN
      obtain ⟨t0, t1⟩ := K13.st.two
      have ft := K13.st.frozen
      have HK := Lib.hid ((K13.put 0 (.int .i64 z1) rfl).put 1 (.int .i64 z2) rfl)
      clear K13
      go_wp2_with fail
      go_meet
      exact ⟨_, _, HK.out⟩
  case rest =>
  clear K12 ct cq
  obtain ⟨ct, cq, K13⟩ := hcut
  obtain ⟨w13, rfl⟩ : ∃ x, x = wc := ⟨_, rfl⟩
  obtain ⟨d0, d1, d2, d3, d4⟩ := K13.k.gr.five
  obtain ⟨x0, x1, x2, x3, x4⟩ := K13.k.var.five
  obtain ⟨s0, s1⟩ := K13.st.two
  obtain ⟨e0, e1, e2, e3, e4⟩ := K13.k.r1.five
  obtain ⟨t0, t1, t2, t3, t4⟩ := K13.k.r2.five
  obtain ⟨v0, v1⟩ := K13.k.r3.two
  have f1 := K13.k.r1.frozen
  have f2 := K13.k.r2.frozen
  have f3 := K13.k.r3.frozen
  have h1 := K13.k.gl
  have h2 := K13.k.gU
  have h3 := K13.k.gV
  have h4 := K13.gT
  have n1 : U ≠ w.heap.size := by omega
  have n2 : U ≠ w.heap.size + 1 := by omega
  have n3 : U ≠ w.heap.size + 2 := by omega
  have n4 : V ≠ w.heap.size := by omega
  have n5 : V ≠ w.heap.size + 1 := by omega
  have n6 : V ≠ w.heap.size + 2 := by omega
  have n7 : T ≠ w.heap.size := by omega
  have n8 : T ≠ w.heap.size + 1 := by omega
  have n9 : T ≠ w.heap.size + 2 := by omega
  have n1' : w.heap.size ≠ U := by omega
  have n2' : w.heap.size + 1 ≠ U := by omega
  have n3' : w.heap.size + 2 ≠ U := by omega
  have n4' : w.heap.size ≠ V := by omega
  have n5' : w.heap.size + 1 ≠ V := by omega
  have n6' : w.heap.size + 2 ≠ V := by omega
  have n7' : w.heap.size ≠ T := by omega
  have n8' : w.heap.size + 1 ≠ T := by omega
  have n9' : w.heap.size + 2 ≠ T := by omega
  have HK := Lib.hid (K13.fin rfl rfl rfl hml hps hos hcs x y)
  clear K13 h1 h2 h3 h4
  go_wp2_with fail
  go_region
  go_wp2
  exact bodyPost_ret (v := (.tuple #[.agg #[.int .i64 s, .int .i64 l, .int .i64 c, .int .i64 sh, .slice (some ⟨q, 0, none⟩) m cap'], .int .i64 x, .agg #[.int .i64 a, .int .i64 b, .int .i64 d, (.slice A3 ps.length c3), (.slice A4 os.length c4)], .agg #[.int .i64 ct, .int .i64 cq], .int .i64 y, .slice A5 cs.length c5])) (by simp [results, Tryz.results6, go_sem, e0, e1, e2, e3, e4, t0, t1, t2, t3, t4, v0, v1]) rfl (HK.out _ _ _ _ _ _ _ _ _ _ _ _)

end Go.Proofs.YtghdnokjgmmgiaaGreat

/- laws.likeReg on two shelves that read alike. -/
namespace Go.Proofs.YtghdnokjgmmgiaaGreat
open Go.RowKit

set_option maxRecDepth 100000 in
set_option maxHeartbeats 4000000 in
theorem likeReg_is (rt rq rv : Int) (P : Option Addr) (p pc : Nat) (Q : Option Addr) (q qc : Nat) (P' : Option Addr) (pc' : Nat) (Q' : Option Addr) (qc' : Nat) (ps : List (Int × Int)) (os : List Opn) (w : World) (hp : p ≤ 1048576) (hq : q ≤ 1048576) (h1 : Pairs w w.heap.size P p ps) (h2 : Quads w w.heap.size Q q os) (h3 : Pairs w w.heap.size P' p ps) (h4 : Quads w w.heap.size Q' q os) :
    Calls Tryz.prog 9 #[.agg #[.int .i64 rt, .int .i64 rq, .int .i64 rv, .slice P p pc, .slice Q q qc], .agg #[.int .i64 rt, .int .i64 rq, .int .i64 rv, .slice P' p pc', .slice Q' q qc']] w fun e w' => e = .returned (.bool true) ∧ Below w.heap.size w w' := by
  have X0 := (Box.new w 32 #[.int .i64 rt, .int .i64 rq, .int .i64 rv, .slice P p pc, .slice Q q qc]).alloc (.cells #[.int .i64 rt, .int .i64 rq, .int .i64 rv, .slice P' p pc', .slice Q' q qc'] 32)
  have Y0 := Box.new (w.alloc (.cells #[.int .i64 rt, .int .i64 rq, .int .i64 rv, .slice P p pc, .slice Q q qc] 32)) 32 #[.int .i64 rt, .int .i64 rq, .int .i64 rv, .slice P' p pc', .slice Q' q qc']
  simp only [World.size_alloc] at Y0
  have E0 := bel_trans (bel_alloc w (.cells #[.int .i64 rt, .int .i64 rq, .int .i64 rv, .slice P p pc, .slice Q q qc] 32)) (bel_alloc _ (.cells #[.int .i64 rt, .int .i64 rq, .int .i64 rv, .slice P' p pc', .slice Q' q qc'] 32))
  have H1 := Lib.hid (h1.later E0)
  have H2 := Lib.hid (h2.later E0)
  have H3 := Lib.hid (h3.later E0)
  have H4 := Lib.hid (h4.later E0)
  clear h1 h2 h3 h4
  go_enter Tryz.func9, Tryz.ntmps9
  go_wp2_with fail
  generalize ((w.alloc _).alloc _ : World) = w0 at X0 Y0 E0 H1 H2 H3 H4 ⊢
  refine (like_is P P' p pc pc' ps w0 hp H1.out H3.out).mono ?_
  rintro e w1 ⟨rfl, hb⟩
  have X1 := X0.later hb X0.lt
  have Y1 := Y0.later hb Y0.lt
  have E1 := bel_trans E0 hb
  replace H2 := Lib.hid (H2.out.later hb)
  replace H4 := Lib.hid (H4.out.later hb)
  have c1 := X1.cell 4
  have c2 := Y1.cell 4
  clear X0 Y0 E0 hb H1 H3
  go_wp2_with fail
  clear c1 c2
  have hzw := E1.size
  go_loopw [5] (fun i wr => ∃ k : Nat, k ≤ q ∧ i = .int .i64 k ∧ Below w1.heap.size w1 wr) (fun i _ => q - (intOf i).toNat)
  case atStart => exact ⟨0, Nat.zero_le _, rfl, Below.refl _ _⟩
  case round =>
    obtain ⟨k, hk, rfl, hb⟩ := hrel
    have c1 := (X1.later hb X1.lt).cell 4
    have c2 := (Y1.later hb Y1.lt).cell 4
    have x1 := X1.lt
    have x2 := Y1.lt
    have hz := hb.size
    by_cases hlt : k < q
    · obtain ⟨b, o, hA, hbB, hcell⟩ := H2.out.2 (by omega)
      obtain ⟨b', o', hA', hbB', hcell'⟩ := H4.out.2 (by omega)
      subst hA hA'
      obtain ⟨g0, g1, g2, g3⟩ := hcell k hlt
      obtain ⟨h0, h1, h2, h3⟩ := hcell' k hlt
      have c1 := After.cell (w := wr) (a := ⟨w.heap.size, 4, none⟩) (by simp; omega) c1
      have c2 := After.cell (w := wr) (a := ⟨w.heap.size + 1, 4, none⟩) (by simp; omega) c2
      have g0 := After.cell (w := wr) (a := ⟨b, o + k * 4, none⟩) (by simp; omega) ((hb.cell (p := ⟨b, o + k * 4, none⟩) hbB).trans g0)
      have g1 := After.cell (w := wr) (a := ⟨b, o + k * 4 + 1, none⟩) (by simp; omega) ((hb.cell (p := ⟨b, o + k * 4 + 1, none⟩) hbB).trans g1)
      have g2 := After.cell (w := wr) (a := ⟨b, o + k * 4 + 2, none⟩) (by simp; omega) ((hb.cell (p := ⟨b, o + k * 4 + 2, none⟩) hbB).trans g2)
      have g3 := After.cell (w := wr) (a := ⟨b, o + k * 4 + 3, none⟩) (by simp; omega) ((hb.cell (p := ⟨b, o + k * 4 + 3, none⟩) hbB).trans g3)
      have h0 := After.cell (w := wr) (a := ⟨b', o' + k * 4, none⟩) (by simp; omega) ((hb.cell (p := ⟨b', o' + k * 4, none⟩) hbB').trans h0)
      have h1 := After.cell (w := wr) (a := ⟨b', o' + k * 4 + 1, none⟩) (by simp; omega) ((hb.cell (p := ⟨b', o' + k * 4 + 1, none⟩) hbB').trans h1)
      have h2 := After.cell (w := wr) (a := ⟨b', o' + k * 4 + 2, none⟩) (by simp; omega) ((hb.cell (p := ⟨b', o' + k * 4 + 2, none⟩) hbB').trans h2)
      have h3 := After.cell (w := wr) (a := ⟨b', o' + k * 4 + 3, none⟩) (by simp; omega) ((hb.cell (p := ⟨b', o' + k * 4 + 3, none⟩) hbB').trans h3)
      generalize oth os k = x at g0 g1 g2 g3 h0 h1 h2 h3
      obtain ⟨x, y, z, v⟩ := x
      have hlt' : (k : Int) < (q : Int) := by omega
      have c1' := (X1.later hb X1.lt).cell 4
      have c2' := (Y1.later hb Y1.lt).cell 4
      clear hcell hcell'
      go_wp2_with fail
      refine wp_region_after (by kernel_rfl) (by kernel_rfl) ?_
      repeat (first | go_big_quiet_step (fail) | quiet_step (fail))
      refine wpQuiet_nil ?_
      intro pw
      have E3 := bel_trans hb pw.bel
      go_wp2
      go_roundw
      case rel => exact ⟨k + 1, by omega, by go_num, E3⟩
      case measure => simp [intOf]; omega
    · go_wp2
      go_ret
      exact ⟨rfl, bel_trans E1 hb⟩

end Go.Proofs.YtghdnokjgmmgiaaGreat

/- Written: the program's and the model's: contracts of each of them. -/
namespace Go.Proofs.YtghdnokjgmmgiaaGreat
open Go.RowKit

theorem slc_pairs {w : World} {P : Option Addr} {p pc : Nat} {ps : List (Int × Int)} (h : Slc w (.slice P p pc) ps) : Pairs w w.heap.size P p ps := by
  rcases h with ⟨e, rfl⟩ | ⟨b, o, n, cap, e, hp⟩
  · injection e with e1 e2 _
    subst e1 e2
    exact ⟨rfl, fun h => absurd h (by omega)⟩
  · injection e with e1 e2 _
    subst e1 e2
    exact hp
theorem slcQ_quads {w : World} {P : Option Addr} {p pc : Nat} {os : List Opn} (h : SlcQ w (.slice P p pc) os) : Quads w w.heap.size P p os := by
  rcases h with ⟨e, rfl⟩ | ⟨b, o, n, cap, e, _, _, hp⟩
  · injection e with e1 e2 _
    subst e1 e2
    exact quads_nil _ _ _
  · injection e with e1 e2 _
    subst e1 e2
    exact hp

/-- What Written answers: a stamp, a value, seals, opens, a flag. -/
structure Out where
  t : Int
  q : Int
  v : Int
  cs : List (Int × Int)
  os : List Opn
  f : Bool
def outW (s l c sh : Int) (zs : List Int) (x rt rq rv : Int) (ps : List (Int × Int)) (os : List Opn) (ct cq v : Int) (cs : List (Int × Int)) : Out :=
  if regB s l c sh zs x rt rq rv ps os = false then ⟨0, 0, 0, [], [], false⟩
  else if wrtB s l c sh zs x ct cq v cs = false then ⟨rt, rq, rv, ps, os, false⟩
  else if cmpN ct cq rt rq = 1 then ⟨ct, cq, v, goodP (rB s l c sh zs 1 x ct cq v) cs, os, true⟩
  else ⟨rt, rq, rv, ps, os, true⟩
theorem reg_stamp {s l c sh : Int} {zs : List Int} {x rt rq rv : Int} {ps : List (Int × Int)} {os : List Opn} (h : regB s l c sh zs x rt rq rv ps os = true) : stB rt rq = true := by
  unfold regB at h
  rw [Bool.and_eq_true, ← lefB_spec] at h
  have := h.1
  unfold spcB at this
  simp only [Bool.and_eq_true] at this
  exact this.1.1.1
theorem cmp_pos {a b c d : Int} (h1 : stB a b = true) (h2 : stB c d = true) : 0 < cmpN a b c d ↔ cmpN a b c d = 1 := by
  rw [cmpN_yes h1 h2]
  have g1 := sgn_bd a c
  have g2 := sgn_bd b d
  unfold orN
  split <;> omega
/-- A shelf and a flag that are answered: its lists lie in blocks of their own. -/
def WrR (w : World) (o : Out) (e : Ending) (w' : World) : Prop :=
  ∃ (B : Nat) (A : Option Addr) (n c : Nat) (A' : Option Addr) (n' c' : Nat), w.heap.size ≤ B ∧ B ≤ w'.heap.size ∧ e = .returned (.tuple #[.agg #[.int .i64 o.t, .int .i64 o.q, .int .i64 o.v, .slice A n c, .slice A' n' c'], .bool o.f]) ∧ ResP w' w.heap.size B (.slice A n c) o.cs ∧ ResO w' B (.slice A' n' c') o.os ∧ Below w.heap.size w w'

set_option maxRecDepth 100000 in
set_option maxHeartbeats 1000000 in
theorem canWrite_is {s l c sh : Int} {zs : List Int} {x ct cq v : Int} {cs : List (Int × Int)} {b : Bool} (hW : wrtB s l c sh zs x ct cq v cs = b) (A : Option Addr) (n cap : Nat) (L : Option Addr) (m mc : Nat) (w : World) (hm : n ≤ maxLen) (hr : Row w w.heap.size A n zs) (hn : m ≤ 4194304) (h : Pairs w w.heap.size L m cs) :
    Calls Tryz.prog 38 #[.agg #[.int .i64 ct, .int .i64 cq, .int .i64 v, .slice L m mc], .agg #[.int .i64 s, .int .i64 l, .int .i64 c, .int .i64 sh, .slice A n cap], .int .i64 x] w fun e w' => e = .returned (.bool b) ∧ Below w.heap.size w w' := by
  have D := (Box.new w 73 #[.int .i64 ct, .int .i64 cq, .int .i64 v, .slice L m mc]).alloc (.cells #[.int .i64 s, .int .i64 l, .int .i64 c, .int .i64 sh, .slice A n cap] 26)
  have G := Box.new (w.alloc (.cells #[.int .i64 ct, .int .i64 cq, .int .i64 v, .slice L m mc] 73)) 26 #[.int .i64 s, .int .i64 l, .int .i64 c, .int .i64 sh, .slice A n cap]
  have E := bel_trans (bel_alloc w (.cells #[.int .i64 ct, .int .i64 cq, .int .i64 v, .slice L m mc] 73)) (bel_alloc _ (.cells #[.int .i64 s, .int .i64 l, .int .i64 c, .int .i64 sh, .slice A n cap] 26))
  simp only [World.size_alloc] at G
  have HR := Lib.hid ((hr.below E (Nat.le_refl _)).more E.size)
  have HP := Lib.hid (h.later E)
  have HM := Lib.hid hm
  have HW := Lib.hid hW
  clear hr hm h hW
  rcases zero_cases ct cq with ⟨rfl, rfl⟩ | ⟨hcase, hnz⟩
  · have HB : Hid (b = false) := Lib.hid (by rw [← HW.out]; exact wrt_zero _ _ _ _ _ _ _ _)
    go_enter Tryz.func38, Tryz.ntmps38
    go_wp2
    go_ret
    exact ⟨by rw [HB.out]; rfl, E⟩
  · have HPB : Hid (proB s l c sh zs x ct cq v cs = b) := Lib.hid (by rw [← HW.out]; unfold wrtB; simp [hnz])
    clear hnz
    rcases hcase with h1 | ⟨h1, h2⟩
    all_goals
      go_enter Tryz.func38, Tryz.ntmps38
      go_wp2_with fail
      generalize ((w.alloc _).alloc _ : World) = w0 at D G E HR HP ⊢
      refine (provenR_is HPB.out A n cap L m mc w0 HM.out HR.out hn HP.out).mono ?_
      rintro e w1 ⟨rfl, hb1⟩
      have E1 := bel_trans E hb1
      go_wp2
      go_ret
      exact ⟨rfl, E1⟩

end Go.Proofs.YtghdnokjgmmgiaaGreat

/- Written: what the program answers: its contract; and the model's. -/
namespace Go.Proofs.YtghdnokjgmmgiaaGreat
open Go.RowKit

theorem regOkB_is {s l c sh : Int} {zs : List Int} {x rt rq rv : Int} {ps : List (Int × Int)} {os : List Opn} {b : Bool} (hB : regB s l c sh zs x rt rq rv ps os = b) (A : Option Addr) (n cap : Nat) (P : Option Addr) (p pc : Nat) (Q : Option Addr) (q qc : Nat) (w : World) (hm : n ≤ maxLen) (hr : Row w w.heap.size A n zs) (hp : p ≤ 4194304) (hq : q ≤ 4194304) (h1 : Pairs w w.heap.size P p ps) (h2 : Quads w w.heap.size Q q os) :
    Calls Tryz.prog 10 #[.agg #[.int .i64 s, .int .i64 l, .int .i64 c, .int .i64 sh, .slice A n cap], .int .i64 x, .agg #[.int .i64 rt, .int .i64 rq, .int .i64 rv, .slice P p pc, .slice Q q qc]] w fun e w' => e = .returned (.bool b) ∧ Below w.heap.size w w' := hB ▸ regOk_is s l c sh A n cap zs x rt rq rv P p pc Q q qc ps os w hm hr hp hq h1 h2
theorem specRegOkB_is {s l c sh : Int} {zs : List Int} {x rt rq rv : Int} {ps : List (Int × Int)} {os : List Opn} {b : Bool} (hB : regB s l c sh zs x rt rq rv ps os = b) (A : Option Addr) (n cap : Nat) (P : Option Addr) (p pc : Nat) (Q : Option Addr) (q qc : Nat) (w : World) (hm : n ≤ maxLen) (hr : Row w w.heap.size A n zs) (hp : p ≤ 4194304) (hq : q ≤ 4194304) (h1 : Pairs w w.heap.size P p ps) (h2 : Quads w w.heap.size Q q os) :
    Calls Tryz.prog 11 #[.agg #[.int .i64 s, .int .i64 l, .int .i64 c, .int .i64 sh, .slice A n cap], .int .i64 x, .agg #[.int .i64 rt, .int .i64 rq, .int .i64 rv, .slice P p pc, .slice Q q qc]] w fun e w' => e = .returned (.bool b) ∧ Below w.heap.size w w' := hB ▸ specRegOk_is s l c sh A n cap zs x rt rq rv P p pc Q q qc ps os w hm hr hp hq h1 h2

/-- A shelf that reg answered is laid into the variable of the answer. -/
theorem wrr_put {w wc w' : World} {o : Out} {B R : Nat} {A : Option Addr} {n c : Nat} {A' : Option Addr} {n' c' : Nat} (E : Below w.heap.size w wc) (hR0 : w.heap.size ≤ R) (hR : R < wc.heap.size) (hB : wc.heap.size ≤ B) (hB' : B ≤ w'.heap.size) (h1 : ResP w' wc.heap.size B (.slice A n c) o.cs) (h2 : ResO w' B (.slice A' n' c') o.os) (hb : Below wc.heap.size wc w') (x0 x1 x2 x3 x4 : Value) :
    WrR w o (.returned (.tuple #[.agg #[.int .i64 o.t, .int .i64 o.q, .int .i64 o.v, .slice A n c, .slice A' n' c'], .bool o.f])) (((((w'.setCell ⟨R, 0, none⟩ x0).setCell ⟨R, 1, none⟩ x1).setCell ⟨R, 2, none⟩ x2).setCell ⟨R, 3, none⟩ x3).setCell ⟨R, 4, none⟩ x4) :=
  ⟨B, A, n, c, A', n', c', Nat.le_trans E.size hB, by simp only [size_set]; exact hB', rfl, (h1.far5 hR x0 x1 x2 x3 x4).wide E.size (Nat.le_refl _), h2.far5 (by omega) x0 x1 x2 x3 x4, bel_five (bel_trans E hb) hR0 x0 x1 x2 x3 x4⟩

/-- What Written keeps: the group, the variable of the answer, the board, what is next. -/
structure WB (w wr : World) (a b : Nat) (s l c sh : Int) (A : Option Addr) (n cap : Nat) (y n4 : Array Value) : Prop where
  bel : Below w.heap.size w wr
  G : Box wr w.heap.size 26 #[.int .i64 s, .int .i64 l, .int .i64 c, .int .i64 sh, .slice A n cap]
  X : Box wr (w.heap.size + 1 + 1 + 1) 32 #[.int .i64 0, .int .i64 0, .int .i64 0, .slice none 0 0, .slice none 0 0]
  Y : Box wr a 75 y
  N : Box wr b 73 n4
  ha : w.heap.size + 1 + 1 + 1 < a
  hab : a < b
theorem WB.later {w wr w' : World} {a b : Nat} {s l c sh : Int} {A : Option Addr} {n cap : Nat} {y n4 : Array Value} (h : WB w wr a b s l c sh A n cap y n4) (hb : Below wr.heap.size wr w') : WB w w' a b s l c sh A n cap y n4 :=
  ⟨bel_trans h.bel hb, h.G.later hb h.G.lt, h.X.later hb h.X.lt, h.Y.later hb h.Y.lt, h.N.later hb h.N.lt, h.ha, h.hab⟩

set_option maxRecDepth 100000 in
set_option maxHeartbeats 4000000 in
theorem written_is (s l c sh : Int) (A : Option Addr) (n cap : Nat) (zs : List Int) (x rt rq rv : Int) (P : Option Addr) (p pc : Nat) (Q : Option Addr) (q qc : Nat) (ct cq v : Int) (L : Option Addr) (m mc : Nat) (ps : List (Int × Int)) (os : List Opn) (cs : List (Int × Int)) (w : World) (hm : n ≤ maxLen) (hr : Row w w.heap.size A n zs) (hp : p ≤ 2000000) (hq : q ≤ 2000000) (h1 : Slc w (.slice P p pc) ps) (h2 : SlcQ w (.slice Q q qc) os) (hn : m ≤ 4194304) (h3 : Pairs w w.heap.size L m cs) :
    Calls Tryz.prog 7 #[.agg #[.int .i64 s, .int .i64 l, .int .i64 c, .int .i64 sh, .slice A n cap], .int .i64 x, .agg #[.int .i64 rt, .int .i64 rq, .int .i64 rv, .slice P p pc, .slice Q q qc], .agg #[.int .i64 ct, .int .i64 cq], .int .i64 v, .slice L m mc] w (WrR w (outW s l c sh zs x rt rq rv ps os ct cq v cs)) := by
  have G := (((Box.new w 26 #[.int .i64 s, .int .i64 l, .int .i64 c, .int .i64 sh, .slice A n cap]).alloc (.cells #[.int .i64 rt, .int .i64 rq, .int .i64 rv, .slice P p pc, .slice Q q qc] 32)).alloc (.cells #[.int .i64 ct, .int .i64 cq] 28)).alloc (.cells #[.int .i64 0, .int .i64 0, .int .i64 0, .slice none 0 0, .slice none 0 0] 32)
  have D := ((Box.new (w.alloc (.cells #[.int .i64 s, .int .i64 l, .int .i64 c, .int .i64 sh, .slice A n cap] 26)) 32 #[.int .i64 rt, .int .i64 rq, .int .i64 rv, .slice P p pc, .slice Q q qc]).alloc (.cells #[.int .i64 ct, .int .i64 cq] 28)).alloc (.cells #[.int .i64 0, .int .i64 0, .int .i64 0, .slice none 0 0, .slice none 0 0] 32)
  have T := (Box.new ((w.alloc (.cells #[.int .i64 s, .int .i64 l, .int .i64 c, .int .i64 sh, .slice A n cap] 26)).alloc (.cells #[.int .i64 rt, .int .i64 rq, .int .i64 rv, .slice P p pc, .slice Q q qc] 32)) 28 #[.int .i64 ct, .int .i64 cq]).alloc (.cells #[.int .i64 0, .int .i64 0, .int .i64 0, .slice none 0 0, .slice none 0 0] 32)
  have X := Box.new (((w.alloc (.cells #[.int .i64 s, .int .i64 l, .int .i64 c, .int .i64 sh, .slice A n cap] 26)).alloc (.cells #[.int .i64 rt, .int .i64 rq, .int .i64 rv, .slice P p pc, .slice Q q qc] 32)).alloc (.cells #[.int .i64 ct, .int .i64 cq] 28)) 32 #[.int .i64 0, .int .i64 0, .int .i64 0, .slice none 0 0, .slice none 0 0]
  have E := bel_trans (bel_trans (bel_trans (bel_alloc w (.cells #[.int .i64 s, .int .i64 l, .int .i64 c, .int .i64 sh, .slice A n cap] 26)) (bel_alloc _ (.cells #[.int .i64 rt, .int .i64 rq, .int .i64 rv, .slice P p pc, .slice Q q qc] 32))) (bel_alloc _ (.cells #[.int .i64 ct, .int .i64 cq] 28))) (bel_alloc _ (.cells #[.int .i64 0, .int .i64 0, .int .i64 0, .slice none 0 0, .slice none 0 0] 32))
  simp only [World.size_alloc] at D T X
  have HLP : Hid (ps.length = p) := Lib.hid (slc_pairs h1).1
  have HLQ : Hid (os.length = q) := Lib.hid (slcQ_quads h2).1
  have HR := Lib.hid hr
  have HM := Lib.hid hm
  have H1 := Lib.hid h1
  have H2 := Lib.hid h2
  have H3 := Lib.hid h3
  clear hr hm h1 h2 h3
  obtain ⟨O, hO⟩ : ∃ O, outW s l c sh zs x rt rq rv ps os ct cq v cs = O := ⟨_, rfl⟩
  rw [hO]
  go_enter Tryz.func7, Tryz.ntmps7
  go_wp2_with fail
  generalize ((((w.alloc _).alloc _).alloc _).alloc _ : World) = w0 at G D T X E ⊢
  rcases hrg : regB s l c sh zs x rt rq rv ps os with _ | _
  · have HO : Hid (O = ⟨0, 0, 0, [], [], false⟩) := Lib.hid (by rw [← hO]; unfold outW; rw [if_pos hrg])
    have HRG := Lib.hid hrg
    clear hrg hO
    refine (regOkB_is HRG.out A n cap P p pc Q q qc w0 HM.out ((HR.out.below E (Nat.le_refl _)).more E.size) (by omega) (by omega) (slc_pairs (H1.out.later E)) (slcQ_quads (H2.out.later E))).mono ?_
    rintro e w1 ⟨rfl, hb1⟩
    have E1 := bel_trans E hb1
    have X1 := X.later hb1 X.lt
    have hX := X.lt
    have hb1s := hb1.size
    have HP : Hid (∀ x0 x1 x2 x3 x4 : Value, WrR w O (.returned (.tuple #[.agg #[.int .i64 0, .int .i64 0, .int .i64 0, .slice none 0 0, .slice none 0 0], .bool false])) (((((w1.setCell ⟨w.heap.size + 1 + 1 + 1, 0, none⟩ x0).setCell ⟨w.heap.size + 1 + 1 + 1, 1, none⟩ x1).setCell ⟨w.heap.size + 1 + 1 + 1, 2, none⟩ x2).setCell ⟨w.heap.size + 1 + 1 + 1, 3, none⟩ x3).setCell ⟨w.heap.size + 1 + 1 + 1, 4, none⟩ x4)) := Lib.hid fun x0 x1 x2 x3 x4 => by
      rw [HO.out]
      exact ⟨w.heap.size, none, 0, 0, none, 0, 0, Nat.le_refl _, by simp only [size_set]; omega, rfl, .inl ⟨rfl, rfl⟩, .inl ⟨rfl, rfl⟩, bel_five E1 (by omega) x0 x1 x2 x3 x4⟩
    obtain ⟨x0, x1, x2, x3, x4⟩ := X1.five
    have fx := X1.frozen
    clear G D T X X1 E E1 hb1
    go_wp2
    exact bodyPost_ret (v := .tuple #[.agg #[.int .i64 0, .int .i64 0, .int .i64 0, .slice none 0 0, .slice none 0 0], .bool false]) (by simp [results, Tryz.results7, go_sem, x0, x1, x2, x3, x4]) rfl (HP.out _ _ _ _ _)
  have HRG := Lib.hid hrg
  refine (regOkB_is HRG.out A n cap P p pc Q q qc w0 HM.out ((HR.out.below E (Nat.le_refl _)).more E.size) (by omega) (by omega) (slc_pairs (H1.out.later E)) (slcQ_quads (H2.out.later E))).mono ?_
  rintro e w1 ⟨rfl, hb1⟩
  have D1 := D.later hb1 D.lt
  obtain ⟨d0, d1, d2, d3, d4⟩ := D1.five
  go_wp2_with fail
  refine (boardOf_is rt rq rv P p pc Q q qc w1).mono ?_
  rintro e w2 ⟨rfl, hb2⟩
  have hb12 := bel_trans hb1 hb2
  have hbA := bel_alloc w2 (.cells #[.int .i64 rt, .int .i64 rq, .int .i64 rv, .slice P p pc, .slice Q q qc] 75)
  have hbB := bel_alloc (w2.alloc (.cells #[.int .i64 rt, .int .i64 rq, .int .i64 rv, .slice P p pc, .slice Q q qc] 75)) (.cells #[.int .i64 ct, .int .i64 cq, .int .i64 v, .slice L m mc] 73)
  have hbAB := bel_trans hbA hbB
  have F := bel_trans hb12 hbAB
  have hX2 := (X.later hb12 X.lt).lt
  have T2 := T.later hb12 T.lt
  have hT2 := T2.lt
  obtain ⟨t0, t1⟩ := T2.two
  have G2 := G.later hb12 G.lt
  have hG2 := G2.lt
  obtain ⟨e0, e1, e2, e3, e4⟩ := G2.five
  have K : WB w ((w2.alloc (.cells #[.int .i64 rt, .int .i64 rq, .int .i64 rv, .slice P p pc, .slice Q q qc] 75)).alloc (.cells #[.int .i64 ct, .int .i64 cq, .int .i64 v, .slice L m mc] 73)) w2.heap.size (w2.heap.size + 1) s l c sh A n cap #[.int .i64 rt, .int .i64 rq, .int .i64 rv, .slice P p pc, .slice Q q qc] #[.int .i64 ct, .int .i64 cq, .int .i64 v, .slice L m mc] := by
    refine ⟨bel_trans E F, G.later F G.lt, X.later F X.lt, (Box.new w2 _ _).alloc _, ?_, hX2, by omega⟩
    have := Box.new (w2.alloc (.cells #[.int .i64 rt, .int .i64 rq, .int .i64 rv, .slice P p pc, .slice Q q qc] 75)) 73 #[.int .i64 ct, .int .i64 cq, .int .i64 v, .slice L m mc]
    simp only [World.size_alloc] at this
    exact this
  clear G D T X E hb1 hb2 hb12 hbA hbB hbAB F D1 d0 d1 d2 d3 d4 T2 G2
  go_wp2_with fail
  generalize ((w2.alloc _).alloc _ : World) = w3 at K ⊢
  generalize w2.heap.size = a at K hX2 hT2 hG2 ⊢
  clear t0 t1 e0 e1 e2 e3 e4 hT2 hG2
  rcases hwr : wrtB s l c sh zs x ct cq v cs with _ | _
  · have HO : Hid (O = ⟨rt, rq, rv, ps, os, false⟩) := Lib.hid (by rw [← hO]; unfold outW; rw [if_neg (by rw [hrg]; simp), if_pos hwr])
    have HWR := Lib.hid hwr
    clear hwr hrg hO
    refine (canWrite_is HWR.out A n cap L m mc w3 HM.out ((HR.out.below K.bel (Nat.le_refl _)).more K.bel.size) hn (H3.out.later K.bel)).mono ?_
    rintro e w4 ⟨rfl, hb4⟩
    replace K := K.later hb4
    clear hb4
    obtain ⟨y0, y1, y2, y3, y4⟩ := K.Y.five
    have hX4 := K.X.lt
    go_wp2_with fail
    refine (reg_is rt rq rv P p pc Q q qc ps os w4 (by rw [HLP.out]; omega) (by rw [HLQ.out]; omega) (H1.out.later K.bel) (H2.out.later K.bel)).mono ?_
    rintro e w5 ⟨B, u, u', hB, hB', rfl, hR1, hR2, hb5⟩
    obtain ⟨A5, c5, rfl, -, -, -, -⟩ := hR1.form
    obtain ⟨A6, c6, rfl, -, -, -, -⟩ := hR2.form
    have X5 := K.X.later hb5 K.X.lt
    obtain ⟨x0, x1, x2, x3, x4⟩ := X5.five
    have fx := X5.frozen
    have HP := Lib.hid (wrr_put (o := ⟨rt, rq, rv, ps, os, false⟩) (R := w.heap.size + 1 + 1 + 1) K.bel (by omega) hX4 hB hB' hR1 hR2 hb5)
    rw [← HO.out] at HP
    clear hR1 hR2 K y0 y1 y2 y3 y4 X5
    go_wp2
    exact bodyPost_ret (v := .tuple #[.agg #[.int .i64 rt, .int .i64 rq, .int .i64 rv, .slice A5 ps.length c5, .slice A6 os.length c6], .bool false]) (by simp [results, Tryz.results7, go_sem, x0, x1, x2, x3, x4]) rfl (by have := HP.out; rw [HO.out] at this ⊢; exact this _ _ _ _ _)
  have HWR := Lib.hid hwr
  refine (canWrite_is HWR.out A n cap L m mc w3 HM.out ((HR.out.below K.bel (Nat.le_refl _)).more K.bel.size) hn (H3.out.later K.bel)).mono ?_
  rintro e w4 ⟨rfl, hb4⟩
  replace K := K.later hb4
  clear hb4
  obtain ⟨y0, y1, y2, y3, y4⟩ := K.Y.five
  obtain ⟨n0, n1, n2, n3⟩ := K.N.four
  go_wp2_with fail
  refine (newer_any ct cq rt rq w4).mono ?_
  rintro e w5 ⟨rfl, hb5⟩
  replace K := K.later hb5
  clear hb5 y0 y1 y2 y3 y4 n0 n1 n2 n3
  rcases hcm : cmpN ct cq rt rq == 1 with _ | _
  · have HO : Hid (O = ⟨rt, rq, rv, ps, os, true⟩) := Lib.hid (by rw [← hO]; unfold outW; rw [if_neg (by rw [hrg]; simp), if_neg (by rw [hwr]; simp), if_neg (by simpa using hcm)])
    clear hwr hrg hO
    obtain ⟨y0, y1, y2, y3, y4⟩ := K.Y.five
    have hX4 := K.X.lt
    go_wp2_with fail
    refine (reg_is rt rq rv P p pc Q q qc ps os w5 (by rw [HLP.out]; omega) (by rw [HLQ.out]; omega) (H1.out.later K.bel) (H2.out.later K.bel)).mono ?_
    rintro e w6 ⟨B, u, u', hB, hB', rfl, hR1, hR2, hb5⟩
    obtain ⟨A5, c5, rfl, -, -, -, -⟩ := hR1.form
    obtain ⟨A6, c6, rfl, -, -, -, -⟩ := hR2.form
    have X5 := K.X.later hb5 K.X.lt
    obtain ⟨x0, x1, x2, x3, x4⟩ := X5.five
    have fx := X5.frozen
    have HP := Lib.hid (wrr_put (o := ⟨rt, rq, rv, ps, os, true⟩) (R := w.heap.size + 1 + 1 + 1) K.bel (by omega) hX4 hB hB' hR1 hR2 hb5)
    rw [← HO.out] at HP
    clear hR1 hR2 K y0 y1 y2 y3 y4 X5
    go_wp2
    exact bodyPost_ret (v := .tuple #[.agg #[.int .i64 rt, .int .i64 rq, .int .i64 rv, .slice A5 ps.length c5, .slice A6 os.length c6], .bool true]) (by simp [results, Tryz.results7, go_sem, x0, x1, x2, x3, x4]) rfl (by have := HP.out; rw [HO.out] at this ⊢; exact this _ _ _ _ _)
  · have hz := (wrt_parts hwr).2.2.1
    have HLS : Hid (lefS s l c sh zs x ct cq v cs = goodP (rB s l c sh zs 1 x ct cq v) cs) := Lib.hid (by unfold lefS; rw [if_neg hz])
    have HO : Hid (O = ⟨ct, cq, v, goodP (rB s l c sh zs 1 x ct cq v) cs, os, true⟩) := Lib.hid (by rw [← hO]; unfold outW; rw [if_neg (by rw [hrg]; simp), if_neg (by rw [hwr]; simp), if_pos (by simpa using hcm)])
    clear hwr hrg hO hz
    obtain ⟨n0, n1, n2, n3⟩ := K.N.four
    obtain ⟨g0, g1, g2, g3, g4⟩ := K.G.five
    go_wp2_with fail
    refine (leftSeals_is s l c sh A n cap zs x ct cq v L m mc cs w5 HM.out ((HR.out.below K.bel (Nat.le_refl _)).more K.bel.size) hn (H3.out.later K.bel)).mono ?_
    rintro e w6 ⟨u, rfl, hOw⟩
    rw [HLS.out] at hOw
    obtain ⟨J, hJ⟩ : ∃ J, goodP (rB s l c sh zs 1 x ct cq v) cs = J := ⟨_, rfl⟩
    rw [hJ] at hOw HO
    have hJl : J.length ≤ 4194304 := by
      rw [← hJ]
      have := goodP_le (rB s l c sh zs 1 x ct cq v) cs
      rw [H3.out.1] at this
      omega
    obtain ⟨Au, nu, cu, rfl⟩ := slc_form hOw.slc
    have K6 := K.later hOw.2
    have hs5 := K.N.lt
    have hRs := hOw.res (lo := w5.heap.size) (Nat.le_refl _)
    clear K hJ n0 n1 n2 n3 g0 g1 g2 g3 g4
    obtain ⟨n0, n1, n2, n3⟩ := K6.N.four
    obtain ⟨y0, y1, y2, y3, y4⟩ := K6.Y.five
    have fn := K6.N.frozen
    have fy := K6.Y.frozen
    have hab := K6.hab
    have ha := K6.ha
    have hNl := K6.N.lt
    have hX6 := K6.X.lt
    -- the board, behind what is written on it
    have Y7 := Lib.hid ((((K6.Y.far (p := ⟨a + 1, 3, none⟩) (by show a + 1 ≠ a; omega) (.slice Au nu cu)).set 0 (.int .i64 ct)).set 1 (.int .i64 cq)).set 2 (.int .i64 v) |>.set 3 (.slice Au nu cu))
    have X7 := Lib.hid (((((K6.X.far (p := ⟨a + 1, 3, none⟩) (by show a + 1 ≠ _; omega) (.slice Au nu cu)).far (p := ⟨a, 0, none⟩) (by show a ≠ _; omega) (.int .i64 ct)).far (p := ⟨a, 1, none⟩) (by show a ≠ _; omega) (.int .i64 cq)).far (p := ⟨a, 2, none⟩) (by show a ≠ _; omega) (.int .i64 v)).far (p := ⟨a, 3, none⟩) (by show a ≠ _; omega) (.slice Au nu cu))
    have E7 := Lib.hid (((((K6.bel.setCell (p := ⟨a + 1, 3, none⟩) (by show _ ≤ a + 1; omega) (.slice Au nu cu)).setCell (p := ⟨a, 0, none⟩) (by show _ ≤ a; omega) (.int .i64 ct)).setCell (p := ⟨a, 1, none⟩) (by show _ ≤ a; omega) (.int .i64 cq)).setCell (p := ⟨a, 2, none⟩) (by show _ ≤ a; omega) (.int .i64 v)).setCell (p := ⟨a, 3, none⟩) (by show _ ≤ a; omega) (.slice Au nu cu))
    have R7 := Lib.hid (((((hRs.far (b := a + 1) (by omega) 3 (.slice Au nu cu)).far (b := a) (by omega) 0 (.int .i64 ct)).far (b := a) (by omega) 1 (.int .i64 cq)).far (b := a) (by omega) 2 (.int .i64 v)).far (b := a) (by omega) 3 (.slice Au nu cu))
    clear K6 hRs hOw
    go_upto_region 10 with fail
    generalize (((((w6.setCell _ _).setCell _ _).setCell _ _).setCell _ _).setCell _ _ : World) = w7 at Y7 X7 E7 R7 ⊢
    have Y8 : Box w7 a 75 #[.int .i64 ct, .int .i64 cq, .int .i64 v, .slice Au nu cu, .slice Q q qc] := Y7.out
    have X8 := X7.out
    clear y0 y1 y2 y3 y4 n0 n1 n2 n3 fn fy Y7 X7
    obtain ⟨y0, y1, y2, y3, y4⟩ := Y8.five
    have hX8 := X8.lt
    go_wp2_with fail
    refine (reg_is ct cq v Au nu cu Q q qc J os w7 hJl (by rw [HLQ.out]; omega) R7.out.slc (H2.out.later E7.out)).mono ?_
    rintro e w8 ⟨B, u, u', hB, hB', rfl, hR1, hR2, hb5⟩
    obtain ⟨A5, c5, rfl, -, -, -, -⟩ := hR1.form
    obtain ⟨A6, c6, rfl, -, -, -, -⟩ := hR2.form
    have X5 := X8.later hb5 X8.lt
    obtain ⟨x0, x1, x2, x3, x4⟩ := X5.five
    have fx := X5.frozen
    have HP := Lib.hid (wrr_put (o := ⟨ct, cq, v, J, os, true⟩) (R := w.heap.size + 1 + 1 + 1) E7.out (by omega) hX8 hB hB' hR1 hR2 hb5)
    rw [← HO.out] at HP
    clear hR1 hR2 y0 y1 y2 y3 y4 X5 Y8 X8 E7 R7
    go_wp2
    exact bodyPost_ret (v := .tuple #[.agg #[.int .i64 ct, .int .i64 cq, .int .i64 v, .slice A5 J.length c5, .slice A6 os.length c6], .bool true]) (by simp [results, Tryz.results7, go_sem, x0, x1, x2, x3, x4]) rfl (by have := HP.out; rw [HO.out] at this ⊢; exact this _ _ _ _ _)

set_option maxRecDepth 100000 in
set_option maxHeartbeats 4000000 in
theorem specWritten_is (s l c sh : Int) (A : Option Addr) (n cap : Nat) (zs : List Int) (x rt rq rv : Int) (P : Option Addr) (p pc : Nat) (Q : Option Addr) (q qc : Nat) (ct cq v : Int) (L : Option Addr) (m mc : Nat) (ps : List (Int × Int)) (os : List Opn) (cs : List (Int × Int)) (w : World) (hm : n ≤ maxLen) (hr : Row w w.heap.size A n zs) (hp : p ≤ 2000000) (hq : q ≤ 2000000) (h1 : Slc w (.slice P p pc) ps) (h2 : SlcQ w (.slice Q q qc) os) (hn : m ≤ 4194304) (h3 : Pairs w w.heap.size L m cs) (O : Out) (hO : outW s l c sh zs x rt rq rv ps os ct cq v cs = O) :
    Calls Tryz.prog 8 #[.agg #[.int .i64 s, .int .i64 l, .int .i64 c, .int .i64 sh, .slice A n cap], .int .i64 x, .agg #[.int .i64 rt, .int .i64 rq, .int .i64 rv, .slice P p pc, .slice Q q qc], .agg #[.int .i64 ct, .int .i64 cq], .int .i64 v, .slice L m mc] w (SpR w O.t O.q O.v O.cs O.os O.f) := by
  have G := (((Box.new w 26 #[.int .i64 s, .int .i64 l, .int .i64 c, .int .i64 sh, .slice A n cap]).alloc (.cells #[.int .i64 rt, .int .i64 rq, .int .i64 rv, .slice P p pc, .slice Q q qc] 32)).alloc (.cells #[.int .i64 ct, .int .i64 cq] 28)).alloc (.cells #[.int .i64 0, .int .i64 0, .int .i64 0, .slice none 0 0, .slice none 0 0] 32)
  have D := ((Box.new (w.alloc (.cells #[.int .i64 s, .int .i64 l, .int .i64 c, .int .i64 sh, .slice A n cap] 26)) 32 #[.int .i64 rt, .int .i64 rq, .int .i64 rv, .slice P p pc, .slice Q q qc]).alloc (.cells #[.int .i64 ct, .int .i64 cq] 28)).alloc (.cells #[.int .i64 0, .int .i64 0, .int .i64 0, .slice none 0 0, .slice none 0 0] 32)
  have T := (Box.new ((w.alloc (.cells #[.int .i64 s, .int .i64 l, .int .i64 c, .int .i64 sh, .slice A n cap] 26)).alloc (.cells #[.int .i64 rt, .int .i64 rq, .int .i64 rv, .slice P p pc, .slice Q q qc] 32)) 28 #[.int .i64 ct, .int .i64 cq]).alloc (.cells #[.int .i64 0, .int .i64 0, .int .i64 0, .slice none 0 0, .slice none 0 0] 32)
  have X := Box.new (((w.alloc (.cells #[.int .i64 s, .int .i64 l, .int .i64 c, .int .i64 sh, .slice A n cap] 26)).alloc (.cells #[.int .i64 rt, .int .i64 rq, .int .i64 rv, .slice P p pc, .slice Q q qc] 32)).alloc (.cells #[.int .i64 ct, .int .i64 cq] 28)) 32 #[.int .i64 0, .int .i64 0, .int .i64 0, .slice none 0 0, .slice none 0 0]
  have E := bel_trans (bel_trans (bel_trans (bel_alloc w (.cells #[.int .i64 s, .int .i64 l, .int .i64 c, .int .i64 sh, .slice A n cap] 26)) (bel_alloc _ (.cells #[.int .i64 rt, .int .i64 rq, .int .i64 rv, .slice P p pc, .slice Q q qc] 32))) (bel_alloc _ (.cells #[.int .i64 ct, .int .i64 cq] 28))) (bel_alloc _ (.cells #[.int .i64 0, .int .i64 0, .int .i64 0, .slice none 0 0, .slice none 0 0] 32))
  simp only [World.size_alloc] at D T X
  have HLP : Hid (ps.length = p) := Lib.hid (slc_pairs h1).1
  have HLQ : Hid (os.length = q) := Lib.hid (slcQ_quads h2).1
  have HR := Lib.hid hr
  have HM := Lib.hid hm
  have H1 := Lib.hid h1
  have H2 := Lib.hid h2
  have H3 := Lib.hid h3
  have HO := Lib.hid hO
  clear hr hm h1 h2 h3 hO
  go_enter Tryz.func8, Tryz.ntmps8
  go_wp2_with fail
  generalize ((((w.alloc _).alloc _).alloc _).alloc _ : World) = w0 at G D T X E ⊢
  rcases hrg : regB s l c sh zs x rt rq rv ps os with _ | _
  · have HO2 : Hid (O = ⟨0, 0, 0, [], [], false⟩) := Lib.hid (by rw [← HO.out]; unfold outW; rw [if_pos hrg])
    have HRG := Lib.hid hrg
    clear hrg HO
    refine (specRegOkB_is HRG.out A n cap P p pc Q q qc w0 HM.out ((HR.out.below E (Nat.le_refl _)).more E.size) (by omega) (by omega) (slc_pairs (H1.out.later E)) (slcQ_quads (H2.out.later E))).mono ?_
    rintro e w1 ⟨rfl, hb1⟩
    have E1 := bel_trans E hb1
    have X1 := X.later hb1 X.lt
    have HP := Lib.hid (spr_put (w := w) (wr := w1) (R := w.heap.size + 1 + 1 + 1) (rt := 0) (rq := 0) (rv := 0) (A := none) (n := 0) (c := 0) (A' := none) (n' := 0) (c' := 0) (ps := []) (os := []) (f := false) E1 (by omega) ⟨rfl, fun h => absurd h (by omega)⟩ (quads_nil _ _ _) (fun _ _ e => by cases e) (fun _ _ e => by cases e))
    obtain ⟨x0, x1, x2, x3, x4⟩ := X1.five
    have fx := X1.frozen
    clear G D T X X1 E E1 hb1
    go_wp2
    exact bodyPost_ret (v := .tuple #[.agg #[.int .i64 0, .int .i64 0, .int .i64 0, .slice none 0 0, .slice none 0 0], .bool false]) (by simp [results, Tryz.results8, go_sem, x0, x1, x2, x3, x4]) rfl (by rw [HO2.out]; exact HP.out _ _ _ _ _)
  have HRG := Lib.hid hrg
  clear hrg
  refine (specRegOkB_is HRG.out A n cap P p pc Q q qc w0 HM.out ((HR.out.below E (Nat.le_refl _)).more E.size) (by omega) (by omega) (slc_pairs (H1.out.later E)) (slcQ_quads (H2.out.later E))).mono ?_
  rintro e w1 ⟨rfl, hb1⟩
  replace G := G.later hb1 G.lt
  replace D := D.later hb1 D.lt
  replace T := T.later hb1 T.lt
  replace X := X.later hb1 X.lt
  replace E := bel_trans E hb1
  clear hb1
  have hX1 := X.lt
  obtain ⟨g0, g1, g2, g3, g4⟩ := G.five
  obtain ⟨d0, d1, d2, d3, d4⟩ := D.five
  obtain ⟨t0, t1⟩ := T.two
  have hw : Calls Tryz.prog 42 #[.agg #[.int .i64 s, .int .i64 l, .int .i64 c, .int .i64 sh, .slice A n cap], .int .i64 x, .agg #[.int .i64 rt, .int .i64 rq, .int .i64 rv, .slice P p pc, .slice Q q qc], .agg #[.int .i64 ct, .int .i64 cq], .int .i64 v, .slice L m mc] w1 (SpR w1 O.t O.q O.v O.cs O.os O.f) := by
    rcases hwr : wrtB s l c sh zs x ct cq v cs with _ | _
    · have e : O = ⟨rt, rq, rv, ps, os, false⟩ := by rw [← HO.out]; unfold outW; rw [if_neg (by rw [HRG.out]; simp), if_pos hwr]
      rw [e]
      exact l7Write_no s l c sh A n cap zs x rt rq rv P p pc Q q qc ct cq v L m mc ps os cs w1 HM.out ((HR.out.below E (Nat.le_refl _)).more E.size) (by rw [HLP.out]; exact hp) (by rw [HLQ.out]; exact hq) (H1.out.later E) (H2.out.later E) hn (H3.out.later E) hwr
    · have hcp := cmp_pos (wrt_parts hwr).1 (reg_stamp HRG.out)
      refine (l7Write_yes s l c sh A n cap zs x rt rq rv P p pc Q q qc ct cq v L m mc ps os cs w1 HM.out ((HR.out.below E (Nat.le_refl _)).more E.size) (by rw [HLP.out]; exact hp) (by rw [HLQ.out]; exact hq) (H1.out.later E) (H2.out.later E) hn (H3.out.later E) hwr).mono ?_
      rintro e w2 (⟨hc, h⟩ | ⟨hc, h⟩)
      · have e : O = ⟨rt, rq, rv, ps, os, true⟩ := by rw [← HO.out]; unfold outW; rw [if_neg (by rw [HRG.out]; simp), if_neg (by rw [hwr]; simp), if_neg (fun h => hc (hcp.2 h))]
        rw [e]
        exact h
      · have e : O = ⟨ct, cq, v, goodP (rB s l c sh zs 1 x ct cq v) cs, os, true⟩ := by rw [← HO.out]; unfold outW; rw [if_neg (by rw [HRG.out]; simp), if_neg (by rw [hwr]; simp), if_pos (hcp.1 hc)]
        rw [e]
        exact h
  replace hw := Lib.hid hw
  go_wp2_with fail
  refine hw.out.mono ?_
  rintro e w2 ⟨A5, n5, c5, A6, n6, c6, rfl, hP, hQ, hA, hA', hb2⟩
  have E2 := bel_trans E hb2
  have X2 := X.later hb2 X.lt
  obtain ⟨x0, x1, x2, x3, x4⟩ := X2.five
  have fx := X2.frozen
  have HP := Lib.hid (spr_put (R := w.heap.size + 1 + 1 + 1) (rt := O.t) (rq := O.q) (rv := O.v) (c := c5) (c' := c6) (f := O.f) E2 (by omega) hP hQ (fun b o e => ⟨by have := hA b o e; omega, by have := hA b o e; omega⟩) (fun b o e => ⟨by have := hA' b o e; omega, by have := hA' b o e; omega⟩))
  clear G D T X X2 E E2 hb2 hP hQ hA hA' g0 g1 g2 g3 g4 d0 d1 d2 d3 d4 t0 t1 hw
  obtain ⟨Ot, Oq, Ov, Oc, Oo, Of⟩ := O
  go_wp2
  exact bodyPost_ret (v := .tuple #[.agg #[.int .i64 Ot, .int .i64 Oq, .int .i64 Ov, .slice A5 n5 c5, .slice A6 n6 c6], .bool Of]) (by simp [results, Tryz.results8, go_sem, x0, x1, x2, x3, x4]) rfl (HP.out _ _ _ _ _)

end Go.Proofs.YtghdnokjgmmgiaaGreat

/- What is written again changes nothing; what is written is never older; mathematics alone; no conditions. -/
namespace Go.Proofs.YtghdnokjgmmgiaaGreat
open Go.RowKit

theorem puts_mem7 {l : List (Int × Int)} {p : Int × Int} (h : p ∈ puts l) : p ∈ l := by
  have : p ∈ of p.1 (puts l) := mem_of.2 ⟨h, rfl⟩
  rw [puts_of] at this
  exact (mem_of.1 (List.mem_of_mem_take this)).1
theorem puts_ssrt7 {J : List (Int × Int)} (h : SSrt J) : puts J = J := by
  refine same_eq (puts_srt _).srt h.srt fun k => ?_
  rw [puts_of, List.take_of_length_le (ssrt_of h k)]
theorem goodP_twice (R : Int × Int → Bool) (ps : List (Int × Int)) : goodP R (goodP R ps) = goodP R ps := by
  have hf : (goodP R ps).filter R = goodP R ps := by
    rw [List.filter_eq_self]
    intro p hp
    have := puts_mem7 hp
    simpa using (List.mem_filter.1 this).2
  show puts ((goodP R ps).filter R) = goodP R ps
  rw [hf]
  exact puts_ssrt7 (puts_srt _)
theorem cer_left {s l c sh : Int} {zs : List Int} {ck ch ct cq cv : Int} {ps : List (Int × Int)} (h : cerB s l c sh zs ck ch ct cq cv ps = true) :
    cerB s l c sh zs ck ch ct cq cv (goodP (rB s l c sh zs ck ch ct cq cv) ps) = true := by
  simp only [cerB, Bool.and_eq_true, decide_eq_true_eq] at h ⊢
  obtain ⟨⟨hok, h20⟩, hq⟩ := h
  have hle := goodP_le (rB s l c sh zs ck ch ct cq cv) ps
  unfold cntN at hq ⊢
  rw [goodP_twice]
  exact ⟨⟨hok, by omega⟩, hq⟩
theorem cmp_self {a b : Int} (h : stB a b = true) : cmpN a b a b = 0 := by
  rcases cmp_cases a b a b with h' | ⟨_, _, h'⟩ | ⟨h', _⟩ | ⟨_, _, h'⟩
  · rw [cmpN_yes h h] at h'
    have g1 := sgn_bd a a
    have g2 := sgn_bd b b
    unfold orN at h'
    split at h' <;> omega
  · rcases h' with h' | h' <;> exact absurd rfl h'
  · exact h'
  · rcases h' with h' | h' <;> exact absurd rfl h'

/-- What is written is right, is newer or the same, and writes to itself. -/
theorem outW_again {s l c sh : Int} {zs : List Int} {x rt rq rv : Int} {ps : List (Int × Int)} {os : List Opn} {ct cq v : Int} {cs : List (Int × Int)} {O : Out} (hr : regB s l c sh zs x rt rq rv ps os = true) (hw : wrtB s l c sh zs x ct cq v cs = true) (hO : outW s l c sh zs x rt rq rv ps os ct cq v cs = O) :
    O.f = true ∧ O.os = os ∧ regB s l c sh zs x O.t O.q O.v O.cs O.os = true ∧ outW s l c sh zs x O.t O.q O.v O.cs O.os ct cq v cs = ⟨O.t, O.q, O.v, O.cs, O.os, true⟩ ∧ (cmpN O.t O.q rt rq = 0 ∨ cmpN O.t O.q rt rq = 1) ∧ (cmpN O.t O.q ct cq = 0 ∨ cmpN O.t O.q ct cq = 1) ∧ O.cs.length ≤ ps.length + cs.length := by
  have hrs := reg_stamp hr
  obtain ⟨hcs, _, hnz, hpro⟩ := wrt_parts hw
  unfold outW at hO
  rw [if_neg (by rw [hr]; simp), if_neg (by rw [hw]; simp)] at hO
  by_cases hc : cmpN ct cq rt rq = 1
  · rw [if_pos hc] at hO
    subst hO
    have hcer : cerB s l c sh zs 1 x ct cq v cs = true := by
      simp only [proB, Bool.and_eq_true, Bool.or_eq_true, decide_eq_true_eq] at hpro
      rcases hpro.2 with h | h
      · exact absurd h.1 hnz
      · exact h
    have hreg : regB s l c sh zs x ct cq v (goodP (rB s l c sh zs 1 x ct cq v) cs) os = true := by
      simp only [regB, Bool.and_eq_true] at hr ⊢
      refine ⟨?_, hr.2⟩
      simp only [lefB, Bool.and_eq_true, decide_eq_true_eq]
      refine ⟨?_, ?_⟩
      · simp only [proB, Bool.and_eq_true, Bool.or_eq_true] at hpro ⊢
        exact ⟨hpro.1, .inr (cer_left hcer)⟩
      · unfold lefS
        rw [if_neg hnz, goodP_twice]
    refine ⟨rfl, rfl, hreg, ?_, .inr hc, .inl (cmp_self hcs), ?_⟩
    · show outW s l c sh zs x ct cq v (goodP (rB s l c sh zs 1 x ct cq v) cs) os ct cq v cs = _
      unfold outW
      rw [if_neg (by rw [hreg]; simp), if_neg (by rw [hw]; simp), if_neg (by rw [cmp_self hcs]; omega)]
    · show (goodP (rB s l c sh zs 1 x ct cq v) cs).length ≤ _
      have := goodP_le (rB s l c sh zs 1 x ct cq v) cs
      omega
  · rw [if_neg hc] at hO
    subst hO
    refine ⟨rfl, rfl, hr, ?_, .inl (cmp_self hrs), ?_, by simp⟩
    · show outW s l c sh zs x rt rq rv ps os ct cq v cs = _
      unfold outW
      rw [if_neg (by rw [hr]; simp), if_neg (by rw [hw]; simp), if_neg hc]
    · show cmpN rt rq ct cq = 0 ∨ cmpN rt rq ct cq = 1
      rcases cmp_cases ct cq rt rq with h | ⟨_, h, _⟩ | ⟨h, h1, h2⟩ | ⟨h, _⟩
      · rw [cmpN_yes hcs hrs] at h
        have g1 := sgn_bd ct rt
        have g2 := sgn_bd cq rq
        unfold orN at h
        split at h <;> omega
      · exact .inr h
      · subst h1 h2
        exact .inl (cmp_self hrs)
      · exact absurd h hc
/-- What is not written leaves the shelf as it is. -/
theorem outW_not {s l c sh : Int} {zs : List Int} {x rt rq rv : Int} {ps : List (Int × Int)} {os : List Opn} {ct cq v : Int} {cs : List (Int × Int)} (hr : regB s l c sh zs x rt rq rv ps os = true) (hw : wrtB s l c sh zs x ct cq v cs = false) : outW s l c sh zs x rt rq rv ps os ct cq v cs = ⟨rt, rq, rv, ps, os, false⟩ := by
  unfold outW
  rw [if_neg (by rw [hr]; simp), if_pos hw]
theorem outW_none {s l c sh : Int} {zs : List Int} {x rt rq rv : Int} {ps : List (Int × Int)} {os : List Opn} {ct cq v : Int} {cs : List (Int × Int)} (hr : regB s l c sh zs x rt rq rv ps os = false) : outW s l c sh zs x rt rq rv ps os ct cq v cs = ⟨0, 0, 0, [], [], false⟩ := by
  unfold outW
  rw [if_pos hr]
/-- What is answered is no longer than what came in. -/
theorem outW_len {s l c sh : Int} {zs : List Int} {x rt rq rv : Int} {ps : List (Int × Int)} {os : List Opn} {ct cq v : Int} {cs : List (Int × Int)} {O : Out} (hO : outW s l c sh zs x rt rq rv ps os ct cq v cs = O) : O.cs.length ≤ ps.length + cs.length ∧ O.os.length ≤ os.length := by
  subst hO
  unfold outW
  split
  · simp
  split
  · simp
  split
  · have := goodP_le (rB s l c sh zs 1 x ct cq v) cs
    show (goodP (rB s l c sh zs 1 x ct cq v) cs).length ≤ _ ∧ _
    exact ⟨by omega, Nat.le_refl _⟩
  · simp

end Go.Proofs.YtghdnokjgmmgiaaGreat

/- FnWritten: what is written on a shelf is never older, and what is ready stays ready: the law's walk; conditions: the bytes can be read (written by written_law.py). -/
namespace Go.Proofs.YtghdnokjgmmgiaaGreat
open Go.RowKit Go.Deep

theorem writtenF_is (s l c sh : Int) (A : Option Addr) (n cap : Nat) (zs : List Int) (x rt rq rv : Int) (P : Option Addr) (p pc : Nat) (Q : Option Addr) (q qc : Nat) (ct cq v : Int) (L : Option Addr) (m mc : Nat) (ps : List (Int × Int)) (os : List Opn) (cs : List (Int × Int)) (w : World) (hm : n ≤ maxLen) (hr : Row w w.heap.size A n zs) (hp : p ≤ 2000000) (hq : q ≤ 2000000) (h1 : Slc w (.slice P p pc) ps) (h2 : SlcQ w (.slice Q q qc) os) (hn : m ≤ 4194304) (h3 : Pairs w w.heap.size L m cs) {ot oq ov : Int} {ocs : List (Int × Int)} {oos : List Opn} {f : Bool} (hO : outW s l c sh zs x rt rq rv ps os ct cq v cs = ⟨ot, oq, ov, ocs, oos, f⟩) :
    Calls Tryz.prog 7 #[.agg #[.int .i64 s, .int .i64 l, .int .i64 c, .int .i64 sh, .slice A n cap], .int .i64 x, .agg #[.int .i64 rt, .int .i64 rq, .int .i64 rv, .slice P p pc, .slice Q q qc], .agg #[.int .i64 ct, .int .i64 cq], .int .i64 v, .slice L m mc] w fun e w' => ∃ (A6 : Option Addr) (c6 : Nat) (A7 : Option Addr) (c7 : Nat), e = .returned (.tuple #[.agg #[.int .i64 ot, .int .i64 oq, .int .i64 ov, .slice A6 ocs.length c6, .slice A7 oos.length c7], .bool f]) ∧ Slc w' (.slice A6 ocs.length c6) ocs ∧ SlcQ w' (.slice A7 oos.length c7) oos ∧ Below w.heap.size w w' := by
  refine (written_is s l c sh A n cap zs x rt rq rv P p pc Q q qc ct cq v L m mc ps os cs w hm hr hp hq h1 h2 hn h3).mono ?_
  rintro e w' ⟨B, A6, n6, c6, A7, n7, c7, _, _, rfl, hP, hQ, hb⟩
  rw [hO] at hP hQ ⊢
  have e1 := (slc_pairs hP.slc).1
  have e2 := (slcQ_quads hQ.slc).1
  have hP := hP.slc
  have hQ := hQ.slc
  simp only at e1 e2 hP hQ
  subst e1 e2
  exact ⟨A6, c6, A7, c7, rfl, hP, hQ, hb⟩
theorem specWrittenF_is (s l c sh : Int) (A : Option Addr) (n cap : Nat) (zs : List Int) (x rt rq rv : Int) (P : Option Addr) (p pc : Nat) (Q : Option Addr) (q qc : Nat) (ct cq v : Int) (L : Option Addr) (m mc : Nat) (ps : List (Int × Int)) (os : List Opn) (cs : List (Int × Int)) (w : World) (hm : n ≤ maxLen) (hr : Row w w.heap.size A n zs) (hp : p ≤ 2000000) (hq : q ≤ 2000000) (h1 : Slc w (.slice P p pc) ps) (h2 : SlcQ w (.slice Q q qc) os) (hn : m ≤ 4194304) (h3 : Pairs w w.heap.size L m cs) {ot oq ov : Int} {ocs : List (Int × Int)} {oos : List Opn} {f : Bool} (hO : outW s l c sh zs x rt rq rv ps os ct cq v cs = ⟨ot, oq, ov, ocs, oos, f⟩) :
    Calls Tryz.prog 8 #[.agg #[.int .i64 s, .int .i64 l, .int .i64 c, .int .i64 sh, .slice A n cap], .int .i64 x, .agg #[.int .i64 rt, .int .i64 rq, .int .i64 rv, .slice P p pc, .slice Q q qc], .agg #[.int .i64 ct, .int .i64 cq], .int .i64 v, .slice L m mc] w fun e w' => ∃ (A8 : Option Addr) (c8 : Nat) (A9 : Option Addr) (c9 : Nat), e = .returned (.tuple #[.agg #[.int .i64 ot, .int .i64 oq, .int .i64 ov, .slice A8 ocs.length c8, .slice A9 oos.length c9], .bool f]) ∧ Pairs w' w'.heap.size A8 ocs.length ocs ∧ Quads w' w'.heap.size A9 oos.length oos ∧ Below w.heap.size w w' := by
  refine (specWritten_is s l c sh A n cap zs x rt rq rv P p pc Q q qc ct cq v L m mc ps os cs w hm hr hp hq h1 h2 hn h3 _ hO).mono ?_
  rintro e w' ⟨A6, n6, c6, A7, n7, c7, rfl, hP, hQ, _, _, hb⟩
  have e1 := hP.1
  have e2 := hQ.1
  simp only at e1 e2 hP hQ
  subst e1 e2
  exact ⟨A6, c6, A7, c7, rfl, hP, hQ, hb⟩
theorem cmp_as {a b c d N : Int} (h : cmpN a b c d = N) (w : World) : Calls Tryz.prog 12 #[.agg #[.int .i64 a, .int .i64 b], .agg #[.int .i64 c, .int .i64 d]] w fun e w' => e = .returned (.int .i64 N) ∧ Below w.heap.size w w' := h ▸ cmpStamp_any a b c d w

/-- What the law keeps of what was drawn. -/
structure WL (wr : World) (G R T : Nat) (s l c sh : Int) (q m cap' : Nat) (zs : List Int) (rt rq rv : Int) (A3 : Option Addr) (c3 : Nat) (A4 : Option Addr) (c4 : Nat) (ps : List (Int × Int)) (os : List Opn) (ct cq : Int) (A5 : Option Addr) (cs : List (Int × Int)) : Prop where
  gr : Box wr G 26 #[.int .i64 s, .int .i64 l, .int .i64 c, .int .i64 sh, .slice (some ⟨q, 0, none⟩) m cap']
  rr : Box wr R 32 #[.int .i64 rt, .int .i64 rq, .int .i64 rv, .slice A3 ps.length c3, .slice A4 os.length c4]
  sr : Box wr T 28 #[.int .i64 ct, .int .i64 cq]
  row : Row wr wr.heap.size (some ⟨q, 0, none⟩) m zs
  P : Slc wr (.slice A3 ps.length c3) ps
  Q : SlcQ wr (.slice A4 os.length c4) os
  L : Pairs wr wr.heap.size A5 cs.length cs
section
variable {wr w' : World} {G R T : Nat} {s l c sh : Int} {q m cap' : Nat} {zs : List Int} {rt rq rv : Int} {A3 : Option Addr} {c3 : Nat} {A4 : Option Addr} {c4 : Nat} {ps : List (Int × Int)} {os : List Opn} {ct cq : Int} {A5 : Option Addr} {cs : List (Int × Int)}
theorem WL.later (h : WL wr G R T s l c sh q m cap' zs rt rq rv A3 c3 A4 c4 ps os ct cq A5 cs) (hb : Below wr.heap.size wr w') : WL w' G R T s l c sh q m cap' zs rt rq rv A3 c3 A4 c4 ps os ct cq A5 cs :=
  ⟨h.gr.later hb h.gr.lt, h.rr.later hb h.rr.lt, h.sr.later hb h.sr.lt, (h.row.below hb (Nat.le_refl _)).more hb.size, h.P.later hb, h.Q.later hb, h.L.later hb⟩
theorem WL.twenty {X Y : Nat} {t1 t2 : TypeId} {x0 x1 x2 x3 x4 y0 y1 y2 y3 y4 : Value} (h : WL wr G R T s l c sh q m cap' zs rt rq rv A3 c3 A4 c4 ps os ct cq A5 cs) (h3 : Box wr X t1 #[x0, x1, x2, x3, x4]) (h4 : Box wr Y t2 #[y0, y1, y2, y3, y4]) :
    (wr.cell? ⟨G, 0, none⟩ = some (.int .i64 s) ∧ wr.cell? ⟨G, 1, none⟩ = some (.int .i64 l) ∧ wr.cell? ⟨G, 2, none⟩ = some (.int .i64 c) ∧ wr.cell? ⟨G, 3, none⟩ = some (.int .i64 sh) ∧ wr.cell? ⟨G, 4, none⟩ = some (.slice (some ⟨q, 0, none⟩) m cap')) ∧ (wr.cell? ⟨R, 0, none⟩ = some (.int .i64 rt) ∧ wr.cell? ⟨R, 1, none⟩ = some (.int .i64 rq) ∧ wr.cell? ⟨R, 2, none⟩ = some (.int .i64 rv) ∧ wr.cell? ⟨R, 3, none⟩ = some (.slice A3 ps.length c3) ∧ wr.cell? ⟨R, 4, none⟩ = some (.slice A4 os.length c4)) ∧ (wr.cell? ⟨X, 0, none⟩ = some (x0) ∧ wr.cell? ⟨X, 1, none⟩ = some (x1) ∧ wr.cell? ⟨X, 2, none⟩ = some (x2) ∧ wr.cell? ⟨X, 3, none⟩ = some (x3) ∧ wr.cell? ⟨X, 4, none⟩ = some (x4)) ∧ (wr.cell? ⟨Y, 0, none⟩ = some (y0) ∧ wr.cell? ⟨Y, 1, none⟩ = some (y1) ∧ wr.cell? ⟨Y, 2, none⟩ = some (y2) ∧ wr.cell? ⟨Y, 3, none⟩ = some (y3) ∧ wr.cell? ⟨Y, 4, none⟩ = some (y4)) := ⟨h.gr.five, h.rr.five, h3.five, h4.five⟩
end

theorem writtenLaw_big (A : Option Addr) (n cap : Nat) (w : World) (hm : n ≤ maxLen) (hb : 4096 < n) :
    Calls Tryz.prog 3 #[.slice A n cap] w fun e w' => e = .returned (.bool true) ∧ Below w.heap.size w w' := by
  have hd : decide (4096 < n) = true := by simpa using hb
  go_enter Tryz.func3, Tryz.ntmps3
  go_wp2_with (go_at_call 5; refine (big_any A n cap _ hm).mono ?_; rintro e w' ⟨rfl, rfl⟩)
  go_ret
  exact ⟨rfl, Below.refl _ _⟩

set_option maxRecDepth 100000 in
set_option maxHeartbeats 8000000 in
theorem writtenLaw_small (A : Option Addr) (n cap : Nat) (w : World) (hn : n ≤ 4096) (hB : Bytes w w.heap.size A n) :
    Calls Tryz.prog 3 #[.slice A n cap] w fun e w' => e = .returned (.bool true) ∧ Below w.heap.size w w' := by
  have hd : decide (4096 < n) = false := by simpa using hn
  have HM : Hid (n ≤ maxLen) := by show n ≤ maxLen; unfold maxLen; omega
  have HB := Lib.hid hB
  clear hB
  go_enter Tryz.func3, Tryz.ntmps3
  go_wp2_with fail
  refine (big_any A n cap _ HM.out).mono ?_
  rintro e w' ⟨rfl, rfl⟩
  go_wp2_with fail
  refine (drawWritten_any A n cap w hn HB.out).mono ?_
  rintro e w1 ⟨s, l, c, sh, q, m, cap', zs, x, rt, rq, rv, A3, c3, A4, c4, ps, os, ct, cq, v, A5, c5, cs, rfl, hm, hps, hos, hcs, hrow, SP, SO, SL, E1⟩
  have HM' : Hid (m ≤ maxLen) := by show m ≤ maxLen; unfold maxLen; omega
  have hb1 := bel_trans (bel_trans (bel_alloc w1 (.cells #[.int .i64 s, .int .i64 l, .int .i64 c, .int .i64 sh, .slice (some ⟨q, 0, none⟩) m cap'] 26)) (bel_alloc _ (.cells #[.int .i64 rt, .int .i64 rq, .int .i64 rv, .slice A3 ps.length c3, .slice A4 os.length c4] 32))) (bel_alloc _ (.cells #[.int .i64 ct, .int .i64 cq] 28))
  have B1 := ((Box.new w1 26 #[.int .i64 s, .int .i64 l, .int .i64 c, .int .i64 sh, .slice (some ⟨q, 0, none⟩) m cap']).alloc (.cells #[.int .i64 rt, .int .i64 rq, .int .i64 rv, .slice A3 ps.length c3, .slice A4 os.length c4] 32)).alloc (.cells #[.int .i64 ct, .int .i64 cq] 28)
  have B2 := (Box.new (w1.alloc (.cells #[.int .i64 s, .int .i64 l, .int .i64 c, .int .i64 sh, .slice (some ⟨q, 0, none⟩) m cap'] 26)) 32 #[.int .i64 rt, .int .i64 rq, .int .i64 rv, .slice A3 ps.length c3, .slice A4 os.length c4]).alloc (.cells #[.int .i64 ct, .int .i64 cq] 28)
  have B3 := Box.new ((w1.alloc (.cells #[.int .i64 s, .int .i64 l, .int .i64 c, .int .i64 sh, .slice (some ⟨q, 0, none⟩) m cap'] 26)).alloc (.cells #[.int .i64 rt, .int .i64 rq, .int .i64 rv, .slice A3 ps.length c3, .slice A4 os.length c4] 32)) 28 #[.int .i64 ct, .int .i64 cq]
  simp only [World.size_alloc] at B2 B3
  have K2 : WL (((w1.alloc (.cells #[.int .i64 s, .int .i64 l, .int .i64 c, .int .i64 sh, .slice (some ⟨q, 0, none⟩) m cap'] 26)).alloc (.cells #[.int .i64 rt, .int .i64 rq, .int .i64 rv, .slice A3 ps.length c3, .slice A4 os.length c4] 32)).alloc (.cells #[.int .i64 ct, .int .i64 cq] 28)) w1.heap.size (w1.heap.size + 1) (w1.heap.size + 1 + 1) s l c sh q m cap' zs rt rq rv A3 c3 A4 c4 ps os ct cq A5 cs :=
    ⟨B1, B2, B3, (hrow.below hb1 (Nat.le_refl _)).more hb1.size, SP.later hb1, SO.later hb1, (slc_pairs SL).later hb1⟩
  have E2 := bel_trans E1 hb1
  obtain ⟨d0, d1, d2, d3, d4⟩ := B1.five
  obtain ⟨r0, r1, r2, r3, r4⟩ := B2.five
  obtain ⟨s0, s1⟩ := B3.two
  clear E1 hb1 B1 B2 B3 SP SO SL hrow
  go_wp2_with fail
  generalize (((w1.alloc _).alloc _).alloc _ : World) = w2 at E2 K2 d0 d1 d2 d3 d4 r0 r1 r2 r3 r4 s0 s1 ⊢
  obtain ⟨R, hR⟩ : ∃ R, R = w1.heap.size + 1 := ⟨_, rfl⟩
  obtain ⟨S, hS⟩ : ∃ S, S = w1.heap.size + 1 + 1 := ⟨_, rfl⟩
  rw [← hS, ← hR] at K2
  rw [← hS] at s0 s1 ⊢
  rw [← hR] at r0 r1 r2 r3 r4 ⊢
  clear hR hS
  generalize w1.heap.size = G at K2 d0 d1 d2 d3 d4 ⊢
  obtain ⟨⟨ot, oq, ov, ocs, oos, f⟩, hO⟩ : ∃ O, outW s l c sh zs x rt rq rv ps os ct cq v cs = O := ⟨_, rfl⟩
  have hlen := outW_len hO
  simp only at hlen
  obtain ⟨hl1, hl2⟩ := hlen
  have HO := Lib.hid hO
  clear hO
  refine (writtenF_is s l c sh (some ⟨q, 0, none⟩) m cap' zs x rt rq rv A3 _ c3 A4 _ c4 ct cq v A5 _ c5 ps os cs w2 HM'.out K2.row (by omega) (by omega) K2.P K2.Q (by omega) K2.L HO.out).mono ?_
  rintro e w3 ⟨A6, c6, A7, c7, rfl, XP, XQ, hb3⟩
  have hb4 := bel_trans hb3 (bel_alloc w3 (.cells #[.int .i64 ot, .int .i64 oq, .int .i64 ov, .slice A6 ocs.length c6, .slice A7 oos.length c7] 32))
  have X3 := Box.new w3 32 #[.int .i64 ot, .int .i64 oq, .int .i64 ov, .slice A6 ocs.length c6, .slice A7 oos.length c7]
  have K3 := K2.later hb4
  have E3 := bel_trans E2 hb4
  replace XP := XP.later (bel_alloc w3 (.cells #[.int .i64 ot, .int .i64 oq, .int .i64 ov, .slice A6 ocs.length c6, .slice A7 oos.length c7] 32))
  replace XQ := XQ.later (bel_alloc w3 (.cells #[.int .i64 ot, .int .i64 oq, .int .i64 ov, .slice A6 ocs.length c6, .slice A7 oos.length c7] 32))
  clear hb3 hb4 E2 K2 d0 d1 d2 d3 d4 r0 r1 r2 r3 r4 s0 s1
  obtain ⟨d0, d1, d2, d3, d4⟩ := K3.gr.five
  obtain ⟨r0, r1, r2, r3, r4⟩ := K3.rr.five
  obtain ⟨s0, s1⟩ := K3.sr.two
  go_wp2_with fail
  generalize (w3.alloc _ : World) = w4 at X3 K3 E3 XP XQ d0 d1 d2 d3 d4 r0 r1 r2 r3 r4 s0 s1 ⊢
  generalize w3.heap.size = X at X3 ⊢
  refine (specWrittenF_is s l c sh (some ⟨q, 0, none⟩) m cap' zs x rt rq rv A3 _ c3 A4 _ c4 ct cq v A5 _ c5 ps os cs w4 HM'.out K3.row (by omega) (by omega) K3.P K3.Q (by omega) K3.L HO.out).mono ?_
  rintro e w5 ⟨A8, c8, A9, c9, rfl, YP, YQ, hb5⟩
  have hb6 := bel_trans hb5 (bel_alloc w5 (.cells #[.int .i64 ot, .int .i64 oq, .int .i64 ov, .slice A8 ocs.length c8, .slice A9 oos.length c9] 32))
  have Y5 := Box.new w5 32 #[.int .i64 ot, .int .i64 oq, .int .i64 ov, .slice A8 ocs.length c8, .slice A9 oos.length c9]
  have K5 := K3.later hb6
  have E5 := bel_trans E3 hb6
  have X5 := X3.later hb6 X3.lt
  replace XP := XP.later hb6
  replace XQ := XQ.later hb6
  replace YP := YP.later (bel_alloc w5 (.cells #[.int .i64 ot, .int .i64 oq, .int .i64 ov, .slice A8 ocs.length c8, .slice A9 oos.length c9] 32))
  replace YQ := YQ.later (bel_alloc w5 (.cells #[.int .i64 ot, .int .i64 oq, .int .i64 ov, .slice A8 ocs.length c8, .slice A9 oos.length c9] 32))
  clear hb5 hb6 E3 K3 X3 d0 d1 d2 d3 d4 r0 r1 r2 r3 r4 s0 s1
  go_upto_region 6 with fail
  generalize (w5.alloc _ : World) = w6 at Y5 K5 E5 X5 XP XQ YP YQ ⊢
  generalize w5.heap.size = Y at Y5 ⊢
  obtain ⟨b, hrg⟩ : ∃ b, regB s l c sh zs x rt rq rv ps os = b := ⟨_, rfl⟩
  have HRG := Lib.hid hrg
  clear hrg
  have hff : (f != f) = false := by simp
  have hbb : (b != b) = false := by simp
  go_cut [65] (fun v wr => v = .bool false ∧ Below w6.heap.size w6 wr)
  case first => as_aux_lemma =>
    have J6 := K5.twenty X5 Y5
    obtain ⟨⟨d0, d1, d2, d3, d4⟩, ⟨r0, r1, r2, r3, r4⟩, ⟨x0, x1, x2, x3, x4⟩, ⟨y0, y1, y2, y3, y4⟩⟩ := J6
    go_wp2_with fail
    go_region_held3 (fun w' => (w'.cell? ⟨G, 0, none⟩ = some (.int .i64 s) ∧ w'.cell? ⟨G, 1, none⟩ = some (.int .i64 l) ∧ w'.cell? ⟨G, 2, none⟩ = some (.int .i64 c) ∧ w'.cell? ⟨G, 3, none⟩ = some (.int .i64 sh) ∧ w'.cell? ⟨G, 4, none⟩ = some (.slice (some ⟨q, 0, none⟩) m cap')) ∧ (w'.cell? ⟨R, 0, none⟩ = some (.int .i64 rt) ∧ w'.cell? ⟨R, 1, none⟩ = some (.int .i64 rq) ∧ w'.cell? ⟨R, 2, none⟩ = some (.int .i64 rv) ∧ w'.cell? ⟨R, 3, none⟩ = some (.slice A3 ps.length c3) ∧ w'.cell? ⟨R, 4, none⟩ = some (.slice A4 os.length c4)) ∧ (w'.cell? ⟨X, 0, none⟩ = some (.int .i64 ot) ∧ w'.cell? ⟨X, 1, none⟩ = some (.int .i64 oq) ∧ w'.cell? ⟨X, 2, none⟩ = some (.int .i64 ov) ∧ w'.cell? ⟨X, 3, none⟩ = some (.slice A6 ocs.length c6) ∧ w'.cell? ⟨X, 4, none⟩ = some (.slice A7 oos.length c7)) ∧ (w'.cell? ⟨Y, 0, none⟩ = some (.int .i64 ot) ∧ w'.cell? ⟨Y, 1, none⟩ = some (.int .i64 oq) ∧ w'.cell? ⟨Y, 2, none⟩ = some (.int .i64 ov) ∧ w'.cell? ⟨Y, 3, none⟩ = some (.slice A8 ocs.length c8) ∧ w'.cell? ⟨Y, 4, none⟩ = some (.slice A9 oos.length c9)))
      (first | (with_reducible exact J9) | (with_reducible exact J8) | (with_reducible exact J7) | go_keep)
      (first
        | (go_at_call 9; refine (likeReg_is ot oq ov A6 _ c6 A7 _ c7 A8 c8 A9 c9 ocs oos _ (by omega) (by omega) ?_ ?_ ?_ ?_).mono ?_; exact slc_pairs XP; exact slcQ_quads XQ; exact YP; exact YQ; rintro e w7 ⟨rfl, hb7⟩; have F7 := bel_drew' hb7; have K7 := K5.later F7; have J7 := K7.twenty (X5.later F7 X5.lt) (Y5.later F7 Y5.lt))
        | (go_at_call 10; refine (regOkB_is HRG.out (some ⟨q, 0, none⟩) m cap' A3 _ c3 A4 _ c4 w7 HM'.out K7.row (by omega) (by omega) (slc_pairs K7.P) (slcQ_quads K7.Q)).mono ?_; rintro e w8 ⟨rfl, hb8⟩; have F8 := bel_trans F7 hb8; have K8 := K7.later hb8; have J8 := K8.twenty (X5.later F8 X5.lt) (Y5.later F8 Y5.lt))
        | (go_at_call 11; refine (specRegOkB_is HRG.out (some ⟨q, 0, none⟩) m cap' A3 _ c3 A4 _ c4 w8 HM'.out K8.row (by omega) (by omega) (slc_pairs K8.P) (slcQ_quads K8.Q)).mono ?_; rintro e w9 ⟨rfl, hb9⟩; have F9 := bel_trans F8 hb9; have K9 := K8.later hb9; have J9 := K9.twenty (X5.later F9 X5.lt) (Y5.later F9 Y5.lt)))
    go_wp2_with fail
    go_meet
    exact ⟨rfl, F9⟩
  case rest =>
  obtain ⟨rfl, hb7⟩ := hcut
  obtain ⟨w7, rfl⟩ : ∃ w7, w7 = wc := ⟨_, rfl⟩
  have K7 := K5.later hb7
  have X7 := X5.later hb7 X5.lt
  have E7 := bel_trans E5 hb7
  replace XP := XP.later hb7
  replace XQ := XQ.later hb7
  clear K5 X5 E5 YP YQ Y5 hb7 hff hbb
  obtain ⟨d0, d1, d2, d3, d4⟩ := K7.gr.five
  obtain ⟨r0, r1, r2, r3, r4⟩ := K7.rr.five
  go_wp2_with fail
  refine (specRegOkB_is HRG.out (some ⟨q, 0, none⟩) m cap' A3 _ c3 A4 _ c4 w7 HM'.out K7.row (by omega) (by omega) (slc_pairs K7.P) (slcQ_quads K7.Q)).mono ?_
  rintro e w8 ⟨rfl, hb8⟩
  have K8 := K7.later hb8
  have X8 := X7.later hb8 X7.lt
  have E8 := bel_trans E7 hb8
  replace XP := XP.later hb8
  replace XQ := XQ.later hb8
  clear K7 X7 E7 hb8 d0 d1 d2 d3 d4 r0 r1 r2 r3 r4
  obtain ⟨d0, d1, d2, d3, d4⟩ := K8.gr.five
  obtain ⟨r0, r1, r2, r3, r4⟩ := K8.rr.five
  obtain ⟨s0, s1⟩ := K8.sr.two
  obtain ⟨x0, x1, x2, x3, x4⟩ := X8.five
  rcases b with _ | _
  · have e := HO.out.symm.trans (outW_none HRG.out)
    injection e with _ _ _ _ e5 _
    have hl : (oos.length : Int) = 0 := by rw [e5]; rfl
    clear e5 K8 X8 XP XQ
    go_wp2
    go_ret
    exact ⟨rfl, E8⟩
  rcases hwr : wrtB s l c sh zs x ct cq v cs with _ | _
  · have e := HO.out.symm.trans (outW_not HRG.out hwr)
    injection e with e1 e2 e3 e4 e5 e6
    subst e1 e2 e3 e4 e5 e6
    go_wp2_with fail
    refine (likeReg_is ot oq ov A6 _ c6 A7 _ c7 A3 c3 A4 c4 ocs oos w8 (by omega) (by omega) (slc_pairs XP) (slcQ_quads XQ) (slc_pairs K8.P) (slcQ_quads K8.Q)).mono ?_
    rintro e w9 ⟨rfl, hb9⟩
    have E9 := bel_trans E8 hb9
    go_wp2
    go_ret
    exact ⟨rfl, E9⟩
  · obtain ⟨hf, ho, hreg, hO2, hN1, hN2, hcl⟩ := outW_again HRG.out hwr HO.out
    simp only at hf ho hreg hO2 hN1 hN2 hcl
    subst hf ho
    obtain ⟨N1, hN1', hN1p⟩ : ∃ N, cmpN ot oq rt rq = N ∧ 0 ≤ N := ⟨_, rfl, by omega⟩
    obtain ⟨N2, hN2', hN2p⟩ : ∃ N, cmpN ot oq ct cq = N ∧ 0 ≤ N := ⟨_, rfl, by omega⟩
    replace hN1' := Lib.hid hN1'
    replace hN2' := Lib.hid hN2'
    replace hreg := Lib.hid hreg
    replace hO2 := Lib.hid hO2
    replace hwr := Lib.hid hwr
    clear hN1 hN2
    go_wp2_with fail
    refine (writtenF_is s l c sh (some ⟨q, 0, none⟩) m cap' zs x ot oq ov A6 _ c6 A7 _ c7 ct cq v A5 _ c5 ocs _ cs w8 HM'.out K8.row (by omega) (by omega) XP XQ (by omega) K8.L hO2.out).mono ?_
    rintro e w9 ⟨A8, c8, A9, c9, rfl, YP, YQ, hb9⟩
    have hb10 := bel_trans hb9 (bel_alloc w9 (.cells #[.int .i64 ot, .int .i64 oq, .int .i64 ov, .slice A8 ocs.length c8, .slice A9 oos.length c9] 32))
    have Z9 := Box.new w9 32 #[.int .i64 ot, .int .i64 oq, .int .i64 ov, .slice A8 ocs.length c8, .slice A9 oos.length c9]
    have K9 := K8.later hb10
    have X9 := X8.later hb10 X8.lt
    have E9 := bel_trans E8 hb10
    replace XP := XP.later hb10
    replace XQ := XQ.later hb10
    replace YP := YP.later (bel_alloc w9 (.cells #[.int .i64 ot, .int .i64 oq, .int .i64 ov, .slice A8 ocs.length c8, .slice A9 oos.length c9] 32))
    replace YQ := YQ.later (bel_alloc w9 (.cells #[.int .i64 ot, .int .i64 oq, .int .i64 ov, .slice A8 ocs.length c8, .slice A9 oos.length c9] 32))
    clear hb9 hb10 E8 K8 X8 d0 d1 d2 d3 d4 r0 r1 r2 r3 r4 s0 s1 x0 x1 x2 x3 x4
    obtain ⟨x0, x1, x2, x3, x4⟩ := X9.five
    obtain ⟨z0, z1, z2, z3, z4⟩ := Z9.five
    go_wp2_with fail
    generalize (w9.alloc _ : World) = w10 at Z9 K9 E9 X9 XP XQ YP YQ x0 x1 x2 x3 x4 z0 z1 z2 z3 z4 ⊢
    generalize w9.heap.size = Z at Z9 z0 z1 z2 z3 z4 ⊢
    refine (likeReg_is ot oq ov A8 _ c8 A9 _ c9 A6 c6 A7 c7 ocs _ w10 (by omega) (by omega) (slc_pairs YP) (slcQ_quads YQ) (slc_pairs XP) (slcQ_quads XQ)).mono ?_
    rintro e w11 ⟨rfl, hb11⟩
    have K11 := K9.later hb11
    have X11 := X9.later hb11 X9.lt
    have E11 := bel_trans E9 hb11
    replace XP := XP.later hb11
    replace XQ := XQ.later hb11
    clear hb11 E9 K9 X9 Z9 YP YQ x0 x1 x2 x3 x4 z0 z1 z2 z3 z4
    obtain ⟨r0, r1, r2, r3, r4⟩ := K11.rr.five
    obtain ⟨x0, x1, x2, x3, x4⟩ := X11.five
    go_wp2_with fail
    refine (cmp_as hN1'.out w11).mono ?_
    rintro e w12 ⟨rfl, hb12⟩
    have K12 := K11.later hb12
    have X12 := X11.later hb12 X11.lt
    have E12 := bel_trans E11 hb12
    replace XP := XP.later hb12
    replace XQ := XQ.later hb12
    clear hb12 E11 K11 X11 r0 r1 r2 r3 r4 x0 x1 x2 x3 x4
    obtain ⟨s0, s1⟩ := K12.sr.two
    obtain ⟨x0, x1, x2, x3, x4⟩ := X12.five
    go_wp2_with fail
    refine (cmp_as hN2'.out w12).mono ?_
    rintro e w13 ⟨rfl, hb13⟩
    have K13 := K12.later hb13
    have X13 := X12.later hb13 X12.lt
    have E13 := bel_trans E12 hb13
    replace XP := XP.later hb13
    replace XQ := XQ.later hb13
    clear hb13 E12 K12 X12 s0 s1 x0 x1 x2 x3 x4
    obtain ⟨d0, d1, d2, d3, d4⟩ := K13.gr.five
    obtain ⟨r0, r1, r2, r3, r4⟩ := K13.rr.five
    obtain ⟨x0, x1, x2, x3, x4⟩ := X13.five
    go_wp2_with fail
    refine (regOkB_is hreg.out (some ⟨q, 0, none⟩) m cap' A6 _ c6 A7 _ c7 w13 HM'.out K13.row (by omega) (by omega) (slc_pairs XP) (slcQ_quads XQ)).mono ?_
    rintro e w14 ⟨rfl, hb14⟩
    have E14 := bel_trans E13 hb14
    go_wp2
    go_ret
    exact ⟨rfl, E14⟩

end Go.Proofs.YtghdnokjgmmgiaaGreat

namespace Go.Proofs.YtghdnokjgmmgiaaGreat
set_option maxRecDepth 100000
open Go.ChangeShapes Go.WideShapes Go.ChangeAt Go.RowKit
set_option linter.unusedVariables false


namespace fnWrittenF
set_option maxRecDepth 100000 in
theorem lifted (os : Os) (started : os.Started) (H : Type) (enc : TypeId × Value → H) :
    ReturnsInHanded {} Tryz.checked os 3 .any (Rows.fnWrittenSpec.pre6 enc Tryz.prog Tryz.f3 Rows.fnWrittenRow.domain false) (Rows.fnWrittenSpec.post enc Tryz.prog Tryz.f3 false true false false) := by
  refine returnsInHanded_of_change (C := Tryz.checked) ownB started (by kernel_rfl) Tryz.func3
    (ChangeSpec.witness6 (enc := enc) (C := Tryz.checked) false ⟨#[], #[.slice none 0 0], []⟩ 8 (by kernel_rfl) (by kernel_rfl) (by kernel_rfl) (by kernel_rfl)) ?_
  intro W base args ds gs before hval0 hW hcnd _
  have hval : ∀ (j : Nat) t v, Tryz.f3.params[j]? = some t → args[j]? = some v → Value.okWide Tryz.prog W .any base t v := hval0
  have hW' := hW
  obtain ⟨p, q, hA0, hV, rfl, hfz, hnd⟩ := hW
  have hA : DataW.TrodAll enc Tryz.prog W 0 (fun _ => true) true Tryz.f3.params.toList args.toList ds p := hA0
  rw [Tryz.params3] at hA hval
  obtain ⟨v0, vs0, d0, ds0, p0, q0, hargs, rfl, rfl, h0, r0⟩ := trodAll_cons hA
  obtain ⟨rfl, rfl, rfl⟩ := trodAll_nil r0
  obtain rfl : args = #[v0] := by cases args; simp_all
  obtain ⟨rfl, rfl⟩ := trodVars_none hV
  have k0 := h0
  have lt0 : ∀ x ∈ p0, x.block < W.heap.size := by obtain ⟨m, hm⟩ := k0; exact DataW.trod_lt m _ _ _ hm
  obtain ⟨A, n, cap, rfl, hB, hmx⟩ := bytes_read (hval 0 22 v0 rfl rfl) h0
  clear hA0 hval0
  have walk : Calls Tryz.prog 3 #[.slice A n cap] W fun e w' => e = .returned (.bool true) ∧ Below W.heap.size W w' := by
    by_cases hs : n ≤ 4096
    · exact writtenLaw_small A n cap W hs hB
    · exact writtenLaw_big A n cap W hmx (by omega)
  refine walk.mono fun e W' ⟨he, bel⟩ => ?_
  subst he
  exact ⟨_, rfl, _, _, _, [], _, [], hW', trodAll_mk1 (shut_bool Tryz.underlying4 _), (trodAll_cons_mk (Below.trod laidOutBytes (by kernel_rfl) (of_decide_eq_true (by kernel_rfl)) k0 bel lt0) trodAll_mk0), rfl, bel.frame _, fun h => by cases h⟩

theorem proved : Rows.FnWrittenSaid :=
  OpenClaim.holds_of_wide 3 Tryz.f3 rfl rfl rfl rfl rfl rfl rfl ⟨rfl, rfl, rfl, rfl, rfl⟩ rfl rfl rfl rfl rfl (by kernel_rfl) Tryz.func3 (by kernel_rfl)
    (of_decide_eq_true (by kernel_rfl)) (by unfold Func.isWrapper; first | (rw [if_pos (by decide +kernel)]; kernel_rfl) | (rw [if_neg (by decide +kernel)]; exact ⟨rfl, rfl⟩))
    (fun os started H enc _ => lifted os started H enc)
end fnWrittenF

theorem fnWritten_holds : Rows.FnWrittenSaid := fnWrittenF.proved
end Go.Proofs.YtghdnokjgmmgiaaGreat
