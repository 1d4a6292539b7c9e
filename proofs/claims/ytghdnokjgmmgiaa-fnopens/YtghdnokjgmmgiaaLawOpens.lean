/- FnOpens: whatever bytes it is given, the law answers true and leaves them alone; no condition beyond the given row's own. -/
import Derived.Test.YtghdnokjgmmgiaaDrawReg3
import Derived.Test.YtghdnokjgmmgiaaLikeReg
import Derived.Test.YtghdnokjgmmgiaaSpecReg1
import Derived.Test.YtghdnokjgmmgiaaRows
import Derived.Test.YtghdnokjgmmgiaaReadsBytes
import Derived.WalkKit
import Derived.ProofKit
import Derived.OpenShut
import Derived.ShutString
import Derived.ChangeOld
import Derived.Below
import Derived.Carry
import Derived.Laws.Rows

/- The model's l7DrawAny: a group, a shelf's number and a shelf, right or nearly so; its lists one's own. -/
namespace Go.Proofs.Ytghdnokjgmmgiaa
open Go.RowKit Go.Deep

/-- What is drawn: a group, a number, a shelf, and the cursor further on. -/
def DrawnGR (g : Nat) (A : Option Addr) (n cap : Nat) (w : World) (e : Ending) (w' : World) : Prop :=
  ∃ (s l c sh : Int) (q m cap' : Nat) (zs : List Int) (x a b d : Int) (u v : Value) (ps : List (Int × Int)) (os : List Opn), e = .returned (.tuple #[.agg #[.int .i64 s, .int .i64 l, .int .i64 c, .int .i64 sh, .slice (some ⟨q, 0, none⟩) m cap'], .int .i64 x, .agg #[.int .i64 a, .int .i64 b, .int .i64 d, u, v]]) ∧ okB s l c sh zs = true ∧ s ≤ 6 ∧ c ≤ 3 ∧ m ≤ 100 ∧ w.heap.size + 2 ≤ q ∧ Row w' w'.heap.size (some ⟨q, 0, none⟩) m zs ∧ ps.length ≤ 21 ∧ os.length ≤ 7 ∧ w'.ownsRow (w.heap.size + 2) 100 2 u ps.length (flatP ps) ∧ w'.ownsRow (w.heap.size + 2) 31 4 v os.length (flatO os) ∧ Cur w' 95 .i64 g A n cap ∧ w.grownBy w' (some g)

/-- What l7DrawAny keeps. -/
structure RAs (w wr : World) (g : Nat) (A : Option Addr) (n cap : Nat) (U V : Nat) (s l c sh : Int) (q m cap' : Nat) (zs : List Int) (a b d : Int) (u v : Value) (ps : List (Int × Int)) (os : List Opn) : Prop where
  cur : Cur wr 95 .i64 g A n cap
  grw : w.grownBy wr (some g)
  r1 : Box wr w.heap.size 49 #[.int .i64 0, .int .i64 0, .int .i64 0, .int .i64 0, .slice none 0 0]
  r2 : Box wr (w.heap.size + 1) 29 #[.int .i64 0, .int .i64 0, .int .i64 0, .slice none 0 0, .slice none 0 0]
  gr : Box wr U 49 #[.int .i64 s, .int .i64 l, .int .i64 c, .int .i64 sh, .slice (some ⟨q, 0, none⟩) m cap']
  row : Row wr wr.heap.size (some ⟨q, 0, none⟩) m zs
  var : Box wr V 29 #[.int .i64 a, .int .i64 b, .int .i64 d, u, v]
  ou : wr.ownsRow (w.heap.size + 2) 100 2 u ps.length (flatP ps)
  ov : wr.ownsRow (w.heap.size + 2) 31 4 v os.length (flatO os)
  gl : g < w.heap.size
  ql : q < wr.heap.size
  q2 : w.heap.size + 2 ≤ q
  qU : q ≠ U
  qV : q ≠ V
  UV : U ≠ V
  Ul : w.heap.size + 2 ≤ U
  Vl : w.heap.size + 2 ≤ V
  uU : u.ownBlock ≠ some U
  uV : u.ownBlock ≠ some V
  uq : u.ownBlock ≠ some q
  vU : v.ownBlock ≠ some U
  vV : v.ownBlock ≠ some V
  vq : v.ownBlock ≠ some q
  uv : u.ownBlock = none ∨ u.ownBlock ≠ v.ownBlock
theorem own_ne {w : World} {base : Nat} {t : TypeId} {k : Nat} {v : Value} {n : Nat} {xs : List Value} (h : w.ownsRow base t k v n xs) {b : Nat} (hb : b < base) : v.ownBlock ≠ some b := fun e => by have := (h.lt b e).1; omega
section
variable {w wr w' : World} {g : Nat} {A : Option Addr} {n cap : Nat} {U V : Nat} {s l c sh : Int} {q m cap' : Nat} {zs : List Int} {a b d : Int} {u v u' v' : Value} {ps ps' : List (Int × Int)} {os os' : List Opn}
theorem RAs.draw (h : RAs w wr g A n cap U V s l c sh q m cap' zs a b d u v ps os) (hg : wr.grownBy w' (some g)) (hc : Cur w' 95 .i64 g A n cap) : RAs w w' g A n cap U V s l c sh q m cap' zs a b d u v ps os := by
  have h1 := h.gl
  have h2 := h.Ul
  have h3 := h.Vl
  have h4 := h.q2
  exact { h with
    cur := hc
    grw := grown_trans h.grw hg
    r1 := h.r1.kept hg (by intro e; injection e with e; omega)
    r2 := h.r2.kept hg (by intro e; injection e with e; omega)
    gr := h.gr.kept hg (by intro e; injection e with e; omega)
    row := h.row.kept hg (by intro e; injection e with e; omega)
    var := h.var.kept hg (by intro e; injection e with e; omega)
    ou := h.ou.kept hg (.inr (own_ne h.ou (by omega)))
    ov := h.ov.kept hg (.inr (own_ne h.ov (by omega)))
    ql := Nat.lt_of_lt_of_le h.ql hg.size }
/-- A cell of the shelf is written that is no list. -/
theorem RAs.set (h : RAs w wr g A n cap U V s l c sh q m cap' zs a b d u v ps os) (i : Nat) (z : Value) {a' b' d' : Int} (e : (#[.int .i64 a, .int .i64 b, .int .i64 d, u, v] : Array Value).setIfInBounds i z = #[.int .i64 a', .int .i64 b', .int .i64 d', u, v]) : RAs w (wr.setCell ⟨V, i, none⟩ z) g A n cap U V s l c sh q m cap' zs a' b' d' u v ps os := by
  have h1 := h.gl
  have h2 := h.Ul
  have h3 := h.Vl
  have h4 := h.qV
  have h5 := h.UV
  have hg : wr.grownBy (wr.setCell ⟨V, i, none⟩ z) (some V) := grown_set (grown_refl wr _) i _
  exact { h with
    cur := h.cur.kept hg (fun r hr => by injection hr with hr; omega)
    grw := grown_new h.grw (p := ⟨V, i, none⟩) (show w.heap.size ≤ V by omega) _
    r1 := h.r1.kept hg (by intro e; injection e with e; omega)
    r2 := h.r2.kept hg (by intro e; injection e with e; omega)
    gr := h.gr.kept hg (by intro e; injection e with e; omega)
    row := h.row.kept hg (by intro e; injection e with e; omega)
    var := e ▸ h.var.set i z
    ou := h.ou.kept hg (.inr h.uV)
    ov := h.ov.kept hg (.inr h.vV)
    ql := Nat.lt_of_lt_of_le h.ql hg.size }
/-- A longer list of opens is written back. -/
theorem RAs.pushV (h : RAs w wr g A n cap U V s l c sh q m cap' zs a b d u v ps os) (hg : wr.grownBy w' v.ownBlock) (hv : w'.ownsRow (w.heap.size + 2) 31 4 v' os'.length (flatO os')) (hat : v.ownBlock = v'.ownBlock ∨ ∃ b, v'.ownBlock = some b ∧ wr.heap.size ≤ b) :
    RAs w (w'.setCell ⟨V, 4, none⟩ v') g A n cap U V s l c sh q m cap' zs a b d u v' ps os' := by
  have h1 := h.gl
  have h2 := h.Ul
  have h3 := h.Vl
  have h4 := h.gr.lt
  have h5 := h.var.lt
  have h6 := h.grw.size
  have h7 := h.UV
  have h8 := h.qV
  have far : ∀ b, b < w.heap.size + 2 → v.ownBlock ≠ some b := fun b hb => own_ne h.ov hb
  have ne : ∀ b, b < wr.heap.size → v.ownBlock ≠ some b → v'.ownBlock ≠ some b := fun b hb hc e => by
    rcases hat with ha | ⟨x, hx, hx'⟩
    · exact hc (ha.trans e)
    · rw [hx] at e
      injection e with e
      omega
  have gs : w'.grownBy (w'.setCell ⟨V, 4, none⟩ v') (some V) := grown_set (grown_refl w' _) 4 _
  have huv' : u.ownBlock = none ∨ u.ownBlock ≠ v'.ownBlock := by
    rcases hb : u.ownBlock with _ | k
    · exact .inl rfl
    · refine .inr fun e => ?_
      refine ne k (h.ou.lt k hb).2 ?_ e.symm
      intro e'
      rcases h.uv with h' | h'
      · rw [h'] at hb; cases hb
      · exact h' (hb.trans e'.symm)
  exact { h with
    cur := (h.cur.kept hg (fun r hr => by have := (h.ov.lt r hr).1; omega)).kept gs (fun r hr => by injection hr with hr; omega)
    grw := grown_far (grown_far h.grw hg (fun r hr => by have := (h.ov.lt r hr).1; omega)) gs (fun r hr => by injection hr with hr; omega)
    r1 := (h.r1.kept hg (far _ (by omega))).kept gs (by intro e; injection e with e; omega)
    r2 := (h.r2.kept hg (far _ (by omega))).kept gs (by intro e; injection e with e; omega)
    gr := (h.gr.kept hg h.vU).kept gs (by intro e; injection e with e; omega)
    row := (h.row.kept hg h.vq).kept gs (by intro e; injection e with e; omega)
    var := (h.var.kept hg h.vV).set 4 v'
    ou := (h.ou.kept hg h.uv).kept gs (.inr h.uV)
    ov := hv.kept gs (.inr (ne _ h5 h.vV))
    ql := Nat.lt_of_lt_of_le h.ql (Nat.le_trans hg.size gs.size)
    vU := ne _ h4 h.vU
    vV := ne _ h5 h.vV
    vq := ne _ h.ql h.vq
    uv := huv' }
/-- A longer certificate is written back. -/
theorem RAs.pushU (h : RAs w wr g A n cap U V s l c sh q m cap' zs a b d u v ps os) (hg : wr.grownBy w' u.ownBlock) (hu : w'.ownsRow (w.heap.size + 2) 100 2 u' ps'.length (flatP ps')) (hat : u.ownBlock = u'.ownBlock ∨ ∃ b, u'.ownBlock = some b ∧ wr.heap.size ≤ b) :
    RAs w (w'.setCell ⟨V, 3, none⟩ u') g A n cap U V s l c sh q m cap' zs a b d u' v ps' os := by
  have h1 := h.gl
  have h2 := h.Ul
  have h3 := h.Vl
  have h4 := h.gr.lt
  have h5 := h.var.lt
  have h6 := h.grw.size
  have h7 := h.UV
  have h8 := h.qV
  have far : ∀ b, b < w.heap.size + 2 → u.ownBlock ≠ some b := fun b hb => own_ne h.ou hb
  have ne : ∀ b, b < wr.heap.size → u.ownBlock ≠ some b → u'.ownBlock ≠ some b := fun b hb hc e => by
    rcases hat with ha | ⟨x, hx, hx'⟩
    · exact hc (ha.trans e)
    · rw [hx] at e
      injection e with e
      omega
  have gs : w'.grownBy (w'.setCell ⟨V, 3, none⟩ u') (some V) := grown_set (grown_refl w' _) 3 _
  have hvu : v.ownBlock = none ∨ v.ownBlock ≠ u.ownBlock := by
    rcases hb : v.ownBlock with _ | k
    · exact .inl rfl
    · refine .inr fun e => ?_
      rcases h.uv with h' | h'
      · rw [h'] at e; cases e
      · exact h' (e.symm.trans hb.symm)
  have huv' : u'.ownBlock = none ∨ u'.ownBlock ≠ v.ownBlock := by
    rcases hb : v.ownBlock with _ | k
    · rcases u'.ownBlock with _ | _
      · exact .inl rfl
      · exact .inr (by simp)
    · refine .inr fun e => ?_
      refine ne k (h.ov.lt k hb).2 ?_ e
      intro e'
      rcases h.uv with h' | h'
      · rw [h'] at e'; cases e'
      · exact h' (e'.trans hb.symm)
  exact { h with
    cur := (h.cur.kept hg (fun r hr => by have := (h.ou.lt r hr).1; omega)).kept gs (fun r hr => by injection hr with hr; omega)
    grw := grown_far (grown_far h.grw hg (fun r hr => by have := (h.ou.lt r hr).1; omega)) gs (fun r hr => by injection hr with hr; omega)
    r1 := (h.r1.kept hg (far _ (by omega))).kept gs (by intro e; injection e with e; omega)
    r2 := (h.r2.kept hg (far _ (by omega))).kept gs (by intro e; injection e with e; omega)
    gr := (h.gr.kept hg h.uU).kept gs (by intro e; injection e with e; omega)
    row := (h.row.kept hg h.uq).kept gs (by intro e; injection e with e; omega)
    var := (h.var.kept hg h.uV).set 3 u'
    ou := hu.kept gs (.inr (ne _ h5 h.uV))
    ov := (h.ov.kept hg hvu).kept gs (.inr h.vV)
    ql := Nat.lt_of_lt_of_le h.ql (Nat.le_trans hg.size gs.size)
    uU := ne _ h4 h.uU
    uV := ne _ h5 h.uV
    uq := ne _ h.ql h.uq
    uv := huv' }
/-- The answer is laid into the results. -/
theorem RAs.fin (h : RAs w wr g A n cap U V s l c sh q m cap' zs a b d u v ps os) (hok : okB s l c sh zs = true) (hs : s ≤ 6) (hc : c ≤ 3) (hm : m ≤ 100) (hp : ps.length ≤ 21) (ho : os.length ≤ 7) (x : Int) (x0 x1 x2 x3 x4 y0 y1 y2 y3 y4 : Value) :
    DrawnGR g A n cap w (.returned (.tuple #[.agg #[.int .i64 s, .int .i64 l, .int .i64 c, .int .i64 sh, .slice (some ⟨q, 0, none⟩) m cap'], .int .i64 x, .agg #[.int .i64 a, .int .i64 b, .int .i64 d, u, v]])) ((((((((((wr.setCell ⟨w.heap.size, 0, none⟩ x0).setCell ⟨w.heap.size, 1, none⟩ x1).setCell ⟨w.heap.size, 2, none⟩ x2).setCell ⟨w.heap.size, 3, none⟩ x3).setCell ⟨w.heap.size, 4, none⟩ x4).setCell ⟨w.heap.size + 1, 0, none⟩ y0).setCell ⟨w.heap.size + 1, 1, none⟩ y1).setCell ⟨w.heap.size + 1, 2, none⟩ y2).setCell ⟨w.heap.size + 1, 3, none⟩ y3).setCell ⟨w.heap.size + 1, 4, none⟩ y4).drew := by
  have h1 := h.gl
  have h2 := h.q2
  have gx := grown5 wr w.heap.size x0 x1 x2 x3 x4
  have gy := grown_drew (grown5 (((((wr.setCell ⟨w.heap.size, 0, none⟩ x0).setCell ⟨w.heap.size, 1, none⟩ x1).setCell ⟨w.heap.size, 2, none⟩ x2).setCell ⟨w.heap.size, 3, none⟩ x3).setCell ⟨w.heap.size, 4, none⟩ x4) (w.heap.size + 1) y0 y1 y2 y3 y4)
  exact ⟨s, l, c, sh, q, m, cap', zs, x, a, b, d, u, v, ps, os, rfl, hok, hs, hc, hm, h2, (h.row.kept gx (by intro e; injection e with e; omega)).kept gy (by intro e; injection e with e; omega), hp, ho, (h.ou.kept gx (.inr (own_ne h.ou (by omega)))).kept gy (.inr (own_ne h.ou (by omega))), (h.ov.kept gx (.inr (own_ne h.ov (by omega)))).kept gy (.inr (own_ne h.ov (by omega))), (h.cur.kept gx (fun r hr => by injection hr with hr; omega)).kept gy (fun r hr => by injection hr with hr; omega), grown_far (grown_far h.grw gx (fun r hr => by injection hr with hr; omega)) gy (fun r hr => by injection hr with hr; omega)⟩
end

end Go.Proofs.Ytghdnokjgmmgiaa

/- The model's l7DrawAny, walked (written by draw_reg5.py). -/
namespace Go.Proofs.Ytghdnokjgmmgiaa
open Go.RowKit Go.Deep

set_option maxRecDepth 100000 in
set_option maxHeartbeats 8000000 in
theorem l7DrawAny_any (g : Nat) (A : Option Addr) (n cap : Nat) (w : World) (hc : Cur w 95 .i64 g A n cap) :
    Calls Try.prog 27 #[.pointer (some ⟨g, 0, none⟩)] w (DrawnGR g A n cap w) := by
  obtain ⟨i0, hi0, hz0, hz1, hz2⟩ := info_parts Try.infoSealI
  obtain ⟨j0, hj0, hy0, hy1, hy2⟩ := info_parts Try.infoOpen
  have hgl := hc.lt
  have E0 := bel_trans (bel_alloc w (.cells #[.int .i64 0, .int .i64 0, .int .i64 0, .int .i64 0, .slice none 0 0] 49)) (bel_alloc _ (.cells #[.int .i64 0, .int .i64 0, .int .i64 0, .slice none 0 0, .slice none 0 0] 29))
  have R1 := (Box.new w 49 #[.int .i64 0, .int .i64 0, .int .i64 0, .int .i64 0, .slice none 0 0]).alloc (.cells #[.int .i64 0, .int .i64 0, .int .i64 0, .slice none 0 0, .slice none 0 0] 29)
  have R2 := Box.new (w.alloc (.cells #[.int .i64 0, .int .i64 0, .int .i64 0, .int .i64 0, .slice none 0 0] 49)) 29 #[.int .i64 0, .int .i64 0, .int .i64 0, .slice none 0 0, .slice none 0 0]
  simp only [World.size_alloc] at R2
  have hc0 := hc.kept (grown_bel E0 none) (fun q hq => by cases hq)
  clear hc
  go_enter Try.func27, Try.ntmps27
  go_wp2_with fail
  generalize ((w.alloc _).alloc _ : World) = w0 at E0 R1 R2 hc0 ⊢
  refine (l1DrawGroup_any g A n cap w0 hc0).mono ?_
  rintro e w1 ⟨s, l, c, sh, q, cap', zs, rfl, hown, hok, hs6, hc3, hc1, hg1⟩
  have hrow1 := own_row hown
  have hq1 := hown.lt q rfl
  have hz := R2.lt
  have hs0 := E0.size
  clear hown
  obtain ⟨ok1, _, ok2, _, _, _⟩ := okB_parts hok
  have hml : zs.length ≤ 100 ∧ 1 ≤ sh := by
    have h := hok
    simp only [okB, Bool.and_eq_true, decide_eq_true_eq] at h
    have h1 := h.1.2
    have h2 := (inB_true.1 h.1.1.1.2)
    omega
  obtain ⟨hml, hsh⟩ := hml
  generalize hM : zs.length = m at hrow1 hml
  clear hM
  have U2 := Box.new w1 49 #[.int .i64 s, .int .i64 l, .int .i64 c, .int .i64 sh, .slice (some ⟨q, 0, none⟩) m cap']
  have hb2 := bel_alloc w1 (.cells #[.int .i64 s, .int .i64 l, .int .i64 c, .int .i64 sh, .slice (some ⟨q, 0, none⟩) m cap'] 49)
  have G2 := grown_trans (grown_bel E0 (some g)) (grown_trans hg1 (grown_bel hb2 _))
  have S1 := (R1.kept hg1 (by intro e; injection e with e; omega)).later hb2 (by have := (R1.kept hg1 (by intro e; injection e with e; omega)).lt; omega)
  have S2 := (R2.kept hg1 (by intro e; injection e with e; omega)).later hb2 (by have := (R2.kept hg1 (by intro e; injection e with e; omega)).lt; omega)
  have r2 := (hrow1.below hb2 (Nat.le_refl _)).more hb2.size
  have hc2 := hc1.kept (grown_bel hb2 none) (fun q hq => by cases hq)
  have hs1 := hg1.size
  have hs2 := hb2.size
  have hul := U2.lt
  clear R1 R2 hc0 hc1 hg1 hrow1 hb2
  go_upto_region 2 with fail
  generalize (w1.alloc _ : World) = w2 at U2 G2 S1 S2 r2 hc2 hs2 hul ⊢
  obtain ⟨U, hU⟩ : ∃ U, U = w1.heap.size := ⟨_, rfl⟩
  rw [← hU] at U2 hul hs2 hs1 hq1 ⊢
  have hUl : w.heap.size + 2 ≤ U := by omega
  have hq2 : w.heap.size + 2 ≤ q := by omega
  have hqU : q ≠ U := by omega
  have hql : q < w2.heap.size := by omega
  have hgq : g ≠ q := by omega
  clear hU E0
  have HM : Hid (m ≤ maxLen) := by show m ≤ maxLen; unfold maxLen; omega
  replace hok := Lib.hid hok
  obtain ⟨d0, d1, d2, d3, d4⟩ := U2.five
  go_wp2_with fail
  refine (l1Below_any g A n cap sh w2 (by omega) hc2).mono ?_
  rintro e w3 ⟨x, ⟨hx0, hx1⟩, rfl, hc3', hg3⟩
  have U3 := U2.kept hg3 (by intro e; injection e with e; omega)
  have G3 := grown_trans G2 hg3
  have S13 := S1.kept hg3 (by intro e; injection e with e; omega)
  have S23 := S2.kept hg3 (by intro e; injection e with e; omega)
  have r3 := r2.kept hg3 (by intro e; injection e with e; omega)
  have hs3 := hg3.size
  clear U2 G2 S1 S2 r2 hc2 hg3 d0 d1 d2 d3 d4
  obtain ⟨d0, d1, d2, d3, d4⟩ := U3.five
  go_wp2_with fail
  refine (l7Draw_any g A n cap s l c sh q 0 m cap' zs x w3 HM.out ok2 (by omega) (by omega) (by omega) hc3' r3 hgq).mono ?_
  rintro e w4 ⟨a, b, d, u, v, ps, os, rfl, hps, hos, ou, ov, huv, hc4, hg4⟩
  obtain ⟨A3, c3, rfl⟩ := own_form ou
  obtain ⟨A4, c4, rfl⟩ := own_form ov
  have hb5 := bel_alloc w4 (.cells #[.int .i64 a, .int .i64 b, .int .i64 d, .slice A3 ps.length c3, .slice A4 os.length c4] 29)
  have hs4 := hg4.size
  have U4 := U3.kept hg4 (by intro e; injection e with e; omega)
  have K5 : RAs w (w4.alloc (.cells #[.int .i64 a, .int .i64 b, .int .i64 d, .slice A3 ps.length c3, .slice A4 os.length c4] 29)) g A n cap U w4.heap.size s l c sh q m cap' zs a b d (.slice A3 ps.length c3) (.slice A4 os.length c4) ps os := {
    cur := hc4.kept (grown_bel hb5 none) (fun q hq => by cases hq)
    grw := grown_trans (grown_trans G3 hg4) (grown_bel hb5 _)
    r1 := (S13.kept hg4 (by intro e; injection e with e; omega)).alloc _
    r2 := (S23.kept hg4 (by intro e; injection e with e; omega)).alloc _
    gr := U4.alloc _
    row := ((r3.kept hg4 (by intro e; injection e with e; omega)).below hb5 (Nat.le_refl _)).more hb5.size
    var := Box.new w4 _ _
    ou := ownLow (ou.kept (grown_bel hb5 none) (by cases Value.ownBlock (.slice A3 ps.length c3) <;> simp)) (by omega)
    ov := ownLow (ov.kept (grown_bel hb5 none) (by cases Value.ownBlock (.slice A4 os.length c4) <;> simp)) (by omega)
    gl := hgl
    ql := by have := hb5.size; omega
    q2 := hq2
    qU := hqU
    qV := by omega
    UV := by have := U4.lt; omega
    Ul := hUl
    Vl := by omega
    uU := own_ne ou (by omega)
    uV := fun e => by have := (ou.lt _ e).2; omega
    uq := own_ne ou (by omega)
    vU := own_ne ov (by omega)
    vV := fun e => by have := (ov.lt _ e).2; omega
    vq := own_ne ov (by omega)
    uv := huv }
  clear U3 U4 G3 S13 S23 r3 hc3' hg4 hc4 ou ov huv d0 d1 d2 d3 d4 hb5
  go_upto_region 4 with fail
  generalize (w4.alloc _ : World) = w5 at K5 ⊢
  generalize w4.heap.size = V at K5 ⊢
  clear hs0 hs1 hs2 hs3 hs4 hz hql hul hq1 hqU hUl hgq hq2
  go_wp2_with fail
  refine (l1Once_any g A n cap 6 w5 (by omega) K5.cur).mono ?_
  rintro e w6 ⟨bb, rfl, hcN, hgN⟩
  have K6 := K5.draw hgN hcN
  clear K5 hgN hcN
  go_upto_if 19 with fail
  go_cut [6] (fun xv wr => ∃ (x a b d : Int) (u v : Value) (ps : List (Int × Int)) (os : List Opn), xv = .int .i64 x ∧ ps.length ≤ 21 ∧ os.length ≤ 7 ∧ RAs w wr g A n cap U V s l c sh q m cap' zs a b d u v ps os)
  case first =>
    rcases bb with _ | _
    · go_wp2_with fail
      go_meet
      exact ⟨_, _, _, _, _, _, _, _, rfl, by omega, by omega, K6⟩
    · go_wp2_with fail
      refine (l1Below_any g A n cap 5 w6 (by omega) K6.cur).mono ?_
      rintro e w7 ⟨z, ⟨hz0', hz1'⟩, rfl, hcN, hgN⟩
      have K7 := K6.draw hgN hcN
      clear K6 hcN hgN
      have hcase : z = 0 ∨ z = 1 ∨ z = 2 ∨ z = 3 ∨ z = 4 := by omega
      clear hz0' hz1'
      rcases hcase with rfl | rfl | rfl | rfl | rfl
      · obtain ⟨x0, x1, x2, x3, x4⟩ := K7.var.five
        have fr := K7.var.frozen
        have HK := Lib.hid K7
        clear K7
        go_wp2_with fail
        go_meet
        exact ⟨_, _, _, _, _, _, _, _, rfl, by omega, by omega, HK.out.set 2 _ rfl⟩
      · go_wp2_with fail
        refine (l2DrawAny_any g A n cap w7 K7.cur).mono ?_
        rintro e w8 ⟨y, y2, rfl, hcN, hgN⟩
        have K8 := K7.draw hgN hcN
        clear K7 hgN hcN
        obtain ⟨x0, x1, x2, x3, x4⟩ := K8.var.five
        have fr := K8.var.frozen
        have HK := Lib.hid ((K8.set 0 (.int .i64 y) rfl).set 1 (.int .i64 y2) rfl)
        clear K8
        go_wp2_with fail
        go_meet
        exact ⟨_, _, _, _, _, _, _, _, rfl, by omega, by omega, HK.out⟩
      · obtain ⟨x0, x1, x2, x3, x4⟩ := K7.var.five
        go_wp2_with fail
        refine wp_region_sink 10 (fun w' => w'.cell? ⟨V, 4, none⟩ = some (.slice A4 os.length c4)) (by kernel_rfl) (K7.var.cell 4) (fun hH => ?_)
        refine wpAnyE_take (i := 0) (v := ?vv0) (by simp only [List.getElem?_toArray, List.getElem?_cons_zero]; rfl) (by kernel_rfl) (by kernel_rfl) (by kernel_rfl) (by exact fun _ _ _ h => h) (by kernel_rfl) (Or.inl ⟨by rfl, ?yv0⟩) hH ?rv0
        case yv0 => (intro w' hSw; (try dsimp only at hSw); go_simp; try with_reducible rfl)
        try simp only [Act.put, List.setIfInBounds_toArray, List.set_cons_zero, List.set_cons_succ]
        refine wpAnyE_take (i := 1) (v := ?vv1) (by simp only [List.getElem?_toArray, List.getElem?_cons_succ, List.getElem?_cons_zero]; rfl) (by kernel_rfl) (by kernel_rfl) (by kernel_rfl) (by exact fun _ _ _ h => h) (by kernel_rfl) (Or.inl ⟨by rfl, ?yv1⟩) hH ?rv1
        case yv1 => (intro w' hSw; (try dsimp only at hSw); go_simp; try with_reducible rfl)
        try simp only [Act.put, List.setIfInBounds_toArray, List.set_cons_zero, List.set_cons_succ]
        refine wpAnyE_take (i := 2) (v := ?vv2) (by simp only [List.getElem?_toArray, List.getElem?_cons_succ, List.getElem?_cons_zero]; rfl) (by kernel_rfl) (by kernel_rfl) (by kernel_rfl) (by exact fun _ _ _ h => h) (by kernel_rfl) (Or.inl ⟨by rfl, ?yv2⟩) hH ?rv2
        case yv2 => (intro w' hSw; (try dsimp only at hSw); go_simp; try with_reducible rfl)
        try simp only [Act.put, List.setIfInBounds_toArray, List.set_cons_zero, List.set_cons_succ]
        refine wpAnyE_take (i := 4) (v := ?vv4) (by simp only [List.getElem?_toArray, List.getElem?_cons_succ, List.getElem?_cons_zero]; rfl) (by kernel_rfl) (by kernel_rfl) (by kernel_rfl) (by exact fun _ _ _ h => h) (by kernel_rfl) (Or.inl ⟨by rfl, ?yv4⟩) hH ?rv4
        case yv4 => (intro w' hSw; (try dsimp only at hSw); go_simp; try with_reducible rfl)
        try simp only [Act.put, List.setIfInBounds_toArray, List.set_cons_zero, List.set_cons_succ]
        refine wpAnyE_one (i := 3) (by kernel_rfl) (by simp only [List.getElem?_toArray, List.getElem?_cons_succ, List.getElem?_cons_zero]; rfl) (fun K hK => ?_)
        go_simp
        refine (l1Below_any g A n cap 9 _ (by omega) ?_).mono ?_
        · exact K7.cur
        rintro e w8 ⟨y, _, rfl, hcN, hgN⟩
        have K8 := K7.draw (grown_of_drew hgN) hcN
        clear hH
        refine hK.out _ _ (K8.var.cell 4) (fun hH => ?_)
        clear hK K
        try simp only [Act.put, List.setIfInBounds_toArray, List.set_cons_zero, List.set_cons_succ]
        refine wpAnyE_one (i := 5) (by kernel_rfl) (by simp only [List.getElem?_toArray, List.getElem?_cons_succ, List.getElem?_cons_zero]; rfl) (fun K hK => ?_)
        go_simp
        refine (l2DrawAny_any g A n cap w8 K8.cur).mono ?_
        rintro e w9 ⟨y2, y3, rfl, hcM, hgM⟩
        have K9 := K8.draw hgM hcM
        have hv9 := K9.var.lt
        have vl9 := K9.Vl
        clear hH
        refine hK.out _ _ (K9.var.cell 4) (fun hH => ?_)
        clear hK K
        try simp only [Act.put, List.setIfInBounds_toArray, List.set_cons_zero, List.set_cons_succ]
        refine wpAnyE_take (i := 6) (v := ?vv6) (by simp only [List.getElem?_toArray, List.getElem?_cons_succ, List.getElem?_cons_zero]; rfl) (by kernel_rfl) (by kernel_rfl) (by kernel_rfl) (by exact fun _ _ _ h => h) (by kernel_rfl) (Or.inl ⟨by rfl, ?yv6⟩) hH ?rv6
        case yv6 => (intro w' hSw; (try dsimp only at hSw); go_simp; try with_reducible rfl)
        try simp only [Act.put, List.setIfInBounds_toArray, List.set_cons_zero, List.set_cons_succ]
        refine wpAnyE_one (i := 7) (by kernel_rfl) (by simp only [List.getElem?_toArray, List.getElem?_cons_succ, List.getElem?_cons_zero]; rfl) (fun K hK => ?_)
        go_simp
        clear hH
        refine hK.out _ _ ((K9.var.alloc _).cell 4) (fun hH => ?_)
        clear hK K
        try simp only [Act.put, List.setIfInBounds_toArray, List.set_cons_zero, List.set_cons_succ]
        refine wpAnyE_one (i := 8) (by kernel_rfl) (by simp only [List.getElem?_toArray, List.getElem?_cons_succ, List.getElem?_cons_zero]; rfl) (fun K hK => ?_)
        refine step_append_lies _ (by rfl) _ _ _ (by rfl) (w.heap.size + 2) 31 j0 _ 4 32 Try.underlying27 hj0 hy0 hy1 hy2 rfl (by omega) (.slice A4 os.length c4) os.length (flatO os) (by rfl) (K9.ov.alloc _) ⟨w9.heap.size, 0, none⟩ 1 1 [.int .i64 y, .int .i64 y2, .int .i64 y3, .int .i64 0] (by rfl) (by rfl) (World.news_of_block (cs := #[.int .i64 y, .int .i64 y2, .int .i64 y3, .int .i64 0]) (t := 31) (fr := (0, 0)) (heap_alloc_new w9 _)) (by simp [Value.oneCell']) (by omega) (by unfold maxLen; omega) (by omega) (by simp; omega) (w9.heap.size + 1) (by simp) ?_
        intro gg cap2 wd hown2 hgrow2 hat hlt2
        have gd := grown_trans (grown_bel (bel_alloc w9 (.cells #[.int .i64 y, .int .i64 y2, .int .i64 y3, .int .i64 0] 31)) (Value.ownBlock (.slice A4 os.length c4))) hgrow2
        have bd := K9.var.kept gd K9.vV
        clear hH
        refine hK.out _ _ (bd.cell 4) (fun hH => ?_)
        clear hK K
        try simp only [Act.put, List.setIfInBounds_toArray, List.set_cons_zero, List.set_cons_succ]
        refine wpAnyE_take (i := 9) (v := ?vv9) (by simp only [List.getElem?_toArray, List.getElem?_cons_succ, List.getElem?_cons_zero]; rfl) (by kernel_rfl) (by kernel_rfl) (by kernel_rfl) (by exact fun _ _ _ h => h) (by kernel_rfl) (Or.inl ⟨by rfl, ?yv9⟩) hH ?rv9
        case yv9 => (intro w' hSw; (try dsimp only at hSw); go_simp; try with_reducible rfl)
        try simp only [Act.put, List.setIfInBounds_toArray, List.set_cons_zero, List.set_cons_succ]
        have c4' := bd.cell 4
        have f4 := bd.frozen 4
        refine wpAnyE_last (by kernel_rfl) (by simp only [List.getElem?_toArray, List.getElem?_cons_succ, List.getElem?_cons_zero]; rfl) (by kernel_rfl) (fun K hK => ?_)
        go_simp
        refine hK.out _ _ ?_
        clear hK K
        try simp only [Act.put, List.setIfInBounds_toArray, List.set_cons_zero, List.set_cons_succ]
        have HK := Lib.hid (K9.pushV (v' := .slice (some ⟨gg, 0, none⟩) (os.length + 1) cap2) (os' := os ++ [(y, y2, y3, 0)]) gd (by simpa [flatO_snoc] using hown2) (by rcases hat with h | h; exact .inl h; exact .inr ⟨gg, rfl, by omega⟩))
        clear K7 K8 K9 bd gd hown2 hgrow2 hcN hgN hcM hgM x0 x1 x2 x3 x4 c4' f4
        go_wp2_with fail
        go_meet
        exact ⟨_, _, _, _, _, _, _, _, rfl, by omega, by simp; omega, HK.out⟩
      · obtain ⟨x0, x1, x2, x3, x4⟩ := K7.var.five
        go_wp2_with fail
        refine wp_region_sink 8 (fun w' => w'.cell? ⟨V, 3, none⟩ = some (.slice A3 ps.length c3)) (by kernel_rfl) (K7.var.cell 3) (fun hH => ?_)
        refine wpAnyE_take (i := 0) (v := ?vu0) (by simp only [List.getElem?_toArray, List.getElem?_cons_zero]; rfl) (by kernel_rfl) (by kernel_rfl) (by kernel_rfl) (by exact fun _ _ _ h => h) (by kernel_rfl) (Or.inl ⟨by rfl, ?yu0⟩) hH ?ru0
        case yu0 => (intro w' hSw; (try dsimp only at hSw); go_simp; try with_reducible rfl)
        try simp only [Act.put, List.setIfInBounds_toArray, List.set_cons_zero, List.set_cons_succ]
        refine wpAnyE_take (i := 1) (v := ?vu1) (by simp only [List.getElem?_toArray, List.getElem?_cons_succ, List.getElem?_cons_zero]; rfl) (by kernel_rfl) (by kernel_rfl) (by kernel_rfl) (by exact fun _ _ _ h => h) (by kernel_rfl) (Or.inl ⟨by rfl, ?yu1⟩) hH ?ru1
        case yu1 => (intro w' hSw; (try dsimp only at hSw); go_simp; try with_reducible rfl)
        try simp only [Act.put, List.setIfInBounds_toArray, List.set_cons_zero, List.set_cons_succ]
        refine wpAnyE_take (i := 2) (v := ?vu2) (by simp only [List.getElem?_toArray, List.getElem?_cons_succ, List.getElem?_cons_zero]; rfl) (by kernel_rfl) (by kernel_rfl) (by kernel_rfl) (by exact fun _ _ _ h => h) (by kernel_rfl) (Or.inl ⟨by rfl, ?yu2⟩) hH ?ru2
        case yu2 => (intro w' hSw; (try dsimp only at hSw); go_simp; try with_reducible rfl)
        try simp only [Act.put, List.setIfInBounds_toArray, List.set_cons_zero, List.set_cons_succ]
        refine wpAnyE_one (i := 3) (by kernel_rfl) (by simp only [List.getElem?_toArray, List.getElem?_cons_succ, List.getElem?_cons_zero]; rfl) (fun K hK => ?_)
        go_simp
        refine (l1Below_any g A n cap 5 _ (by omega) ?_).mono ?_
        · exact K7.cur
        rintro e w8 ⟨y, _, rfl, hcN, hgN⟩
        have K8 := K7.draw (grown_of_drew hgN) hcN
        have hv8 := K8.var.lt
        have vl8 := K8.Vl
        clear hH
        refine hK.out _ _ (K8.var.cell 3) (fun hH => ?_)
        clear hK K
        try simp only [Act.put, List.setIfInBounds_toArray, List.set_cons_zero, List.set_cons_succ]
        refine wpAnyE_take (i := 4) (v := ?vu4) (by simp only [List.getElem?_toArray, List.getElem?_cons_succ, List.getElem?_cons_zero]; rfl) (by kernel_rfl) (by kernel_rfl) (by kernel_rfl) (by exact fun _ _ _ h => h) (by kernel_rfl) (Or.inl ⟨by rfl, ?yu4⟩) hH ?ru4
        case yu4 => (intro w' hSw; (try dsimp only at hSw); go_simp; try with_reducible rfl)
        try simp only [Act.put, List.setIfInBounds_toArray, List.set_cons_zero, List.set_cons_succ]
        refine wpAnyE_one (i := 5) (by kernel_rfl) (by simp only [List.getElem?_toArray, List.getElem?_cons_succ, List.getElem?_cons_zero]; rfl) (fun K hK => ?_)
        go_simp
        clear hH
        refine hK.out _ _ ((K8.var.alloc _).cell 3) (fun hH => ?_)
        clear hK K
        try simp only [Act.put, List.setIfInBounds_toArray, List.set_cons_zero, List.set_cons_succ]
        refine wpAnyE_one (i := 6) (by kernel_rfl) (by simp only [List.getElem?_toArray, List.getElem?_cons_succ, List.getElem?_cons_zero]; rfl) (fun K hK => ?_)
        refine step_append_lies _ (by rfl) _ _ _ (by rfl) (w.heap.size + 2) 100 i0 _ 2 16 Try.underlying26 hi0 hz0 hz1 hz2 rfl (by omega) (.slice A3 ps.length c3) ps.length (flatP ps) (by rfl) (K8.ou.alloc _) ⟨w8.heap.size, 0, none⟩ 1 1 [.int .i64 y, .int .i64 0] (by rfl) (by rfl) (World.news_of_block (cs := #[.int .i64 y, .int .i64 0]) (t := 100) (fr := (0, 0)) (heap_alloc_new w8 _)) (by simp [Value.oneCell']) (by omega) (by unfold maxLen; omega) (by omega) (by simp; omega) (w8.heap.size + 1) (by simp) ?_
        intro gg cap2 wd hown2 hgrow2 hat hlt2
        have gd := grown_trans (grown_bel (bel_alloc w8 (.cells #[.int .i64 y, .int .i64 0] 100)) (Value.ownBlock (.slice A3 ps.length c3))) hgrow2
        have bd := K8.var.kept gd K8.uV
        clear hH
        refine hK.out _ _ (bd.cell 3) (fun hH => ?_)
        clear hK K
        try simp only [Act.put, List.setIfInBounds_toArray, List.set_cons_zero, List.set_cons_succ]
        refine wpAnyE_take (i := 7) (v := ?vu7) (by simp only [List.getElem?_toArray, List.getElem?_cons_succ, List.getElem?_cons_zero]; rfl) (by kernel_rfl) (by kernel_rfl) (by kernel_rfl) (by exact fun _ _ _ h => h) (by kernel_rfl) (Or.inl ⟨by rfl, ?yu7⟩) hH ?ru7
        case yu7 => (intro w' hSw; (try dsimp only at hSw); go_simp; try with_reducible rfl)
        try simp only [Act.put, List.setIfInBounds_toArray, List.set_cons_zero, List.set_cons_succ]
        have c4' := bd.cell 3
        have f4 := bd.frozen 3
        refine wpAnyE_last (by kernel_rfl) (by simp only [List.getElem?_toArray, List.getElem?_cons_succ, List.getElem?_cons_zero]; rfl) (by kernel_rfl) (fun K hK => ?_)
        go_simp
        refine hK.out _ _ ?_
        clear hK K
        try simp only [Act.put, List.setIfInBounds_toArray, List.set_cons_zero, List.set_cons_succ]
        have HK := Lib.hid (K8.pushU (u' := .slice (some ⟨gg, 0, none⟩) (ps.length + 1) cap2) (ps' := ps ++ [(y, 0)]) gd (by simpa [flatP_snoc] using hown2) (by rcases hat with h | h; exact .inl h; exact .inr ⟨gg, rfl, by omega⟩))
        clear K7 K8 bd gd hown2 hgrow2 hcN hgN x0 x1 x2 x3 x4 c4' f4
        go_wp2_with fail
        go_meet
        exact ⟨_, _, _, _, _, _, _, _, rfl, by simp; omega, by omega, HK.out⟩
      · go_wp2_with fail
        refine (l1From_any g A n cap (-1) 4 w7 (by omega) (by omega) (by omega) K7.cur).mono ?_
        rintro e w8 ⟨y, _, rfl, hcN, hgN⟩
        have K8 := K7.draw hgN hcN
        clear K7 hgN hcN
        go_wp2_with fail
        go_meet
        exact ⟨_, _, _, _, _, _, _, _, rfl, by omega, by omega, K8⟩
  case rest =>
  clear K6 x hx0 hx1 hps hos ps os a b d A3 A4 c3 c4
  obtain ⟨x, a, b, d, u, v, ps, os, rfl, hps, hos, K9⟩ := hcut
  obtain ⟨w9, rfl⟩ : ∃ x, x = wc := ⟨_, rfl⟩
  obtain ⟨A3, c3, rfl⟩ := own_form K9.ou
  obtain ⟨A4, c4, rfl⟩ := own_form K9.ov
  obtain ⟨d0, d1, d2, d3, d4⟩ := K9.gr.five
  obtain ⟨x0, x1, x2, x3, x4⟩ := K9.var.five
  obtain ⟨e0, e1, e2, e3, e4⟩ := K9.r1.five
  obtain ⟨t0, t1, t2, t3, t4⟩ := K9.r2.five
  have f1 := K9.r1.frozen
  have f2 := K9.r2.frozen
  have ul := K9.Ul
  have vl := K9.Vl
  have n1 : U ≠ w.heap.size := by omega
  have n2 : U ≠ w.heap.size + 1 := by omega
  have n3 : V ≠ w.heap.size := by omega
  have n4 : V ≠ w.heap.size + 1 := by omega
  have n1' : w.heap.size ≠ U := by omega
  have n2' : w.heap.size + 1 ≠ U := by omega
  have n3' : w.heap.size ≠ V := by omega
  have n4' : w.heap.size + 1 ≠ V := by omega
  have HK := Lib.hid (K9.fin hok.out hs6 hc3 hml hps hos x)
  clear K9
  go_wp2_with fail
  go_region
  go_wp2
  exact bodyPost_ret (v := .tuple #[.agg #[.int .i64 s, .int .i64 l, .int .i64 c, .int .i64 sh, .slice (some ⟨q, 0, none⟩) m cap'], .int .i64 x, .agg #[.int .i64 a, .int .i64 b, .int .i64 d, .slice A3 ps.length c3, .slice A4 os.length c4]]) (by simp [results, Try.results27, go_sem, e0, e1, e2, e3, e4, t0, t1, t2, t3, t4]) rfl (HK.out _ _ _ _ _ _ _ _ _ _)

end Go.Proofs.Ytghdnokjgmmgiaa

/- The model's DrawWithOpen: a shelf and an open, made anew (written by draw_reg6.py). -/
namespace Go.Proofs.Ytghdnokjgmmgiaa
open Go.RowKit Go.Deep

/-- A shelf and an open, made anew. -/
def MadeRO (w : World) (e : Ending) (w' : World) : Prop :=
  ∃ (a b d : Int) (A3 : Option Addr) (c3 : Nat) (A4 : Option Addr) (c4 : Nat) (ps : List (Int × Int)) (os : List Opn) (k o1 o2 o3 : Int), e = .returned (.tuple #[.agg #[.int .i64 a, .int .i64 b, .int .i64 d, .slice A3 ps.length c3, .slice A4 os.length c4], .agg #[.int .i64 k, .int .i64 o1, .int .i64 o2, .int .i64 o3]]) ∧ ps.length ≤ 21 ∧ os.length ≤ 7 ∧ Slc w' (.slice A3 ps.length c3) ps ∧ SlcQ w' (.slice A4 os.length c4) os ∧ Below w.heap.size w w'
/-- What DrawWithOpen keeps. -/
structure DWo (w wr : World) (g : Nat) (A : Option Addr) (n cap : Nat) (V : Nat) (a b d : Int) (u v : Value) (ps : List (Int × Int)) (os : List Opn) : Prop where
  cur : Cur wr 95 .i64 g A n cap
  bel : Below w.heap.size w wr
  r1 : Box wr w.heap.size 29 #[.int .i64 0, .int .i64 0, .int .i64 0, .slice none 0 0, .slice none 0 0]
  r2 : Box wr (w.heap.size + 1) 31 #[.int .i64 0, .int .i64 0, .int .i64 0, .int .i64 0]
  var : Box wr V 29 #[.int .i64 a, .int .i64 b, .int .i64 d, u, v]
  ou : wr.ownsRow (g + 1) 100 2 u ps.length (flatP ps)
  ov : wr.ownsRow (g + 1) 31 4 v os.length (flatO os)
  gl : w.heap.size + 1 < g
  Vl : g < V
theorem DWo.draw {w wr w' : World} {g : Nat} {A : Option Addr} {n cap : Nat} {V : Nat} {a b d : Int} {u v : Value} {ps : List (Int × Int)} {os : List Opn} (h : DWo w wr g A n cap V a b d u v ps os) (hg : wr.grownBy w' (some g)) (hc : Cur w' 95 .i64 g A n cap) : DWo w w' g A n cap V a b d u v ps os := by
  have h1 := h.gl
  have h2 := h.Vl
  exact { h with
    cur := hc
    bel := bel_grown h.bel hg (by omega)
    r1 := h.r1.kept hg (by intro e; injection e with e; omega)
    r2 := h.r2.kept hg (by intro e; injection e with e; omega)
    var := h.var.kept hg (by intro e; injection e with e; omega)
    ou := h.ou.kept hg (.inr (own_ne h.ou (by omega)))
    ov := h.ov.kept hg (.inr (own_ne h.ov (by omega))) }
/-- A result is written. -/
theorem DWo.res {w wr w' : World} {g : Nat} {A : Option Addr} {n cap : Nat} {V : Nat} {a b d : Int} {u v : Value} {ps : List (Int × Int)} {os : List Opn} {r : Nat} (h : DWo w wr g A n cap V a b d u v ps os) (hr : r = w.heap.size ∨ r = w.heap.size + 1) (hg : wr.grownBy w' (some r)) :
    Slc w' u ps ∧ SlcQ w' v os ∧ Below w.heap.size w w' ∧ Box w' V 29 #[.int .i64 a, .int .i64 b, .int .i64 d, u, v] ∧ w'.ownsRow (g + 1) 100 2 u ps.length (flatP ps) ∧ w'.ownsRow (g + 1) 31 4 v os.length (flatO os) := by
  have h1 := h.gl
  have h2 := h.Vl
  have o1 := h.ou.kept hg (.inr (own_ne h.ou (by omega)))
  have o2 := h.ov.kept hg (.inr (own_ne h.ov (by omega)))
  exact ⟨own_slcP o1, own_slcQ o2, bel_grown h.bel hg (by omega), h.var.kept hg (by intro e; injection e with e; omega), o1, o2⟩
theorem grown4 (w : World) (R : Nat) (v0 v1 v2 v3 : Value) : w.grownBy ((((w.setCell ⟨R, 0, none⟩ v0).setCell ⟨R, 1, none⟩ v1).setCell ⟨R, 2, none⟩ v2).setCell ⟨R, 3, none⟩ v3) (some R) :=
  grown_set (grown_set (grown_set (grown_set (grown_refl w (some R)) 0 v0) 1 v1) 2 v2) 3 v3
theorem Box.far4 {w : World} {g R : Nat} {t : TypeId} {cs : Array Value} (h : Box w g t cs) (hR : R ≠ g) (u0 u1 u2 u3 : Value) : Box ((((w.setCell ⟨R, 0, none⟩ u0).setCell ⟨R, 1, none⟩ u1).setCell ⟨R, 2, none⟩ u2).setCell ⟨R, 3, none⟩ u3) g t cs :=
  (((h.far (p := ⟨R, 0, none⟩) hR u0).far (p := ⟨R, 1, none⟩) hR u1).far (p := ⟨R, 2, none⟩) hR u2).far (p := ⟨R, 3, none⟩) hR u3
theorem DWo.fin {w wr : World} {g : Nat} {A : Option Addr} {n cap : Nat} {V : Nat} {a b d : Int} {A3 A4 : Option Addr} {c3 c4 : Nat} {ps : List (Int × Int)} {os : List Opn} (h : DWo w wr g A n cap V a b d (.slice A3 ps.length c3) (.slice A4 os.length c4) ps os) (hp : ps.length ≤ 21) (ho : os.length ≤ 7) (k o1 o2 o3 : Int) (x0 x1 x2 x3 x4 y0 y1 y2 y3 : Value) :
    MadeRO w (.returned (.tuple #[.agg #[.int .i64 a, .int .i64 b, .int .i64 d, .slice A3 ps.length c3, .slice A4 os.length c4], .agg #[.int .i64 k, .int .i64 o1, .int .i64 o2, .int .i64 o3]])) (((((((((wr.setCell ⟨w.heap.size, 0, none⟩ x0).setCell ⟨w.heap.size, 1, none⟩ x1).setCell ⟨w.heap.size, 2, none⟩ x2).setCell ⟨w.heap.size, 3, none⟩ x3).setCell ⟨w.heap.size, 4, none⟩ x4).setCell ⟨w.heap.size + 1, 0, none⟩ y0).setCell ⟨w.heap.size + 1, 1, none⟩ y1).setCell ⟨w.heap.size + 1, 2, none⟩ y2).setCell ⟨w.heap.size + 1, 3, none⟩ y3) := by
  have h1 := h.gl
  have gx := grown5 wr w.heap.size x0 x1 x2 x3 x4
  have gy := grown4 (((((wr.setCell ⟨w.heap.size, 0, none⟩ x0).setCell ⟨w.heap.size, 1, none⟩ x1).setCell ⟨w.heap.size, 2, none⟩ x2).setCell ⟨w.heap.size, 3, none⟩ x3).setCell ⟨w.heap.size, 4, none⟩ x4) (w.heap.size + 1) y0 y1 y2 y3
  obtain ⟨_, _, b1, _, p1, p2⟩ := h.res (.inl rfl) gx
  exact ⟨a, b, d, A3, c3, A4, c4, ps, os, k, o1, o2, o3, rfl, hp, ho, own_slcP (p1.kept gy (.inr (own_ne p1 (by omega)))), own_slcQ (p2.kept gy (.inr (own_ne p2 (by omega)))), bel_grown b1 gy (by omega)⟩

set_option maxRecDepth 100000 in
set_option maxHeartbeats 4000000 in
theorem drawWithOpen_any (A : Option Addr) (n cap : Nat) (w : World) (hn : n ≤ 4096) (hB : Bytes w w.heap.size A n) :
    Calls Try.prog 8 #[.slice A n cap] w (MadeRO w) := by
  have E0 := bel_trans (bel_alloc w (.cells #[.int .i64 0, .int .i64 0, .int .i64 0, .slice none 0 0, .slice none 0 0] 29)) (bel_alloc _ (.cells #[.int .i64 0, .int .i64 0, .int .i64 0, .int .i64 0] 31))
  have R1 := (Box.new w 29 #[.int .i64 0, .int .i64 0, .int .i64 0, .slice none 0 0, .slice none 0 0]).alloc (.cells #[.int .i64 0, .int .i64 0, .int .i64 0, .int .i64 0] 31)
  have R2 := Box.new (w.alloc (.cells #[.int .i64 0, .int .i64 0, .int .i64 0, .slice none 0 0, .slice none 0 0] 29)) 31 #[.int .i64 0, .int .i64 0, .int .i64 0, .int .i64 0]
  simp only [World.size_alloc] at R2
  have HB := Lib.hid hB
  clear hB
  go_enter Try.func8, Try.ntmps8
  go_wp2_with fail
  generalize ((w.alloc _).alloc _ : World) = w0 at E0 R1 R2 ⊢
  refine (l1New_any A n cap w0 hn ((HB.out.below E0 (Nat.le_refl _)).more E0.size)).mono ?_
  rintro e w1 ⟨g, hg, rfl, hc1, hb1⟩
  have E1 := bel_trans E0 hb1
  have S1 := R1.later hb1 R1.lt
  have S2 := R2.later hb1 R2.lt
  have hz := R2.lt
  have hg : w.heap.size + 1 < g := Nat.lt_of_lt_of_le hz hg
  have hg1 := hc1.lt
  clear R1 R2 E0 hb1
  go_wp2_with fail
  refine (l7DrawAny_any g A n cap w1 hc1).mono ?_
  rintro e w2 ⟨s, l, c, sh, q, m, cap', zs, x, a, b, d, u, v, ps, os, rfl, hok, hs6, hc3, hml, hq2, hrow, hps, hos, ou, ov, hc2, hg2⟩
  obtain ⟨A3, c3, rfl⟩ := own_form ou
  obtain ⟨A4, c4, rfl⟩ := own_form ov
  obtain ⟨ok1, _, ok2, _, _, _⟩ := okB_parts hok
  have hs2 := hg2.size
  have E2 := bel_grown E1 hg2 (by omega)
  have hb3 := bel_trans (bel_alloc w2 (.cells #[.int .i64 s, .int .i64 l, .int .i64 c, .int .i64 sh, .slice (some ⟨q, 0, none⟩) m cap'] 49)) (bel_alloc _ (.cells #[.int .i64 a, .int .i64 b, .int .i64 d, .slice A3 ps.length c3, .slice A4 os.length c4] 29))
  have G3 := (Box.new w2 49 #[.int .i64 s, .int .i64 l, .int .i64 c, .int .i64 sh, .slice (some ⟨q, 0, none⟩) m cap']).alloc (.cells #[.int .i64 a, .int .i64 b, .int .i64 d, .slice A3 ps.length c3, .slice A4 os.length c4] 29)
  have V3 := Box.new (w2.alloc (.cells #[.int .i64 s, .int .i64 l, .int .i64 c, .int .i64 sh, .slice (some ⟨q, 0, none⟩) m cap'] 49)) 29 #[.int .i64 a, .int .i64 b, .int .i64 d, .slice A3 ps.length c3, .slice A4 os.length c4]
  simp only [World.size_alloc] at V3
  have T1 := S1.kept hg2 (by intro e; injection e with e; omega)
  have T2 := S2.kept hg2 (by intro e; injection e with e; omega)
  have K3 : DWo w ((w2.alloc (.cells #[.int .i64 s, .int .i64 l, .int .i64 c, .int .i64 sh, .slice (some ⟨q, 0, none⟩) m cap'] 49)).alloc (.cells #[.int .i64 a, .int .i64 b, .int .i64 d, .slice A3 ps.length c3, .slice A4 os.length c4] 29)) g A n cap (w2.heap.size + 1) a b d (.slice A3 ps.length c3) (.slice A4 os.length c4) ps os := {
    cur := hc2.kept (grown_bel hb3 none) (fun q hq => by cases hq)
    bel := bel_trans E2 hb3
    r1 := T1.later hb3 T1.lt
    r2 := T2.later hb3 T2.lt
    var := V3
    ou := ownLow (ou.kept (grown_bel hb3 none) (by cases Value.ownBlock (.slice A3 ps.length c3) <;> simp)) (by omega)
    ov := ownLow (ov.kept (grown_bel hb3 none) (by cases Value.ownBlock (.slice A4 os.length c4) <;> simp)) (by omega)
    gl := hg
    Vl := by omega }
  clear S1 S2 E1 E2 T1 T2 hc1 hc2 hg2 ou ov hrow hok hb3 V3
  obtain ⟨d0, d1, d2, d3, d4⟩ := G3.five
  clear G3
  go_wp2_with fail
  generalize ((w2.alloc _).alloc _ : World) = w3 at K3 d0 d1 d2 d3 d4 ⊢
  generalize hV : w2.heap.size + 1 = V at K3 ⊢
  clear hV
  refine (l1Below_any g A n cap (s + c) w3 (by omega) K3.cur).mono ?_
  rintro e w4 ⟨k, _, rfl, hcN, hgN⟩
  have K4 := K3.draw hgN hcN
  clear K3 hcN hgN d0 d1 d2 d3 d4
  have q1 : w.heap.size ≠ V := by have := K4.Vl; omega
  go_wp2_with fail
  refine wp_region_sink 8 (fun w' => w'.cell? ⟨V, 0, none⟩ = some (.int .i64 a) ∧ w'.cell? ⟨V, 1, none⟩ = some (.int .i64 b) ∧ w'.cell? ⟨V, 2, none⟩ = some (.int .i64 d) ∧ w'.cell? ⟨V, 3, none⟩ = some (.slice A3 ps.length c3) ∧ w'.cell? ⟨V, 4, none⟩ = some (.slice A4 os.length c4)) (by kernel_rfl) K4.var.five (fun hH => ?_)
  refine wpAnyE_take (i := 0) (v := ?vv0) (by simp only [List.getElem?_toArray, List.getElem?_cons_zero]; rfl) (by kernel_rfl) (by kernel_rfl) (by kernel_rfl) (by exact fun _ _ _ h => h) (by kernel_rfl) (Or.inl ⟨by rfl, ?yv0⟩) hH ?rv0
  case yv0 => (intro w' hSw; (try dsimp only at hSw); go_simp; try with_reducible rfl)
  try simp only [Act.put, List.setIfInBounds_toArray, List.set_cons_zero, List.set_cons_succ]
  refine wpAnyE_take (i := 1) (v := ?vv1) (by simp only [List.getElem?_toArray, List.getElem?_cons_succ, List.getElem?_cons_zero]; rfl) (by kernel_rfl) (by kernel_rfl) (by kernel_rfl) (by exact fun _ _ _ h => h) (by kernel_rfl) (Or.inl ⟨by rfl, ?yv1⟩) hH ?rv1
  case yv1 => (intro w' hSw; (try dsimp only at hSw); go_simp; try with_reducible rfl)
  try simp only [Act.put, List.setIfInBounds_toArray, List.set_cons_zero, List.set_cons_succ]
  refine wpAnyE_take (i := 2) (v := ?vv2) (by simp only [List.getElem?_toArray, List.getElem?_cons_succ, List.getElem?_cons_zero]; rfl) (by kernel_rfl) (by kernel_rfl) (by kernel_rfl) (by exact fun _ _ _ h => h) (by kernel_rfl) (Or.inl ⟨by rfl, ?yv2⟩) hH ?rv2
  case yv2 => (intro w' hSw; (try dsimp only at hSw); go_simp; try with_reducible rfl)
  try simp only [Act.put, List.setIfInBounds_toArray, List.set_cons_zero, List.set_cons_succ]
  refine wpAnyE_take (i := 4) (v := ?vv4) (by simp only [List.getElem?_toArray, List.getElem?_cons_succ, List.getElem?_cons_zero]; rfl) (by kernel_rfl) (by kernel_rfl) (by kernel_rfl) (by exact fun _ _ _ h => h) (by kernel_rfl) (Or.inl ⟨by rfl, ?yv4⟩) hH ?rv4
  case yv4 => (intro w' hSw; (try dsimp only at hSw); go_simp; try with_reducible rfl)
  try simp only [Act.put, List.setIfInBounds_toArray, List.set_cons_zero, List.set_cons_succ]
  refine wpAnyE_one (i := 3) (by kernel_rfl) (by simp only [List.getElem?_toArray, List.getElem?_cons_succ, List.getElem?_cons_zero]; rfl) (fun K hK => ?_)
  go_simp
  refine (l2Draw_any g A n cap _ ?_).mono ?_
  · exact K4.cur
  rintro e w5 ⟨y, y2, rfl, hcN, hgN⟩
  have K5 := K4.draw (grown_of_drew hgN) hcN
  clear hH
  refine hK.out _ _ K5.var.five (fun hH => ?_)
  clear hK K
  try simp only [Act.put, List.setIfInBounds_toArray, List.set_cons_zero, List.set_cons_succ]
  refine wpAnyE_one (i := 5) (by kernel_rfl) (by simp only [List.getElem?_toArray, List.getElem?_cons_succ, List.getElem?_cons_zero]; rfl) (fun K hK => ?_)
  go_simp
  refine (l1Below_any g A n cap 4 w5 (by omega) K5.cur).mono ?_
  rintro e w6 ⟨y3, _, rfl, hcM, hgM⟩
  have K6 := K5.draw hgM hcM
  obtain ⟨e0, e1, e2, e3, e4⟩ := K6.r1.five
  obtain ⟨t0, t1, t2, t3⟩ := K6.r2.four
  have f1 := K6.r1.frozen
  have f2 := K6.r2.frozen
  clear hH
  refine hK.out _ _ K6.var.five (fun hH => ?_)
  clear hK K
  try simp only [Act.put, List.setIfInBounds_toArray, List.set_cons_zero, List.set_cons_succ]
  refine wpAnyE_take (i := 6) (v := ?vv6) (by simp only [List.getElem?_toArray, List.getElem?_cons_succ, List.getElem?_cons_zero]; rfl) (by kernel_rfl) (by kernel_rfl) (by kernel_rfl) (by exact fun _ _ _ h => h) (by kernel_rfl) (Or.inl ⟨by rfl, ?yv6⟩) hH ?rv6
  case yv6 => (intro w' hSw; (try dsimp only at hSw); go_simp; try with_reducible rfl)
  try simp only [Act.put, List.setIfInBounds_toArray, List.set_cons_zero, List.set_cons_succ]
  refine wpAnyE_one (i := 7) (by kernel_rfl) (by simp only [List.getElem?_toArray, List.getElem?_cons_succ, List.getElem?_cons_zero]; rfl) (fun K hK => ?_)
  go_simp
  clear hH
  refine hK.out _ _ ((K6.var.far5 q1 _ _ _ _ _).five) (fun hH => ?_)
  clear hK K
  try simp only [Act.put, List.setIfInBounds_toArray, List.set_cons_zero, List.set_cons_succ]
  refine wpAnyE_last (by kernel_rfl) (by simp only [List.getElem?_toArray, List.getElem?_cons_succ, List.getElem?_cons_zero]; rfl) (by kernel_rfl) (fun K hK => ?_)
  go_simp
  refine hK.out _ _ ?_
  clear hK K
  try simp only [Act.put, List.setIfInBounds_toArray, List.set_cons_zero, List.set_cons_succ]
  have HP := Lib.hid (K6.fin hps hos k y y2 y3)
  clear K4 K5 K6 hcN hgN hcM hgM hH
  go_wp2
  exact bodyPost_ret (v := .tuple #[.agg #[.int .i64 a, .int .i64 b, .int .i64 d, .slice A3 ps.length c3, .slice A4 os.length c4], .agg #[.int .i64 k, .int .i64 y, .int .i64 y2, .int .i64 y3]]) (by simp [results, Try.results8, go_sem, e0, e1, e2, e3, e4, t0, t1, t2, t3]) rfl (HP.out _ _ _ _ _ _ _ _ _)

end Go.Proofs.Ytghdnokjgmmgiaa

/- FnOpens: what is open of a client is what was opened of it last, and of all others as it was: the law's walk; conditions: the bytes can be read (written by opens.py). -/
namespace Go.Proofs.Ytghdnokjgmmgiaa
open Go.RowKit Go.Deep

theorem opV_as (g : Option Opn) : ∃ (a b c d : Int) (f : Bool), opV g = .tuple #[.agg #[.int .i64 a, .int .i64 b, .int .i64 c, .int .i64 d], .bool f] := by
  cases g with
  | none => exact ⟨0, 0, 0, 0, false, rfl⟩
  | some o => exact ⟨o.1, o.2.1, o.2.2.1, o.2.2.2, true, rfl⟩

theorem opens_big (A : Option Addr) (n cap : Nat) (w : World) (hm : n ≤ maxLen) (hb : 4096 < n) :
    Calls Try.prog 3 #[.slice A n cap] w fun e w' => e = .returned (.bool true) ∧ Below w.heap.size w w' := by
  have hd : decide (4096 < n) = true := by simpa using hb
  go_enter Try.func3, Try.ntmps3
  go_wp2_with (go_at_call 7; refine (big_any A n cap _ hm).mono ?_; rintro e w' ⟨rfl, rfl⟩)
  go_ret
  exact ⟨rfl, Below.refl _ _⟩

/-- The three variables of the law, read. -/
theorem opens_cells {w : World} {R O X : Nat} {t1 t2 t3 : TypeId} {v0 v1 v2 v3 v4 y0 y1 y2 y3 u0 u1 u2 u3 u4 : Value} (h1 : Box w R t1 #[v0, v1, v2, v3, v4]) (h2 : Box w O t2 #[y0, y1, y2, y3]) (h3 : Box w X t3 #[u0, u1, u2, u3, u4]) :
    w.cell? ⟨R, 0, none⟩ = some v0 ∧ w.cell? ⟨R, 1, none⟩ = some v1 ∧ w.cell? ⟨R, 2, none⟩ = some v2 ∧ w.cell? ⟨R, 3, none⟩ = some v3 ∧ w.cell? ⟨R, 4, none⟩ = some v4 ∧ w.cell? ⟨O, 0, none⟩ = some y0 ∧ w.cell? ⟨O, 1, none⟩ = some y1 ∧ w.cell? ⟨O, 2, none⟩ = some y2 ∧ w.cell? ⟨O, 3, none⟩ = some y3 ∧ w.cell? ⟨X, 0, none⟩ = some u0 ∧ w.cell? ⟨X, 1, none⟩ = some u1 ∧ w.cell? ⟨X, 2, none⟩ = some u2 ∧ w.cell? ⟨X, 3, none⟩ = some u3 ∧ w.cell? ⟨X, 4, none⟩ = some u4 :=
  ⟨h1.cell 0, h1.cell 1, h1.cell 2, h1.cell 3, h1.cell 4, h2.cell 0, h2.cell 1, h2.cell 2, h2.cell 3, h3.cell 0, h3.cell 1, h3.cell 2, h3.cell 3, h3.cell 4⟩

set_option maxRecDepth 100000 in
set_option maxHeartbeats 4000000 in
theorem opens_small (A : Option Addr) (n cap : Nat) (w : World) (hn : n ≤ 4096) (hB : Bytes w w.heap.size A n) :
    Calls Try.prog 3 #[.slice A n cap] w fun e w' => e = .returned (.bool true) ∧ Below w.heap.size w w' := by
  have hd : decide (4096 < n) = false := by simpa using hn
  have HM : Hid (n ≤ maxLen) := by show n ≤ maxLen; unfold maxLen; omega
  have HB := Lib.hid hB
  clear hB
  go_enter Try.func3, Try.ntmps3
  go_wp2_with fail
  refine (big_any A n cap _ HM.out).mono ?_
  rintro e w' ⟨rfl, rfl⟩
  go_wp2_with fail
  refine (drawWithOpen_any A n cap w hn HB.out).mono ?_
  rintro e w1 ⟨a, b, d, A3, c3, A4, c4, ps, os, k, o1, o2, o3, rfl, hps, hos, SP, SO, E1⟩
  have hb1 := bel_trans (bel_alloc w1 (.cells #[.int .i64 a, .int .i64 b, .int .i64 d, .slice A3 ps.length c3, .slice A4 os.length c4] 29)) (bel_alloc _ (.cells #[.int .i64 k, .int .i64 o1, .int .i64 o2, .int .i64 o3] 31))
  have R1 := (Box.new w1 29 #[.int .i64 a, .int .i64 b, .int .i64 d, .slice A3 ps.length c3, .slice A4 os.length c4]).alloc (.cells #[.int .i64 k, .int .i64 o1, .int .i64 o2, .int .i64 o3] 31)
  have O1 := Box.new (w1.alloc (.cells #[.int .i64 a, .int .i64 b, .int .i64 d, .slice A3 ps.length c3, .slice A4 os.length c4] 29)) 31 #[.int .i64 k, .int .i64 o1, .int .i64 o2, .int .i64 o3]
  simp only [World.size_alloc] at O1
  have E2 := bel_trans E1 hb1
  replace SP := Lib.hid (SP.later hb1)
  replace SO := Lib.hid (SO.later hb1)
  obtain ⟨d0, d1, d2, d3, d4⟩ := R1.five
  obtain ⟨y0, y1, y2, y3⟩ := O1.four
  clear E1 hb1
  go_wp2_with fail
  generalize ((w1.alloc _).alloc _ : World) = w2 at E2 R1 O1 SP SO d0 d1 d2 d3 d4 y0 y1 y2 y3 ⊢
  generalize w1.heap.size = R at R1 O1 d0 d1 d2 d3 d4 y0 y1 y2 y3 ⊢
  refine (withOpen_is a b d A3 _ c3 A4 _ c4 k o1 o2 o3 ps os w2 (by omega) (by omega) SP.out SO.out).mono ?_
  rintro e w3 ⟨B, u, v, hB1, hB2, rfl, hu, hv, hb3⟩
  have hJl := (withO_len os (k, o1, o2, o3)).1
  have hJg := Lib.hid (getO_with os (k, o1, o2, o3))
  obtain ⟨J, hJ⟩ : ∃ J, withO os (k, o1, o2, o3) = J := ⟨_, rfl⟩
  rw [hJ] at hv hJl hJg
  replace hJ := Lib.hid hJ
  obtain ⟨A5, c5, rfl, hc5, hc5', PU, -⟩ := hu.form
  obtain ⟨A6, c6, rfl, hc6, hc6', QV, -⟩ := hv.form
  have hb4 := bel_trans hb3 (bel_alloc w3 (.cells #[.int .i64 a, .int .i64 b, .int .i64 d, .slice A5 ps.length c5, .slice A6 J.length c6] 29))
  have X1 := Box.new w3 29 #[.int .i64 a, .int .i64 b, .int .i64 d, .slice A5 ps.length c5, .slice A6 J.length c6]
  have R2 := R1.later hb4 R1.lt
  have O2 := O1.later hb4 O1.lt
  have E3 := bel_trans E2 hb4
  have Lp := R1.lt
  have Lo := O1.lt
  have hz := hb3.size
  replace SP := Lib.hid (SP.out.later hb4)
  replace SO := Lib.hid (SO.out.later hb4)
  replace PU := Lib.hid (PU.later (bel_alloc w3 (.cells #[.int .i64 a, .int .i64 b, .int .i64 d, .slice A5 ps.length c5, .slice A6 J.length c6] 29)))
  replace QV := Lib.hid (QV.later (bel_alloc w3 (.cells #[.int .i64 a, .int .i64 b, .int .i64 d, .slice A5 ps.length c5, .slice A6 J.length c6] 29)))
  clear d0 d1 d2 d3 d4 y0 y1 y2 y3 hb4 R1 O1 E2 hu hv
  go_wp2_with fail
  generalize (w3.alloc _ : World) = w4 at X1 R2 O2 E3 SP SO PU QV ⊢
  generalize w3.heap.size = X at X1 hz ⊢
  obtain ⟨O, hO⟩ : ∃ O, R + 1 = O := ⟨_, rfl⟩
  rw [hO] at O2 ⊢
  have K4 := opens_cells R2 O2 X1
  go_upto_region 5 with fail
  go_cut [26] (fun v wr => v = .bool false ∧ Below w4.heap.size w4 wr)
  case first => as_aux_lemma =>
    obtain ⟨d0, d1, d2, d3, d4, y0, y1, y2, y3, x0, x1, x2, x3, x4⟩ := K4
    go_wp2_with fail
    go_region_held3 (fun w' => w'.cell? ⟨R, 0, none⟩ = some (.int .i64 a) ∧ w'.cell? ⟨R, 1, none⟩ = some (.int .i64 b) ∧ w'.cell? ⟨R, 2, none⟩ = some (.int .i64 d) ∧ w'.cell? ⟨R, 3, none⟩ = some (.slice A3 ps.length c3) ∧ w'.cell? ⟨R, 4, none⟩ = some (.slice A4 os.length c4) ∧ w'.cell? ⟨O, 0, none⟩ = some (.int .i64 k) ∧ w'.cell? ⟨O, 1, none⟩ = some (.int .i64 o1) ∧ w'.cell? ⟨O, 2, none⟩ = some (.int .i64 o2) ∧ w'.cell? ⟨O, 3, none⟩ = some (.int .i64 o3) ∧ w'.cell? ⟨X, 0, none⟩ = some (.int .i64 a) ∧ w'.cell? ⟨X, 1, none⟩ = some (.int .i64 b) ∧ w'.cell? ⟨X, 2, none⟩ = some (.int .i64 d) ∧ w'.cell? ⟨X, 3, none⟩ = some (.slice A5 ps.length c5) ∧ w'.cell? ⟨X, 4, none⟩ = some (.slice A6 J.length c6))
      (first | (with_reducible exact K6) | (with_reducible exact K5) | go_keep)
      (first
        | (go_at_call 11; refine (specWith_is a b d A3 _ c3 A4 _ c4 k o1 o2 o3 ps os _ (by omega) (by omega) ?_ ?_).mono ?_; exact SP.out; exact SO.out; rintro e w5 ⟨B', u', v', hB1', hB2', rfl, hu', hv', hb5⟩; rw [hJ.out] at hv'; obtain ⟨A7, c7, rfl, hc7, hc7', PU', -⟩ := hu'.form; obtain ⟨A8, c8, rfl, hc8, hc8', QV', -⟩ := hv'.form; have F5 := bel_drew' hb5; have K5 := opens_cells (R2.later F5 R2.lt) (O2.later F5 O2.lt) (X1.later F5 X1.lt); have PU5 := PU.out.later F5; have QV5 := QV.out.later F5)
        | (go_at_call 10; refine (likeReg_is a b d A5 _ c5 A6 _ c6 A7 c7 A8 c8 ps J w5 (by omega) (by omega) PU5 QV5 PU' QV').mono ?_; rintro e w6 ⟨rfl, hb6⟩; have F6 := bel_trans F5 hb6; have K6 := opens_cells (R2.later F6 R2.lt) (O2.later F6 O2.lt) (X1.later F6 X1.lt)))
    go_wp2_with fail
    go_meet
    exact ⟨rfl, F6⟩
  case rest =>
  obtain ⟨rfl, hb5⟩ := hcut
  obtain ⟨w5, rfl⟩ : ∃ w5, w5 = wc := ⟨_, rfl⟩
  have R3 := R2.later hb5 R2.lt
  have O3 := O2.later hb5 O2.lt
  have X3 := X1.later hb5 X1.lt
  have E5 := bel_trans E3 hb5
  have QO : Hid (Quads w5 w5.heap.size A4 os.length os) := by
    rcases SO.out.later hb5 with ⟨h1, h2⟩ | ⟨bb, oo, nn, cc, h1, _, _, h2⟩
    · injection h1 with e1 e2 e3
      subst h2
      exact quads_nil _ _ _
    · injection h1 with e1 e2 e3
      rw [e1]
      exact (show nn = os.length from e2.symm) ▸ h2
  have QX := Lib.hid (QV.out.later hb5)
  clear R2 O2 X1 E3 SP SO PU QV hb5 K4
  go_wp2_with fail
  go_loopw [6] (fun i wr => ∃ j : Nat, j ≤ 10 ∧ i = .int .i64 j ∧ Below w5.heap.size w5 wr) (fun i _ => 10 - (intOf i).toNat)
  case atStart => exact ⟨0, by omega, rfl, Below.refl _ _⟩
  case round =>
    obtain ⟨j, hj, rfl, hb⟩ := hrel
    have R4 := R3.later hb R3.lt
    have O4 := O3.later hb O3.lt
    have X4 := X3.later hb X3.lt
    have QO4 := Lib.hid (QO.out.later hb)
    have QX4 := Lib.hid (QX.out.later hb)
    obtain ⟨d0, d1, d2, d3, d4, y0, y1, y2, y3, x0, x1, x2, x3, x4⟩ := opens_cells R4 O4 X4
    by_cases hlt : j < 10
    · have hlt' : (j : Int) < 10 := by omega
      go_wp2_with fail
      refine (openOf_is a b d A5 _ c5 A6 _ c6 J j wr (by omega) QX4.out).mono ?_
      rintro e w6 ⟨he, hb6⟩
      have hg := hJg.out j
      by_cases hk : k = (j : Int)
      · subst hk
        rw [if_pos rfl] at hg
        rw [hg] at he
        obtain rfl : e = .returned (.tuple #[.agg #[.int .i64 j, .int .i64 o1, .int .i64 o2, .int .i64 o3], .bool true]) := he
        have hb7 := bel_trans hb6 (bel_alloc w6 (.cells #[.int .i64 j, .int .i64 o1, .int .i64 o2, .int .i64 o3] 31))
        have A1 := Box.new w6 31 #[.int .i64 j, .int .i64 o1, .int .i64 o2, .int .i64 o3]
        have R5 := R4.later hb7 R4.lt
        have O5 := O4.later hb7 O4.lt
        have X5 := X4.later hb7 X4.lt
        have QO5 := Lib.hid (QO4.out.later hb7)
        have E6 := bel_trans hb hb7
        clear hg hb6 hb7 d0 d1 d2 d3 d4 y0 y1 y2 y3 x0 x1 x2 x3 x4
        obtain ⟨d0, d1, d2, d3, d4, y0, y1, y2, y3, x0, x1, x2, x3, x4⟩ := opens_cells R5 O5 X5
        go_wp2_with fail
        clear d0 d1 d2 d3 d4 y0 y1 y2 y3 x0 x1 x2 x3 x4
        generalize (w6.alloc _ : World) = w7 at A1 R5 O5 X5 QO5 E6 ⊢
        generalize w6.heap.size = a7 at A1 ⊢
        refine (openOf_is a b d A3 _ c3 A4 _ c4 os j w7 (by omega) QO5.out).mono ?_
        rintro e w8 ⟨rfl, hb8⟩
        obtain ⟨z0, z1, z2, z3, f, hz⟩ := opV_as (getO os j)
        rw [hz]
        have hb9 := bel_trans hb8 (bel_alloc w8 (.cells #[.int .i64 z0, .int .i64 z1, .int .i64 z2, .int .i64 z3] 31))
        have A2 := A1.later hb9 A1.lt
        have O6 := O5.later hb9 O5.lt
        have E7 := bel_trans E6 hb9
        have B2 := Box.new w8 31 #[.int .i64 z0, .int .i64 z1, .int .i64 z2, .int .i64 z3]
        obtain ⟨p0, p1, p2, p3⟩ := A2.four
        obtain ⟨q0, q1, q2, q3⟩ := O6.four
        obtain ⟨r0, r1, r2, r3⟩ := B2.four
        clear hb8 hb9 E6 hz A1 A2 B2 R5 O5 O6 X5 R4 O4 X4 R3 O3 X3
        go_wp2_with fail
        go_roundw
        case rel => exact ⟨j + 1, by omega, by go_num, E7⟩
        case measure => simp [intOf]; omega
      · rw [if_neg hk] at hg
        rw [hg] at he
        obtain ⟨z0, z1, z2, z3, f, hz⟩ := opV_as (getO os j)
        rw [hz] at he
        subst he
        have hk1 : ((j : Int) == k) = false := by simpa using fun h => hk h.symm
        have hk2 : ((j : Int) != k) = true := by simpa using fun h => hk h.symm
        have hb7 := bel_trans hb6 (bel_alloc w6 (.cells #[.int .i64 z0, .int .i64 z1, .int .i64 z2, .int .i64 z3] 31))
        have A1 := Box.new w6 31 #[.int .i64 z0, .int .i64 z1, .int .i64 z2, .int .i64 z3]
        have R5 := R4.later hb7 R4.lt
        have O5 := O4.later hb7 O4.lt
        have X5 := X4.later hb7 X4.lt
        have QO5 := Lib.hid (QO4.out.later hb7)
        have E6 := bel_trans hb hb7
        clear hg hb6 hb7 d0 d1 d2 d3 d4 y0 y1 y2 y3 x0 x1 x2 x3 x4
        obtain ⟨d0, d1, d2, d3, d4, y0, y1, y2, y3, x0, x1, x2, x3, x4⟩ := opens_cells R5 O5 X5
        go_wp2_with fail
        clear d0 d1 d2 d3 d4 y0 y1 y2 y3 x0 x1 x2 x3 x4
        generalize (w6.alloc _ : World) = w7 at A1 R5 O5 X5 QO5 E6 ⊢
        generalize w6.heap.size = a7 at A1 ⊢
        refine (openOf_is a b d A3 _ c3 A4 _ c4 os j w7 (by omega) QO5.out).mono ?_
        rintro e w8 ⟨rfl, hb8⟩
        rw [hz]
        have hb9 := bel_trans hb8 (bel_alloc w8 (.cells #[.int .i64 z0, .int .i64 z1, .int .i64 z2, .int .i64 z3] 31))
        have A2 := A1.later hb9 A1.lt
        have O6 := O5.later hb9 O5.lt
        have E7 := bel_trans E6 hb9
        have B2 := Box.new w8 31 #[.int .i64 z0, .int .i64 z1, .int .i64 z2, .int .i64 z3]
        obtain ⟨p0, p1, p2, p3⟩ := A2.four
        obtain ⟨q0, q1, q2, q3⟩ := O6.four
        obtain ⟨r0, r1, r2, r3⟩ := B2.four
        clear hb8 hb9 E6 hz A1 A2 B2 R5 O5 O6 X5 R4 O4 X4 R3 O3 X3
        go_wp2_with fail
        go_roundw
        case rel => exact ⟨j + 1, by omega, by go_num, E7⟩
        case measure => simp [intOf]; omega
    · have hJl' : (J.length : Int) ≤ (os.length : Int) + 1 := by omega
      have hos' : (os.length : Int) ≤ 7 := by omega
      have hlt' : ¬ (j : Int) < 10 := by omega
      have E6 := bel_trans E5 hb
      clear R4 O4 X4 R3 O3 X3 QO4 QX4
      go_wp2
      go_ret
      exact ⟨rfl, E6⟩

end Go.Proofs.Ytghdnokjgmmgiaa

namespace Go.Proofs.Ytghdnokjgmmgiaa
set_option maxRecDepth 100000
open Go.ChangeShapes Go.WideShapes Go.ChangeAt Go.RowKit
set_option linter.unusedVariables false


namespace fnOpensF
set_option maxRecDepth 100000 in
theorem lifted (os : Os) (started : os.Started) (H : Type) (enc : TypeId × Value → H) :
    ReturnsInHanded {} Try.checked os 3 .any (Rows.fnOpensSpec.pre6 enc Try.prog Try.f3 Rows.fnOpensRow.domain false) (Rows.fnOpensSpec.post enc Try.prog Try.f3 false true false false) := by
  refine returnsInHanded_of_change (C := Try.checked) ownB started (by kernel_rfl) Try.func3
    (ChangeSpec.witness6 (enc := enc) (C := Try.checked) false ⟨#[], #[.slice none 0 0], []⟩ 8 (by kernel_rfl) (by kernel_rfl) (by kernel_rfl) (by kernel_rfl)) ?_
  intro W base args ds gs before hval0 hW hcnd _
  have hval : ∀ (j : Nat) t v, Try.f3.params[j]? = some t → args[j]? = some v → Value.okWide Try.prog W .any base t v := hval0
  have hW' := hW
  obtain ⟨p, q, hA0, hV, rfl, hfz, hnd⟩ := hW
  have hA : DataW.TrodAll enc Try.prog W 0 (fun _ => true) true Try.f3.params.toList args.toList ds p := hA0
  rw [Try.params3] at hA hval
  obtain ⟨v0, vs0, d0, ds0, p0, q0, hargs, rfl, rfl, h0, r0⟩ := trodAll_cons hA
  obtain ⟨rfl, rfl, rfl⟩ := trodAll_nil r0
  obtain rfl : args = #[v0] := by cases args; simp_all
  obtain ⟨rfl, rfl⟩ := trodVars_none hV
  have k0 := h0
  have lt0 : ∀ x ∈ p0, x.block < W.heap.size := by obtain ⟨m, hm⟩ := k0; exact DataW.trod_lt m _ _ _ hm
  obtain ⟨A, n, cap, rfl, hB, hmx⟩ := bytes_read (hval 0 22 v0 rfl rfl) h0
  clear hA0 hval0
  have walk : Calls Try.prog 3 #[.slice A n cap] W fun e w' => e = .returned (.bool true) ∧ Below W.heap.size W w' := by
    by_cases hs : n ≤ 4096
    · exact opens_small A n cap W hs hB
    · exact opens_big A n cap W hmx (by omega)
  refine walk.mono fun e W' ⟨he, bel⟩ => ?_
  subst he
  exact ⟨_, rfl, _, _, _, [], _, [], hW', trodAll_mk1 (shut_bool Try.underlying4 _), (trodAll_cons_mk (Below.trod laidOutBytes (by kernel_rfl) (of_decide_eq_true (by kernel_rfl)) k0 bel lt0) trodAll_mk0), rfl, bel.frame _, fun h => by cases h⟩

theorem proved : Rows.FnOpensSaid :=
  OpenClaim.holds_of_wide 3 Try.f3 rfl rfl rfl rfl rfl rfl rfl ⟨rfl, rfl, rfl, rfl, rfl⟩ rfl rfl rfl rfl rfl (by kernel_rfl) Try.func3 (by kernel_rfl)
    (of_decide_eq_true (by kernel_rfl)) (by unfold Func.isWrapper; first | (rw [if_pos (by decide +kernel)]; kernel_rfl) | (rw [if_neg (by decide +kernel)]; exact ⟨rfl, rfl⟩))
    (fun os started H enc _ => lifted os started H enc)
end fnOpensF

theorem fnOpens_holds : Rows.FnOpensSaid := fnOpensF.proved
end Go.Proofs.Ytghdnokjgmmgiaa
