/- The model's l7DrawAny: a group, a shelf's number and a shelf, right or nearly so; its lists one's own. -/
import Derived.Test.YtghdnokjgmmgiaaGreatDrawReg3
namespace Go.Proofs.YtghdnokjgmmgiaaGreat
open Go.RowKit Go.Deep

/-- What is drawn: a group, a number, a shelf, and the cursor further on. -/
def DrawnGR (g : Nat) (A : Option Addr) (n cap : Nat) (w : World) (e : Ending) (w' : World) : Prop :=
  ∃ (s l c sh : Int) (q m cap' : Nat) (zs : List Int) (x a b d : Int) (u v : Value) (ps : List (Int × Int)) (os : List Opn), e = .returned (.tuple #[.agg #[.int .i64 s, .int .i64 l, .int .i64 c, .int .i64 sh, .slice (some ⟨q, 0, none⟩) m cap'], .int .i64 x, .agg #[.int .i64 a, .int .i64 b, .int .i64 d, u, v]]) ∧ okB s l c sh zs = true ∧ s ≤ 6 ∧ c ≤ 3 ∧ m ≤ 100 ∧ w.heap.size + 2 ≤ q ∧ Row w' w'.heap.size (some ⟨q, 0, none⟩) m zs ∧ ps.length ≤ 21 ∧ os.length ≤ 7 ∧ w'.ownsRow (w.heap.size + 2) 94 2 u ps.length (flatP ps) ∧ w'.ownsRow (w.heap.size + 2) 82 4 v os.length (flatO os) ∧ Cur w' 102 .i64 g A n cap ∧ w.grownBy w' (some g)

/-- What l7DrawAny keeps. -/
structure RAs (w wr : World) (g : Nat) (A : Option Addr) (n cap : Nat) (U V : Nat) (s l c sh : Int) (q m cap' : Nat) (zs : List Int) (a b d : Int) (u v : Value) (ps : List (Int × Int)) (os : List Opn) : Prop where
  cur : Cur wr 102 .i64 g A n cap
  grw : w.grownBy wr (some g)
  r1 : Box wr w.heap.size 26 #[.int .i64 0, .int .i64 0, .int .i64 0, .int .i64 0, .slice none 0 0]
  r2 : Box wr (w.heap.size + 1) 32 #[.int .i64 0, .int .i64 0, .int .i64 0, .slice none 0 0, .slice none 0 0]
  gr : Box wr U 26 #[.int .i64 s, .int .i64 l, .int .i64 c, .int .i64 sh, .slice (some ⟨q, 0, none⟩) m cap']
  row : Row wr wr.heap.size (some ⟨q, 0, none⟩) m zs
  var : Box wr V 32 #[.int .i64 a, .int .i64 b, .int .i64 d, u, v]
  ou : wr.ownsRow (w.heap.size + 2) 94 2 u ps.length (flatP ps)
  ov : wr.ownsRow (w.heap.size + 2) 82 4 v os.length (flatO os)
  gl : g < w.heap.size
  ql : q < wr.heap.size
  q2 : w.heap.size + 2 ≤ q
  qU : q ≠ U
  qV : q ≠ V
  UV : U ≠ V
  Ul : w.heap.size + 2 ≤ U
  Vl : w.heap.size + 2 ≤ V
  uU : u.ownBlock ≠ some U
  uV : u.ownBlock ≠ some V
  uq : u.ownBlock ≠ some q
  vU : v.ownBlock ≠ some U
  vV : v.ownBlock ≠ some V
  vq : v.ownBlock ≠ some q
  uv : u.ownBlock = none ∨ u.ownBlock ≠ v.ownBlock
theorem own_ne {w : World} {base : Nat} {t : TypeId} {k : Nat} {v : Value} {n : Nat} {xs : List Value} (h : w.ownsRow base t k v n xs) {b : Nat} (hb : b < base) : v.ownBlock ≠ some b := fun e => by have := (h.lt b e).1; omega
section
variable {w wr w' : World} {g : Nat} {A : Option Addr} {n cap : Nat} {U V : Nat} {s l c sh : Int} {q m cap' : Nat} {zs : List Int} {a b d : Int} {u v u' v' : Value} {ps ps' : List (Int × Int)} {os os' : List Opn}
theorem RAs.draw (h : RAs w wr g A n cap U V s l c sh q m cap' zs a b d u v ps os) (hg : wr.grownBy w' (some g)) (hc : Cur w' 102 .i64 g A n cap) : RAs w w' g A n cap U V s l c sh q m cap' zs a b d u v ps os := by
  have h1 := h.gl
  have h2 := h.Ul
  have h3 := h.Vl
  have h4 := h.q2
  exact { h with
    cur := hc
    grw := grown_trans h.grw hg
    r1 := h.r1.kept hg (by intro e; injection e with e; omega)
    r2 := h.r2.kept hg (by intro e; injection e with e; omega)
    gr := h.gr.kept hg (by intro e; injection e with e; omega)
    row := h.row.kept hg (by intro e; injection e with e; omega)
    var := h.var.kept hg (by intro e; injection e with e; omega)
    ou := h.ou.kept hg (.inr (own_ne h.ou (by omega)))
    ov := h.ov.kept hg (.inr (own_ne h.ov (by omega)))
    ql := Nat.lt_of_lt_of_le h.ql hg.size }
/-- A cell of the shelf is written that is no list. -/
theorem RAs.set (h : RAs w wr g A n cap U V s l c sh q m cap' zs a b d u v ps os) (i : Nat) (z : Value) {a' b' d' : Int} (e : (#[.int .i64 a, .int .i64 b, .int .i64 d, u, v] : Array Value).setIfInBounds i z = #[.int .i64 a', .int .i64 b', .int .i64 d', u, v]) : RAs w (wr.setCell ⟨V, i, none⟩ z) g A n cap U V s l c sh q m cap' zs a' b' d' u v ps os := by
  have h1 := h.gl
  have h2 := h.Ul
  have h3 := h.Vl
  have h4 := h.qV
  have h5 := h.UV
  have hg : wr.grownBy (wr.setCell ⟨V, i, none⟩ z) (some V) := grown_set (grown_refl wr _) i _
  exact { h with
    cur := h.cur.kept hg (fun r hr => by injection hr with hr; omega)
    grw := grown_new h.grw (p := ⟨V, i, none⟩) (show w.heap.size ≤ V by omega) _
    r1 := h.r1.kept hg (by intro e; injection e with e; omega)
    r2 := h.r2.kept hg (by intro e; injection e with e; omega)
    gr := h.gr.kept hg (by intro e; injection e with e; omega)
    row := h.row.kept hg (by intro e; injection e with e; omega)
    var := e ▸ h.var.set i z
    ou := h.ou.kept hg (.inr h.uV)
    ov := h.ov.kept hg (.inr h.vV)
    ql := Nat.lt_of_lt_of_le h.ql hg.size }
/-- A longer list of opens is written back. -/
theorem RAs.pushV (h : RAs w wr g A n cap U V s l c sh q m cap' zs a b d u v ps os) (hg : wr.grownBy w' v.ownBlock) (hv : w'.ownsRow (w.heap.size + 2) 82 4 v' os'.length (flatO os')) (hat : v.ownBlock = v'.ownBlock ∨ ∃ b, v'.ownBlock = some b ∧ wr.heap.size ≤ b) :
    RAs w (w'.setCell ⟨V, 4, none⟩ v') g A n cap U V s l c sh q m cap' zs a b d u v' ps os' := by
  have h1 := h.gl
  have h2 := h.Ul
  have h3 := h.Vl
  have h4 := h.gr.lt
  have h5 := h.var.lt
  have h6 := h.grw.size
  have h7 := h.UV
  have h8 := h.qV
  have far : ∀ b, b < w.heap.size + 2 → v.ownBlock ≠ some b := fun b hb => own_ne h.ov hb
  have ne : ∀ b, b < wr.heap.size → v.ownBlock ≠ some b → v'.ownBlock ≠ some b := fun b hb hc e => by
    rcases hat with ha | ⟨x, hx, hx'⟩
    · exact hc (ha.trans e)
    · rw [hx] at e
      injection e with e
      omega
  have gs : w'.grownBy (w'.setCell ⟨V, 4, none⟩ v') (some V) := grown_set (grown_refl w' _) 4 _
  have huv' : u.ownBlock = none ∨ u.ownBlock ≠ v'.ownBlock := by
    rcases hb : u.ownBlock with _ | k
    · exact .inl rfl
    · refine .inr fun e => ?_
      refine ne k (h.ou.lt k hb).2 ?_ e.symm
      intro e'
      rcases h.uv with h' | h'
      · rw [h'] at hb; cases hb
      · exact h' (hb.trans e'.symm)
  exact { h with
    cur := (h.cur.kept hg (fun r hr => by have := (h.ov.lt r hr).1; omega)).kept gs (fun r hr => by injection hr with hr; omega)
    grw := grown_far (grown_far h.grw hg (fun r hr => by have := (h.ov.lt r hr).1; omega)) gs (fun r hr => by injection hr with hr; omega)
    r1 := (h.r1.kept hg (far _ (by omega))).kept gs (by intro e; injection e with e; omega)
    r2 := (h.r2.kept hg (far _ (by omega))).kept gs (by intro e; injection e with e; omega)
    gr := (h.gr.kept hg h.vU).kept gs (by intro e; injection e with e; omega)
    row := (h.row.kept hg h.vq).kept gs (by intro e; injection e with e; omega)
    var := (h.var.kept hg h.vV).set 4 v'
    ou := (h.ou.kept hg h.uv).kept gs (.inr h.uV)
    ov := hv.kept gs (.inr (ne _ h5 h.vV))
    ql := Nat.lt_of_lt_of_le h.ql (Nat.le_trans hg.size gs.size)
    vU := ne _ h4 h.vU
    vV := ne _ h5 h.vV
    vq := ne _ h.ql h.vq
    uv := huv' }
/-- A longer certificate is written back. -/
theorem RAs.pushU (h : RAs w wr g A n cap U V s l c sh q m cap' zs a b d u v ps os) (hg : wr.grownBy w' u.ownBlock) (hu : w'.ownsRow (w.heap.size + 2) 94 2 u' ps'.length (flatP ps')) (hat : u.ownBlock = u'.ownBlock ∨ ∃ b, u'.ownBlock = some b ∧ wr.heap.size ≤ b) :
    RAs w (w'.setCell ⟨V, 3, none⟩ u') g A n cap U V s l c sh q m cap' zs a b d u' v ps' os := by
  have h1 := h.gl
  have h2 := h.Ul
  have h3 := h.Vl
  have h4 := h.gr.lt
  have h5 := h.var.lt
  have h6 := h.grw.size
  have h7 := h.UV
  have h8 := h.qV
  have far : ∀ b, b < w.heap.size + 2 → u.ownBlock ≠ some b := fun b hb => own_ne h.ou hb
  have ne : ∀ b, b < wr.heap.size → u.ownBlock ≠ some b → u'.ownBlock ≠ some b := fun b hb hc e => by
    rcases hat with ha | ⟨x, hx, hx'⟩
    · exact hc (ha.trans e)
    · rw [hx] at e
      injection e with e
      omega
  have gs : w'.grownBy (w'.setCell ⟨V, 3, none⟩ u') (some V) := grown_set (grown_refl w' _) 3 _
  have hvu : v.ownBlock = none ∨ v.ownBlock ≠ u.ownBlock := by
    rcases hb : v.ownBlock with _ | k
    · exact .inl rfl
    · refine .inr fun e => ?_
      rcases h.uv with h' | h'
      · rw [h'] at e; cases e
      · exact h' (e.symm.trans hb.symm)
  have huv' : u'.ownBlock = none ∨ u'.ownBlock ≠ v.ownBlock := by
    rcases hb : v.ownBlock with _ | k
    · rcases u'.ownBlock with _ | _
      · exact .inl rfl
      · exact .inr (by simp)
    · refine .inr fun e => ?_
      refine ne k (h.ov.lt k hb).2 ?_ e
      intro e'
      rcases h.uv with h' | h'
      · rw [h'] at e'; cases e'
      · exact h' (e'.trans hb.symm)
  exact { h with
    cur := (h.cur.kept hg (fun r hr => by have := (h.ou.lt r hr).1; omega)).kept gs (fun r hr => by injection hr with hr; omega)
    grw := grown_far (grown_far h.grw hg (fun r hr => by have := (h.ou.lt r hr).1; omega)) gs (fun r hr => by injection hr with hr; omega)
    r1 := (h.r1.kept hg (far _ (by omega))).kept gs (by intro e; injection e with e; omega)
    r2 := (h.r2.kept hg (far _ (by omega))).kept gs (by intro e; injection e with e; omega)
    gr := (h.gr.kept hg h.uU).kept gs (by intro e; injection e with e; omega)
    row := (h.row.kept hg h.uq).kept gs (by intro e; injection e with e; omega)
    var := (h.var.kept hg h.uV).set 3 u'
    ou := hu.kept gs (.inr (ne _ h5 h.uV))
    ov := (h.ov.kept hg hvu).kept gs (.inr h.vV)
    ql := Nat.lt_of_lt_of_le h.ql (Nat.le_trans hg.size gs.size)
    uU := ne _ h4 h.uU
    uV := ne _ h5 h.uV
    uq := ne _ h.ql h.uq
    uv := huv' }
/-- The answer is laid into the results. -/
theorem RAs.fin (h : RAs w wr g A n cap U V s l c sh q m cap' zs a b d u v ps os) (hok : okB s l c sh zs = true) (hs : s ≤ 6) (hc : c ≤ 3) (hm : m ≤ 100) (hp : ps.length ≤ 21) (ho : os.length ≤ 7) (x : Int) (x0 x1 x2 x3 x4 y0 y1 y2 y3 y4 : Value) :
    DrawnGR g A n cap w (.returned (.tuple #[.agg #[.int .i64 s, .int .i64 l, .int .i64 c, .int .i64 sh, .slice (some ⟨q, 0, none⟩) m cap'], .int .i64 x, .agg #[.int .i64 a, .int .i64 b, .int .i64 d, u, v]])) ((((((((((wr.setCell ⟨w.heap.size, 0, none⟩ x0).setCell ⟨w.heap.size, 1, none⟩ x1).setCell ⟨w.heap.size, 2, none⟩ x2).setCell ⟨w.heap.size, 3, none⟩ x3).setCell ⟨w.heap.size, 4, none⟩ x4).setCell ⟨w.heap.size + 1, 0, none⟩ y0).setCell ⟨w.heap.size + 1, 1, none⟩ y1).setCell ⟨w.heap.size + 1, 2, none⟩ y2).setCell ⟨w.heap.size + 1, 3, none⟩ y3).setCell ⟨w.heap.size + 1, 4, none⟩ y4).drew := by
  have h1 := h.gl
  have h2 := h.q2
  have gx := grown5 wr w.heap.size x0 x1 x2 x3 x4
  have gy := grown_drew (grown5 (((((wr.setCell ⟨w.heap.size, 0, none⟩ x0).setCell ⟨w.heap.size, 1, none⟩ x1).setCell ⟨w.heap.size, 2, none⟩ x2).setCell ⟨w.heap.size, 3, none⟩ x3).setCell ⟨w.heap.size, 4, none⟩ x4) (w.heap.size + 1) y0 y1 y2 y3 y4)
  exact ⟨s, l, c, sh, q, m, cap', zs, x, a, b, d, u, v, ps, os, rfl, hok, hs, hc, hm, h2, (h.row.kept gx (by intro e; injection e with e; omega)).kept gy (by intro e; injection e with e; omega), hp, ho, (h.ou.kept gx (.inr (own_ne h.ou (by omega)))).kept gy (.inr (own_ne h.ou (by omega))), (h.ov.kept gx (.inr (own_ne h.ov (by omega)))).kept gy (.inr (own_ne h.ov (by omega))), (h.cur.kept gx (fun r hr => by injection hr with hr; omega)).kept gy (fun r hr => by injection hr with hr; omega), grown_far (grown_far h.grw gx (fun r hr => by injection hr with hr; omega)) gy (fun r hr => by injection hr with hr; omega)⟩
end

end Go.Proofs.YtghdnokjgmmgiaaGreat
