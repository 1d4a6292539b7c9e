/- What the model's draw of a group, a claim and a seal out of the code leaves: the three, the keys can be read; the bytes can be read. -/
import Derived.Test.YtmooajppfjglaaaGreatDrawSpec
import Derived.Test.YtmooajppfjglaaaGreatDrawAny
import Derived.Test.YtmooajppfjglaaaGreatSpecSeal
import Derived.Deep.CutBlock
namespace Go.Proofs.YtmooajppfjglaaaGreat
open Go.RowKit

theorem Row.keptB {w w' : World} {B q o n : Nat} {zs : List Int} {r : Option Nat} (h : Row w B (some ⟨q, o, none⟩) n zs) (hB : B ≤ w.heap.size) (hg : w.grownBy w' r) (hr : ∀ k, r = some k → B ≤ k ∨ k ≠ q) : Row w' B (some ⟨q, o, none⟩) n zs := by
  refine ⟨h.1, fun hn => ?_⟩
  obtain ⟨b, o', hA, hb, hc⟩ := h.2 hn
  cases hA
  refine ⟨_, _, rfl, hb, fun i hi => (World.cell?_of_block (a := ⟨q, o + i, none⟩) (hg.block q (by omega) (fun e => ?_))).trans (hc i hi)⟩
  rcases hr _ e.symm with h | h
  · omega
  · exact h rfl
theorem grown_of_drew {a b : World} {r : Option Nat} (h : a.drew.grownBy b r) : a.grownBy b r := ⟨h.os, h.tape, h.output, h.size, h.block⟩
theorem grown_of_alloc {a b : World} {o : Obj} {r : Option Nat} (h : (a.alloc o).grownBy b r) : a.grownBy b r := grown_trans (grown_bel (bel_alloc a o) r) h
theorem gbox_of_alloc {a b : World} {t : TypeId} {cs : Array Value} {g : Nat} (h : (a.alloc (.cells cs t)).grownBy b (some g)) (hg : g < a.heap.size) : Box b a.heap.size t cs := (Box.new a t cs).kept h (by intro e; injection e with e; omega)
theorem curNew {w : World} {t : TypeId} {k : IntKind} {g : Nat} {A : Option Addr} {n cap : Nat} (h : Cur w t k g A n cap) (o : Obj) : Cur (w.alloc o) t k g A n cap := h.kept (grown_bel (bel_alloc w o) none) (fun q hq => by cases hq)
theorem Box.far5 {w : World} {g R : Nat} {t : TypeId} {cs : Array Value} (h : Box w g t cs) (hR : R ≠ g) (u0 u1 u2 u3 u4 : Value) : Box (((((w.setCell ⟨R, 0, none⟩ u0).setCell ⟨R, 1, none⟩ u1).setCell ⟨R, 2, none⟩ u2).setCell ⟨R, 3, none⟩ u3).setCell ⟨R, 4, none⟩ u4) g t cs :=
  ((((h.far (p := ⟨R, 0, none⟩) hR u0).far (p := ⟨R, 1, none⟩) hR u1).far (p := ⟨R, 2, none⟩) hR u2).far (p := ⟨R, 3, none⟩) hR u3).far (p := ⟨R, 4, none⟩) hR u4
theorem Row.far {w : World} {B q o n : Nat} {zs : List Int} (h : Row w B (some ⟨q, o, none⟩) n zs) {p : Addr} (hp : B ≤ p.block) (u : Value) : Row (w.setCell p u) B (some ⟨q, o, none⟩) n zs :=
  h.keep fun a ha => World.cell?_setCell_other _ _ _ _ (fun e => by rw [e] at hp; omega)

/-- A group, a claim and a seal, drawn, in variables of their own; the results' places are still empty. -/
structure Three (w0 w : World) (P Q S q o m cap' : Nat) (s l c sh : Int) (zs : List Int) (ck ch ct cq cv x t : Int) : Prop where
  gr : Box w P 26 #[.int .i64 s, .int .i64 l, .int .i64 c, .int .i64 sh, .slice (some ⟨q, o, none⟩) m cap']
  cl : Box w Q 156 #[.int .i64 ck, .int .i64 ch, .int .i64 ct, .int .i64 cq, .int .i64 cv]
  se : Box w S 127 #[.int .i64 x, .int .i64 t]
  r1 : Box w w0.heap.size 26 #[.int .i64 0, .int .i64 0, .int .i64 0, .int .i64 0, .slice none 0 0]
  r2 : Box w (w0.heap.size + 1) 156 #[.int .i64 0, .int .i64 0, .int .i64 0, .int .i64 0, .int .i64 0]
  r3 : Box w (w0.heap.size + 1 + 1) 127 #[.int .i64 0, .int .i64 0]
  row : Row w P (some ⟨q, o, none⟩) m zs
  bel : Below w0.heap.size w0 w
  h1 : w0.heap.size + 1 + 1 < P
  h2 : P < Q
  h3 : Q < S

theorem Three.kept {w0 w w' : World} {P Q S q o m cap' g : Nat} {s l c sh : Int} {zs : List Int} {ck ch ct cq cv x t : Int} (h : Three w0 w P Q S q o m cap' s l c sh zs ck ch ct cq cv x t)
    (hg : w.grownBy w' (some g)) (h1 : w0.heap.size + 1 + 1 < g) (h2 : g < P) (h3 : g ≠ q) : Three w0 w' P Q S q o m cap' s l c sh zs ck ch ct cq cv x t := by
  have a1 := h.h1
  have a2 := h.h2
  have a3 := h.h3
  have a4 := h.gr.lt
  exact ⟨h.gr.kept hg (by intro e; injection e with e; omega), h.cl.kept hg (by intro e; injection e with e; omega), h.se.kept hg (by intro e; injection e with e; omega), h.r1.kept hg (by intro e; injection e with e; omega), h.r2.kept hg (by intro e; injection e with e; omega), h.r3.kept hg (by intro e; injection e with e; omega),
    h.row.keptB (by omega) hg (fun k hk => by injection hk with hk; exact .inr (by omega)), bel_grown h.bel hg (by omega), a1, a2, a3⟩
theorem Three.tag {w0 w : World} {P Q S q o m cap' : Nat} {s l c sh : Int} {zs : List Int} {ck ch ct cq cv x t : Int} (h : Three w0 w P Q S q o m cap' s l c sh zs ck ch ct cq cv x t) (y : Int) :
    Three w0 (w.setCell ⟨S, 1, none⟩ (.int .i64 y)) P Q S q o m cap' s l c sh zs ck ch ct cq cv x y := by
  have a1 := h.h1
  have a2 := h.h2
  have a3 := h.h3
  exact ⟨h.gr.far (p := ⟨S, 1, none⟩) (by show S ≠ _; omega) _, h.cl.far (p := ⟨S, 1, none⟩) (by show S ≠ _; omega) _, h.se.set 1 _, h.r1.far (p := ⟨S, 1, none⟩) (by show S ≠ _; omega) _, h.r2.far (p := ⟨S, 1, none⟩) (by show S ≠ _; omega) _, h.r3.far (p := ⟨S, 1, none⟩) (by show S ≠ _; omega) _,
    h.row.far (p := ⟨S, 1, none⟩) (by show P ≤ S; omega) _, h.bel.setCell (p := ⟨S, 1, none⟩) (by show _ ≤ S; omega) _, a1, a2, a3⟩
theorem Three.who {w0 w : World} {P Q S q o m cap' : Nat} {s l c sh : Int} {zs : List Int} {ck ch ct cq cv x t : Int} (h : Three w0 w P Q S q o m cap' s l c sh zs ck ch ct cq cv x t) (y : Int) :
    Three w0 (w.setCell ⟨S, 0, none⟩ (.int .i64 y)) P Q S q o m cap' s l c sh zs ck ch ct cq cv y t := by
  have a1 := h.h1
  have a2 := h.h2
  have a3 := h.h3
  exact ⟨h.gr.far (p := ⟨S, 0, none⟩) (by show S ≠ _; omega) _, h.cl.far (p := ⟨S, 0, none⟩) (by show S ≠ _; omega) _, h.se.set 0 _, h.r1.far (p := ⟨S, 0, none⟩) (by show S ≠ _; omega) _, h.r2.far (p := ⟨S, 0, none⟩) (by show S ≠ _; omega) _, h.r3.far (p := ⟨S, 0, none⟩) (by show S ≠ _; omega) _,
    h.row.far (p := ⟨S, 0, none⟩) (by show P ≤ S; omega) _, h.bel.setCell (p := ⟨S, 0, none⟩) (by show _ ≤ S; omega) _, a1, a2, a3⟩
theorem Three.value {w0 w : World} {P Q S q o m cap' : Nat} {s l c sh : Int} {zs : List Int} {ck ch ct cq cv x t : Int} (h : Three w0 w P Q S q o m cap' s l c sh zs ck ch ct cq cv x t) (y : Int) :
    Three w0 (w.setCell ⟨Q, 4, none⟩ (.int .i64 y)) P Q S q o m cap' s l c sh zs ck ch ct cq y x t := by
  have a1 := h.h1
  have a2 := h.h2
  have a3 := h.h3
  exact ⟨h.gr.far (p := ⟨Q, 4, none⟩) (by show Q ≠ _; omega) _, h.cl.set 4 _, h.se.far (p := ⟨Q, 4, none⟩) (by show Q ≠ _; omega) _, h.r1.far (p := ⟨Q, 4, none⟩) (by show Q ≠ _; omega) _, h.r2.far (p := ⟨Q, 4, none⟩) (by show Q ≠ _; omega) _, h.r3.far (p := ⟨Q, 4, none⟩) (by show Q ≠ _; omega) _,
    h.row.far (p := ⟨Q, 4, none⟩) (by show P ≤ Q; omega) _, h.bel.setCell (p := ⟨Q, 4, none⟩) (by show _ ≤ Q; omega) _, a1, a2, a3⟩

theorem three_mk {w0 w w' : World} {P Q S q o m cap' g : Nat} {s l c sh : Int} {zs : List Int} {ck ch ct cq cv x t : Int} (r1 : Box w w0.heap.size 26 #[.int .i64 0, .int .i64 0, .int .i64 0, .int .i64 0, .slice none 0 0])
    (r2 : Box w (w0.heap.size + 1) 156 #[.int .i64 0, .int .i64 0, .int .i64 0, .int .i64 0, .int .i64 0]) (r3 : Box w (w0.heap.size + 1 + 1) 127 #[.int .i64 0, .int .i64 0])
    (gr : Box w P 26 #[.int .i64 s, .int .i64 l, .int .i64 c, .int .i64 sh, .slice (some ⟨q, o, none⟩) m cap']) (cl : Box w Q 156 #[.int .i64 ck, .int .i64 ch, .int .i64 ct, .int .i64 cq, .int .i64 cv]) (row : Row w P (some ⟨q, o, none⟩) m zs) (bel : Below w0.heap.size w0 w)
    (hg : w.grownBy w' (some g)) (h1 : w0.heap.size + 1 + 1 < g) (h2 : g < P) (h3 : g ≠ q) (h4 : P < Q) (h5 : Q < S) (se : Box w' S 127 #[.int .i64 x, .int .i64 t]) :
    Three w0 w' P Q S q o m cap' s l c sh zs ck ch ct cq cv x t := by
  have a4 := gr.lt
  exact ⟨gr.kept hg (by intro e; injection e with e; omega), cl.kept hg (by intro e; injection e with e; omega), se, r1.kept hg (by intro e; injection e with e; omega), r2.kept hg (by intro e; injection e with e; omega), r3.kept hg (by intro e; injection e with e; omega),
    row.keptB (by omega) hg (fun k hk => by injection hk with hk; exact .inr (by omega)), bel_grown bel hg (by omega), by omega, h4, h5⟩

theorem put5_keep {w0 w : World} {B q o m R : Nat} {zs : List Int} (row : Row w B (some ⟨q, o, none⟩) m zs) (bel : Below w0.heap.size w0 w) (hB : B ≤ w.heap.size) (hR : w0.heap.size ≤ R) (hq : R ≠ q) (u0 u1 u2 u3 u4 : Value) :
    Row (((((w.setCell ⟨R, 0, none⟩ u0).setCell ⟨R, 1, none⟩ u1).setCell ⟨R, 2, none⟩ u2).setCell ⟨R, 3, none⟩ u3).setCell ⟨R, 4, none⟩ u4) B (some ⟨q, o, none⟩) m zs ∧ Below w0.heap.size w0 (((((w.setCell ⟨R, 0, none⟩ u0).setCell ⟨R, 1, none⟩ u1).setCell ⟨R, 2, none⟩ u2).setCell ⟨R, 3, none⟩ u3).setCell ⟨R, 4, none⟩ u4) ∧
    B ≤ (((((w.setCell ⟨R, 0, none⟩ u0).setCell ⟨R, 1, none⟩ u1).setCell ⟨R, 2, none⟩ u2).setCell ⟨R, 3, none⟩ u3).setCell ⟨R, 4, none⟩ u4).heap.size := by
  have G := grown5 w R u0 u1 u2 u3 u4
  exact ⟨row.keptB hB G (fun k hk => by injection hk with hk; exact .inr (by omega)), bel_grown bel G hR, Nat.le_trans hB G.size⟩
theorem put2_keep {w0 w : World} {B q o m R : Nat} {zs : List Int} (row : Row w B (some ⟨q, o, none⟩) m zs) (bel : Below w0.heap.size w0 w) (hB : B ≤ w.heap.size) (hR : w0.heap.size ≤ R) (hq : R ≠ q) (u0 u1 : Value) :
    Row ((w.setCell ⟨R, 0, none⟩ u0).setCell ⟨R, 1, none⟩ u1) B (some ⟨q, o, none⟩) m zs ∧ Below w0.heap.size w0 ((w.setCell ⟨R, 0, none⟩ u0).setCell ⟨R, 1, none⟩ u1) ∧ B ≤ ((w.setCell ⟨R, 0, none⟩ u0).setCell ⟨R, 1, none⟩ u1).heap.size := by
  have G := grown2 w R u0 u1
  exact ⟨row.keptB hB G (fun k hk => by injection hk with hk; exact .inr (by omega)), bel_grown bel G hR, Nat.le_trans hB G.size⟩

/-- The three go into the results' places. -/
theorem Three.fin {w0 w : World} {P Q S q o m cap' : Nat} {s l c sh : Int} {zs : List Int} {ck ch ct cq cv x t : Int} (h : Three w0 w P Q S q o m cap' s l c sh zs ck ch ct cq cv x t) (hq : w0.heap.size + 1 + 1 < q) (w' : World)
    (hw : ((((((((((((w.setCell ⟨w0.heap.size, 0, none⟩ (.int .i64 s)).setCell ⟨w0.heap.size, 1, none⟩ (.int .i64 l)).setCell ⟨w0.heap.size, 2, none⟩ (.int .i64 c)).setCell ⟨w0.heap.size, 3, none⟩ (.int .i64 sh)).setCell ⟨w0.heap.size, 4, none⟩ (.slice (some ⟨q, o, none⟩) m cap')).setCell ⟨w0.heap.size + 1, 0, none⟩ (.int .i64 ck)).setCell ⟨w0.heap.size + 1, 1, none⟩ (.int .i64 ch)).setCell ⟨w0.heap.size + 1, 2, none⟩ (.int .i64 ct)).setCell ⟨w0.heap.size + 1, 3, none⟩ (.int .i64 cq)).setCell ⟨w0.heap.size + 1, 4, none⟩ (.int .i64 cv)).setCell ⟨w0.heap.size + 1 + 1, 0, none⟩ (.int .i64 x)).setCell ⟨w0.heap.size + 1 + 1, 1, none⟩ (.int .i64 t)) = w') :
    Box w' w0.heap.size 26 #[.int .i64 s, .int .i64 l, .int .i64 c, .int .i64 sh, .slice (some ⟨q, o, none⟩) m cap'] ∧ Box w' (w0.heap.size + 1) 156 #[.int .i64 ck, .int .i64 ch, .int .i64 ct, .int .i64 cq, .int .i64 cv] ∧ Box w' (w0.heap.size + 1 + 1) 127 #[.int .i64 x, .int .i64 t] ∧
    Row w' w'.heap.size (some ⟨q, o, none⟩) m zs ∧ Below w0.heap.size w0 w' := by
  have a1 := h.h1
  have a4 := h.gr.lt
  have n1 : w0.heap.size ≠ w0.heap.size + 1 := by omega
  have n2 : w0.heap.size ≠ w0.heap.size + 1 + 1 := by omega
  have n3 : w0.heap.size + 1 ≠ w0.heap.size := by omega
  have n4 : w0.heap.size + 1 ≠ w0.heap.size + 1 + 1 := by omega
  have n5 : w0.heap.size + 1 + 1 ≠ w0.heap.size := by omega
  have n6 : w0.heap.size + 1 + 1 ≠ w0.heap.size + 1 := by omega
  have R := h.r1.put5 (.int .i64 s) (.int .i64 l) (.int .i64 c) (.int .i64 sh) (.slice (some ⟨q, o, none⟩) m cap')
  have C := (h.r2.far5 n1 (.int .i64 s) (.int .i64 l) (.int .i64 c) (.int .i64 sh) (.slice (some ⟨q, o, none⟩) m cap')).put5 (.int .i64 ck) (.int .i64 ch) (.int .i64 ct) (.int .i64 cq) (.int .i64 cv)
  have S := ((h.r3.far5 n2 (.int .i64 s) (.int .i64 l) (.int .i64 c) (.int .i64 sh) (.slice (some ⟨q, o, none⟩) m cap')).far5 n4 (.int .i64 ck) (.int .i64 ch) (.int .i64 ct) (.int .i64 cq) (.int .i64 cv)).put2 (.int .i64 x) (.int .i64 t)
  obtain ⟨W1, E1, s1⟩ := put5_keep h.row h.bel (by omega) (Nat.le_refl _) (show w0.heap.size ≠ q by omega) (.int .i64 s) (.int .i64 l) (.int .i64 c) (.int .i64 sh) (.slice (some ⟨q, o, none⟩) m cap')
  obtain ⟨W2, E2, s2⟩ := put5_keep W1 E1 s1 (show w0.heap.size ≤ w0.heap.size + 1 by omega) (show w0.heap.size + 1 ≠ q by omega) (.int .i64 ck) (.int .i64 ch) (.int .i64 ct) (.int .i64 cq) (.int .i64 cv)
  obtain ⟨W3, E3, s3⟩ := put2_keep W2 E2 s2 (show w0.heap.size ≤ w0.heap.size + 1 + 1 by omega) (show w0.heap.size + 1 + 1 ≠ q by omega) (.int .i64 x) (.int .i64 t)
  refine ⟨?_, ?_, ?_, ?_, ?_⟩
  · rw [← hw]; exact (R.far5 n3 _ _ _ _ _).far2 n5 _ _
  · rw [← hw]; exact C.far2 n6 _ _
  · rw [← hw]; exact S
  · rw [← hw]; exact W3.more s3
  · rw [← hw]; exact E3

/-- A group whose keys can be read, a claim and a seal. -/
def MadeRight (w : World) (e : Ending) (w' : World) : Prop :=
  ∃ (s l c sh : Int) (q o m cap' : Nat) (zs : List Int) (ck ch ct cq cv x t : Int), e = .returned (.tuple #[.agg #[.int .i64 s, .int .i64 l, .int .i64 c, .int .i64 sh, .slice (some ⟨q, o, none⟩) m cap'], .agg #[.int .i64 ck, .int .i64 ch, .int .i64 ct, .int .i64 cq, .int .i64 cv], .agg #[.int .i64 x, .int .i64 t]]) ∧
    Row w' w'.heap.size (some ⟨q, o, none⟩) m zs ∧ m ≤ 100 ∧ Below w.heap.size w w'

end Go.Proofs.YtmooajppfjglaaaGreat

/- What the model's draw of seals out of the code leaves: at most twenty of them; the bytes can be read. -/
namespace Go.Proofs.YtmooajppfjglaaaGreat
open Go.RowKit

theorem l3M_is (w : World) : Calls Tryz.prog 158 #[] w fun e w' => e = .returned (.int .i64 2147483647) ∧ w = w' := by
  go_enter Tryz.func158, Tryz.ntmps158
  go_wp2
  go_ret
  exact ⟨rfl, rfl⟩
/-- What the drawing of seals keeps: the cursor, the group, the claim, the seals so far. -/
structure SealsAt (w wr : World) (g : Nat) (A : Option Addr) (n cap : Nat) (s l c sh : Int) (q o m cap' : Nat) (zs : List Int) (ck ch ct cq cv : Int) (p pc : Nat) (ps : List (Int × Int)) : Prop where
  cur : Cur wr 132 .i64 g A n cap
  grw : w.grownBy wr (some g)
  gr : Box wr w.heap.size 26 #[.int .i64 s, .int .i64 l, .int .i64 c, .int .i64 sh, .slice (some ⟨q, o, none⟩) m cap']
  cl : Box wr (w.heap.size + 1) 156 #[.int .i64 ck, .int .i64 ch, .int .i64 ct, .int .i64 cq, .int .i64 cv]
  own : wr.ownsRow (w.heap.size + 2) 127 2 (.slice (some ⟨p, 0, none⟩) ps.length pc) ps.length (flatP ps)
  row : Row wr w.heap.size (some ⟨q, o, none⟩) m zs
section
variable {w wr w' : World} {g : Nat} {A : Option Addr} {n cap : Nat} {s l c sh : Int} {q o m cap' : Nat} {zs : List Int} {ck ch ct cq cv : Int} {p pc : Nat} {ps : List (Int × Int)}
theorem SealsAt.later (h : SealsAt w wr g A n cap s l c sh q o m cap' zs ck ch ct cq cv p pc ps) (hb : Below wr.heap.size wr w') : SealsAt w w' g A n cap s l c sh q o m cap' zs ck ch ct cq cv p pc ps :=
  ⟨h.cur.kept (grown_bel hb none) (fun q hq => by cases hq), grown_trans h.grw (grown_bel hb _), h.gr.later hb h.gr.lt, h.cl.later hb h.cl.lt, h.own.kept (grown_bel hb none) (by simp [Value.ownBlock]), h.row.below hb h.grw.size⟩
theorem SealsAt.draw (h : SealsAt w wr g A n cap s l c sh q o m cap' zs ck ch ct cq cv p pc ps) (hg : wr.grownBy w' (some g)) (hc : Cur w' 132 .i64 g A n cap) (hgl : g < w.heap.size) (hgq : g ≠ q) : SealsAt w w' g A n cap s l c sh q o m cap' zs ck ch ct cq cv p pc ps :=
  ⟨hc, grown_trans h.grw hg, h.gr.kept hg (by intro e; injection e with e; omega), h.cl.kept hg (by intro e; injection e with e; omega), h.own.kept hg (.inr (by have := (h.own.lt p rfl).1; simp [Value.ownBlock]; omega)), h.row.keptB h.grw.size hg (fun k hk => by injection hk with hk; exact .inr (by omega))⟩
theorem SealsAt.push {a b : Int} {ob : Obj} {gg cap2 : Nat} (h : SealsAt w wr g A n cap s l c sh q o m cap' zs ck ch ct cq cv p pc ps)
    (hown : w'.ownsRow (w.heap.size + 2) 127 2 (.slice (some ⟨gg, 0, none⟩) (ps.length + 1) cap2) (ps.length + 1) (flatP ps ++ [.int .i64 a, .int .i64 b])) (hg : (wr.alloc ob).grownBy w' (Value.ownBlock (.slice (some ⟨p, 0, none⟩) ps.length pc))) (hgl : g < w.heap.size) : SealsAt w w' g A n cap s l c sh q o m cap' zs ck ch ct cq cv gg cap2 (ps ++ [(a, b)]) := by
  have hp := (h.own.lt p rfl).1
  have hg : (wr.alloc ob).grownBy w' (some p) := hg
  have h2 := h.later (bel_alloc wr ob)
  have hs := h.grw.size
  refine ⟨h2.cur.kept hg (fun r hr => by injection hr with hr; omega), ⟨hg.os.trans h2.grw.os, hg.tape.trans h2.grw.tape, hg.output.trans h2.grw.output, Nat.le_trans h2.grw.size hg.size, fun k hk hne => (hg.block k (Nat.lt_of_lt_of_le hk h2.grw.size) (by intro e; injection e with e; omega)).trans (h2.grw.block k hk hne)⟩,
    h2.gr.kept hg (by intro e; injection e with e; omega), h2.cl.kept hg (by intro e; injection e with e; omega), ?_, h2.row.keptB h2.grw.size hg (fun k hk => by injection hk with hk; exact .inl (by omega))⟩
  rw [flatP_snoc]
  simpa using hown
/-- The tag of the seal at hand is turned. -/
theorem SealsAt.tag (h : SealsAt w wr g A n cap s l c sh q o m cap' zs ck ch ct cq cv p pc ps) {S : Nat} (hS : w.heap.size + 1 < S) (hp : p ≠ S) (u : Value) (hgl : g < w.heap.size) : SealsAt w (wr.setCell ⟨S, 1, none⟩ u) g A n cap s l c sh q o m cap' zs ck ch ct cq cv p pc ps := by
  have hg : wr.grownBy (wr.setCell ⟨S, 1, none⟩ u) (some S) := grown_set (grown_refl wr _) 1 u
  exact ⟨h.cur.kept hg (fun r hr => by injection hr with hr; omega), grown_new h.grw (p := ⟨S, 1, none⟩) (show w.heap.size ≤ S by omega) u, h.gr.kept hg (by intro e; injection e with e; omega), h.cl.kept hg (by intro e; injection e with e; omega), h.own.kept hg (.inr (by simp [Value.ownBlock]; omega)), h.row.keptB h.grw.size hg (fun k hk => by injection hk with hk; exact .inl (by omega))⟩
end
/-- A list of at most twenty seals, and the cursor further on. -/
def DrawnSeals (g : Nat) (A : Option Addr) (n cap : Nat) (w : World) (e : Ending) (w' : World) : Prop :=
  ∃ (p pc : Nat) (ps : List (Int × Int)), e = .returned (.slice (some ⟨p, 0, none⟩) ps.length pc) ∧ w'.ownsRow (w.heap.size + 2) 127 2 (.slice (some ⟨p, 0, none⟩) ps.length pc) ps.length (flatP ps) ∧ ps.length ≤ 20 ∧ Cur w' 132 .i64 g A n cap ∧ w.grownBy w' (some g)

end Go.Proofs.YtmooajppfjglaaaGreat
