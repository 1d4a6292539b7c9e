/- What the model's draw of a group, a claim and a seal out of the code leaves: the three, the keys can be read; the bytes can be read. -/
import Derived.Test.YtjdepjpjjgkmbaaGreatDrawSpec
import Derived.Test.YtjdepjpjjgkmbaaGreatDrawAny
import Derived.Test.YtjdepjpjjgkmbaaGreatSpecSeal
import Derived.Deep.CutBlock
namespace Go.Proofs.YtjdepjpjjgkmbaaGreat
open Go.RowKit

theorem Row.keptB {w w' : World} {B q o n : Nat} {zs : List Int} {r : Option Nat} (h : Row w B (some ⟨q, o, none⟩) n zs) (hB : B ≤ w.heap.size) (hg : w.grownBy w' r) (hr : ∀ k, r = some k → B ≤ k ∨ k ≠ q) : Row w' B (some ⟨q, o, none⟩) n zs := by
  refine ⟨h.1, fun hn => ?_⟩
  obtain ⟨b, o', hA, hb, hc⟩ := h.2 hn
  cases hA
  refine ⟨_, _, rfl, hb, fun i hi => (World.cell?_of_block (a := ⟨q, o + i, none⟩) (hg.block q (by omega) (fun e => ?_))).trans (hc i hi)⟩
  rcases hr _ e.symm with h | h
  · omega
  · exact h rfl
theorem grown_of_drew {a b : World} {r : Option Nat} (h : a.drew.grownBy b r) : a.grownBy b r := ⟨h.os, h.tape, h.output, h.size, h.block⟩
theorem grown_of_alloc {a b : World} {o : Obj} {r : Option Nat} (h : (a.alloc o).grownBy b r) : a.grownBy b r := grown_trans (grown_bel (bel_alloc a o) r) h
theorem gbox_of_alloc {a b : World} {t : TypeId} {cs : Array Value} {g : Nat} (h : (a.alloc (.cells cs t)).grownBy b (some g)) (hg : g < a.heap.size) : Box b a.heap.size t cs := (Box.new a t cs).kept h (by intro e; injection e with e; omega)
theorem curNew {w : World} {t : TypeId} {k : IntKind} {g : Nat} {A : Option Addr} {n cap : Nat} (h : Cur w t k g A n cap) (o : Obj) : Cur (w.alloc o) t k g A n cap := h.kept (grown_bel (bel_alloc w o) none) (fun q hq => by cases hq)
theorem Box.far5 {w : World} {g R : Nat} {t : TypeId} {cs : Array Value} (h : Box w g t cs) (hR : R ≠ g) (u0 u1 u2 u3 u4 : Value) : Box (((((w.setCell ⟨R, 0, none⟩ u0).setCell ⟨R, 1, none⟩ u1).setCell ⟨R, 2, none⟩ u2).setCell ⟨R, 3, none⟩ u3).setCell ⟨R, 4, none⟩ u4) g t cs :=
  ((((h.far (p := ⟨R, 0, none⟩) hR u0).far (p := ⟨R, 1, none⟩) hR u1).far (p := ⟨R, 2, none⟩) hR u2).far (p := ⟨R, 3, none⟩) hR u3).far (p := ⟨R, 4, none⟩) hR u4
theorem Row.far {w : World} {B q o n : Nat} {zs : List Int} (h : Row w B (some ⟨q, o, none⟩) n zs) {p : Addr} (hp : B ≤ p.block) (u : Value) : Row (w.setCell p u) B (some ⟨q, o, none⟩) n zs :=
  h.keep fun a ha => World.cell?_setCell_other _ _ _ _ (fun e => by rw [e] at hp; omega)

/-- A group, a claim and a seal, drawn, in variables of their own; the results' places are still empty. -/
structure Three (w0 w : World) (P Q S q o m cap' : Nat) (s l c sh : Int) (zs : List Int) (ck ch ct cq cv x t : Int) : Prop where
  gr : Box w P 26 #[.int .i64 s, .int .i64 l, .int .i64 c, .int .i64 sh, .slice (some ⟨q, o, none⟩) m cap']
  cl : Box w Q 180 #[.int .i64 ck, .int .i64 ch, .int .i64 ct, .int .i64 cq, .int .i64 cv]
  se : Box w S 136 #[.int .i64 x, .int .i64 t]
  r1 : Box w w0.heap.size 26 #[.int .i64 0, .int .i64 0, .int .i64 0, .int .i64 0, .slice none 0 0]
  r2 : Box w (w0.heap.size + 1) 180 #[.int .i64 0, .int .i64 0, .int .i64 0, .int .i64 0, .int .i64 0]
  r3 : Box w (w0.heap.size + 1 + 1) 136 #[.int .i64 0, .int .i64 0]
  row : Row w P (some ⟨q, o, none⟩) m zs
  bel : Below w0.heap.size w0 w
  h1 : w0.heap.size + 1 + 1 < P
  h2 : P < Q
  h3 : Q < S

theorem Three.kept {w0 w w' : World} {P Q S q o m cap' g : Nat} {s l c sh : Int} {zs : List Int} {ck ch ct cq cv x t : Int} (h : Three w0 w P Q S q o m cap' s l c sh zs ck ch ct cq cv x t)
    (hg : w.grownBy w' (some g)) (h1 : w0.heap.size + 1 + 1 < g) (h2 : g < P) (h3 : g ≠ q) : Three w0 w' P Q S q o m cap' s l c sh zs ck ch ct cq cv x t := by
  have a1 := h.h1
  have a2 := h.h2
  have a3 := h.h3
  have a4 := h.gr.lt
  exact ⟨h.gr.kept hg (by intro e; injection e with e; omega), h.cl.kept hg (by intro e; injection e with e; omega), h.se.kept hg (by intro e; injection e with e; omega), h.r1.kept hg (by intro e; injection e with e; omega), h.r2.kept hg (by intro e; injection e with e; omega), h.r3.kept hg (by intro e; injection e with e; omega),
    h.row.keptB (by omega) hg (fun k hk => by injection hk with hk; exact .inr (by omega)), bel_grown h.bel hg (by omega), a1, a2, a3⟩
theorem Three.tag {w0 w : World} {P Q S q o m cap' : Nat} {s l c sh : Int} {zs : List Int} {ck ch ct cq cv x t : Int} (h : Three w0 w P Q S q o m cap' s l c sh zs ck ch ct cq cv x t) (y : Int) :
    Three w0 (w.setCell ⟨S, 1, none⟩ (.int .i64 y)) P Q S q o m cap' s l c sh zs ck ch ct cq cv x y := by
  have a1 := h.h1
  have a2 := h.h2
  have a3 := h.h3
  exact ⟨h.gr.far (p := ⟨S, 1, none⟩) (by show S ≠ _; omega) _, h.cl.far (p := ⟨S, 1, none⟩) (by show S ≠ _; omega) _, h.se.set 1 _, h.r1.far (p := ⟨S, 1, none⟩) (by show S ≠ _; omega) _, h.r2.far (p := ⟨S, 1, none⟩) (by show S ≠ _; omega) _, h.r3.far (p := ⟨S, 1, none⟩) (by show S ≠ _; omega) _,
    h.row.far (p := ⟨S, 1, none⟩) (by show P ≤ S; omega) _, h.bel.setCell (p := ⟨S, 1, none⟩) (by show _ ≤ S; omega) _, a1, a2, a3⟩
theorem Three.who {w0 w : World} {P Q S q o m cap' : Nat} {s l c sh : Int} {zs : List Int} {ck ch ct cq cv x t : Int} (h : Three w0 w P Q S q o m cap' s l c sh zs ck ch ct cq cv x t) (y : Int) :
    Three w0 (w.setCell ⟨S, 0, none⟩ (.int .i64 y)) P Q S q o m cap' s l c sh zs ck ch ct cq cv y t := by
  have a1 := h.h1
  have a2 := h.h2
  have a3 := h.h3
  exact ⟨h.gr.far (p := ⟨S, 0, none⟩) (by show S ≠ _; omega) _, h.cl.far (p := ⟨S, 0, none⟩) (by show S ≠ _; omega) _, h.se.set 0 _, h.r1.far (p := ⟨S, 0, none⟩) (by show S ≠ _; omega) _, h.r2.far (p := ⟨S, 0, none⟩) (by show S ≠ _; omega) _, h.r3.far (p := ⟨S, 0, none⟩) (by show S ≠ _; omega) _,
    h.row.far (p := ⟨S, 0, none⟩) (by show P ≤ S; omega) _, h.bel.setCell (p := ⟨S, 0, none⟩) (by show _ ≤ S; omega) _, a1, a2, a3⟩
theorem Three.value {w0 w : World} {P Q S q o m cap' : Nat} {s l c sh : Int} {zs : List Int} {ck ch ct cq cv x t : Int} (h : Three w0 w P Q S q o m cap' s l c sh zs ck ch ct cq cv x t) (y : Int) :
    Three w0 (w.setCell ⟨Q, 4, none⟩ (.int .i64 y)) P Q S q o m cap' s l c sh zs ck ch ct cq y x t := by
  have a1 := h.h1
  have a2 := h.h2
  have a3 := h.h3
  exact ⟨h.gr.far (p := ⟨Q, 4, none⟩) (by show Q ≠ _; omega) _, h.cl.set 4 _, h.se.far (p := ⟨Q, 4, none⟩) (by show Q ≠ _; omega) _, h.r1.far (p := ⟨Q, 4, none⟩) (by show Q ≠ _; omega) _, h.r2.far (p := ⟨Q, 4, none⟩) (by show Q ≠ _; omega) _, h.r3.far (p := ⟨Q, 4, none⟩) (by show Q ≠ _; omega) _,
    h.row.far (p := ⟨Q, 4, none⟩) (by show P ≤ Q; omega) _, h.bel.setCell (p := ⟨Q, 4, none⟩) (by show _ ≤ Q; omega) _, a1, a2, a3⟩

theorem three_mk {w0 w w' : World} {P Q S q o m cap' g : Nat} {s l c sh : Int} {zs : List Int} {ck ch ct cq cv x t : Int} (r1 : Box w w0.heap.size 26 #[.int .i64 0, .int .i64 0, .int .i64 0, .int .i64 0, .slice none 0 0])
    (r2 : Box w (w0.heap.size + 1) 180 #[.int .i64 0, .int .i64 0, .int .i64 0, .int .i64 0, .int .i64 0]) (r3 : Box w (w0.heap.size + 1 + 1) 136 #[.int .i64 0, .int .i64 0])
    (gr : Box w P 26 #[.int .i64 s, .int .i64 l, .int .i64 c, .int .i64 sh, .slice (some ⟨q, o, none⟩) m cap']) (cl : Box w Q 180 #[.int .i64 ck, .int .i64 ch, .int .i64 ct, .int .i64 cq, .int .i64 cv]) (row : Row w P (some ⟨q, o, none⟩) m zs) (bel : Below w0.heap.size w0 w)
    (hg : w.grownBy w' (some g)) (h1 : w0.heap.size + 1 + 1 < g) (h2 : g < P) (h3 : g ≠ q) (h4 : P < Q) (h5 : Q < S) (se : Box w' S 136 #[.int .i64 x, .int .i64 t]) :
    Three w0 w' P Q S q o m cap' s l c sh zs ck ch ct cq cv x t := by
  have a4 := gr.lt
  exact ⟨gr.kept hg (by intro e; injection e with e; omega), cl.kept hg (by intro e; injection e with e; omega), se, r1.kept hg (by intro e; injection e with e; omega), r2.kept hg (by intro e; injection e with e; omega), r3.kept hg (by intro e; injection e with e; omega),
    row.keptB (by omega) hg (fun k hk => by injection hk with hk; exact .inr (by omega)), bel_grown bel hg (by omega), by omega, h4, h5⟩

theorem put5_keep {w0 w : World} {B q o m R : Nat} {zs : List Int} (row : Row w B (some ⟨q, o, none⟩) m zs) (bel : Below w0.heap.size w0 w) (hB : B ≤ w.heap.size) (hR : w0.heap.size ≤ R) (hq : R ≠ q) (u0 u1 u2 u3 u4 : Value) :
    Row (((((w.setCell ⟨R, 0, none⟩ u0).setCell ⟨R, 1, none⟩ u1).setCell ⟨R, 2, none⟩ u2).setCell ⟨R, 3, none⟩ u3).setCell ⟨R, 4, none⟩ u4) B (some ⟨q, o, none⟩) m zs ∧ Below w0.heap.size w0 (((((w.setCell ⟨R, 0, none⟩ u0).setCell ⟨R, 1, none⟩ u1).setCell ⟨R, 2, none⟩ u2).setCell ⟨R, 3, none⟩ u3).setCell ⟨R, 4, none⟩ u4) ∧
    B ≤ (((((w.setCell ⟨R, 0, none⟩ u0).setCell ⟨R, 1, none⟩ u1).setCell ⟨R, 2, none⟩ u2).setCell ⟨R, 3, none⟩ u3).setCell ⟨R, 4, none⟩ u4).heap.size := by
  have G := grown5 w R u0 u1 u2 u3 u4
  exact ⟨row.keptB hB G (fun k hk => by injection hk with hk; exact .inr (by omega)), bel_grown bel G hR, Nat.le_trans hB G.size⟩
theorem put2_keep {w0 w : World} {B q o m R : Nat} {zs : List Int} (row : Row w B (some ⟨q, o, none⟩) m zs) (bel : Below w0.heap.size w0 w) (hB : B ≤ w.heap.size) (hR : w0.heap.size ≤ R) (hq : R ≠ q) (u0 u1 : Value) :
    Row ((w.setCell ⟨R, 0, none⟩ u0).setCell ⟨R, 1, none⟩ u1) B (some ⟨q, o, none⟩) m zs ∧ Below w0.heap.size w0 ((w.setCell ⟨R, 0, none⟩ u0).setCell ⟨R, 1, none⟩ u1) ∧ B ≤ ((w.setCell ⟨R, 0, none⟩ u0).setCell ⟨R, 1, none⟩ u1).heap.size := by
  have G := grown2 w R u0 u1
  exact ⟨row.keptB hB G (fun k hk => by injection hk with hk; exact .inr (by omega)), bel_grown bel G hR, Nat.le_trans hB G.size⟩

/-- The three go into the results' places. -/
theorem Three.fin {w0 w : World} {P Q S q o m cap' : Nat} {s l c sh : Int} {zs : List Int} {ck ch ct cq cv x t : Int} (h : Three w0 w P Q S q o m cap' s l c sh zs ck ch ct cq cv x t) (hq : w0.heap.size + 1 + 1 < q) (w' : World)
    (hw : ((((((((((((w.setCell ⟨w0.heap.size, 0, none⟩ (.int .i64 s)).setCell ⟨w0.heap.size, 1, none⟩ (.int .i64 l)).setCell ⟨w0.heap.size, 2, none⟩ (.int .i64 c)).setCell ⟨w0.heap.size, 3, none⟩ (.int .i64 sh)).setCell ⟨w0.heap.size, 4, none⟩ (.slice (some ⟨q, o, none⟩) m cap')).setCell ⟨w0.heap.size + 1, 0, none⟩ (.int .i64 ck)).setCell ⟨w0.heap.size + 1, 1, none⟩ (.int .i64 ch)).setCell ⟨w0.heap.size + 1, 2, none⟩ (.int .i64 ct)).setCell ⟨w0.heap.size + 1, 3, none⟩ (.int .i64 cq)).setCell ⟨w0.heap.size + 1, 4, none⟩ (.int .i64 cv)).setCell ⟨w0.heap.size + 1 + 1, 0, none⟩ (.int .i64 x)).setCell ⟨w0.heap.size + 1 + 1, 1, none⟩ (.int .i64 t)) = w') :
    Box w' w0.heap.size 26 #[.int .i64 s, .int .i64 l, .int .i64 c, .int .i64 sh, .slice (some ⟨q, o, none⟩) m cap'] ∧ Box w' (w0.heap.size + 1) 180 #[.int .i64 ck, .int .i64 ch, .int .i64 ct, .int .i64 cq, .int .i64 cv] ∧ Box w' (w0.heap.size + 1 + 1) 136 #[.int .i64 x, .int .i64 t] ∧
    Row w' w'.heap.size (some ⟨q, o, none⟩) m zs ∧ Below w0.heap.size w0 w' := by
  have a1 := h.h1
  have a4 := h.gr.lt
  have n1 : w0.heap.size ≠ w0.heap.size + 1 := by omega
  have n2 : w0.heap.size ≠ w0.heap.size + 1 + 1 := by omega
  have n3 : w0.heap.size + 1 ≠ w0.heap.size := by omega
  have n4 : w0.heap.size + 1 ≠ w0.heap.size + 1 + 1 := by omega
  have n5 : w0.heap.size + 1 + 1 ≠ w0.heap.size := by omega
  have n6 : w0.heap.size + 1 + 1 ≠ w0.heap.size + 1 := by omega
  have R := h.r1.put5 (.int .i64 s) (.int .i64 l) (.int .i64 c) (.int .i64 sh) (.slice (some ⟨q, o, none⟩) m cap')
  have C := (h.r2.far5 n1 (.int .i64 s) (.int .i64 l) (.int .i64 c) (.int .i64 sh) (.slice (some ⟨q, o, none⟩) m cap')).put5 (.int .i64 ck) (.int .i64 ch) (.int .i64 ct) (.int .i64 cq) (.int .i64 cv)
  have S := ((h.r3.far5 n2 (.int .i64 s) (.int .i64 l) (.int .i64 c) (.int .i64 sh) (.slice (some ⟨q, o, none⟩) m cap')).far5 n4 (.int .i64 ck) (.int .i64 ch) (.int .i64 ct) (.int .i64 cq) (.int .i64 cv)).put2 (.int .i64 x) (.int .i64 t)
  obtain ⟨W1, E1, s1⟩ := put5_keep h.row h.bel (by omega) (Nat.le_refl _) (show w0.heap.size ≠ q by omega) (.int .i64 s) (.int .i64 l) (.int .i64 c) (.int .i64 sh) (.slice (some ⟨q, o, none⟩) m cap')
  obtain ⟨W2, E2, s2⟩ := put5_keep W1 E1 s1 (show w0.heap.size ≤ w0.heap.size + 1 by omega) (show w0.heap.size + 1 ≠ q by omega) (.int .i64 ck) (.int .i64 ch) (.int .i64 ct) (.int .i64 cq) (.int .i64 cv)
  obtain ⟨W3, E3, s3⟩ := put2_keep W2 E2 s2 (show w0.heap.size ≤ w0.heap.size + 1 + 1 by omega) (show w0.heap.size + 1 + 1 ≠ q by omega) (.int .i64 x) (.int .i64 t)
  refine ⟨?_, ?_, ?_, ?_, ?_⟩
  · rw [← hw]; exact (R.far5 n3 _ _ _ _ _).far2 n5 _ _
  · rw [← hw]; exact C.far2 n6 _ _
  · rw [← hw]; exact S
  · rw [← hw]; exact W3.more s3
  · rw [← hw]; exact E3

/-- A group whose keys can be read, a claim and a seal. -/
def MadeRight (w : World) (e : Ending) (w' : World) : Prop :=
  ∃ (s l c sh : Int) (q o m cap' : Nat) (zs : List Int) (ck ch ct cq cv x t : Int), e = .returned (.tuple #[.agg #[.int .i64 s, .int .i64 l, .int .i64 c, .int .i64 sh, .slice (some ⟨q, o, none⟩) m cap'], .agg #[.int .i64 ck, .int .i64 ch, .int .i64 ct, .int .i64 cq, .int .i64 cv], .agg #[.int .i64 x, .int .i64 t]]) ∧
    Row w' w'.heap.size (some ⟨q, o, none⟩) m zs ∧ m ≤ 100 ∧ Below w.heap.size w w'

end Go.Proofs.YtjdepjpjjgkmbaaGreat

/- What the model's draw of seals out of the code leaves: at most twenty of them; the bytes can be read. -/
namespace Go.Proofs.YtjdepjpjjgkmbaaGreat
open Go.RowKit

theorem l3M_is (w : World) : Calls Tryz.prog 206 #[] w fun e w' => e = .returned (.int .i64 2147483647) ∧ w = w' := by
  go_enter Tryz.func206, Tryz.ntmps206
  go_wp2
  go_ret
  exact ⟨rfl, rfl⟩
theorem l1Mod_is (x : Int) (w : World) (h0 : 0 ≤ x) (h1 : x ≤ 2147483647) : Calls Tryz.prog 229 #[.int .i64 x, .int .i64 2147483647] w fun e w' => (∃ r : Int, e = .returned (.int .i64 r)) ∧ w = w' := by
  have hn : ¬ (Int.tmod x 2147483647 < 0) := by
    rw [Int.tmod_eq_emod_of_nonneg h0]
    omega
  go_enter Tryz.func229, Tryz.ntmps229
  go_wp2
  go_ret
  exact ⟨⟨_, rfl⟩, rfl⟩

/-- What the drawing of seals keeps: the cursor, the group, the claim, the seals so far. -/
structure SealsAt (w wr : World) (g : Nat) (A : Option Addr) (n cap : Nat) (s l c sh : Int) (q o m cap' : Nat) (zs : List Int) (ck ch ct cq cv : Int) (p pc : Nat) (ps : List (Int × Int)) : Prop where
  cur : Cur wr 169 .i64 g A n cap
  grw : w.grownBy wr (some g)
  gr : Box wr w.heap.size 26 #[.int .i64 s, .int .i64 l, .int .i64 c, .int .i64 sh, .slice (some ⟨q, o, none⟩) m cap']
  cl : Box wr (w.heap.size + 1) 180 #[.int .i64 ck, .int .i64 ch, .int .i64 ct, .int .i64 cq, .int .i64 cv]
  own : wr.ownsRow (w.heap.size + 2) 136 2 (.slice (some ⟨p, 0, none⟩) ps.length pc) ps.length (flatP ps)
  row : Row wr w.heap.size (some ⟨q, o, none⟩) m zs
section
variable {w wr w' : World} {g : Nat} {A : Option Addr} {n cap : Nat} {s l c sh : Int} {q o m cap' : Nat} {zs : List Int} {ck ch ct cq cv : Int} {p pc : Nat} {ps : List (Int × Int)}
theorem SealsAt.later (h : SealsAt w wr g A n cap s l c sh q o m cap' zs ck ch ct cq cv p pc ps) (hb : Below wr.heap.size wr w') : SealsAt w w' g A n cap s l c sh q o m cap' zs ck ch ct cq cv p pc ps :=
  ⟨h.cur.kept (grown_bel hb none) (fun q hq => by cases hq), grown_trans h.grw (grown_bel hb _), h.gr.later hb h.gr.lt, h.cl.later hb h.cl.lt, h.own.kept (grown_bel hb none) (by simp [Value.ownBlock]), h.row.below hb h.grw.size⟩
theorem SealsAt.draw (h : SealsAt w wr g A n cap s l c sh q o m cap' zs ck ch ct cq cv p pc ps) (hg : wr.grownBy w' (some g)) (hc : Cur w' 169 .i64 g A n cap) (hgl : g < w.heap.size) (hgq : g ≠ q) : SealsAt w w' g A n cap s l c sh q o m cap' zs ck ch ct cq cv p pc ps :=
  ⟨hc, grown_trans h.grw hg, h.gr.kept hg (by intro e; injection e with e; omega), h.cl.kept hg (by intro e; injection e with e; omega), h.own.kept hg (.inr (by have := (h.own.lt p rfl).1; simp [Value.ownBlock]; omega)), h.row.keptB h.grw.size hg (fun k hk => by injection hk with hk; exact .inr (by omega))⟩
theorem SealsAt.push {a b : Int} {ob : Obj} {gg cap2 : Nat} (h : SealsAt w wr g A n cap s l c sh q o m cap' zs ck ch ct cq cv p pc ps)
    (hown : w'.ownsRow (w.heap.size + 2) 136 2 (.slice (some ⟨gg, 0, none⟩) (ps.length + 1) cap2) (ps.length + 1) (flatP ps ++ [.int .i64 a, .int .i64 b])) (hg : (wr.alloc ob).grownBy w' (Value.ownBlock (.slice (some ⟨p, 0, none⟩) ps.length pc))) (hgl : g < w.heap.size) : SealsAt w w' g A n cap s l c sh q o m cap' zs ck ch ct cq cv gg cap2 (ps ++ [(a, b)]) := by
  have hp := (h.own.lt p rfl).1
  have hg : (wr.alloc ob).grownBy w' (some p) := hg
  have h2 := h.later (bel_alloc wr ob)
  have hs := h.grw.size
  refine ⟨h2.cur.kept hg (fun r hr => by injection hr with hr; omega), ⟨hg.os.trans h2.grw.os, hg.tape.trans h2.grw.tape, hg.output.trans h2.grw.output, Nat.le_trans h2.grw.size hg.size, fun k hk hne => (hg.block k (Nat.lt_of_lt_of_le hk h2.grw.size) (by intro e; injection e with e; omega)).trans (h2.grw.block k hk hne)⟩,
    h2.gr.kept hg (by intro e; injection e with e; omega), h2.cl.kept hg (by intro e; injection e with e; omega), ?_, h2.row.keptB h2.grw.size hg (fun k hk => by injection hk with hk; exact .inl (by omega))⟩
  rw [flatP_snoc]
  simpa using hown
/-- The tag of the seal at hand is turned. -/
theorem SealsAt.tag (h : SealsAt w wr g A n cap s l c sh q o m cap' zs ck ch ct cq cv p pc ps) {S : Nat} (hS : w.heap.size + 1 < S) (hp : p ≠ S) (u : Value) (hgl : g < w.heap.size) : SealsAt w (wr.setCell ⟨S, 1, none⟩ u) g A n cap s l c sh q o m cap' zs ck ch ct cq cv p pc ps := by
  have hg : wr.grownBy (wr.setCell ⟨S, 1, none⟩ u) (some S) := grown_set (grown_refl wr _) 1 u
  exact ⟨h.cur.kept hg (fun r hr => by injection hr with hr; omega), grown_new h.grw (p := ⟨S, 1, none⟩) (show w.heap.size ≤ S by omega) u, h.gr.kept hg (by intro e; injection e with e; omega), h.cl.kept hg (by intro e; injection e with e; omega), h.own.kept hg (.inr (by simp [Value.ownBlock]; omega)), h.row.keptB h.grw.size hg (fun k hk => by injection hk with hk; exact .inl (by omega))⟩
end
/-- A list of at most twenty seals, and the cursor further on. -/
def DrawnSeals (g : Nat) (A : Option Addr) (n cap : Nat) (w : World) (e : Ending) (w' : World) : Prop :=
  ∃ (p pc : Nat) (ps : List (Int × Int)), e = .returned (.slice (some ⟨p, 0, none⟩) ps.length pc) ∧ w'.ownsRow (w.heap.size + 2) 136 2 (.slice (some ⟨p, 0, none⟩) ps.length pc) ps.length (flatP ps) ∧ ps.length ≤ 20 ∧ Cur w' 169 .i64 g A n cap ∧ w.grownBy w' (some g)

set_option maxRecDepth 100000 in
set_option maxHeartbeats 4000000 in
theorem l4Draw_any (g : Nat) (A : Option Addr) (n cap : Nat) (s l c sh : Int) (q o m cap' : Nat) (zs : List Int) (ck ch ct cq cv : Int) (w : World) (hm : m ≤ maxLen) (hc : Cur w 169 .i64 g A n cap) (hr : Row w w.heap.size (some ⟨q, o, none⟩) m zs) (hgq : g ≠ q) :
    Calls Tryz.prog 204 #[.pointer (some ⟨g, 0, none⟩), .agg #[.int .i64 s, .int .i64 l, .int .i64 c, .int .i64 sh, .slice (some ⟨q, o, none⟩) m cap'], .agg #[.int .i64 ck, .int .i64 ch, .int .i64 ct, .int .i64 cq, .int .i64 cv]] w (DrawnSeals g A n cap w) := by
  obtain ⟨i0, hi0, hz0, hz1, hz2⟩ := info_parts Tryz.infoSealI
  have hgl := hc.lt
  have K0 : SealsAt w (((w.alloc (.cells #[.int .i64 s, .int .i64 l, .int .i64 c, .int .i64 sh, .slice (some ⟨q, o, none⟩) m cap'] 26)).alloc (.cells #[.int .i64 ck, .int .i64 ch, .int .i64 ct, .int .i64 cq, .int .i64 cv] 180)).alloc (.cells #[] 136)) g A n cap s l c sh q o m cap' zs ck ch ct cq cv (w.heap.size + 1 + 1) 0 [] := by
    have E := bel_trans (bel_trans (bel_alloc w (.cells #[.int .i64 s, .int .i64 l, .int .i64 c, .int .i64 sh, .slice (some ⟨q, o, none⟩) m cap'] 26)) (bel_alloc _ (.cells #[.int .i64 ck, .int .i64 ch, .int .i64 ct, .int .i64 cq, .int .i64 cv] 180))) (bel_alloc _ (.cells #[] 136))
    refine ⟨hc.kept (grown_bel E none) (fun q hq => by cases hq), grown_bel E _, ((Box.new w _ _).alloc _).alloc _, ?_, ⟨rfl, .inr ⟨w.heap.size + 1 + 1, 0, #[], rfl, Nat.le_refl _, ?_, Nat.le_refl _, Nat.zero_le _, rfl, rfl⟩⟩, hr.below E (Nat.le_refl _)⟩
    · have := (Box.new (w.alloc (.cells #[.int .i64 s, .int .i64 l, .int .i64 c, .int .i64 sh, .slice (some ⟨q, o, none⟩) m cap'] 26)) 180 #[.int .i64 ck, .int .i64 ch, .int .i64 ct, .int .i64 cq, .int .i64 cv]).alloc (.cells #[] 136)
      simp only [World.size_alloc] at this
      exact this
    · have := Box.new ((w.alloc (.cells #[.int .i64 s, .int .i64 l, .int .i64 c, .int .i64 sh, .slice (some ⟨q, o, none⟩) m cap'] 26)).alloc (.cells #[.int .i64 ck, .int .i64 ch, .int .i64 ct, .int .i64 cq, .int .i64 cv] 180)) 136 #[]
      simp only [World.size_alloc] at this
      exact this
  have HM := Lib.hid hm
  clear hr hm hc
  go_enter Tryz.func204, Tryz.ntmps204
  go_wp2_with fail
  generalize (((w.alloc _).alloc _).alloc _ : World) = w1 at K0 ⊢
  go_loopw [7, 8] (fun ov iv wr => ∃ (i p pc : Nat) (ps : List (Int × Int)), i ≤ 10 ∧ iv = .int .i64 i ∧ ov = .slice (some ⟨p, 0, none⟩) ps.length pc ∧ ps.length ≤ 2 * i ∧ SealsAt w wr g A n cap s l c sh q o m cap' zs ck ch ct cq cv p pc ps) (fun _ i _ => 10 - (intOf i).toNat)
  case atStart => exact ⟨0, _, 0, [], by omega, rfl, rfl, by simp, K0⟩
  case round =>
    obtain ⟨i, p, pc, ps, hi, rfl, rfl, hpl, hK⟩ := hrel
    clear K0
    obtain ⟨d0, d1, d2, d3, d4, x0, x1, x2, x3, x4⟩ := ten hK.gr hK.cl
    go_wp2_with fail
    refine (l1Min_any s 10 wr).mono ?_
    rintro e w' ⟨rfl, rfl⟩
    by_cases hlt : (i : Int) < min s 10
    · have hi10 : i < 10 := by omega
      have hrow := hK.row.more hK.grw.size
      have C := specSeal_any s l c sh (some ⟨q, o, none⟩) m cap' zs ck ch ct cq cv i wr HM.out hrow
      rcases hse : seB s l c sh zs ck ch ct cq cv i with _ | _
      · rw [seV_no hse] at C
        have HC := Lib.hid C
        clear C hse hrow
        go_wp2_with fail
        refine HC.out.mono ?_
        rintro e w2 ⟨rfl, hb2⟩
        have HK3 := Lib.hid ((hK.later hb2).later (bel_alloc w2 (.cells #[.int .i64 0, .int .i64 0] 136)))
        clear hK HC d0 d1 d2 d3 d4 x0 x1 x2 x3 x4 hb2
        go_wp2
        go_roundw
        case rel => exact ⟨i + 1, p, pc, ps, by omega, by go_num, rfl, by omega, HK3.out⟩
        case measure => simp [intOf]; omega
      · rw [seV_yes hse] at C
        have hT := tagN_bd zs ck ch ct cq cv i
        generalize tagN zs ck ch ct cq cv i = T at C hT
        have HC := Lib.hid C
        clear C hse hrow
        go_wp2_with fail
        refine HC.out.mono ?_
        rintro e w2 ⟨rfl, hb2⟩
        have K2 := hK.later hb2
        have hpS := (K2.own.lt p rfl).2
        have hSl : w.heap.size + 1 < w2.heap.size := K2.cl.lt
        have K3 := K2.later (bel_alloc w2 (.cells #[.int .i64 i, .int .i64 T] 136))
        have DS := Box.new w2 136 #[.int .i64 i, .int .i64 T]
        clear hK K2 HC d0 d1 d2 d3 d4 x0 x1 x2 x3 x4 hb2
        go_wp2_with fail
        generalize (w2.alloc _ : World) = w3 at K3 DS ⊢
        generalize w2.heap.size = S at DS hpS hSl ⊢
        refine (l1Once_any g A n cap 6 w3 (by omega) K3.cur).mono ?_
        rintro e w4 ⟨b, rfl, hc4, hg4⟩
        have K4 := K3.draw hg4 hc4 hgl hgq
        have DS4 := DS.kept hg4 (by intro e; injection e with e; omega)
        clear K3 DS hc4 hg4
        rcases b with _ | _
        · go_wp2_with fail
          refine (l1Once_any g A n cap 12 w4 (by omega) K4.cur).mono ?_
          rintro e w5 ⟨b2, rfl, hc5, hg5⟩
          have K5 := K4.draw hg5 hc5 hgl hgq
          have DS5 := DS4.kept hg5 (by intro e; injection e with e; omega)
          clear K4 DS4 hc5 hg5
          go_upto_if 33 with fail
          go_cut [38] (fun _ wr => ∃ t : Int, Box wr S 136 #[.int .i64 i, .int .i64 t] ∧ SealsAt w wr g A n cap s l c sh q o m cap' zs ck ch ct cq cv p pc ps)
          case first =>
            rcases b2 with _ | _
            · go_wp2_with fail
              go_meet
              exact ⟨T, DS5, K5⟩
            · obtain ⟨y0, y1⟩ := DS5.two
              have f1 := DS5.frozen 1
              have hT1 : IntKind.i64.wrap (T + 1) = T + 1 := IntWalk.i64_in _ (by omega)
              go_wp2_with fail
              go_region_law (first
                | (go_simp; go_at_call 206; refine (l3M_is _).mono ?_; rintro e w' ⟨rfl, rfl⟩)
                | (go_simp; go_at_call 229; refine (l1Mod_is (T + 1) _ (by omega) (by omega)).mono ?_; rintro e w' ⟨⟨r, rfl⟩, rfl⟩))
              all_goals
                go_wp2_with fail
                go_meet
                exact ⟨r, DS5.set 1 _, (K5.tag hSl (by omega) _ hgl).later ((Below.refl _ _).drew)⟩
          case rest =>
          obtain ⟨t, DS6, K6⟩ := hcut
          obtain ⟨w6, rfl⟩ : ∃ w6, w6 = wc := ⟨_, rfl⟩
          clear DS5 K5
          obtain ⟨y0, y1⟩ := DS6.two
          have hs6 := K6.grw.size
          have hcl6 := K6.cl.lt
          go_wp2_with (first | (at_builtin; refine wpList_append_lies _ rfl _ _ _ rfl (w.heap.size + 2) 136 i0 _ 2 16 Tryz.underlying40 hi0 hz0 hz1 hz2 rfl (by omega) (.slice (some ⟨p, 0, none⟩) (ps.length) pc) (ps.length) (flatP ps) rfl (K6.own.alloc _) ⟨w6.heap.size, 0, none⟩ 1 1 [.int .i64 (i : Int), .int .i64 t] rfl rfl (World.news_of_block (cs := #[.int .i64 (i : Int), .int .i64 t]) (t := 136) (fr := (0, 0)) (heap_alloc_new w6 _)) (by simp [Value.oneCell']) (by omega) (by unfold maxLen; omega) (by omega) (by simp; omega) (w6.heap.size + 1) (by simp) ?_; intro gg cap2 w7 hown7 hgrow7 hat7 hlt7; have K7 := K6.push hown7 hgrow7 hgl; have DS7 := (DS6.alloc (.cells #[.int .i64 (i : Int), .int .i64 t] 136)).kept (r := some p) hgrow7 (by intro e; injection e with e; omega)) | fail)
          have hown8 := hown7
          refine (l1Once_any g A n cap 8 w7 (by omega) K7.cur).mono ?_
          rintro e w8 ⟨b3, rfl, hc8, hg8⟩
          have K8 := K7.draw hg8 hc8 hgl hgq
          have DS8 := DS7.kept hg8 (by intro e; injection e with e; omega)
          have hgg := (hown7.lt gg rfl)
          replace hown8 := hown8.kept hg8 (.inr (by simp [Value.ownBlock]; omega))
          have hs8 := K8.grw.size
          have hcl8 := K8.cl.lt
          clear K7 DS7 hc8 hg8 K6 DS6 hown7 hgrow7 hat7
          rcases b3 with _ | _
          · have HK8 := Lib.hid K8
            clear K8 hown8
            go_wp2
            go_roundw
            case rel =>
              have hl2 : (ps ++ [((i : Int), t)]).length = ps.length + 1 := by simp
              exact ⟨i + 1, gg, cap2, ps ++ [((i : Int), t)], by omega, by go_num, by rw [hl2], by rw [hl2]; omega, HK8.out⟩
            case measure => simp [intOf]; omega
          · obtain ⟨z0, z1⟩ := DS8.two
            go_wp2_with (at_builtin; refine wpList_append_lies _ rfl _ _ _ rfl (w.heap.size + 2) 136 i0 _ 2 16 Tryz.underlying40 hi0 hz0 hz1 hz2 rfl (by omega) (.slice (some ⟨gg, 0, none⟩) (ps.length + 1) cap2) (ps.length + 1) (flatP ps ++ [.int .i64 (i : Int), .int .i64 t]) rfl (hown8.alloc _) ⟨w8.heap.size, 0, none⟩ 1 1 [.int .i64 (i : Int), .int .i64 t] rfl rfl (World.news_of_block (cs := #[.int .i64 (i : Int), .int .i64 t]) (t := 136) (fr := (0, 0)) (heap_alloc_new w8 _)) (by simp [Value.oneCell']) (by omega) (by unfold maxLen; omega) (by omega) (by simp; omega) (w8.heap.size + 1) (by simp) ?_; intro g3 cap3 w9 hown9 hgrow9 hat9 hlt9; have K9 := K8.push (gg := g3) (cap2 := cap3) (a := i) (b := t) (by simpa [flatP_snoc] using hown9) (by simpa using hgrow9) hgl)
            have HK9 := Lib.hid K9
            clear K9 K8 hown8 hown9 hgrow9 hat9
            go_roundw
            case rel =>
              have hl2 : (ps ++ [((i : Int), t)] ++ [((i : Int), t)]).length = ps.length + 1 + 1 := by simp
              exact ⟨i + 1, g3, cap3, ps ++ [((i : Int), t)] ++ [((i : Int), t)], by omega, by go_num, by rw [hl2], by rw [hl2]; omega, HK9.out⟩
            case measure => simp [intOf]; omega
        · have HK4 := Lib.hid K4
          clear K4
          go_wp2
          go_roundw
          case rel => exact ⟨i + 1, p, pc, ps, by omega, by go_num, rfl, by omega, HK4.out⟩
          case measure => simp [intOf]; omega
    · have hn : ¬ (i : Int) < min s 10 := hlt
      have HK := Lib.hid hK
      clear hK d0 d1 d2 d3 d4 x0 x1 x2 x3 x4
      go_wp2
      go_ret
      exact ⟨p, pc, ps, rfl, HK.out.own, by omega, HK.out.cur, HK.out.grw⟩

end Go.Proofs.YtjdepjpjjgkmbaaGreat
