/- What the model's draw of a group, a claim and a seal out of the code leaves: the three, the keys can be read; the bytes can be read. -/
import Derived.Test.YtcejiellbefojaaDrawClaim
import Derived.Test.YtcejiellbefojaaDrawAny
import Derived.Test.YtcejiellbefojaaSpecSeal
namespace Go.Proofs.Ytcejiellbefojaa
open Go.RowKit

theorem Row.keptB {w w' : World} {B q o n : Nat} {zs : List Int} {r : Option Nat} (h : Row w B (some ⟨q, o, none⟩) n zs) (hB : B ≤ w.heap.size) (hg : w.grownBy w' r) (hr : ∀ k, r = some k → B ≤ k ∨ k ≠ q) : Row w' B (some ⟨q, o, none⟩) n zs := by
  refine ⟨h.1, fun hn => ?_⟩
  obtain ⟨b, o', hA, hb, hc⟩ := h.2 hn
  cases hA
  refine ⟨_, _, rfl, hb, fun i hi => (World.cell?_of_block (a := ⟨q, o + i, none⟩) (hg.block q (by omega) (fun e => ?_))).trans (hc i hi)⟩
  rcases hr _ e.symm with h | h
  · omega
  · exact h rfl
theorem grown_of_drew {a b : World} {r : Option Nat} (h : a.drew.grownBy b r) : a.grownBy b r := ⟨h.os, h.tape, h.output, h.size, h.block⟩
theorem grown_of_alloc {a b : World} {o : Obj} {r : Option Nat} (h : (a.alloc o).grownBy b r) : a.grownBy b r := grown_trans (grown_bel (bel_alloc a o) r) h
theorem gbox_of_alloc {a b : World} {t : TypeId} {cs : Array Value} {g : Nat} (h : (a.alloc (.cells cs t)).grownBy b (some g)) (hg : g < a.heap.size) : Box b a.heap.size t cs := (Box.new a t cs).kept h (by intro e; injection e with e; omega)
theorem curNew {w : World} {t : TypeId} {k : IntKind} {g : Nat} {A : Option Addr} {n cap : Nat} (h : Cur w t k g A n cap) (o : Obj) : Cur (w.alloc o) t k g A n cap := h.kept (grown_bel (bel_alloc w o) none) (fun q hq => by cases hq)
theorem Box.far5 {w : World} {g R : Nat} {t : TypeId} {cs : Array Value} (h : Box w g t cs) (hR : R ≠ g) (u0 u1 u2 u3 u4 : Value) : Box (((((w.setCell ⟨R, 0, none⟩ u0).setCell ⟨R, 1, none⟩ u1).setCell ⟨R, 2, none⟩ u2).setCell ⟨R, 3, none⟩ u3).setCell ⟨R, 4, none⟩ u4) g t cs :=
  ((((h.far (p := ⟨R, 0, none⟩) hR u0).far (p := ⟨R, 1, none⟩) hR u1).far (p := ⟨R, 2, none⟩) hR u2).far (p := ⟨R, 3, none⟩) hR u3).far (p := ⟨R, 4, none⟩) hR u4
theorem Row.far {w : World} {B q o n : Nat} {zs : List Int} (h : Row w B (some ⟨q, o, none⟩) n zs) {p : Addr} (hp : B ≤ p.block) (u : Value) : Row (w.setCell p u) B (some ⟨q, o, none⟩) n zs :=
  h.keep fun a ha => World.cell?_setCell_other _ _ _ _ (fun e => by rw [e] at hp; omega)

/-- A group, a claim and a seal, drawn, in variables of their own; the results' places are still empty. -/
structure Three (w0 w : World) (P Q S q o m cap' : Nat) (s l c sh : Int) (zs : List Int) (ck ch ct cq cv x t : Int) : Prop where
  gr : Box w P 29 #[.int .i64 s, .int .i64 l, .int .i64 c, .int .i64 sh, .slice (some ⟨q, o, none⟩) m cap']
  cl : Box w Q 35 #[.int .i64 ck, .int .i64 ch, .int .i64 ct, .int .i64 cq, .int .i64 cv]
  se : Box w S 37 #[.int .i64 x, .int .i64 t]
  r1 : Box w w0.heap.size 29 #[.int .i64 0, .int .i64 0, .int .i64 0, .int .i64 0, .slice none 0 0]
  r2 : Box w (w0.heap.size + 1) 35 #[.int .i64 0, .int .i64 0, .int .i64 0, .int .i64 0, .int .i64 0]
  r3 : Box w (w0.heap.size + 1 + 1) 37 #[.int .i64 0, .int .i64 0]
  row : Row w P (some ⟨q, o, none⟩) m zs
  bel : Below w0.heap.size w0 w
  h1 : w0.heap.size + 1 + 1 < P
  h2 : P < Q
  h3 : Q < S

theorem Three.kept {w0 w w' : World} {P Q S q o m cap' g : Nat} {s l c sh : Int} {zs : List Int} {ck ch ct cq cv x t : Int} (h : Three w0 w P Q S q o m cap' s l c sh zs ck ch ct cq cv x t)
    (hg : w.grownBy w' (some g)) (h1 : w0.heap.size + 1 + 1 < g) (h2 : g < P) (h3 : g ≠ q) : Three w0 w' P Q S q o m cap' s l c sh zs ck ch ct cq cv x t := by
  have a1 := h.h1
  have a2 := h.h2
  have a3 := h.h3
  have a4 := h.gr.lt
  exact ⟨h.gr.kept hg (by intro e; injection e with e; omega), h.cl.kept hg (by intro e; injection e with e; omega), h.se.kept hg (by intro e; injection e with e; omega), h.r1.kept hg (by intro e; injection e with e; omega), h.r2.kept hg (by intro e; injection e with e; omega), h.r3.kept hg (by intro e; injection e with e; omega),
    h.row.keptB (by omega) hg (fun k hk => by injection hk with hk; exact .inr (by omega)), bel_grown h.bel hg (by omega), a1, a2, a3⟩
theorem Three.tag {w0 w : World} {P Q S q o m cap' : Nat} {s l c sh : Int} {zs : List Int} {ck ch ct cq cv x t : Int} (h : Three w0 w P Q S q o m cap' s l c sh zs ck ch ct cq cv x t) (y : Int) :
    Three w0 (w.setCell ⟨S, 1, none⟩ (.int .i64 y)) P Q S q o m cap' s l c sh zs ck ch ct cq cv x y := by
  have a1 := h.h1
  have a2 := h.h2
  have a3 := h.h3
  exact ⟨h.gr.far (p := ⟨S, 1, none⟩) (by show S ≠ _; omega) _, h.cl.far (p := ⟨S, 1, none⟩) (by show S ≠ _; omega) _, h.se.set 1 _, h.r1.far (p := ⟨S, 1, none⟩) (by show S ≠ _; omega) _, h.r2.far (p := ⟨S, 1, none⟩) (by show S ≠ _; omega) _, h.r3.far (p := ⟨S, 1, none⟩) (by show S ≠ _; omega) _,
    h.row.far (p := ⟨S, 1, none⟩) (by show P ≤ S; omega) _, h.bel.setCell (p := ⟨S, 1, none⟩) (by show _ ≤ S; omega) _, a1, a2, a3⟩
theorem Three.who {w0 w : World} {P Q S q o m cap' : Nat} {s l c sh : Int} {zs : List Int} {ck ch ct cq cv x t : Int} (h : Three w0 w P Q S q o m cap' s l c sh zs ck ch ct cq cv x t) (y : Int) :
    Three w0 (w.setCell ⟨S, 0, none⟩ (.int .i64 y)) P Q S q o m cap' s l c sh zs ck ch ct cq cv y t := by
  have a1 := h.h1
  have a2 := h.h2
  have a3 := h.h3
  exact ⟨h.gr.far (p := ⟨S, 0, none⟩) (by show S ≠ _; omega) _, h.cl.far (p := ⟨S, 0, none⟩) (by show S ≠ _; omega) _, h.se.set 0 _, h.r1.far (p := ⟨S, 0, none⟩) (by show S ≠ _; omega) _, h.r2.far (p := ⟨S, 0, none⟩) (by show S ≠ _; omega) _, h.r3.far (p := ⟨S, 0, none⟩) (by show S ≠ _; omega) _,
    h.row.far (p := ⟨S, 0, none⟩) (by show P ≤ S; omega) _, h.bel.setCell (p := ⟨S, 0, none⟩) (by show _ ≤ S; omega) _, a1, a2, a3⟩
theorem Three.value {w0 w : World} {P Q S q o m cap' : Nat} {s l c sh : Int} {zs : List Int} {ck ch ct cq cv x t : Int} (h : Three w0 w P Q S q o m cap' s l c sh zs ck ch ct cq cv x t) (y : Int) :
    Three w0 (w.setCell ⟨Q, 4, none⟩ (.int .i64 y)) P Q S q o m cap' s l c sh zs ck ch ct cq y x t := by
  have a1 := h.h1
  have a2 := h.h2
  have a3 := h.h3
  exact ⟨h.gr.far (p := ⟨Q, 4, none⟩) (by show Q ≠ _; omega) _, h.cl.set 4 _, h.se.far (p := ⟨Q, 4, none⟩) (by show Q ≠ _; omega) _, h.r1.far (p := ⟨Q, 4, none⟩) (by show Q ≠ _; omega) _, h.r2.far (p := ⟨Q, 4, none⟩) (by show Q ≠ _; omega) _, h.r3.far (p := ⟨Q, 4, none⟩) (by show Q ≠ _; omega) _,
    h.row.far (p := ⟨Q, 4, none⟩) (by show P ≤ Q; omega) _, h.bel.setCell (p := ⟨Q, 4, none⟩) (by show _ ≤ Q; omega) _, a1, a2, a3⟩

theorem three_mk {w0 w w' : World} {P Q S q o m cap' g : Nat} {s l c sh : Int} {zs : List Int} {ck ch ct cq cv x t : Int} (r1 : Box w w0.heap.size 29 #[.int .i64 0, .int .i64 0, .int .i64 0, .int .i64 0, .slice none 0 0])
    (r2 : Box w (w0.heap.size + 1) 35 #[.int .i64 0, .int .i64 0, .int .i64 0, .int .i64 0, .int .i64 0]) (r3 : Box w (w0.heap.size + 1 + 1) 37 #[.int .i64 0, .int .i64 0])
    (gr : Box w P 29 #[.int .i64 s, .int .i64 l, .int .i64 c, .int .i64 sh, .slice (some ⟨q, o, none⟩) m cap']) (cl : Box w Q 35 #[.int .i64 ck, .int .i64 ch, .int .i64 ct, .int .i64 cq, .int .i64 cv]) (row : Row w P (some ⟨q, o, none⟩) m zs) (bel : Below w0.heap.size w0 w)
    (hg : w.grownBy w' (some g)) (h1 : w0.heap.size + 1 + 1 < g) (h2 : g < P) (h3 : g ≠ q) (h4 : P < Q) (h5 : Q < S) (se : Box w' S 37 #[.int .i64 x, .int .i64 t]) :
    Three w0 w' P Q S q o m cap' s l c sh zs ck ch ct cq cv x t := by
  have a4 := gr.lt
  exact ⟨gr.kept hg (by intro e; injection e with e; omega), cl.kept hg (by intro e; injection e with e; omega), se, r1.kept hg (by intro e; injection e with e; omega), r2.kept hg (by intro e; injection e with e; omega), r3.kept hg (by intro e; injection e with e; omega),
    row.keptB (by omega) hg (fun k hk => by injection hk with hk; exact .inr (by omega)), bel_grown bel hg (by omega), by omega, h4, h5⟩

theorem put5_keep {w0 w : World} {B q o m R : Nat} {zs : List Int} (row : Row w B (some ⟨q, o, none⟩) m zs) (bel : Below w0.heap.size w0 w) (hB : B ≤ w.heap.size) (hR : w0.heap.size ≤ R) (hq : R ≠ q) (u0 u1 u2 u3 u4 : Value) :
    Row (((((w.setCell ⟨R, 0, none⟩ u0).setCell ⟨R, 1, none⟩ u1).setCell ⟨R, 2, none⟩ u2).setCell ⟨R, 3, none⟩ u3).setCell ⟨R, 4, none⟩ u4) B (some ⟨q, o, none⟩) m zs ∧ Below w0.heap.size w0 (((((w.setCell ⟨R, 0, none⟩ u0).setCell ⟨R, 1, none⟩ u1).setCell ⟨R, 2, none⟩ u2).setCell ⟨R, 3, none⟩ u3).setCell ⟨R, 4, none⟩ u4) ∧
    B ≤ (((((w.setCell ⟨R, 0, none⟩ u0).setCell ⟨R, 1, none⟩ u1).setCell ⟨R, 2, none⟩ u2).setCell ⟨R, 3, none⟩ u3).setCell ⟨R, 4, none⟩ u4).heap.size := by
  have G := grown5 w R u0 u1 u2 u3 u4
  exact ⟨row.keptB hB G (fun k hk => by injection hk with hk; exact .inr (by omega)), bel_grown bel G hR, Nat.le_trans hB G.size⟩
theorem put2_keep {w0 w : World} {B q o m R : Nat} {zs : List Int} (row : Row w B (some ⟨q, o, none⟩) m zs) (bel : Below w0.heap.size w0 w) (hB : B ≤ w.heap.size) (hR : w0.heap.size ≤ R) (hq : R ≠ q) (u0 u1 : Value) :
    Row ((w.setCell ⟨R, 0, none⟩ u0).setCell ⟨R, 1, none⟩ u1) B (some ⟨q, o, none⟩) m zs ∧ Below w0.heap.size w0 ((w.setCell ⟨R, 0, none⟩ u0).setCell ⟨R, 1, none⟩ u1) ∧ B ≤ ((w.setCell ⟨R, 0, none⟩ u0).setCell ⟨R, 1, none⟩ u1).heap.size := by
  have G := grown2 w R u0 u1
  exact ⟨row.keptB hB G (fun k hk => by injection hk with hk; exact .inr (by omega)), bel_grown bel G hR, Nat.le_trans hB G.size⟩

/-- The three go into the results' places. -/
theorem Three.fin {w0 w : World} {P Q S q o m cap' : Nat} {s l c sh : Int} {zs : List Int} {ck ch ct cq cv x t : Int} (h : Three w0 w P Q S q o m cap' s l c sh zs ck ch ct cq cv x t) (hq : w0.heap.size + 1 + 1 < q) (w' : World)
    (hw : ((((((((((((w.setCell ⟨w0.heap.size, 0, none⟩ (.int .i64 s)).setCell ⟨w0.heap.size, 1, none⟩ (.int .i64 l)).setCell ⟨w0.heap.size, 2, none⟩ (.int .i64 c)).setCell ⟨w0.heap.size, 3, none⟩ (.int .i64 sh)).setCell ⟨w0.heap.size, 4, none⟩ (.slice (some ⟨q, o, none⟩) m cap')).setCell ⟨w0.heap.size + 1, 0, none⟩ (.int .i64 ck)).setCell ⟨w0.heap.size + 1, 1, none⟩ (.int .i64 ch)).setCell ⟨w0.heap.size + 1, 2, none⟩ (.int .i64 ct)).setCell ⟨w0.heap.size + 1, 3, none⟩ (.int .i64 cq)).setCell ⟨w0.heap.size + 1, 4, none⟩ (.int .i64 cv)).setCell ⟨w0.heap.size + 1 + 1, 0, none⟩ (.int .i64 x)).setCell ⟨w0.heap.size + 1 + 1, 1, none⟩ (.int .i64 t)) = w') :
    Box w' w0.heap.size 29 #[.int .i64 s, .int .i64 l, .int .i64 c, .int .i64 sh, .slice (some ⟨q, o, none⟩) m cap'] ∧ Box w' (w0.heap.size + 1) 35 #[.int .i64 ck, .int .i64 ch, .int .i64 ct, .int .i64 cq, .int .i64 cv] ∧ Box w' (w0.heap.size + 1 + 1) 37 #[.int .i64 x, .int .i64 t] ∧
    Row w' w'.heap.size (some ⟨q, o, none⟩) m zs ∧ Below w0.heap.size w0 w' := by
  have a1 := h.h1
  have a4 := h.gr.lt
  have n1 : w0.heap.size ≠ w0.heap.size + 1 := by omega
  have n2 : w0.heap.size ≠ w0.heap.size + 1 + 1 := by omega
  have n3 : w0.heap.size + 1 ≠ w0.heap.size := by omega
  have n4 : w0.heap.size + 1 ≠ w0.heap.size + 1 + 1 := by omega
  have n5 : w0.heap.size + 1 + 1 ≠ w0.heap.size := by omega
  have n6 : w0.heap.size + 1 + 1 ≠ w0.heap.size + 1 := by omega
  have R := h.r1.put5 (.int .i64 s) (.int .i64 l) (.int .i64 c) (.int .i64 sh) (.slice (some ⟨q, o, none⟩) m cap')
  have C := (h.r2.far5 n1 (.int .i64 s) (.int .i64 l) (.int .i64 c) (.int .i64 sh) (.slice (some ⟨q, o, none⟩) m cap')).put5 (.int .i64 ck) (.int .i64 ch) (.int .i64 ct) (.int .i64 cq) (.int .i64 cv)
  have S := ((h.r3.far5 n2 (.int .i64 s) (.int .i64 l) (.int .i64 c) (.int .i64 sh) (.slice (some ⟨q, o, none⟩) m cap')).far5 n4 (.int .i64 ck) (.int .i64 ch) (.int .i64 ct) (.int .i64 cq) (.int .i64 cv)).put2 (.int .i64 x) (.int .i64 t)
  obtain ⟨W1, E1, s1⟩ := put5_keep h.row h.bel (by omega) (Nat.le_refl _) (show w0.heap.size ≠ q by omega) (.int .i64 s) (.int .i64 l) (.int .i64 c) (.int .i64 sh) (.slice (some ⟨q, o, none⟩) m cap')
  obtain ⟨W2, E2, s2⟩ := put5_keep W1 E1 s1 (show w0.heap.size ≤ w0.heap.size + 1 by omega) (show w0.heap.size + 1 ≠ q by omega) (.int .i64 ck) (.int .i64 ch) (.int .i64 ct) (.int .i64 cq) (.int .i64 cv)
  obtain ⟨W3, E3, s3⟩ := put2_keep W2 E2 s2 (show w0.heap.size ≤ w0.heap.size + 1 + 1 by omega) (show w0.heap.size + 1 + 1 ≠ q by omega) (.int .i64 x) (.int .i64 t)
  refine ⟨?_, ?_, ?_, ?_, ?_⟩
  · rw [← hw]; exact (R.far5 n3 _ _ _ _ _).far2 n5 _ _
  · rw [← hw]; exact C.far2 n6 _ _
  · rw [← hw]; exact S
  · rw [← hw]; exact W3.more s3
  · rw [← hw]; exact E3

/-- A group whose keys can be read, a claim and a seal. -/
def MadeRight (w : World) (e : Ending) (w' : World) : Prop :=
  ∃ (s l c sh : Int) (q o m cap' : Nat) (zs : List Int) (ck ch ct cq cv x t : Int), e = .returned (.tuple #[.agg #[.int .i64 s, .int .i64 l, .int .i64 c, .int .i64 sh, .slice (some ⟨q, o, none⟩) m cap'], .agg #[.int .i64 ck, .int .i64 ch, .int .i64 ct, .int .i64 cq, .int .i64 cv], .agg #[.int .i64 x, .int .i64 t]]) ∧
    Row w' w'.heap.size (some ⟨q, o, none⟩) m zs ∧ m ≤ 100 ∧ Below w.heap.size w w'

set_option maxRecDepth 100000 in
set_option maxHeartbeats 4000000 in
theorem drawRight_any (A : Option Addr) (n cap : Nat) (w : World) (hn : n ≤ 4096) (hB : Bytes w w.heap.size A n) :
    Calls Try.prog 18 #[.slice A n cap] w (MadeRight w) := by
  have hb0 := bel_trans (bel_trans (bel_alloc w (.cells #[.int .i64 0, .int .i64 0, .int .i64 0, .int .i64 0, .slice none 0 0] 29)) (bel_alloc _ (.cells #[.int .i64 0, .int .i64 0, .int .i64 0, .int .i64 0, .int .i64 0] 35))) (bel_alloc _ (.cells #[.int .i64 0, .int .i64 0] 37))
  have D := ((Box.new w 29 #[.int .i64 0, .int .i64 0, .int .i64 0, .int .i64 0, .slice none 0 0]).alloc (.cells #[.int .i64 0, .int .i64 0, .int .i64 0, .int .i64 0, .int .i64 0] 35)).alloc (.cells #[.int .i64 0, .int .i64 0] 37)
  have X := (Box.new (w.alloc (.cells #[.int .i64 0, .int .i64 0, .int .i64 0, .int .i64 0, .slice none 0 0] 29)) 35 #[.int .i64 0, .int .i64 0, .int .i64 0, .int .i64 0, .int .i64 0]).alloc (.cells #[.int .i64 0, .int .i64 0] 37)
  have Y := Box.new ((w.alloc (.cells #[.int .i64 0, .int .i64 0, .int .i64 0, .int .i64 0, .slice none 0 0] 29)).alloc (.cells #[.int .i64 0, .int .i64 0, .int .i64 0, .int .i64 0, .int .i64 0] 35)) 37 #[.int .i64 0, .int .i64 0]
  simp only [World.size_alloc] at X Y
  have HB := Lib.hid hB
  clear hB
  go_enter Try.func18, Try.ntmps18
  go_wp2_with fail
  generalize (((w.alloc _).alloc _).alloc _ : World) = w0 at hb0 D X Y ⊢
  refine (l1New_any A n cap w0 hn ((HB.out.below hb0 (Nat.le_refl _)).more hb0.size)).mono ?_
  rintro e w1 ⟨g, hg, rfl, hc1, hb1⟩
  have hg : w.heap.size + 1 + 1 < g := Nat.lt_of_lt_of_le Y.lt hg
  have hgl := hc1.lt
  have D1 := D.later hb1 D.lt
  have X1 := X.later hb1 X.lt
  have Y1 := Y.later hb1 Y.lt
  have E1 := bel_trans hb0 hb1
  clear D X Y hb0 hb1
  go_wp2_with fail
  refine (l1DrawAny_any g A n cap w1 hc1).mono ?_
  rintro e w2 ⟨s, l, c, sh, q, o, m, cap', zs, hq, rfl, hrow2, hm, hc2, hg2⟩
  have D2 := D1.kept hg2 (by intro e; injection e with e; omega)
  have X2 := X1.kept hg2 (by intro e; injection e with e; omega)
  have Y2 := Y1.kept hg2 (by intro e; injection e with e; omega)
  have E2 := bel_grown E1 hg2 (by omega)
  have hgq : g ≠ q := by omega
  have hqR : w.heap.size + 1 + 1 < q := by omega
  have hs2 := hg2.size
  clear D1 X1 Y1 E1 hc1 hg2 hq
  have U := Box.new w2 29 #[.int .i64 s, .int .i64 l, .int .i64 c, .int .i64 sh, .slice (some ⟨q, o, none⟩) m cap']
  have hb3 := bel_alloc w2 (.cells #[.int .i64 s, .int .i64 l, .int .i64 c, .int .i64 sh, .slice (some ⟨q, o, none⟩) m cap'] 29)
  go_wp2_with fail
  have D3 := D2.later hb3 D2.lt
  have X3 := X2.later hb3 X2.lt
  have Y3 := Y2.later hb3 Y2.lt
  have E3 := bel_trans E2 hb3
  have hc3 := hc2.kept (grown_bel hb3 none) (fun q hq => by cases hq)
  have hrow3 := hrow2.below hb3 (Nat.le_refl _)
  generalize (w2.alloc _ : World) = w3 at U hb3 D3 X3 Y3 E3 hc3 hrow3 ⊢
  have hP1 : w.heap.size + 1 + 1 < w2.heap.size := Y2.lt
  have hP2 : g < w2.heap.size := hc2.lt
  clear D2 X2 Y2 E2 hc2 hrow2 hb3
  generalize w2.heap.size = P at U hrow3 hP1 hP2 hs2 ⊢
  refine (l3DrawAny_any g A n cap w3 hc3).mono ?_
  rintro e w4 ⟨ck, ch, ct, cq, cv, rfl, hc4, hg4⟩
  have hPl := U.lt
  have D4 := D3.kept hg4 (by intro e; injection e with e; omega)
  have X4 := X3.kept hg4 (by intro e; injection e with e; omega)
  have Y4 := Y3.kept hg4 (by intro e; injection e with e; omega)
  have U4 := U.kept hg4 (by intro e; injection e with e; omega)
  have E4 := bel_grown E3 hg4 (by omega)
  have hrow4 := hrow3.keptB (by omega) hg4 (fun k hk => by injection hk with hk; exact .inr (by omega))
  clear D3 X3 Y3 U E3 hc3 hg4 hrow3
  have V := Box.new w4 35 #[.int .i64 ck, .int .i64 ch, .int .i64 ct, .int .i64 cq, .int .i64 cv]
  have hb5 := bel_alloc w4 (.cells #[.int .i64 ck, .int .i64 ch, .int .i64 ct, .int .i64 cq, .int .i64 cv] 35)
  go_upto_region 4 with fail
  have D5 := D4.later hb5 D4.lt
  have X5 := X4.later hb5 X4.lt
  have Y5 := Y4.later hb5 Y4.lt
  have U5 := U4.later hb5 U4.lt
  have E5 := bel_trans E4 hb5
  have hc5 := hc4.kept (grown_bel hb5 none) (fun q hq => by cases hq)
  have hPQ : P < w4.heap.size := U4.lt
  have hrow5 := hrow4.below hb5 (by omega)
  generalize (w4.alloc _ : World) = w5 at V hb5 D5 X5 Y5 U5 E5 hc5 hrow5 ⊢
  clear D4 X4 Y4 U4 E4 hc4 hrow4 hb5
  generalize w4.heap.size = Q at V hPQ ⊢
  have hQl := V.lt
  go_cut [8] (fun p wr => ∃ (S : Nat) (x t : Int), p = .pointer (some ⟨S, 0, none⟩) ∧ Three w wr P Q S q o m cap' s l c sh zs ck ch ct cq cv x t ∧ Cur wr 83 .i64 g A n cap)
  case first =>
    have HM : Hid (m ≤ maxLen) := by show m ≤ maxLen; unfold maxLen; omega
    have hmm : 0 < max (min s 10) 1 := by omega
    generalize hK : max (min s 10) 1 = K at hmm
    have HK := Lib.hid hK
    clear hK
    obtain ⟨a0, a1, a2, a3, a4⟩ := U5.five
    obtain ⟨x0, x1, x2, x3, x4⟩ := V.five
    have q1 : w5.heap.size ≠ P := by omega
    have q1' : w5.heap.size ≠ Q := by omega
    go_region_held3 (fun w' => w'.cell? ⟨P, 0, none⟩ = some (.int .i64 s) ∧ w'.cell? ⟨P, 1, none⟩ = some (.int .i64 l) ∧ w'.cell? ⟨P, 2, none⟩ = some (.int .i64 c) ∧ w'.cell? ⟨P, 3, none⟩ = some (.int .i64 sh) ∧ w'.cell? ⟨P, 4, none⟩ = some (.slice (some ⟨q, o, none⟩) m cap') ∧
        w'.cell? ⟨Q, 0, none⟩ = some (.int .i64 ck) ∧ w'.cell? ⟨Q, 1, none⟩ = some (.int .i64 ch) ∧ w'.cell? ⟨Q, 2, none⟩ = some (.int .i64 ct) ∧ w'.cell? ⟨Q, 3, none⟩ = some (.int .i64 cq) ∧ w'.cell? ⟨Q, 4, none⟩ = some (.int .i64 cv))
      (first | (with_reducible exact K7) | (with_reducible exact K6) | (with_reducible exact ten (U7.alloc _) (V7.alloc _)) | (with_reducible exact ten (U6.alloc _) (V6.alloc _)) | (with_reducible exact ten (U7.far2 q2 _ _) (V7.far2 q2' _ _)) | (with_reducible exact ten (U7.far2 q1 _ _) (V7.far2 q1' _ _)) | go_keep)
      (first
        | (go_at_call 38; refine (l1Min_any _ _ _).mono ?_; rintro e w' ⟨rfl, rfl⟩)
        | (go_at_call 37; refine (l1Max_any _ _ _).mono ?_; rintro e w' ⟨rfl, rfl⟩; rw [HK.out])
        | (go_at_call 36; refine (l1Below_any g A n cap K _ hmm ?_).mono ?_; (first | exact hc5 | exact curNew hc5 _); rintro e w6 ⟨y, _, rfl, hc6, hg6⟩; (first | (have B6 := gbox_of_alloc (grown_of_drew hg6) (by omega); have F6 := grown_of_alloc (grown_of_drew hg6)) | have F6 := grown_of_drew hg6); have U6 := U5.kept F6 (by intro e; injection e with e; omega); have V6 := V.kept F6 (by intro e; injection e with e; omega); have hrow6 := hrow5.keptB (by omega) F6 (fun k hk => by injection hk with hk; exact .inr (by omega)); have l6 := F6.size; have q2 : w6.heap.size ≠ P := (by omega); have q2' : w6.heap.size ≠ Q := (by omega); have K6 := ten U6 V6; obtain ⟨sx, st, sf, hsv⟩ := seV_form s l c sh zs ck ch ct cq cv y)
        | (go_at_call 13; refine (specSeal_is hsv _ m cap' _ HM.out ?_).mono ?_; (first | exact hrow6.more (by omega) | exact rowNew (hrow6.more (by omega)) _); rintro e w7 ⟨rfl, hb7⟩; (first | (have B7 := box_of_alloc hb7; have F7 := bel_of_alloc hb7) | (have B7 := B6.later hb7 B6.lt; have F7 := hb7) | have F7 := hb7); have U7 := U6.later F7 U6.lt; have V7 := V6.later F7 V6.lt; have K7 := ten U7 V7; have G7 := grown_trans F6 (grown_bel F7 (some g)); have C7 := hc6.kept (grown_bel F7 none) (fun q hq => by cases hq); have l7 := F7.size; (first | (obtain ⟨b0, b1⟩ := B7.two; have fb := B7.frozen) | skip)))
    all_goals go_wp2_with fail
    all_goals go_meet
    all_goals first
      | exact ⟨_, _, _, rfl, three_mk D5 X5 Y5 U5 V hrow5 E5 (grown_alloc G7 _) hg hP2 hgq hPQ (show Q < w7.heap.size by omega) (Box.new w7 _ _), curNew C7 _⟩
      | exact ⟨_, _, _, rfl, three_mk D5 X5 Y5 U5 V hrow5 E5 (grown_new (grown_new G7 (p := ⟨w6.heap.size, 0, none⟩) l6 _) (p := ⟨w6.heap.size, 1, none⟩) l6 _) hg hP2 hgq hPQ (show Q < w6.heap.size by omega) (B7.put2 _ _), C7.kept (grown2 w7 w6.heap.size _ _) (fun q hq => by injection hq with hq; omega)⟩
      | exact ⟨_, _, _, rfl, three_mk D5 X5 Y5 U5 V hrow5 E5 (grown_new (grown_new G7 (p := ⟨w5.heap.size, 0, none⟩) (Nat.le_refl _) _) (p := ⟨w5.heap.size, 1, none⟩) (Nat.le_refl _) _) hg hP2 hgq hPQ (show Q < w5.heap.size by omega) (B7.put2 _ _), C7.kept (grown2 w7 w5.heap.size _ _) (fun q hq => by injection hq with hq; omega)⟩
  case rest =>
  obtain ⟨S, x, t, rfl, T, hc6⟩ := hcut
  rename_i wc
  clear D5 X5 Y5 U5 V hrow5 E5 hc5
  go_wp2_with fail
  refine (l1Once_any g A n cap 3 wc (by omega) hc6).mono ?_
  rintro e w7 ⟨b, rfl, hc7, hg7⟩
  have T7 := T.kept hg7 hg hP2 hgq
  clear T hc6 hg7
  go_upto_if 29 with fail
  go_cut [9] (fun _ wr => ∃ cv x t : Int, Three w wr P Q S q o m cap' s l c sh zs ck ch ct cq cv x t)
  case first =>
    rcases b with _ | _
    · go_wp2_with fail
      go_meet
      exact ⟨_, _, _, T7⟩
    · go_wp2_with fail
      refine (l1Below_any g A n cap 3 w7 (by omega) hc7).mono ?_
      rintro e w8 ⟨z, ⟨hz0, hz1⟩, rfl, hc8, hg8⟩
      have T8 := T7.kept hg8 hg hP2 hgq
      clear T7 hc7 hg8
      have hcase : z = 0 ∨ z = 1 ∨ z = 2 := by omega
      clear hz0 hz1
      rcases hcase with rfl | rfl | rfl
      · obtain ⟨s0, s1⟩ := T8.se.two
        have fs := T8.se.frozen
        go_wp2_with fail
        go_meet
        exact ⟨_, _, _, T8.tag _⟩
      · go_wp2_with fail
        refine (l1Num_any g A n cap 9 w8 (by omega) (by omega) hc8).mono ?_
        rintro e w9 ⟨y, _, rfl, hc9, hg9⟩
        have T9 := T8.kept hg9 hg hP2 hgq
        clear T8 hc8 hg9
        obtain ⟨s0, s1⟩ := T9.se.two
        have fs := T9.se.frozen
        go_wp2_with fail
        go_meet
        exact ⟨_, _, _, T9.who _⟩
      · go_wp2_with fail
        refine (l1Below_any g A n cap 5 w8 (by omega) hc8).mono ?_
        rintro e w9 ⟨y, _, rfl, hc9, hg9⟩
        have T9 := T8.kept hg9 hg hP2 hgq
        clear T8 hc8 hg9
        obtain ⟨s0, s1, s2, s3, s4⟩ := T9.cl.five
        have fs := T9.cl.frozen
        go_wp2_with fail
        go_meet
        exact ⟨_, _, _, T9.value _⟩
  case rest =>
  obtain ⟨cv, x, t, T⟩ := hcut
  clear T7 hc7
  obtain ⟨a0, a1, a2, a3, a4⟩ := T.gr.five
  obtain ⟨x0, x1, x2, x3, x4⟩ := T.cl.five
  obtain ⟨z0, z1⟩ := T.se.two
  obtain ⟨b0, b1, b2, b3, b4⟩ := T.r1.five
  obtain ⟨c0, c1, c2, c3, c4⟩ := T.r2.five
  obtain ⟨d0, d1⟩ := T.r3.two
  have f1 := T.r1.frozen
  have f2 := T.r2.frozen
  have f3 := T.r3.frozen
  have h1 := T.h1
  have h2 := T.h2
  have h3 := T.h3
  have n1 : w.heap.size ≠ P := by omega
  have n2 : w.heap.size ≠ Q := by omega
  have n3 : w.heap.size ≠ S := by omega
  have m1 : w.heap.size + 1 ≠ P := by omega
  have m2 : w.heap.size + 1 ≠ Q := by omega
  have m3 : w.heap.size + 1 ≠ S := by omega
  have k1 : w.heap.size + 1 + 1 ≠ P := by omega
  have k2 : w.heap.size + 1 + 1 ≠ Q := by omega
  have k3 : w.heap.size + 1 + 1 ≠ S := by omega
  have Tg : Box wc.drew P 29 #[.int .i64 s, .int .i64 l, .int .i64 c, .int .i64 sh, .slice (some ⟨q, o, none⟩) m cap'] := T.gr
  have Tc : Box wc.drew Q 35 #[.int .i64 ck, .int .i64 ch, .int .i64 ct, .int .i64 cq, .int .i64 cv] := T.cl
  have Ts : Box wc.drew S 37 #[.int .i64 x, .int .i64 t] := T.se
  go_wp2_with fail
  go_region_held3 (fun w' => w'.cell? ⟨P, 0, none⟩ = some (.int .i64 s) ∧ w'.cell? ⟨P, 1, none⟩ = some (.int .i64 l) ∧ w'.cell? ⟨P, 2, none⟩ = some (.int .i64 c) ∧ w'.cell? ⟨P, 3, none⟩ = some (.int .i64 sh) ∧ w'.cell? ⟨P, 4, none⟩ = some (.slice (some ⟨q, o, none⟩) m cap') ∧
      w'.cell? ⟨Q, 0, none⟩ = some (.int .i64 ck) ∧ w'.cell? ⟨Q, 1, none⟩ = some (.int .i64 ch) ∧ w'.cell? ⟨Q, 2, none⟩ = some (.int .i64 ct) ∧ w'.cell? ⟨Q, 3, none⟩ = some (.int .i64 cq) ∧ w'.cell? ⟨Q, 4, none⟩ = some (.int .i64 cv) ∧ w'.cell? ⟨S, 0, none⟩ = some (.int .i64 x) ∧ w'.cell? ⟨S, 1, none⟩ = some (.int .i64 t))
    (first
      | (with_reducible exact twelve (T.gr.far5 n1 _ _ _ _ _) (T.cl.far5 n2 _ _ _ _ _) (T.se.far5 n3 _ _ _ _ _))
      | (with_reducible exact twelve ((T.gr.far5 n1 _ _ _ _ _).far5 m1 _ _ _ _ _) ((T.cl.far5 n2 _ _ _ _ _).far5 m2 _ _ _ _ _) ((T.se.far5 n3 _ _ _ _ _).far5 m3 _ _ _ _ _))
      | (with_reducible exact twelve (((T.gr.far5 n1 _ _ _ _ _).far5 m1 _ _ _ _ _).far2 k1 _ _) (((T.cl.far5 n2 _ _ _ _ _).far5 m2 _ _ _ _ _).far2 k2 _ _) (((T.se.far5 n3 _ _ _ _ _).far5 m3 _ _ _ _ _).far2 k3 _ _))
      | (with_reducible exact twelve (Tg.far5 n1 _ _ _ _ _) (Tc.far5 n2 _ _ _ _ _) (Ts.far5 n3 _ _ _ _ _))
      | (with_reducible exact twelve ((Tg.far5 n1 _ _ _ _ _).far5 m1 _ _ _ _ _) ((Tc.far5 n2 _ _ _ _ _).far5 m2 _ _ _ _ _) ((Ts.far5 n3 _ _ _ _ _).far5 m3 _ _ _ _ _))
      | (with_reducible exact twelve (((Tg.far5 n1 _ _ _ _ _).far5 m1 _ _ _ _ _).far2 k1 _ _) (((Tc.far5 n2 _ _ _ _ _).far5 m2 _ _ _ _ _).far2 k2 _ _) (((Ts.far5 n3 _ _ _ _ _).far5 m3 _ _ _ _ _).far2 k3 _ _))
      | go_keep) (fail)
  generalize hwf : ((((((((((((wc.setCell _ _).setCell _ _).setCell _ _).setCell _ _).setCell _ _).setCell _ _).setCell _ _).setCell _ _).setCell _ _).setCell _ _).setCell _ _).setCell _ _) = wf
  obtain ⟨F1, F2, F3, FR, FB⟩ := T.fin hqR wf hwf
  clear hwf
  clear T Tg Tc Ts a0 a1 a2 a3 a4 x0 x1 x2 x3 x4 z0 z1 b0 b1 b2 b3 b4 c0 c1 c2 c3 c4 d0 d1 f1 f2 f3
  obtain ⟨b0, b1, b2, b3, b4⟩ := F1.five
  obtain ⟨c0, c1, c2, c3, c4⟩ := F2.five
  obtain ⟨d0, d1⟩ := F3.two
  have HR := Lib.hid FR
  have HF := Lib.hid FB
  clear FR FB
  go_wp2
  exact bodyPost_ret (v := .tuple #[.agg #[.int .i64 s, .int .i64 l, .int .i64 c, .int .i64 sh, .slice (some ⟨q, o, none⟩) m cap'], .agg #[.int .i64 ck, .int .i64 ch, .int .i64 ct, .int .i64 cq, .int .i64 cv], .agg #[.int .i64 x, .int .i64 t]]) (by simp [results, Try.results18, go_sem, b0, b1, b2, b3, b4, c0, c1, c2, c3, c4, d0, d1]) rfl
    ⟨s, l, c, sh, q, o, m, cap', zs, ck, ch, ct, cq, cv, x, t, rfl, HR.out, hm, HF.out.drew⟩

end Go.Proofs.Ytcejiellbefojaa
