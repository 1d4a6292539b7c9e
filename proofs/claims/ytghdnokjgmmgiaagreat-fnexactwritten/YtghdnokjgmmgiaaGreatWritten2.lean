/- Written: what the program answers: its contract; and the model's. -/
import Derived.Test.YtghdnokjgmmgiaaGreatWritten1
namespace Go.Proofs.YtghdnokjgmmgiaaGreat
open Go.RowKit

theorem regOkB_is {s l c sh : Int} {zs : List Int} {x rt rq rv : Int} {ps : List (Int × Int)} {os : List Opn} {b : Bool} (hB : regB s l c sh zs x rt rq rv ps os = b) (A : Option Addr) (n cap : Nat) (P : Option Addr) (p pc : Nat) (Q : Option Addr) (q qc : Nat) (w : World) (hm : n ≤ maxLen) (hr : Row w w.heap.size A n zs) (hp : p ≤ 4194304) (hq : q ≤ 4194304) (h1 : Pairs w w.heap.size P p ps) (h2 : Quads w w.heap.size Q q os) :
    Calls Tryz.prog 10 #[.agg #[.int .i64 s, .int .i64 l, .int .i64 c, .int .i64 sh, .slice A n cap], .int .i64 x, .agg #[.int .i64 rt, .int .i64 rq, .int .i64 rv, .slice P p pc, .slice Q q qc]] w fun e w' => e = .returned (.bool b) ∧ Below w.heap.size w w' := hB ▸ regOk_is s l c sh A n cap zs x rt rq rv P p pc Q q qc ps os w hm hr hp hq h1 h2
theorem specRegOkB_is {s l c sh : Int} {zs : List Int} {x rt rq rv : Int} {ps : List (Int × Int)} {os : List Opn} {b : Bool} (hB : regB s l c sh zs x rt rq rv ps os = b) (A : Option Addr) (n cap : Nat) (P : Option Addr) (p pc : Nat) (Q : Option Addr) (q qc : Nat) (w : World) (hm : n ≤ maxLen) (hr : Row w w.heap.size A n zs) (hp : p ≤ 4194304) (hq : q ≤ 4194304) (h1 : Pairs w w.heap.size P p ps) (h2 : Quads w w.heap.size Q q os) :
    Calls Tryz.prog 11 #[.agg #[.int .i64 s, .int .i64 l, .int .i64 c, .int .i64 sh, .slice A n cap], .int .i64 x, .agg #[.int .i64 rt, .int .i64 rq, .int .i64 rv, .slice P p pc, .slice Q q qc]] w fun e w' => e = .returned (.bool b) ∧ Below w.heap.size w w' := hB ▸ specRegOk_is s l c sh A n cap zs x rt rq rv P p pc Q q qc ps os w hm hr hp hq h1 h2

/-- A shelf that reg answered is laid into the variable of the answer. -/
theorem wrr_put {w wc w' : World} {o : Out} {B R : Nat} {A : Option Addr} {n c : Nat} {A' : Option Addr} {n' c' : Nat} (E : Below w.heap.size w wc) (hR0 : w.heap.size ≤ R) (hR : R < wc.heap.size) (hB : wc.heap.size ≤ B) (hB' : B ≤ w'.heap.size) (h1 : ResP w' wc.heap.size B (.slice A n c) o.cs) (h2 : ResO w' B (.slice A' n' c') o.os) (hb : Below wc.heap.size wc w') (x0 x1 x2 x3 x4 : Value) :
    WrR w o (.returned (.tuple #[.agg #[.int .i64 o.t, .int .i64 o.q, .int .i64 o.v, .slice A n c, .slice A' n' c'], .bool o.f])) (((((w'.setCell ⟨R, 0, none⟩ x0).setCell ⟨R, 1, none⟩ x1).setCell ⟨R, 2, none⟩ x2).setCell ⟨R, 3, none⟩ x3).setCell ⟨R, 4, none⟩ x4) :=
  ⟨B, A, n, c, A', n', c', Nat.le_trans E.size hB, by simp only [size_set]; exact hB', rfl, (h1.far5 hR x0 x1 x2 x3 x4).wide E.size (Nat.le_refl _), h2.far5 (by omega) x0 x1 x2 x3 x4, bel_five (bel_trans E hb) hR0 x0 x1 x2 x3 x4⟩

/-- What Written keeps: the group, the variable of the answer, the board, what is next. -/
structure WB (w wr : World) (a b : Nat) (s l c sh : Int) (A : Option Addr) (n cap : Nat) (y n4 : Array Value) : Prop where
  bel : Below w.heap.size w wr
  G : Box wr w.heap.size 26 #[.int .i64 s, .int .i64 l, .int .i64 c, .int .i64 sh, .slice A n cap]
  X : Box wr (w.heap.size + 1 + 1 + 1) 32 #[.int .i64 0, .int .i64 0, .int .i64 0, .slice none 0 0, .slice none 0 0]
  Y : Box wr a 75 y
  N : Box wr b 73 n4
  ha : w.heap.size + 1 + 1 + 1 < a
  hab : a < b
theorem WB.later {w wr w' : World} {a b : Nat} {s l c sh : Int} {A : Option Addr} {n cap : Nat} {y n4 : Array Value} (h : WB w wr a b s l c sh A n cap y n4) (hb : Below wr.heap.size wr w') : WB w w' a b s l c sh A n cap y n4 :=
  ⟨bel_trans h.bel hb, h.G.later hb h.G.lt, h.X.later hb h.X.lt, h.Y.later hb h.Y.lt, h.N.later hb h.N.lt, h.ha, h.hab⟩

set_option maxRecDepth 100000 in
set_option maxHeartbeats 4000000 in
theorem written_is (s l c sh : Int) (A : Option Addr) (n cap : Nat) (zs : List Int) (x rt rq rv : Int) (P : Option Addr) (p pc : Nat) (Q : Option Addr) (q qc : Nat) (ct cq v : Int) (L : Option Addr) (m mc : Nat) (ps : List (Int × Int)) (os : List Opn) (cs : List (Int × Int)) (w : World) (hm : n ≤ maxLen) (hr : Row w w.heap.size A n zs) (hp : p ≤ 2000000) (hq : q ≤ 2000000) (h1 : Slc w (.slice P p pc) ps) (h2 : SlcQ w (.slice Q q qc) os) (hn : m ≤ 4194304) (h3 : Pairs w w.heap.size L m cs) :
    Calls Tryz.prog 7 #[.agg #[.int .i64 s, .int .i64 l, .int .i64 c, .int .i64 sh, .slice A n cap], .int .i64 x, .agg #[.int .i64 rt, .int .i64 rq, .int .i64 rv, .slice P p pc, .slice Q q qc], .agg #[.int .i64 ct, .int .i64 cq], .int .i64 v, .slice L m mc] w (WrR w (outW s l c sh zs x rt rq rv ps os ct cq v cs)) := by
  have G := (((Box.new w 26 #[.int .i64 s, .int .i64 l, .int .i64 c, .int .i64 sh, .slice A n cap]).alloc (.cells #[.int .i64 rt, .int .i64 rq, .int .i64 rv, .slice P p pc, .slice Q q qc] 32)).alloc (.cells #[.int .i64 ct, .int .i64 cq] 28)).alloc (.cells #[.int .i64 0, .int .i64 0, .int .i64 0, .slice none 0 0, .slice none 0 0] 32)
  have D := ((Box.new (w.alloc (.cells #[.int .i64 s, .int .i64 l, .int .i64 c, .int .i64 sh, .slice A n cap] 26)) 32 #[.int .i64 rt, .int .i64 rq, .int .i64 rv, .slice P p pc, .slice Q q qc]).alloc (.cells #[.int .i64 ct, .int .i64 cq] 28)).alloc (.cells #[.int .i64 0, .int .i64 0, .int .i64 0, .slice none 0 0, .slice none 0 0] 32)
  have T := (Box.new ((w.alloc (.cells #[.int .i64 s, .int .i64 l, .int .i64 c, .int .i64 sh, .slice A n cap] 26)).alloc (.cells #[.int .i64 rt, .int .i64 rq, .int .i64 rv, .slice P p pc, .slice Q q qc] 32)) 28 #[.int .i64 ct, .int .i64 cq]).alloc (.cells #[.int .i64 0, .int .i64 0, .int .i64 0, .slice none 0 0, .slice none 0 0] 32)
  have X := Box.new (((w.alloc (.cells #[.int .i64 s, .int .i64 l, .int .i64 c, .int .i64 sh, .slice A n cap] 26)).alloc (.cells #[.int .i64 rt, .int .i64 rq, .int .i64 rv, .slice P p pc, .slice Q q qc] 32)).alloc (.cells #[.int .i64 ct, .int .i64 cq] 28)) 32 #[.int .i64 0, .int .i64 0, .int .i64 0, .slice none 0 0, .slice none 0 0]
  have E := bel_trans (bel_trans (bel_trans (bel_alloc w (.cells #[.int .i64 s, .int .i64 l, .int .i64 c, .int .i64 sh, .slice A n cap] 26)) (bel_alloc _ (.cells #[.int .i64 rt, .int .i64 rq, .int .i64 rv, .slice P p pc, .slice Q q qc] 32))) (bel_alloc _ (.cells #[.int .i64 ct, .int .i64 cq] 28))) (bel_alloc _ (.cells #[.int .i64 0, .int .i64 0, .int .i64 0, .slice none 0 0, .slice none 0 0] 32))
  simp only [World.size_alloc] at D T X
  have HLP : Hid (ps.length = p) := Lib.hid (slc_pairs h1).1
  have HLQ : Hid (os.length = q) := Lib.hid (slcQ_quads h2).1
  have HR := Lib.hid hr
  have HM := Lib.hid hm
  have H1 := Lib.hid h1
  have H2 := Lib.hid h2
  have H3 := Lib.hid h3
  clear hr hm h1 h2 h3
  obtain ⟨O, hO⟩ : ∃ O, outW s l c sh zs x rt rq rv ps os ct cq v cs = O := ⟨_, rfl⟩
  rw [hO]
  go_enter Tryz.func7, Tryz.ntmps7
  go_wp2_with fail
  generalize ((((w.alloc _).alloc _).alloc _).alloc _ : World) = w0 at G D T X E ⊢
  rcases hrg : regB s l c sh zs x rt rq rv ps os with _ | _
  · have HO : Hid (O = ⟨0, 0, 0, [], [], false⟩) := Lib.hid (by rw [← hO]; unfold outW; rw [if_pos hrg])
    have HRG := Lib.hid hrg
    clear hrg hO
    refine (regOkB_is HRG.out A n cap P p pc Q q qc w0 HM.out ((HR.out.below E (Nat.le_refl _)).more E.size) (by omega) (by omega) (slc_pairs (H1.out.later E)) (slcQ_quads (H2.out.later E))).mono ?_
    rintro e w1 ⟨rfl, hb1⟩
    have E1 := bel_trans E hb1
    have X1 := X.later hb1 X.lt
    have hX := X.lt
    have hb1s := hb1.size
    have HP : Hid (∀ x0 x1 x2 x3 x4 : Value, WrR w O (.returned (.tuple #[.agg #[.int .i64 0, .int .i64 0, .int .i64 0, .slice none 0 0, .slice none 0 0], .bool false])) (((((w1.setCell ⟨w.heap.size + 1 + 1 + 1, 0, none⟩ x0).setCell ⟨w.heap.size + 1 + 1 + 1, 1, none⟩ x1).setCell ⟨w.heap.size + 1 + 1 + 1, 2, none⟩ x2).setCell ⟨w.heap.size + 1 + 1 + 1, 3, none⟩ x3).setCell ⟨w.heap.size + 1 + 1 + 1, 4, none⟩ x4)) := Lib.hid fun x0 x1 x2 x3 x4 => by
      rw [HO.out]
      exact ⟨w.heap.size, none, 0, 0, none, 0, 0, Nat.le_refl _, by simp only [size_set]; omega, rfl, .inl ⟨rfl, rfl⟩, .inl ⟨rfl, rfl⟩, bel_five E1 (by omega) x0 x1 x2 x3 x4⟩
    obtain ⟨x0, x1, x2, x3, x4⟩ := X1.five
    have fx := X1.frozen
    clear G D T X X1 E E1 hb1
    go_wp2
    exact bodyPost_ret (v := .tuple #[.agg #[.int .i64 0, .int .i64 0, .int .i64 0, .slice none 0 0, .slice none 0 0], .bool false]) (by simp [results, Tryz.results7, go_sem, x0, x1, x2, x3, x4]) rfl (HP.out _ _ _ _ _)
  have HRG := Lib.hid hrg
  refine (regOkB_is HRG.out A n cap P p pc Q q qc w0 HM.out ((HR.out.below E (Nat.le_refl _)).more E.size) (by omega) (by omega) (slc_pairs (H1.out.later E)) (slcQ_quads (H2.out.later E))).mono ?_
  rintro e w1 ⟨rfl, hb1⟩
  have D1 := D.later hb1 D.lt
  obtain ⟨d0, d1, d2, d3, d4⟩ := D1.five
  go_wp2_with fail
  refine (boardOf_is rt rq rv P p pc Q q qc w1).mono ?_
  rintro e w2 ⟨rfl, hb2⟩
  have hb12 := bel_trans hb1 hb2
  have hbA := bel_alloc w2 (.cells #[.int .i64 rt, .int .i64 rq, .int .i64 rv, .slice P p pc, .slice Q q qc] 75)
  have hbB := bel_alloc (w2.alloc (.cells #[.int .i64 rt, .int .i64 rq, .int .i64 rv, .slice P p pc, .slice Q q qc] 75)) (.cells #[.int .i64 ct, .int .i64 cq, .int .i64 v, .slice L m mc] 73)
  have hbAB := bel_trans hbA hbB
  have F := bel_trans hb12 hbAB
  have hX2 := (X.later hb12 X.lt).lt
  have T2 := T.later hb12 T.lt
  have hT2 := T2.lt
  obtain ⟨t0, t1⟩ := T2.two
  have G2 := G.later hb12 G.lt
  have hG2 := G2.lt
  obtain ⟨e0, e1, e2, e3, e4⟩ := G2.five
  have K : WB w ((w2.alloc (.cells #[.int .i64 rt, .int .i64 rq, .int .i64 rv, .slice P p pc, .slice Q q qc] 75)).alloc (.cells #[.int .i64 ct, .int .i64 cq, .int .i64 v, .slice L m mc] 73)) w2.heap.size (w2.heap.size + 1) s l c sh A n cap #[.int .i64 rt, .int .i64 rq, .int .i64 rv, .slice P p pc, .slice Q q qc] #[.int .i64 ct, .int .i64 cq, .int .i64 v, .slice L m mc] := by
    refine ⟨bel_trans E F, G.later F G.lt, X.later F X.lt, (Box.new w2 _ _).alloc _, ?_, hX2, by omega⟩
    have := Box.new (w2.alloc (.cells #[.int .i64 rt, .int .i64 rq, .int .i64 rv, .slice P p pc, .slice Q q qc] 75)) 73 #[.int .i64 ct, .int .i64 cq, .int .i64 v, .slice L m mc]
    simp only [World.size_alloc] at this
    exact this
  clear G D T X E hb1 hb2 hb12 hbA hbB hbAB F D1 d0 d1 d2 d3 d4 T2 G2
  go_wp2_with fail
  generalize ((w2.alloc _).alloc _ : World) = w3 at K ⊢
  generalize w2.heap.size = a at K hX2 hT2 hG2 ⊢
  clear t0 t1 e0 e1 e2 e3 e4 hT2 hG2
  rcases hwr : wrtB s l c sh zs x ct cq v cs with _ | _
  · have HO : Hid (O = ⟨rt, rq, rv, ps, os, false⟩) := Lib.hid (by rw [← hO]; unfold outW; rw [if_neg (by rw [hrg]; simp), if_pos hwr])
    have HWR := Lib.hid hwr
    clear hwr hrg hO
    refine (canWrite_is HWR.out A n cap L m mc w3 HM.out ((HR.out.below K.bel (Nat.le_refl _)).more K.bel.size) hn (H3.out.later K.bel)).mono ?_
    rintro e w4 ⟨rfl, hb4⟩
    replace K := K.later hb4
    clear hb4
    obtain ⟨y0, y1, y2, y3, y4⟩ := K.Y.five
    have hX4 := K.X.lt
    go_wp2_with fail
    refine (reg_is rt rq rv P p pc Q q qc ps os w4 (by rw [HLP.out]; omega) (by rw [HLQ.out]; omega) (H1.out.later K.bel) (H2.out.later K.bel)).mono ?_
    rintro e w5 ⟨B, u, u', hB, hB', rfl, hR1, hR2, hb5⟩
    obtain ⟨A5, c5, rfl, -, -, -, -⟩ := hR1.form
    obtain ⟨A6, c6, rfl, -, -, -, -⟩ := hR2.form
    have X5 := K.X.later hb5 K.X.lt
    obtain ⟨x0, x1, x2, x3, x4⟩ := X5.five
    have fx := X5.frozen
    have HP := Lib.hid (wrr_put (o := ⟨rt, rq, rv, ps, os, false⟩) (R := w.heap.size + 1 + 1 + 1) K.bel (by omega) hX4 hB hB' hR1 hR2 hb5)
    rw [← HO.out] at HP
    clear hR1 hR2 K y0 y1 y2 y3 y4 X5
    go_wp2
    exact bodyPost_ret (v := .tuple #[.agg #[.int .i64 rt, .int .i64 rq, .int .i64 rv, .slice A5 ps.length c5, .slice A6 os.length c6], .bool false]) (by simp [results, Tryz.results7, go_sem, x0, x1, x2, x3, x4]) rfl (by have := HP.out; rw [HO.out] at this ⊢; exact this _ _ _ _ _)
  have HWR := Lib.hid hwr
  refine (canWrite_is HWR.out A n cap L m mc w3 HM.out ((HR.out.below K.bel (Nat.le_refl _)).more K.bel.size) hn (H3.out.later K.bel)).mono ?_
  rintro e w4 ⟨rfl, hb4⟩
  replace K := K.later hb4
  clear hb4
  obtain ⟨y0, y1, y2, y3, y4⟩ := K.Y.five
  obtain ⟨n0, n1, n2, n3⟩ := K.N.four
  go_wp2_with fail
  refine (newer_any ct cq rt rq w4).mono ?_
  rintro e w5 ⟨rfl, hb5⟩
  replace K := K.later hb5
  clear hb5 y0 y1 y2 y3 y4 n0 n1 n2 n3
  rcases hcm : cmpN ct cq rt rq == 1 with _ | _
  · have HO : Hid (O = ⟨rt, rq, rv, ps, os, true⟩) := Lib.hid (by rw [← hO]; unfold outW; rw [if_neg (by rw [hrg]; simp), if_neg (by rw [hwr]; simp), if_neg (by simpa using hcm)])
    clear hwr hrg hO
    obtain ⟨y0, y1, y2, y3, y4⟩ := K.Y.five
    have hX4 := K.X.lt
    go_wp2_with fail
    refine (reg_is rt rq rv P p pc Q q qc ps os w5 (by rw [HLP.out]; omega) (by rw [HLQ.out]; omega) (H1.out.later K.bel) (H2.out.later K.bel)).mono ?_
    rintro e w6 ⟨B, u, u', hB, hB', rfl, hR1, hR2, hb5⟩
    obtain ⟨A5, c5, rfl, -, -, -, -⟩ := hR1.form
    obtain ⟨A6, c6, rfl, -, -, -, -⟩ := hR2.form
    have X5 := K.X.later hb5 K.X.lt
    obtain ⟨x0, x1, x2, x3, x4⟩ := X5.five
    have fx := X5.frozen
    have HP := Lib.hid (wrr_put (o := ⟨rt, rq, rv, ps, os, true⟩) (R := w.heap.size + 1 + 1 + 1) K.bel (by omega) hX4 hB hB' hR1 hR2 hb5)
    rw [← HO.out] at HP
    clear hR1 hR2 K y0 y1 y2 y3 y4 X5
    go_wp2
    exact bodyPost_ret (v := .tuple #[.agg #[.int .i64 rt, .int .i64 rq, .int .i64 rv, .slice A5 ps.length c5, .slice A6 os.length c6], .bool true]) (by simp [results, Tryz.results7, go_sem, x0, x1, x2, x3, x4]) rfl (by have := HP.out; rw [HO.out] at this ⊢; exact this _ _ _ _ _)
  · have hz := (wrt_parts hwr).2.2.1
    have HLS : Hid (lefS s l c sh zs x ct cq v cs = goodP (rB s l c sh zs 1 x ct cq v) cs) := Lib.hid (by unfold lefS; rw [if_neg hz])
    have HO : Hid (O = ⟨ct, cq, v, goodP (rB s l c sh zs 1 x ct cq v) cs, os, true⟩) := Lib.hid (by rw [← hO]; unfold outW; rw [if_neg (by rw [hrg]; simp), if_neg (by rw [hwr]; simp), if_pos (by simpa using hcm)])
    clear hwr hrg hO hz
    obtain ⟨n0, n1, n2, n3⟩ := K.N.four
    obtain ⟨g0, g1, g2, g3, g4⟩ := K.G.five
    go_wp2_with fail
    refine (leftSeals_is s l c sh A n cap zs x ct cq v L m mc cs w5 HM.out ((HR.out.below K.bel (Nat.le_refl _)).more K.bel.size) hn (H3.out.later K.bel)).mono ?_
    rintro e w6 ⟨u, rfl, hOw⟩
    rw [HLS.out] at hOw
    obtain ⟨J, hJ⟩ : ∃ J, goodP (rB s l c sh zs 1 x ct cq v) cs = J := ⟨_, rfl⟩
    rw [hJ] at hOw HO
    have hJl : J.length ≤ 4194304 := by
      rw [← hJ]
      have := goodP_le (rB s l c sh zs 1 x ct cq v) cs
      rw [H3.out.1] at this
      omega
    obtain ⟨Au, nu, cu, rfl⟩ := slc_form hOw.slc
    have K6 := K.later hOw.2
    have hs5 := K.N.lt
    have hRs := hOw.res (lo := w5.heap.size) (Nat.le_refl _)
    clear K hJ n0 n1 n2 n3 g0 g1 g2 g3 g4
    obtain ⟨n0, n1, n2, n3⟩ := K6.N.four
    obtain ⟨y0, y1, y2, y3, y4⟩ := K6.Y.five
    have fn := K6.N.frozen
    have fy := K6.Y.frozen
    have hab := K6.hab
    have ha := K6.ha
    have hNl := K6.N.lt
    have hX6 := K6.X.lt
    -- the board, behind what is written on it
    have Y7 := Lib.hid ((((K6.Y.far (p := ⟨a + 1, 3, none⟩) (by show a + 1 ≠ a; omega) (.slice Au nu cu)).set 0 (.int .i64 ct)).set 1 (.int .i64 cq)).set 2 (.int .i64 v) |>.set 3 (.slice Au nu cu))
    have X7 := Lib.hid (((((K6.X.far (p := ⟨a + 1, 3, none⟩) (by show a + 1 ≠ _; omega) (.slice Au nu cu)).far (p := ⟨a, 0, none⟩) (by show a ≠ _; omega) (.int .i64 ct)).far (p := ⟨a, 1, none⟩) (by show a ≠ _; omega) (.int .i64 cq)).far (p := ⟨a, 2, none⟩) (by show a ≠ _; omega) (.int .i64 v)).far (p := ⟨a, 3, none⟩) (by show a ≠ _; omega) (.slice Au nu cu))
    have E7 := Lib.hid (((((K6.bel.setCell (p := ⟨a + 1, 3, none⟩) (by show _ ≤ a + 1; omega) (.slice Au nu cu)).setCell (p := ⟨a, 0, none⟩) (by show _ ≤ a; omega) (.int .i64 ct)).setCell (p := ⟨a, 1, none⟩) (by show _ ≤ a; omega) (.int .i64 cq)).setCell (p := ⟨a, 2, none⟩) (by show _ ≤ a; omega) (.int .i64 v)).setCell (p := ⟨a, 3, none⟩) (by show _ ≤ a; omega) (.slice Au nu cu))
    have R7 := Lib.hid (((((hRs.far (b := a + 1) (by omega) 3 (.slice Au nu cu)).far (b := a) (by omega) 0 (.int .i64 ct)).far (b := a) (by omega) 1 (.int .i64 cq)).far (b := a) (by omega) 2 (.int .i64 v)).far (b := a) (by omega) 3 (.slice Au nu cu))
    clear K6 hRs hOw
    go_upto_region 10 with fail
    generalize (((((w6.setCell _ _).setCell _ _).setCell _ _).setCell _ _).setCell _ _ : World) = w7 at Y7 X7 E7 R7 ⊢
    have Y8 : Box w7 a 75 #[.int .i64 ct, .int .i64 cq, .int .i64 v, .slice Au nu cu, .slice Q q qc] := Y7.out
    have X8 := X7.out
    clear y0 y1 y2 y3 y4 n0 n1 n2 n3 fn fy Y7 X7
    obtain ⟨y0, y1, y2, y3, y4⟩ := Y8.five
    have hX8 := X8.lt
    go_wp2_with fail
    refine (reg_is ct cq v Au nu cu Q q qc J os w7 hJl (by rw [HLQ.out]; omega) R7.out.slc (H2.out.later E7.out)).mono ?_
    rintro e w8 ⟨B, u, u', hB, hB', rfl, hR1, hR2, hb5⟩
    obtain ⟨A5, c5, rfl, -, -, -, -⟩ := hR1.form
    obtain ⟨A6, c6, rfl, -, -, -, -⟩ := hR2.form
    have X5 := X8.later hb5 X8.lt
    obtain ⟨x0, x1, x2, x3, x4⟩ := X5.five
    have fx := X5.frozen
    have HP := Lib.hid (wrr_put (o := ⟨ct, cq, v, J, os, true⟩) (R := w.heap.size + 1 + 1 + 1) E7.out (by omega) hX8 hB hB' hR1 hR2 hb5)
    rw [← HO.out] at HP
    clear hR1 hR2 y0 y1 y2 y3 y4 X5 Y8 X8 E7 R7
    go_wp2
    exact bodyPost_ret (v := .tuple #[.agg #[.int .i64 ct, .int .i64 cq, .int .i64 v, .slice A5 J.length c5, .slice A6 os.length c6], .bool true]) (by simp [results, Tryz.results7, go_sem, x0, x1, x2, x3, x4]) rfl (by have := HP.out; rw [HO.out] at this ⊢; exact this _ _ _ _ _)

set_option maxRecDepth 100000 in
set_option maxHeartbeats 4000000 in
theorem specWritten_is (s l c sh : Int) (A : Option Addr) (n cap : Nat) (zs : List Int) (x rt rq rv : Int) (P : Option Addr) (p pc : Nat) (Q : Option Addr) (q qc : Nat) (ct cq v : Int) (L : Option Addr) (m mc : Nat) (ps : List (Int × Int)) (os : List Opn) (cs : List (Int × Int)) (w : World) (hm : n ≤ maxLen) (hr : Row w w.heap.size A n zs) (hp : p ≤ 2000000) (hq : q ≤ 2000000) (h1 : Slc w (.slice P p pc) ps) (h2 : SlcQ w (.slice Q q qc) os) (hn : m ≤ 4194304) (h3 : Pairs w w.heap.size L m cs) (O : Out) (hO : outW s l c sh zs x rt rq rv ps os ct cq v cs = O) :
    Calls Tryz.prog 8 #[.agg #[.int .i64 s, .int .i64 l, .int .i64 c, .int .i64 sh, .slice A n cap], .int .i64 x, .agg #[.int .i64 rt, .int .i64 rq, .int .i64 rv, .slice P p pc, .slice Q q qc], .agg #[.int .i64 ct, .int .i64 cq], .int .i64 v, .slice L m mc] w (SpR w O.t O.q O.v O.cs O.os O.f) := by
  have G := (((Box.new w 26 #[.int .i64 s, .int .i64 l, .int .i64 c, .int .i64 sh, .slice A n cap]).alloc (.cells #[.int .i64 rt, .int .i64 rq, .int .i64 rv, .slice P p pc, .slice Q q qc] 32)).alloc (.cells #[.int .i64 ct, .int .i64 cq] 28)).alloc (.cells #[.int .i64 0, .int .i64 0, .int .i64 0, .slice none 0 0, .slice none 0 0] 32)
  have D := ((Box.new (w.alloc (.cells #[.int .i64 s, .int .i64 l, .int .i64 c, .int .i64 sh, .slice A n cap] 26)) 32 #[.int .i64 rt, .int .i64 rq, .int .i64 rv, .slice P p pc, .slice Q q qc]).alloc (.cells #[.int .i64 ct, .int .i64 cq] 28)).alloc (.cells #[.int .i64 0, .int .i64 0, .int .i64 0, .slice none 0 0, .slice none 0 0] 32)
  have T := (Box.new ((w.alloc (.cells #[.int .i64 s, .int .i64 l, .int .i64 c, .int .i64 sh, .slice A n cap] 26)).alloc (.cells #[.int .i64 rt, .int .i64 rq, .int .i64 rv, .slice P p pc, .slice Q q qc] 32)) 28 #[.int .i64 ct, .int .i64 cq]).alloc (.cells #[.int .i64 0, .int .i64 0, .int .i64 0, .slice none 0 0, .slice none 0 0] 32)
  have X := Box.new (((w.alloc (.cells #[.int .i64 s, .int .i64 l, .int .i64 c, .int .i64 sh, .slice A n cap] 26)).alloc (.cells #[.int .i64 rt, .int .i64 rq, .int .i64 rv, .slice P p pc, .slice Q q qc] 32)).alloc (.cells #[.int .i64 ct, .int .i64 cq] 28)) 32 #[.int .i64 0, .int .i64 0, .int .i64 0, .slice none 0 0, .slice none 0 0]
  have E := bel_trans (bel_trans (bel_trans (bel_alloc w (.cells #[.int .i64 s, .int .i64 l, .int .i64 c, .int .i64 sh, .slice A n cap] 26)) (bel_alloc _ (.cells #[.int .i64 rt, .int .i64 rq, .int .i64 rv, .slice P p pc, .slice Q q qc] 32))) (bel_alloc _ (.cells #[.int .i64 ct, .int .i64 cq] 28))) (bel_alloc _ (.cells #[.int .i64 0, .int .i64 0, .int .i64 0, .slice none 0 0, .slice none 0 0] 32))
  simp only [World.size_alloc] at D T X
  have HLP : Hid (ps.length = p) := Lib.hid (slc_pairs h1).1
  have HLQ : Hid (os.length = q) := Lib.hid (slcQ_quads h2).1
  have HR := Lib.hid hr
  have HM := Lib.hid hm
  have H1 := Lib.hid h1
  have H2 := Lib.hid h2
  have H3 := Lib.hid h3
  have HO := Lib.hid hO
  clear hr hm h1 h2 h3 hO
  go_enter Tryz.func8, Tryz.ntmps8
  go_wp2_with fail
  generalize ((((w.alloc _).alloc _).alloc _).alloc _ : World) = w0 at G D T X E ⊢
  rcases hrg : regB s l c sh zs x rt rq rv ps os with _ | _
  · have HO2 : Hid (O = ⟨0, 0, 0, [], [], false⟩) := Lib.hid (by rw [← HO.out]; unfold outW; rw [if_pos hrg])
    have HRG := Lib.hid hrg
    clear hrg HO
    refine (specRegOkB_is HRG.out A n cap P p pc Q q qc w0 HM.out ((HR.out.below E (Nat.le_refl _)).more E.size) (by omega) (by omega) (slc_pairs (H1.out.later E)) (slcQ_quads (H2.out.later E))).mono ?_
    rintro e w1 ⟨rfl, hb1⟩
    have E1 := bel_trans E hb1
    have X1 := X.later hb1 X.lt
    have HP := Lib.hid (spr_put (w := w) (wr := w1) (R := w.heap.size + 1 + 1 + 1) (rt := 0) (rq := 0) (rv := 0) (A := none) (n := 0) (c := 0) (A' := none) (n' := 0) (c' := 0) (ps := []) (os := []) (f := false) E1 (by omega) ⟨rfl, fun h => absurd h (by omega)⟩ (quads_nil _ _ _) (fun _ _ e => by cases e) (fun _ _ e => by cases e))
    obtain ⟨x0, x1, x2, x3, x4⟩ := X1.five
    have fx := X1.frozen
    clear G D T X X1 E E1 hb1
    go_wp2
    exact bodyPost_ret (v := .tuple #[.agg #[.int .i64 0, .int .i64 0, .int .i64 0, .slice none 0 0, .slice none 0 0], .bool false]) (by simp [results, Tryz.results8, go_sem, x0, x1, x2, x3, x4]) rfl (by rw [HO2.out]; exact HP.out _ _ _ _ _)
  have HRG := Lib.hid hrg
  clear hrg
  refine (specRegOkB_is HRG.out A n cap P p pc Q q qc w0 HM.out ((HR.out.below E (Nat.le_refl _)).more E.size) (by omega) (by omega) (slc_pairs (H1.out.later E)) (slcQ_quads (H2.out.later E))).mono ?_
  rintro e w1 ⟨rfl, hb1⟩
  replace G := G.later hb1 G.lt
  replace D := D.later hb1 D.lt
  replace T := T.later hb1 T.lt
  replace X := X.later hb1 X.lt
  replace E := bel_trans E hb1
  clear hb1
  have hX1 := X.lt
  obtain ⟨g0, g1, g2, g3, g4⟩ := G.five
  obtain ⟨d0, d1, d2, d3, d4⟩ := D.five
  obtain ⟨t0, t1⟩ := T.two
  have hw : Calls Tryz.prog 42 #[.agg #[.int .i64 s, .int .i64 l, .int .i64 c, .int .i64 sh, .slice A n cap], .int .i64 x, .agg #[.int .i64 rt, .int .i64 rq, .int .i64 rv, .slice P p pc, .slice Q q qc], .agg #[.int .i64 ct, .int .i64 cq], .int .i64 v, .slice L m mc] w1 (SpR w1 O.t O.q O.v O.cs O.os O.f) := by
    rcases hwr : wrtB s l c sh zs x ct cq v cs with _ | _
    · have e : O = ⟨rt, rq, rv, ps, os, false⟩ := by rw [← HO.out]; unfold outW; rw [if_neg (by rw [HRG.out]; simp), if_pos hwr]
      rw [e]
      exact l7Write_no s l c sh A n cap zs x rt rq rv P p pc Q q qc ct cq v L m mc ps os cs w1 HM.out ((HR.out.below E (Nat.le_refl _)).more E.size) (by rw [HLP.out]; exact hp) (by rw [HLQ.out]; exact hq) (H1.out.later E) (H2.out.later E) hn (H3.out.later E) hwr
    · have hcp := cmp_pos (wrt_parts hwr).1 (reg_stamp HRG.out)
      refine (l7Write_yes s l c sh A n cap zs x rt rq rv P p pc Q q qc ct cq v L m mc ps os cs w1 HM.out ((HR.out.below E (Nat.le_refl _)).more E.size) (by rw [HLP.out]; exact hp) (by rw [HLQ.out]; exact hq) (H1.out.later E) (H2.out.later E) hn (H3.out.later E) hwr).mono ?_
      rintro e w2 (⟨hc, h⟩ | ⟨hc, h⟩)
      · have e : O = ⟨rt, rq, rv, ps, os, true⟩ := by rw [← HO.out]; unfold outW; rw [if_neg (by rw [HRG.out]; simp), if_neg (by rw [hwr]; simp), if_neg (fun h => hc (hcp.2 h))]
        rw [e]
        exact h
      · have e : O = ⟨ct, cq, v, goodP (rB s l c sh zs 1 x ct cq v) cs, os, true⟩ := by rw [← HO.out]; unfold outW; rw [if_neg (by rw [HRG.out]; simp), if_neg (by rw [hwr]; simp), if_pos (hcp.1 hc)]
        rw [e]
        exact h
  replace hw := Lib.hid hw
  go_wp2_with fail
  refine hw.out.mono ?_
  rintro e w2 ⟨A5, n5, c5, A6, n6, c6, rfl, hP, hQ, hA, hA', hb2⟩
  have E2 := bel_trans E hb2
  have X2 := X.later hb2 X.lt
  obtain ⟨x0, x1, x2, x3, x4⟩ := X2.five
  have fx := X2.frozen
  have HP := Lib.hid (spr_put (R := w.heap.size + 1 + 1 + 1) (rt := O.t) (rq := O.q) (rv := O.v) (c := c5) (c' := c6) (f := O.f) E2 (by omega) hP hQ (fun b o e => ⟨by have := hA b o e; omega, by have := hA b o e; omega⟩) (fun b o e => ⟨by have := hA' b o e; omega, by have := hA' b o e; omega⟩))
  clear G D T X X2 E E2 hb2 hP hQ hA hA' g0 g1 g2 g3 g4 d0 d1 d2 d3 d4 t0 t1 hw
  obtain ⟨Ot, Oq, Ov, Oc, Oo, Of⟩ := O
  go_wp2
  exact bodyPost_ret (v := .tuple #[.agg #[.int .i64 Ot, .int .i64 Oq, .int .i64 Ov, .slice A5 n5 c5, .slice A6 n6 c6], .bool Of]) (by simp [results, Tryz.results8, go_sem, x0, x1, x2, x3, x4]) rfl (HP.out _ _ _ _ _)

end Go.Proofs.YtghdnokjgmmgiaaGreat
