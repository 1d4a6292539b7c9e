/- Written: the program's and the model's: contracts of each of them. -/
import Derived.Test.YtjdepjpjjgkmbaaGreatSpecReg4
namespace Go.Proofs.YtjdepjpjjgkmbaaGreat
open Go.RowKit

theorem slc_pairs {w : World} {P : Option Addr} {p pc : Nat} {ps : List (Int × Int)} (h : Slc w (.slice P p pc) ps) : Pairs w w.heap.size P p ps := by
  rcases h with ⟨e, rfl⟩ | ⟨b, o, n, cap, e, hp⟩
  · injection e with e1 e2 _
    subst e1 e2
    exact ⟨rfl, fun h => absurd h (by omega)⟩
  · injection e with e1 e2 _
    subst e1 e2
    exact hp
theorem slcQ_quads {w : World} {P : Option Addr} {p pc : Nat} {os : List Opn} (h : SlcQ w (.slice P p pc) os) : Quads w w.heap.size P p os := by
  rcases h with ⟨e, rfl⟩ | ⟨b, o, n, cap, e, _, _, hp⟩
  · injection e with e1 e2 _
    subst e1 e2
    exact quads_nil _ _ _
  · injection e with e1 e2 _
    subst e1 e2
    exact hp

/-- What Written answers: a stamp, a value, seals, opens, a flag. -/
structure Out where
  t : Int
  q : Int
  v : Int
  cs : List (Int × Int)
  os : List Opn
  f : Bool
def outW (s l c sh : Int) (zs : List Int) (x rt rq rv : Int) (ps : List (Int × Int)) (os : List Opn) (ct cq v : Int) (cs : List (Int × Int)) : Out :=
  if regB s l c sh zs x rt rq rv ps os = false then ⟨0, 0, 0, [], [], false⟩
  else if wrtB s l c sh zs x ct cq v cs = false then ⟨rt, rq, rv, ps, os, false⟩
  else if cmpN ct cq rt rq = 1 then ⟨ct, cq, v, goodP (rB s l c sh zs 1 x ct cq v) cs, os, true⟩
  else ⟨rt, rq, rv, ps, os, true⟩
theorem reg_stamp {s l c sh : Int} {zs : List Int} {x rt rq rv : Int} {ps : List (Int × Int)} {os : List Opn} (h : regB s l c sh zs x rt rq rv ps os = true) : stB rt rq = true := by
  unfold regB at h
  rw [Bool.and_eq_true, ← lefB_spec] at h
  have := h.1
  unfold spcB at this
  simp only [Bool.and_eq_true] at this
  exact this.1.1.1
theorem cmp_pos {a b c d : Int} (h1 : stB a b = true) (h2 : stB c d = true) : 0 < cmpN a b c d ↔ cmpN a b c d = 1 := by
  rw [cmpN_yes h1 h2]
  have g1 := sgn_bd a c
  have g2 := sgn_bd b d
  unfold orN
  split <;> omega
/-- A shelf and a flag that are answered: its lists lie in blocks of their own. -/
def WrR (w : World) (o : Out) (e : Ending) (w' : World) : Prop :=
  ∃ (B : Nat) (A : Option Addr) (n c : Nat) (A' : Option Addr) (n' c' : Nat), w.heap.size ≤ B ∧ B ≤ w'.heap.size ∧ e = .returned (.tuple #[.agg #[.int .i64 o.t, .int .i64 o.q, .int .i64 o.v, .slice A n c, .slice A' n' c'], .bool o.f]) ∧ ResP w' w.heap.size B (.slice A n c) o.cs ∧ ResO w' B (.slice A' n' c') o.os ∧ Below w.heap.size w w'

set_option maxRecDepth 100000 in
set_option maxHeartbeats 1000000 in
theorem canWrite_is {s l c sh : Int} {zs : List Int} {x ct cq v : Int} {cs : List (Int × Int)} {b : Bool} (hW : wrtB s l c sh zs x ct cq v cs = b) (A : Option Addr) (n cap : Nat) (L : Option Addr) (m mc : Nat) (w : World) (hm : n ≤ maxLen) (hr : Row w w.heap.size A n zs) (hn : m ≤ 4194304) (h : Pairs w w.heap.size L m cs) :
    Calls Tryz.prog 236 #[.agg #[.int .i64 ct, .int .i64 cq, .int .i64 v, .slice L m mc], .agg #[.int .i64 s, .int .i64 l, .int .i64 c, .int .i64 sh, .slice A n cap], .int .i64 x] w fun e w' => e = .returned (.bool b) ∧ Below w.heap.size w w' := by
  have D := (Box.new w 199 #[.int .i64 ct, .int .i64 cq, .int .i64 v, .slice L m mc]).alloc (.cells #[.int .i64 s, .int .i64 l, .int .i64 c, .int .i64 sh, .slice A n cap] 26)
  have G := Box.new (w.alloc (.cells #[.int .i64 ct, .int .i64 cq, .int .i64 v, .slice L m mc] 199)) 26 #[.int .i64 s, .int .i64 l, .int .i64 c, .int .i64 sh, .slice A n cap]
  have E := bel_trans (bel_alloc w (.cells #[.int .i64 ct, .int .i64 cq, .int .i64 v, .slice L m mc] 199)) (bel_alloc _ (.cells #[.int .i64 s, .int .i64 l, .int .i64 c, .int .i64 sh, .slice A n cap] 26))
  simp only [World.size_alloc] at G
  have HR := Lib.hid ((hr.below E (Nat.le_refl _)).more E.size)
  have HP := Lib.hid (h.later E)
  have HM := Lib.hid hm
  have HW := Lib.hid hW
  clear hr hm h hW
  rcases zero_cases ct cq with ⟨rfl, rfl⟩ | ⟨hcase, hnz⟩
  · have HB : Hid (b = false) := Lib.hid (by rw [← HW.out]; exact wrt_zero _ _ _ _ _ _ _ _)
    go_enter Tryz.func236, Tryz.ntmps236
    go_wp2
    go_ret
    exact ⟨by rw [HB.out]; rfl, E⟩
  · have HPB : Hid (proB s l c sh zs x ct cq v cs = b) := Lib.hid (by rw [← HW.out]; unfold wrtB; simp [hnz])
    clear hnz
    rcases hcase with h1 | ⟨h1, h2⟩
    all_goals
      go_enter Tryz.func236, Tryz.ntmps236
      go_wp2_with fail
      generalize ((w.alloc _).alloc _ : World) = w0 at D G E HR HP ⊢
      refine (provenR_is HPB.out A n cap L m mc w0 HM.out HR.out hn HP.out).mono ?_
      rintro e w1 ⟨rfl, hb1⟩
      have E1 := bel_trans E hb1
      go_wp2
      go_ret
      exact ⟨rfl, E1⟩

end Go.Proofs.YtjdepjpjjgkmbaaGreat

/- Written: what the program answers: its contract; and the model's. -/
namespace Go.Proofs.YtjdepjpjjgkmbaaGreat
open Go.RowKit

theorem regOkB_is {s l c sh : Int} {zs : List Int} {x rt rq rv : Int} {ps : List (Int × Int)} {os : List Opn} {b : Bool} (hB : regB s l c sh zs x rt rq rv ps os = b) (A : Option Addr) (n cap : Nat) (P : Option Addr) (p pc : Nat) (Q : Option Addr) (q qc : Nat) (w : World) (hm : n ≤ maxLen) (hr : Row w w.heap.size A n zs) (hp : p ≤ 4194304) (hq : q ≤ 4194304) (h1 : Pairs w w.heap.size P p ps) (h2 : Quads w w.heap.size Q q os) :
    Calls Tryz.prog 155 #[.agg #[.int .i64 s, .int .i64 l, .int .i64 c, .int .i64 sh, .slice A n cap], .int .i64 x, .agg #[.int .i64 rt, .int .i64 rq, .int .i64 rv, .slice P p pc, .slice Q q qc]] w fun e w' => e = .returned (.bool b) ∧ Below w.heap.size w w' := hB ▸ regOk_is s l c sh A n cap zs x rt rq rv P p pc Q q qc ps os w hm hr hp hq h1 h2
theorem specRegOkB_is {s l c sh : Int} {zs : List Int} {x rt rq rv : Int} {ps : List (Int × Int)} {os : List Opn} {b : Bool} (hB : regB s l c sh zs x rt rq rv ps os = b) (A : Option Addr) (n cap : Nat) (P : Option Addr) (p pc : Nat) (Q : Option Addr) (q qc : Nat) (w : World) (hm : n ≤ maxLen) (hr : Row w w.heap.size A n zs) (hp : p ≤ 4194304) (hq : q ≤ 4194304) (h1 : Pairs w w.heap.size P p ps) (h2 : Quads w w.heap.size Q q os) :
    Calls Tryz.prog 150 #[.agg #[.int .i64 s, .int .i64 l, .int .i64 c, .int .i64 sh, .slice A n cap], .int .i64 x, .agg #[.int .i64 rt, .int .i64 rq, .int .i64 rv, .slice P p pc, .slice Q q qc]] w fun e w' => e = .returned (.bool b) ∧ Below w.heap.size w w' := hB ▸ specRegOk_is s l c sh A n cap zs x rt rq rv P p pc Q q qc ps os w hm hr hp hq h1 h2

/-- A shelf that reg answered is laid into the variable of the answer. -/
theorem wrr_put {w wc w' : World} {o : Out} {B R : Nat} {A : Option Addr} {n c : Nat} {A' : Option Addr} {n' c' : Nat} (E : Below w.heap.size w wc) (hR0 : w.heap.size ≤ R) (hR : R < wc.heap.size) (hB : wc.heap.size ≤ B) (hB' : B ≤ w'.heap.size) (h1 : ResP w' wc.heap.size B (.slice A n c) o.cs) (h2 : ResO w' B (.slice A' n' c') o.os) (hb : Below wc.heap.size wc w') (x0 x1 x2 x3 x4 : Value) :
    WrR w o (.returned (.tuple #[.agg #[.int .i64 o.t, .int .i64 o.q, .int .i64 o.v, .slice A n c, .slice A' n' c'], .bool o.f])) (((((w'.setCell ⟨R, 0, none⟩ x0).setCell ⟨R, 1, none⟩ x1).setCell ⟨R, 2, none⟩ x2).setCell ⟨R, 3, none⟩ x3).setCell ⟨R, 4, none⟩ x4) :=
  ⟨B, A, n, c, A', n', c', Nat.le_trans E.size hB, by simp only [size_set]; exact hB', rfl, (h1.far5 hR x0 x1 x2 x3 x4).wide E.size (Nat.le_refl _), h2.far5 (by omega) x0 x1 x2 x3 x4, bel_five (bel_trans E hb) hR0 x0 x1 x2 x3 x4⟩

/-- What Written keeps: the group, the variable of the answer, the board, what is next. -/
structure WB (w wr : World) (a b : Nat) (s l c sh : Int) (A : Option Addr) (n cap : Nat) (y n4 : Array Value) : Prop where
  bel : Below w.heap.size w wr
  G : Box wr w.heap.size 26 #[.int .i64 s, .int .i64 l, .int .i64 c, .int .i64 sh, .slice A n cap]
  X : Box wr (w.heap.size + 1 + 1 + 1) 80 #[.int .i64 0, .int .i64 0, .int .i64 0, .slice none 0 0, .slice none 0 0]
  Y : Box wr a 201 y
  N : Box wr b 199 n4
  ha : w.heap.size + 1 + 1 + 1 < a
  hab : a < b
theorem WB.later {w wr w' : World} {a b : Nat} {s l c sh : Int} {A : Option Addr} {n cap : Nat} {y n4 : Array Value} (h : WB w wr a b s l c sh A n cap y n4) (hb : Below wr.heap.size wr w') : WB w w' a b s l c sh A n cap y n4 :=
  ⟨bel_trans h.bel hb, h.G.later hb h.G.lt, h.X.later hb h.X.lt, h.Y.later hb h.Y.lt, h.N.later hb h.N.lt, h.ha, h.hab⟩

set_option maxRecDepth 100000 in
set_option maxHeartbeats 4000000 in
theorem written_is (s l c sh : Int) (A : Option Addr) (n cap : Nat) (zs : List Int) (x rt rq rv : Int) (P : Option Addr) (p pc : Nat) (Q : Option Addr) (q qc : Nat) (ct cq v : Int) (L : Option Addr) (m mc : Nat) (ps : List (Int × Int)) (os : List Opn) (cs : List (Int × Int)) (w : World) (hm : n ≤ maxLen) (hr : Row w w.heap.size A n zs) (hp : p ≤ 2000000) (hq : q ≤ 2000000) (h1 : Slc w (.slice P p pc) ps) (h2 : SlcQ w (.slice Q q qc) os) (hn : m ≤ 4194304) (h3 : Pairs w w.heap.size L m cs) :
    Calls Tryz.prog 218 #[.agg #[.int .i64 s, .int .i64 l, .int .i64 c, .int .i64 sh, .slice A n cap], .int .i64 x, .agg #[.int .i64 rt, .int .i64 rq, .int .i64 rv, .slice P p pc, .slice Q q qc], .agg #[.int .i64 ct, .int .i64 cq], .int .i64 v, .slice L m mc] w (WrR w (outW s l c sh zs x rt rq rv ps os ct cq v cs)) := by
  have G := (((Box.new w 26 #[.int .i64 s, .int .i64 l, .int .i64 c, .int .i64 sh, .slice A n cap]).alloc (.cells #[.int .i64 rt, .int .i64 rq, .int .i64 rv, .slice P p pc, .slice Q q qc] 80)).alloc (.cells #[.int .i64 ct, .int .i64 cq] 39)).alloc (.cells #[.int .i64 0, .int .i64 0, .int .i64 0, .slice none 0 0, .slice none 0 0] 80)
  have D := ((Box.new (w.alloc (.cells #[.int .i64 s, .int .i64 l, .int .i64 c, .int .i64 sh, .slice A n cap] 26)) 80 #[.int .i64 rt, .int .i64 rq, .int .i64 rv, .slice P p pc, .slice Q q qc]).alloc (.cells #[.int .i64 ct, .int .i64 cq] 39)).alloc (.cells #[.int .i64 0, .int .i64 0, .int .i64 0, .slice none 0 0, .slice none 0 0] 80)
  have T := (Box.new ((w.alloc (.cells #[.int .i64 s, .int .i64 l, .int .i64 c, .int .i64 sh, .slice A n cap] 26)).alloc (.cells #[.int .i64 rt, .int .i64 rq, .int .i64 rv, .slice P p pc, .slice Q q qc] 80)) 39 #[.int .i64 ct, .int .i64 cq]).alloc (.cells #[.int .i64 0, .int .i64 0, .int .i64 0, .slice none 0 0, .slice none 0 0] 80)
  have X := Box.new (((w.alloc (.cells #[.int .i64 s, .int .i64 l, .int .i64 c, .int .i64 sh, .slice A n cap] 26)).alloc (.cells #[.int .i64 rt, .int .i64 rq, .int .i64 rv, .slice P p pc, .slice Q q qc] 80)).alloc (.cells #[.int .i64 ct, .int .i64 cq] 39)) 80 #[.int .i64 0, .int .i64 0, .int .i64 0, .slice none 0 0, .slice none 0 0]
  have E := bel_trans (bel_trans (bel_trans (bel_alloc w (.cells #[.int .i64 s, .int .i64 l, .int .i64 c, .int .i64 sh, .slice A n cap] 26)) (bel_alloc _ (.cells #[.int .i64 rt, .int .i64 rq, .int .i64 rv, .slice P p pc, .slice Q q qc] 80))) (bel_alloc _ (.cells #[.int .i64 ct, .int .i64 cq] 39))) (bel_alloc _ (.cells #[.int .i64 0, .int .i64 0, .int .i64 0, .slice none 0 0, .slice none 0 0] 80))
  simp only [World.size_alloc] at D T X
  have HLP : Hid (ps.length = p) := Lib.hid (slc_pairs h1).1
  have HLQ : Hid (os.length = q) := Lib.hid (slcQ_quads h2).1
  have HR := Lib.hid hr
  have HM := Lib.hid hm
  have H1 := Lib.hid h1
  have H2 := Lib.hid h2
  have H3 := Lib.hid h3
  clear hr hm h1 h2 h3
  obtain ⟨O, hO⟩ : ∃ O, outW s l c sh zs x rt rq rv ps os ct cq v cs = O := ⟨_, rfl⟩
  rw [hO]
  go_enter Tryz.func218, Tryz.ntmps218
  go_wp2_with fail
  generalize ((((w.alloc _).alloc _).alloc _).alloc _ : World) = w0 at G D T X E ⊢
  rcases hrg : regB s l c sh zs x rt rq rv ps os with _ | _
  · have HO : Hid (O = ⟨0, 0, 0, [], [], false⟩) := Lib.hid (by rw [← hO]; unfold outW; rw [if_pos hrg])
    have HRG := Lib.hid hrg
    clear hrg hO
    refine (regOkB_is HRG.out A n cap P p pc Q q qc w0 HM.out ((HR.out.below E (Nat.le_refl _)).more E.size) (by omega) (by omega) (slc_pairs (H1.out.later E)) (slcQ_quads (H2.out.later E))).mono ?_
    rintro e w1 ⟨rfl, hb1⟩
    have E1 := bel_trans E hb1
    have X1 := X.later hb1 X.lt
    have hX := X.lt
    have hb1s := hb1.size
    have HP : Hid (∀ x0 x1 x2 x3 x4 : Value, WrR w O (.returned (.tuple #[.agg #[.int .i64 0, .int .i64 0, .int .i64 0, .slice none 0 0, .slice none 0 0], .bool false])) (((((w1.setCell ⟨w.heap.size + 1 + 1 + 1, 0, none⟩ x0).setCell ⟨w.heap.size + 1 + 1 + 1, 1, none⟩ x1).setCell ⟨w.heap.size + 1 + 1 + 1, 2, none⟩ x2).setCell ⟨w.heap.size + 1 + 1 + 1, 3, none⟩ x3).setCell ⟨w.heap.size + 1 + 1 + 1, 4, none⟩ x4)) := Lib.hid fun x0 x1 x2 x3 x4 => by
      rw [HO.out]
      exact ⟨w.heap.size, none, 0, 0, none, 0, 0, Nat.le_refl _, by simp only [size_set]; omega, rfl, .inl ⟨rfl, rfl⟩, .inl ⟨rfl, rfl⟩, bel_five E1 (by omega) x0 x1 x2 x3 x4⟩
    obtain ⟨x0, x1, x2, x3, x4⟩ := X1.five
    have fx := X1.frozen
    clear G D T X X1 E E1 hb1
    go_wp2
    exact bodyPost_ret (v := .tuple #[.agg #[.int .i64 0, .int .i64 0, .int .i64 0, .slice none 0 0, .slice none 0 0], .bool false]) (by simp [results, Tryz.results218, go_sem, x0, x1, x2, x3, x4]) rfl (HP.out _ _ _ _ _)
  have HRG := Lib.hid hrg
  refine (regOkB_is HRG.out A n cap P p pc Q q qc w0 HM.out ((HR.out.below E (Nat.le_refl _)).more E.size) (by omega) (by omega) (slc_pairs (H1.out.later E)) (slcQ_quads (H2.out.later E))).mono ?_
  rintro e w1 ⟨rfl, hb1⟩
  have D1 := D.later hb1 D.lt
  obtain ⟨d0, d1, d2, d3, d4⟩ := D1.five
  go_wp2_with fail
  refine (boardOf_is rt rq rv P p pc Q q qc w1).mono ?_
  rintro e w2 ⟨rfl, hb2⟩
  have hb12 := bel_trans hb1 hb2
  have hbA := bel_alloc w2 (.cells #[.int .i64 rt, .int .i64 rq, .int .i64 rv, .slice P p pc, .slice Q q qc] 201)
  have hbB := bel_alloc (w2.alloc (.cells #[.int .i64 rt, .int .i64 rq, .int .i64 rv, .slice P p pc, .slice Q q qc] 201)) (.cells #[.int .i64 ct, .int .i64 cq, .int .i64 v, .slice L m mc] 199)
  have hbAB := bel_trans hbA hbB
  have F := bel_trans hb12 hbAB
  have hX2 := (X.later hb12 X.lt).lt
  have T2 := T.later hb12 T.lt
  have hT2 := T2.lt
  obtain ⟨t0, t1⟩ := T2.two
  have G2 := G.later hb12 G.lt
  have hG2 := G2.lt
  obtain ⟨e0, e1, e2, e3, e4⟩ := G2.five
  have K : WB w ((w2.alloc (.cells #[.int .i64 rt, .int .i64 rq, .int .i64 rv, .slice P p pc, .slice Q q qc] 201)).alloc (.cells #[.int .i64 ct, .int .i64 cq, .int .i64 v, .slice L m mc] 199)) w2.heap.size (w2.heap.size + 1) s l c sh A n cap #[.int .i64 rt, .int .i64 rq, .int .i64 rv, .slice P p pc, .slice Q q qc] #[.int .i64 ct, .int .i64 cq, .int .i64 v, .slice L m mc] := by
    refine ⟨bel_trans E F, G.later F G.lt, X.later F X.lt, (Box.new w2 _ _).alloc _, ?_, hX2, by omega⟩
    have := Box.new (w2.alloc (.cells #[.int .i64 rt, .int .i64 rq, .int .i64 rv, .slice P p pc, .slice Q q qc] 201)) 199 #[.int .i64 ct, .int .i64 cq, .int .i64 v, .slice L m mc]
    simp only [World.size_alloc] at this
    exact this
  clear G D T X E hb1 hb2 hb12 hbA hbB hbAB F D1 d0 d1 d2 d3 d4 T2 G2
  go_wp2_with fail
  generalize ((w2.alloc _).alloc _ : World) = w3 at K ⊢
  generalize w2.heap.size = a at K hX2 hT2 hG2 ⊢
  clear t0 t1 e0 e1 e2 e3 e4 hT2 hG2
  rcases hwr : wrtB s l c sh zs x ct cq v cs with _ | _
  · have HO : Hid (O = ⟨rt, rq, rv, ps, os, false⟩) := Lib.hid (by rw [← hO]; unfold outW; rw [if_neg (by rw [hrg]; simp), if_pos hwr])
    have HWR := Lib.hid hwr
    clear hwr hrg hO
    refine (canWrite_is HWR.out A n cap L m mc w3 HM.out ((HR.out.below K.bel (Nat.le_refl _)).more K.bel.size) hn (H3.out.later K.bel)).mono ?_
    rintro e w4 ⟨rfl, hb4⟩
    replace K := K.later hb4
    clear hb4
    obtain ⟨y0, y1, y2, y3, y4⟩ := K.Y.five
    have hX4 := K.X.lt
    go_wp2_with fail
    refine (reg_is rt rq rv P p pc Q q qc ps os w4 (by rw [HLP.out]; omega) (by rw [HLQ.out]; omega) (H1.out.later K.bel) (H2.out.later K.bel)).mono ?_
    rintro e w5 ⟨B, u, u', hB, hB', rfl, hR1, hR2, hb5⟩
    obtain ⟨A5, c5, rfl, -, -, -, -⟩ := hR1.form
    obtain ⟨A6, c6, rfl, -, -, -, -⟩ := hR2.form
    have X5 := K.X.later hb5 K.X.lt
    obtain ⟨x0, x1, x2, x3, x4⟩ := X5.five
    have fx := X5.frozen
    have HP := Lib.hid (wrr_put (o := ⟨rt, rq, rv, ps, os, false⟩) (R := w.heap.size + 1 + 1 + 1) K.bel (by omega) hX4 hB hB' hR1 hR2 hb5)
    rw [← HO.out] at HP
    clear hR1 hR2 K y0 y1 y2 y3 y4 X5
    go_wp2
    exact bodyPost_ret (v := .tuple #[.agg #[.int .i64 rt, .int .i64 rq, .int .i64 rv, .slice A5 ps.length c5, .slice A6 os.length c6], .bool false]) (by simp [results, Tryz.results218, go_sem, x0, x1, x2, x3, x4]) rfl (by have := HP.out; rw [HO.out] at this ⊢; exact this _ _ _ _ _)
  have HWR := Lib.hid hwr
  refine (canWrite_is HWR.out A n cap L m mc w3 HM.out ((HR.out.below K.bel (Nat.le_refl _)).more K.bel.size) hn (H3.out.later K.bel)).mono ?_
  rintro e w4 ⟨rfl, hb4⟩
  replace K := K.later hb4
  clear hb4
  obtain ⟨y0, y1, y2, y3, y4⟩ := K.Y.five
  obtain ⟨n0, n1, n2, n3⟩ := K.N.four
  go_wp2_with fail
  refine (newer_any ct cq rt rq w4).mono ?_
  rintro e w5 ⟨rfl, hb5⟩
  replace K := K.later hb5
  clear hb5 y0 y1 y2 y3 y4 n0 n1 n2 n3
  rcases hcm : cmpN ct cq rt rq == 1 with _ | _
  · have HO : Hid (O = ⟨rt, rq, rv, ps, os, true⟩) := Lib.hid (by rw [← hO]; unfold outW; rw [if_neg (by rw [hrg]; simp), if_neg (by rw [hwr]; simp), if_neg (by simpa using hcm)])
    clear hwr hrg hO
    obtain ⟨y0, y1, y2, y3, y4⟩ := K.Y.five
    have hX4 := K.X.lt
    go_wp2_with fail
    refine (reg_is rt rq rv P p pc Q q qc ps os w5 (by rw [HLP.out]; omega) (by rw [HLQ.out]; omega) (H1.out.later K.bel) (H2.out.later K.bel)).mono ?_
    rintro e w6 ⟨B, u, u', hB, hB', rfl, hR1, hR2, hb5⟩
    obtain ⟨A5, c5, rfl, -, -, -, -⟩ := hR1.form
    obtain ⟨A6, c6, rfl, -, -, -, -⟩ := hR2.form
    have X5 := K.X.later hb5 K.X.lt
    obtain ⟨x0, x1, x2, x3, x4⟩ := X5.five
    have fx := X5.frozen
    have HP := Lib.hid (wrr_put (o := ⟨rt, rq, rv, ps, os, true⟩) (R := w.heap.size + 1 + 1 + 1) K.bel (by omega) hX4 hB hB' hR1 hR2 hb5)
    rw [← HO.out] at HP
    clear hR1 hR2 K y0 y1 y2 y3 y4 X5
    go_wp2
    exact bodyPost_ret (v := .tuple #[.agg #[.int .i64 rt, .int .i64 rq, .int .i64 rv, .slice A5 ps.length c5, .slice A6 os.length c6], .bool true]) (by simp [results, Tryz.results218, go_sem, x0, x1, x2, x3, x4]) rfl (by have := HP.out; rw [HO.out] at this ⊢; exact this _ _ _ _ _)
  · have hz := (wrt_parts hwr).2.2.1
    have HLS : Hid (lefS s l c sh zs x ct cq v cs = goodP (rB s l c sh zs 1 x ct cq v) cs) := Lib.hid (by unfold lefS; rw [if_neg hz])
    have HO : Hid (O = ⟨ct, cq, v, goodP (rB s l c sh zs 1 x ct cq v) cs, os, true⟩) := Lib.hid (by rw [← hO]; unfold outW; rw [if_neg (by rw [hrg]; simp), if_neg (by rw [hwr]; simp), if_pos (by simpa using hcm)])
    clear hwr hrg hO hz
    obtain ⟨n0, n1, n2, n3⟩ := K.N.four
    obtain ⟨g0, g1, g2, g3, g4⟩ := K.G.five
    go_wp2_with fail
    refine (leftSeals_is s l c sh A n cap zs x ct cq v L m mc cs w5 HM.out ((HR.out.below K.bel (Nat.le_refl _)).more K.bel.size) hn (H3.out.later K.bel)).mono ?_
    rintro e w6 ⟨u, rfl, hOw⟩
    rw [HLS.out] at hOw
    obtain ⟨J, hJ⟩ : ∃ J, goodP (rB s l c sh zs 1 x ct cq v) cs = J := ⟨_, rfl⟩
    rw [hJ] at hOw HO
    have hJl : J.length ≤ 4194304 := by
      rw [← hJ]
      have := goodP_le (rB s l c sh zs 1 x ct cq v) cs
      rw [H3.out.1] at this
      omega
    obtain ⟨Au, nu, cu, rfl⟩ := slc_form hOw.slc
    have K6 := K.later hOw.2
    have hs5 := K.N.lt
    have hRs := hOw.res (lo := w5.heap.size) (Nat.le_refl _)
    clear K hJ n0 n1 n2 n3 g0 g1 g2 g3 g4
    obtain ⟨n0, n1, n2, n3⟩ := K6.N.four
    obtain ⟨y0, y1, y2, y3, y4⟩ := K6.Y.five
    have fn := K6.N.frozen
    have fy := K6.Y.frozen
    have hab := K6.hab
    have ha := K6.ha
    have hNl := K6.N.lt
    have hX6 := K6.X.lt
    -- the board, behind what is written on it
    have Y7 := Lib.hid ((((K6.Y.far (p := ⟨a + 1, 3, none⟩) (by show a + 1 ≠ a; omega) (.slice Au nu cu)).set 0 (.int .i64 ct)).set 1 (.int .i64 cq)).set 2 (.int .i64 v) |>.set 3 (.slice Au nu cu))
    have X7 := Lib.hid (((((K6.X.far (p := ⟨a + 1, 3, none⟩) (by show a + 1 ≠ _; omega) (.slice Au nu cu)).far (p := ⟨a, 0, none⟩) (by show a ≠ _; omega) (.int .i64 ct)).far (p := ⟨a, 1, none⟩) (by show a ≠ _; omega) (.int .i64 cq)).far (p := ⟨a, 2, none⟩) (by show a ≠ _; omega) (.int .i64 v)).far (p := ⟨a, 3, none⟩) (by show a ≠ _; omega) (.slice Au nu cu))
    have E7 := Lib.hid (((((K6.bel.setCell (p := ⟨a + 1, 3, none⟩) (by show _ ≤ a + 1; omega) (.slice Au nu cu)).setCell (p := ⟨a, 0, none⟩) (by show _ ≤ a; omega) (.int .i64 ct)).setCell (p := ⟨a, 1, none⟩) (by show _ ≤ a; omega) (.int .i64 cq)).setCell (p := ⟨a, 2, none⟩) (by show _ ≤ a; omega) (.int .i64 v)).setCell (p := ⟨a, 3, none⟩) (by show _ ≤ a; omega) (.slice Au nu cu))
    have R7 := Lib.hid (((((hRs.far (b := a + 1) (by omega) 3 (.slice Au nu cu)).far (b := a) (by omega) 0 (.int .i64 ct)).far (b := a) (by omega) 1 (.int .i64 cq)).far (b := a) (by omega) 2 (.int .i64 v)).far (b := a) (by omega) 3 (.slice Au nu cu))
    clear K6 hRs hOw
    go_upto_region 10 with fail
    generalize (((((w6.setCell _ _).setCell _ _).setCell _ _).setCell _ _).setCell _ _ : World) = w7 at Y7 X7 E7 R7 ⊢
    have Y8 : Box w7 a 201 #[.int .i64 ct, .int .i64 cq, .int .i64 v, .slice Au nu cu, .slice Q q qc] := Y7.out
    have X8 := X7.out
    clear y0 y1 y2 y3 y4 n0 n1 n2 n3 fn fy Y7 X7
    obtain ⟨y0, y1, y2, y3, y4⟩ := Y8.five
    have hX8 := X8.lt
    go_wp2_with fail
    refine (reg_is ct cq v Au nu cu Q q qc J os w7 hJl (by rw [HLQ.out]; omega) R7.out.slc (H2.out.later E7.out)).mono ?_
    rintro e w8 ⟨B, u, u', hB, hB', rfl, hR1, hR2, hb5⟩
    obtain ⟨A5, c5, rfl, -, -, -, -⟩ := hR1.form
    obtain ⟨A6, c6, rfl, -, -, -, -⟩ := hR2.form
    have X5 := X8.later hb5 X8.lt
    obtain ⟨x0, x1, x2, x3, x4⟩ := X5.five
    have fx := X5.frozen
    have HP := Lib.hid (wrr_put (o := ⟨ct, cq, v, J, os, true⟩) (R := w.heap.size + 1 + 1 + 1) E7.out (by omega) hX8 hB hB' hR1 hR2 hb5)
    rw [← HO.out] at HP
    clear hR1 hR2 y0 y1 y2 y3 y4 X5 Y8 X8 E7 R7
    go_wp2
    exact bodyPost_ret (v := .tuple #[.agg #[.int .i64 ct, .int .i64 cq, .int .i64 v, .slice A5 J.length c5, .slice A6 os.length c6], .bool true]) (by simp [results, Tryz.results218, go_sem, x0, x1, x2, x3, x4]) rfl (by have := HP.out; rw [HO.out] at this ⊢; exact this _ _ _ _ _)

end Go.Proofs.YtjdepjpjjgkmbaaGreat

/- What is written again changes nothing; what is written is never older; mathematics alone; no conditions. -/
namespace Go.Proofs.YtjdepjpjjgkmbaaGreat
open Go.RowKit

theorem puts_mem7 {l : List (Int × Int)} {p : Int × Int} (h : p ∈ puts l) : p ∈ l := by
  have : p ∈ of p.1 (puts l) := mem_of.2 ⟨h, rfl⟩
  rw [puts_of] at this
  exact (mem_of.1 (List.mem_of_mem_take this)).1
theorem puts_ssrt7 {J : List (Int × Int)} (h : SSrt J) : puts J = J := by
  refine same_eq (puts_srt _).srt h.srt fun k => ?_
  rw [puts_of, List.take_of_length_le (ssrt_of h k)]
theorem goodP_twice (R : Int × Int → Bool) (ps : List (Int × Int)) : goodP R (goodP R ps) = goodP R ps := by
  have hf : (goodP R ps).filter R = goodP R ps := by
    rw [List.filter_eq_self]
    intro p hp
    have := puts_mem7 hp
    simpa using (List.mem_filter.1 this).2
  show puts ((goodP R ps).filter R) = goodP R ps
  rw [hf]
  exact puts_ssrt7 (puts_srt _)
theorem cer_left {s l c sh : Int} {zs : List Int} {ck ch ct cq cv : Int} {ps : List (Int × Int)} (h : cerB s l c sh zs ck ch ct cq cv ps = true) :
    cerB s l c sh zs ck ch ct cq cv (goodP (rB s l c sh zs ck ch ct cq cv) ps) = true := by
  simp only [cerB, Bool.and_eq_true, decide_eq_true_eq] at h ⊢
  obtain ⟨⟨hok, h20⟩, hq⟩ := h
  have hle := goodP_le (rB s l c sh zs ck ch ct cq cv) ps
  unfold cntN at hq ⊢
  rw [goodP_twice]
  exact ⟨⟨hok, by omega⟩, hq⟩
theorem cmp_self {a b : Int} (h : stB a b = true) : cmpN a b a b = 0 := by
  rcases cmp_cases a b a b with h' | ⟨_, _, h'⟩ | ⟨h', _⟩ | ⟨_, _, h'⟩
  · rw [cmpN_yes h h] at h'
    have g1 := sgn_bd a a
    have g2 := sgn_bd b b
    unfold orN at h'
    split at h' <;> omega
  · rcases h' with h' | h' <;> exact absurd rfl h'
  · exact h'
  · rcases h' with h' | h' <;> exact absurd rfl h'

/-- What is written is right, is newer or the same, and writes to itself. -/
theorem outW_again {s l c sh : Int} {zs : List Int} {x rt rq rv : Int} {ps : List (Int × Int)} {os : List Opn} {ct cq v : Int} {cs : List (Int × Int)} {O : Out} (hr : regB s l c sh zs x rt rq rv ps os = true) (hw : wrtB s l c sh zs x ct cq v cs = true) (hO : outW s l c sh zs x rt rq rv ps os ct cq v cs = O) :
    O.f = true ∧ O.os = os ∧ regB s l c sh zs x O.t O.q O.v O.cs O.os = true ∧ outW s l c sh zs x O.t O.q O.v O.cs O.os ct cq v cs = ⟨O.t, O.q, O.v, O.cs, O.os, true⟩ ∧ (cmpN O.t O.q rt rq = 0 ∨ cmpN O.t O.q rt rq = 1) ∧ (cmpN O.t O.q ct cq = 0 ∨ cmpN O.t O.q ct cq = 1) ∧ O.cs.length ≤ ps.length + cs.length := by
  have hrs := reg_stamp hr
  obtain ⟨hcs, _, hnz, hpro⟩ := wrt_parts hw
  unfold outW at hO
  rw [if_neg (by rw [hr]; simp), if_neg (by rw [hw]; simp)] at hO
  by_cases hc : cmpN ct cq rt rq = 1
  · rw [if_pos hc] at hO
    subst hO
    have hcer : cerB s l c sh zs 1 x ct cq v cs = true := by
      simp only [proB, Bool.and_eq_true, Bool.or_eq_true, decide_eq_true_eq] at hpro
      rcases hpro.2 with h | h
      · exact absurd h.1 hnz
      · exact h
    have hreg : regB s l c sh zs x ct cq v (goodP (rB s l c sh zs 1 x ct cq v) cs) os = true := by
      simp only [regB, Bool.and_eq_true] at hr ⊢
      refine ⟨?_, hr.2⟩
      simp only [lefB, Bool.and_eq_true, decide_eq_true_eq]
      refine ⟨?_, ?_⟩
      · simp only [proB, Bool.and_eq_true, Bool.or_eq_true] at hpro ⊢
        exact ⟨hpro.1, .inr (cer_left hcer)⟩
      · unfold lefS
        rw [if_neg hnz, goodP_twice]
    refine ⟨rfl, rfl, hreg, ?_, .inr hc, .inl (cmp_self hcs), ?_⟩
    · show outW s l c sh zs x ct cq v (goodP (rB s l c sh zs 1 x ct cq v) cs) os ct cq v cs = _
      unfold outW
      rw [if_neg (by rw [hreg]; simp), if_neg (by rw [hw]; simp), if_neg (by rw [cmp_self hcs]; omega)]
    · show (goodP (rB s l c sh zs 1 x ct cq v) cs).length ≤ _
      have := goodP_le (rB s l c sh zs 1 x ct cq v) cs
      omega
  · rw [if_neg hc] at hO
    subst hO
    refine ⟨rfl, rfl, hr, ?_, .inl (cmp_self hrs), ?_, by simp⟩
    · show outW s l c sh zs x rt rq rv ps os ct cq v cs = _
      unfold outW
      rw [if_neg (by rw [hr]; simp), if_neg (by rw [hw]; simp), if_neg hc]
    · show cmpN rt rq ct cq = 0 ∨ cmpN rt rq ct cq = 1
      rcases cmp_cases ct cq rt rq with h | ⟨_, h, _⟩ | ⟨h, h1, h2⟩ | ⟨h, _⟩
      · rw [cmpN_yes hcs hrs] at h
        have g1 := sgn_bd ct rt
        have g2 := sgn_bd cq rq
        unfold orN at h
        split at h <;> omega
      · exact .inr h
      · subst h1 h2
        exact .inl (cmp_self hrs)
      · exact absurd h hc
/-- What is not written leaves the shelf as it is. -/
theorem outW_not {s l c sh : Int} {zs : List Int} {x rt rq rv : Int} {ps : List (Int × Int)} {os : List Opn} {ct cq v : Int} {cs : List (Int × Int)} (hr : regB s l c sh zs x rt rq rv ps os = true) (hw : wrtB s l c sh zs x ct cq v cs = false) : outW s l c sh zs x rt rq rv ps os ct cq v cs = ⟨rt, rq, rv, ps, os, false⟩ := by
  unfold outW
  rw [if_neg (by rw [hr]; simp), if_pos hw]
theorem outW_none {s l c sh : Int} {zs : List Int} {x rt rq rv : Int} {ps : List (Int × Int)} {os : List Opn} {ct cq v : Int} {cs : List (Int × Int)} (hr : regB s l c sh zs x rt rq rv ps os = false) : outW s l c sh zs x rt rq rv ps os ct cq v cs = ⟨0, 0, 0, [], [], false⟩ := by
  unfold outW
  rw [if_pos hr]
/-- What is answered is no longer than what came in. -/
theorem outW_len {s l c sh : Int} {zs : List Int} {x rt rq rv : Int} {ps : List (Int × Int)} {os : List Opn} {ct cq v : Int} {cs : List (Int × Int)} {O : Out} (hO : outW s l c sh zs x rt rq rv ps os ct cq v cs = O) : O.cs.length ≤ ps.length + cs.length ∧ O.os.length ≤ os.length := by
  subst hO
  unfold outW
  split
  · simp
  split
  · simp
  split
  · have := goodP_le (rB s l c sh zs 1 x ct cq v) cs
    show (goodP (rB s l c sh zs 1 x ct cq v) cs).length ≤ _ ∧ _
    exact ⟨by omega, Nat.le_refl _⟩
  · simp

end Go.Proofs.YtjdepjpjjgkmbaaGreat
