/- The model's l7Copy and l7Write once more: the lists that they answer are one's own (written by reg_own.py). -/
import Derived.Test.YtjdepjpjjgkmbaaGreatSpecReg4
import Derived.Test.YtjdepjpjjgkmbaaGreatDrawSeals
import Derived.Test.YtjdepjpjjgkmbaaGreatSpecReg1
namespace Go.Proofs.YtjdepjpjjgkmbaaGreat
open Go.RowKit Go.Deep

/-- A row of one's own, in a block of [lo, hi). -/
def OwnR (t : TypeId) (size : Nat) (w : World) (lo hi : Nat) (u : Value) (n : Nat) (vs : List Value) : Prop :=
  ∃ g cap, lo ≤ g ∧ g < hi ∧ u = .slice (some ⟨g, 0, none⟩) n cap ∧ w.ownsRow lo t size u n vs
section
variable {t : TypeId} {size : Nat} {w w' : World} {lo hi : Nat} {u : Value} {n : Nat} {vs : List Value}
theorem OwnR.keepG (h : OwnR t size w lo hi u n vs) {r : Option Nat} (hg : w.grownBy w' r) (hr : ∀ b, r = some b → b < lo ∨ hi ≤ b) : OwnR t size w' lo hi u n vs := by
  obtain ⟨g, cap, h1, h2, rfl, h4⟩ := h
  exact ⟨g, cap, h1, h2, rfl, h4.kept hg (.inr (fun e => by have := hr g e.symm; omega))⟩
theorem OwnR.later (h : OwnR t size w lo hi u n vs) (hb : Below w.heap.size w w') : OwnR t size w' lo hi u n vs :=
  h.keepG (grown_bel hb none) (fun b e => by cases e)
theorem OwnR.kept {r : Nat} (h : OwnR t size w lo hi u n vs) (hg : w.grownBy w' (some r)) (hr : hi ≤ r) : OwnR t size w' lo hi u n vs :=
  h.keepG hg (fun b e => by injection e with e; omega)
theorem OwnR.far (h : OwnR t size w lo hi u n vs) {b : Nat} (hb : b < lo) (o : Nat) (x : Value) : OwnR t size (w.setCell ⟨b, o, none⟩ x) lo hi u n vs :=
  h.keepG (grown_set (grown_refl w _) o x) (fun k e => by injection e with e; omega)
theorem OwnR.farHi (h : OwnR t size w lo hi u n vs) {b : Nat} (hb : hi ≤ b) (o : Nat) (x : Value) : OwnR t size (w.setCell ⟨b, o, none⟩ x) lo hi u n vs :=
  h.keepG (grown_set (grown_refl w _) o x) (fun k e => by injection e with e; omega)
theorem OwnR.far5 (h : OwnR t size w lo hi u n vs) {b : Nat} (hb : b < lo) (x0 x1 x2 x3 x4 : Value) : OwnR t size (((((w.setCell ⟨b, 0, none⟩ x0).setCell ⟨b, 1, none⟩ x1).setCell ⟨b, 2, none⟩ x2).setCell ⟨b, 3, none⟩ x3).setCell ⟨b, 4, none⟩ x4) lo hi u n vs :=
  ((((h.far hb 0 x0).far hb 1 x1).far hb 2 x2).far hb 3 x3).far hb 4 x4
theorem OwnR.wide {lo' hi' : Nat} (h : OwnR t size w lo hi u n vs) (h1 : lo' ≤ lo) (h2 : hi ≤ hi') : OwnR t size w lo' hi' u n vs := by
  obtain ⟨g, cap, a1, a2, rfl, a4⟩ := h
  exact ⟨g, cap, by omega, by omega, rfl, ownLow a4 h1⟩
theorem OwnR.form (h : OwnR t size w lo hi u n vs) : ∃ g cap, u = .slice (some ⟨g, 0, none⟩) n cap := by
  obtain ⟨g, cap, a1, a2, rfl, a4⟩ := h
  exact ⟨g, cap, rfl⟩
theorem ownR_of {g cap : Nat} (h : w.ownsRow lo t size (.slice (some ⟨g, 0, none⟩) n cap) n vs) : OwnR t size w lo w.heap.size (.slice (some ⟨g, 0, none⟩) n cap) n vs :=
  ⟨g, cap, (h.lt g rfl).1, (h.lt g rfl).2, rfl, h⟩
end
abbrev OP (w : World) (lo hi : Nat) (u : Value) (D : List (Int × Int)) : Prop := OwnR 136 2 w lo hi u D.length (flatP D)
abbrev OO (w : World) (lo hi : Nat) (u : Value) (D : List Opn) : Prop := OwnR 97 4 w lo hi u D.length (flatO D)

/-- A shelf that is answered, with lists of one's own. -/
def RegO (w : World) (rt rq rv : Int) (ps : List (Int × Int)) (os : List Opn) (e : Ending) (w' : World) : Prop :=
  ∃ (B : Nat) (u v : Value), w.heap.size ≤ B ∧ B ≤ w'.heap.size ∧ e = .returned (.agg #[.int .i64 rt, .int .i64 rq, .int .i64 rv, u, v]) ∧ OP w' w.heap.size B u ps ∧ OO w' B w'.heap.size v os ∧ Below w.heap.size w w'

set_option maxRecDepth 100000 in
set_option maxHeartbeats 2000000 in
theorem l7Copy_own (rt rq rv : Int) (P : Option Addr) (p pc : Nat) (Q : Option Addr) (q qc : Nat) (ps : List (Int × Int)) (os : List Opn) (w : World) (hp : ps.length ≤ 4194304) (hq : os.length ≤ 4194304) (h1 : Slc w (.slice P p pc) ps) (h2 : SlcQ w (.slice Q q qc) os) :
    Calls Tryz.prog 98 #[.agg #[.int .i64 rt, .int .i64 rq, .int .i64 rv, .slice P p pc, .slice Q q qc]] w (RegO w rt rq rv ps os) := by
  obtain ⟨i0, hi0, hz0, hz1, hz2⟩ := info_parts Tryz.infoSealI
  obtain ⟨j0, hj0, hy0, hy1, hy2⟩ := info_parts Tryz.infoOpen
  have D := (Box.new w 80 #[.int .i64 rt, .int .i64 rq, .int .i64 rv, .slice P p pc, .slice Q q qc]).alloc (.cells #[.int .i64 0, .int .i64 0, .int .i64 0, .slice none 0 0, .slice none 0 0] 80)
  have X := Box.new (w.alloc (.cells #[.int .i64 rt, .int .i64 rq, .int .i64 rv, .slice P p pc, .slice Q q qc] 80)) 80 #[.int .i64 0, .int .i64 0, .int .i64 0, .slice none 0 0, .slice none 0 0]
  have hb0 := bel_trans (bel_alloc w (.cells #[.int .i64 rt, .int .i64 rq, .int .i64 rv, .slice P p pc, .slice Q q qc] 80)) (bel_alloc _ (.cells #[.int .i64 0, .int .i64 0, .int .i64 0, .slice none 0 0, .slice none 0 0] 80))
  simp only [World.size_alloc] at X
  have hszW : w.heap.size + 1 + 1 = ((w.alloc (.cells #[.int .i64 rt, .int .i64 rq, .int .i64 rv, .slice P p pc, .slice Q q qc] 80)).alloc (.cells #[.int .i64 0, .int .i64 0, .int .i64 0, .slice none 0 0, .slice none 0 0] 80)).heap.size := by simp
  generalize hW : ((w.alloc (.cells #[.int .i64 rt, .int .i64 rq, .int .i64 rv, .slice P p pc, .slice Q q qc] 80)).alloc (.cells #[.int .i64 0, .int .i64 0, .int .i64 0, .slice none 0 0, .slice none 0 0] 80) : World) = w0 at hb0 D X hszW
  have hb1 := bel_alloc w0 (.cells #[] 136)
  have hown := own_new w0 136 2
  have S1 := Lib.hid ((h1.later hb0).later hb1).src
  have H2 := Lib.hid (h2.later hb0)
  have D1 := D.later hb1 D.lt
  have X1 := X.later hb1 X.lt
  have E1 := bel_trans hb0 hb1
  have hbs : w0.heap.size ≤ (w0.alloc (.cells #[] 136)).heap.size := hb1.size
  replace hszW := Lib.hid hszW
  go_enter Tryz.func98, Tryz.ntmps98
  go_upto_region 1 with fail
  clear hW
  obtain ⟨d0, d1, d2, d3, d4⟩ := D.five
  have hD := D.lt
  have hX := X.lt
  go_upto_region 2 with (at_builtin; refine wpList_append_src rfl _ _ _ rfl w0.heap.size 136 i0 _ 2 16 Tryz.underlying40 hi0 hz0 hz1 hz2 rfl (by omega) (.slice (some ⟨w0.heap.size, 0, none⟩) 0 0) 0 [] rfl hown (by simp) (.slice P p pc) ps.length (flatP ps) rfl S1.out (by unfold maxLen; omega) (by omega) hbs ?_; intro g1 cap1 w1 hown1 hgrow1 hbg1 hlg1; have hR1 := hown1; rw [Nat.zero_add, List.nil_append] at hR1; have R1 := ownR_of hR1; have hgr : (w0.alloc (.cells #[] 136)).grownBy w1 (some w0.heap.size) := hgrow1; have D2 := D1.kept hgr (by intro e; injection e with e; omega); have X2 := X1.kept hgr (by intro e; injection e with e; omega); have E2 := bel_grown E1 hgr (by have := hb0.size; omega); obtain ⟨e0, e1, e2, e3, e4⟩ := D2.five; have fd := D2.frozen; clear hown1 hgrow1 hR1)
  have hlo : w.heap.size < w0.heap.size := hD
  have R3 := R1.far (b := w.heap.size) hlo 3 (.slice (some ⟨g1, 0, none⟩) ps.length cap1)
  have D3 : Box (w1.setCell ⟨w.heap.size, 3, none⟩ (.slice (some ⟨g1, 0, none⟩) ps.length cap1)) w.heap.size 80 #[.int .i64 rt, .int .i64 rq, .int .i64 rv, .slice (some ⟨g1, 0, none⟩) ps.length cap1, .slice Q q qc] := D2.set 3 _
  have X3 := X2.far (p := ⟨w.heap.size, 3, none⟩) (by show w.heap.size ≠ _; omega) (.slice (some ⟨g1, 0, none⟩) ps.length cap1)
  have E3 := E2.setCell (p := ⟨w.heap.size, 3, none⟩) (Nat.le_refl _) (.slice (some ⟨g1, 0, none⟩) ps.length cap1)
  have hs3 : (w1.setCell ⟨w.heap.size, 3, none⟩ (.slice (some ⟨g1, 0, none⟩) ps.length cap1)).heap.size = w1.heap.size := size_set _ _ _
  rw [← hs3] at R3
  clear R1 D2 X2 E2 hgr e0 e1 e2 e3 e4 fd d0 d1 d2 d3 d4 D X D1 X1 E1 S1 hown hb1 hbs hs3 hlg1
  try simp only [Nat.zero_add]
  generalize (w1.setCell _ _ : World) = w2 at R3 D3 X3 E3 ⊢
  have hb4 := bel_alloc w2 (.cells #[] 97)
  have hown := own_new w2 97 4
  have S2 := Lib.hid ((h2.later E3).later hb4).src
  have D4 := D3.later hb4 D3.lt
  have X4 := X3.later hb4 X3.lt
  have E4 := bel_trans E3 hb4
  have R4 := R3.later hb4
  have hbs : w2.heap.size ≤ (w2.alloc (.cells #[] 97)).heap.size := hb4.size
  obtain ⟨d0, d1, d2, d3, d4⟩ := D3.five
  have hD3 := D3.lt
  have hX3 := X3.lt
  go_upto_region 3 with (at_builtin; refine wpList_append_src rfl _ _ _ rfl w2.heap.size 97 j0 _ 4 32 Tryz.underlying78 hj0 hy0 hy1 hy2 rfl (by omega) (.slice (some ⟨w2.heap.size, 0, none⟩) 0 0) 0 [] rfl hown (by simp) (.slice Q q qc) os.length (flatO os) rfl S2.out (by unfold maxLen; omega) (by omega) hbs ?_; intro g2 cap2 w5 hown5 hgrow5 hbg5 hlg5; have hR5 := hown5; rw [Nat.zero_add, List.nil_append] at hR5; have O5 := ownR_of hR5; have hgr : (w2.alloc (.cells #[] 97)).grownBy w5 (some w2.heap.size) := hgrow5; have D5 := D4.kept hgr (by intro e; injection e with e; omega); have X5 := X4.kept hgr (by intro e; injection e with e; omega); have E5 := bel_grown E4 hgr (by have := E3.size; omega); have R5 := R4.kept hgr (Nat.le_refl _); obtain ⟨e0, e1, e2, e3, e4⟩ := D5.five; have fd := D5.frozen; clear hown5 hgrow5 hR5)
  have R6 := R5.far (b := w.heap.size) hlo 4 (.slice (some ⟨g2, 0, none⟩) os.length cap2)
  have O6 := O5.far (b := w.heap.size) hD3 4 (.slice (some ⟨g2, 0, none⟩) os.length cap2)
  have D6 : Box (w5.setCell ⟨w.heap.size, 4, none⟩ (.slice (some ⟨g2, 0, none⟩) os.length cap2)) w.heap.size 80 #[.int .i64 rt, .int .i64 rq, .int .i64 rv, .slice (some ⟨g1, 0, none⟩) ps.length cap1, .slice (some ⟨g2, 0, none⟩) os.length cap2] := D5.set 4 _
  have X6 := X5.far (p := ⟨w.heap.size, 4, none⟩) (by show w.heap.size ≠ _; omega) (.slice (some ⟨g2, 0, none⟩) os.length cap2)
  have E6 := E5.setCell (p := ⟨w.heap.size, 4, none⟩) (Nat.le_refl _) (.slice (some ⟨g2, 0, none⟩) os.length cap2)
  have hsz6 : w5.heap.size = (w5.setCell ⟨w.heap.size, 4, none⟩ (.slice (some ⟨g2, 0, none⟩) os.length cap2)).heap.size := (size_set _ _ _).symm
  rw [hsz6] at O6
  have hs6 : w2.heap.size ≤ (w5.setCell ⟨w.heap.size, 4, none⟩ (.slice (some ⟨g2, 0, none⟩) os.length cap2)).heap.size := by rw [size_set]; exact Nat.le_trans hb4.size hgr.size
  clear hsz6 R5 O5 D5 X5 E5 hgr e0 e1 e2 e3 e4 fd d0 d1 d2 d3 d4 D3 X3 E4 R4 D4 X4 S2 hown hb4 hbs hlg5 R3
  try simp only [Nat.zero_add]
  generalize (w5.setCell _ _ : World) = w6 at R6 O6 D6 X6 E6 hs6 ⊢
  have hw2 : w0.heap.size ≤ w2.heap.size := Nat.le_trans (Nat.le_of_eq hszW.out.symm) (by omega)
  have hwB : w.heap.size ≤ w2.heap.size := E3.size
  have HP : Hid (∀ x0 x1 x2 x3 x4 : Value, RegO w rt rq rv ps os (.returned (.agg #[.int .i64 rt, .int .i64 rq, .int .i64 rv, .slice (some ⟨g1, 0, none⟩) ps.length cap1, .slice (some ⟨g2, 0, none⟩) os.length cap2])) (((((w6.setCell ⟨w.heap.size + 1, 0, none⟩ x0).setCell ⟨w.heap.size + 1, 1, none⟩ x1).setCell ⟨w.heap.size + 1, 2, none⟩ x2).setCell ⟨w.heap.size + 1, 3, none⟩ x3).setCell ⟨w.heap.size + 1, 4, none⟩ x4)) := Lib.hid fun x0 x1 x2 x3 x4 =>
    ⟨w2.heap.size, _, _, hwB, by simp only [size_set]; exact hs6, rfl, (R6.far5 hX x0 x1 x2 x3 x4).wide hb0.size (Nat.le_refl _), (O6.far5 (by omega) x0 x1 x2 x3 x4).wide (Nat.le_refl _) (by simp only [size_set]; exact Nat.le_refl _), bel_five E6 (by omega) x0 x1 x2 x3 x4⟩
  obtain ⟨d0, d1, d2, d3, d4⟩ := D6.five
  obtain ⟨x0, x1, x2, x3, x4⟩ := X6.five
  have fx := X6.frozen
  clear R6 O6 E6 D6 X6
  go_wp2
  exact bodyPost_ret (v := .agg #[.int .i64 rt, .int .i64 rq, .int .i64 rv, .slice (some ⟨g1, 0, none⟩) ps.length cap1, .slice (some ⟨g2, 0, none⟩) os.length cap2]) (by simp [results, Tryz.results98, go_sem, x0, x1, x2, x3, x4]) rfl (HP.out _ _ _ _ _)


end Go.Proofs.YtjdepjpjjgkmbaaGreat

/- The model's l7Write once more: the lists of its answer are one's own (written by reg_own2.py). -/
namespace Go.Proofs.YtjdepjpjjgkmbaaGreat
open Go.RowKit Go.Deep

/-- A shelf and a flag that are answered: both lists one's own, each in a block of its own. -/
def SpO (w : World) (ps : List (Int × Int)) (os : List Opn) (e : Ending) (w' : World) : Prop :=
  ∃ (a b c : Int) (f : Bool) (g1 c1 g2 c2 : Nat) (D : List (Int × Int)), e = .returned (.tuple #[.agg #[.int .i64 a, .int .i64 b, .int .i64 c, .slice (some ⟨g1, 0, none⟩) D.length c1, .slice (some ⟨g2, 0, none⟩) os.length c2], .bool f]) ∧ (D = ps ∨ D.length ≤ 20) ∧ g1 ≠ g2 ∧ w'.ownsRow w.heap.size 136 2 (.slice (some ⟨g1, 0, none⟩) D.length c1) D.length (flatP D) ∧ w'.ownsRow w.heap.size 97 4 (.slice (some ⟨g2, 0, none⟩) os.length c2) os.length (flatO os) ∧ Below w.heap.size w w'

/-- What the model's writing keeps. -/
structure LWO (w wr : World) (S B : Nat) (s l c sh : Int) (A : Option Addr) (n cap : Nat) (rt rq rv : Int) (P : Option Addr) (p pc : Nat) (Q : Option Addr) (q qc : Nat) (ct cq : Int) (u v : Value) (ps : List (Int × Int)) (os : List Opn) : Prop where
  bel : Below w.heap.size w wr
  G : Box wr w.heap.size 26 #[.int .i64 s, .int .i64 l, .int .i64 c, .int .i64 sh, .slice A n cap]
  D : Box wr (w.heap.size + 1) 80 #[.int .i64 rt, .int .i64 rq, .int .i64 rv, .slice P p pc, .slice Q q qc]
  T : Box wr (w.heap.size + 1 + 1) 39 #[.int .i64 ct, .int .i64 cq]
  X : Box wr (w.heap.size + 1 + 1 + 1) 80 #[.int .i64 0, .int .i64 0, .int .i64 0, .slice none 0 0, .slice none 0 0]
  Y : Box wr S 80 #[.int .i64 rt, .int .i64 rq, .int .i64 rv, u, v]
  hlo : w.heap.size + 1 + 1 + 1 < B
  hBS : B ≤ S
  R : OP wr (w.heap.size + 1 + 1 + 1 + 1) B u ps
  V : OO wr B S v os
theorem LWO.later {w wr w' : World} {S B : Nat} {s l c sh : Int} {A : Option Addr} {n cap : Nat} {rt rq rv : Int} {P : Option Addr} {p pc : Nat} {Q : Option Addr} {q qc : Nat} {ct cq : Int} {u v : Value} {ps : List (Int × Int)} {os : List Opn} (h : LWO w wr S B s l c sh A n cap rt rq rv P p pc Q q qc ct cq u v ps os) (hb : Below wr.heap.size wr w') : LWO w w' S B s l c sh A n cap rt rq rv P p pc Q q qc ct cq u v ps os :=
  ⟨bel_trans h.bel hb, h.G.later hb h.G.lt, h.D.later hb h.D.lt, h.T.later hb h.T.lt, h.X.later hb h.X.lt, h.Y.later hb h.Y.lt, h.hlo, h.hBS, h.R.later hb, h.V.later hb⟩
theorem lw_oldO {w wr : World} {S B : Nat} {s l c sh : Int} {A : Option Addr} {n cap : Nat} {rt rq rv : Int} {P : Option Addr} {p pc : Nat} {Q : Option Addr} {q qc : Nat} {ct cq : Int} {a5 c5 a6 c6 : Nat} {ps : List (Int × Int)} {os : List Opn} {f : Bool} (h : LWO w wr S B s l c sh A n cap rt rq rv P p pc Q q qc ct cq (.slice (some ⟨a5, 0, none⟩) ps.length c5) (.slice (some ⟨a6, 0, none⟩) os.length c6) ps os) (x0 x1 x2 x3 x4 : Value) :
    SpO w ps os (.returned (.tuple #[.agg #[.int .i64 rt, .int .i64 rq, .int .i64 rv, .slice (some ⟨a5, 0, none⟩) ps.length c5, .slice (some ⟨a6, 0, none⟩) os.length c6], .bool f])) (((((wr.setCell ⟨w.heap.size + 1 + 1 + 1, 0, none⟩ x0).setCell ⟨w.heap.size + 1 + 1 + 1, 1, none⟩ x1).setCell ⟨w.heap.size + 1 + 1 + 1, 2, none⟩ x2).setCell ⟨w.heap.size + 1 + 1 + 1, 3, none⟩ x3).setCell ⟨w.heap.size + 1 + 1 + 1, 4, none⟩ x4) := by
  have hlo := h.hlo
  obtain ⟨g, k, h1, h2, e, h3⟩ := h.R.far5 (b := w.heap.size + 1 + 1 + 1) (by omega) x0 x1 x2 x3 x4
  obtain ⟨g', k', h1', h2', e', h3'⟩ := h.V.far5 (b := w.heap.size + 1 + 1 + 1) (by omega) x0 x1 x2 x3 x4
  cases e
  cases e'
  exact ⟨_, _, _, _, _, _, _, _, ps, rfl, .inl rfl, by omega, ownLow h3 (by omega), ownLow h3' (by omega), bel_five h.bel (by omega) x0 x1 x2 x3 x4⟩

set_option maxRecDepth 100000 in
set_option maxHeartbeats 4000000 in
/-- Not written: as it is, and false. -/
theorem l7WriteO_no (s l c sh : Int) (A : Option Addr) (n cap : Nat) (zs : List Int) (x rt rq rv : Int) (P : Option Addr) (p pc : Nat) (Q : Option Addr) (q qc : Nat) (ct cq v : Int) (L : Option Addr) (m mc : Nat) (ps : List (Int × Int)) (os : List Opn) (cs : List (Int × Int)) (w : World) (hm : n ≤ maxLen) (hr : Row w w.heap.size A n zs) (hp : ps.length ≤ 2000000) (hq : os.length ≤ 2000000) (h1 : Slc w (.slice P p pc) ps) (h2 : SlcQ w (.slice Q q qc) os) (hn : m ≤ 4194304) (h3 : Pairs w w.heap.size L m cs) (hW : wrtB s l c sh zs x ct cq v cs = false) :
    Calls Tryz.prog 182 #[.agg #[.int .i64 s, .int .i64 l, .int .i64 c, .int .i64 sh, .slice A n cap], .int .i64 x, .agg #[.int .i64 rt, .int .i64 rq, .int .i64 rv, .slice P p pc, .slice Q q qc], .agg #[.int .i64 ct, .int .i64 cq], .int .i64 v, .slice L m mc] w (SpO w ps os) := by
  have G := (((Box.new w 26 #[.int .i64 s, .int .i64 l, .int .i64 c, .int .i64 sh, .slice A n cap]).alloc (.cells #[.int .i64 rt, .int .i64 rq, .int .i64 rv, .slice P p pc, .slice Q q qc] 80)).alloc (.cells #[.int .i64 ct, .int .i64 cq] 39)).alloc (.cells #[.int .i64 0, .int .i64 0, .int .i64 0, .slice none 0 0, .slice none 0 0] 80)
  have D := ((Box.new (w.alloc (.cells #[.int .i64 s, .int .i64 l, .int .i64 c, .int .i64 sh, .slice A n cap] 26)) 80 #[.int .i64 rt, .int .i64 rq, .int .i64 rv, .slice P p pc, .slice Q q qc]).alloc (.cells #[.int .i64 ct, .int .i64 cq] 39)).alloc (.cells #[.int .i64 0, .int .i64 0, .int .i64 0, .slice none 0 0, .slice none 0 0] 80)
  have T := (Box.new ((w.alloc (.cells #[.int .i64 s, .int .i64 l, .int .i64 c, .int .i64 sh, .slice A n cap] 26)).alloc (.cells #[.int .i64 rt, .int .i64 rq, .int .i64 rv, .slice P p pc, .slice Q q qc] 80)) 39 #[.int .i64 ct, .int .i64 cq]).alloc (.cells #[.int .i64 0, .int .i64 0, .int .i64 0, .slice none 0 0, .slice none 0 0] 80)
  have X := Box.new (((w.alloc (.cells #[.int .i64 s, .int .i64 l, .int .i64 c, .int .i64 sh, .slice A n cap] 26)).alloc (.cells #[.int .i64 rt, .int .i64 rq, .int .i64 rv, .slice P p pc, .slice Q q qc] 80)).alloc (.cells #[.int .i64 ct, .int .i64 cq] 39)) 80 #[.int .i64 0, .int .i64 0, .int .i64 0, .slice none 0 0, .slice none 0 0]
  have E := bel_trans (bel_trans (bel_trans (bel_alloc w (.cells #[.int .i64 s, .int .i64 l, .int .i64 c, .int .i64 sh, .slice A n cap] 26)) (bel_alloc _ (.cells #[.int .i64 rt, .int .i64 rq, .int .i64 rv, .slice P p pc, .slice Q q qc] 80))) (bel_alloc _ (.cells #[.int .i64 ct, .int .i64 cq] 39))) (bel_alloc _ (.cells #[.int .i64 0, .int .i64 0, .int .i64 0, .slice none 0 0, .slice none 0 0] 80))
  simp only [World.size_alloc] at D T X
  have HR := Lib.hid hr
  have HM := Lib.hid hm
  have H1 := Lib.hid h1
  have H2 := Lib.hid h2
  have H3 := Lib.hid h3
  have HW := Lib.hid hW
  clear hr hm h1 h2 h3 hW
  go_enter Tryz.func182, Tryz.ntmps182
  go_wp2_with fail
  generalize ((((w.alloc _).alloc _).alloc _).alloc _ : World) = w0 at G D T X E ⊢
  refine (l7Copy_own rt rq rv P p pc Q q qc ps os w0 (by omega) (by omega) (H1.out.later E) (H2.out.later E)).mono ?_
  rintro e w1 ⟨B, u, v', hB, hB', rfl, hR, hV, hb1⟩
  obtain ⟨a5, c5, rfl⟩ := hR.form
  obtain ⟨a6, c6, rfl⟩ := hV.form
  have hb2 := bel_alloc w1 (.cells #[.int .i64 rt, .int .i64 rq, .int .i64 rv, .slice (some ⟨a5, 0, none⟩) ps.length c5, .slice (some ⟨a6, 0, none⟩) os.length c6] 80)
  have hXl := X.lt
  have K : LWO w (w1.alloc (.cells #[.int .i64 rt, .int .i64 rq, .int .i64 rv, .slice (some ⟨a5, 0, none⟩) ps.length c5, .slice (some ⟨a6, 0, none⟩) os.length c6] 80)) w1.heap.size B s l c sh A n cap rt rq rv P p pc Q q qc ct cq (.slice (some ⟨a5, 0, none⟩) ps.length c5) (.slice (some ⟨a6, 0, none⟩) os.length c6) ps os := by
    have hb12 := bel_trans hb1 hb2
    exact ⟨bel_trans E hb12, G.later hb12 G.lt, D.later hb12 D.lt, T.later hb12 T.lt, X.later hb12 X.lt, Box.new w1 _ _, by omega, hB', (hR.later hb2).wide (by omega) (Nat.le_refl _), hV.later hb2⟩
  have T1 := T.later hb1 T.lt
  have hT1 := T1.lt
  obtain ⟨t0, t1⟩ := T1.two
  clear hR hV G D T X E hb1 hb2 hB T1
  go_wp2_with fail
  generalize (w1.alloc _ : World) = w2 at K ⊢
  generalize w1.heap.size = S at K hB' hT1 ⊢
  clear t0 t1 hT1
  rcases zero_cases ct cq with ⟨rfl, rfl⟩ | ⟨hcase, hnz⟩
  · refine (l4Zero_yes w2).mono ?_
    rintro e w3 ⟨rfl, hb3⟩
    have K3 := K.later hb3
    obtain ⟨y0, y1, y2, y3, y4⟩ := K3.Y.five
    obtain ⟨x0, x1, x2, x3, x4⟩ := K3.X.five
    have fx := K3.X.frozen
    have HP := Lib.hid (lw_oldO (f := false) K3)
    clear K K3 hb3
    go_wp2
    exact bodyPost_ret (v := .tuple #[.agg #[.int .i64 rt, .int .i64 rq, .int .i64 rv, .slice (some ⟨a5, 0, none⟩) ps.length c5, .slice (some ⟨a6, 0, none⟩) os.length c6], .bool false]) (by simp [results, Tryz.results182, go_sem, x0, x1, x2, x3, x4]) rfl (HP.out _ _ _ _ _)
  · have HZ := Lib.hid (l4Zero_no ct cq hcase)
    have HN := Lib.hid hnz
    clear hcase hnz
    refine (HZ.out w2).mono ?_
    rintro e w3 ⟨rfl, hb3⟩
    have K3 := K.later hb3
    clear K hb3
    obtain ⟨t0, t1⟩ := K3.T.two
    go_wp2_with fail
    rcases hst : stB ct cq with _ | _
    · have HS := Lib.hid hst
      clear hst
      refine (specStampR_is HS.out w3).mono ?_
      rintro e w4 ⟨rfl, hb4⟩
      have K4 := K3.later hb4
      clear K3 hb4 t0 t1
      obtain ⟨y0, y1, y2, y3, y4⟩ := K4.Y.five
      obtain ⟨x0, x1, x2, x3, x4⟩ := K4.X.five
      have fx := K4.X.frozen
      have HP := Lib.hid (lw_oldO (f := false) K4)
      clear K4
      go_wp2
      exact bodyPost_ret (v := .tuple #[.agg #[.int .i64 rt, .int .i64 rq, .int .i64 rv, .slice (some ⟨a5, 0, none⟩) ps.length c5, .slice (some ⟨a6, 0, none⟩) os.length c6], .bool false]) (by simp [results, Tryz.results182, go_sem, x0, x1, x2, x3, x4]) rfl (HP.out _ _ _ _ _)
    · have HS := Lib.hid hst
      clear hst
      refine (specStampR_is HS.out w3).mono ?_
      rintro e w4 ⟨rfl, hb4⟩
      have K4 := K3.later hb4
      clear K3 hb4 t0 t1
      obtain ⟨t0, t1⟩ := K4.T.two
      obtain ⟨g0, g1, g2, g3, g4⟩ := K4.G.five
      have HPF : Hid (proB s l c sh zs x ct cq v cs = false) := Lib.hid (by have := HW.out; unfold wrtB at this; simpa [HN.out] using this)
      go_wp2_with fail
      refine (specProvenR_is HPF.out A n cap L m mc w4 HM.out ((HR.out.below K4.bel (Nat.le_refl _)).more K4.bel.size) hn (H3.out.later K4.bel)).mono ?_
      rintro e w5 ⟨rfl, hb5⟩
      have K5 := K4.later hb5
      clear K4 hb5 t0 t1 g0 g1 g2 g3 g4
      obtain ⟨y0, y1, y2, y3, y4⟩ := K5.Y.five
      obtain ⟨x0, x1, x2, x3, x4⟩ := K5.X.five
      have fx := K5.X.frozen
      have HP := Lib.hid (lw_oldO (f := false) K5)
      clear K5
      go_wp2
      exact bodyPost_ret (v := .tuple #[.agg #[.int .i64 rt, .int .i64 rq, .int .i64 rv, .slice (some ⟨a5, 0, none⟩) ps.length c5, .slice (some ⟨a6, 0, none⟩) os.length c6], .bool false]) (by simp [results, Tryz.results182, go_sem, x0, x1, x2, x3, x4]) rfl (HP.out _ _ _ _ _)


/-- What the model's writing keeps, once stamp and value are written. -/
structure LVO (w wr : World) (S B : Nat) (s l c sh : Int) (A : Option Addr) (n cap : Nat) (ct cq v : Int) (z u : Value) (os : List Opn) : Prop where
  bel : Below w.heap.size w wr
  G : Box wr w.heap.size 26 #[.int .i64 s, .int .i64 l, .int .i64 c, .int .i64 sh, .slice A n cap]
  T : Box wr (w.heap.size + 1 + 1) 39 #[.int .i64 ct, .int .i64 cq]
  X : Box wr (w.heap.size + 1 + 1 + 1) 80 #[.int .i64 0, .int .i64 0, .int .i64 0, .slice none 0 0, .slice none 0 0]
  Y : Box wr S 80 #[.int .i64 ct, .int .i64 cq, .int .i64 v, z, u]
  hlo : w.heap.size + 1 + 1 + 1 < B
  hBS : B ≤ S
  V : OO wr B S u os
theorem LVO.later {w wr w' : World} {S B : Nat} {s l c sh : Int} {A : Option Addr} {n cap : Nat} {ct cq v : Int} {z u : Value} {os : List Opn} (h : LVO w wr S B s l c sh A n cap ct cq v z u os) (hb : Below wr.heap.size wr w') : LVO w w' S B s l c sh A n cap ct cq v z u os :=
  ⟨bel_trans h.bel hb, h.G.later hb h.G.lt, h.T.later hb h.T.lt, h.X.later hb h.X.lt, h.Y.later hb h.Y.lt, h.hlo, h.hBS, h.V.later hb⟩
theorem LVO.drew {w wr : World} {S B : Nat} {s l c sh : Int} {A : Option Addr} {n cap : Nat} {ct cq v : Int} {z u : Value} {os : List Opn} (h : LVO w wr S B s l c sh A n cap ct cq v z u os) : LVO w wr.drew S B s l c sh A n cap ct cq v z u os := h.later ((Below.refl _ _).drew)
theorem LWO.put {w wr : World} {S B : Nat} {s l c sh : Int} {A : Option Addr} {n cap : Nat} {rt rq rv : Int} {P : Option Addr} {p pc : Nat} {Q : Option Addr} {q qc : Nat} {ct cq : Int} {u u' : Value} {ps : List (Int × Int)} {os : List Opn} (h : LWO w wr S B s l c sh A n cap rt rq rv P p pc Q q qc ct cq u u' ps os) (v : Int) :
    LVO w (((wr.setCell ⟨S, 0, none⟩ (.int .i64 ct)).setCell ⟨S, 1, none⟩ (.int .i64 cq)).setCell ⟨S, 2, none⟩ (.int .i64 v)) S B s l c sh A n cap ct cq v u u' os := by
  have hlo := h.hlo
  have hBS := h.hBS
  have hw : w.heap.size ≤ S := by omega
  refine ⟨((h.bel.setCell (p := ⟨S, 0, none⟩) hw _).setCell (p := ⟨S, 1, none⟩) hw _).setCell (p := ⟨S, 2, none⟩) hw _, ?_, ?_, ?_, ((h.Y.set 0 _).set 1 _).set 2 _, hlo, hBS, ((h.V.farHi (Nat.le_refl _) 0 _).farHi (Nat.le_refl _) 1 _).farHi (Nat.le_refl _) 2 _⟩
  · exact ((h.G.far (p := ⟨S, 0, none⟩) (by show S ≠ _; omega) _).far (p := ⟨S, 1, none⟩) (by show S ≠ _; omega) _).far (p := ⟨S, 2, none⟩) (by show S ≠ _; omega) _
  · exact ((h.T.far (p := ⟨S, 0, none⟩) (by show S ≠ _; omega) _).far (p := ⟨S, 1, none⟩) (by show S ≠ _; omega) _).far (p := ⟨S, 2, none⟩) (by show S ≠ _; omega) _
  · exact ((h.X.far (p := ⟨S, 0, none⟩) (by show S ≠ _; omega) _).far (p := ⟨S, 1, none⟩) (by show S ≠ _; omega) _).far (p := ⟨S, 2, none⟩) (by show S ≠ _; omega) _
/-- The new certificate is laid in, and then the answer. -/
theorem lv_newO {w w1 wr : World} {S B : Nat} {s l c sh : Int} {A : Option Addr} {n cap : Nat} {ct cq v : Int} {z : Value} {a6 c6 : Nat} {os : List Opn} (h : LVO w wr S B s l c sh A n cap ct cq v z (.slice (some ⟨a6, 0, none⟩) os.length c6) os) {g c5 : Nat} {J : List (Int × Int)} (ps : List (Int × Int)) (hS1 : S < w1.heap.size) (hJ : wr.ownsRow w1.heap.size 136 2 (.slice (some ⟨g, 0, none⟩) J.length c5) J.length (flatP J)) (hJl : J.length ≤ 20) (x0 x1 x2 x3 x4 : Value) :
    SpO w ps os (.returned (.tuple #[.agg #[.int .i64 ct, .int .i64 cq, .int .i64 v, .slice (some ⟨g, 0, none⟩) J.length c5, .slice (some ⟨a6, 0, none⟩) os.length c6], .bool true])) ((((((wr.setCell ⟨S, 3, none⟩ (.slice (some ⟨g, 0, none⟩) J.length c5)).setCell ⟨w.heap.size + 1 + 1 + 1, 0, none⟩ x0).setCell ⟨w.heap.size + 1 + 1 + 1, 1, none⟩ x1).setCell ⟨w.heap.size + 1 + 1 + 1, 2, none⟩ x2).setCell ⟨w.heap.size + 1 + 1 + 1, 3, none⟩ x3).setCell ⟨w.heap.size + 1 + 1 + 1, 4, none⟩ x4) := by
  have hlo := h.hlo
  have hBS := h.hBS
  have hb : Below w.heap.size w (wr.setCell ⟨S, 3, none⟩ (.slice (some ⟨g, 0, none⟩) J.length c5)) := h.bel.setCell (p := ⟨S, 3, none⟩) (by show _ ≤ S; omega) _
  have hV := h.V.farHi (Nat.le_refl _) 3 (.slice (some ⟨g, 0, none⟩) J.length c5)
  obtain ⟨g', k', h1', h2', e', h3'⟩ := hV.far5 (b := w.heap.size + 1 + 1 + 1) (by omega) x0 x1 x2 x3 x4
  cases e'
  obtain ⟨k1, k2, h1, h2, e, h3⟩ := ((ownR_of hJ).far (b := S) hS1 3 (.slice (some ⟨g, 0, none⟩) J.length c5)).far5 (b := w.heap.size + 1 + 1 + 1) (by omega) x0 x1 x2 x3 x4
  cases e
  exact ⟨_, _, _, _, _, _, _, _, J, rfl, .inr hJl, by omega, ownLow h3 (by omega), ownLow h3' (by omega), bel_five hb (by omega) x0 x1 x2 x3 x4⟩

set_option maxRecDepth 100000 in
set_option maxHeartbeats 4000000 in
/-- Written, where the stamp is newer; else as it is; and true. -/
theorem l7WriteO_yes (s l c sh : Int) (A : Option Addr) (n cap : Nat) (zs : List Int) (x rt rq rv : Int) (P : Option Addr) (p pc : Nat) (Q : Option Addr) (q qc : Nat) (ct cq v : Int) (L : Option Addr) (m mc : Nat) (ps : List (Int × Int)) (os : List Opn) (cs : List (Int × Int)) (w : World) (hm : n ≤ maxLen) (hr : Row w w.heap.size A n zs) (hp : ps.length ≤ 2000000) (hq : os.length ≤ 2000000) (h1 : Slc w (.slice P p pc) ps) (h2 : SlcQ w (.slice Q q qc) os) (hn : m ≤ 4194304) (h3 : Pairs w w.heap.size L m cs) (hW : wrtB s l c sh zs x ct cq v cs = true) :
    Calls Tryz.prog 182 #[.agg #[.int .i64 s, .int .i64 l, .int .i64 c, .int .i64 sh, .slice A n cap], .int .i64 x, .agg #[.int .i64 rt, .int .i64 rq, .int .i64 rv, .slice P p pc, .slice Q q qc], .agg #[.int .i64 ct, .int .i64 cq], .int .i64 v, .slice L m mc] w (SpO w ps os) := by
  have G := (((Box.new w 26 #[.int .i64 s, .int .i64 l, .int .i64 c, .int .i64 sh, .slice A n cap]).alloc (.cells #[.int .i64 rt, .int .i64 rq, .int .i64 rv, .slice P p pc, .slice Q q qc] 80)).alloc (.cells #[.int .i64 ct, .int .i64 cq] 39)).alloc (.cells #[.int .i64 0, .int .i64 0, .int .i64 0, .slice none 0 0, .slice none 0 0] 80)
  have D := ((Box.new (w.alloc (.cells #[.int .i64 s, .int .i64 l, .int .i64 c, .int .i64 sh, .slice A n cap] 26)) 80 #[.int .i64 rt, .int .i64 rq, .int .i64 rv, .slice P p pc, .slice Q q qc]).alloc (.cells #[.int .i64 ct, .int .i64 cq] 39)).alloc (.cells #[.int .i64 0, .int .i64 0, .int .i64 0, .slice none 0 0, .slice none 0 0] 80)
  have T := (Box.new ((w.alloc (.cells #[.int .i64 s, .int .i64 l, .int .i64 c, .int .i64 sh, .slice A n cap] 26)).alloc (.cells #[.int .i64 rt, .int .i64 rq, .int .i64 rv, .slice P p pc, .slice Q q qc] 80)) 39 #[.int .i64 ct, .int .i64 cq]).alloc (.cells #[.int .i64 0, .int .i64 0, .int .i64 0, .slice none 0 0, .slice none 0 0] 80)
  have X := Box.new (((w.alloc (.cells #[.int .i64 s, .int .i64 l, .int .i64 c, .int .i64 sh, .slice A n cap] 26)).alloc (.cells #[.int .i64 rt, .int .i64 rq, .int .i64 rv, .slice P p pc, .slice Q q qc] 80)).alloc (.cells #[.int .i64 ct, .int .i64 cq] 39)) 80 #[.int .i64 0, .int .i64 0, .int .i64 0, .slice none 0 0, .slice none 0 0]
  have E := bel_trans (bel_trans (bel_trans (bel_alloc w (.cells #[.int .i64 s, .int .i64 l, .int .i64 c, .int .i64 sh, .slice A n cap] 26)) (bel_alloc _ (.cells #[.int .i64 rt, .int .i64 rq, .int .i64 rv, .slice P p pc, .slice Q q qc] 80))) (bel_alloc _ (.cells #[.int .i64 ct, .int .i64 cq] 39))) (bel_alloc _ (.cells #[.int .i64 0, .int .i64 0, .int .i64 0, .slice none 0 0, .slice none 0 0] 80))
  simp only [World.size_alloc] at D T X
  have HR := Lib.hid hr
  have HM := Lib.hid hm
  have H1 := Lib.hid h1
  have H2 := Lib.hid h2
  have H3 := Lib.hid h3
  have HW := Lib.hid (wrt_parts hW)
  clear hr hm h1 h2 h3 hW
  go_enter Tryz.func182, Tryz.ntmps182
  go_wp2_with fail
  generalize ((((w.alloc _).alloc _).alloc _).alloc _ : World) = w0 at G D T X E ⊢
  refine (l7Copy_own rt rq rv P p pc Q q qc ps os w0 (by omega) (by omega) (H1.out.later E) (H2.out.later E)).mono ?_
  rintro e w1 ⟨B, u, v', hB, hB', rfl, hR, hV, hb1⟩
  obtain ⟨a5, c5, rfl⟩ := hR.form
  obtain ⟨a6, c6, rfl⟩ := hV.form
  have hb2 := bel_alloc w1 (.cells #[.int .i64 rt, .int .i64 rq, .int .i64 rv, .slice (some ⟨a5, 0, none⟩) ps.length c5, .slice (some ⟨a6, 0, none⟩) os.length c6] 80)
  have hXl := X.lt
  have K : LWO w (w1.alloc (.cells #[.int .i64 rt, .int .i64 rq, .int .i64 rv, .slice (some ⟨a5, 0, none⟩) ps.length c5, .slice (some ⟨a6, 0, none⟩) os.length c6] 80)) w1.heap.size B s l c sh A n cap rt rq rv P p pc Q q qc ct cq (.slice (some ⟨a5, 0, none⟩) ps.length c5) (.slice (some ⟨a6, 0, none⟩) os.length c6) ps os := by
    have hb12 := bel_trans hb1 hb2
    exact ⟨bel_trans E hb12, G.later hb12 G.lt, D.later hb12 D.lt, T.later hb12 T.lt, X.later hb12 X.lt, Box.new w1 _ _, by omega, hB', (hR.later hb2).wide (by omega) (Nat.le_refl _), hV.later hb2⟩
  have T1 := T.later hb1 T.lt
  have hT1 := T1.lt
  obtain ⟨t0, t1⟩ := T1.two
  clear hR hV G D T X E hb1 hb2 hB T1
  go_wp2_with fail
  generalize (w1.alloc _ : World) = w2 at K ⊢
  generalize w1.heap.size = S at K hB' hT1 ⊢
  clear t0 t1 hT1
  have hz := Lib.hid (show (ct == 0) = false ∨ ((ct == 0) = true ∧ (cq == 0) = false) from by
    rcases zero_cases ct cq with h | ⟨h, _⟩
    · exact absurd h HW.out.2.2.1
    · exact h)
  have HS := Lib.hid HW.out.1
  have HPF := Lib.hid HW.out.2.2.2
  have hm20 : m ≤ 20 := by have := HW.out.2.1; rw [H3.out.1] at this; exact this
  refine (l4Zero_no ct cq hz.out w2).mono ?_
  rintro e w3 ⟨rfl, hb3⟩
  have K3 := K.later hb3
  clear K hb3
  obtain ⟨t0, t1⟩ := K3.T.two
  go_wp2_with fail
  refine (specStampR_is HS.out w3).mono ?_
  rintro e w4 ⟨rfl, hb4⟩
  have K4 := K3.later hb4
  clear K3 hb4 t0 t1
  obtain ⟨t0, t1⟩ := K4.T.two
  obtain ⟨g0, g1, g2, g3, g4⟩ := K4.G.five
  go_wp2_with fail
  refine (specProvenR_is HPF.out A n cap L m mc w4 HM.out ((HR.out.below K4.bel (Nat.le_refl _)).more K4.bel.size) hn (H3.out.later K4.bel)).mono ?_
  rintro e w5 ⟨rfl, hb5⟩
  have K5 := K4.later hb5
  clear K4 hb5 t0 t1 g0 g1 g2 g3 g4
  obtain ⟨t0, t1⟩ := K5.T.two
  obtain ⟨d0, d1, d2, d3, d4⟩ := K5.D.five
  go_wp2_with fail
  refine (specCmp_any ct cq rt rq w5).mono ?_
  rintro e w6 ⟨rfl, hb6⟩
  have K6 := K5.later hb6
  clear K5 hb6 t0 t1 d0 d1 d2 d3 d4
  by_cases hc : 0 < cmpN ct cq rt rq
  · have HC := Lib.hid hc
    obtain ⟨y0, y1, y2, y3, y4⟩ := K6.Y.five
    obtain ⟨t0, t1⟩ := K6.T.two
    have fy := K6.Y.frozen
    have hlo := K6.hlo
    have hBS := K6.hBS
    have HV := Lib.hid (K6.put v)
    clear K6
    go_upto_region 7 with fail
    generalize (((w6.setCell _ _).setCell _ _).setCell _ _ : World) = w7 at HV ⊢
    have K7 := HV.out
    clear y0 y1 y2 y3 y4 t0 t1 fy HV hc
    obtain ⟨J, hJ⟩ : ∃ J, goodP (rB s l c sh zs 1 x ct cq v) cs = J := ⟨_, rfl⟩
    have HJL : Hid (J.length ≤ 20) := Lib.hid (by rw [← hJ]; exact Nat.le_trans (goodP_le _ _) (by rw [H3.out.1]; exact hm20))
    replace hJ := Lib.hid hJ
    obtain ⟨g0, g1, g2, g3, g4⟩ := K7.G.five
    obtain ⟨t0, t1⟩ := K7.T.two
    have R7 := (HR.out.below K7.bel (Nat.le_refl _)).more K7.bel.size
    have P7 := H3.out.later K7.bel
    have hSG : (⟨S, 3, none⟩ : Addr).block ≠ w.heap.size := by show S ≠ _; omega
    have hST : (⟨S, 3, none⟩ : Addr).block ≠ w.heap.size + 1 + 1 := by show S ≠ _; omega
    have hSl := K7.Y.lt
    go_region_held3 (fun w' => w'.cell? ⟨w.heap.size, 0, none⟩ = some (.int .i64 s) ∧ w'.cell? ⟨w.heap.size, 1, none⟩ = some (.int .i64 l) ∧ w'.cell? ⟨w.heap.size, 2, none⟩ = some (.int .i64 c) ∧ w'.cell? ⟨w.heap.size, 3, none⟩ = some (.int .i64 sh) ∧ w'.cell? ⟨w.heap.size, 4, none⟩ = some (.slice A n cap) ∧ w'.cell? ⟨w.heap.size + 1 + 1, 0, none⟩ = some (.int .i64 ct) ∧ w'.cell? ⟨w.heap.size + 1 + 1, 1, none⟩ = some (.int .i64 cq))
      (first | (with_reducible exact KD) | (with_reducible exact KB) | (with_reducible exact KA) | go_keep)
      (first
        | (go_at_call 137; refine (l4Ready_is x ct cq v _).mono ?_; rintro e w8 ⟨rfl, hb8⟩; have F8 := bel_drew' hb8; have K8 := K7.later F8; have R8 := (R7.below F8 (Nat.le_refl _)).more F8.size; have P8 := P7.later F8; have KA := sevenGD K8.G K8.T; have hs8 := F8.size)
        | (go_at_call 220; refine (specGoodO_is s l c sh A n cap zs 1 x ct cq v L m mc cs _ HM.out R8 hn P8).mono ?_; rintro e w9 ⟨q9, c9, rfl, hw9, hb9⟩; rw [hJ.out] at hw9 ⊢; have K9 := K8.later hb9; have KB := sevenGD K9.G K9.T; have KD := sevenGD (K9.G.far (p := ⟨S, 3, none⟩) hSG (.slice (some ⟨q9, 0, none⟩) J.length c9)) (K9.T.far (p := ⟨S, 3, none⟩) hST (.slice (some ⟨q9, 0, none⟩) J.length c9)); have y3 := K9.Y.cell 3; have fy := K9.Y.frozen; have HP := Lib.hid (lv_newO (w1 := w8) (c5 := c9) K9 ps (by omega) hw9 HJL.out); have Z9 := Lib.hid (K9.Y.set 3 (.slice (some ⟨q9, 0, none⟩) J.length c9)); have X9 := Lib.hid (K9.X.far (p := ⟨S, 3, none⟩) (by show S ≠ _; omega) (.slice (some ⟨q9, 0, none⟩) J.length c9))))
    obtain ⟨z0, z1, z2, z3, z4⟩ := (show Box _ S 80 #[.int .i64 ct, .int .i64 cq, .int .i64 v, .slice (some ⟨q9, 0, none⟩) J.length c9, .slice (some ⟨a6, 0, none⟩) os.length c6] from Z9.out).five
    obtain ⟨x0, x1, x2, x3, x4⟩ := X9.out.five
    have fx := X9.out.frozen
    clear KA KB KD K7 K8 K9 y3 fy R7 R8 P7 P8 g0 g1 g2 g3 g4 t0 t1 hw9 hb9 Z9 X9
    generalize (w9.setCell _ _ : World) = w10 at HP z0 z1 z2 z3 z4 x0 x1 x2 x3 x4 fx ⊢
    go_wp2
    exact bodyPost_ret (v := .tuple #[.agg #[.int .i64 ct, .int .i64 cq, .int .i64 v, .slice (some ⟨q9, 0, none⟩) J.length c9, .slice (some ⟨a6, 0, none⟩) os.length c6], .bool true]) (by simp [results, Tryz.results182, go_sem, x0, x1, x2, x3, x4]) rfl (HP.out _ _ _ _ _)
  · have HC := Lib.hid hc
    have hc' : decide (0 < cmpN ct cq rt rq) = false := decide_eq_false hc
    obtain ⟨y0, y1, y2, y3, y4⟩ := K6.Y.five
    obtain ⟨x0, x1, x2, x3, x4⟩ := K6.X.five
    have fx := K6.X.frozen
    have HP := Lib.hid (lw_oldO (f := true) K6)
    clear K6
    go_wp2
    exact bodyPost_ret (v := .tuple #[.agg #[.int .i64 rt, .int .i64 rq, .int .i64 rv, .slice (some ⟨a5, 0, none⟩) ps.length c5, .slice (some ⟨a6, 0, none⟩) os.length c6], .bool true]) (by simp [results, Tryz.results182, go_sem, x0, x1, x2, x3, x4]) rfl (HP.out _ _ _ _ _)

theorem l7Write_own (s l c sh : Int) (A : Option Addr) (n cap : Nat) (zs : List Int) (x rt rq rv : Int) (P : Option Addr) (p pc : Nat) (Q : Option Addr) (q qc : Nat) (ct cq v : Int) (L : Option Addr) (m mc : Nat) (ps : List (Int × Int)) (os : List Opn) (cs : List (Int × Int)) (w : World) (hm : n ≤ maxLen) (hr : Row w w.heap.size A n zs) (hp : ps.length ≤ 2000000) (hq : os.length ≤ 2000000) (h1 : Slc w (.slice P p pc) ps) (h2 : SlcQ w (.slice Q q qc) os) (hn : m ≤ 4194304) (h3 : Pairs w w.heap.size L m cs) :
    Calls Tryz.prog 182 #[.agg #[.int .i64 s, .int .i64 l, .int .i64 c, .int .i64 sh, .slice A n cap], .int .i64 x, .agg #[.int .i64 rt, .int .i64 rq, .int .i64 rv, .slice P p pc, .slice Q q qc], .agg #[.int .i64 ct, .int .i64 cq], .int .i64 v, .slice L m mc] w (SpO w ps os) := by
  rcases hW : wrtB s l c sh zs x ct cq v cs with _ | _
  · exact l7WriteO_no s l c sh A n cap zs x rt rq rv P p pc Q q qc ct cq v L m mc ps os cs w hm hr hp hq h1 h2 hn h3 hW
  · exact l7WriteO_yes s l c sh A n cap zs x rt rq rv P p pc Q q qc ct cq v L m mc ps os cs w hm hr hp hq h1 h2 hn h3 hW

end Go.Proofs.YtjdepjpjjgkmbaaGreat

/- The model's l4Cert: a list of right seals, one's own. -/
namespace Go.Proofs.YtjdepjpjjgkmbaaGreat
open Go.RowKit

theorem quo_le (s l c sh : Int) (zs : List Int) : quoN s l c sh zs ≤ 20 := by
  unfold quoN
  split
  · rename_i h
    obtain ⟨b1, b2, b3, b4, b5, b6⟩ := okB_parts h
    omega
  · omega

/-- What l4Cert keeps. -/
structure LC (w wr : World) (s l c sh : Int) (A : Option Addr) (m cap' : Nat) (zs : List Int) (ck ch ct cq cv : Int) (p pc : Nat) (ps : List (Int × Int)) : Prop where
  bel : Below w.heap.size w wr
  gr : Box wr w.heap.size 26 #[.int .i64 s, .int .i64 l, .int .i64 c, .int .i64 sh, .slice A m cap']
  cl : Box wr (w.heap.size + 1) 180 #[.int .i64 ck, .int .i64 ch, .int .i64 ct, .int .i64 cq, .int .i64 cv]
  own : wr.ownsRow (w.heap.size + 2) 136 2 (.slice (some ⟨p, 0, none⟩) ps.length pc) ps.length (flatP ps)
  row : Row wr w.heap.size A m zs
section
variable {w wr w' : World} {s l c sh : Int} {A : Option Addr} {m cap' : Nat} {zs : List Int} {ck ch ct cq cv : Int} {p pc : Nat} {ps : List (Int × Int)}
theorem LC.later (h : LC w wr s l c sh A m cap' zs ck ch ct cq cv p pc ps) (hb : Below wr.heap.size wr w') : LC w w' s l c sh A m cap' zs ck ch ct cq cv p pc ps :=
  ⟨bel_trans h.bel hb, h.gr.later hb h.gr.lt, h.cl.later hb h.cl.lt, h.own.kept (grown_bel hb none) (by simp [Value.ownBlock]), h.row.below hb h.bel.size⟩
theorem LC.push {a b : Int} {ob : Obj} {gg cap2 : Nat} (h : LC w wr s l c sh A m cap' zs ck ch ct cq cv p pc ps)
    (hown : w'.ownsRow (w.heap.size + 2) 136 2 (.slice (some ⟨gg, 0, none⟩) (ps.length + 1) cap2) (ps.length + 1) (flatP ps ++ [.int .i64 a, .int .i64 b])) (hg : (wr.alloc ob).grownBy w' (Value.ownBlock (.slice (some ⟨p, 0, none⟩) ps.length pc))) : LC w w' s l c sh A m cap' zs ck ch ct cq cv gg cap2 (ps ++ [(a, b)]) := by
  have hp := (h.own.lt p rfl).1
  have hg : (wr.alloc ob).grownBy w' (some p) := hg
  have h2 := h.later (bel_alloc wr ob)
  have hB : Below w.heap.size w w' := bel_grown h2.bel hg (by omega)
  refine ⟨hB, h2.gr.kept hg (by intro e; injection e with e; omega), h2.cl.kept hg (by intro e; injection e with e; omega), ?_, h.row.keep fun q hq => ?_⟩
  · rw [flatP_snoc]
    simpa using hown
  · exact (hB.cell hq).trans (h.bel.cell hq).symm
end

/-- A list of at most twenty seals, one's own. -/
def MadeCertO (w : World) (e : Ending) (w' : World) : Prop :=
  ∃ (p pc : Nat) (ps : List (Int × Int)), e = .returned (.slice (some ⟨p, 0, none⟩) ps.length pc) ∧ w'.ownsRow w.heap.size 136 2 (.slice (some ⟨p, 0, none⟩) ps.length pc) ps.length (flatP ps) ∧ ps.length ≤ 20 ∧ Below w.heap.size w w'

set_option maxRecDepth 100000 in
set_option maxHeartbeats 4000000 in
theorem l4Cert_any (s l c sh : Int) (A : Option Addr) (m cap' : Nat) (zs : List Int) (ck ch ct cq cv : Int) (w : World) (hm : m ≤ maxLen) (hr : Row w w.heap.size A m zs) :
    Calls Tryz.prog 136 #[.agg #[.int .i64 s, .int .i64 l, .int .i64 c, .int .i64 sh, .slice A m cap'], .agg #[.int .i64 ck, .int .i64 ch, .int .i64 ct, .int .i64 cq, .int .i64 cv]] w (MadeCertO w) := by
  obtain ⟨i0, hi0, hz0, hz1, hz2⟩ := info_parts Tryz.infoSealI
  have K0 : LC w (((w.alloc (.cells #[.int .i64 s, .int .i64 l, .int .i64 c, .int .i64 sh, .slice A m cap'] 26)).alloc (.cells #[.int .i64 ck, .int .i64 ch, .int .i64 ct, .int .i64 cq, .int .i64 cv] 180)).alloc (.cells #[] 136)) s l c sh A m cap' zs ck ch ct cq cv (w.heap.size + 1 + 1) 0 [] := by
    have E := bel_trans (bel_trans (bel_alloc w (.cells #[.int .i64 s, .int .i64 l, .int .i64 c, .int .i64 sh, .slice A m cap'] 26)) (bel_alloc _ (.cells #[.int .i64 ck, .int .i64 ch, .int .i64 ct, .int .i64 cq, .int .i64 cv] 180))) (bel_alloc _ (.cells #[] 136))
    refine ⟨E, ((Box.new w _ _).alloc _).alloc _, ?_, ⟨rfl, .inr ⟨w.heap.size + 1 + 1, 0, #[], rfl, Nat.le_refl _, ?_, Nat.le_refl _, Nat.zero_le _, rfl, rfl⟩⟩, hr.below E (Nat.le_refl _)⟩
    · have := (Box.new (w.alloc (.cells #[.int .i64 s, .int .i64 l, .int .i64 c, .int .i64 sh, .slice A m cap'] 26)) 180 #[.int .i64 ck, .int .i64 ch, .int .i64 ct, .int .i64 cq, .int .i64 cv]).alloc (.cells #[] 136)
      simp only [World.size_alloc] at this
      exact this
    · have := Box.new ((w.alloc (.cells #[.int .i64 s, .int .i64 l, .int .i64 c, .int .i64 sh, .slice A m cap'] 26)).alloc (.cells #[.int .i64 ck, .int .i64 ch, .int .i64 ct, .int .i64 cq, .int .i64 cv] 180)) 136 #[]
      simp only [World.size_alloc] at this
      exact this
  have HM := Lib.hid hm
  have HQ := Lib.hid (quo_le s l c sh zs)
  clear hr hm
  go_enter Tryz.func136, Tryz.ntmps136
  go_wp2_with fail
  generalize (((w.alloc _).alloc _).alloc _ : World) = w1 at K0 ⊢
  go_loopw [5, 6] (fun ov iv wr => ∃ (i p pc : Nat) (ps : List (Int × Int)), i ≤ 20 ∧ iv = .int .i64 i ∧ ov = .slice (some ⟨p, 0, none⟩) ps.length pc ∧ ps.length ≤ i ∧ LC w wr s l c sh A m cap' zs ck ch ct cq cv p pc ps) (fun _ i _ => 20 - (intOf i).toNat)
  case atStart => exact ⟨0, _, 0, [], by omega, rfl, rfl, by simp, K0⟩
  case round =>
    obtain ⟨i, p, pc, ps, hi, rfl, rfl, hpl, hK⟩ := hrel
    clear K0
    obtain ⟨d0, d1, d2, d3, d4, x0, x1, x2, x3, x4⟩ := ten hK.gr hK.cl
    have HC := Lib.hid (specQuorum_any s l c sh A m cap' zs wr HM.out (hK.row.more hK.bel.size))
    generalize hqq : quoN s l c sh zs = qq at HC HQ
    have hqq := Lib.hid hqq
    go_wp2_with fail
    refine HC.out.mono ?_
    rintro e wq ⟨rfl, hbq⟩
    have hK := hK.later hbq
    clear HC d0 d1 d2 d3 d4 x0 x1 x2 x3 x4 hbq
    obtain ⟨d0, d1, d2, d3, d4, x0, x1, x2, x3, x4⟩ := ten hK.gr hK.cl
    by_cases hlt : (i : Int) < qq
    · have hi10 : i < 20 := by have := HQ.out; omega
      have hrow := hK.row.more hK.bel.size
      have C := specSeal_any s l c sh A m cap' zs ck ch ct cq cv i wq HM.out hrow
      rcases hse : seB s l c sh zs ck ch ct cq cv i with _ | _
      · rw [seV_no hse] at C
        have HC := Lib.hid C
        clear C hse hrow
        go_wp2_with fail
        refine HC.out.mono ?_
        rintro e w2 ⟨rfl, hb2⟩
        have HK3 := Lib.hid ((hK.later hb2).later (bel_alloc w2 (.cells #[.int .i64 0, .int .i64 0] 136)))
        clear hK HC d0 d1 d2 d3 d4 x0 x1 x2 x3 x4 hb2
        go_wp2
        go_roundw
        case rel => exact ⟨i + 1, p, pc, ps, by omega, by go_num, rfl, by omega, HK3.out⟩
        case measure => simp [intOf]; omega
      · rw [seV_yes hse] at C
        generalize tagN zs ck ch ct cq cv i = T at C
        have HC := Lib.hid C
        clear C hse hrow
        go_wp2_with fail
        refine HC.out.mono ?_
        rintro e w2 ⟨rfl, hb2⟩
        have K2 := hK.later hb2
        have hK := hK
        have K6 := K2.later (bel_alloc w2 (.cells #[.int .i64 i, .int .i64 T] 136))
        have DS := Box.new w2 136 #[.int .i64 i, .int .i64 T]
        clear hK HC d0 d1 d2 d3 d4 x0 x1 x2 x3 x4 hb2
        obtain ⟨y0, y1⟩ := DS.two
        have hw2 : w.heap.size + 2 ≤ w2.heap.size := by have := K2.cl.lt; omega
        have hw6s : (w2.alloc (.cells #[.int .i64 (i : Int), .int .i64 T] 136)).heap.size = w2.heap.size + 1 := by simp
        have hnew := heap_alloc_new (w2.alloc (.cells #[.int .i64 (i : Int), .int .i64 T] 136)) (.cells #[.int .i64 (i : Int), .int .i64 T] 136)
        rw [hw6s] at hnew
        have K6 := Lib.hid K6
        have hnew := Lib.hid hnew
        rename_i q1 q2
        clear q1 q2 hw6s
        go_wp2_with (at_builtin; refine wpList_append_lies _ rfl _ _ _ rfl (w.heap.size + 2) 136 i0 _ 2 16 Tryz.underlying40 hi0 hz0 hz1 hz2 rfl (by omega) (.slice (some ⟨p, 0, none⟩) (ps.length) pc) (ps.length) (flatP ps) rfl (K6.out.own.alloc _) ⟨w2.heap.size + 1, 0, none⟩ 1 1 [.int .i64 (i : Int), .int .i64 T] rfl rfl (World.news_of_block (cs := #[.int .i64 (i : Int), .int .i64 T]) (t := 136) (fr := (0, 0)) hnew.out) (by simp [Value.oneCell']) (by omega) (by unfold maxLen; omega) (by omega) (by simp; omega) (w2.heap.size + 2) (by simp) ?_; intro gg cap2 w7 hown7 hgrow7 hat7 hlt7; have K7 := K6.out.push hown7 hgrow7)
        have HK7 := Lib.hid K7
        clear K7 K6 DS hown7 hgrow7 hat7
        go_roundw
        case rel =>
          have hl2 : (ps ++ [((i : Int), T)]).length = ps.length + 1 := by simp
          exact ⟨i + 1, gg, cap2, ps ++ [((i : Int), T)], by omega, by go_num, by rw [hl2], by rw [hl2]; omega, HK7.out⟩
        case measure => simp [intOf]; omega
    · have HK := Lib.hid hK
      clear hK d0 d1 d2 d3 d4 x0 x1 x2 x3 x4
      go_wp2
      go_ret
      have ho := HK.out.own
      exact ⟨p, pc, ps, rfl, ownLow ho (by omega), by omega, HK.out.bel⟩

end Go.Proofs.YtjdepjpjjgkmbaaGreat

/- The model's l7Draw: a shelf of a group, its lists one's own. -/
namespace Go.Proofs.YtjdepjpjjgkmbaaGreat
open Go.RowKit Go.Deep

/-- A row of one's own is a slice of its length. -/
theorem own_form {w : World} {base : Nat} {t : TypeId} {size : Nat} {v : Value} {n : Nat} {xs : List Value} (h : w.ownsRow base t size v n xs) : ∃ A c, v = .slice A n c := by
  rcases h.2 with ⟨e, h0⟩ | ⟨g, cap, cur, e, _⟩
  · exact ⟨none, 0, by rw [e, h0]⟩
  · exact ⟨_, _, e⟩

/-- What l7Draw keeps while it draws the opens. -/
structure RSt (w wr : World) (g : Nat) (A : Option Addr) (n cap : Nat) (s l c sh : Int) (q o m cap' : Nat) (zs : List Int) (v : Value) (os : List Opn) : Prop where
  cur : Cur wr 169 .i64 g A n cap
  grw : w.grownBy wr (some g)
  G : Box wr w.heap.size 26 #[.int .i64 s, .int .i64 l, .int .i64 c, .int .i64 sh, .slice (some ⟨q, o, none⟩) m cap']
  X : Box wr (w.heap.size + 1) 80 #[.int .i64 0, .int .i64 0, .int .i64 0, .slice none 0 0, .slice none 0 0]
  Y : Box wr (w.heap.size + 1 + 1) 80 #[.int .i64 0, .int .i64 0, .int .i64 0, .slice none 0 0, v]
  own : wr.ownsRow (w.heap.size + 3) 97 4 v os.length (flatO os)
  row : Row wr w.heap.size (some ⟨q, o, none⟩) m zs
/-- What is drawn: a shelf whose lists are one's own, and the cursor further on. -/
def DrawnReg (g : Nat) (A : Option Addr) (n cap : Nat) (w : World) (e : Ending) (w' : World) : Prop :=
  ∃ (a b d : Int) (u v : Value) (ps : List (Int × Int)) (os : List Opn), e = .returned (.agg #[.int .i64 a, .int .i64 b, .int .i64 d, u, v]) ∧ ps.length ≤ 20 ∧ os.length ≤ 6 ∧ w'.ownsRow w.heap.size 136 2 u ps.length (flatP ps) ∧ w'.ownsRow w.heap.size 97 4 v os.length (flatO os) ∧ (u.ownBlock = none ∨ u.ownBlock ≠ v.ownBlock) ∧ Cur w' 169 .i64 g A n cap ∧ w.grownBy w' (some g)
section
variable {w wr w' : World} {g : Nat} {A : Option Addr} {n cap : Nat} {s l c sh : Int} {q o m cap' : Nat} {zs : List Int} {v v' : Value} {os os' : List Opn}
theorem RSt.low (h : RSt w wr g A n cap s l c sh q o m cap' zs v os) (b : Nat) (e : v.ownBlock = some b) : w.heap.size + 3 ≤ b := (h.own.lt b e).1
theorem RSt.later (h : RSt w wr g A n cap s l c sh q o m cap' zs v os) (hb : Below wr.heap.size wr w') : RSt w w' g A n cap s l c sh q o m cap' zs v os :=
  ⟨h.cur.kept (grown_bel hb none) (fun q hq => by cases hq), grown_trans h.grw (grown_bel hb _), h.G.later hb h.G.lt, h.X.later hb h.X.lt, h.Y.later hb h.Y.lt, h.own.kept (grown_bel hb none) (by cases v.ownBlock <;> simp), h.row.below hb h.grw.size⟩
theorem RSt.draw (h : RSt w wr g A n cap s l c sh q o m cap' zs v os) (hgl : g < w.heap.size) (hgq : g ≠ q) (hg : wr.grownBy w' (some g)) (hc : Cur w' 169 .i64 g A n cap) : RSt w w' g A n cap s l c sh q o m cap' zs v os :=
  ⟨hc, grown_trans h.grw hg, h.G.kept hg (by intro e; injection e with e; omega), h.X.kept hg (by intro e; injection e with e; omega), h.Y.kept hg (by intro e; injection e with e; omega), h.own.kept hg (.inr (fun e => by have := h.low g e; omega)), h.row.keptB h.grw.size hg (fun k hk => by injection hk with hk; exact .inr (by omega))⟩
/-- An open more, and the list is laid back. -/
theorem RSt.push {wd : World} (h : RSt w wr g A n cap s l c sh q o m cap' zs v os) (hgl : g < w.heap.size) (gd : wr.grownBy wd v.ownBlock) (ho : wd.ownsRow (w.heap.size + 3) 97 4 v' os'.length (flatO os')) : RSt w (wd.setCell ⟨w.heap.size + 1 + 1, 4, none⟩ v') g A n cap s l c sh q o m cap' zs v' os' := by
  have hl := h.low
  have gs : wd.grownBy (wd.setCell ⟨w.heap.size + 1 + 1, 4, none⟩ v') (some (w.heap.size + 1 + 1)) := grown_set (grown_refl wd _) 4 v'
  have hne : ∀ b : Nat, b < w.heap.size + 3 → v.ownBlock ≠ some b := fun b hb e => by have := hl b e; omega
  have hrow := h.row.keptB h.grw.size gd (fun k hk => by have := hl k hk; exact .inl (by omega))
  refine ⟨(h.cur.kept gd (fun k hk => by have := hl k hk; omega)).kept gs (fun k hk => by injection hk with hk; omega), grown_far (grown_far h.grw gd (fun k hk => by have := hl k hk; omega)) gs (fun k hk => by injection hk with hk; omega), (h.G.kept gd (hne _ (by omega))).kept gs (by intro e; injection e with e; omega), (h.X.kept gd (hne _ (by omega))).kept gs (by intro e; injection e with e; omega), (h.Y.kept gd (hne _ (by omega))).set 4 v', ho.kept gs (.inr (fun e => by have := (ho.lt _ e).1; omega)), hrow.keptB (Nat.le_trans h.grw.size gd.size) gs (fun k hk => by injection hk with hk; exact .inl (by omega))⟩
/-- A cell of a block behind the shelf's is written. -/
theorem RSt.far (h : RSt w wr g A n cap s l c sh q o m cap' zs v os) (hgl : g < w.heap.size) {S : Nat} (hS : w.heap.size + 1 + 1 < S) (hv : ∀ b, v.ownBlock = some b → b ≠ S) (k : Nat) (u : Value) : RSt w (wr.setCell ⟨S, k, none⟩ u) g A n cap s l c sh q o m cap' zs v os := by
  have hg : wr.grownBy (wr.setCell ⟨S, k, none⟩ u) (some S) := grown_set (grown_refl wr _) k u
  exact ⟨h.cur.kept hg (fun r hr => by injection hr with hr; omega), grown_new h.grw (p := ⟨S, k, none⟩) (show w.heap.size ≤ S by omega) u, h.G.kept hg (by intro e; injection e with e; omega), h.X.kept hg (by intro e; injection e with e; omega), h.Y.kept hg (by intro e; injection e with e; omega), h.own.kept hg (.inr (fun e => hv S e rfl)), h.row.keptB h.grw.size hg (fun k hk => by injection hk with hk; exact .inl (by omega))⟩
/-- Nothing written: the shelf is answered as it is. -/
theorem RSt.fin (h : RSt w wr g A n cap s l c sh q o m cap' zs v os) (hgl : g < w.heap.size) (hol : os.length ≤ 6) (x0 x1 x2 x3 x4 : Value) :
    DrawnReg g A n cap w (.returned (.agg #[.int .i64 0, .int .i64 0, .int .i64 0, .slice none 0 0, v])) (((((wr.setCell ⟨w.heap.size + 1, 0, none⟩ x0).setCell ⟨w.heap.size + 1, 1, none⟩ x1).setCell ⟨w.heap.size + 1, 2, none⟩ x2).setCell ⟨w.heap.size + 1, 3, none⟩ x3).setCell ⟨w.heap.size + 1, 4, none⟩ x4) := by
  have gs := grown5 wr (w.heap.size + 1) x0 x1 x2 x3 x4
  exact ⟨0, 0, 0, _, v, [], os, rfl, by simp, hol, ⟨rfl, .inl ⟨rfl, rfl⟩⟩, ownLow (h.own.kept gs (.inr (fun e => by have := h.low _ e; omega))) (by omega), .inl rfl, h.cur.kept gs (fun k hk => by injection hk with hk; omega), grown_far h.grw gs (fun k hk => by injection hk with hk; omega)⟩
end

end Go.Proofs.YtjdepjpjjgkmbaaGreat
