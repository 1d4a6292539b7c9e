/- The model's l7Copy and l7Write once more: the lists that they answer are one's own (written by reg_own.py). -/
import Derived.Test.YtghdnokjgmmgiaaGreatSpecReg4
namespace Go.Proofs.YtghdnokjgmmgiaaGreat
open Go.RowKit Go.Deep

/-- A row of one's own, in a block of [lo, hi). -/
def OwnR (t : TypeId) (size : Nat) (w : World) (lo hi : Nat) (u : Value) (n : Nat) (vs : List Value) : Prop :=
  ∃ g cap, lo ≤ g ∧ g < hi ∧ u = .slice (some ⟨g, 0, none⟩) n cap ∧ w.ownsRow lo t size u n vs
section
variable {t : TypeId} {size : Nat} {w w' : World} {lo hi : Nat} {u : Value} {n : Nat} {vs : List Value}
theorem OwnR.keepG (h : OwnR t size w lo hi u n vs) {r : Option Nat} (hg : w.grownBy w' r) (hr : ∀ b, r = some b → b < lo ∨ hi ≤ b) : OwnR t size w' lo hi u n vs := by
  obtain ⟨g, cap, h1, h2, rfl, h4⟩ := h
  exact ⟨g, cap, h1, h2, rfl, h4.kept hg (.inr (fun e => by have := hr g e.symm; omega))⟩
theorem OwnR.later (h : OwnR t size w lo hi u n vs) (hb : Below w.heap.size w w') : OwnR t size w' lo hi u n vs :=
  h.keepG (grown_bel hb none) (fun b e => by cases e)
theorem OwnR.kept {r : Nat} (h : OwnR t size w lo hi u n vs) (hg : w.grownBy w' (some r)) (hr : hi ≤ r) : OwnR t size w' lo hi u n vs :=
  h.keepG hg (fun b e => by injection e with e; omega)
theorem OwnR.far (h : OwnR t size w lo hi u n vs) {b : Nat} (hb : b < lo) (o : Nat) (x : Value) : OwnR t size (w.setCell ⟨b, o, none⟩ x) lo hi u n vs :=
  h.keepG (grown_set (grown_refl w _) o x) (fun k e => by injection e with e; omega)
theorem OwnR.farHi (h : OwnR t size w lo hi u n vs) {b : Nat} (hb : hi ≤ b) (o : Nat) (x : Value) : OwnR t size (w.setCell ⟨b, o, none⟩ x) lo hi u n vs :=
  h.keepG (grown_set (grown_refl w _) o x) (fun k e => by injection e with e; omega)
theorem OwnR.far5 (h : OwnR t size w lo hi u n vs) {b : Nat} (hb : b < lo) (x0 x1 x2 x3 x4 : Value) : OwnR t size (((((w.setCell ⟨b, 0, none⟩ x0).setCell ⟨b, 1, none⟩ x1).setCell ⟨b, 2, none⟩ x2).setCell ⟨b, 3, none⟩ x3).setCell ⟨b, 4, none⟩ x4) lo hi u n vs :=
  ((((h.far hb 0 x0).far hb 1 x1).far hb 2 x2).far hb 3 x3).far hb 4 x4
theorem OwnR.wide {lo' hi' : Nat} (h : OwnR t size w lo hi u n vs) (h1 : lo' ≤ lo) (h2 : hi ≤ hi') : OwnR t size w lo' hi' u n vs := by
  obtain ⟨g, cap, a1, a2, rfl, a4⟩ := h
  exact ⟨g, cap, by omega, by omega, rfl, ownLow a4 h1⟩
theorem OwnR.form (h : OwnR t size w lo hi u n vs) : ∃ g cap, u = .slice (some ⟨g, 0, none⟩) n cap := by
  obtain ⟨g, cap, a1, a2, rfl, a4⟩ := h
  exact ⟨g, cap, rfl⟩
theorem ownR_of {g cap : Nat} (h : w.ownsRow lo t size (.slice (some ⟨g, 0, none⟩) n cap) n vs) : OwnR t size w lo w.heap.size (.slice (some ⟨g, 0, none⟩) n cap) n vs :=
  ⟨g, cap, (h.lt g rfl).1, (h.lt g rfl).2, rfl, h⟩
end
abbrev OP (w : World) (lo hi : Nat) (u : Value) (D : List (Int × Int)) : Prop := OwnR 94 2 w lo hi u D.length (flatP D)
abbrev OO (w : World) (lo hi : Nat) (u : Value) (D : List Opn) : Prop := OwnR 82 4 w lo hi u D.length (flatO D)

/-- A shelf that is answered, with lists of one's own. -/
def RegO (w : World) (rt rq rv : Int) (ps : List (Int × Int)) (os : List Opn) (e : Ending) (w' : World) : Prop :=
  ∃ (B : Nat) (u v : Value), w.heap.size ≤ B ∧ B ≤ w'.heap.size ∧ e = .returned (.agg #[.int .i64 rt, .int .i64 rq, .int .i64 rv, u, v]) ∧ OP w' w.heap.size B u ps ∧ OO w' B w'.heap.size v os ∧ Below w.heap.size w w'

set_option maxRecDepth 100000 in
set_option maxHeartbeats 2000000 in
theorem l7Copy_own (rt rq rv : Int) (P : Option Addr) (p pc : Nat) (Q : Option Addr) (q qc : Nat) (ps : List (Int × Int)) (os : List Opn) (w : World) (hp : ps.length ≤ 4194304) (hq : os.length ≤ 4194304) (h1 : Slc w (.slice P p pc) ps) (h2 : SlcQ w (.slice Q q qc) os) :
    Calls Tryz.prog 78 #[.agg #[.int .i64 rt, .int .i64 rq, .int .i64 rv, .slice P p pc, .slice Q q qc]] w (RegO w rt rq rv ps os) := by
  obtain ⟨i0, hi0, hz0, hz1, hz2⟩ := info_parts Tryz.infoSealI
  obtain ⟨j0, hj0, hy0, hy1, hy2⟩ := info_parts Tryz.infoOpen
  have D := (Box.new w 32 #[.int .i64 rt, .int .i64 rq, .int .i64 rv, .slice P p pc, .slice Q q qc]).alloc (.cells #[.int .i64 0, .int .i64 0, .int .i64 0, .slice none 0 0, .slice none 0 0] 32)
  have X := Box.new (w.alloc (.cells #[.int .i64 rt, .int .i64 rq, .int .i64 rv, .slice P p pc, .slice Q q qc] 32)) 32 #[.int .i64 0, .int .i64 0, .int .i64 0, .slice none 0 0, .slice none 0 0]
  have hb0 := bel_trans (bel_alloc w (.cells #[.int .i64 rt, .int .i64 rq, .int .i64 rv, .slice P p pc, .slice Q q qc] 32)) (bel_alloc _ (.cells #[.int .i64 0, .int .i64 0, .int .i64 0, .slice none 0 0, .slice none 0 0] 32))
  simp only [World.size_alloc] at X
  have hszW : w.heap.size + 1 + 1 = ((w.alloc (.cells #[.int .i64 rt, .int .i64 rq, .int .i64 rv, .slice P p pc, .slice Q q qc] 32)).alloc (.cells #[.int .i64 0, .int .i64 0, .int .i64 0, .slice none 0 0, .slice none 0 0] 32)).heap.size := by simp
  generalize hW : ((w.alloc (.cells #[.int .i64 rt, .int .i64 rq, .int .i64 rv, .slice P p pc, .slice Q q qc] 32)).alloc (.cells #[.int .i64 0, .int .i64 0, .int .i64 0, .slice none 0 0, .slice none 0 0] 32) : World) = w0 at hb0 D X hszW
  have hb1 := bel_alloc w0 (.cells #[] 94)
  have hown := own_new w0 94 2
  have S1 := Lib.hid ((h1.later hb0).later hb1).src
  have H2 := Lib.hid (h2.later hb0)
  have D1 := D.later hb1 D.lt
  have X1 := X.later hb1 X.lt
  have E1 := bel_trans hb0 hb1
  have hbs : w0.heap.size ≤ (w0.alloc (.cells #[] 94)).heap.size := hb1.size
  replace hszW := Lib.hid hszW
  go_enter Tryz.func78, Tryz.ntmps78
  go_upto_region 1 with fail
  clear hW
  obtain ⟨d0, d1, d2, d3, d4⟩ := D.five
  have hD := D.lt
  have hX := X.lt
  go_upto_region 2 with (at_builtin; refine wpList_append_src rfl _ _ _ rfl w0.heap.size 94 i0 _ 2 16 Tryz.underlying29 hi0 hz0 hz1 hz2 rfl (by omega) (.slice (some ⟨w0.heap.size, 0, none⟩) 0 0) 0 [] rfl hown (by simp) (.slice P p pc) ps.length (flatP ps) rfl S1.out (by unfold maxLen; omega) (by omega) hbs ?_; intro g1 cap1 w1 hown1 hgrow1 hbg1 hlg1; have hR1 := hown1; rw [Nat.zero_add, List.nil_append] at hR1; have R1 := ownR_of hR1; have hgr : (w0.alloc (.cells #[] 94)).grownBy w1 (some w0.heap.size) := hgrow1; have D2 := D1.kept hgr (by intro e; injection e with e; omega); have X2 := X1.kept hgr (by intro e; injection e with e; omega); have E2 := bel_grown E1 hgr (by have := hb0.size; omega); obtain ⟨e0, e1, e2, e3, e4⟩ := D2.five; have fd := D2.frozen; clear hown1 hgrow1 hR1)
  have hlo : w.heap.size < w0.heap.size := hD
  have R3 := R1.far (b := w.heap.size) hlo 3 (.slice (some ⟨g1, 0, none⟩) ps.length cap1)
  have D3 : Box (w1.setCell ⟨w.heap.size, 3, none⟩ (.slice (some ⟨g1, 0, none⟩) ps.length cap1)) w.heap.size 32 #[.int .i64 rt, .int .i64 rq, .int .i64 rv, .slice (some ⟨g1, 0, none⟩) ps.length cap1, .slice Q q qc] := D2.set 3 _
  have X3 := X2.far (p := ⟨w.heap.size, 3, none⟩) (by show w.heap.size ≠ _; omega) (.slice (some ⟨g1, 0, none⟩) ps.length cap1)
  have E3 := E2.setCell (p := ⟨w.heap.size, 3, none⟩) (Nat.le_refl _) (.slice (some ⟨g1, 0, none⟩) ps.length cap1)
  have hs3 : (w1.setCell ⟨w.heap.size, 3, none⟩ (.slice (some ⟨g1, 0, none⟩) ps.length cap1)).heap.size = w1.heap.size := size_set _ _ _
  rw [← hs3] at R3
  clear R1 D2 X2 E2 hgr e0 e1 e2 e3 e4 fd d0 d1 d2 d3 d4 D X D1 X1 E1 S1 hown hb1 hbs hs3 hlg1
  try simp only [Nat.zero_add]
  generalize (w1.setCell _ _ : World) = w2 at R3 D3 X3 E3 ⊢
  have hb4 := bel_alloc w2 (.cells #[] 82)
  have hown := own_new w2 82 4
  have S2 := Lib.hid ((h2.later E3).later hb4).src
  have D4 := D3.later hb4 D3.lt
  have X4 := X3.later hb4 X3.lt
  have E4 := bel_trans E3 hb4
  have R4 := R3.later hb4
  have hbs : w2.heap.size ≤ (w2.alloc (.cells #[] 82)).heap.size := hb4.size
  obtain ⟨d0, d1, d2, d3, d4⟩ := D3.five
  have hD3 := D3.lt
  have hX3 := X3.lt
  go_upto_region 3 with (at_builtin; refine wpList_append_src rfl _ _ _ rfl w2.heap.size 82 j0 _ 4 32 Tryz.underlying30 hj0 hy0 hy1 hy2 rfl (by omega) (.slice (some ⟨w2.heap.size, 0, none⟩) 0 0) 0 [] rfl hown (by simp) (.slice Q q qc) os.length (flatO os) rfl S2.out (by unfold maxLen; omega) (by omega) hbs ?_; intro g2 cap2 w5 hown5 hgrow5 hbg5 hlg5; have hR5 := hown5; rw [Nat.zero_add, List.nil_append] at hR5; have O5 := ownR_of hR5; have hgr : (w2.alloc (.cells #[] 82)).grownBy w5 (some w2.heap.size) := hgrow5; have D5 := D4.kept hgr (by intro e; injection e with e; omega); have X5 := X4.kept hgr (by intro e; injection e with e; omega); have E5 := bel_grown E4 hgr (by have := E3.size; omega); have R5 := R4.kept hgr (Nat.le_refl _); obtain ⟨e0, e1, e2, e3, e4⟩ := D5.five; have fd := D5.frozen; clear hown5 hgrow5 hR5)
  have R6 := R5.far (b := w.heap.size) hlo 4 (.slice (some ⟨g2, 0, none⟩) os.length cap2)
  have O6 := O5.far (b := w.heap.size) hD3 4 (.slice (some ⟨g2, 0, none⟩) os.length cap2)
  have D6 : Box (w5.setCell ⟨w.heap.size, 4, none⟩ (.slice (some ⟨g2, 0, none⟩) os.length cap2)) w.heap.size 32 #[.int .i64 rt, .int .i64 rq, .int .i64 rv, .slice (some ⟨g1, 0, none⟩) ps.length cap1, .slice (some ⟨g2, 0, none⟩) os.length cap2] := D5.set 4 _
  have X6 := X5.far (p := ⟨w.heap.size, 4, none⟩) (by show w.heap.size ≠ _; omega) (.slice (some ⟨g2, 0, none⟩) os.length cap2)
  have E6 := E5.setCell (p := ⟨w.heap.size, 4, none⟩) (Nat.le_refl _) (.slice (some ⟨g2, 0, none⟩) os.length cap2)
  have hsz6 : w5.heap.size = (w5.setCell ⟨w.heap.size, 4, none⟩ (.slice (some ⟨g2, 0, none⟩) os.length cap2)).heap.size := (size_set _ _ _).symm
  rw [hsz6] at O6
  have hs6 : w2.heap.size ≤ (w5.setCell ⟨w.heap.size, 4, none⟩ (.slice (some ⟨g2, 0, none⟩) os.length cap2)).heap.size := by rw [size_set]; exact Nat.le_trans hb4.size hgr.size
  clear hsz6 R5 O5 D5 X5 E5 hgr e0 e1 e2 e3 e4 fd d0 d1 d2 d3 d4 D3 X3 E4 R4 D4 X4 S2 hown hb4 hbs hlg5 R3
  try simp only [Nat.zero_add]
  generalize (w5.setCell _ _ : World) = w6 at R6 O6 D6 X6 E6 hs6 ⊢
  have hw2 : w0.heap.size ≤ w2.heap.size := Nat.le_trans (Nat.le_of_eq hszW.out.symm) (by omega)
  have hwB : w.heap.size ≤ w2.heap.size := E3.size
  have HP : Hid (∀ x0 x1 x2 x3 x4 : Value, RegO w rt rq rv ps os (.returned (.agg #[.int .i64 rt, .int .i64 rq, .int .i64 rv, .slice (some ⟨g1, 0, none⟩) ps.length cap1, .slice (some ⟨g2, 0, none⟩) os.length cap2])) (((((w6.setCell ⟨w.heap.size + 1, 0, none⟩ x0).setCell ⟨w.heap.size + 1, 1, none⟩ x1).setCell ⟨w.heap.size + 1, 2, none⟩ x2).setCell ⟨w.heap.size + 1, 3, none⟩ x3).setCell ⟨w.heap.size + 1, 4, none⟩ x4)) := Lib.hid fun x0 x1 x2 x3 x4 =>
    ⟨w2.heap.size, _, _, hwB, by simp only [size_set]; exact hs6, rfl, (R6.far5 hX x0 x1 x2 x3 x4).wide hb0.size (Nat.le_refl _), (O6.far5 (by omega) x0 x1 x2 x3 x4).wide (Nat.le_refl _) (by simp only [size_set]; exact Nat.le_refl _), bel_five E6 (by omega) x0 x1 x2 x3 x4⟩
  obtain ⟨d0, d1, d2, d3, d4⟩ := D6.five
  obtain ⟨x0, x1, x2, x3, x4⟩ := X6.five
  have fx := X6.frozen
  clear R6 O6 E6 D6 X6
  go_wp2
  exact bodyPost_ret (v := .agg #[.int .i64 rt, .int .i64 rq, .int .i64 rv, .slice (some ⟨g1, 0, none⟩) ps.length cap1, .slice (some ⟨g2, 0, none⟩) os.length cap2]) (by simp [results, Tryz.results78, go_sem, x0, x1, x2, x3, x4]) rfl (HP.out _ _ _ _ _)


end Go.Proofs.YtghdnokjgmmgiaaGreat
