/- The model's functions of shelves, first part: a shelf copied, an open put to its place: contracts of each of them. -/
import Derived.Test.YtghdnokjgmmgiaaGreatReg3
import Derived.Test.YtghdnokjgmmgiaaGreatAppendSrc
namespace Go.Proofs.YtghdnokjgmmgiaaGreat
open Go.RowKit Go.Deep

theorem Slc.src {w : World} {u : Value} {ps : List (Int × Int)} (h : Slc w u ps) : Src w u ps.length 2 (flatP ps) := by
  rcases h with ⟨rfl, rfl⟩ | ⟨b, o, n, cap, rfl, hp⟩
  · exact .inl ⟨rfl, rfl, rfl⟩
  · exact .inr ⟨_, cap, by rw [hp.1], flatP_len ps, pairs_news hp, flatP_one ps⟩
theorem SlcQ.src {w : World} {u : Value} {os : List Opn} (h : SlcQ w u os) : Src w u os.length 4 (flatO os) := by
  rcases h with ⟨rfl, rfl⟩ | ⟨b, o, n, cap, rfl, _, _, hp⟩
  · exact .inl ⟨rfl, rfl, rfl⟩
  · exact .inr ⟨_, cap, by rw [hp.1], flatO_len os, quads_news hp, flatO_one os⟩
theorem own_resP {w : World} {base : Nat} {t : TypeId} {g cap : Nat} {ps : List (Int × Int)} (h : w.ownsRow base t 2 (.slice (some ⟨g, 0, none⟩) ps.length cap) ps.length (flatP ps)) : ResP w base w.heap.size (.slice (some ⟨g, 0, none⟩) ps.length cap) ps := by
  have h0 := own_held h
  rcases h.2 with ⟨h', _⟩ | ⟨g', cap', cur, h', hb, hg, hnc, hcm, _⟩
  · cases h'
  · injection h' with e1 _ e3
    injection e1 with e1
    injection e1 with e1 _ _
    subst e1 e3
    exact .inr ⟨g, cap, hb, h0.lt, rfl, hnc, hcm, h0⟩
theorem own_resO {w : World} {base : Nat} {t : TypeId} {g cap : Nat} {os : List Opn} (h : w.ownsRow base t 4 (.slice (some ⟨g, 0, none⟩) os.length cap) os.length (flatO os)) : ResO w base (.slice (some ⟨g, 0, none⟩) os.length cap) os := by
  have h0 := own_heldQ h
  rcases h.2 with ⟨h', _⟩ | ⟨g', cap', cur, h', hb, hg, hnc, hcm, _⟩
  · cases h'
  · injection h' with e1 _ e3
    injection e1 with e1
    injection e1 with e1 _ _
    subst e1 e3
    exact .inr ⟨g, cap, hb, rfl, hnc, hcm, h0⟩
theorem heldKept {w w' : World} {g : Nat} {d : List (Int × Int)} {r : Option Nat} (h : Held w g d) (hg : w.grownBy w' r) (hne : r ≠ some g) : Held w' g d :=
  ⟨Nat.lt_of_lt_of_le h.lt hg.size, fun o => (hg.frozen_far ⟨g, o, none⟩ h.lt (fun e => hne e.symm)).trans (h.fr o), fun i hi => (hg.cell_far ⟨g, i * 2, none⟩ h.lt (fun e => hne e.symm)).trans (h.at0 i hi), fun i hi => (hg.cell_far ⟨g, i * 2 + 1, none⟩ h.lt (fun e => hne e.symm)).trans (h.at1 i hi)⟩
theorem ResP.kept {w w' : World} {lo hi : Nat} {u : Value} {D : List (Int × Int)} {r : Nat} (h : ResP w lo hi u D) (hg : w.grownBy w' (some r)) (hr : hi ≤ r) : ResP w' lo hi u D := by
  rcases h with h | ⟨g, cap, h1, h2, h3, h4, h5, h6⟩
  · exact .inl h
  · exact .inr ⟨g, cap, h1, h2, h3, h4, h5, heldKept h6 hg (by intro e; injection e with e; omega)⟩

set_option maxRecDepth 100000 in
set_option maxHeartbeats 2000000 in
theorem l7Copy_is (rt rq rv : Int) (P : Option Addr) (p pc : Nat) (Q : Option Addr) (q qc : Nat) (ps : List (Int × Int)) (os : List Opn) (w : World) (hp : ps.length ≤ 4194304) (hq : os.length ≤ 4194304) (h1 : Slc w (.slice P p pc) ps) (h2 : SlcQ w (.slice Q q qc) os) :
    Calls Tryz.prog 78 #[.agg #[.int .i64 rt, .int .i64 rq, .int .i64 rv, .slice P p pc, .slice Q q qc]] w (RegR w rt rq rv ps os) := by
  obtain ⟨i0, hi0, hz0, hz1, hz2⟩ := info_parts Tryz.infoSealI
  obtain ⟨j0, hj0, hy0, hy1, hy2⟩ := info_parts Tryz.infoOpen
  have D := (Box.new w 32 #[.int .i64 rt, .int .i64 rq, .int .i64 rv, .slice P p pc, .slice Q q qc]).alloc (.cells #[.int .i64 0, .int .i64 0, .int .i64 0, .slice none 0 0, .slice none 0 0] 32)
  have X := Box.new (w.alloc (.cells #[.int .i64 rt, .int .i64 rq, .int .i64 rv, .slice P p pc, .slice Q q qc] 32)) 32 #[.int .i64 0, .int .i64 0, .int .i64 0, .slice none 0 0, .slice none 0 0]
  have hb0 := bel_trans (bel_alloc w (.cells #[.int .i64 rt, .int .i64 rq, .int .i64 rv, .slice P p pc, .slice Q q qc] 32)) (bel_alloc _ (.cells #[.int .i64 0, .int .i64 0, .int .i64 0, .slice none 0 0, .slice none 0 0] 32))
  simp only [World.size_alloc] at X
  have hszW : w.heap.size + 1 + 1 = ((w.alloc (.cells #[.int .i64 rt, .int .i64 rq, .int .i64 rv, .slice P p pc, .slice Q q qc] 32)).alloc (.cells #[.int .i64 0, .int .i64 0, .int .i64 0, .slice none 0 0, .slice none 0 0] 32)).heap.size := by simp
  generalize hW : ((w.alloc (.cells #[.int .i64 rt, .int .i64 rq, .int .i64 rv, .slice P p pc, .slice Q q qc] 32)).alloc (.cells #[.int .i64 0, .int .i64 0, .int .i64 0, .slice none 0 0, .slice none 0 0] 32) : World) = w0 at hb0 D X hszW
  have hb1 := bel_alloc w0 (.cells #[] 94)
  have hown := own_new w0 94 2
  have S1 := Lib.hid ((h1.later hb0).later hb1).src
  have H2 := Lib.hid (h2.later hb0)
  have D1 := D.later hb1 D.lt
  have X1 := X.later hb1 X.lt
  have E1 := bel_trans hb0 hb1
  have hbs : w0.heap.size ≤ (w0.alloc (.cells #[] 94)).heap.size := hb1.size
  replace hszW := Lib.hid hszW
  go_enter Tryz.func78, Tryz.ntmps78
  go_upto_region 1 with fail
  clear hW
  obtain ⟨d0, d1, d2, d3, d4⟩ := D.five
  have hD := D.lt
  have hX := X.lt
  go_upto_region 2 with (at_builtin; refine wpList_append_src rfl _ _ _ rfl w0.heap.size 94 i0 _ 2 16 Tryz.underlying29 hi0 hz0 hz1 hz2 rfl (by omega) (.slice (some ⟨w0.heap.size, 0, none⟩) 0 0) 0 [] rfl hown (by simp) (.slice P p pc) ps.length (flatP ps) rfl S1.out (by unfold maxLen; omega) (by omega) hbs ?_; intro g1 cap1 w1 hown1 hgrow1 hbg1 hlg1; have hR1 := hown1; rw [Nat.zero_add, List.nil_append] at hR1; have R1 := own_resP hR1; have hgr : (w0.alloc (.cells #[] 94)).grownBy w1 (some w0.heap.size) := hgrow1; have D2 := D1.kept hgr (by intro e; injection e with e; omega); have X2 := X1.kept hgr (by intro e; injection e with e; omega); have E2 := bel_grown E1 hgr (by have := hb0.size; omega); obtain ⟨e0, e1, e2, e3, e4⟩ := D2.five; have fd := D2.frozen; clear hown1 hgrow1 hR1)
  have hlo : w.heap.size < w0.heap.size := hD
  have R3 := R1.far (b := w.heap.size) hlo 3 (.slice (some ⟨g1, 0, none⟩) ps.length cap1)
  have D3 : Box (w1.setCell ⟨w.heap.size, 3, none⟩ (.slice (some ⟨g1, 0, none⟩) ps.length cap1)) w.heap.size 32 #[.int .i64 rt, .int .i64 rq, .int .i64 rv, .slice (some ⟨g1, 0, none⟩) ps.length cap1, .slice Q q qc] := D2.set 3 _
  have X3 := X2.far (p := ⟨w.heap.size, 3, none⟩) (by show w.heap.size ≠ _; omega) (.slice (some ⟨g1, 0, none⟩) ps.length cap1)
  have E3 := E2.setCell (p := ⟨w.heap.size, 3, none⟩) (Nat.le_refl _) (.slice (some ⟨g1, 0, none⟩) ps.length cap1)
  have hs3 : (w1.setCell ⟨w.heap.size, 3, none⟩ (.slice (some ⟨g1, 0, none⟩) ps.length cap1)).heap.size = w1.heap.size := size_set _ _ _
  rw [← hs3] at R3
  clear R1 D2 X2 E2 hgr e0 e1 e2 e3 e4 fd d0 d1 d2 d3 d4 D X D1 X1 E1 S1 hown hb1 hbs hs3 hlg1
  try simp only [Nat.zero_add]
  generalize (w1.setCell _ _ : World) = w2 at R3 D3 X3 E3 ⊢
  have hb4 := bel_alloc w2 (.cells #[] 82)
  have hown := own_new w2 82 4
  have S2 := Lib.hid ((h2.later E3).later hb4).src
  have D4 := D3.later hb4 D3.lt
  have X4 := X3.later hb4 X3.lt
  have E4 := bel_trans E3 hb4
  have R4 := R3.later hb4
  have hbs : w2.heap.size ≤ (w2.alloc (.cells #[] 82)).heap.size := hb4.size
  obtain ⟨d0, d1, d2, d3, d4⟩ := D3.five
  have hD3 := D3.lt
  have hX3 := X3.lt
  go_upto_region 3 with (at_builtin; refine wpList_append_src rfl _ _ _ rfl w2.heap.size 82 j0 _ 4 32 Tryz.underlying30 hj0 hy0 hy1 hy2 rfl (by omega) (.slice (some ⟨w2.heap.size, 0, none⟩) 0 0) 0 [] rfl hown (by simp) (.slice Q q qc) os.length (flatO os) rfl S2.out (by unfold maxLen; omega) (by omega) hbs ?_; intro g2 cap2 w5 hown5 hgrow5 hbg5 hlg5; have hR5 := hown5; rw [Nat.zero_add, List.nil_append] at hR5; have O5 := own_resO hR5; have hgr : (w2.alloc (.cells #[] 82)).grownBy w5 (some w2.heap.size) := hgrow5; have D5 := D4.kept hgr (by intro e; injection e with e; omega); have X5 := X4.kept hgr (by intro e; injection e with e; omega); have E5 := bel_grown E4 hgr (by have := E3.size; omega); have R5 := R4.kept hgr (Nat.le_refl _); obtain ⟨e0, e1, e2, e3, e4⟩ := D5.five; have fd := D5.frozen; clear hown5 hgrow5 hR5)
  have R6 := R5.far (b := w.heap.size) hlo 4 (.slice (some ⟨g2, 0, none⟩) os.length cap2)
  have O6 := O5.far (b := w.heap.size) hD3 4 (.slice (some ⟨g2, 0, none⟩) os.length cap2)
  have D6 : Box (w5.setCell ⟨w.heap.size, 4, none⟩ (.slice (some ⟨g2, 0, none⟩) os.length cap2)) w.heap.size 32 #[.int .i64 rt, .int .i64 rq, .int .i64 rv, .slice (some ⟨g1, 0, none⟩) ps.length cap1, .slice (some ⟨g2, 0, none⟩) os.length cap2] := D5.set 4 _
  have X6 := X5.far (p := ⟨w.heap.size, 4, none⟩) (by show w.heap.size ≠ _; omega) (.slice (some ⟨g2, 0, none⟩) os.length cap2)
  have E6 := E5.setCell (p := ⟨w.heap.size, 4, none⟩) (Nat.le_refl _) (.slice (some ⟨g2, 0, none⟩) os.length cap2)
  have hs6 : w2.heap.size ≤ (w5.setCell ⟨w.heap.size, 4, none⟩ (.slice (some ⟨g2, 0, none⟩) os.length cap2)).heap.size := by rw [size_set]; exact Nat.le_trans hb4.size hgr.size
  clear R5 O5 D5 X5 E5 hgr e0 e1 e2 e3 e4 fd d0 d1 d2 d3 d4 D3 X3 E4 R4 D4 X4 S2 hown hb4 hbs hlg5 R3
  try simp only [Nat.zero_add]
  generalize (w5.setCell _ _ : World) = w6 at R6 O6 D6 X6 E6 hs6 ⊢
  have hw2 : w0.heap.size ≤ w2.heap.size := Nat.le_trans (Nat.le_of_eq hszW.out.symm) (by omega)
  have hwB : w.heap.size ≤ w2.heap.size := E3.size
  have HP : Hid (∀ x0 x1 x2 x3 x4 : Value, RegR w rt rq rv ps os (.returned (.agg #[.int .i64 rt, .int .i64 rq, .int .i64 rv, .slice (some ⟨g1, 0, none⟩) ps.length cap1, .slice (some ⟨g2, 0, none⟩) os.length cap2])) (((((w6.setCell ⟨w.heap.size + 1, 0, none⟩ x0).setCell ⟨w.heap.size + 1, 1, none⟩ x1).setCell ⟨w.heap.size + 1, 2, none⟩ x2).setCell ⟨w.heap.size + 1, 3, none⟩ x3).setCell ⟨w.heap.size + 1, 4, none⟩ x4)) := Lib.hid fun x0 x1 x2 x3 x4 =>
    ⟨w2.heap.size, _, _, hwB, by simp only [size_set]; exact hs6, rfl, (R6.far5 hX x0 x1 x2 x3 x4).wide hb0.size (Nat.le_refl _), O6.far5 (by omega) x0 x1 x2 x3 x4, bel_five E6 (by omega) x0 x1 x2 x3 x4⟩
  obtain ⟨d0, d1, d2, d3, d4⟩ := D6.five
  obtain ⟨x0, x1, x2, x3, x4⟩ := X6.five
  have fx := X6.frozen
  clear R6 O6 E6 D6 X6
  go_wp2
  exact bodyPost_ret (v := .agg #[.int .i64 rt, .int .i64 rq, .int .i64 rv, .slice (some ⟨g1, 0, none⟩) ps.length cap1, .slice (some ⟨g2, 0, none⟩) os.length cap2]) (by simp [results, Tryz.results78, go_sem, x0, x1, x2, x3, x4]) rfl (HP.out _ _ _ _ _)


theorem putO_set {os : List Opn} {i : Nat} (h : i < os.length) (o : Opn) : putO os i (i + 1) o = os.set i o := by
  unfold putO
  rw [List.set_eq_take_append_cons_drop, if_pos h]
  simp
theorem fourAfter {w : World} {g : Nat} {t : TypeId} {v0 v1 v2 v3 : Value} (h : Box w g t #[v0, v1, v2, v3]) :
    (∀ p : After w, p.x.cell? ⟨g, 0, none⟩ = some v0) ∧ (∀ p : After w, p.x.cell? ⟨g, 1, none⟩ = some v1) ∧ (∀ p : After w, p.x.cell? ⟨g, 2, none⟩ = some v2) ∧ (∀ p : After w, p.x.cell? ⟨g, 3, none⟩ = some v3) :=
  ⟨After.cell h.lt (h.cell 0), After.cell h.lt (h.cell 1), After.cell h.lt (h.cell 2), After.cell h.lt (h.cell 3)⟩

theorem ResP.farHi {w : World} {lo hi : Nat} {u : Value} {D : List (Int × Int)} (h : ResP w lo hi u D) {b : Nat} (hb : hi ≤ b) (o : Nat) (x : Value) : ResP (w.setCell ⟨b, o, none⟩ x) lo hi u D := by
  rcases h with h | ⟨g, cap, h1, h2, h3, h4, h5, h6⟩
  · exact .inl h
  · exact .inr ⟨g, cap, h1, h2, h3, h4, h5, HeldK.far h6 (by omega) o x⟩
theorem ResO.farS {w : World} {lo : Nat} {v : Value} {D : List Opn} (h : ResO w lo v D) {b : Nat} (hb : ∀ g cap, v = .slice (some ⟨g, 0, none⟩) D.length cap → b ≠ g) (o : Nat) (x : Value) : ResO (w.setCell ⟨b, o, none⟩ x) lo v D := by
  rcases h with h | ⟨g, cap, h1, h3, h4, h5, h6⟩
  · exact .inl h
  · exact .inr ⟨g, cap, h1, h3, h4, h5, h6.far (hb g cap h3) o x⟩
/-- One open of the copy is written, and the answer. -/
theorem swith_set {w wr : World} {rt rq rv : Int} {B g k cap : Nat} {u : Value} {ps : List (Int × Int)} {os : List Opn} {o : Opn} (hk : k < os.length) (hlo : w.heap.size + 1 + 1 < B) (hBg : B ≤ g) (hb : Below w.heap.size w wr) (hR : ResP wr (w.heap.size + 1 + 1 + 1) B u ps) (hh : HeldQ wr g os) (hc : os.length ≤ cap) (hm : cap ≤ maxLen) (hw : withO os o = putO os k (k + 1) o) (x0 x1 x2 x3 x4 : Value) :
    RegR w rt rq rv ps (withO os o) (.returned (.agg #[.int .i64 rt, .int .i64 rq, .int .i64 rv, u, .slice (some ⟨g, 0, none⟩) os.length cap])) (((((((((wr.setCell ⟨g, k * 4, none⟩ (.int .i64 o.1)).setCell ⟨g, k * 4 + 1, none⟩ (.int .i64 o.2.1)).setCell ⟨g, k * 4 + 2, none⟩ (.int .i64 o.2.2.1)).setCell ⟨g, k * 4 + 3, none⟩ (.int .i64 o.2.2.2)).setCell ⟨w.heap.size + 1 + 1, 0, none⟩ x0).setCell ⟨w.heap.size + 1 + 1, 1, none⟩ x1).setCell ⟨w.heap.size + 1 + 1, 2, none⟩ x2).setCell ⟨w.heap.size + 1 + 1, 3, none⟩ x3).setCell ⟨w.heap.size + 1 + 1, 4, none⟩ x4) := by
  have hV := hh.put k o
  have hR' := (((hR.farHi hBg (k * 4) (.int .i64 o.1)).farHi hBg (k * 4 + 1) (.int .i64 o.2.1)).farHi hBg (k * 4 + 2) (.int .i64 o.2.2.1)).farHi hBg (k * 4 + 3) (.int .i64 o.2.2.2)
  have hgw : w.heap.size ≤ g := by omega
  have hb' := (((hb.setCell (p := ⟨g, k * 4, none⟩) hgw (.int .i64 o.1)).setCell (p := ⟨g, k * 4 + 1, none⟩) hgw (.int .i64 o.2.1)).setCell (p := ⟨g, k * 4 + 2, none⟩) hgw (.int .i64 o.2.2.1)).setCell (p := ⟨g, k * 4 + 3, none⟩) hgw (.int .i64 o.2.2.2)
  have hgl := hh.lt
  rw [hw, putO_set hk]
  have hl : (os.set k o).length = os.length := List.length_set
  refine ⟨B, _, _, by omega, by simp only [size_set]; omega, rfl, (hR'.far5 (by omega) x0 x1 x2 x3 x4).wide (by omega) (Nat.le_refl _), ?_, bel_five hb' (by omega) x0 x1 x2 x3 x4⟩
  have hV' : ResO _ B (.slice (some ⟨g, 0, none⟩) os.length cap) (os.set k o) := .inr ⟨g, cap, hBg, by rw [hl], by rw [hl]; exact hc, hm, hV⟩
  exact hV'.far5 (by omega) x0 x1 x2 x3 x4

/-- What the model's WithOpen keeps: what came in, the copy, the variable of the answer. -/
structure SWith (w wr : World) (S B : Nat) (rt rq rv : Int) (P : Option Addr) (p pc : Nat) (Q : Option Addr) (q qc : Nat) (a b c d : Int) (u v : Value) (ps : List (Int × Int)) (os : List Opn) : Prop where
  bel : Below w.heap.size w wr
  D : Box wr w.heap.size 32 #[.int .i64 rt, .int .i64 rq, .int .i64 rv, .slice P p pc, .slice Q q qc]
  O : Box wr (w.heap.size + 1) 82 #[.int .i64 a, .int .i64 b, .int .i64 c, .int .i64 d]
  X : Box wr (w.heap.size + 1 + 1) 32 #[.int .i64 0, .int .i64 0, .int .i64 0, .slice none 0 0, .slice none 0 0]
  Y : Box wr S 32 #[.int .i64 rt, .int .i64 rq, .int .i64 rv, u, v]
  hlo : w.heap.size + 1 + 1 < B
  hBS : B ≤ S
  R : ResP wr (w.heap.size + 1 + 1 + 1) B u ps
  V : ResO wr B v os
  VS : ∀ g cap, v = .slice (some ⟨g, 0, none⟩) os.length cap → g < S
theorem SWith.later {w wr w' : World} {S B : Nat} {rt rq rv : Int} {P : Option Addr} {p pc : Nat} {Q : Option Addr} {q qc : Nat} {a b c d : Int} {u v : Value} {ps : List (Int × Int)} {os : List Opn} (h : SWith w wr S B rt rq rv P p pc Q q qc a b c d u v ps os) (hb : Below wr.heap.size wr w') : SWith w w' S B rt rq rv P p pc Q q qc a b c d u v ps os :=
  ⟨bel_trans h.bel hb, h.D.later hb h.D.lt, h.O.later hb h.O.lt, h.X.later hb h.X.lt, h.Y.later hb h.Y.lt, h.hlo, h.hBS, h.R.later hb, h.V.later hb, h.VS⟩

theorem ownLow {w : World} {base base' : Nat} {e : TypeId} {size : Nat} {v : Value} {n : Nat} {xs : List Value} (h : w.ownsRow base e size v n xs) (hb : base' ≤ base) : w.ownsRow base' e size v n xs := by
  refine ⟨h.1, ?_⟩
  rcases h.2 with h' | ⟨g, cap, cur, h1, h2, h3⟩
  · exact .inl h'
  · exact .inr ⟨g, cap, cur, h1, by omega, h3⟩
theorem dfive {w : World} {g g' : Nat} {t t' : TypeId} {v0 v1 v2 v3 v4 u0 u1 u2 u3 : Value} (h : Box w g t #[v0, v1, v2, v3, v4]) (h' : Box w g' t' #[u0, u1, u2, u3]) :
    w.cell? ⟨g, 4, none⟩ = some v4 ∧ w.cell? ⟨g', 0, none⟩ = some u0 ∧ w.cell? ⟨g', 1, none⟩ = some u1 ∧ w.cell? ⟨g', 2, none⟩ = some u2 ∧ w.cell? ⟨g', 3, none⟩ = some u3 :=
  ⟨h.cell 4, h'.cell 0, h'.cell 1, h'.cell 2, h'.cell 3⟩
/-- What the model's WithOpen keeps, behind its list put together. -/
def SEnd (w wr : World) (S B : Nat) (rt rq rv : Int) (u : Value) (ps : List (Int × Int)) (os : List Opn) : Prop :=
  ∃ (g n cap : Nat), Box wr (w.heap.size + 1 + 1) 32 #[.int .i64 0, .int .i64 0, .int .i64 0, .slice none 0 0, .slice none 0 0] ∧ Box wr S 32 #[.int .i64 rt, .int .i64 rq, .int .i64 rv, u, .slice (some ⟨g, 0, none⟩) n cap] ∧ ResP wr (w.heap.size + 1 + 1 + 1) B u ps ∧ ResO wr B (.slice (some ⟨g, 0, none⟩) n cap) os ∧ Below w.heap.size w wr ∧ B ≤ wr.heap.size
theorem send_mk {w wr : World} {S B : Nat} {rt rq rv : Int} {P : Option Addr} {p pc : Nat} {Q : Option Addr} {q qc : Nat} {a b c d : Int} {u v : Value} {ps : List (Int × Int)} {os J : List Opn} {g n cap : Nat} (h : SWith w wr S B rt rq rv P p pc Q q qc a b c d u v ps os) {w' : World} {t : TypeId} (hb : Below wr.heap.size wr w') (ho : w'.ownsRow wr.heap.size t 4 (.slice (some ⟨g, 0, none⟩) n cap) n (flatO J)) (hn : J.length = n) :
    SEnd w (w'.setCell ⟨S, 4, none⟩ (.slice (some ⟨g, 0, none⟩) n cap)) S B rt rq rv u ps J := by
  subst hn
  have h' := h.later hb
  have hlo := h.hlo
  have hBS := h.hBS
  have hYl := h.Y.lt
  refine ⟨g, _, cap, h'.X.far (p := ⟨S, 4, none⟩) (by show S ≠ _; omega) _, h'.Y.set 4 _, h'.R.farHi hBS 4 _, ((own_resO ho).wide (by omega)).farS (b := S) ?_ 4 _, h'.bel.setCell (p := ⟨S, 4, none⟩) (by show _ ≤ S; omega) _, by rw [size_set]; have := hb.size; omega⟩
  intro g' cap' hv
  injection hv with e1 _ _
  injection e1 with e1
  injection e1 with e1 _ _
  have := (ho.lt g rfl).1
  omega

theorem send_put {w wr : World} {B : Nat} {rt rq rv : Int} {u v : Value} {ps : List (Int × Int)} {J : List Opn} (hlo : w.heap.size + 1 + 1 < B) (hR : ResP wr (w.heap.size + 1 + 1 + 1) B u ps) (hO : ResO wr B v J) (hb : Below w.heap.size w wr) (hB : B ≤ wr.heap.size) (x0 x1 x2 x3 x4 : Value) :
    RegR w rt rq rv ps J (.returned (.agg #[.int .i64 rt, .int .i64 rq, .int .i64 rv, u, v])) (((((wr.setCell ⟨w.heap.size + 1 + 1, 0, none⟩ x0).setCell ⟨w.heap.size + 1 + 1, 1, none⟩ x1).setCell ⟨w.heap.size + 1 + 1, 2, none⟩ x2).setCell ⟨w.heap.size + 1 + 1, 3, none⟩ x3).setCell ⟨w.heap.size + 1 + 1, 4, none⟩ x4) :=
  ⟨B, u, v, by omega, by simp only [size_set]; exact hB, rfl, (hR.far5 (by omega) x0 x1 x2 x3 x4).wide (by omega) (Nat.le_refl _), hO.far5 (by omega) x0 x1 x2 x3 x4, bel_five hb (by omega) x0 x1 x2 x3 x4⟩

end Go.Proofs.YtghdnokjgmmgiaaGreat
