/- Which of the loose records are left: lists of bools read, the library's Index, leftOf; conditions: the sizes. -/
import Derived.Test.YtjdepjpjjgkmbaaGreatExactCrashedSeg2
import Derived.Test.YtjdepjpjjgkmbaaGreatExactCrashedSeg1
import Derived.Test.YtjdepjpjjgkmbaaGreatExactCrashedSeg0
import Derived.Laws.CopyOwn

/- The model's writing on a shelf, its values and its lists told together (written by spec_write_v.py); conditions: the sizes. -/
namespace Go.Proofs.YtjdepjpjjgkmbaaGreat
open Go.RowKit Go.Deep

/-- A shelf and a flag, the lists in blocks of their own that are known whole. -/
def SpV (w : World) (t q v : Int) (cs : List (Int × Int)) (os : List Opn) (f : Bool) (e : Ending) (w' : World) : Prop :=
  ∃ (g1 c1 g2 c2 : Nat), e = .returned (.tuple #[.agg #[.int .i64 t, .int .i64 q, .int .i64 v, .slice (some ⟨g1, 0, none⟩) cs.length c1, .slice (some ⟨g2, 0, none⟩) os.length c2], .bool f]) ∧ g1 ≠ g2 ∧ w'.ownsRow w.heap.size 136 2 (.slice (some ⟨g1, 0, none⟩) cs.length c1) cs.length (flatP cs) ∧ w'.ownsRow w.heap.size 97 4 (.slice (some ⟨g2, 0, none⟩) os.length c2) os.length (flatO os) ∧ Below w.heap.size w w'
def WroteV (w : World) (s l c sh : Int) (zs : List Int) (x rt rq rv : Int) (ps : List (Int × Int)) (os : List Opn) (ct cq v : Int) (cs : List (Int × Int)) (e : Ending) (w' : World) : Prop :=
  (¬ 0 < cmpN ct cq rt rq ∧ SpV w rt rq rv ps os true e w') ∨ (0 < cmpN ct cq rt rq ∧ SpV w ct cq v (goodP (rB s l c sh zs 1 x ct cq v) cs) os true e w')
theorem lw_oldV {w wr : World} {S B : Nat} {s l c sh : Int} {A : Option Addr} {n cap : Nat} {rt rq rv : Int} {P : Option Addr} {p pc : Nat} {Q : Option Addr} {q qc : Nat} {ct cq : Int} {a5 c5 a6 c6 : Nat} {ps : List (Int × Int)} {os : List Opn} {f : Bool} (h : LWO w wr S B s l c sh A n cap rt rq rv P p pc Q q qc ct cq (.slice (some ⟨a5, 0, none⟩) ps.length c5) (.slice (some ⟨a6, 0, none⟩) os.length c6) ps os) (x0 x1 x2 x3 x4 : Value) :
    SpV w rt rq rv ps os f (.returned (.tuple #[.agg #[.int .i64 rt, .int .i64 rq, .int .i64 rv, .slice (some ⟨a5, 0, none⟩) ps.length c5, .slice (some ⟨a6, 0, none⟩) os.length c6], .bool f])) (((((wr.setCell ⟨w.heap.size + 1 + 1 + 1, 0, none⟩ x0).setCell ⟨w.heap.size + 1 + 1 + 1, 1, none⟩ x1).setCell ⟨w.heap.size + 1 + 1 + 1, 2, none⟩ x2).setCell ⟨w.heap.size + 1 + 1 + 1, 3, none⟩ x3).setCell ⟨w.heap.size + 1 + 1 + 1, 4, none⟩ x4) := by
  have hlo := h.hlo
  obtain ⟨g, k, h1, h2, e, h3⟩ := h.R.far5 (b := w.heap.size + 1 + 1 + 1) (by omega) x0 x1 x2 x3 x4
  obtain ⟨g', k', h1', h2', e', h3'⟩ := h.V.far5 (b := w.heap.size + 1 + 1 + 1) (by omega) x0 x1 x2 x3 x4
  cases e
  cases e'
  exact ⟨_, _, _, _, rfl, by omega, ownLow h3 (by omega), ownLow h3' (by omega), bel_five h.bel (by omega) x0 x1 x2 x3 x4⟩

theorem lv_newV {w w1 wr : World} {S B : Nat} {s l c sh : Int} {A : Option Addr} {n cap : Nat} {ct cq v : Int} {z : Value} {a6 c6 : Nat} {os : List Opn} (h : LVO w wr S B s l c sh A n cap ct cq v z (.slice (some ⟨a6, 0, none⟩) os.length c6) os) {g c5 : Nat} {J : List (Int × Int)} (hS1 : S < w1.heap.size) (hJ : wr.ownsRow w1.heap.size 136 2 (.slice (some ⟨g, 0, none⟩) J.length c5) J.length (flatP J)) (x0 x1 x2 x3 x4 : Value) :
    SpV w ct cq v J os true (.returned (.tuple #[.agg #[.int .i64 ct, .int .i64 cq, .int .i64 v, .slice (some ⟨g, 0, none⟩) J.length c5, .slice (some ⟨a6, 0, none⟩) os.length c6], .bool true])) ((((((wr.setCell ⟨S, 3, none⟩ (.slice (some ⟨g, 0, none⟩) J.length c5)).setCell ⟨w.heap.size + 1 + 1 + 1, 0, none⟩ x0).setCell ⟨w.heap.size + 1 + 1 + 1, 1, none⟩ x1).setCell ⟨w.heap.size + 1 + 1 + 1, 2, none⟩ x2).setCell ⟨w.heap.size + 1 + 1 + 1, 3, none⟩ x3).setCell ⟨w.heap.size + 1 + 1 + 1, 4, none⟩ x4) := by
  have hlo := h.hlo
  have hBS := h.hBS
  have hb : Below w.heap.size w (wr.setCell ⟨S, 3, none⟩ (.slice (some ⟨g, 0, none⟩) J.length c5)) := h.bel.setCell (p := ⟨S, 3, none⟩) (by show _ ≤ S; omega) _
  have hV := h.V.farHi (Nat.le_refl _) 3 (.slice (some ⟨g, 0, none⟩) J.length c5)
  obtain ⟨g', k', h1', h2', e', h3'⟩ := hV.far5 (b := w.heap.size + 1 + 1 + 1) (by omega) x0 x1 x2 x3 x4
  cases e'
  obtain ⟨k1, k2, h1, h2, e, h3⟩ := ((ownR_of hJ).far (b := S) hS1 3 (.slice (some ⟨g, 0, none⟩) J.length c5)).far5 (b := w.heap.size + 1 + 1 + 1) (by omega) x0 x1 x2 x3 x4
  cases e
  exact ⟨_, _, _, _, rfl, by omega, ownLow h3 (by omega), ownLow h3' (by omega), bel_five hb (by omega) x0 x1 x2 x3 x4⟩

theorem l7WriteV_yes (s l c sh : Int) (A : Option Addr) (n cap : Nat) (zs : List Int) (x rt rq rv : Int) (P : Option Addr) (p pc : Nat) (Q : Option Addr) (q qc : Nat) (ct cq v : Int) (L : Option Addr) (m mc : Nat) (ps : List (Int × Int)) (os : List Opn) (cs : List (Int × Int)) (w : World) (hm : n ≤ maxLen) (hr : Row w w.heap.size A n zs) (hp : ps.length ≤ 2000000) (hq : os.length ≤ 2000000) (h1 : Slc w (.slice P p pc) ps) (h2 : SlcQ w (.slice Q q qc) os) (hn : m ≤ 4194304) (h3 : Pairs w w.heap.size L m cs) (hW : wrtB s l c sh zs x ct cq v cs = true) :
    Calls Tryz.prog 182 #[.agg #[.int .i64 s, .int .i64 l, .int .i64 c, .int .i64 sh, .slice A n cap], .int .i64 x, .agg #[.int .i64 rt, .int .i64 rq, .int .i64 rv, .slice P p pc, .slice Q q qc], .agg #[.int .i64 ct, .int .i64 cq], .int .i64 v, .slice L m mc] w (WroteV w s l c sh zs x rt rq rv ps os ct cq v cs) := by
  have G := (((Box.new w 26 #[.int .i64 s, .int .i64 l, .int .i64 c, .int .i64 sh, .slice A n cap]).alloc (.cells #[.int .i64 rt, .int .i64 rq, .int .i64 rv, .slice P p pc, .slice Q q qc] 80)).alloc (.cells #[.int .i64 ct, .int .i64 cq] 39)).alloc (.cells #[.int .i64 0, .int .i64 0, .int .i64 0, .slice none 0 0, .slice none 0 0] 80)
  have D := ((Box.new (w.alloc (.cells #[.int .i64 s, .int .i64 l, .int .i64 c, .int .i64 sh, .slice A n cap] 26)) 80 #[.int .i64 rt, .int .i64 rq, .int .i64 rv, .slice P p pc, .slice Q q qc]).alloc (.cells #[.int .i64 ct, .int .i64 cq] 39)).alloc (.cells #[.int .i64 0, .int .i64 0, .int .i64 0, .slice none 0 0, .slice none 0 0] 80)
  have T := (Box.new ((w.alloc (.cells #[.int .i64 s, .int .i64 l, .int .i64 c, .int .i64 sh, .slice A n cap] 26)).alloc (.cells #[.int .i64 rt, .int .i64 rq, .int .i64 rv, .slice P p pc, .slice Q q qc] 80)) 39 #[.int .i64 ct, .int .i64 cq]).alloc (.cells #[.int .i64 0, .int .i64 0, .int .i64 0, .slice none 0 0, .slice none 0 0] 80)
  have X := Box.new (((w.alloc (.cells #[.int .i64 s, .int .i64 l, .int .i64 c, .int .i64 sh, .slice A n cap] 26)).alloc (.cells #[.int .i64 rt, .int .i64 rq, .int .i64 rv, .slice P p pc, .slice Q q qc] 80)).alloc (.cells #[.int .i64 ct, .int .i64 cq] 39)) 80 #[.int .i64 0, .int .i64 0, .int .i64 0, .slice none 0 0, .slice none 0 0]
  have E := bel_trans (bel_trans (bel_trans (bel_alloc w (.cells #[.int .i64 s, .int .i64 l, .int .i64 c, .int .i64 sh, .slice A n cap] 26)) (bel_alloc _ (.cells #[.int .i64 rt, .int .i64 rq, .int .i64 rv, .slice P p pc, .slice Q q qc] 80))) (bel_alloc _ (.cells #[.int .i64 ct, .int .i64 cq] 39))) (bel_alloc _ (.cells #[.int .i64 0, .int .i64 0, .int .i64 0, .slice none 0 0, .slice none 0 0] 80))
  simp only [World.size_alloc] at D T X
  have HR := Lib.hid hr
  have HM := Lib.hid hm
  have H1 := Lib.hid h1
  have H2 := Lib.hid h2
  have H3 := Lib.hid h3
  have HW := Lib.hid (wrt_parts hW)
  clear hr hm h1 h2 h3 hW
  go_enter Tryz.func182, Tryz.ntmps182
  go_wp2_with fail
  generalize ((((w.alloc _).alloc _).alloc _).alloc _ : World) = w0 at G D T X E ⊢
  refine (l7Copy_own rt rq rv P p pc Q q qc ps os w0 (by omega) (by omega) (H1.out.later E) (H2.out.later E)).mono ?_
  rintro e w1 ⟨B, u, v', hB, hB', rfl, hR, hV, hb1⟩
  obtain ⟨a5, c5, rfl⟩ := hR.form
  obtain ⟨a6, c6, rfl⟩ := hV.form
  have hb2 := bel_alloc w1 (.cells #[.int .i64 rt, .int .i64 rq, .int .i64 rv, .slice (some ⟨a5, 0, none⟩) ps.length c5, .slice (some ⟨a6, 0, none⟩) os.length c6] 80)
  have hXl := X.lt
  have K : LWO w (w1.alloc (.cells #[.int .i64 rt, .int .i64 rq, .int .i64 rv, .slice (some ⟨a5, 0, none⟩) ps.length c5, .slice (some ⟨a6, 0, none⟩) os.length c6] 80)) w1.heap.size B s l c sh A n cap rt rq rv P p pc Q q qc ct cq (.slice (some ⟨a5, 0, none⟩) ps.length c5) (.slice (some ⟨a6, 0, none⟩) os.length c6) ps os := by
    have hb12 := bel_trans hb1 hb2
    exact ⟨bel_trans E hb12, G.later hb12 G.lt, D.later hb12 D.lt, T.later hb12 T.lt, X.later hb12 X.lt, Box.new w1 _ _, by omega, hB', (hR.later hb2).wide (by omega) (Nat.le_refl _), hV.later hb2⟩
  have T1 := T.later hb1 T.lt
  have hT1 := T1.lt
  obtain ⟨t0, t1⟩ := T1.two
  clear hR hV G D T X E hb1 hb2 hB T1
  go_wp2_with fail
  generalize (w1.alloc _ : World) = w2 at K ⊢
  generalize w1.heap.size = S at K hB' hT1 ⊢
  clear t0 t1 hT1
  have hz := Lib.hid (show (ct == 0) = false ∨ ((ct == 0) = true ∧ (cq == 0) = false) from by
    rcases zero_cases ct cq with h | ⟨h, _⟩
    · exact absurd h HW.out.2.2.1
    · exact h)
  have HS := Lib.hid HW.out.1
  have HPF := Lib.hid HW.out.2.2.2
  have hm20 : m ≤ 20 := by have := HW.out.2.1; rw [H3.out.1] at this; exact this
  refine (l4Zero_no ct cq hz.out w2).mono ?_
  rintro e w3 ⟨rfl, hb3⟩
  have K3 := K.later hb3
  clear K hb3
  obtain ⟨t0, t1⟩ := K3.T.two
  go_wp2_with fail
  refine (specStampR_is HS.out w3).mono ?_
  rintro e w4 ⟨rfl, hb4⟩
  have K4 := K3.later hb4
  clear K3 hb4 t0 t1
  obtain ⟨t0, t1⟩ := K4.T.two
  obtain ⟨g0, g1, g2, g3, g4⟩ := K4.G.five
  go_wp2_with fail
  refine (specProvenR_is HPF.out A n cap L m mc w4 HM.out ((HR.out.below K4.bel (Nat.le_refl _)).more K4.bel.size) hn (H3.out.later K4.bel)).mono ?_
  rintro e w5 ⟨rfl, hb5⟩
  have K5 := K4.later hb5
  clear K4 hb5 t0 t1 g0 g1 g2 g3 g4
  obtain ⟨t0, t1⟩ := K5.T.two
  obtain ⟨d0, d1, d2, d3, d4⟩ := K5.D.five
  go_wp2_with fail
  refine (specCmp_any ct cq rt rq w5).mono ?_
  rintro e w6 ⟨rfl, hb6⟩
  have K6 := K5.later hb6
  clear K5 hb6 t0 t1 d0 d1 d2 d3 d4
  by_cases hc : 0 < cmpN ct cq rt rq
  · have HC := Lib.hid hc
    obtain ⟨y0, y1, y2, y3, y4⟩ := K6.Y.five
    obtain ⟨t0, t1⟩ := K6.T.two
    have fy := K6.Y.frozen
    have hlo := K6.hlo
    have hBS := K6.hBS
    have HV := Lib.hid (K6.put v)
    clear K6
    go_upto_region 7 with fail
    generalize (((w6.setCell _ _).setCell _ _).setCell _ _ : World) = w7 at HV ⊢
    have K7 := HV.out
    have HC := Lib.hid hc
    clear y0 y1 y2 y3 y4 t0 t1 fy HV hc
    obtain ⟨J, hJ⟩ : ∃ J, goodP (rB s l c sh zs 1 x ct cq v) cs = J := ⟨_, rfl⟩
    have HJL : Hid (J.length ≤ 20) := Lib.hid (by rw [← hJ]; exact Nat.le_trans (goodP_le _ _) (by rw [H3.out.1]; exact hm20))
    replace hJ := Lib.hid hJ
    obtain ⟨g0, g1, g2, g3, g4⟩ := K7.G.five
    obtain ⟨t0, t1⟩ := K7.T.two
    have R7 := (HR.out.below K7.bel (Nat.le_refl _)).more K7.bel.size
    have P7 := H3.out.later K7.bel
    have hSG : (⟨S, 3, none⟩ : Addr).block ≠ w.heap.size := by show S ≠ _; omega
    have hST : (⟨S, 3, none⟩ : Addr).block ≠ w.heap.size + 1 + 1 := by show S ≠ _; omega
    have hSl := K7.Y.lt
    go_region_held3 (fun w' => w'.cell? ⟨w.heap.size, 0, none⟩ = some (.int .i64 s) ∧ w'.cell? ⟨w.heap.size, 1, none⟩ = some (.int .i64 l) ∧ w'.cell? ⟨w.heap.size, 2, none⟩ = some (.int .i64 c) ∧ w'.cell? ⟨w.heap.size, 3, none⟩ = some (.int .i64 sh) ∧ w'.cell? ⟨w.heap.size, 4, none⟩ = some (.slice A n cap) ∧ w'.cell? ⟨w.heap.size + 1 + 1, 0, none⟩ = some (.int .i64 ct) ∧ w'.cell? ⟨w.heap.size + 1 + 1, 1, none⟩ = some (.int .i64 cq))
      (first | (with_reducible exact KD) | (with_reducible exact KB) | (with_reducible exact KA) | go_keep)
      (first
        | (go_at_call 137; refine (l4Ready_is x ct cq v _).mono ?_; rintro e w8 ⟨rfl, hb8⟩; have F8 := bel_drew' hb8; have K8 := K7.later F8; have R8 := (R7.below F8 (Nat.le_refl _)).more F8.size; have P8 := P7.later F8; have KA := sevenGD K8.G K8.T; have hs8 := F8.size)
        | (go_at_call 220; refine (specGoodO_is s l c sh A n cap zs 1 x ct cq v L m mc cs _ HM.out R8 hn P8).mono ?_; rintro e w9 ⟨q9, c9, rfl, hw9, hb9⟩; rw [hJ.out] at hw9 ⊢; have K9 := K8.later hb9; have KB := sevenGD K9.G K9.T; have KD := sevenGD (K9.G.far (p := ⟨S, 3, none⟩) hSG (.slice (some ⟨q9, 0, none⟩) J.length c9)) (K9.T.far (p := ⟨S, 3, none⟩) hST (.slice (some ⟨q9, 0, none⟩) J.length c9)); have y3 := K9.Y.cell 3; have fy := K9.Y.frozen; have HP := Lib.hid (lv_newV (w1 := w8) (c5 := c9) K9 (by omega) hw9); have Z9 := Lib.hid (K9.Y.set 3 (.slice (some ⟨q9, 0, none⟩) J.length c9)); have X9 := Lib.hid (K9.X.far (p := ⟨S, 3, none⟩) (by show S ≠ _; omega) (.slice (some ⟨q9, 0, none⟩) J.length c9))))
    obtain ⟨z0, z1, z2, z3, z4⟩ := (show Box _ S 80 #[.int .i64 ct, .int .i64 cq, .int .i64 v, .slice (some ⟨q9, 0, none⟩) J.length c9, .slice (some ⟨a6, 0, none⟩) os.length c6] from Z9.out).five
    obtain ⟨x0, x1, x2, x3, x4⟩ := X9.out.five
    have fx := X9.out.frozen
    clear KA KB KD K7 K8 K9 y3 fy R7 R8 P7 P8 g0 g1 g2 g3 g4 t0 t1 hw9 hb9 Z9 X9
    generalize (w9.setCell _ _ : World) = w10 at HP z0 z1 z2 z3 z4 x0 x1 x2 x3 x4 fx ⊢
    go_wp2
    exact bodyPost_ret (v := .tuple #[.agg #[.int .i64 ct, .int .i64 cq, .int .i64 v, .slice (some ⟨q9, 0, none⟩) J.length c9, .slice (some ⟨a6, 0, none⟩) os.length c6], .bool true]) (by simp [results, Tryz.results182, go_sem, x0, x1, x2, x3, x4]) rfl (.inr ⟨by have := HC.out; omega, hJ.out.symm ▸ HP.out _ _ _ _ _⟩)
  · have HC := Lib.hid hc
    have hc' : decide (0 < cmpN ct cq rt rq) = false := decide_eq_false hc
    obtain ⟨y0, y1, y2, y3, y4⟩ := K6.Y.five
    obtain ⟨x0, x1, x2, x3, x4⟩ := K6.X.five
    have fx := K6.X.frozen
    have HP := Lib.hid (lw_oldV (f := true) K6)
    clear K6
    go_wp2
    exact bodyPost_ret (v := .tuple #[.agg #[.int .i64 rt, .int .i64 rq, .int .i64 rv, .slice (some ⟨a5, 0, none⟩) ps.length c5, .slice (some ⟨a6, 0, none⟩) os.length c6], .bool true]) (by simp [results, Tryz.results182, go_sem, x0, x1, x2, x3, x4]) rfl (.inl ⟨by have := HC.out; omega, HP.out _ _ _ _ _⟩)

end Go.Proofs.YtjdepjpjjgkmbaaGreat

/- Opens that are put to their places stay in order; mathematics alone; no conditions. -/
namespace Go.Proofs.YtjdepjpjjgkmbaaGreat
open Go.RowKit

/-- Opens in order, all right. -/
theorem opsB_iff (R : Opn → Bool) (os : List Opn) : opsB R os = true ↔ (∀ i, i < os.length → R (oth os i) = true) ∧ ∀ i, i + 1 < os.length → (oth os i).1 < (oth os (i + 1)).1 := by
  constructor
  · intro h
    unfold opsB at h
    rw [List.all_eq_true] at h
    refine ⟨fun i hi => ?_, fun i hi => ?_⟩
    · have := h i (List.mem_range.2 hi)
      unfold stepB at this
      rw [Bool.and_eq_true] at this
      exact this.1
    · have := h (i + 1) (List.mem_range.2 hi)
      unfold stepB at this
      simp only [Bool.and_eq_true, Bool.or_eq_true, decide_eq_true_eq, Nat.add_sub_cancel] at this
      rcases this.2 with h1 | h1
      · omega
      · exact h1
  · rintro ⟨h1, h2⟩
    refine opsB_true fun i hi => ?_
    unfold stepB
    rcases i with _ | i
    · simp [h1 0 hi]
    · have := h2 i hi
      simp [h1 (i + 1) hi, this]
theorem opsB_lt {R : Opn → Bool} {os : List Opn} (h : opsB R os = true) : ∀ i j, i < j → j < os.length → (oth os i).1 < (oth os j).1 := by
  obtain ⟨-, h2⟩ := (opsB_iff R os).1 h
  intro i j hij
  induction j with
  | zero => omega
  | succ j ih =>
    intro hj
    have h3 := h2 j hj
    by_cases e : i = j
    · subst e; exact h3
    · have := ih (by omega) (by omega)
      omega
theorem oth_put {os : List Opn} {i j : Nat} {o : Opn} (hi : i ≤ os.length) (_hj : j ≤ os.length) (hij : i ≤ j) (x : Nat) :
    oth (putO os i j o) x = if x < i then oth os x else if x = i then o else oth os (x - (i + 1) + j) := by
  unfold oth putO
  simp only [List.getD_eq_getElem?_getD]
  rw [List.append_assoc]
  by_cases h1 : x < i
  · rw [if_pos h1, List.getElem?_append_left (by rw [List.length_take]; omega), List.getElem?_take, if_pos h1]
  · rw [if_neg h1, List.getElem?_append_right (by rw [List.length_take]; omega), List.length_take, Nat.min_eq_left hi]
    by_cases h2 : x = i
    · subst h2
      simp
    · rw [if_neg h2, List.getElem?_append_right (by simp; omega), List.getElem?_drop]
      simp only [List.length_singleton]
      rw [show j + (x - i - 1) = x - (i + 1) + j by omega]
theorem beh_ge {c : Int} {os : List Opn} : ∀ k, k ≤ os.length → (∀ j, behN c (os.take k) ≤ j → j < k → ¬ (oth os j).1 < c) ∧ (0 < behN c (os.take k) → (oth os (behN c (os.take k) - 1)).1 < c) := by
  intro k
  induction k with
  | zero => intro _; exact ⟨fun j _ hj => absurd hj (by omega), fun h => absurd h (by simp [behN])⟩
  | succ k ih =>
    intro hk
    obtain ⟨h1, h2⟩ := ih (by omega)
    rw [behN_snoc (by omega)]
    by_cases hc : (oth os k).1 < c
    · rw [if_pos hc]
      exact ⟨fun j h3 h4 => absurd h4 (by omega), fun _ => by simpa using hc⟩
    · rw [if_neg hc]
      refine ⟨fun j h3 h4 => ?_, h2⟩
      by_cases e : j = k
      · subst e; exact hc
      · exact h1 j h3 (by omega)
theorem opsB_with {R : Opn → Bool} {os : List Opn} {o : Opn} (h : opsB R os = true) (ho : R o = true) : opsB R (withO os o) = true := by
  have hlt := opsB_lt h
  obtain ⟨h1, h2⟩ := (opsB_iff R os).1 h
  rw [opsB_iff]
  rcases first_cases o.1 os with ⟨i, hf⟩ | hn
  · rw [withO_first hf]
    have hil := hf.1
    have hlen : (putO os i (i + 1) o).length = os.length := by rw [putO_len (by omega) (by omega)]; omega
    have hoth : ∀ x, oth (putO os i (i + 1) o) x = if x = i then o else oth os x := fun x => by
      rw [oth_put (by omega) (by omega) (by omega)]
      by_cases a : x < i
      · rw [if_pos a, if_neg (by omega)]
      · rw [if_neg a]
        by_cases b : x = i
        · rw [if_pos b, if_pos b]
        · rw [if_neg b, if_neg b, show x - (i + 1) + (i + 1) = x by omega]
    have hk := hf.2.1
    refine ⟨fun x hx => ?_, fun x hx => ?_⟩
    · rw [hoth]
      split
      · exact ho
      · exact h1 x (by omega)
    · rw [hoth, hoth]
      have := h2 x (by omega)
      split <;> split
      · omega
      · subst_vars; rw [hk] at this; exact this
      · rename_i a b; rw [← hk, ← b]; exact this
      · exact this
  · rw [withO_none hn]
    obtain ⟨b, hb⟩ : ∃ b, behN o.1 os = b := ⟨_, rfl⟩
    have hbl := behN_le o.1 os
    obtain ⟨g1, g2⟩ := beh_ge (c := o.1) os.length (Nat.le_refl _)
    rw [List.take_length] at g1 g2
    rw [hb] at hbl g1 g2 ⊢
    have hlen : (putO os b b o).length = os.length + 1 := by rw [putO_len hbl hbl]; omega
    have hoth := oth_put (o := o) hbl hbl (Nat.le_refl b)
    refine ⟨fun x hx => ?_, fun x hx => ?_⟩
    · rw [hoth]
      split
      · exact h1 x (by omega)
      · split
        · exact ho
        · exact h1 _ (by omega)
    · rw [hoth, hoth]
      by_cases a : x + 1 < b
      · rw [if_pos (by omega), if_pos a]
        exact h2 x (by omega)
      · by_cases e : x + 1 = b
        · rw [if_pos (by omega), if_neg (by omega), if_pos e]
          have := g2 (by omega)
          rw [show b - 1 = x by omega] at this
          exact this
        · by_cases f : x = b
          · subst f
            rw [if_neg (by omega), if_pos rfl, if_neg (by omega), if_neg (by omega), show x + 1 - (x + 1) + x = x by omega]
            have hx1 : x < os.length := by omega
            have := g1 x (Nat.le_refl _) hx1
            have := hn x hx1
            omega
          · rw [if_neg (by omega), if_neg f, if_neg (by omega), if_neg (by omega), show x - (b + 1) + b = x - 1 by omega, show x + 1 - (b + 1) + b = x - 1 + 1 by omega]
            exact h2 (x - 1) (by omega)

end Go.Proofs.YtjdepjpjjgkmbaaGreat

/- What is replayed keeps every shelf right; what the functions of chapter 7 answer, as a shelf's data; no conditions. -/
namespace Go.Proofs.YtjdepjpjjgkmbaaGreat
open Go Go.RowKit

/-- Is a shelf right? -/
def regG (g : GrpD) (x : Int) (r : RegD) : Bool := regB g.s g.l g.c g.sh g.zs x r.t r.q r.v r.ps r.os
def goodS (g : GrpD) (rs : List RegD) : Prop := ∀ i (h : i < rs.length), regG g (i : Int) rs[i] = true
theorem lef_wrt {s l c sh : Int} {zs : List Int} {x ct cq v : Int} {ps : List (Int × Int)} (h : lefB s l c sh zs x ct cq v ps = true) (hz : ¬ (ct = 0 ∧ cq = 0)) : wrtB s l c sh zs x ct cq v ps = true := by
  unfold lefB at h
  unfold wrtB
  simp only [Bool.and_eq_true, Bool.not_eq_true', decide_eq_false_iff_not] at h ⊢
  exact ⟨hz, h.1⟩
theorem knd_parts {s l c sh : Int} {zs : List Int} {r2 r3 r4 r5 r6 r7 : Int} {ps : List (Int × Int)} (h : kndB s l c sh zs r2 r3 r4 r5 r6 r7 ps = true) :
    (r2 = 1 ∧ ps = [] ∧ opnB s l c sh zs (r4, r5, r6, r7) = true) ∨ (r2 = 2 ∧ r4 = 0 ∧ ¬ (r5 = 0 ∧ r6 = 0) ∧ lefB s l c sh zs r3 r5 r6 r7 ps = true) := by
  unfold kndB at h
  split at h
  · simp only [Bool.and_eq_true, decide_eq_true_eq] at h
    exact .inl ⟨by assumption, h.1, h.2⟩
  · split at h
    · simp only [Bool.and_eq_true, Bool.not_eq_true', decide_eq_true_eq, decide_eq_false_iff_not] at h
      exact .inr ⟨by assumption, h.1.1, h.1.2, h.2⟩
    · cases h
theorem reg_zero {g : GrpD} {x : Int} (hok : okG g = true) (hx : inB x 0 (g.sh - 1) = true) : regG g x zeroR = true := by
  unfold okG at hok
  simp [regG, regB, lefB, proB, lefS, zeroR, hok, hx, opsB]
theorem good_zero {g : GrpD} (hok : okG g = true) : goodS g (List.replicate g.sh.toNat zeroR) := by
  intro i hi
  rw [List.length_replicate] at hi
  rw [List.getElem_replicate]
  have hs := okB_sh hok
  exact reg_zero hok (inB_true.2 ⟨by omega, by omega⟩)
/-- A shelf that is right stays so, whatever right record is done to it. -/
theorem onto_good {g : GrpD} {d : RecD} {r : RegD} (hr : regG g d.r3 r = true) (hk : kndB g.s g.l g.c g.sh g.zs d.r2 d.r3 d.r4 d.r5 d.r6 d.r7 d.ps = true) : regG g d.r3 (ontoD g d r) = true := by
  rcases knd_parts hk with ⟨h2, -, ho⟩ | ⟨h2, -, hz, hl⟩
  · unfold ontoD
    rw [if_pos h2]
    unfold regG regB at hr ⊢
    rw [Bool.and_eq_true] at hr ⊢
    exact ⟨hr.1, opsB_with hr.2 ho⟩
  · unfold ontoD
    rw [if_neg (by omega)]
    obtain ⟨-, -, h3, -⟩ := outW_again hr (lef_wrt hl hz) rfl
    exact h3
theorem step_good {g : GrpD} {rs : List RegD} {d : RecD} (hg : goodS g rs) (hk : kndB g.s g.l g.c g.sh g.zs d.r2 d.r3 d.r4 d.r5 d.r6 d.r7 d.ps = true) (h0 : 0 ≤ d.r3) (hl : d.r3.toNat < rs.length) : goodS g (stepR g rs d) := by
  intro i hi
  unfold stepR at hi ⊢
  rw [List.length_set] at hi
  by_cases e : d.r3.toNat = i
  · subst e
    have hx : ((d.r3.toNat : Nat) : Int) = d.r3 := by omega
    rw [List.getElem_set_self, hx]
    refine onto_good ?_ hk
    have h := hg _ hl
    rw [hx] at h
    unfold regOf
    rw [List.getD_eq_getElem?_getD, List.getElem?_eq_getElem hl]
    exact h
  · rw [List.getElem_set_ne e]
    exact hg i hi
theorem good_shelves {g : GrpD} {ds : List RecD} (hok : okG g = true) : ∀ k, k ≤ ds.length → (∀ i, i < k → isAt g ds i = true) → goodS g (shelves g (ds.take k)) := by
  intro k
  induction k with
  | zero => intro _ _; exact good_zero hok
  | succ k ih =>
    intro hk ha
    rw [shelves_snoc g ds (by omega)]
    have h := ha k (by omega)
    rw [isAt_lt (by omega)] at h
    simp only [Bool.and_eq_true] at h
    obtain ⟨h0, h1, -, hkn⟩ := rok_shelf h.2
    exact step_good (ih (by omega) (fun i hi => ha i (by omega))) hkn h0 (by rw [shelves_len]; omega)

theorem own_cap {w : World} {base : Nat} {t : TypeId} {k g n cap : Nat} {xs : List Value} (h : w.ownsRow base t k (.slice (some ⟨g, 0, none⟩) n cap) n xs) : n ≤ cap ∧ cap ≤ maxLen := by
  rcases h.2 with ⟨h', _⟩ | ⟨g', cap', cur, h', hb, hg, hnc, hcm, _⟩
  · cases h'
  · injection h' with _ _ e3
    subst e3
    exact ⟨hnc, hcm⟩
/-- What an open answers; what a writing answers: the shelf's data. -/
theorem regR_at {w w' : World} {e : Ending} {rt rq rv : Int} {ps : List (Int × Int)} {os : List Opn} (h : RegR w rt rq rv ps os e w') :
    ∃ u v, e = .returned (.agg #[.int .i64 rt, .int .i64 rq, .int .i64 rv, u, v]) ∧ LieR ⟨rt, rq, rv, ps, os⟩ w' (Iv w.heap.size w'.heap.size) (.agg #[.int .i64 rt, .int .i64 rq, .int .i64 rv, u, v]) ∧ Below w.heap.size w w' := by
  obtain ⟨B, u, v, hB, hB', rfl, h1, h2, hb⟩ := h
  obtain ⟨A, c, rfl, -⟩ := h1.form
  obtain ⟨A', c', rfl, -⟩ := h2.form
  exact ⟨_, _, rfl, ⟨A, _, c, A', _, c', w.heap.size, B, w'.heap.size, rfl, h1, h2.resQ, hB, hB', Nat.le_refl _, fun b hb => hb⟩, hb⟩
theorem spV_at {w w' : World} {e : Ending} {t q v : Int} {cs : List (Int × Int)} {os : List Opn} {f : Bool} (h : SpV w t q v cs os f e w') :
    ∃ u x, e = .returned (.tuple #[.agg #[.int .i64 t, .int .i64 q, .int .i64 v, u, x], .bool f]) ∧ AtW ⟨t, q, v, cs, os⟩ w' (Iv w.heap.size w'.heap.size) (.agg #[.int .i64 t, .int .i64 q, .int .i64 v, u, x]) ∧ Below w.heap.size w w' := by
  obtain ⟨g1, c1, g2, c2, rfl, -, h1, h2, hb⟩ := h
  obtain ⟨p1, p2⟩ := own_cap h1
  obtain ⟨q1, q2⟩ := own_cap h2
  exact ⟨_, _, rfl, ⟨_, _, c1, _, _, c2, rfl, Nat.le_trans p1 p2, Nat.le_trans q1 q2, ⟨own_pairs h1, fun _ b o e => by injection e with e; injection e with e; exact e ▸ h1.lt g1 rfl⟩, ⟨own_quads h2, fun _ b o e => by injection e with e; injection e with e; exact e ▸ h2.lt g2 rfl⟩, .inl ⟨g1, 0, rfl⟩, .inl ⟨g2, 0, rfl, q1, q2⟩⟩, hb⟩
theorem wroteV_at {w w' : World} {e : Ending} {g : GrpD} {d : RecD} {r : RegD} (hr : regG g d.r3 r = true) (hk : kndB g.s g.l g.c g.sh g.zs d.r2 d.r3 d.r4 d.r5 d.r6 d.r7 d.ps = true) (h2 : d.r2 ≠ 1) (h : WroteV w g.s g.l g.c g.sh g.zs d.r3 r.t r.q r.v r.ps r.os d.r5 d.r6 d.r7 d.ps e w') :
    ∃ u x, e = .returned (.tuple #[.agg #[.int .i64 (ontoD g d r).t, .int .i64 (ontoD g d r).q, .int .i64 (ontoD g d r).v, u, x], .bool true]) ∧ AtW (ontoD g d r) w' (Iv w.heap.size w'.heap.size) (.agg #[.int .i64 (ontoD g d r).t, .int .i64 (ontoD g d r).q, .int .i64 (ontoD g d r).v, u, x]) ∧ Below w.heap.size w w' := by
  rcases knd_parts hk with ⟨h, -⟩ | ⟨-, -, hz, hl⟩
  · exact absurd h h2
  have hw := lef_wrt hl hz
  have hc := cmp_pos (wrt_parts hw).1 (reg_stamp hr)
  have hr' : regB g.s g.l g.c g.sh g.zs d.r3 r.t r.q r.v r.ps r.os = true := hr
  have ho : ontoD g d r = if cmpN d.r5 d.r6 r.t r.q = 1 then ⟨d.r5, d.r6, d.r7, goodP (rB g.s g.l g.c g.sh g.zs 1 d.r3 d.r5 d.r6 d.r7) d.ps, r.os⟩ else ⟨r.t, r.q, r.v, r.ps, r.os⟩ := by
    unfold ontoD outW
    rw [if_neg h2, if_neg (by rw [hr']; simp), if_neg (by rw [hw]; simp)]
    split <;> rfl
  rw [ho]
  rcases h with ⟨hn, h⟩ | ⟨hp, h⟩
  · rw [if_neg (fun e => hn (hc.2 e))]
    exact spV_at h
  · rw [if_pos (hc.1 hp)]
    exact spV_at h
end Go.Proofs.YtjdepjpjjgkmbaaGreat

/- The program's onto: a record is done to a shelf (written by onto9.py); conditions: the sizes. -/
namespace Go.Proofs.YtjdepjpjjgkmbaaGreat
open Go Go.RowKit

theorem results_row9 {P : Program} {fn : Func} {x : Tmp} {ty : TypeId} (h : fn.results = #[.cell x ty]) (tmps : Array Value) (w : World) (g : Nat) (t : TypeId) (cs : Array Value) (d : TypeDesc)
    (hx : tmps.getD x undef = .pointer (some ⟨g, 0, none⟩)) (hg : Box w g t cs)
    (hu : P.underlying ty = some d) (hd : (match d with | .struct _ | .array _ _ => true | _ => false) = true) (hi : (P.info? ty).map (·.size) = some cs.size) :
    (results fn tmps).run P w = .ok (.agg cs) w := by
  have ex : tmps[x]?.getD undef = .pointer (some ⟨g, 0, none⟩) := by simpa using hx
  simp [results, h, ex, asAddr, run_loadVar_row w g t ty cs (0, 0) d hg hu hd hi]
/-- A shelf that is answered: its data, its lists in new blocks. -/
def MadeR (o : RegD) (w : World) (e : Ending) (w' : World) : Prop := ∃ u v, e = .returned (.agg #[.int .i64 o.t, .int .i64 o.q, .int .i64 o.v, u, v]) ∧ LieR o w' (Iv w.heap.size w'.heap.size) (.agg #[.int .i64 o.t, .int .i64 o.q, .int .i64 o.v, u, v]) ∧ Below w.heap.size w w'
theorem wrR_at {w w' : World} {o : Out} {e : Ending} (h : WrR w o e w') : ∃ u v, e = .returned (.tuple #[.agg #[.int .i64 o.t, .int .i64 o.q, .int .i64 o.v, u, v], .bool o.f]) ∧ LieR ⟨o.t, o.q, o.v, o.cs, o.os⟩ w' (Iv w.heap.size w'.heap.size) (.agg #[.int .i64 o.t, .int .i64 o.q, .int .i64 o.v, u, v]) ∧ Below w.heap.size w w' := by
  obtain ⟨B, A, n, c, A', n', c', hB, hB', rfl, h1, h2, hb⟩ := h
  exact ⟨_, _, rfl, ⟨A, n, c, A', n', c', w.heap.size, B, w'.heap.size, rfl, h1, h2.resQ, hB, hB', Nat.le_refl _, fun b hb => hb⟩, hb⟩
/-- The shelf is laid into the variable of the answer. -/
theorem madeR_put {o : RegD} {w w2 w3 : World} {R : Nat} {C : Array Value} {N : Nat} (hb : Below w.heap.size w w2) (hR : w.heap.size ≤ R) (hRN : R < N) (_hN : N ≤ w2.heap.size) (hL : LieR o w2 (Iv N w2.heap.size) (.agg C)) (hw : w3 = w2.setRow R C) :
    LieR o w3 (Iv w.heap.size w3.heap.size) (.agg C) ∧ Below w.heap.size w w3 := by
  have ht := turns_setRow w2 R C
  rw [hw]
  exact ⟨(keepsLR o).sub ((keepsLR o).turn hL ht (iv_one (.inl hRN))) (fun b hb => ⟨by have := hb.1; omega, by have := hb.2; rw [size_setRow]; exact this⟩), ht.below hb (fun i hi => by omega)⟩

set_option maxRecDepth 100000 in
set_option maxHeartbeats 16000000 in
theorem onto_is (g : GrpD) (d : RecD) (r : RegD) (A : Option Addr) (n cap : Nat) (L : Option Addr) (m mc : Nat) (P : Option Addr) (p pc : Nat) (Q : Option Addr) (q qc : Nat) (w : World)
    (hm : n ≤ maxLen) (hgr : Row w w.heap.size A n g.zs) (hmc : m ≤ 4194304) (hp : Pairs w w.heap.size L m d.ps) (h1 : Slc w (.slice P p pc) r.ps) (h2 : SlcQ w (.slice Q q qc) r.os) (hs1 : r.ps.length ≤ 2000000) (hs2 : r.os.length ≤ 2000000) (hlp : r.ps.length = p) (hlq : r.os.length = q) :
    Calls Tryz.prog 178 #[.agg #[.int .i64 d.r1, .int .i64 d.r2, .int .i64 d.r3, .int .i64 d.r4, .int .i64 d.r5, .int .i64 d.r6, .int .i64 d.r7, .slice L m mc, .int .i64 d.r8], .agg #[.int .i64 g.s, .int .i64 g.l, .int .i64 g.c, .int .i64 g.sh, .slice A n cap], .agg #[.int .i64 r.t, .int .i64 r.q, .int .i64 r.v, .slice P p pc, .slice Q q qc]] w (MadeR (ontoD g d r) w) := by
  have E := bel_trans (bel_trans (bel_trans (bel_alloc w (.cells #[.int .i64 d.r1, .int .i64 d.r2, .int .i64 d.r3, .int .i64 d.r4, .int .i64 d.r5, .int .i64 d.r6, .int .i64 d.r7, .slice L m mc, .int .i64 d.r8] 46)) (bel_alloc _ (.cells #[.int .i64 g.s, .int .i64 g.l, .int .i64 g.c, .int .i64 g.sh, .slice A n cap] 26))) (bel_alloc _ (.cells #[.int .i64 r.t, .int .i64 r.q, .int .i64 r.v, .slice P p pc, .slice Q q qc] 80))) (bel_alloc _ (.cells #[.int .i64 0, .int .i64 0, .int .i64 0, .slice none 0 0, .slice none 0 0] 80))
  have D := (((Box.new w 46 #[.int .i64 d.r1, .int .i64 d.r2, .int .i64 d.r3, .int .i64 d.r4, .int .i64 d.r5, .int .i64 d.r6, .int .i64 d.r7, .slice L m mc, .int .i64 d.r8]).alloc (.cells #[.int .i64 g.s, .int .i64 g.l, .int .i64 g.c, .int .i64 g.sh, .slice A n cap] 26)).alloc (.cells #[.int .i64 r.t, .int .i64 r.q, .int .i64 r.v, .slice P p pc, .slice Q q qc] 80)).alloc (.cells #[.int .i64 0, .int .i64 0, .int .i64 0, .slice none 0 0, .slice none 0 0] 80)
  have G := ((Box.new (w.alloc (.cells #[.int .i64 d.r1, .int .i64 d.r2, .int .i64 d.r3, .int .i64 d.r4, .int .i64 d.r5, .int .i64 d.r6, .int .i64 d.r7, .slice L m mc, .int .i64 d.r8] 46)) 26 #[.int .i64 g.s, .int .i64 g.l, .int .i64 g.c, .int .i64 g.sh, .slice A n cap]).alloc (.cells #[.int .i64 r.t, .int .i64 r.q, .int .i64 r.v, .slice P p pc, .slice Q q qc] 80)).alloc (.cells #[.int .i64 0, .int .i64 0, .int .i64 0, .slice none 0 0, .slice none 0 0] 80)
  have V := (Box.new ((w.alloc (.cells #[.int .i64 d.r1, .int .i64 d.r2, .int .i64 d.r3, .int .i64 d.r4, .int .i64 d.r5, .int .i64 d.r6, .int .i64 d.r7, .slice L m mc, .int .i64 d.r8] 46)).alloc (.cells #[.int .i64 g.s, .int .i64 g.l, .int .i64 g.c, .int .i64 g.sh, .slice A n cap] 26)) 80 #[.int .i64 r.t, .int .i64 r.q, .int .i64 r.v, .slice P p pc, .slice Q q qc]).alloc (.cells #[.int .i64 0, .int .i64 0, .int .i64 0, .slice none 0 0, .slice none 0 0] 80)
  have X := Box.new (((w.alloc (.cells #[.int .i64 d.r1, .int .i64 d.r2, .int .i64 d.r3, .int .i64 d.r4, .int .i64 d.r5, .int .i64 d.r6, .int .i64 d.r7, .slice L m mc, .int .i64 d.r8] 46)).alloc (.cells #[.int .i64 g.s, .int .i64 g.l, .int .i64 g.c, .int .i64 g.sh, .slice A n cap] 26)).alloc (.cells #[.int .i64 r.t, .int .i64 r.q, .int .i64 r.v, .slice P p pc, .slice Q q qc] 80)) 80 #[.int .i64 0, .int .i64 0, .int .i64 0, .slice none 0 0, .slice none 0 0]
  simp only [World.size_alloc] at G V X
  have HR := Lib.hid ((hgr.below E (Nat.le_refl _)).more E.size)
  have HP := Lib.hid (hp.later E)
  have H1 := Lib.hid (h1.later E)
  have H2 := Lib.hid (h2.later E)
  have HM := Lib.hid hm
  have HL1 := Lib.hid hlp
  have HL2 := Lib.hid hlq
  clear hgr hp h1 h2 hm hlp hlq
  go_enter Tryz.func178, Tryz.ntmps178
  go_upto_region 1 with fail
  generalize ((((w.alloc _).alloc _).alloc _).alloc _ : World) = w0 at E D G V X HR HP H1 H2 ⊢
  have d1 := D.cell 1
  have hXl := X.lt
  have IX := Lib.hid (show (Tryz.prog.info? 80).map (·.size) = some 5 from by kernel_rfl)
  by_cases h2 : d.r2 = 1
  · skip
    have h2b : (d.r2 == 1) = true := by simpa using h2
    have hh2 := Lib.hid h2
    clear h2
    go_upto_region 2 with fail
    clear d1 h2b
    refine wp_region_sink 5 (fun w' => Box w' w.heap.size 46 #[.int .i64 d.r1, .int .i64 d.r2, .int .i64 d.r3, .int .i64 d.r4, .int .i64 d.r5, .int .i64 d.r6, .int .i64 d.r7, .slice L m mc, .int .i64 d.r8] ∧ Box w' (w.heap.size + 1 + 1) 80 #[.int .i64 r.t, .int .i64 r.q, .int .i64 r.v, .slice P p pc, .slice Q q qc]) (by kernel_rfl) ⟨D, V⟩ (fun hH => ?_)
    have hb := (Below.refl w0.heap.size w0).drew
    replace E := bel_trans E hb
    replace D := D.later hb D.lt
    replace V := V.later hb V.lt
    replace X := X.later hb X.lt
    replace H1 := Lib.hid (H1.out.later hb)
    replace H2 := Lib.hid (H2.out.later hb)
    replace hXl := Nat.lt_of_lt_of_le hXl hb.size
    clear hb
    generalize w0.drew = w1 at E D V X H1 H2 hH hXl ⊢
    refine wpAnyE_takeS (i := 0) (v := .agg #[.int .i64 r.t, .int .i64 r.q, .int .i64 r.v, .slice P p pc, .slice Q q qc]) (by simp only [List.getElem?_toArray, List.getElem?_cons_zero]; rfl) (by kernel_rfl) (by kernel_rfl) (by kernel_rfl) (by exact fun _ _ _ h => h) (by kernel_rfl) ?y0 hH ?_
    case y0 => exact yields_box 80 _ rfl (w.heap.size + 1 + 1) rfl 80 #[.int .i64 r.t, .int .i64 r.q, .int .i64 r.v, .slice P p pc, .slice Q q qc] (fun _ h => h.2) _ Tryz.underlying80 rfl IX.out (by first | rfl | simp [Region.wanted, yielded] | (simp [Region.wanted, yielded, Act.put] <;> omega))
    try simp only [Act.put, List.setIfInBounds_toArray, List.set_cons_zero, List.set_cons_succ]
    refine wpAnyE_takeS (i := 1) (v := .agg #[.int .i64 d.r1, .int .i64 d.r2, .int .i64 d.r3, .int .i64 d.r4, .int .i64 d.r5, .int .i64 d.r6, .int .i64 d.r7, .slice L m mc, .int .i64 d.r8]) (by simp only [List.getElem?_toArray, List.getElem?_cons_succ, List.getElem?_cons_zero]; rfl) (by kernel_rfl) (by kernel_rfl) (by kernel_rfl) (by exact fun _ _ _ h => h) (by kernel_rfl) ?y1 hH ?_
    case y1 => exact yields_box 46 _ rfl (w.heap.size) rfl 46 #[.int .i64 d.r1, .int .i64 d.r2, .int .i64 d.r3, .int .i64 d.r4, .int .i64 d.r5, .int .i64 d.r6, .int .i64 d.r7, .slice L m mc, .int .i64 d.r8] (fun _ h => h.1) _ Tryz.underlying46 rfl (by kernel_rfl) (by first | rfl | simp [Region.wanted, yielded] | (simp [Region.wanted, yielded, Act.put] <;> omega))
    try simp only [Act.put, List.setIfInBounds_toArray, List.set_cons_zero, List.set_cons_succ]
    refine wpAnyE_one (i := 2) (by kernel_rfl) (by simp only [List.getElem?_toArray, List.getElem?_cons_succ, List.getElem?_cons_zero]; rfl) (fun K' hK => ?_)
    go_simp
    refine (recOpen_is d.r1 d.r2 d.r3 d.r4 d.r5 d.r6 d.r7 L m mc d.r8 w1).mono ?_
    rintro e w2 ⟨rfl, hb⟩
    replace E := bel_trans E hb
    replace D := D.later hb D.lt
    replace V := V.later hb V.lt
    replace X := X.later hb X.lt
    replace H1 := Lib.hid (H1.out.later hb)
    replace H2 := Lib.hid (H2.out.later hb)
    replace hXl := Nat.lt_of_lt_of_le hXl hb.size
    clear hb
    obtain ⟨w1, rfl⟩ : ∃ x, x = w2 := ⟨_, rfl⟩
    clear hH
    refine hK.out _ _ ⟨D, V⟩ (fun hH => ?_)
    clear hK K'
    try simp only [Act.put, List.setIfInBounds_toArray, List.set_cons_zero, List.set_cons_succ]
    refine wpAnyE_one (i := 3) (by kernel_rfl) (by simp only [List.getElem?_toArray, List.getElem?_cons_succ, List.getElem?_cons_zero]; rfl) (fun K' hK => ?_)
    go_simp
    refine (withOpen_is r.t r.q r.v P p pc Q q qc d.r4 d.r5 d.r6 d.r7 r.ps r.os w1 hs1 hs2 H1.out H2.out).mono ?_
    rintro e w2 hE
    obtain ⟨u, v, rfl, hL, hb⟩ := regR_at hE
    have hN := hb.size
    replace E := bel_trans E hb
    replace D := D.later hb D.lt
    replace V := V.later hb V.lt
    replace X := X.later hb X.lt
    have hz := X.lt
    clear hE hb
    have hon : ontoD g d r = ⟨r.t, r.q, r.v, r.ps, withO r.os (d.r4, d.r5, d.r6, d.r7)⟩ := by unfold ontoD; rw [if_pos hh2.out]
    replace hon := Lib.hid hon
    clear hH
    refine hK.out _ _ ⟨D, V⟩ (fun hH => ?_)
    clear hK K'
    try simp only [Act.put, List.setIfInBounds_toArray, List.set_cons_zero, List.set_cons_succ]
    have OL := Lib.hid (oneR hL.at)
    generalize w1.heap.size = N at hL hN hXl
    have ht := turns_setRow w2 (w.heap.size + 1 + 1 + 1) #[.int .i64 r.t, .int .i64 r.q, .int .i64 r.v, u, v]
    have B := Lib.hid (X.setRow #[.int .i64 r.t, .int .i64 r.q, .int .i64 r.v, u, v])
    obtain ⟨hL2, hb2⟩ := madeR_put (w3 := w2.setRow (w.heap.size + 1 + 1 + 1) #[.int .i64 r.t, .int .i64 r.q, .int .i64 r.v, u, v]) E (by omega) hXl hN hL rfl
    replace hL2 := Lib.hid hL2
    replace hb2 := Lib.hid hb2
    refine wpAnyE_end (i := 4) (by kernel_rfl) (by simp only [List.getElem?_toArray, List.getElem?_cons_succ, List.getElem?_cons_zero]; rfl) (by kernel_rfl) (fun K' hK => ?_)
    rw [if_pos (by first | rfl | kernel_rfl | simp [Region.wanted, yielded])]
    refine wp_store_row 80 _ _ rfl (w.heap.size + 1 + 1 + 1) #[.int .i64 r.t, .int .i64 r.q, .int .i64 r.v, u, v] rfl rfl 80 #[.int .i64 0, .int .i64 0, .int .i64 0, .slice none 0 0, .slice none 0 0] X IX.out rfl OL.out.2 ?_
    refine hK.out _ _ ⟨D.turn ht (by omega), V.turn ht (by omega)⟩ ?_
    clear hK K'
    try simp only [Act.put]
    clear hH D V X ht hL
    go_wp2
    exact bodyPost_ret (v := .agg #[.int .i64 r.t, .int .i64 r.q, .int .i64 r.v, u, v]) (results_row9 (Tryz.results178) _ _ (w.heap.size + 1 + 1 + 1) 80 #[.int .i64 r.t, .int .i64 r.q, .int .i64 r.v, u, v] _ rfl B.out Tryz.underlying80 rfl IX.out) rfl (by rw [hon.out]; exact ⟨u, v, rfl, hL2.out, hb2.out⟩)
  have h2b : (d.r2 == 1) = false := by simpa using h2
  have hh2 := Lib.hid h2
  clear h2
  go_upto_region 3 with fail
  clear d1 h2b
  obtain ⟨d0, d1, d2, d3, d4, d5, d6, d7, d8⟩ := D.nine
  obtain ⟨g0, g1, g2, g3, g4⟩ := G.five
  obtain ⟨v0, v1, v2, v3, v4⟩ := V.five
  go_wp2_with fail
  obtain ⟨O, hO⟩ : ∃ O, outW g.s g.l g.c g.sh g.zs d.r3 r.t r.q r.v r.ps r.os d.r5 d.r6 d.r7 d.ps = O := ⟨_, rfl⟩
  refine (written_is g.s g.l g.c g.sh A n cap g.zs d.r3 r.t r.q r.v P p pc Q q qc d.r5 d.r6 d.r7 L m mc r.ps r.os d.ps w0 HM.out HR.out (by have := HL1.out; omega) (by have := HL2.out; omega) H1.out H2.out hmc HP.out).mono ?_
  rintro e w1 hE
  rw [hO] at hE
  obtain ⟨u, v, rfl, hL, hb⟩ := wrR_at hE
  have hon : ontoD g d r = ⟨O.t, O.q, O.v, O.cs, O.os⟩ := by unfold ontoD; rw [if_neg hh2.out, hO]
  have HON := Lib.hid hon
  replace E := bel_trans E hb
  replace X := X.later hb X.lt
  have OL := Lib.hid (oneR hL.at)
  clear hE hO hon g0 g1 g2 g3 g4 v0 v1 v2 v3 v4 d0 d1 d2 d3 d4 d5 d6 d7 d8 D G V
  have hN := hb.size
  clear hb
  generalize w0.heap.size = N at hL hN hXl
  have ZB := Box.new w1 80 #[.int .i64 0, .int .i64 0, .int .i64 0, .slice none 0 0, .slice none 0 0]
  have hn := bel_new_row w1 #[.int .i64 0, .int .i64 0, .int .i64 0, .slice none 0 0, .slice none 0 0] 80 #[.int .i64 O.t, .int .i64 O.q, .int .i64 O.v, u, v]
  have VB := ZB.setRow #[.int .i64 O.t, .int .i64 O.q, .int .i64 O.v, u, v]
  have hV1 := X.lt
  replace hL := (keepsLR _).later hL hn
  replace E := bel_trans E hn
  replace X := X.later hn X.lt
  go_upto_region 4 with (refine wpList_store_row rfl 80 _ _ rfl w1.heap.size _ rfl rfl 80 #[.int .i64 0, .int .i64 0, .int .i64 0, .slice none 0 0, .slice none 0 0] ZB IX.out rfl OL.out.2 ?_)
  clear ZB
  have hz2 := hn.size
  clear hn
  generalize ((w1.alloc _).setRow _ _ : World) = w2 at hL E X VB hz2 ⊢
  generalize w1.heap.size = VV at hL hN hV1 VB hz2 ⊢
  have ht := turns_setRow w2 (w.heap.size + 1 + 1 + 1) #[.int .i64 O.t, .int .i64 O.q, .int .i64 O.v, u, v]
  have B := Lib.hid (X.setRow #[.int .i64 O.t, .int .i64 O.q, .int .i64 O.v, u, v])
  obtain ⟨hL2, hb2⟩ := madeR_put (w3 := w2.setRow (w.heap.size + 1 + 1 + 1) #[.int .i64 O.t, .int .i64 O.q, .int .i64 O.v, u, v]) E (by omega) hXl (by omega) ((keepsLR _).sub hL (fun b hb => ⟨hb.1, by have := hb.2; omega⟩)) rfl
  replace hL2 := Lib.hid hL2
  replace hb2 := Lib.hid hb2
  clear ht hL E
  go_wp2_with (first | (refine wpList_load_box 80 _ rfl VV rfl 80 #[.int .i64 O.t, .int .i64 O.q, .int .i64 O.v, u, v] VB _ Tryz.underlying80 rfl IX.out (by first | rfl | simp [Region.wanted, yielded] | (simp [Region.wanted, yielded, Act.put] <;> omega)) ?_) | (refine wpList_store_row rfl 80 _ _ rfl (w.heap.size + 1 + 1 + 1) _ rfl rfl 80 #[.int .i64 0, .int .i64 0, .int .i64 0, .slice none 0 0, .slice none 0 0] X IX.out rfl OL.out.2 ?_))
  exact bodyPost_ret (v := .agg #[.int .i64 O.t, .int .i64 O.q, .int .i64 O.v, u, v]) (results_row9 (Tryz.results178) _ _ (w.heap.size + 1 + 1 + 1) 80 #[.int .i64 O.t, .int .i64 O.q, .int .i64 O.v, u, v] _ rfl B.out Tryz.underlying80 rfl IX.out) rfl (by rw [HON.out]; exact ⟨u, v, rfl, hL2.out, hb2.out⟩)

end Go.Proofs.YtjdepjpjjgkmbaaGreat

/- The model's l9Apply: a right record is done to its shelf (written by apply_s.py); conditions: the shelves are right, the sizes. -/
namespace Go.Proofs.YtjdepjpjjgkmbaaGreat
open Go Go.RowKit

theorem hreg {P : RegD → World → (Nat → Prop) → Value → Prop} (kp : ∀ d, Keeps (P d)) {w : World} {g lo : Nat} {rs : List RegD} (h : RegsOwn P w g lo rs) {i : Nat} (hi : i < rs.length) :
    ∃ u v, w.cell? ⟨g, i * 5, none⟩ = some (.int .i64 (rs[i]).t) ∧ w.cell? ⟨g, i * 5 + 1, none⟩ = some (.int .i64 (rs[i]).q) ∧ w.cell? ⟨g, i * 5 + 2, none⟩ = some (.int .i64 (rs[i]).v) ∧ w.cell? ⟨g, i * 5 + 3, none⟩ = some u ∧ w.cell? ⟨g, i * 5 + 4, none⟩ = some v ∧
      P rs[i] w (fun b => lo ≤ b) (.agg #[.int .i64 (rs[i]).t, .int .i64 (rs[i]).q, .int .i64 (rs[i]).v, u, v]) := by
  obtain ⟨_, Fs, hR, hF⟩ := h
  obtain ⟨u, v, c0, c1, c2, c3, c4, hP⟩ := hR.get hi
  exact ⟨u, v, c0, c1, c2, c3, c4, (kp _).sub hP (fun b hb => (hF i hi b hb).1)⟩
theorem grownG5 {w w2 : World} (h : Below w.heap.size w w2) (G : Nat) {o0 o1 o2 o3 o4 : Nat} (x0 x1 x2 x3 x4 : Value) : w.grownBy (((((w2.setCell ⟨G, o0, none⟩ x0).setCell ⟨G, o1, none⟩ x1).setCell ⟨G, o2, none⟩ x2).setCell ⟨G, o3, none⟩ x3).setCell ⟨G, o4, none⟩ x4) (some G) := by
  have t5 : Turns (· = G) w2 (((((w2.setCell ⟨G, o0, none⟩ x0).setCell ⟨G, o1, none⟩ x1).setCell ⟨G, o2, none⟩ x2).setCell ⟨G, o3, none⟩ x3).setCell ⟨G, o4, none⟩ x4) :=
    ((((turns_cell5 w2 G _ _).trans (turns_cell5 _ G _ _)).trans (turns_cell5 _ G _ _)).trans (turns_cell5 _ G _ _)).trans (turns_cell5 _ G _ _)
  exact ⟨t5.os.trans h.os, t5.tape.trans h.tape, t5.output.trans h.output, Nat.le_trans h.size t5.size, fun i hi hne => (t5.block i (Nat.lt_of_lt_of_le hi h.size) (fun e => hne (by rw [e]))).trans (h.block i hi)⟩

set_option maxRecDepth 100000 in
set_option maxHeartbeats 16000000 in
theorem l9Apply_is (g : GrpD) (d : RecD) (A : Option Addr) (n cap : Nat) (L : Option Addr) (m mc : Nat) (G k cap' lo : Nat) (rs : List RegD) (i : Nat) (w : World) (hi : d.r3 = (i : Int)) (hil : i < rs.length) (hlen : rs.length = k)
    (hm : n ≤ maxLen) (hgr : Row w w.heap.size A n g.zs) (hmc : m ≤ 4194304) (hp : Pairs w w.heap.size L m d.ps) (hR : RegsOwn AtW w G lo rs)
    (hgood : regG g d.r3 rs[i] = true) (hkn : kndB g.s g.l g.c g.sh g.zs d.r2 d.r3 d.r4 d.r5 d.r6 d.r7 d.ps = true) (hs1 : (rs[i]).ps.length ≤ 2000000) (hs2 : (rs[i]).os.length ≤ 2000000) :
    Calls Tryz.prog 135 #[.agg #[.int .i64 g.s, .int .i64 g.l, .int .i64 g.c, .int .i64 g.sh, .slice A n cap], .slice (some ⟨G, 0, none⟩) k cap', .agg #[.int .i64 d.r1, .int .i64 d.r2, .int .i64 (i : Int), .int .i64 d.r4, .int .i64 d.r5, .int .i64 d.r6, .int .i64 d.r7, .slice L m mc, .int .i64 d.r8]] w fun e w' => (∃ v, e = .returned v) ∧ RegsOwn AtW w' G lo (rs.set i (ontoD g d rs[i])) ∧ w.grownBy w' (some G) := by
  have E := bel_trans (bel_alloc w (.cells #[.int .i64 g.s, .int .i64 g.l, .int .i64 g.c, .int .i64 g.sh, .slice A n cap] 26)) (bel_alloc _ (.cells #[.int .i64 d.r1, .int .i64 d.r2, .int .i64 (i : Int), .int .i64 d.r4, .int .i64 d.r5, .int .i64 d.r6, .int .i64 d.r7, .slice L m mc, .int .i64 d.r8] 46))
  have D := (Box.new w 26 #[.int .i64 g.s, .int .i64 g.l, .int .i64 g.c, .int .i64 g.sh, .slice A n cap]).alloc (.cells #[.int .i64 d.r1, .int .i64 d.r2, .int .i64 (i : Int), .int .i64 d.r4, .int .i64 d.r5, .int .i64 d.r6, .int .i64 d.r7, .slice L m mc, .int .i64 d.r8] 46)
  have R := Box.new (w.alloc (.cells #[.int .i64 g.s, .int .i64 g.l, .int .i64 g.c, .int .i64 g.sh, .slice A n cap] 26)) 46 #[.int .i64 d.r1, .int .i64 d.r2, .int .i64 (i : Int), .int .i64 d.r4, .int .i64 d.r5, .int .i64 d.r6, .int .i64 d.r7, .slice L m mc, .int .i64 d.r8]
  simp only [World.size_alloc] at R
  have HR := Lib.hid ((hgr.below E (Nat.le_refl _)).more E.size)
  have HP := Lib.hid (hp.later E)
  have K := RegsOwn.later keepsW hR E
  have HG := Lib.hid hgood
  have HK := Lib.hid hkn
  have HM := Lib.hid hm
  have HI := Lib.hid hi
  have hGl : G < w.heap.size := by
    obtain ⟨_, Fs, h, _⟩ := hR
    exact h.lt
  clear hgr hp hR hgood hkn hm hi
  have hlt : (i : Int) < (k : Int) := by omega
  obtain ⟨r, hr⟩ : ∃ r : RegD, rs[i] = r := ⟨_, rfl⟩
  rw [hr] at hs1 hs2 ⊢
  replace HG : Hid (regG g d.r3 r = true) := hr ▸ HG
  have hlen' := Lib.hid hlen
  clear hlen
  go_enter Tryz.func135, Tryz.ntmps135
  go_upto_region 1 with fail
  generalize ((w.alloc _).alloc _ : World) = w0 at E D R HR HP K ⊢
  have d1 := R.cell 1
  by_cases h2 : d.r2 = 1
  · skip
    have h2b : (d.r2 == 1) = true := by simpa using h2
    go_upto_region 2 with fail
    clear d1
    obtain ⟨u0, v0, c0, c1, c2, c3, c4, hA⟩ := hreg keepsW K hil
    rw [hr] at c0 c1 c2 hA
    obtain ⟨P, p, pc, Q, q, qc, rfl, rfl, hS1, hS2, hl1, hl2⟩ := hA.slc
    refine wp_region_sink 17 (fun w' => Box w' w.heap.size 26 #[.int .i64 g.s, .int .i64 g.l, .int .i64 g.c, .int .i64 g.sh, .slice A n cap] ∧ Box w' (w.heap.size + 1) 46 #[.int .i64 d.r1, .int .i64 d.r2, .int .i64 (i : Int), .int .i64 d.r4, .int .i64 d.r5, .int .i64 d.r6, .int .i64 d.r7, .slice L m mc, .int .i64 d.r8] ∧ w'.cell? ⟨G, i * 5, none⟩ = some (.int .i64 r.t) ∧ w'.cell? ⟨G, i * 5 + 1, none⟩ = some (.int .i64 r.q) ∧ w'.cell? ⟨G, i * 5 + 2, none⟩ = some (.int .i64 r.v) ∧ w'.cell? ⟨G, i * 5 + 3, none⟩ = some (.slice P p pc) ∧ w'.cell? ⟨G, i * 5 + 4, none⟩ = some (.slice Q q qc)) (by kernel_rfl) ⟨D, R, c0, c1, c2, c3, c4⟩ (fun hH => ?_)
    have hb := (Below.refl w0.heap.size w0).drew
    replace E := bel_trans E hb
    replace D := D.later hb D.lt
    replace R := R.later hb R.lt
    have K1 := RegsOwn.later keepsW K hb
    replace HR := Lib.hid ((HR.out.below hb (Nat.le_refl _)).more hb.size)
    replace HP := Lib.hid (HP.out.later hb)
    replace hS1 := hS1.later hb
    replace hS2 := hS2.later hb
    clear hb hA K
    have K := K1
    clear K1
    generalize w0.drew = w1 at E D R HR HP K hS1 hS2 hH ⊢
    refine wpAnyE_pure (i := 0) (v := ?vp1) (by simp only [List.getElem?_toArray, List.getElem?_cons_zero]; rfl) (by kernel_rfl) (by kernel_rfl) (by kernel_rfl) (by exact fun _ _ _ h => h) (by kernel_rfl) (Or.inl ⟨by rfl, ?yp1⟩) hH ?rp1
    case yp1 => (intro w' hSw; (try dsimp only at hSw); go_simp; try with_reducible rfl)
    try simp only [Act.put, List.setIfInBounds_toArray, List.set_cons_zero, List.set_cons_succ]
    refine wpAnyE_pure (i := 1) (v := ?vp2) (by simp only [List.getElem?_toArray, List.getElem?_cons_succ, List.getElem?_cons_zero]; rfl) (by kernel_rfl) (by kernel_rfl) (by kernel_rfl) (by exact fun _ _ _ h => h) (by kernel_rfl) (Or.inl ⟨by rfl, ?yp2⟩) hH ?rp2
    case yp2 => (intro w' hSw; (try dsimp only at hSw); go_simp; try with_reducible rfl)
    try simp only [Act.put, List.setIfInBounds_toArray, List.set_cons_zero, List.set_cons_succ]
    refine wpAnyE_take (i := 2) (v := .int .i64 (i : Int)) (by simp only [List.getElem?_toArray, List.getElem?_cons_succ, List.getElem?_cons_zero]; rfl) (by kernel_rfl) (by kernel_rfl) (by kernel_rfl) (by exact fun _ _ _ h => h) (by kernel_rfl) (Or.inl ⟨by rfl, ?y3⟩) hH ?r3
    case y3 => (intro w' hSw; have hc2 : w'.cell? ⟨w.heap.size + 1, 2, none⟩ = some (.int .i64 (i : Int)) := hSw.2.1.cell 2; clear hSw; go_simp; try with_reducible rfl)
    try simp only [Act.put, List.setIfInBounds_toArray, List.set_cons_zero, List.set_cons_succ]
    refine wpAnyE_pure (i := 3) (v := ?vp4) (by simp only [List.getElem?_toArray, List.getElem?_cons_succ, List.getElem?_cons_zero]; rfl) (by kernel_rfl) (by kernel_rfl) (by kernel_rfl) (by exact fun _ _ _ h => h) (by kernel_rfl) (Or.inl ⟨by rfl, ?yp4⟩) hH ?rp4
    case yp4 => (intro w' hSw; (try dsimp only at hSw); go_simp; try with_reducible rfl)
    try simp only [Act.put, List.setIfInBounds_toArray, List.set_cons_zero, List.set_cons_succ]
    refine wpAnyE_pure (i := 4) (v := ?vp5) (by simp only [List.getElem?_toArray, List.getElem?_cons_succ, List.getElem?_cons_zero]; rfl) (by kernel_rfl) (by kernel_rfl) (by kernel_rfl) (by exact fun _ _ _ h => h) (by kernel_rfl) (Or.inl ⟨by rfl, ?yp5⟩) hH ?rp5
    case yp5 => (intro w' hSw; (try dsimp only at hSw); go_simp; try with_reducible rfl)
    try simp only [Act.put, List.setIfInBounds_toArray, List.set_cons_zero, List.set_cons_succ]
    refine wpAnyE_take (i := 5) (v := .int .i64 (i : Int)) (by simp only [List.getElem?_toArray, List.getElem?_cons_succ, List.getElem?_cons_zero]; rfl) (by kernel_rfl) (by kernel_rfl) (by kernel_rfl) (by exact fun _ _ _ h => h) (by kernel_rfl) (Or.inl ⟨by rfl, ?y6⟩) hH ?r6
    case y6 => (intro w' hSw; have hc2 : w'.cell? ⟨w.heap.size + 1, 2, none⟩ = some (.int .i64 (i : Int)) := hSw.2.1.cell 2; clear hSw; go_simp; try with_reducible rfl)
    try simp only [Act.put, List.setIfInBounds_toArray, List.set_cons_zero, List.set_cons_succ]
    refine wpAnyE_pure (i := 6) (v := ?vp7) (by simp only [List.getElem?_toArray, List.getElem?_cons_succ, List.getElem?_cons_zero]; rfl) (by kernel_rfl) (by kernel_rfl) (by kernel_rfl) (by exact fun _ _ _ h => h) (by kernel_rfl) (Or.inl ⟨by rfl, ?yp7⟩) hH ?rp7
    case yp7 => (intro w' hSw; (try dsimp only at hSw); go_simp; try with_reducible rfl)
    try simp only [Act.put, List.setIfInBounds_toArray, List.set_cons_zero, List.set_cons_succ]
    refine wpAnyE_take (i := 7) (v := .agg #[.int .i64 r.t, .int .i64 r.q, .int .i64 r.v, .slice P p pc, .slice Q q qc]) (by simp only [List.getElem?_toArray, List.getElem?_cons_succ, List.getElem?_cons_zero]; rfl) (by kernel_rfl) (by kernel_rfl) (by kernel_rfl) (by exact fun _ _ _ h => h) (by kernel_rfl) (Or.inl ⟨by rfl, ?y8⟩) hH ?r8
    case y8 => (intro w' hSw; have hr0 : w'.cell? ⟨G, i * 5, none⟩ = some (.int .i64 r.t) := hSw.2.2.1; have hr1 : w'.cell? ⟨G, i * 5 + 1, none⟩ = some (.int .i64 r.q) := hSw.2.2.2.1; have hr2 : w'.cell? ⟨G, i * 5 + 2, none⟩ = some (.int .i64 r.v) := hSw.2.2.2.2.1; have hr3 : w'.cell? ⟨G, i * 5 + 3, none⟩ = some (.slice P p pc) := hSw.2.2.2.2.2.1; have hr4 : w'.cell? ⟨G, i * 5 + 4, none⟩ = some (.slice Q q qc) := hSw.2.2.2.2.2.2; clear hSw; go_simp; try with_reducible rfl)
    try simp only [Act.put, List.setIfInBounds_toArray, List.set_cons_zero, List.set_cons_succ]
    refine wpAnyE_pure (i := 8) (v := ?vp9) (by simp only [List.getElem?_toArray, List.getElem?_cons_succ, List.getElem?_cons_zero]; rfl) (by kernel_rfl) (by kernel_rfl) (by kernel_rfl) (by exact fun _ _ _ h => h) (by kernel_rfl) (Or.inl ⟨by rfl, ?yp9⟩) hH ?rp9
    case yp9 => (intro w' hSw; (try dsimp only at hSw); go_simp; try with_reducible rfl)
    try simp only [Act.put, List.setIfInBounds_toArray, List.set_cons_zero, List.set_cons_succ]
    refine wpAnyE_take (i := 9) (v := .int .i64 d.r4) (by simp only [List.getElem?_toArray, List.getElem?_cons_succ, List.getElem?_cons_zero]; rfl) (by kernel_rfl) (by kernel_rfl) (by kernel_rfl) (by exact fun _ _ _ h => h) (by kernel_rfl) (Or.inl ⟨by rfl, ?y10⟩) hH ?r10
    case y10 => (intro w' hSw; have hc3 : w'.cell? ⟨w.heap.size + 1, 3, none⟩ = some (.int .i64 d.r4) := hSw.2.1.cell 3; clear hSw; go_simp; try with_reducible rfl)
    try simp only [Act.put, List.setIfInBounds_toArray, List.set_cons_zero, List.set_cons_succ]
    refine wpAnyE_pure (i := 10) (v := ?vp11) (by simp only [List.getElem?_toArray, List.getElem?_cons_succ, List.getElem?_cons_zero]; rfl) (by kernel_rfl) (by kernel_rfl) (by kernel_rfl) (by exact fun _ _ _ h => h) (by kernel_rfl) (Or.inl ⟨by rfl, ?yp11⟩) hH ?rp11
    case yp11 => (intro w' hSw; (try dsimp only at hSw); go_simp; try with_reducible rfl)
    try simp only [Act.put, List.setIfInBounds_toArray, List.set_cons_zero, List.set_cons_succ]
    refine wpAnyE_take (i := 11) (v := .agg #[.int .i64 d.r5, .int .i64 d.r6]) (by simp only [List.getElem?_toArray, List.getElem?_cons_succ, List.getElem?_cons_zero]; rfl) (by kernel_rfl) (by kernel_rfl) (by kernel_rfl) (by exact fun _ _ _ h => h) (by kernel_rfl) (Or.inl ⟨by rfl, ?y12⟩) hH ?r12
    case y12 => (intro w' hSw; have hc4 : w'.cell? ⟨w.heap.size + 1, 4, none⟩ = some (.int .i64 d.r5) := hSw.2.1.cell 4; have hc5 : w'.cell? ⟨w.heap.size + 1, 5, none⟩ = some (.int .i64 d.r6) := hSw.2.1.cell 5; clear hSw; go_simp; try with_reducible rfl)
    try simp only [Act.put, List.setIfInBounds_toArray, List.set_cons_zero, List.set_cons_succ]
    refine wpAnyE_pure (i := 12) (v := ?vp13) (by simp only [List.getElem?_toArray, List.getElem?_cons_succ, List.getElem?_cons_zero]; rfl) (by kernel_rfl) (by kernel_rfl) (by kernel_rfl) (by exact fun _ _ _ h => h) (by kernel_rfl) (Or.inl ⟨by rfl, ?yp13⟩) hH ?rp13
    case yp13 => (intro w' hSw; (try dsimp only at hSw); go_simp; try with_reducible rfl)
    try simp only [Act.put, List.setIfInBounds_toArray, List.set_cons_zero, List.set_cons_succ]
    refine wpAnyE_take (i := 13) (v := .int .i64 d.r7) (by simp only [List.getElem?_toArray, List.getElem?_cons_succ, List.getElem?_cons_zero]; rfl) (by kernel_rfl) (by kernel_rfl) (by kernel_rfl) (by exact fun _ _ _ h => h) (by kernel_rfl) (Or.inl ⟨by rfl, ?y14⟩) hH ?r14
    case y14 => (intro w' hSw; have hc6 : w'.cell? ⟨w.heap.size + 1, 6, none⟩ = some (.int .i64 d.r7) := hSw.2.1.cell 6; clear hSw; go_simp; try with_reducible rfl)
    try simp only [Act.put, List.setIfInBounds_toArray, List.set_cons_zero, List.set_cons_succ]
    refine wpAnyE_pure (i := 14) (v := ?vp15) (by simp only [List.getElem?_toArray, List.getElem?_cons_succ, List.getElem?_cons_zero]; rfl) (by kernel_rfl) (by kernel_rfl) (by kernel_rfl) (by exact fun _ _ _ h => h) (by kernel_rfl) (Or.inl ⟨by rfl, ?yp15⟩) hH ?rp15
    case yp15 => (intro w' hSw; (try dsimp only at hSw); go_simp; try with_reducible rfl)
    try simp only [Act.put, List.setIfInBounds_toArray, List.set_cons_zero, List.set_cons_succ]
    refine wpAnyE_one (i := 15) (by kernel_rfl) (by simp only [List.getElem?_toArray, List.getElem?_cons_succ, List.getElem?_cons_zero]; rfl) (fun K' hK => ?_)
    go_simp
    refine (specWith_is r.t r.q r.v P p pc Q q qc d.r4 d.r5 d.r6 d.r7 r.ps r.os w1 hs1 hs2 hS1 hS2).mono ?_
    rintro e w2 hE
    obtain ⟨u, v, rfl, hL, hb⟩ := regR_at hE
    have hon : ontoD g d r = ⟨r.t, r.q, r.v, r.ps, withO r.os (d.r4, d.r5, d.r6, d.r7)⟩ := by unfold ontoD; rw [if_pos h2]
    replace hL := hL.atW
    obtain ⟨A1, n1, c1', A2, n2', c2', rfl, rfl, -, -, -, -⟩ := hL.slc
    have hcG : ∀ o x, w1.cell? ⟨G, o, none⟩ = some x → w2.cell? ⟨G, o, none⟩ = some x := fun o x h => (hb.cell (p := ⟨G, o, none⟩) (Nat.lt_of_lt_of_le hGl E.size)).trans h
    obtain ⟨D1, R1, q0, q1, q2, q3, q4⟩ := hH
    have n0 := hcG _ _ q0
    have n1 := hcG _ _ q1
    have n2 := hcG _ _ q2
    have n3 := hcG _ _ q3
    have n4 := hcG _ _ q4
    have D2 := D.later hb D.lt
    have R2 := R.later hb R.lt
    have Kf := Lib.hid (RegsOwn.put keepsW K hb hil hL)
    have E2 := Lib.hid (bel_trans E hb)
    have fG : ∀ o, w2.frozen? ⟨G, o, none⟩ = false := by
      obtain ⟨_, Fs, h, _⟩ := RegsOwn.later keepsW K hb
      exact h.frozen
    refine hK.out _ _ ⟨D2, R2, n0, n1, n2, n3, n4⟩ (fun hH => ?_)
    clear hK K' K hb hE hcG q0 q1 q2 q3 q4 D1 R1 hL
    try simp only [Act.put, List.setIfInBounds_toArray, List.set_cons_zero, List.set_cons_succ]
    refine wpAnyE_pure (i := 16) (v := ?vp16) (by simp only [List.getElem?_toArray, List.getElem?_cons_succ, List.getElem?_cons_zero]; rfl) (by kernel_rfl) (by kernel_rfl) (by kernel_rfl) (by exact fun _ _ _ h => h) (by kernel_rfl) (Or.inl ⟨by rfl, ?yp16⟩) hH ?rp16
    case yp16 => (intro w' hSw; (try dsimp only at hSw); go_simp; try with_reducible rfl)
    try simp only [Act.put, List.setIfInBounds_toArray, List.set_cons_zero, List.set_cons_succ]
    refine wpAnyE_last (by kernel_rfl) (by simp only [List.getElem?_toArray, List.getElem?_cons_succ, List.getElem?_cons_zero]; rfl) (by kernel_rfl) (fun K' hK => ?_)
    go_simp
    refine hK.out _ _ ?_
    clear hK K' hH
    try simp only [Act.put, List.setIfInBounds_toArray, List.set_cons_zero, List.set_cons_succ]
    clear n0 n1 n2 n3 n4 fG D2 R2
    go_wp2
    refine bodyPost_ret (results_none rfl _ _ _) rfl ?_
    refine ⟨⟨_, rfl⟩, hon ▸ Kf.out, grownG5 E2.out G _ _ _ _ _⟩
  · skip
    have h2b : (d.r2 == 1) = false := by simpa using h2
    go_upto_region 3 with fail
    clear d1
    obtain ⟨u0, v0, c0, c1, c2, c3, c4, hA⟩ := hreg keepsW K hil
    rw [hr] at c0 c1 c2 hA
    obtain ⟨P, p, pc, Q, q, qc, rfl, rfl, hS1, hS2, hl1, hl2⟩ := hA.slc
    refine wp_region_sink 22 (fun w' => Box w' w.heap.size 26 #[.int .i64 g.s, .int .i64 g.l, .int .i64 g.c, .int .i64 g.sh, .slice A n cap] ∧ Box w' (w.heap.size + 1) 46 #[.int .i64 d.r1, .int .i64 d.r2, .int .i64 (i : Int), .int .i64 d.r4, .int .i64 d.r5, .int .i64 d.r6, .int .i64 d.r7, .slice L m mc, .int .i64 d.r8] ∧ w'.cell? ⟨G, i * 5, none⟩ = some (.int .i64 r.t) ∧ w'.cell? ⟨G, i * 5 + 1, none⟩ = some (.int .i64 r.q) ∧ w'.cell? ⟨G, i * 5 + 2, none⟩ = some (.int .i64 r.v) ∧ w'.cell? ⟨G, i * 5 + 3, none⟩ = some (.slice P p pc) ∧ w'.cell? ⟨G, i * 5 + 4, none⟩ = some (.slice Q q qc)) (by kernel_rfl) ⟨D, R, c0, c1, c2, c3, c4⟩ (fun hH => ?_)
    have hb := (Below.refl w0.heap.size w0).drew
    replace E := bel_trans E hb
    replace D := D.later hb D.lt
    replace R := R.later hb R.lt
    have K1 := RegsOwn.later keepsW K hb
    replace HR := Lib.hid ((HR.out.below hb (Nat.le_refl _)).more hb.size)
    replace HP := Lib.hid (HP.out.later hb)
    replace hS1 := hS1.later hb
    replace hS2 := hS2.later hb
    clear hb hA K
    have K := K1
    clear K1
    generalize w0.drew = w1 at E D R HR HP K hS1 hS2 hH ⊢
    refine wpAnyE_pure (i := 0) (v := ?vp17) (by simp only [List.getElem?_toArray, List.getElem?_cons_zero]; rfl) (by kernel_rfl) (by kernel_rfl) (by kernel_rfl) (by exact fun _ _ _ h => h) (by kernel_rfl) (Or.inl ⟨by rfl, ?yp17⟩) hH ?rp17
    case yp17 => (intro w' hSw; (try dsimp only at hSw); go_simp; try with_reducible rfl)
    try simp only [Act.put, List.setIfInBounds_toArray, List.set_cons_zero, List.set_cons_succ]
    refine wpAnyE_pure (i := 1) (v := ?vp18) (by simp only [List.getElem?_toArray, List.getElem?_cons_succ, List.getElem?_cons_zero]; rfl) (by kernel_rfl) (by kernel_rfl) (by kernel_rfl) (by exact fun _ _ _ h => h) (by kernel_rfl) (Or.inl ⟨by rfl, ?yp18⟩) hH ?rp18
    case yp18 => (intro w' hSw; (try dsimp only at hSw); go_simp; try with_reducible rfl)
    try simp only [Act.put, List.setIfInBounds_toArray, List.set_cons_zero, List.set_cons_succ]
    refine wpAnyE_take (i := 2) (v := .int .i64 (i : Int)) (by simp only [List.getElem?_toArray, List.getElem?_cons_succ, List.getElem?_cons_zero]; rfl) (by kernel_rfl) (by kernel_rfl) (by kernel_rfl) (by exact fun _ _ _ h => h) (by kernel_rfl) (Or.inl ⟨by rfl, ?y19⟩) hH ?r19
    case y19 => (intro w' hSw; have hc2 : w'.cell? ⟨w.heap.size + 1, 2, none⟩ = some (.int .i64 (i : Int)) := hSw.2.1.cell 2; clear hSw; go_simp; try with_reducible rfl)
    try simp only [Act.put, List.setIfInBounds_toArray, List.set_cons_zero, List.set_cons_succ]
    refine wpAnyE_take (i := 3) (v := .agg #[.int .i64 g.s, .int .i64 g.l, .int .i64 g.c, .int .i64 g.sh, .slice A n cap]) (by simp only [List.getElem?_toArray, List.getElem?_cons_succ, List.getElem?_cons_zero]; rfl) (by kernel_rfl) (by kernel_rfl) (by kernel_rfl) (by exact fun _ _ _ h => h) (by kernel_rfl) (Or.inl ⟨by rfl, ?y20⟩) hH ?r20
    case y20 => (intro w' hSw; have hg0 : w'.cell? ⟨w.heap.size, 0, none⟩ = some (.int .i64 g.s) := hSw.1.cell 0; have hg1 : w'.cell? ⟨w.heap.size, 1, none⟩ = some (.int .i64 g.l) := hSw.1.cell 1; have hg2 : w'.cell? ⟨w.heap.size, 2, none⟩ = some (.int .i64 g.c) := hSw.1.cell 2; have hg3 : w'.cell? ⟨w.heap.size, 3, none⟩ = some (.int .i64 g.sh) := hSw.1.cell 3; have hg4 : w'.cell? ⟨w.heap.size, 4, none⟩ = some (.slice A n cap) := hSw.1.cell 4; clear hSw; go_simp; try with_reducible rfl)
    try simp only [Act.put, List.setIfInBounds_toArray, List.set_cons_zero, List.set_cons_succ]
    refine wpAnyE_pure (i := 4) (v := ?vp21) (by simp only [List.getElem?_toArray, List.getElem?_cons_succ, List.getElem?_cons_zero]; rfl) (by kernel_rfl) (by kernel_rfl) (by kernel_rfl) (by exact fun _ _ _ h => h) (by kernel_rfl) (Or.inl ⟨by rfl, ?yp21⟩) hH ?rp21
    case yp21 => (intro w' hSw; (try dsimp only at hSw); go_simp; try with_reducible rfl)
    try simp only [Act.put, List.setIfInBounds_toArray, List.set_cons_zero, List.set_cons_succ]
    refine wpAnyE_take (i := 5) (v := .int .i64 (i : Int)) (by simp only [List.getElem?_toArray, List.getElem?_cons_succ, List.getElem?_cons_zero]; rfl) (by kernel_rfl) (by kernel_rfl) (by kernel_rfl) (by exact fun _ _ _ h => h) (by kernel_rfl) (Or.inl ⟨by rfl, ?y22⟩) hH ?r22
    case y22 => (intro w' hSw; have hc2 : w'.cell? ⟨w.heap.size + 1, 2, none⟩ = some (.int .i64 (i : Int)) := hSw.2.1.cell 2; clear hSw; go_simp; try with_reducible rfl)
    try simp only [Act.put, List.setIfInBounds_toArray, List.set_cons_zero, List.set_cons_succ]
    refine wpAnyE_pure (i := 6) (v := ?vp23) (by simp only [List.getElem?_toArray, List.getElem?_cons_succ, List.getElem?_cons_zero]; rfl) (by kernel_rfl) (by kernel_rfl) (by kernel_rfl) (by exact fun _ _ _ h => h) (by kernel_rfl) (Or.inl ⟨by rfl, ?yp23⟩) hH ?rp23
    case yp23 => (intro w' hSw; (try dsimp only at hSw); go_simp; try with_reducible rfl)
    try simp only [Act.put, List.setIfInBounds_toArray, List.set_cons_zero, List.set_cons_succ]
    refine wpAnyE_pure (i := 7) (v := ?vp24) (by simp only [List.getElem?_toArray, List.getElem?_cons_succ, List.getElem?_cons_zero]; rfl) (by kernel_rfl) (by kernel_rfl) (by kernel_rfl) (by exact fun _ _ _ h => h) (by kernel_rfl) (Or.inl ⟨by rfl, ?yp24⟩) hH ?rp24
    case yp24 => (intro w' hSw; (try dsimp only at hSw); go_simp; try with_reducible rfl)
    try simp only [Act.put, List.setIfInBounds_toArray, List.set_cons_zero, List.set_cons_succ]
    refine wpAnyE_take (i := 8) (v := .int .i64 (i : Int)) (by simp only [List.getElem?_toArray, List.getElem?_cons_succ, List.getElem?_cons_zero]; rfl) (by kernel_rfl) (by kernel_rfl) (by kernel_rfl) (by exact fun _ _ _ h => h) (by kernel_rfl) (Or.inl ⟨by rfl, ?y25⟩) hH ?r25
    case y25 => (intro w' hSw; have hc2 : w'.cell? ⟨w.heap.size + 1, 2, none⟩ = some (.int .i64 (i : Int)) := hSw.2.1.cell 2; clear hSw; go_simp; try with_reducible rfl)
    try simp only [Act.put, List.setIfInBounds_toArray, List.set_cons_zero, List.set_cons_succ]
    refine wpAnyE_pure (i := 9) (v := ?vp26) (by simp only [List.getElem?_toArray, List.getElem?_cons_succ, List.getElem?_cons_zero]; rfl) (by kernel_rfl) (by kernel_rfl) (by kernel_rfl) (by exact fun _ _ _ h => h) (by kernel_rfl) (Or.inl ⟨by rfl, ?yp26⟩) hH ?rp26
    case yp26 => (intro w' hSw; (try dsimp only at hSw); go_simp; try with_reducible rfl)
    try simp only [Act.put, List.setIfInBounds_toArray, List.set_cons_zero, List.set_cons_succ]
    refine wpAnyE_take (i := 10) (v := .agg #[.int .i64 r.t, .int .i64 r.q, .int .i64 r.v, .slice P p pc, .slice Q q qc]) (by simp only [List.getElem?_toArray, List.getElem?_cons_succ, List.getElem?_cons_zero]; rfl) (by kernel_rfl) (by kernel_rfl) (by kernel_rfl) (by exact fun _ _ _ h => h) (by kernel_rfl) (Or.inl ⟨by rfl, ?y27⟩) hH ?r27
    case y27 => (intro w' hSw; have hr0 : w'.cell? ⟨G, i * 5, none⟩ = some (.int .i64 r.t) := hSw.2.2.1; have hr1 : w'.cell? ⟨G, i * 5 + 1, none⟩ = some (.int .i64 r.q) := hSw.2.2.2.1; have hr2 : w'.cell? ⟨G, i * 5 + 2, none⟩ = some (.int .i64 r.v) := hSw.2.2.2.2.1; have hr3 : w'.cell? ⟨G, i * 5 + 3, none⟩ = some (.slice P p pc) := hSw.2.2.2.2.2.1; have hr4 : w'.cell? ⟨G, i * 5 + 4, none⟩ = some (.slice Q q qc) := hSw.2.2.2.2.2.2; clear hSw; go_simp; try with_reducible rfl)
    try simp only [Act.put, List.setIfInBounds_toArray, List.set_cons_zero, List.set_cons_succ]
    refine wpAnyE_pure (i := 11) (v := ?vp28) (by simp only [List.getElem?_toArray, List.getElem?_cons_succ, List.getElem?_cons_zero]; rfl) (by kernel_rfl) (by kernel_rfl) (by kernel_rfl) (by exact fun _ _ _ h => h) (by kernel_rfl) (Or.inl ⟨by rfl, ?yp28⟩) hH ?rp28
    case yp28 => (intro w' hSw; (try dsimp only at hSw); go_simp; try with_reducible rfl)
    try simp only [Act.put, List.setIfInBounds_toArray, List.set_cons_zero, List.set_cons_succ]
    refine wpAnyE_take (i := 12) (v := .agg #[.int .i64 d.r5, .int .i64 d.r6]) (by simp only [List.getElem?_toArray, List.getElem?_cons_succ, List.getElem?_cons_zero]; rfl) (by kernel_rfl) (by kernel_rfl) (by kernel_rfl) (by exact fun _ _ _ h => h) (by kernel_rfl) (Or.inl ⟨by rfl, ?y29⟩) hH ?r29
    case y29 => (intro w' hSw; have hc4 : w'.cell? ⟨w.heap.size + 1, 4, none⟩ = some (.int .i64 d.r5) := hSw.2.1.cell 4; have hc5 : w'.cell? ⟨w.heap.size + 1, 5, none⟩ = some (.int .i64 d.r6) := hSw.2.1.cell 5; clear hSw; go_simp; try with_reducible rfl)
    try simp only [Act.put, List.setIfInBounds_toArray, List.set_cons_zero, List.set_cons_succ]
    refine wpAnyE_pure (i := 13) (v := ?vp30) (by simp only [List.getElem?_toArray, List.getElem?_cons_succ, List.getElem?_cons_zero]; rfl) (by kernel_rfl) (by kernel_rfl) (by kernel_rfl) (by exact fun _ _ _ h => h) (by kernel_rfl) (Or.inl ⟨by rfl, ?yp30⟩) hH ?rp30
    case yp30 => (intro w' hSw; (try dsimp only at hSw); go_simp; try with_reducible rfl)
    try simp only [Act.put, List.setIfInBounds_toArray, List.set_cons_zero, List.set_cons_succ]
    refine wpAnyE_take (i := 14) (v := .int .i64 d.r7) (by simp only [List.getElem?_toArray, List.getElem?_cons_succ, List.getElem?_cons_zero]; rfl) (by kernel_rfl) (by kernel_rfl) (by kernel_rfl) (by exact fun _ _ _ h => h) (by kernel_rfl) (Or.inl ⟨by rfl, ?y31⟩) hH ?r31
    case y31 => (intro w' hSw; have hc6 : w'.cell? ⟨w.heap.size + 1, 6, none⟩ = some (.int .i64 d.r7) := hSw.2.1.cell 6; clear hSw; go_simp; try with_reducible rfl)
    try simp only [Act.put, List.setIfInBounds_toArray, List.set_cons_zero, List.set_cons_succ]
    refine wpAnyE_pure (i := 15) (v := ?vp32) (by simp only [List.getElem?_toArray, List.getElem?_cons_succ, List.getElem?_cons_zero]; rfl) (by kernel_rfl) (by kernel_rfl) (by kernel_rfl) (by exact fun _ _ _ h => h) (by kernel_rfl) (Or.inl ⟨by rfl, ?yp32⟩) hH ?rp32
    case yp32 => (intro w' hSw; (try dsimp only at hSw); go_simp; try with_reducible rfl)
    try simp only [Act.put, List.setIfInBounds_toArray, List.set_cons_zero, List.set_cons_succ]
    refine wpAnyE_take (i := 16) (v := .slice L m mc) (by simp only [List.getElem?_toArray, List.getElem?_cons_succ, List.getElem?_cons_zero]; rfl) (by kernel_rfl) (by kernel_rfl) (by kernel_rfl) (by exact fun _ _ _ h => h) (by kernel_rfl) (Or.inl ⟨by rfl, ?y33⟩) hH ?r33
    case y33 => (intro w' hSw; have hc7 : w'.cell? ⟨w.heap.size + 1, 7, none⟩ = some (.slice L m mc) := hSw.2.1.cell 7; clear hSw; go_simp; try with_reducible rfl)
    try simp only [Act.put, List.setIfInBounds_toArray, List.set_cons_zero, List.set_cons_succ]
    refine wpAnyE_one (i := 17) (by kernel_rfl) (by simp only [List.getElem?_toArray, List.getElem?_cons_succ, List.getElem?_cons_zero]; rfl) (fun K' hK => ?_)
    go_simp
    have hw : wrtB g.s g.l g.c g.sh g.zs (i : Int) d.r5 d.r6 d.r7 d.ps = true := by
      rcases knd_parts HK.out with ⟨h, -⟩ | ⟨-, -, hz, hl⟩
      · exact absurd h h2
      · rw [← HI.out]; exact lef_wrt hl hz
    refine (l7WriteV_yes g.s g.l g.c g.sh A n cap g.zs (i : Int) r.t r.q r.v P p pc Q q qc d.r5 d.r6 d.r7 L m mc r.ps r.os d.ps w1 HM.out HR.out hs1 hs2 hS1 hS2 hmc HP.out hw).mono ?_
    rintro e w2 hE
    rw [← HI.out] at hE
    obtain ⟨u, v, rfl, hL, hb⟩ := wroteV_at HG.out HK.out h2 hE
    obtain ⟨o, ho⟩ : ∃ o : RegD, ontoD g d r = o := ⟨_, rfl⟩
    rw [ho] at hL ⊢
    obtain ⟨A1, n1, c1', A2, n2', c2', rfl, rfl, -, -, -, -⟩ := hL.slc
    have hcG : ∀ o x, w1.cell? ⟨G, o, none⟩ = some x → w2.cell? ⟨G, o, none⟩ = some x := fun o x h => (hb.cell (p := ⟨G, o, none⟩) (Nat.lt_of_lt_of_le hGl E.size)).trans h
    obtain ⟨D1, R1, q0, q1, q2, q3, q4⟩ := hH
    have n0 := hcG _ _ q0
    have n1 := hcG _ _ q1
    have n2 := hcG _ _ q2
    have n3 := hcG _ _ q3
    have n4 := hcG _ _ q4
    have D2 := D.later hb D.lt
    have R2 := R.later hb R.lt
    have Kf := Lib.hid (RegsOwn.put keepsW K hb hil hL)
    have E2 := Lib.hid (bel_trans E hb)
    have fG : ∀ o, w2.frozen? ⟨G, o, none⟩ = false := by
      obtain ⟨_, Fs, h, _⟩ := RegsOwn.later keepsW K hb
      exact h.frozen
    refine hK.out _ _ ⟨D2, R2, n0, n1, n2, n3, n4⟩ (fun hH => ?_)
    clear hK K' K hb hE hcG q0 q1 q2 q3 q4 D1 R1 hL hw
    try simp only [Act.put, List.setIfInBounds_toArray, List.set_cons_zero, List.set_cons_succ]
    refine wpAnyE_pure (i := 18) (v := ?vp34) (by simp only [List.getElem?_toArray, List.getElem?_cons_succ, List.getElem?_cons_zero]; rfl) (by kernel_rfl) (by kernel_rfl) (by kernel_rfl) (by exact fun _ _ _ h => h) (by kernel_rfl) (Or.inl ⟨by rfl, ?yp34⟩) hH ?rp34
    case yp34 => (intro w' hSw; (try dsimp only at hSw); go_simp; try with_reducible rfl)
    try simp only [Act.put, List.setIfInBounds_toArray, List.set_cons_zero, List.set_cons_succ]
    refine wpAnyE_pure (i := 19) (v := ?vp35) (by simp only [List.getElem?_toArray, List.getElem?_cons_succ, List.getElem?_cons_zero]; rfl) (by kernel_rfl) (by kernel_rfl) (by kernel_rfl) (by exact fun _ _ _ h => h) (by kernel_rfl) (Or.inl ⟨by rfl, ?yp35⟩) hH ?rp35
    case yp35 => (intro w' hSw; (try dsimp only at hSw); go_simp; try with_reducible rfl)
    try simp only [Act.put, List.setIfInBounds_toArray, List.set_cons_zero, List.set_cons_succ]
    refine wpAnyE_pure (i := 20) (v := ?vp36) (by simp only [List.getElem?_toArray, List.getElem?_cons_succ, List.getElem?_cons_zero]; rfl) (by kernel_rfl) (by kernel_rfl) (by kernel_rfl) (by exact fun _ _ _ h => h) (by kernel_rfl) (Or.inl ⟨by rfl, ?yp36⟩) hH ?rp36
    case yp36 => (intro w' hSw; (try dsimp only at hSw); go_simp; try with_reducible rfl)
    try simp only [Act.put, List.setIfInBounds_toArray, List.set_cons_zero, List.set_cons_succ]
    refine wpAnyE_pure (i := 21) (v := ?vp37) (by simp only [List.getElem?_toArray, List.getElem?_cons_succ, List.getElem?_cons_zero]; rfl) (by kernel_rfl) (by kernel_rfl) (by kernel_rfl) (by exact fun _ _ _ h => h) (by kernel_rfl) (Or.inl ⟨by rfl, ?yp37⟩) hH ?rp37
    case yp37 => (intro w' hSw; (try dsimp only at hSw); go_simp; try with_reducible rfl)
    try simp only [Act.put, List.setIfInBounds_toArray, List.set_cons_zero, List.set_cons_succ]
    refine wpAnyE_last (by kernel_rfl) (by simp only [List.getElem?_toArray, List.getElem?_cons_succ, List.getElem?_cons_zero]; rfl) (by kernel_rfl) (fun K' hK => ?_)
    go_simp
    refine hK.out _ _ ?_
    clear hK K' hH
    try simp only [Act.put, List.setIfInBounds_toArray, List.set_cons_zero, List.set_cons_succ]
    clear n0 n1 n2 n3 n4 fG D2 R2
    go_wp2
    go_end0
    refine ⟨⟨_, rfl⟩, (by rw [ho]; exact Kf.out), grownG5 E2.out G _ _ _ _ _⟩

end Go.Proofs.YtjdepjpjjgkmbaaGreat

/- The model's Replayed: what was done to each shelf, one record after the other (written by rep_s.py); conditions: the sizes. -/
namespace Go.Proofs.YtjdepjpjjgkmbaaGreat
open Go Go.RowKit

theorem Tryz.infoReg9 : (Tryz.prog.info? 80).map (fun i => (i.zero, i.size, i.bytes)) = some (some (.agg #[.int .i64 0, .int .i64 0, .int .i64 0, .slice none 0 0, .slice none 0 0]), 5, 72) := by kernel_rfl
theorem run_make_regs {P : Program} (t e : TypeId) (ht : P.underlying t = some (.slice e)) (hinfo : (P.info? e).map (fun i => (i.zero, i.size, i.bytes)) = some (some (.agg #[.int .i64 0, .int .i64 0, .int .i64 0, .slice none 0 0, .slice none 0 0]), 5, 72))
    (n : Nat) (hn : n ≤ 1048576) (w : World) :
    (Instr.makeSlice t (.int .i64 (n : Int)) (.int .i64 (n : Int))).run P w = .ok (.slice (some ⟨w.heap.size, 0, none⟩) n n) (w.alloc (.cells (madeCells #[.int .i64 0, .int .i64 0, .int .i64 0, .slice none 0 0, .slice none 0 0] (n * 5)) e)) := by
  obtain ⟨i, hi, hzz⟩ := Option.map_eq_some_iff.1 hinfo
  simp only [Prod.mk.injEq] at hzz
  obtain ⟨hz, hs, hb⟩ := hzz
  have hr := run_make (P := P) w t e i _ ht hi hz .i64 .i64 n n (by omega) (Int.le_refl _) (by rw [hb]; omega) (by omega)
  simp only [Int.toNat_natCast, hs] at hr
  exact hr
/-- No shelves at all. -/
theorem regs_none (P : RegD → World → (Nat → Prop) → Value → Prop) (w : World) : RegsOwn P (w.alloc (.cells #[] 80)) w.heap.size w.heap.size [] :=
  ⟨Nat.le_refl _, fun _ _ => False, ⟨⟨#[], Box.new w _ _, rfl, fun i hi => absurd hi (by simp)⟩, fun _ _ _ h => h.elim, fun _ _ _ _ _ _ h => h.elim⟩, fun _ _ _ h => h.elim⟩
/-- What Replayed leaves: shelves of one's own, and a flag. -/
def MadeReps (P : RegD → World → (Nat → Prop) → Value → Prop) (rs : List RegD) (f : Bool) (w : World) (e : Ending) (w' : World) : Prop :=
  ∃ G c, e = .returned (.tuple #[.slice (some ⟨G, 0, none⟩) rs.length c, .bool f]) ∧ RegsOwn P w' G w.heap.size rs ∧ Below w.heap.size w w'
theorem RegsOwn.low {P : RegD → World → (Nat → Prop) → Value → Prop} {w : World} {g lo lo' : Nat} {rs : List RegD} (h : RegsOwn P w g lo rs) (hl : lo' ≤ lo) : RegsOwn P w g lo' rs := by
  obtain ⟨hg, Fs, hR, hF⟩ := h
  exact ⟨by omega, Fs, hR, fun i hi b hb => ⟨by have := (hF i hi b hb).1; omega, (hF i hi b hb).2⟩⟩
theorem regOf_lt {rs : List RegD} {i : Nat} (h : i < rs.length) : regOf rs i = rs[i] := by
  unfold regOf
  rw [List.getD_eq_getElem?_getD, List.getElem?_eq_getElem h]
  rfl

theorem RowF.later {w w' : World} {F : Nat → Prop} {A : Option Addr} {n : Nat} {zs : List Int} (h : RowF w F A n zs) (hb : Below w.heap.size w w') : RowF w' F A n zs := h.turn (T := fun _ => False) (Turns.of_below hb) (fun _ _ h => h)
set_option maxRecDepth 100000 in
set_option maxHeartbeats 16000000 in
theorem specReplayed_is (g : GrpD) (ds : List RecD) (A : Option Addr) (n cap : Nat) (LA : Option Addr) (ln lc : Nat) (w : World) (hm : n ≤ maxLen) (hgr : Row w w.heap.size A n g.zs) (hds : RecsF ds w (· < w.heap.size) LA ln) (htot : totC ds ≤ 1048576) :
    Calls Tryz.prog 74 #[.agg #[.int .i64 g.s, .int .i64 g.l, .int .i64 g.c, .int .i64 g.sh, .slice A n cap], .slice LA ln lc] w (MadeReps AtW (replD g ds).1 (replD g ds).2 w) := by
  have D := Box.new w 26 #[.int .i64 g.s, .int .i64 g.l, .int .i64 g.c, .int .i64 g.sh, .slice A n cap]
  have E := bel_alloc w (.cells #[.int .i64 g.s, .int .i64 g.l, .int .i64 g.c, .int .i64 g.sh, .slice A n cap] 26)
  have HR := Lib.hid (RowF.later hgr.all E)
  have HD := Lib.hid (hds.later E)
  have HM := Lib.hid hm
  have hln := hds.1
  have HT := Lib.hid htot
  have hlnb : ln ≤ 1048576 := by
    have h : ds.length ≤ totC ds := by
      unfold totC
      clear hds htot HD HT hln
      induction ds with
      | nil => exact Nat.zero_le _
      | cons d ds ih => simp only [List.map_cons, List.sum_cons, List.length_cons]; omega
    omega
  have HL := Lib.hid hln
  clear hgr hds hm htot hln
  go_enter Tryz.func74, Tryz.ntmps74
  go_upto_region 1 with fail
  generalize (w.alloc _ : World) = w0 at D E HR HD ⊢
  obtain ⟨g0, g1, g2, g3, g4⟩ := D.five
  rcases hok : okG g with _ | _
  · skip
    have hrep := Lib.hid (show replD g ds = ([], false) from by unfold replD; rw [hok]; rfl)
    have HO := Lib.hid hok
    clear hok
    go_wp2_with fail
    refine (specOkR_is HO.out A n cap w0 HM.out HR.out.1).mono ?_
    rintro e w1 ⟨rfl, hb⟩
    have E1 := bel_trans E hb
    have K := (regs_none AtW w1).low E1.size
    have E2 := bel_trans E1 (bel_alloc w1 (.cells #[] 80))
    go_wp2
    exact bodyPost_ret (v := .tuple #[.slice (some ⟨w1.heap.size, 0, none⟩) 0 0, .bool false]) (by simp [results, Tryz.results74, go_sem]) rfl (by rw [hrep.out]; exact ⟨w1.heap.size, 0, rfl, K, E2⟩)
  obtain ⟨hs1, hs4⟩ := okB_sh hok
  obtain ⟨ns, hns⟩ : ∃ ns : Nat, g.sh = (ns : Int) := ⟨g.sh.toNat, by omega⟩
  have hnn : g.sh.toNat = ns := by omega
  have hns1 : ns ≤ 4 := by omega
  have hmk := fun W => run_make_regs (P := Tryz.prog) 101 80 Tryz.underlying101 Tryz.infoReg9 ns (by omega) W
  have HO := Lib.hid hok
  have HN := Lib.hid hnn
  have HS := Lib.hid hns
  clear hok hnn hns
  go_wp2_with fail
  refine (specOkR_is HO.out A n cap w0 HM.out HR.out.1).mono ?_
  rintro e w1 ⟨rfl, hb⟩
  have E1 := bel_trans E hb
  have D1 := D.later hb D.lt
  have gn3 : w1.cell? ⟨w.heap.size, 3, none⟩ = some (.int .i64 (ns : Int)) := (D1.cell 3).trans (by rw [← HS.out]; rfl)
  replace HR := Lib.hid (RowF.later HR.out hb)
  replace HD := Lib.hid (HD.out.later hb)
  clear g0 g1 g2 g3 g4 hb E D hs1 hs4
  have K0 := (regs_new AtW zeroW w1 ns).low E1.size
  have hb := bel_alloc w1 (.cells (madeCells #[.int .i64 0, .int .i64 0, .int .i64 0, .slice none 0 0, .slice none 0 0] (ns * 5)) 80)
  have D2 := D1.later hb D1.lt
  have E2 := bel_trans E1 hb
  replace HR := Lib.hid (RowF.later HR.out hb)
  replace HD := Lib.hid (HD.out.later hb)
  have hVG : w.heap.size < w1.heap.size := D1.lt
  go_wp2_with fail
  clear gn3 hmk hb D1
  generalize (w1.alloc (.cells (madeCells #[.int .i64 0, .int .i64 0, .int .i64 0, .slice none 0 0, .slice none 0 0] (ns * 5)) 80)) = w2 at K0 D2 E2 HR HD ⊢
  generalize w1.heap.size = G at K0 hVG ⊢
  clear E1
  have hsh : ∀ k, (shelves g (ds.take k)).length = ns := fun k => by rw [shelves_len]; exact HN.out
  go_loopw [7] (fun i wr => ∃ k : Nat, k ≤ ln ∧ i = .int .i64 k ∧ Hid (∀ j, j < k → isAt g ds j = true) ∧ RegsOwn AtW wr G w.heap.size (shelves g (ds.take k)) ∧ w2.grownBy wr (some G)) (fun i _ => ln - (intOf i).toNat)
  case atStart => exact ⟨0, Nat.zero_le _, rfl, Lib.hid (fun j hj => absurd hj (by omega)), by unfold shelves; rw [List.take_zero, List.foldl_nil, HN.out]; exact K0, grown_refl _ _⟩
  case round =>
    clear K0
    obtain ⟨k, hk, rfl, hall, K, hgw⟩ := hrel
    have E := bel_grown E2 hgw (by omega)
    have D := D2.kept hgw (by intro e; injection e with e; omega)
    have TG := Turns.of_grown hgw
    by_cases hlt : k < ln
    · skip
      obtain ⟨b, o, hA, hbF, hbl, hcell⟩ := (HD.out.turn TG (fun b hb e => by omega)).2 (by omega)
      subst hA
      have hkd : k < ds.length := by have := HL.out; omega
      obtain ⟨L, m, mc, hrec, hmm, hps⟩ := hcell k hkd
      clear hcell
      have HRw := Lib.hid (HR.out.turn TG (fun b hb e => by omega)).1
      obtain ⟨d, hd⟩ : ∃ d : RecD, ds[k] = d := ⟨_, rfl⟩
      have hAt := isAt_lt (g := g) hkd
      have htm := totC_mem ds hkd
      have hstep := shelves_snoc g ds hkd
      rw [hd] at hrec hps hAt htm hstep
      have HPw := Lib.hid hps.1
      have hmd : d.ps.length = m := hps.1.1
      have hm4 : m ≤ 4194304 := by have := HT.out; omega
      have HS2 := Lib.hid hstep
      have HA := Lib.hid hAt
      clear hd hmd htm hstep hAt hps
      obtain ⟨c0, c1, c2, c3, c4, c5, c6, c7, c8⟩ := hrec
      have hDl := D.lt
      obtain ⟨e0, e1, e2, e3, e4⟩ := fiveAfter D
      have f0 := After.cell hbl c0
      have f1 := After.cell hbl c1
      have f2 := After.cell hbl c2
      have f3 := After.cell hbl c3
      have f4 := After.cell hbl c4
      have f5 := After.cell hbl c5
      have f6 := After.cell hbl c6
      have f7 := After.cell hbl c7
      have f8 := After.cell hbl c8
      have hltI : (k : Int) < (ln : Int) := by omega
      have hkw : IntKind.i64.wrap ((k : Int) + 1) = (k : Int) + 1 := IntWalk.i64_in _ (by omega)
      go_upto_region 7 with fail
      by_cases hno : d.r1 = (k : Int) + 1
      rotate_left
      · skip
        have hne : (d.r1 != (k : Int) + 1) = true := by simpa using hno
        have hf : isAt g ds k = false := by rw [HA.out]; simp [hno]
        clear hno
        refine wp_region_after (by kernel_rfl) (by kernel_rfl) ?_
        repeat (first | go_big_quiet_step (fail) | quiet_step (fail))
        refine wpQuiet_nil ?_
        intro pw
        have hrep := Lib.hid (show replD g ds = ([], false) from by unfold replD; rw [allAt_false hkd hf, Bool.and_false]; rfl)
        have E3 := bel_trans E pw.bel
        have K3 := (regs_none AtW pw.x).low E3.size
        have E4 := bel_trans E3 (bel_alloc pw.x (.cells #[] 80))
        go_wp2
        exact bodyPost_ret (v := .tuple #[.slice (some ⟨pw.x.heap.size, 0, none⟩) 0 0, .bool false]) (by simp [results, Tryz.results74, go_sem]) rfl (by rw [hrep.out]; exact ⟨pw.x.heap.size, 0, rfl, K3, E4⟩)
      have hne : (d.r1 != (k : Int) + 1) = false := by simpa using hno
      rcases hrb : rokD g d with _ | _
      · skip
        have hf : isAt g ds k = false := by rw [HA.out, hrb, Bool.and_false]
        have HB : Hid (rokB g.s g.l g.c g.sh g.zs d.r1 d.r2 d.r3 d.r4 d.r5 d.r6 d.r7 d.ps d.r8 = false) := Lib.hid hrb
        clear hrb hno
        refine wp_region_after (by kernel_rfl) (by kernel_rfl) ?_
        repeat (first | go_big_quiet_step ((go_at_call 134; exact after_of (specRecOk_is HB.out A n cap L m mc _ HM.out (rowAfter HRw.out _) hm4 (pairsAfter HPw.out _)))) | quiet_step ((go_at_call 134; exact after_of (specRecOk_is HB.out A n cap L m mc _ HM.out (rowAfter HRw.out _) hm4 (pairsAfter HPw.out _)))))
        refine wpQuiet_nil ?_
        intro pw
        have hrep := Lib.hid (show replD g ds = ([], false) from by unfold replD; rw [allAt_false hkd hf, Bool.and_false]; rfl)
        have E3 := bel_trans E pw.bel
        have K3 := (regs_none AtW pw.x).low E3.size
        have E4 := bel_trans E3 (bel_alloc pw.x (.cells #[] 80))
        go_wp2
        exact bodyPost_ret (v := .tuple #[.slice (some ⟨pw.x.heap.size, 0, none⟩) 0 0, .bool false]) (by simp [results, Tryz.results74, go_sem]) rfl (by rw [hrep.out]; exact ⟨pw.x.heap.size, 0, rfl, K3, E4⟩)
      have hf : isAt g ds k = true := by rw [HA.out, hrb]; simp [hno]
      have HB : Hid (rokB g.s g.l g.c g.sh g.zs d.r1 d.r2 d.r3 d.r4 d.r5 d.r6 d.r7 d.ps d.r8 = true) := Lib.hid hrb
      obtain ⟨hr0, hr1, -, hkn⟩ := rok_shelf hrb
      clear hrb hno
      refine wp_region_after (by kernel_rfl) (by kernel_rfl) ?_
      repeat (first | go_big_quiet_step ((go_at_call 134; exact after_of (specRecOk_is HB.out A n cap L m mc _ HM.out (rowAfter HRw.out _) hm4 (pairsAfter HPw.out _)))) | quiet_step ((go_at_call 134; exact after_of (specRecOk_is HB.out A n cap L m mc _ HM.out (rowAfter HRw.out _) hm4 (pairsAfter HPw.out _)))))
      refine wpQuiet_nil ?_
      intro pw
      clear f0 f1 f2 f3 f4 f5 f6 f7 f8 e0 e1 e2 e3 e4 hkw
      have hb := pw.bel
      have hgw3 := grown_trans hgw (grown_bel hb (some G))
      replace K := RegsOwn.later keepsW K hb
      replace D := D.later hb D.lt
      replace E := bel_trans E hb
      replace HRw := Lib.hid (rowAfter HRw.out pw)
      replace HPw := Lib.hid (pairsAfter HPw.out pw)
      have T : ∀ j x, wr.cell? ⟨b, j, none⟩ = some x → pw.x.cell? ⟨b, j, none⟩ = some x := fun j x h => (hb.cell (p := ⟨b, j, none⟩) hbl).trans h
      replace c0 := T _ _ c0
      replace c1 := T _ _ c1
      replace c2 := T _ _ c2
      replace c3 := T _ _ c3
      replace c4 := T _ _ c4
      replace c5 := T _ _ c5
      replace c6 := T _ _ c6
      replace c7 := T _ _ c7
      replace c8 := T _ _ c8
      obtain ⟨i, hi⟩ : ∃ i : Nat, d.r3 = (i : Int) := ⟨d.r3.toNat, by omega⟩
      have hin : i < ns := by have := HS.out; omega
      rw [hi] at c2
      have hbG : b ≠ G := by omega
      clear T hb
      generalize pw.x = w3 at K D E HRw HPw hgw3 c0 c1 c2 c3 c4 c5 c6 c7 c8 ⊢
      have hit : d.r3.toNat = i := by omega
      have hil : i < (shelves g (ds.take k)).length := by rw [hsh]; exact hin
      have hall2 : ∀ j, j < k + 1 → isAt g ds j = true := fun j hj => by
        by_cases e : j = k
        · rw [e]; exact hf
        · exact hall.out j (by omega)
      have hgd : regG g d.r3 ((shelves g (ds.take k))[i]) = true := by rw [hi]; exact good_shelves HO.out k (by omega) hall.out i hil
      have hsz := shelves_sz g ds k (by omega) i
      have htk := totC_take ds k
      rw [regOf_lt hil] at hsz
      have hsn : shelves g (ds.take (k + 1)) = (shelves g (ds.take k)).set i (ontoD g d ((shelves g (ds.take k))[i])) := by rw [HS2.out]; unfold stepR; rw [hit, regOf_lt hil]
      have hs1 : ((shelves g (ds.take k))[i]).ps.length ≤ 2000000 := by have := HT.out; omega
      have hs2 : ((shelves g (ds.take k))[i]).os.length ≤ 2000000 := by have := HT.out; omega
      have HI := Lib.hid hi
      have HSN := Lib.hid hsn
      have HA2 := Lib.hid hall2
      have HIT := Lib.hid hit
      clear hi hsn hall2 hit hf hsz htk hr0 hr1 HA HB hall hgw
      go_upto_region 9 with fail
      refine wp_region_sink 6 (fun w' => Box w' w.heap.size 26 #[.int .i64 g.s, .int .i64 g.l, .int .i64 g.c, .int .i64 g.sh, .slice A n cap] ∧ w'.cell? ⟨b, o + k * 9, none⟩ = some (.int .i64 d.r1) ∧ w'.cell? ⟨b, o + k * 9 + 1, none⟩ = some (.int .i64 d.r2) ∧ w'.cell? ⟨b, o + k * 9 + 2, none⟩ = some (.int .i64 (i : Int)) ∧ w'.cell? ⟨b, o + k * 9 + 3, none⟩ = some (.int .i64 d.r4) ∧ w'.cell? ⟨b, o + k * 9 + 4, none⟩ = some (.int .i64 d.r5) ∧ w'.cell? ⟨b, o + k * 9 + 5, none⟩ = some (.int .i64 d.r6) ∧ w'.cell? ⟨b, o + k * 9 + 6, none⟩ = some (.int .i64 d.r7) ∧ w'.cell? ⟨b, o + k * 9 + 7, none⟩ = some (.slice L m mc) ∧ w'.cell? ⟨b, o + k * 9 + 8, none⟩ = some (.int .i64 d.r8)) (by kernel_rfl) ⟨D, c0, c1, c2, c3, c4, c5, c6, c7, c8⟩ (fun hH => ?_)
      have hb := (Below.refl w3.heap.size w3).drew
      replace K := RegsOwn.later keepsW K hb
      replace E := bel_trans E hb
      replace HRw := Lib.hid ((HRw.out.below hb (Nat.le_refl _)).more hb.size)
      replace HPw := Lib.hid (HPw.out.later hb)
      replace hgw3 := grown_trans hgw3 (grown_bel hb (some G))
      clear hb D c0 c1 c2 c3 c4 c5 c6 c7 c8
      generalize w3.drew = w4 at K E HRw HPw hgw3 hH ⊢
      refine wpAnyE_take (i := 0) (v := .agg #[.int .i64 g.s, .int .i64 g.l, .int .i64 g.c, .int .i64 g.sh, .slice A n cap]) (by simp only [List.getElem?_toArray, List.getElem?_cons_zero]; rfl) (by kernel_rfl) (by kernel_rfl) (by kernel_rfl) (by exact fun _ _ _ h => h) (by kernel_rfl) (Or.inl ⟨by rfl, ?y1⟩) hH ?r1
      case y1 => (intro w' hSw; have hg0 : w'.cell? ⟨w.heap.size, 0, none⟩ = some (.int .i64 g.s) := hSw.1.cell 0; have hg1 : w'.cell? ⟨w.heap.size, 1, none⟩ = some (.int .i64 g.l) := hSw.1.cell 1; have hg2 : w'.cell? ⟨w.heap.size, 2, none⟩ = some (.int .i64 g.c) := hSw.1.cell 2; have hg3 : w'.cell? ⟨w.heap.size, 3, none⟩ = some (.int .i64 g.sh) := hSw.1.cell 3; have hg4 : w'.cell? ⟨w.heap.size, 4, none⟩ = some (.slice A n cap) := hSw.1.cell 4; clear hSw; go_simp; try with_reducible rfl)
      try simp only [Act.put, List.setIfInBounds_toArray, List.set_cons_zero, List.set_cons_succ]
      refine wpAnyE_pure (i := 1) (v := ?vu1) (by simp only [List.getElem?_toArray, List.getElem?_cons_succ, List.getElem?_cons_zero]; rfl) (by kernel_rfl) (by kernel_rfl) (by kernel_rfl) (by exact fun _ _ _ h => h) (by kernel_rfl) (Or.inl ⟨by rfl, ?yu1⟩) hH ?ru1
      case yu1 => (intro w' hSw; (try dsimp only at hSw); go_simp; try with_reducible rfl)
      try simp only [Act.put, List.setIfInBounds_toArray, List.set_cons_zero, List.set_cons_succ]
      refine wpAnyE_pure (i := 2) (v := ?vu2) (by simp only [List.getElem?_toArray, List.getElem?_cons_succ, List.getElem?_cons_zero]; rfl) (by kernel_rfl) (by kernel_rfl) (by kernel_rfl) (by exact fun _ _ _ h => h) (by kernel_rfl) (Or.inl ⟨by rfl, ?yu2⟩) hH ?ru2
      case yu2 => (intro w' hSw; (try dsimp only at hSw); go_simp; try with_reducible rfl)
      try simp only [Act.put, List.setIfInBounds_toArray, List.set_cons_zero, List.set_cons_succ]
      refine wpAnyE_pure (i := 3) (v := ?vu3) (by simp only [List.getElem?_toArray, List.getElem?_cons_succ, List.getElem?_cons_zero]; rfl) (by kernel_rfl) (by kernel_rfl) (by kernel_rfl) (by exact fun _ _ _ h => h) (by kernel_rfl) (Or.inl ⟨by rfl, ?yu3⟩) hH ?ru3
      case yu3 => (intro w' hSw; (try dsimp only at hSw); go_simp; try with_reducible rfl)
      try simp only [Act.put, List.setIfInBounds_toArray, List.set_cons_zero, List.set_cons_succ]
      refine wpAnyE_pure (i := 4) (v := ?vu4) (by simp only [List.getElem?_toArray, List.getElem?_cons_succ, List.getElem?_cons_zero]; rfl) (by kernel_rfl) (by kernel_rfl) (by kernel_rfl) (by exact fun _ _ _ h => h) (by kernel_rfl) (Or.inl ⟨by rfl, ?yu4⟩) hH ?ru4
      case yu4 => (intro w' hSw; (try dsimp only at hSw); go_simp; try with_reducible rfl)
      try simp only [Act.put, List.setIfInBounds_toArray, List.set_cons_zero, List.set_cons_succ]
      refine wpAnyE_take (i := 5) (v := .agg #[.int .i64 d.r1, .int .i64 d.r2, .int .i64 (i : Int), .int .i64 d.r4, .int .i64 d.r5, .int .i64 d.r6, .int .i64 d.r7, .slice L m mc, .int .i64 d.r8]) (by simp only [List.getElem?_toArray, List.getElem?_cons_succ, List.getElem?_cons_zero]; rfl) (by kernel_rfl) (by kernel_rfl) (by kernel_rfl) (by exact fun _ _ _ h => h) (by kernel_rfl) (Or.inl ⟨by rfl, ?y2⟩) hH ?r2
      case y2 => (intro w' hSw; have hc0 : w'.cell? ⟨b, o + k * 9, none⟩ = some (.int .i64 d.r1) := hSw.2.1; have hc1 : w'.cell? ⟨b, o + k * 9 + 1, none⟩ = some (.int .i64 d.r2) := hSw.2.2.1; have hc2 : w'.cell? ⟨b, o + k * 9 + 2, none⟩ = some (.int .i64 (i : Int)) := hSw.2.2.2.1; have hc3 : w'.cell? ⟨b, o + k * 9 + 3, none⟩ = some (.int .i64 d.r4) := hSw.2.2.2.2.1; have hc4 : w'.cell? ⟨b, o + k * 9 + 4, none⟩ = some (.int .i64 d.r5) := hSw.2.2.2.2.2.1; have hc5 : w'.cell? ⟨b, o + k * 9 + 5, none⟩ = some (.int .i64 d.r6) := hSw.2.2.2.2.2.2.1; have hc6 : w'.cell? ⟨b, o + k * 9 + 6, none⟩ = some (.int .i64 d.r7) := hSw.2.2.2.2.2.2.2.1; have hc7 : w'.cell? ⟨b, o + k * 9 + 7, none⟩ = some (.slice L m mc) := hSw.2.2.2.2.2.2.2.2.1; have hc8 : w'.cell? ⟨b, o + k * 9 + 8, none⟩ = some (.int .i64 d.r8) := hSw.2.2.2.2.2.2.2.2.2; clear hSw; go_simp; try with_reducible rfl)
      try simp only [Act.put, List.setIfInBounds_toArray, List.set_cons_zero, List.set_cons_succ]
      refine wpAnyE_last (by kernel_rfl) (by simp only [List.getElem?_toArray, List.getElem?_cons_succ, List.getElem?_cons_zero]; rfl) (by kernel_rfl) (fun K' hK => ?_)
      go_simp
      refine (l9Apply_is g d A n cap L m mc G ns ns w.heap.size (shelves g (ds.take k)) i w4 HI.out hil (hsh k) HM.out HRw.out hm4 HPw.out K hgd hkn hs1 hs2).mono ?_
      rintro e w5 ⟨⟨v, rfl⟩, K5, hg5⟩
      have hgw5 := grown_trans hgw3 hg5
      rw [← HSN.out] at K5
      refine hK.out _ _ ?_
      clear hK K' hH K
      try simp only [Act.put, List.setIfInBounds_toArray, List.set_cons_zero, List.set_cons_succ]
      have hkw : IntKind.i64.wrap ((k : Int) + 1) = (k : Int) + 1 := IntWalk.i64_in _ (by omega)
      go_wp2
      go_roundw
      case rel => exact ⟨k + 1, by omega, by go_num, HA2, K5, hgw5⟩
      case measure => simp [intOf]; omega
    · skip
      have hkn : k = ln := by omega
      subst hkn
      have hrep := Lib.hid (show replD g ds = (shelves g ds, true) from by
        unfold replD
        rw [HO.out, allAt_true (fun j hj => hall.out j (by have := HL.out; omega))]
        rfl)
      have hfull : ds.take k = ds := List.take_of_length_le (by have := HL.out; omega)
      rw [hfull] at K
      have hshl : (shelves g ds).length = ns := by rw [shelves_len]; exact HN.out
      have HSL := Lib.hid hshl
      clear hshl hfull hsh
      go_wp2
      exact bodyPost_ret (v := .tuple #[.slice (some ⟨G, 0, none⟩) ns ns, .bool true]) (by simp [results, Tryz.results74, go_sem]) rfl (by rw [hrep.out]; exact ⟨G, ns, by rw [HSL.out], K, E⟩)

end Go.Proofs.YtjdepjpjjgkmbaaGreat

/- The program's Replayed: a loop over the iterator of the records (written by replay_i.py); conditions: the sizes. -/
namespace Go.Proofs.YtjdepjpjjgkmbaaGreat
open Go Go.RowKit Go.Shelf

attribute [local go_sem] Oper.semAt_some

theorem recsOf_is (g : GrpD) (A : Option Addr) (n cap : Nat) (LA : Option Addr) (ln lc : Nat) (w : World) :
    Calls Tryz.prog 177 #[.agg #[.int .i64 g.s, .int .i64 g.l, .int .i64 g.c, .int .i64 g.sh, .slice A n cap], .slice LA ln lc] w fun e w' => e = .returned (.func (.func 217) #[] #[.pointer (some ⟨w.heap.size + 1, 0, none⟩), .pointer (some ⟨w.heap.size, 0, none⟩)]) ∧ w' = (w.alloc (.cells #[.int .i64 g.s, .int .i64 g.l, .int .i64 g.c, .int .i64 g.sh, .slice A n cap] 26)).alloc (.cells #[.slice LA ln lc] 27) := by
  go_enter Tryz.func177, Tryz.ntmps177
  go_wp2
  go_ret
  exact ⟨by simp, rfl⟩

theorem results_cells2 {P : Program} {fn : Func} {x y : Tmp} {t1 t2 : TypeId} (h : fn.results = #[.cell x t1, .cell y t2]) (tmps : Array Value) (w : World) {a b : Addr} {v1 v2 : Value} (hx : tmps.getD x undef = .pointer (some a)) (hy : tmps.getD y undef = .pointer (some b))
    (h1 : (loadVar t1 a).run P w = .ok v1 w) (h2 : (loadVar t2 b).run P w = .ok v2 w) : (results fn tmps).run P w = .ok (.tuple #[v1, v2]) w := by
  have ex : tmps[x]?.getD undef = .pointer (some a) := by simpa using hx
  have ey : tmps[y]?.getD undef = .pointer (some b) := by simpa using hy
  simp [results, h, ex, ey, asAddr, h1, h2]
theorem load_oneR {w : World} {a : Addr} {v : Value} (hc : w.cell? a = some v) : (loadVar 101 a).run Tryz.prog w = .ok v w := by
  simp [loadVar, isAgg, underlying, Tryz.underlying101, hc, go_sem]
theorem load_oneB {w : World} {a : Addr} {v : Value} (hc : w.cell? a = some v) : (loadVar 4 a).run Tryz.prog w = .ok v w := by
  simp [loadVar, isAgg, underlying, Tryz.underlying4, hc, go_sem]
theorem cell_set_self {w : World} {a : Addr} {u v : Value} (h : w.cell? a = some u) : (w.setCell a v).cell? a = some v := World.cell?_setCell_same' _ _ _ (by rw [h]; rfl)
theorem cell_set_other {w : World} {g g' o o' : Nat} {u v : Value} (h : w.cell? ⟨g, o, none⟩ = some u) (hne : g ≠ g') : (w.setCell ⟨g', o', none⟩ v).cell? ⟨g, o, none⟩ = some u := by
  rw [World.cell?_of_block (Below.heap_setCell w ⟨g', o', none⟩ v g hne)]
  exact h

/-- Between two rounds. -/
structure InvR (g : GrpD) (ds : List RecD) (A : Option Addr) (n cap : Nat) (w : World) (G ns : Nat) (pre : List (Fin ds.length)) (W : World) : Prop where
  D : Box W w.heap.size 26 #[.int .i64 g.s, .int .i64 g.l, .int .i64 g.c, .int .i64 g.sh, .slice A n cap]
  R4 : Box W (w.heap.size + 1) 101 #[.slice none 0 0]
  R5 : Box W (w.heap.size + 1 + 1) 4 #[.bool false]
  R6 : Box W (G + 1) 101 #[.slice (some ⟨G, 0, none⟩) ns ns]
  K : RegsOwn LieE W G G (shI g ds pre)
  all : ∀ k, k ∈ pre → isAt g ds k.val = true
  E : Below w.heap.size w W
theorem InvR.own {g : GrpD} {ds : List RecD} {A : Option Addr} {n cap : Nat} {w : World} {G ns N : Nat} (hN : w.heap.size ≤ N) : OwnFrom N (fun pre W => InvR g ds A n cap w G ns pre W) := fun pre X Y row hs hg hr => by
  have hk := cellsK_own hg (fun r e => (hr r e).2)
  exact ⟨hk.box hs.D, hk.box hs.R4, hk.box hs.R5, hk.box hs.R6, hs.K.cells hk, hs.all, ownFrom_below (β := Unit) (Nat.le_refl _) hN () X Y row hs.E hg hr⟩
theorem InvR.later {g : GrpD} {ds : List RecD} {A : Option Addr} {n cap : Nat} {w : World} {G ns : Nat} {pre : List (Fin ds.length)} {W W' : World} (h : InvR g ds A n cap w G ns pre W) (hb : Below W.heap.size W W') : InvR g ds A n cap w G ns pre W' :=
  ⟨h.D.later hb h.D.lt, h.R4.later hb h.R4.lt, h.R5.later hb h.R5.lt, h.R6.later hb h.R6.lt, RegsOwn.later keepsLE h.K hb, h.all, bel_trans h.E hb⟩
theorem InvR.put {g : GrpD} {ds : List RecD} {A : Option Addr} {n cap : Nat} {w : World} {G ns : Nat} {pre pre' : List (Fin ds.length)} {W W' : World} (h : InvR g ds A n cap w G ns pre W) (ht : Turns (· = G) W W') (hG : w.heap.size + 1 + 1 < G) (hK : RegsOwn LieE W' G G (shI g ds pre')) (hall : ∀ k, k ∈ pre' → isAt g ds k.val = true) : InvR g ds A n cap w G ns pre' W' :=
  ⟨h.D.turn ht (by omega), h.R4.turn ht (by omega), h.R5.turn ht (by omega), h.R6.turn ht (by omega), hK, hall, ht.below h.E (fun i e => by omega)⟩
/-- A round that goes on: what it keeps. -/
theorem turns_row5 (w2 : World) (G : Nat) {o0 o1 o2 o3 o4 : Nat} (x0 x1 x2 x3 x4 : Value) : Turns (· = G) w2 (((((w2.setCell ⟨G, o0, none⟩ x0).setCell ⟨G, o1, none⟩ x1).setCell ⟨G, o2, none⟩ x2).setCell ⟨G, o3, none⟩ x3).setCell ⟨G, o4, none⟩ x4) :=
  ((((turns_cell5 w2 G _ _).trans (turns_cell5 _ G _ _)).trans (turns_cell5 _ G _ _)).trans (turns_cell5 _ G _ _)).trans (turns_cell5 _ G _ _)
/-- A round that left. -/
structure OutR (g : GrpD) (ds : List RecD) (w : World) (W : World) : Prop where
  no : ∃ k : Fin ds.length, isAt g ds k.val = false
  res : ∃ E0, Box W (w.heap.size + 1) 101 #[.slice (some ⟨E0, 0, none⟩) 0 0] ∧ Box W (w.heap.size + 1 + 1) 4 #[.bool false] ∧ RegsOwn LieE W E0 E0 [] ∧ w.heap.size ≤ E0
  E : Below w.heap.size w W
theorem OutR.own {g : GrpD} {ds : List RecD} {w : World} {N : Nat} (hN : w.heap.size ≤ N) {β : Type} (p : β → Prop) : OwnFrom N (fun s W => p s ∧ OutR g ds w W) := fun s X Y row hs hg hr => by
  have hk := cellsK_own hg (fun r e => (hr r e).2)
  obtain ⟨E0, h1, h2, h3, h4⟩ := hs.2.res
  exact ⟨hs.1, hs.2.no, ⟨E0, hk.box h1, hk.box h2, h3.cells hk, h4⟩, ownFrom_below (β := Unit) (Nat.le_refl _) hN () X Y row hs.2.E hg hr⟩
theorem totC_len (ds : List RecD) : ds.length ≤ totC ds := by
  unfold totC
  induction ds with
  | nil => exact Nat.zero_le _
  | cons d ds ih => simp only [List.map_cons, List.sum_cons, List.length_cons]; omega
theorem keepsFrom_below {N : Nat} {W W' : World} (h : Below W.heap.size W W') : KeepsFrom N W W' := ⟨h.size, fun k _ _ hk _ => (h.block k (Array.getElem?_eq_some_iff.1 hk).1).trans hk⟩
/-- The frame in which a round's body runs. -/
def frmR (g : GrpD) (ds : List RecD) (A : Option Addr) (n cap : Nat) (LA : Option Addr) (ln lc : Nat) (L : Nat → Option Addr) (m mc : Nat → Nat) (w : World) (G ns B : Nat) (x : Fin ds.length) (Bx : Nat) : Act :=
  { tmps := #[.agg #[.int .i64 g.s, .int .i64 g.l, .int .i64 g.c, .int .i64 g.sh, .slice A n cap], .slice LA ln lc, .pointer (some ⟨w.heap.size, 0, none⟩), undef, .pointer (some ⟨w.heap.size + 1, 0, none⟩), .pointer (some ⟨w.heap.size + 1 + 1, 0, none⟩), .pointer (some ⟨G + 1, 0, none⟩), .pointer (some ⟨Bx, 0, none⟩), .bool (isAt g ds x.val), .agg #[.int .i64 g.s, .int .i64 g.l, .int .i64 g.c, .int .i64 g.sh, .slice A n cap], .bool true, .bool false, undef, .pointer (some ⟨w.heap.size, 3, none⟩), .int .i64 ns, .slice (some ⟨G, 0, none⟩) ns ns, .agg #[.int .i64 g.s, .int .i64 g.l, .int .i64 g.c, .int .i64 g.sh, .slice A n cap], .slice LA ln lc, .func (.func 217) #[] #[.pointer (some ⟨B + 1, 0, none⟩), .pointer (some ⟨B, 0, none⟩)], .agg (cellsC ds[x.val] (L x.val) (m x.val) (mc x.val)), .bool (isAt g ds x.val), undef, undef, undef, undef, undef, undef, undef, undef, undef, undef, undef, undef, undef, undef, undef, undef], defers := [] }

set_option maxRecDepth 100000 in
set_option maxHeartbeats 16000000 in
theorem replayed_is (g : GrpD) (ds : List RecD) (A : Option Addr) (n cap : Nat) (LA : Option Addr) (ln lc : Nat) (w : World) (hm : n ≤ maxLen) (hgr : Row w w.heap.size A n g.zs) (hds : RecsF ds w (· < w.heap.size) LA ln) (htot : totC ds ≤ 1048576) :
    Calls Tryz.prog 131 #[.agg #[.int .i64 g.s, .int .i64 g.l, .int .i64 g.c, .int .i64 g.sh, .slice A n cap], .slice LA ln lc] w (MadeReps LieE (replD g ds).1 (replD g ds).2 w) := by
  refine (callsIn_wide (n := 3)).1 ?_
  refine callsIn_of_wp_marks Tryz.func131 rfl trivial ?_ rfl
  simp only [Tryz.ntmps131, List.size_toArray, List.length_cons, List.length_nil, Nat.reduceAdd, Nat.reduceSub, Array.replicate_succ, Array.replicate_zero, List.push_toArray, List.append_toArray, List.nil_append, List.cons_append]
  have E := bel_trans (bel_trans (bel_alloc w (.cells #[.int .i64 g.s, .int .i64 g.l, .int .i64 g.c, .int .i64 g.sh, .slice A n cap] 26)) (bel_alloc _ (.cells #[.slice none 0 0] 101))) (bel_alloc _ (.cells #[.bool false] 4))
  have D := ((Box.new w 26 #[.int .i64 g.s, .int .i64 g.l, .int .i64 g.c, .int .i64 g.sh, .slice A n cap]).alloc (.cells #[.slice none 0 0] 101)).alloc (.cells #[.bool false] 4)
  have R4 := (Box.new (w.alloc (.cells #[.int .i64 g.s, .int .i64 g.l, .int .i64 g.c, .int .i64 g.sh, .slice A n cap] 26)) 101 #[.slice none 0 0]).alloc (.cells #[.bool false] 4)
  have R5 := Box.new ((w.alloc (.cells #[.int .i64 g.s, .int .i64 g.l, .int .i64 g.c, .int .i64 g.sh, .slice A n cap] 26)).alloc (.cells #[.slice none 0 0] 101)) 4 #[.bool false]
  simp only [World.size_alloc] at R4 R5
  have HR := Lib.hid (RowF.later hgr.all E)
  have HD := Lib.hid (hds.later E)
  have HM := Lib.hid hm
  have HL := Lib.hid hds.1
  have HT := Lib.hid htot
  have HRW := Lib.hid hgr.all
  obtain ⟨L, m, mc, hVw⟩ := hds.vals
  have HVW := Lib.hid hVw
  clear hgr hds hm htot hVw
  gi_upto_region 1 with fail
  generalize (((w.alloc _).alloc _).alloc _ : World) = w0 at D E R4 R5 HR HD ⊢
  obtain ⟨g0, g1, g2, g3, g4⟩ := D.five
  rcases hok : okG g with _ | _
  · skip
    have hrep := Lib.hid (show replD g ds = ([], false) from by unfold replD; rw [hok]; rfl)
    have HO := Lib.hid hok
    clear hok
    gi_upto_region 2 with (refine ⟨trivial, ?_⟩; gi_at_call 175; refine (callsIn_wide.2 (groupB_is (show okB g.s g.l g.c g.sh g.zs = _ from HO.out) A n cap w0 HM.out HR.out.1)).mono ?_; rintro e w1 ⟨rfl, hb⟩)
    have E1 := bel_trans E hb
    have K := (regs_none LieE w1).low E1.size
    clear g0 g1 g2 g3 g4 D HR HD E
    replace R4 := R4.later hb R4.lt
    replace R5 := R5.later hb R5.lt
    have hz := R5.lt
    clear hb
    have E2 := bel_trans E1 (bel_alloc w1 (.cells #[] 80))
    replace R4 := R4.alloc (.cells #[] 80)
    replace R5 := R5.alloc (.cells #[] 80)
    have f4 := R4.frozen 0
    have f5 := R5.frozen 0
    have c4 : (w1.alloc (.cells #[] 80)).cell? ⟨w.heap.size + 1, 0, none⟩ = some (.slice none 0 0) := R4.cell 0
    have c5 : (w1.alloc (.cells #[] 80)).cell? ⟨w.heap.size + 1 + 1, 0, none⟩ = some (.bool false) := R5.cell 0
    replace K := (regs_none LieE w1)
    gi_wp2
    refine ⟨_, results_cells2 Tryz.results131 _ _ rfl rfl (load_oneR (cell_set_other (cell_set_self c4) (by omega))) (load_oneB (cell_set_self (cell_set_other c5 (by omega)))), ?_⟩
    rw [hrep.out]
    exact ⟨w1.heap.size, 0, rfl, (RegsOwn.turn keepsLE (RegsOwn.turn keepsLE K (turns_cell5 _ (w.heap.size + 1) 0 _) (fun b e => by omega)) (turns_cell5 _ (w.heap.size + 1 + 1) 0 _) (fun b e => by omega)).low E1.size, (turns_cell5 _ (w.heap.size + 1 + 1) 0 _).below ((turns_cell5 _ (w.heap.size + 1) 0 _).below E2 (fun i e => by omega)) (fun i e => by omega)⟩
  obtain ⟨hs1, hs4⟩ := okB_sh hok
  obtain ⟨ns, hns⟩ : ∃ ns : Nat, g.sh = (ns : Int) := ⟨g.sh.toNat, by omega⟩
  have hnn : g.sh.toNat = ns := by omega
  have hns1 : ns ≤ 4 := by omega
  have hmk := fun W => run_make_regs (P := Tryz.prog) 101 80 Tryz.underlying101 Tryz.infoReg9 ns (by omega) W
  have HO := Lib.hid hok
  have HN := Lib.hid hnn
  have HS := Lib.hid hns
  clear hok hnn hns hs1 hs4
  gi_upto_region 3 with (refine ⟨trivial, ?_⟩; gi_at_call 175; refine (callsIn_wide.2 (groupB_is (show okB g.s g.l g.c g.sh g.zs = _ from HO.out) A n cap w0 HM.out HR.out.1)).mono ?_; rintro e w1 ⟨rfl, hb⟩)
  have E1 := bel_trans E hb
  have D1 := D.later hb D.lt
  have gn3 : w1.cell? ⟨w.heap.size, 3, none⟩ = some (.int .i64 (ns : Int)) := (D1.cell 3).trans (by rw [← HS.out]; rfl)
  replace HR := Lib.hid (RowF.later HR.out hb)
  replace HD := Lib.hid (HD.out.later hb)
  replace R4 := R4.later hb R4.lt
  replace R5 := R5.later hb R5.lt
  have hz5 := R5.lt
  clear g0 g1 g2 g3 g4 hb E D
  have K0 := regs_new LieE zeroE w1 ns
  have hb1 := bel_alloc w1 (.cells (madeCells #[.int .i64 0, .int .i64 0, .int .i64 0, .slice none 0 0, .slice none 0 0] (ns * 5)) 80)
  have hb2 := bel_alloc (w1.alloc (.cells (madeCells #[.int .i64 0, .int .i64 0, .int .i64 0, .slice none 0 0, .slice none 0 0] (ns * 5)) 80)) (.cells #[.slice (some ⟨w1.heap.size, 0, none⟩) ns ns] 101)
  have R6 := Box.new (w1.alloc (.cells (madeCells #[.int .i64 0, .int .i64 0, .int .i64 0, .slice none 0 0, .slice none 0 0] (ns * 5)) 80)) 101 #[.slice (some ⟨w1.heap.size, 0, none⟩) ns ns]
  rw [World.size_alloc] at R6
  have K := RegsOwn.later keepsLE K0 hb2
  have hb3 := bel_trans hb1 hb2
  have D2 := D1.later hb3 D1.lt
  have E2 := bel_trans E1 hb3
  replace HR := Lib.hid (RowF.later HR.out hb3)
  replace HD := Lib.hid (HD.out.later hb3)
  replace R4 := R4.later hb3 R4.lt
  replace R5 := R5.later hb3 R5.lt
  have hVG : w.heap.size + 1 + 1 < w1.heap.size := hz5
  gi_upto_region 4 with fail
  clear gn3 hmk hb1 hb2 hb3 D1 K0 E1
  generalize ((w1.alloc (.cells (madeCells #[.int .i64 0, .int .i64 0, .int .i64 0, .slice none 0 0, .slice none 0 0] (ns * 5)) 80)).alloc _ : World) = w2 at K R4 R5 R6 D2 E2 HR HD ⊢
  generalize w1.heap.size = G at K R6 hVG ⊢
  obtain ⟨g0, g1, g2, g3, g4⟩ := D2.five
  gi_wp2_with (refine ⟨trivial, ?_⟩; gi_at_call 177; refine (callsIn_wide.2 (recsOf_is g A n cap LA ln lc _)).mono ?_; rintro e w' ⟨rfl, rfl⟩)
  clear g0 g1 g2 g3 g4
  have hb0 : Below w2.heap.size w2 ((w2.alloc (.cells #[.int .i64 g.s, .int .i64 g.l, .int .i64 g.c, .int .i64 g.sh, .slice A n cap] 26)).alloc (.cells #[.slice LA ln lc] 27)) := bel_trans (bel_alloc w2 (.cells #[.int .i64 g.s, .int .i64 g.l, .int .i64 g.c, .int .i64 g.sh, .slice A n cap] 26)) (bel_alloc (w2.alloc (.cells #[.int .i64 g.s, .int .i64 g.l, .int .i64 g.c, .int .i64 g.sh, .slice A n cap] 26)) (.cells #[.slice LA ln lc] 27))
  have X2 := (Box.new w2 26 #[.int .i64 g.s, .int .i64 g.l, .int .i64 g.c, .int .i64 g.sh, .slice A n cap]).alloc (.cells #[.slice LA ln lc] 27)
  have X1 := Box.new (w2.alloc (.cells #[.int .i64 g.s, .int .i64 g.l, .int .i64 g.c, .int .i64 g.sh, .slice A n cap] 26)) 27 #[.slice LA ln lc]
  rw [World.size_alloc] at X1
  have hGB := R6.lt
  have IV : InvR g ds A n cap w G ns [] w2 := ⟨D2, R4, R5, R6, by unfold shI; rw [List.foldl_nil, HN.out]; exact K, fun k hk => (by cases hk), E2⟩
  replace IV := IV.later hb0
  replace HR := Lib.hid (RowF.later HR.out hb0)
  replace HD := Lib.hid (HD.out.later hb0)
  have hV := HVW.out.turn (T := fun _ => False) (Turns.of_below IV.E) (fun _ _ h => h)
  have hsB := hb0.size
  have hEs := E2.size
  have hx1 := X1.lt
  clear D2 R4 R5 R6 K E2 HD hb0
  generalize (((w2.alloc (.cells #[.int .i64 g.s, .int .i64 g.l, .int .i64 g.c, .int .i64 g.sh, .slice A n cap] 26)).alloc (.cells #[.slice LA ln lc] 27)) : World) = W0 at X1 X2 IV HR hV hsB hx1 ⊢
  generalize w2.heap.size = B at X1 X2 hGB hsB hEs hx1 ⊢
  have hGw : w.heap.size ≤ G := by omega
  have hmk4 : ∀ k, k < ds.length → m k ≤ 4194304 := fun k hk => by
    by_cases h0 : 0 < ln
    · obtain ⟨b, o, -, -, -, hc⟩ := hV.2 h0
      have h1 : (ds[k]).ps.length = m k := (hc k hk).2.2.1.1
      have h2 := totC_mem ds hk
      have h3 := HT.out
      omega
    · have := HL.out
      omega
  have hln : ln ≤ 1048576 := by
    have h := totC_len ds
    have h1 := HL.out
    have h2 := HT.out
    omega
  refine wpIn_rangeFunc_ownH rfl (by decide) (gf := 217) (lb := #[.pointer (some ⟨B + 1, 0, none⟩), .pointer (some ⟨B, 0, none⟩)]) rfl trivial (enters_of Tryz.func217 (by kernel_rfl) rfl)
    (recsIter_stops g ds A n cap LA ln lc L m mc (B + 1) B G W0.heap.size (· < w.heap.size) W0 (by omega) (by omega) (fun b hb => ⟨by omega, by omega⟩) X1 X2 HM.out HR.out hV hln hmk4) (fun h k => h.trans k) (fun W l o o' hl h hc _ => keepC_put W l o o' hl h hc) (Below.refl _ _) (fun _ => rfl)
    (fun pre W => InvR g ds A n cap w G ns pre W) (fun c _ W => c = .ret ∧ OutR g ds w W) (InvR.own (by omega)) (fun c => OutR.own (by omega) (fun _ => c = .ret)) IV
    (fun x a' W => ∃ Bx, G + 1 < Bx ∧ Box W Bx 46 (cellsC ds[x.val] (L x.val) (m x.val) (mc x.val)) ∧ a' = frmR g ds A n cap LA ln lc L m mc w G ns B x Bx)
    (fun x a' _ X Y row hs hg hr => by obtain ⟨Bx, h1, h2, h3⟩ := hs; exact ⟨Bx, h1, (cellsK_own hg (fun r e => (hr r e).2)).box h2, h3⟩)
    ?assign ?body ?done ?stop
  case assign =>
    rintro l pre x W K hi hK
    simp only [encC]
    have ZB := Box.new W 46 #[.int .i64 0, .int .i64 0, .int .i64 0, .int .i64 0, .int .i64 0, .int .i64 0, .int .i64 0, .slice none 0 0, .int .i64 0]
    have hn := bel_new_row W #[.int .i64 0, .int .i64 0, .int .i64 0, .int .i64 0, .int .i64 0, .int .i64 0, .int .i64 0, .slice none 0 0, .int .i64 0] 46 (cellsC ds[x.val] (L x.val) (m x.val) (mc x.val))
    have X := (Box.new W 46 #[.int .i64 0, .int .i64 0, .int .i64 0, .int .i64 0, .int .i64 0, .int .i64 0, .int .i64 0, .slice none 0 0, .int .i64 0]).setRow (cellsC ds[x.val] (L x.val) (m x.val) (mc x.val))
    have hlt := hi.R6.lt
    gi_wp2_with (refine wpListIn_store_row (fun _ => trivial) rfl 46 _ _ rfl W.heap.size (cellsC ds[x.val] (L x.val) (m x.val) (mc x.val)) rfl rfl 46 #[.int .i64 0, .int .i64 0, .int .i64 0, .int .i64 0, .int .i64 0, .int .i64 0, .int .i64 0, .slice none 0 0, .int .i64 0] ZB (by kernel_rfl) rfl (by simp [cellsC, Value.oneCell']) ?_)
    exact hK _ _ (keepsFrom_below hn) (KeepC.of_below hn) (hi.later hn) ⟨W.heap.size, hlt, X, rfl⟩
  case body =>
    rintro l pre x a' W hl - hi ⟨Bx, hBx, bX, rfl⟩ hlt
    unfold frmR
    obtain ⟨z, hz⟩ : ∃ z, isAt g ds x.val = z := ⟨_, rfl⟩
    rw [hz]
    rcases z with _ | _
    · skip
      have R4 := hi.R4.alloc (.cells #[] 80)
      have R5 := hi.R5.alloc (.cells #[] 80)
      have f4 := R4.frozen 0
      have f5 := R5.frozen 0
      have c4 : (W.alloc (.cells #[] 80)).cell? ⟨w.heap.size + 1, 0, none⟩ = some (.slice none 0 0) := R4.cell 0
      have c5 : (W.alloc (.cells #[] 80)).cell? ⟨w.heap.size + 1 + 1, 0, none⟩ = some (.bool false) := R5.cell 0
      have HI := Lib.hid hi
      have HZ := Lib.hid hz
      have hz5 := hi.R5.lt
      clear hi hz
      gi_wp2
      have hb := bel_alloc W (.cells #[] 80)
      have t1 := turns_cell5 (W.alloc (.cells #[] 80)) (w.heap.size + 1) 0 (.slice (some ⟨W.heap.size, 0, none⟩) 0 0)
      have t2 := turns_cell5 ((W.alloc (.cells #[] 80)).setCell ⟨w.heap.size + 1, 0, none⟩ (.slice (some ⟨W.heap.size, 0, none⟩) 0 0)) (w.heap.size + 1 + 1) 0 (.bool false)
      refine ⟨((keepsFrom_below hb).trans ((KeepsOthers.setCell _ _ _).from _)).trans ((KeepsOthers.setCell _ _ _).from _), rfl, ⟨⟨x, HZ.out⟩, ⟨W.heap.size, ?_, ?_, ?_, ?_⟩, ?_⟩⟩
      · exact (R4.set 0 (.slice (some ⟨W.heap.size, 0, none⟩) 0 0)).turn t2 (by omega)
      · exact (R5.turn t1 (by omega)).set 0 (.bool false)
      · exact RegsOwn.turn keepsLE (RegsOwn.turn keepsLE (regs_none LieE W) t1 (fun b e => by omega)) t2 (fun b e => by omega)
      · exact HI.out.E.size
      · exact t2.below (t1.below (bel_trans HI.out.E hb) (fun i e => by omega)) (fun i e => by omega)
    have hAt := isAt_lt (g := g) x.isLt
    have hVx := HVW.out.2 (by have := x.isLt; have := HL.out; omega)
    obtain ⟨b, o, -, -, -, hcell⟩ := hVx
    obtain ⟨-, -, hps⟩ := hcell x.val x.isLt
    clear hcell
    have hsz := shI_sz g ds (M := 1048576) (fun k hk => by have := totC_mem ds hk; have := HT.out; omega) pre
    have hmx := hmk4 x.val x.isLt
    have hsn := shI_snoc g ds pre x
    obtain ⟨d, hd⟩ : ∃ d : RecD, ds[x.val] = d := ⟨_, rfl⟩
    rw [hd] at hAt hps hsn bX ⊢
    obtain ⟨Lk, hLk⟩ : ∃ y, L x.val = y := ⟨_, rfl⟩
    obtain ⟨mk, hmkk⟩ : ∃ y, m x.val = y := ⟨_, rfl⟩
    obtain ⟨mck, hmck⟩ : ∃ y, mc x.val = y := ⟨_, rfl⟩
    rw [hLk, hmkk] at hps
    rw [hLk, hmkk, hmck] at bX ⊢
    rw [hmkk] at hmx
    rw [hz] at hAt
    have hrk : rokD g d = true := by
      have h := hAt.symm
      rw [Bool.and_eq_true] at h
      exact h.2
    obtain ⟨hr0, hr1, -, -⟩ := rok_shelf hrk
    obtain ⟨i, hi3⟩ : ∃ i : Nat, d.r3 = (i : Int) := ⟨d.r3.toNat, by omega⟩
    have hin : i < ns := by have := HS.out; omega
    have hit : d.r3.toNat = i := by omega
    have hil : i < (shI g ds pre).length := by rw [shI_len, HN.out]; exact hin
    replace hsz := hsz i
    rw [regOf_lt hil] at hsz
    unfold stepR at hsn
    rw [hit, regOf_lt hil] at hsn
    have hpl : pre.length ≤ 1048576 := by have := HL.out; omega
    obtain ⟨r, hr⟩ : ∃ r : RegD, (shI g ds pre)[i] = r := ⟨_, rfl⟩
    rw [hr] at hsz hsn
    obtain ⟨u0, v0, c0, c1, c2, c3, c4, hA⟩ := hreg keepsLE hi.K hil
    rw [hr] at c0 c1 c2 hA
    obtain ⟨P, p, pc, Q, q, qc, rfl, rfl, hS1, hS2, hl1, hl2⟩ := hA.slc
    unfold cellsC at bX ⊢
    rw [hi3] at bX ⊢
    have HPw := Lib.hid (hps.1.later hi.E)
    have HRx := Lib.hid ((RowF.later HRW.out hi.E)).1
    have HI := Lib.hid hi
    have HSN := Lib.hid hsn
    have HSZ := Lib.hid hsz
    have HI3 := Lib.hid hi3
    have HZ := Lib.hid hz
    have HS1 := Lib.hid hS1
    have HS2 := Lib.hid hS2
    have HL1 := Lib.hid hl1
    have HL2 := Lib.hid hl2
    have hltI : (i : Int) < (ns : Int) := by omega
    have S6 := hi.R6
    have SD := hi.D
    clear hi hsn hsz hi3 hz hS1 hS2 hl1 hl2 hA hd hLk hmkk hmck hps hr0 hr1 hit hAt hrk hr
    gi_upto_region 9 with fail
    have hb := (Below.refl W.heap.size W).drew
    have hgG : G < W.heap.size := by have := S6.lt; omega
    refine wpIn_region_sink 12 (fun w' => Box w' Bx 46 #[.int .i64 d.r1, .int .i64 d.r2, .int .i64 (i : Int), .int .i64 d.r4, .int .i64 d.r5, .int .i64 d.r6, .int .i64 d.r7, .slice Lk mk mck, .int .i64 d.r8] ∧ Box w' w.heap.size 26 #[.int .i64 g.s, .int .i64 g.l, .int .i64 g.c, .int .i64 g.sh, .slice A n cap] ∧ Box w' (G + 1) 101 #[.slice (some ⟨G, 0, none⟩) ns ns] ∧ w'.cell? ⟨G, i * 5, none⟩ = some (.int .i64 r.t) ∧ w'.cell? ⟨G, i * 5 + 1, none⟩ = some (.int .i64 r.q) ∧ w'.cell? ⟨G, i * 5 + 2, none⟩ = some (.int .i64 r.v) ∧ w'.cell? ⟨G, i * 5 + 3, none⟩ = some (.slice P p pc) ∧ w'.cell? ⟨G, i * 5 + 4, none⟩ = some (.slice Q q qc)) (by kernel_rfl) ⟨bX.later hb bX.lt, SD.later hb SD.lt, S6.later hb S6.lt, c0, c1, c2, c3, c4⟩ (fun hH => ?_)
    have HB := Lib.hid hb
    replace HI := Lib.hid (HI.out.later hb)
    replace HPw := Lib.hid (HPw.out.later hb)
    replace HRx := Lib.hid ((HRx.out.below hb (Nat.le_refl _)).more hb.size)
    replace HS1 := Lib.hid (HS1.out.later hb)
    replace HS2 := Lib.hid (HS2.out.later hb)
    clear hb bX SD S6 c0 c1 c2 c3 c4
    generalize W.drew = w3 at HI HB HPw HRx HS1 HS2 hH ⊢
    refine wpAnyEI_takeP [] (plain_of (fun _ => trivial) (by kernel_rfl)) (i := 0) (v := .slice (some ⟨G, 0, none⟩) ns ns) (by simp only [List.getElem?_toArray, List.getElem?_cons_zero]; rfl) (by kernel_rfl) (by kernel_rfl) (by kernel_rfl) (by exact fun _ _ _ h => h) (by kernel_rfl) (Or.inl ⟨(by first | rfl | simp [Region.wanted, yielded] | (simp [Region.wanted, yielded, Act.put] <;> omega)), ?y0⟩) hH ?_
    case y0 => (intro w' hSw; have h0 : w'.cell? ⟨G + 1, 0, none⟩ = some (.slice (some ⟨G, 0, none⟩) ns ns) := hSw.2.2.1.cell 0; clear hSw; go_simp; try with_reducible rfl)
    try simp only [Act.put, List.setIfInBounds_toArray, List.set_cons_zero, List.set_cons_succ]
    refine wpAnyEI_pure (plain_of (fun _ => trivial) (by kernel_rfl)) (i := 1) (v := ?vu1_1) (by simp only [List.getElem?_toArray, List.getElem?_cons_succ, List.getElem?_cons_zero]; rfl) (by kernel_rfl) (by kernel_rfl) (by kernel_rfl) (by exact fun _ _ _ h => h) (by kernel_rfl) (Or.inl ⟨by rfl, ?yu1_1⟩) hH ?_
    case yu1_1 => (intro w' hSw; (try dsimp only at hSw); clear hSw; go_simp; try with_reducible rfl)
    try simp only [Act.put, List.setIfInBounds_toArray, List.set_cons_zero, List.set_cons_succ]
    refine wpAnyEI_takeP [] (plain_of (fun _ => trivial) (by kernel_rfl)) (i := 2) (v := .int .i64 (i : Int)) (by simp only [List.getElem?_toArray, List.getElem?_cons_succ, List.getElem?_cons_zero]; rfl) (by kernel_rfl) (by kernel_rfl) (by kernel_rfl) (by exact fun _ _ _ h => h) (by kernel_rfl) (Or.inl ⟨(by first | rfl | simp [Region.wanted, yielded] | (simp [Region.wanted, yielded, Act.put] <;> omega)), ?y2⟩) hH ?_
    case y2 => (intro w' hSw; have h2 : w'.cell? ⟨Bx, 2, none⟩ = some (.int .i64 (i : Int)) := hSw.1.cell 2; clear hSw; go_simp; try with_reducible rfl)
    try simp only [Act.put, List.setIfInBounds_toArray, List.set_cons_zero, List.set_cons_succ]
    refine wpAnyEI_takeP [] (plain_of (fun _ => trivial) (by kernel_rfl)) (i := 3) (v := .agg #[.int .i64 d.r1, .int .i64 d.r2, .int .i64 (i : Int), .int .i64 d.r4, .int .i64 d.r5, .int .i64 d.r6, .int .i64 d.r7, .slice Lk mk mck, .int .i64 d.r8]) (by simp only [List.getElem?_toArray, List.getElem?_cons_succ, List.getElem?_cons_zero]; rfl) (by kernel_rfl) (by kernel_rfl) (by kernel_rfl) (by exact fun _ _ _ h => h) (by kernel_rfl) ?y3 hH ?_
    case y3 => exact yields_box 46 _ rfl (Bx) rfl 46 #[.int .i64 d.r1, .int .i64 d.r2, .int .i64 (i : Int), .int .i64 d.r4, .int .i64 d.r5, .int .i64 d.r6, .int .i64 d.r7, .slice Lk mk mck, .int .i64 d.r8] (fun _ h => h.1) _ Tryz.underlying46 rfl (by kernel_rfl) (by first | rfl | simp [Region.wanted, yielded] | (simp [Region.wanted, yielded, Act.put] <;> omega))
    try simp only [Act.put, List.setIfInBounds_toArray, List.set_cons_zero, List.set_cons_succ]
    refine wpAnyEI_takeP [] (plain_of (fun _ => trivial) (by kernel_rfl)) (i := 4) (v := .agg #[.int .i64 g.s, .int .i64 g.l, .int .i64 g.c, .int .i64 g.sh, .slice A n cap]) (by simp only [List.getElem?_toArray, List.getElem?_cons_succ, List.getElem?_cons_zero]; rfl) (by kernel_rfl) (by kernel_rfl) (by kernel_rfl) (by exact fun _ _ _ h => h) (by kernel_rfl) ?y4 hH ?_
    case y4 => exact yields_box 26 _ rfl (w.heap.size) rfl 26 #[.int .i64 g.s, .int .i64 g.l, .int .i64 g.c, .int .i64 g.sh, .slice A n cap] (fun _ h => h.2.1) _ Tryz.underlying26 rfl (by kernel_rfl) (by first | rfl | simp [Region.wanted, yielded] | (simp [Region.wanted, yielded, Act.put] <;> omega))
    try simp only [Act.put, List.setIfInBounds_toArray, List.set_cons_zero, List.set_cons_succ]
    refine wpAnyEI_takeP [] (plain_of (fun _ => trivial) (by kernel_rfl)) (i := 5) (v := .slice (some ⟨G, 0, none⟩) ns ns) (by simp only [List.getElem?_toArray, List.getElem?_cons_succ, List.getElem?_cons_zero]; rfl) (by kernel_rfl) (by kernel_rfl) (by kernel_rfl) (by exact fun _ _ _ h => h) (by kernel_rfl) (Or.inl ⟨(by first | rfl | simp [Region.wanted, yielded] | (simp [Region.wanted, yielded, Act.put] <;> omega)), ?y5⟩) hH ?_
    case y5 => (intro w' hSw; have h0 : w'.cell? ⟨G + 1, 0, none⟩ = some (.slice (some ⟨G, 0, none⟩) ns ns) := hSw.2.2.1.cell 0; clear hSw; go_simp; try with_reducible rfl)
    try simp only [Act.put, List.setIfInBounds_toArray, List.set_cons_zero, List.set_cons_succ]
    refine wpAnyEI_pure (plain_of (fun _ => trivial) (by kernel_rfl)) (i := 6) (v := ?vu6_2) (by simp only [List.getElem?_toArray, List.getElem?_cons_succ, List.getElem?_cons_zero]; rfl) (by kernel_rfl) (by kernel_rfl) (by kernel_rfl) (by exact fun _ _ _ h => h) (by kernel_rfl) (Or.inl ⟨by rfl, ?yu6_2⟩) hH ?_
    case yu6_2 => (intro w' hSw; (try dsimp only at hSw); clear hSw; go_simp; try with_reducible rfl)
    try simp only [Act.put, List.setIfInBounds_toArray, List.set_cons_zero, List.set_cons_succ]
    refine wpAnyEI_takeP [] (plain_of (fun _ => trivial) (by kernel_rfl)) (i := 7) (v := .int .i64 (i : Int)) (by simp only [List.getElem?_toArray, List.getElem?_cons_succ, List.getElem?_cons_zero]; rfl) (by kernel_rfl) (by kernel_rfl) (by kernel_rfl) (by exact fun _ _ _ h => h) (by kernel_rfl) (Or.inl ⟨(by first | rfl | simp [Region.wanted, yielded] | (simp [Region.wanted, yielded, Act.put] <;> omega)), ?y7⟩) hH ?_
    case y7 => (intro w' hSw; have h2 : w'.cell? ⟨Bx, 2, none⟩ = some (.int .i64 (i : Int)) := hSw.1.cell 2; clear hSw; go_simp; try with_reducible rfl)
    try simp only [Act.put, List.setIfInBounds_toArray, List.set_cons_zero, List.set_cons_succ]
    refine wpAnyEI_pure (plain_of (fun _ => trivial) (by kernel_rfl)) (i := 8) (v := ?vu8_3) (by simp only [List.getElem?_toArray, List.getElem?_cons_succ, List.getElem?_cons_zero]; rfl) (by kernel_rfl) (by kernel_rfl) (by kernel_rfl) (by exact fun _ _ _ h => h) (by kernel_rfl) (Or.inl ⟨by rfl, ?yu8_3⟩) hH ?_
    case yu8_3 => (intro w' hSw; (try dsimp only at hSw); clear hSw; go_simp; try with_reducible rfl)
    try simp only [Act.put, List.setIfInBounds_toArray, List.set_cons_zero, List.set_cons_succ]
    refine wpAnyEI_takeP [] (plain_of (fun _ => trivial) (by kernel_rfl)) (i := 9) (v := .agg #[.int .i64 r.t, .int .i64 r.q, .int .i64 r.v, .slice P p pc, .slice Q q qc]) (by simp only [List.getElem?_toArray, List.getElem?_cons_succ, List.getElem?_cons_zero]; rfl) (by kernel_rfl) (by kernel_rfl) (by kernel_rfl) (by exact fun _ _ _ h => h) (by kernel_rfl) (Or.inl ⟨(by first | rfl | simp [Region.wanted, yielded] | (simp [Region.wanted, yielded, Act.put] <;> omega)), ?y9⟩) hH ?_
    case y9 => (intro w' hSw; have k0 := hSw.2.2.2.1; have k1 := hSw.2.2.2.2.1; have k2 := hSw.2.2.2.2.2.1; have k3 := hSw.2.2.2.2.2.2.1; have k4 := hSw.2.2.2.2.2.2.2; clear hSw; go_simp; try with_reducible rfl)
    try simp only [Act.put, List.setIfInBounds_toArray, List.set_cons_zero, List.set_cons_succ]
    refine wpAnyEI_one (i := 10) (by kernel_rfl) (by simp only [List.getElem?_toArray, List.getElem?_cons_succ, List.getElem?_cons_zero]; rfl) (fun K' hK => ?_)
    have HH := Lib.hid hH
    clear hH
    have HON := Lib.hid (onto_is g d r A n cap Lk mk mck P p pc Q q qc w3 HM.out HRx.out hmx HPw.out HS1.out HS2.out (by have := HSZ.out; omega) (by have := HSZ.out; omega) HL1.out HL2.out)
    replace HON := Lib.hid (HI3.out ▸ HON.out)
    go_simp
    refine ⟨trivial, ?_⟩
    refine (CallsIn.inRound l (callsIn_wide.2 HON.out)).mono ?_
    rintro e w4 ⟨u', v', rfl, hL, hb⟩
    obtain ⟨DD, hDD⟩ : ∃ DD : RegD, ontoD g d r = DD := ⟨_, rfl⟩
    replace HSN := HSN.out
    rw [hDD] at hL HSN ⊢
    replace HSN := Lib.hid HSN
    clear hDD HON
    have hL := hL.lieE
    obtain ⟨A1, n1, c1', A2, n2', c2', rfl, rfl, -, -, -, -⟩ := hL.slc
    have K4 := Lib.hid (RegsOwn.put keepsLE HI.out.K hb hil hL)
    have fG : ∀ o, w4.frozen? ⟨G, o, none⟩ = false := by
      obtain ⟨_, Fs, h, _⟩ := RegsOwn.later keepsLE HI.out.K hb
      exact h.frozen
    have hG3 : G < w3.heap.size := by have := HB.out.size; omega
    have hcG : ∀ o y, w3.cell? ⟨G, o, none⟩ = some y → w4.cell? ⟨G, o, none⟩ = some y := fun o y h => (hb.cell (p := ⟨G, o, none⟩) hG3).trans h
    obtain ⟨q1, q2, q3, q4, q5, q6, q7, q8⟩ := HH.out
    have n0 := hcG _ _ q4
    have n1 := hcG _ _ q5
    have n2 := hcG _ _ q6
    have n3 := hcG _ _ q7
    have n4 := hcG _ _ q8
    have hI4 := Lib.hid (InvR.later HI.out hb)
    have hBW := Lib.hid (bel_trans HB.out hb)
    refine hK.out _ _ ⟨q1.later hb q1.lt, q2.later hb q2.lt, q3.later hb q3.lt, n0, n1, n2, n3, n4⟩ (fun hH => ?_)
    clear hK K' HH hb hcG q1 q2 q3 q4 q5 q6 q7 q8 hL HI HB
    try simp only [Act.put, List.setIfInBounds_toArray, List.set_cons_zero, List.set_cons_succ]
    refine wpAnyEI_pure (plain_of (fun _ => trivial) (by kernel_rfl)) (i := 11) (v := ?vu11_4) (by simp only [List.getElem?_toArray, List.getElem?_cons_succ, List.getElem?_cons_zero]; rfl) (by kernel_rfl) (by kernel_rfl) (by kernel_rfl) (by exact fun _ _ _ h => h) (by kernel_rfl) (Or.inl ⟨by rfl, ?yu11_4⟩) hH ?_
    case yu11_4 => (intro w' hSw; (try dsimp only at hSw); clear hSw; go_simp; try with_reducible rfl)
    try simp only [Act.put, List.setIfInBounds_toArray, List.set_cons_zero, List.set_cons_succ]
    refine wpAnyEI_last (by kernel_rfl) (by simp only [List.getElem?_toArray, List.getElem?_cons_succ, List.getElem?_cons_zero]; rfl) (by kernel_rfl) (fun K' hK => ?_)
    go_simp
    refine hK.out _ _ ?_
    clear hK K' hH
    try simp only [Act.put, List.setIfInBounds_toArray, List.set_cons_zero, List.set_cons_succ]
    clear n0 n1 n2 n3 n4 fG
    gi_wp2
    refine ⟨KeepsFrom.of_grownBy (grownG5 hBW.out G _ _ _ _ _) (fun j e => by cases e; omega), (KeepC.of_below hBW.out).trans (KeepC.of_turns (turns_row5 w4 G _ _ _ _ _) (fun i e => e)), hI4.out.put (turns_row5 w4 G _ _ _ _ _) hVG (by rw [HSN.out]; exact K4.out) (fun k hk => ?_)⟩
    rcases List.mem_append.1 hk with hk | hk
    · exact hI4.out.all k hk
    · rw [List.mem_singleton] at hk
      rw [hk]
      exact HZ.out
  case done =>
    rintro D' xs W hD rfl hi hK
    have c4 : W.cell? ⟨w.heap.size + 1, 0, none⟩ = some (.slice none 0 0) := hi.R4.cell 0
    have c5 : W.cell? ⟨w.heap.size + 1 + 1, 0, none⟩ = some (.bool false) := hi.R5.cell 0
    have f4 := hi.R4.frozen 0
    have f5 := hi.R5.frozen 0
    have c6 : W.cell? ⟨G + 1, 0, none⟩ = some (.slice (some ⟨G, 0, none⟩) ns ns) := hi.R6.cell 0
    have HI := Lib.hid hi
    have HK := Lib.hid hK
    clear hi hK
    gi_wp2
    have hK1 := (((KeepsOthers.setCell W ⟨w.heap.size + 1, 0, none⟩ (.slice (some ⟨G, 0, none⟩) ns ns)).trans (KeepsOthers.setCell _ ⟨w.heap.size + 1 + 1, 0, none⟩ (.bool true)))).same _ _ HK.out rfl
    refine ⟨by simp, .inl ⟨_, _, rfl, run_takeDeferred hK1, ?_⟩⟩
    have hg := grownBy_putObj' ((W.setCell ⟨w.heap.size + 1, 0, none⟩ (.slice (some ⟨G, 0, none⟩) ns ns)).setCell ⟨w.heap.size + 1 + 1, 0, none⟩ (.bool true)) D' (.deferred none)
    have hk := cellsK_own hg (fun r e => by cases e; exact ⟨_, hK1, rfl⟩)
    refine ⟨_, results_cells2 Tryz.results131 _ _ rfl rfl (load_oneR (hk.cell (cell_set_other (cell_set_self c4) (by omega)))) (load_oneB (hk.cell (cell_set_self (cell_set_other c5 (by omega))))), ?_⟩
    have hrep : replD g ds = (shelves g ds, true) := by
      unfold replD
      rw [HO.out, allAt_true (fun i hi => HI.out.all ⟨i, hi⟩ (List.mem_finRange _))]
      rfl
    have hsl : (shelves g ds).length = ns := by rw [shelves_len]; exact HN.out
    rw [hrep]
    have K1 := HI.out.K
    rw [shI_all] at K1
    have K2 := (RegsOwn.turn keepsLE (RegsOwn.turn keepsLE K1 (turns_cell5 _ (w.heap.size + 1) 0 (.slice (some ⟨G, 0, none⟩) ns ns)) (fun b e => by omega)) (turns_cell5 _ (w.heap.size + 1 + 1) 0 (.bool true)) (fun b e => by omega)).cells hk
    have hB := (turns_cell5 _ (w.heap.size + 1 + 1) 0 (.bool true)).below ((turns_cell5 W (w.heap.size + 1) 0 (.slice (some ⟨G, 0, none⟩) ns ns)).below HI.out.E (fun i e => by omega)) (fun i e => by omega)
    exact ⟨G, ns, by rw [hsl], K2.low hGw, hB.grown hg hB.size (fun k e => by cases e; omega)⟩
  case stop =>
    rintro D' c pre W hD hS ⟨rfl, ho⟩ hK
    gi_wp2
    refine ⟨by simp, .inl ⟨_, _, rfl, run_takeDeferred hK, ?_⟩⟩
    have hg := grownBy_putObj' W D' (.deferred none)
    have hk := cellsK_own hg (fun r e => by cases e; exact ⟨_, hK, rfl⟩)
    obtain ⟨E0, h1, h2, h3, h4⟩ := ho.res
    refine ⟨_, results_cells2 Tryz.results131 _ _ rfl rfl (load_oneR (hk.cell (h1.cell 0))) (load_oneB (hk.cell (h2.cell 0))), ?_⟩
    obtain ⟨k, hk0⟩ := ho.no
    have hrep : replD g ds = ([], false) := by unfold replD; rw [allAt_false k.isLt hk0, Bool.and_false]; rfl
    rw [hrep]
    exact ⟨E0, 0, rfl, (h3.cells hk).low h4, ho.E.grown hg ho.E.size (fun k e => by cases e; omega)⟩
end Go.Proofs.YtjdepjpjjgkmbaaGreat

/- Both Replayed as a law meets them: over a copy of a group and a list of records, read; conditions: the sizes. -/
namespace Go.Proofs.YtjdepjpjjgkmbaaGreat
open Go Go.RowKit

theorem specReplayed8_is {g : GrpD} {ds : List RecD} {w : World} {F0 : Nat → Prop} {C0 : Array Value} {LA : Option Addr} {ln lc : Nat} (h0 : AtG g w F0 (.agg C0)) (h1 : RecsF ds w (· < w.heap.size) LA ln) (hz : totC ds ≤ 1048576) :
    Calls Tryz.prog 74 #[.agg C0, .slice LA ln lc] w (MadeReps AtW (replD g ds).1 (replD g ds).2 w) := by
  obtain ⟨A, n, cap, e0, m0, hr⟩ := h0
  injection e0 with e0
  subst e0
  exact specReplayed_is g ds A n cap LA ln lc w m0 hr.1 h1 hz
theorem replayed8_is {g : GrpD} {ds : List RecD} {w : World} {F0 : Nat → Prop} {C0 : Array Value} {LA : Option Addr} {ln lc : Nat} (h0 : AtG g w F0 (.agg C0)) (h1 : RecsF ds w (· < w.heap.size) LA ln) (hz : totC ds ≤ 1048576) :
    Calls Tryz.prog 131 #[.agg C0, .slice LA ln lc] w (MadeReps LieE (replD g ds).1 (replD g ds).2 w) := by
  obtain ⟨A, n, cap, e0, m0, hr⟩ := h0
  injection e0 with e0
  subst e0
  exact replayed_is g ds A n cap LA ln lc w m0 hr.1 h1 hz
end Go.Proofs.YtjdepjpjjgkmbaaGreat

/- All records of a journal, in one list; a journal that is right: what it and the model answer (written by jour_ok.py); conditions: the sizes. -/
namespace Go.Proofs.YtjdepjpjjgkmbaaGreat
open Go Go.RowKit

/-- A journal whose lists lie somewhere. -/
def AtS9 (d : JourD) (w : World) (F : Nat → Prop) (v : Value) : Prop := ∃ u u', v = .agg #[u, u'] ∧ ListS d.ks w F u ∧ ListS d.ls w F u'
theorem keepsS9 (d : JourD) : Keeps (AtS9 d) := ⟨fun ⟨u, u', e, h1, h2⟩ ht hd => ⟨u, u', e, h1.turn ht hd, h2.turn ht hd⟩, fun ⟨u, u', e, h1, h2⟩ hs => ⟨u, u', e, h1.sub hs, h2.sub hs⟩⟩
theorem LieJ.somewhere {d : JourD} {w : World} {F : Nat → Prop} {v : Value} (h : LieJ d w F v) : AtS9 d w F v := by
  obtain ⟨u, u', F1, F2, e, h1, h2, s1, s2, -⟩ := h
  exact ⟨u, u', e, h1.list.sub s1, h2.list.sub s2⟩
theorem AtS9.at {d : JourD} {w : World} {F : Nat → Prop} {v : Value} (h : AtS9 d w F v) : AtJ d w F v := by
  obtain ⟨u, u', rfl, h1, h2⟩ := h
  obtain ⟨A, c, rfl, m1, r1⟩ := h1.at
  obtain ⟨A', c', rfl, m2, r2⟩ := h2.at
  exact ⟨A, _, c, A', _, c', rfl, m1, m2, r1, r2⟩
theorem totC_app (a b : List RecD) : totC (a ++ b) = totC a + totC b := by
  unfold totC
  rw [List.map_append, List.sum_append]
/-- Whether a journal is right. -/
def jokD (g : GrpD) (d : JourD) : Bool := (replD g (d.ks ++ d.ls)).2
theorem allAt_of {g : GrpD} {ds : List RecD} (h : allAt g ds = true) : ∀ i, i < ds.length → isAt g ds i = true := fun i hi => by
  cases e : isAt g ds i
  · rw [allAt_false hi e] at h
    cases h
  · rfl
theorem rok_no {g : GrpD} {d : RecD} (h : rokD g d = true) : 1 ≤ d.r1 ∧ d.r1 ≤ 400 := by
  simp only [rokD, rokB, Bool.and_eq_true, inB, decide_eq_true_eq] at h
  omega
theorem repl_len400 {g : GrpD} {ds : List RecD} (h : (replD g ds).2 = true) : ds.length ≤ 400 := by
  unfold replD at h
  split at h
  · rename_i hc
    rw [Bool.and_eq_true] at hc
    rcases Nat.eq_zero_or_pos ds.length with h0 | h0
    · omega
    · have h1 := allAt_of hc.2 (ds.length - 1) (by omega)
      rw [isAt_lt (by omega), Bool.and_eq_true, decide_eq_true_eq] at h1
      have h2 := rok_no h1.2
      omega
  · cases h
/-- The list of a row of one's own, two lists one behind the other. -/
theorem row_two {w w' : World} {u : Value} {ms ms' : List (RecD × Value)} {ks ls : List RecD} {F : Nat → Prop} {t : TypeId} (hm : ms.map (·.1) = ks) (hm' : ms'.map (·.1) = ls) (h : w'.ownsRow w.heap.size t 9 u (ks.length + ls.length) (flatC ms ++ flatC ms')) (h1 : CertsF w F ms) (h2 : CertsF w F ms') (hb : Below w.heap.size w w') : ListS (ks ++ ls) w' (fun b => F b ∨ w.heap.size ≤ b) u := by
  have hc := ((h1.app h2).later hb).sub (F' := fun b => F b ∨ w.heap.size ≤ b) (fun b hb => .inl hb)
  have e : (ms ++ ms').map (·.1) = ks ++ ls := by rw [List.map_append, hm, hm']
  rw [← flatC_app] at h
  rw [← e]
  exact row_list h (by rw [← List.length_map (f := fun x : RecD × Value => x.1), e, List.length_append]) hc (fun b hb _ => .inr hb)

set_option maxRecDepth 100000 in
set_option maxHeartbeats 4000000 in
theorem l10All_is {d : JourD} {w : World} {F : Nat → Prop} {C : Array Value} (h : AtS9 d w F (.agg C)) (hs : d.sz ≤ 2097152) :
    Calls Tryz.prog 72 #[.agg C] w fun e w' => ∃ u, e = .returned u ∧ ListS (d.ks ++ d.ls) w' (· < w'.heap.size) u ∧ Below w.heap.size w w' := by
  obtain ⟨i0, hi0, hz0, hz1, hz2⟩ := info_parts Tryz.infoRecI
  obtain ⟨u, u', e, h1, h2⟩ := h
  injection e with e
  subst e
  obtain ⟨ms, hm, hc, hx⟩ := h1.lt.src
  obtain ⟨ms', hm', hc', hx'⟩ := h2.lt.src
  have hl1 : d.ks.length ≤ 2097152 := by have := totC_len d.ks; unfold JourD.sz at hs; omega
  have hl2 : d.ks.length + d.ls.length ≤ 2097152 := by have := totC_len d.ks; have := totC_len d.ls; unfold JourD.sz at hs; omega
  have hf := Lib.hid hm
  have hf' := Lib.hid hm'
  have HC := Lib.hid hc
  have HC' := Lib.hid hc'
  have hE : ∃ K, flatC ms = K := ⟨_, rfl⟩
  obtain ⟨X, hX⟩ := hE
  obtain ⟨X', hX'⟩ : ∃ K, flatC ms' = K := ⟨_, rfl⟩
  rw [hX] at hx
  rw [hX'] at hx'
  have HX := Lib.hid hX
  have HX' := Lib.hid hX'
  have hb0 := bel_alloc w (.cells #[u, u'] 29)
  have D := Box.new w 29 #[u, u']
  have S1 := hx.later hb0
  have S2 := hx'.later hb0
  clear hm hm' hc hc' hx hx' hX hX' h1 h2
  go_enter Tryz.func72, Tryz.ntmps72
  go_upto_region 1 with fail
  generalize (w.alloc _ : World) = w0 at hb0 D S1 S2 ⊢
  have hw0 := hb0.size
  have HB := Below.refl w0.heap.size w0
  refine wp_region_sink 8 (fun w' => Box w' w.heap.size 29 #[u, u']) (by kernel_rfl) D (fun hH => ?_)
  have hb := (Below.refl w0.heap.size w0).drew
  replace HB := bel_trans HB hb
  replace D := D.later hb D.lt
  clear hb
  generalize w0.drew = w3 at D HB hH ⊢
  refine wpAnyE_pure (i := 1) (v := ?vp1) (by simp only [List.getElem?_toArray, List.getElem?_cons_succ, List.getElem?_cons_zero]; rfl) (by kernel_rfl) (by kernel_rfl) (by kernel_rfl) (by exact fun _ _ _ h => h) (by kernel_rfl) (Or.inl ⟨by rfl, ?yp1⟩) hH ?rp1
  case yp1 => (intro w' hSw; (try dsimp only at hSw); go_simp; try with_reducible rfl)
  try simp only [Act.put, List.setIfInBounds_toArray, List.set_cons_zero, List.set_cons_succ]
  refine wpAnyE_takeS (i := 2) (v := u) (by simp only [List.getElem?_toArray, List.getElem?_cons_succ, List.getElem?_cons_zero]; rfl) (by kernel_rfl) (by kernel_rfl) (by kernel_rfl) (by exact fun _ _ _ h => h) (by kernel_rfl) ?yc2 hH ?_
  case yc2 => exact .inl ⟨(by first | rfl | simp [Region.wanted, yielded] | (simp [Region.wanted, yielded, Act.put] <;> omega)), fun w' hSw => by (try dsimp only at hSw); have hc := (Box.two hSw).1; go_simp; try with_reducible rfl⟩
  try simp only [Act.put, List.setIfInBounds_toArray, List.set_cons_zero, List.set_cons_succ]
  refine wpAnyE_pure (i := 4) (v := ?vp4) (by simp only [List.getElem?_toArray, List.getElem?_cons_succ, List.getElem?_cons_zero]; rfl) (by kernel_rfl) (by kernel_rfl) (by kernel_rfl) (by exact fun _ _ _ h => h) (by kernel_rfl) (Or.inl ⟨by rfl, ?yp4⟩) hH ?rp4
  case yp4 => (intro w' hSw; (try dsimp only at hSw); go_simp; try with_reducible rfl)
  try simp only [Act.put, List.setIfInBounds_toArray, List.set_cons_zero, List.set_cons_succ]
  refine wpAnyE_takeS (i := 5) (v := u') (by simp only [List.getElem?_toArray, List.getElem?_cons_succ, List.getElem?_cons_zero]; rfl) (by kernel_rfl) (by kernel_rfl) (by kernel_rfl) (by exact fun _ _ _ h => h) (by kernel_rfl) ?yc5 hH ?_
  case yc5 => exact .inl ⟨(by first | rfl | simp [Region.wanted, yielded] | (simp [Region.wanted, yielded, Act.put] <;> omega)), fun w' hSw => by (try dsimp only at hSw); have hc := (Box.two hSw).2; go_simp; try with_reducible rfl⟩
  try simp only [Act.put, List.setIfInBounds_toArray, List.set_cons_zero, List.set_cons_succ]
  refine wpAnyE_one (i := 0) (by kernel_rfl) (by simp only [List.getElem?_toArray, List.getElem?_cons_zero]; rfl) (fun K hK => ?_)
  go_simp
  have hn := bel_alloc w3 (.cells #[] 46)
  have O3 := own_new w3 46 9
  have hw3 := HB.size
  have hDl := D.lt
  replace D := D.alloc (.cells #[] 46)
  replace HB := bel_trans HB hn
  clear hH
  refine hK.out _ _ D (fun hH => ?_)
  clear hK K
  try simp only [Act.put, List.setIfInBounds_toArray, List.set_cons_zero, List.set_cons_succ]
  have hz3 : w3.heap.size < (w3.alloc (.cells #[] 46)).heap.size := by simp
  clear hn
  generalize (w3.alloc _ : World) = w5 at D HB O3 hH hz3 hDl ⊢
  refine wpAnyE_one (i := 3) (by kernel_rfl) (by simp only [List.getElem?_toArray, List.getElem?_cons_succ, List.getElem?_cons_zero]; rfl) (fun K hK => ?_)
  refine step_append_srcN (by rfl) _ _ _ (by rfl) w3.heap.size 46 i0 _ 9 88 Tryz.underlying27 hi0 hz0 hz1 hz2 rfl (by omega) (.slice (some ⟨w3.heap.size, 0, none⟩) 0 0) 0 [] (by rfl) O3 (by simp) _ d.ks.length X (by rfl) (S1.later HB) d.ks.length X (Nat.zero_add _) (List.nil_append _) (by unfold maxLen; omega) (by omega) (by omega) ?_
  intro g1 cap1 w4 hown4 hgrow hbg hlg
  replace hgrow : w5.grownBy w4 (some w3.heap.size) := hgrow
  have D4 := D.kept hgrow (by intro e; injection e with e; omega)
  have HB4 := bel_grown HB hgrow (by omega)
  clear hH
  refine hK.out _ _ D4 (fun hH => ?_)
  clear hK K
  try simp only [Act.put, List.setIfInBounds_toArray, List.set_cons_zero, List.set_cons_succ]
  clear O3 hgrow D HB
  refine wpAnyE_one (i := 6) (by kernel_rfl) (by simp only [List.getElem?_toArray, List.getElem?_cons_succ, List.getElem?_cons_zero]; rfl) (fun K hK => ?_)
  refine step_append_srcN (by rfl) _ _ _ (by rfl) w3.heap.size 46 i0 _ 9 88 Tryz.underlying27 hi0 hz0 hz1 hz2 rfl (by omega) (.slice (some ⟨g1, 0, none⟩) d.ks.length cap1) d.ks.length X (by rfl) hown4 (by simp) _ d.ls.length X' (by rfl) (S2.later HB4) (d.ks.length + d.ls.length) (X ++ X') rfl rfl (by unfold maxLen; omega) (by omega) (by omega) ?_
  intro g2 cap2 w6 hown6 hgrow hbg2 hlg2
  replace hgrow : w4.grownBy w6 (some g1) := hgrow
  have D6 := D4.kept hgrow (by intro e; injection e with e; omega)
  have HB6 := bel_grown HB4 hgrow (by omega)
  clear hH
  refine hK.out _ _ D6 (fun hH => ?_)
  clear hK K
  try simp only [Act.put, List.setIfInBounds_toArray, List.set_cons_zero, List.set_cons_succ]
  clear hown4 hgrow D4 HB4
  refine wpAnyE_end (i := 7) (by kernel_rfl) (by simp only [List.getElem?_toArray, List.getElem?_cons_succ, List.getElem?_cons_zero]; rfl) (by kernel_rfl) (fun K hK => ?_)
  go_simp
  refine hK.out _ _ D6 ?_
  clear hK K hH
  try simp only [Act.put, List.setIfInBounds_toArray, List.set_cons_zero, List.set_cons_succ]
  have HO := Lib.hid hown6
  have E6 := bel_trans hb0 HB6
  clear hown6 D6
  go_wp2
  go_ret
  refine ⟨_, rfl, ?_, E6⟩
  have HOW := HO.out
  rw [← HX.out, ← HX'.out] at HOW
  have hL := row_two hf.out hf'.out (ownLow HOW hw3) (HC.out.later hb0) (HC'.out.later hb0) HB6
  exact hL.lt.sub (fun b hb => hb.2)
set_option maxRecDepth 100000 in
set_option maxHeartbeats 4000000 in
theorem specJournalOk_is {g : GrpD} {d : JourD} {w : World} {F0 F1 : Nat → Prop} {C0 C1 : Array Value} {z : Bool} (h0 : AtG g w F0 (.agg C0)) (h1 : AtS9 d w F1 (.agg C1)) (hs : d.sz ≤ 1048576) (hz : jokD g d = z) :
    Calls Tryz.prog 18 #[.agg C0, .agg C1] w fun e w' => e = .returned (.bool z) ∧ Below w.heap.size w w' := by
  have HZ := Lib.hid hz
  have hst : totC (d.ks ++ d.ls) ≤ 1048576 := by rw [totC_app]; exact hs
  have J0 := Lib.hid (sizeG h0).2
  have J1 := Lib.hid (show (Tryz.prog.info? 29).map (·.size) = some C1.size from (sizeJ h1.at).2)
  have hb0 := bel_trans (bel_alloc w (.cells C0 26)) (bel_alloc _ (.cells C1 29))
  have G := (Box.new w 26 C0).alloc (.cells C1 29)
  have J := Box.new (w.alloc (.cells C0 26)) 29 C1
  simp only [World.size_alloc] at J
  have H0 := Lib.hid ((keepsG g).later h0 hb0)
  have H1 := (keepsS9 d).later h1 hb0
  clear h0 h1 hz
  go_enter Tryz.func18, Tryz.ntmps18
  go_upto_region 1 with fail
  generalize ((w.alloc _).alloc _ : World) = w0 at hb0 G J H0 H1 ⊢
  go_wp2_with (refine wpList_load_box 29 _ rfl (w.heap.size + 1) rfl 29 C1 J _ Tryz.underlying29 rfl J1.out (by first | rfl | simp [Region.wanted, yielded] | (simp [Region.wanted, yielded, Act.put] <;> omega)) ?_)
  refine (l10All_is H1 (by omega)).mono ?_
  rintro e w1 ⟨u, rfl, hL, hb⟩
  replace G := G.later hb G.lt
  have K0 := Lib.hid ((keepsG g).later H0.out hb)
  have E := bel_trans hb0 hb
  clear hb hb0 H0 H1 J
  obtain ⟨A, c, rfl, hm, hr⟩ := hL.at
  generalize hln : (d.ks ++ d.ls).length = ln at hm hr ⊢
  clear hL
  have HR := Lib.hid hr
  clear hr
  go_wp2_with (refine wpList_load_box 26 _ rfl (w.heap.size) rfl 26 C0 G _ Tryz.underlying26 rfl J0.out (by first | rfl | simp [Region.wanted, yielded] | (simp [Region.wanted, yielded, Act.put] <;> omega)) ?_)
  refine (specReplayed8_is K0.out HR.out hst).mono ?_
  rintro e w2 ⟨GG, cg, rfl, -, hb⟩
  have E2 := bel_trans E hb
  clear hb E G
  have hok : (replD g (d.ks ++ d.ls)).2 = z := HZ.out
  rw [hok]
  cases z
  · go_wp2
    go_ret
    exact ⟨rfl, E2⟩
  · have hl4 := repl_len400 hok
    rw [hln] at hl4
    have hle : ((ln : Nat) : Int) ≤ 400 := by omega
    clear hok
    go_wp2
    go_ret
    exact ⟨rfl, E2⟩
set_option maxRecDepth 100000 in
set_option maxHeartbeats 4000000 in
theorem regs_is {g : GrpD} {d : JourD} {w : World} {F0 F1 : Nat → Prop} {C0 C1 : Array Value} (h0 : AtG g w F0 (.agg C0)) (h1 : AtS9 d w F1 (.agg C1)) (hs : d.sz ≤ 1048576) {rr : List RegD × Bool} (hrr : replD g (d.ks ++ d.ls) = rr) :
    Calls Tryz.prog 73 #[.agg C1, .agg C0] w (MadeReps LieE rr.1 rr.2 w) := by
  have HRR := Lib.hid hrr
  clear hrr
  have hst : totC (d.ks ++ d.ls) ≤ 1048576 := by rw [totC_app]; exact hs
  have J0 := Lib.hid (sizeG h0).2
  have hb0 := bel_trans (bel_alloc w (.cells C1 29)) (bel_alloc _ (.cells C0 26))
  have J := (Box.new w 29 C1).alloc (.cells C0 26)
  have G := Box.new (w.alloc (.cells C1 29)) 26 C0
  simp only [World.size_alloc] at G
  have H0 := Lib.hid ((keepsG g).later h0 hb0)
  have H1 := (keepsS9 d).later h1 hb0
  clear h0 h1
  obtain ⟨u, u', e, h2, h3⟩ := H1
  injection e with e
  subst e
  obtain ⟨ms, hm, hc, hx⟩ := h2.lt.src
  obtain ⟨ms', hm', hc', hx'⟩ := h3.lt.src
  obtain ⟨A1, c1, rfl, -, -⟩ := h2.at
  obtain ⟨A2, c2, rfl, -, -⟩ := h3.at
  have hl2 : d.ks.length + d.ls.length ≤ 2097152 := by have := totC_len d.ks; have := totC_len d.ls; unfold JourD.sz at hs; omega
  have hf := Lib.hid hm
  have hf' := Lib.hid hm'
  have HC := Lib.hid hc
  have HC' := Lib.hid hc'
  obtain ⟨X, hX⟩ : ∃ K, flatC ms = K := ⟨_, rfl⟩
  obtain ⟨X', hX'⟩ : ∃ K, flatC ms' = K := ⟨_, rfl⟩
  rw [hX] at hx
  rw [hX'] at hx'
  have HX := Lib.hid hX
  have HX' := Lib.hid hX'
  clear hm hm' hc hc' hX hX' h2 h3
  go_enter Tryz.func73, Tryz.ntmps73
  go_upto_region 1 with fail
  generalize ((w.alloc _).alloc _ : World) = w0 at hb0 G J H0 HC HC' hx hx' ⊢
  have hw0 := hb0.size
  have HB := Below.refl w0.heap.size w0
  refine wp_region_sink 12 (fun w' => Box w' (w.heap.size + 1) 26 C0 ∧ Box w' w.heap.size 29 #[.slice A1 d.ks.length c1, .slice A2 d.ls.length c2]) (by kernel_rfl) ⟨G, J⟩ (fun hH => ?_)
  have hb := (Below.refl w0.heap.size w0).drew
  replace HB := bel_trans HB hb
  replace G := G.later hb G.lt
  replace J := J.later hb J.lt
  clear hb
  generalize w0.drew = w3 at G J HB hH ⊢
  refine wpAnyE_takeS (i := 0) (v := .agg C0) (by simp only [List.getElem?_toArray, List.getElem?_cons_zero]; rfl) (by kernel_rfl) (by kernel_rfl) (by kernel_rfl) (by exact fun _ _ _ h => h) (by kernel_rfl) ?yg0 hH ?_
  case yg0 => exact yields_box 26 _ rfl ((w.heap.size + 1)) rfl 26 C0 (fun _ h => h.1) _ Tryz.underlying26 rfl J0.out (by first | rfl | simp [Region.wanted, yielded] | (simp [Region.wanted, yielded, Act.put] <;> omega))
  try simp only [Act.put, List.setIfInBounds_toArray, List.set_cons_zero, List.set_cons_succ]
  refine wpAnyE_pure (i := 1) (v := ?vp1) (by simp only [List.getElem?_toArray, List.getElem?_cons_succ, List.getElem?_cons_zero]; rfl) (by kernel_rfl) (by kernel_rfl) (by kernel_rfl) (by exact fun _ _ _ h => h) (by kernel_rfl) (Or.inl ⟨by rfl, ?yp1⟩) hH ?rp1
  case yp1 => (intro w' hSw; (try dsimp only at hSw); go_simp; try with_reducible rfl)
  try simp only [Act.put, List.setIfInBounds_toArray, List.set_cons_zero, List.set_cons_succ]
  refine wpAnyE_takeS (i := 2) (v := (.slice A1 d.ks.length c1)) (by simp only [List.getElem?_toArray, List.getElem?_cons_succ, List.getElem?_cons_zero]; rfl) (by kernel_rfl) (by kernel_rfl) (by kernel_rfl) (by exact fun _ _ _ h => h) (by kernel_rfl) ?yc2 hH ?_
  case yc2 => exact .inl ⟨(by first | rfl | simp [Region.wanted, yielded] | (simp [Region.wanted, yielded, Act.put] <;> omega)), fun w' hSw => by (try dsimp only at hSw); have hc := (Box.two hSw.2).1; go_simp; try with_reducible rfl⟩
  try simp only [Act.put, List.setIfInBounds_toArray, List.set_cons_zero, List.set_cons_succ]
  refine wpAnyE_pure (i := 3) (v := ?vp3) (by simp only [List.getElem?_toArray, List.getElem?_cons_succ, List.getElem?_cons_zero]; rfl) (by kernel_rfl) (by kernel_rfl) (by kernel_rfl) (by exact fun _ _ _ h => h) (by kernel_rfl) (Or.inl ⟨by rfl, ?yp3⟩) hH ?rp3
  case yp3 => (intro w' hSw; (try dsimp only at hSw); go_simp; try with_reducible rfl)
  try simp only [Act.put, List.setIfInBounds_toArray, List.set_cons_zero, List.set_cons_succ]
  refine wpAnyE_takeS (i := 4) (v := (.slice A2 d.ls.length c2)) (by simp only [List.getElem?_toArray, List.getElem?_cons_succ, List.getElem?_cons_zero]; rfl) (by kernel_rfl) (by kernel_rfl) (by kernel_rfl) (by exact fun _ _ _ h => h) (by kernel_rfl) ?yc4 hH ?_
  case yc4 => exact .inl ⟨(by first | rfl | simp [Region.wanted, yielded] | (simp [Region.wanted, yielded, Act.put] <;> omega)), fun w' hSw => by (try dsimp only at hSw); have hc := (Box.two hSw.2).2; go_simp; try with_reducible rfl⟩
  try simp only [Act.put, List.setIfInBounds_toArray, List.set_cons_zero, List.set_cons_succ]
  refine wpAnyE_one (i := 5) (by kernel_rfl) (by simp only [List.getElem?_toArray, List.getElem?_cons_succ, List.getElem?_cons_zero]; rfl) (fun K hK => ?_)
  go_simp
  have hn := bel_alloc w3 (.cells #[.slice A1 d.ks.length c1, .slice A2 d.ls.length c2] 27)
  have Q := Box.new w3 27 #[.slice A1 d.ks.length c1, .slice A2 d.ls.length c2]
  replace G := G.alloc (.cells #[.slice A1 d.ks.length c1, .slice A2 d.ls.length c2] 27)
  replace J := J.alloc (.cells #[.slice A1 d.ks.length c1, .slice A2 d.ls.length c2] 27)
  replace HB := bel_trans HB hn
  clear hn
  clear hH
  refine hK.out _ _ ⟨G, J⟩ (fun hH => ?_)
  clear hK K
  try simp only [Act.put, List.setIfInBounds_toArray, List.set_cons_zero, List.set_cons_succ]
  generalize w3.heap.size = q at Q ⊢
  generalize (w3.alloc _ : World) = w5 at G J HB Q hH ⊢
  refine wpAnyE_one (i := 6) (by kernel_rfl) (by simp only [List.getElem?_toArray, List.getElem?_cons_succ, List.getElem?_cons_zero]; rfl) (fun K hK => ?_)
  go_simp
  refine (concatRec_is _ _ _ _ _ X X' w5 hl2 Q (hx.later HB) (hx'.later HB)).mono ?_
  rintro e w6 ⟨v, rfl, hown, hb⟩
  replace G := G.later hb G.lt
  replace J := J.later hb J.lt
  have hw5 := HB.size
  have HB2 := bel_trans HB hb
  rw [← HX.out, ← HX'.out] at hown
  have hL := row_two hf.out hf'.out (ownLow hown hw5) HC.out HC'.out HB2
  have hL2 := hL.lt.sub (F' := (· < w6.heap.size)) (fun b hb => hb.2)
  obtain ⟨A, c, rfl, hmx, hr⟩ := hL2.at
  clear hL hL2 hown Q hb HB
  clear hH
  refine hK.out _ _ ⟨G, J⟩ (fun hH => ?_)
  clear hK K
  try simp only [Act.put, List.setIfInBounds_toArray, List.set_cons_zero, List.set_cons_succ]
  generalize (d.ks ++ d.ls).length = ln at hmx hr ⊢
  refine wpAnyE_one (i := 7) (by kernel_rfl) (by simp only [List.getElem?_toArray, List.getElem?_cons_succ, List.getElem?_cons_zero]; rfl) (fun K hK => ?_)
  go_simp
  have K0 := (keepsG g).later H0.out HB2
  refine (replayed8_is K0 hr hst).mono ?_
  rintro e w7 ⟨GG, cg, rfl, hO, hb⟩
  replace G := G.later hb G.lt
  replace J := J.later hb J.lt
  have E := bel_trans (bel_trans hb0 HB2) hb
  have O := Lib.hid (hO.low (bel_trans hb0 HB2).size)
  clear hb HB2 hr K0 hO
  rw [HRR.out] at O ⊢
  clear hH
  refine hK.out _ _ ⟨G, J⟩ (fun hH => ?_)
  clear hK K
  try simp only [Act.put, List.setIfInBounds_toArray, List.set_cons_zero, List.set_cons_succ]
  refine wpAnyE_pure (i := 8) (v := ?vq8) (by simp only [List.getElem?_toArray, List.getElem?_cons_succ, List.getElem?_cons_zero]; rfl) (by kernel_rfl) (by kernel_rfl) (by kernel_rfl) (by exact fun _ _ _ h => h) (by kernel_rfl) (Or.inl ⟨by rfl, ?yq8⟩) hH ?rq8
  case yq8 => (intro w' hSw; (try dsimp only at hSw); go_simp; try with_reducible rfl)
  try simp only [Act.put, List.setIfInBounds_toArray, List.set_cons_zero, List.set_cons_succ]
  refine wpAnyE_pure (i := 9) (v := ?vq9) (by simp only [List.getElem?_toArray, List.getElem?_cons_succ, List.getElem?_cons_zero]; rfl) (by kernel_rfl) (by kernel_rfl) (by kernel_rfl) (by exact fun _ _ _ h => h) (by kernel_rfl) (Or.inl ⟨by rfl, ?yq9⟩) hH ?rq9
  case yq9 => (intro w' hSw; (try dsimp only at hSw); go_simp; try with_reducible rfl)
  try simp only [Act.put, List.setIfInBounds_toArray, List.set_cons_zero, List.set_cons_succ]
  refine wpAnyE_pure (i := 10) (v := ?vq10) (by simp only [List.getElem?_toArray, List.getElem?_cons_succ, List.getElem?_cons_zero]; rfl) (by kernel_rfl) (by kernel_rfl) (by kernel_rfl) (by exact fun _ _ _ h => h) (by kernel_rfl) (Or.inl ⟨by rfl, ?yq10⟩) hH ?rq10
  case yq10 => (intro w' hSw; (try dsimp only at hSw); go_simp; try with_reducible rfl)
  try simp only [Act.put, List.setIfInBounds_toArray, List.set_cons_zero, List.set_cons_succ]
  refine wpAnyE_end (i := 11) (by kernel_rfl) (by simp only [List.getElem?_toArray, List.getElem?_cons_succ, List.getElem?_cons_zero]; rfl) (by kernel_rfl) (fun K hK => ?_)
  go_simp
  refine hK.out _ _ ⟨G, J⟩ ?_
  clear hK K hH G J
  try simp only [Act.put, List.setIfInBounds_toArray, List.set_cons_zero, List.set_cons_succ]
  go_wp2
  exact bodyPost_ret (v := .tuple #[.slice (some ⟨GG, 0, none⟩) rr.1.length cg, .bool rr.2]) (by simp [results, Tryz.results73, go_sem]) rfl ⟨_, _, rfl, O.out, E⟩
set_option maxRecDepth 100000 in
set_option maxHeartbeats 4000000 in
theorem journalOk_is {g : GrpD} {d : JourD} {w : World} {F0 F1 : Nat → Prop} {C0 C1 : Array Value} {z : Bool} (h0 : AtG g w F0 (.agg C0)) (h1 : AtS9 d w F1 (.agg C1)) (hs : d.sz ≤ 1048576) (hz : jokD g d = z) :
    Calls Tryz.prog 17 #[.agg C0, .agg C1] w fun e w' => e = .returned (.bool z) ∧ Below w.heap.size w w' := by
  have HZ := Lib.hid hz
  have hst : totC (d.ks ++ d.ls) ≤ 1048576 := by rw [totC_app]; exact hs
  have J0 := Lib.hid (sizeG h0).2
  have J1 := Lib.hid (show (Tryz.prog.info? 29).map (·.size) = some C1.size from (sizeJ h1.at).2)
  have hb0 := bel_trans (bel_alloc w (.cells C0 26)) (bel_alloc _ (.cells C1 29))
  have G := (Box.new w 26 C0).alloc (.cells C1 29)
  have J := Box.new (w.alloc (.cells C0 26)) 29 C1
  simp only [World.size_alloc] at J
  have H0 := Lib.hid ((keepsG g).later h0 hb0)
  have H1 := (keepsS9 d).later h1 hb0
  clear h0 h1 hz
  go_enter Tryz.func17, Tryz.ntmps17
  go_upto_region 1 with fail
  generalize ((w.alloc _).alloc _ : World) = w0 at hb0 G J H0 H1 ⊢
  go_wp2_with (first | (refine wpList_load_box 29 _ rfl (w.heap.size + 1) rfl 29 C1 J _ Tryz.underlying29 rfl J1.out (by first | rfl | simp [Region.wanted, yielded] | (simp [Region.wanted, yielded, Act.put] <;> omega)) ?_) | (refine wpList_load_box 26 _ rfl (w.heap.size) rfl 26 C0 G _ Tryz.underlying26 rfl J0.out (by first | rfl | simp [Region.wanted, yielded] | (simp [Region.wanted, yielded, Act.put] <;> omega)) ?_))
  refine (regs_is H0.out H1 hs rfl).mono ?_
  rintro e w2 ⟨GG, cg, rfl, -, hb⟩
  have E := bel_trans hb0 hb
  clear hb hb0 H0 H1 J G
  rw [show (replD g (d.ks ++ d.ls)).2 = z from HZ.out]
  generalize (replD g (d.ks ++ d.ls)).1 = rs
  go_wp2
  go_ret
  exact ⟨rfl, E⟩

end Go.Proofs.YtjdepjpjjgkmbaaGreat

/- The builtin copy over elements of any number of cells, into a row that is known whole; conditions: the places. -/
namespace Go.Proofs.YtjdepjpjjgkmbaaGreat
open Go Go.RowKit

section
variable {P : Program}
theorem run_copy_none_w (w : World) (dT sT ty elem : TypeId) (k : Nat) (d a : Option Addr) (dLen dCap sLen sCap : Nat) (hu : P.underlying dT = some (.slice elem)) (hs : (P.info? elem).map (·.size) = some k) (hn : Nat.min sLen dLen = 0) :
    (Builtin.copy_ #[dT, sT] ty #[.slice d dLen dCap, .slice a sLen sCap]).run P w = .ok (goInt 0) w := by
  cases hq : P.info? elem with
  | none => simp [hq] at hs
  | some i =>
    have hl : ∀ (x : Addr), (loadCells x 0).run P w = .ok #[] w := fun x => by simpa using run_loadCells_list (P := P) w x [] (by simp)
    cases d <;> cases a <;> simp [Builtin.copy_, run_underlying hu, Builtin.lenOf, Builtin.firstCells, sizeOf, typeInfo, hq, hn, storeCells, hl]
theorem run_copy_row_w (w : World) (dT sT ty elem : TypeId) (k : Nat) (g o dLen dCap : Nat) (a : Addr) (sLen sCap : Nat) (cur : Array Value) (t : TypeId) (cs : List Value)
    (hu : P.underlying dT = some (.slice elem)) (hs : (P.info? elem).map (·.size) = some k)
    (hg : w.heap[g]? = some (.cells cur t (0, 0))) (hn : cs.length = Nat.min sLen dLen * k)
    (hsrc : ∀ j v, cs[j]? = some v → w.cell? (a.add j) = some v) (hfit : o + cs.length ≤ cur.size) (h1 : ∀ v ∈ cs, v.oneCell' = true) :
    (Builtin.copy_ #[dT, sT] ty #[.slice (some ⟨g, o, none⟩) dLen dCap, .slice (some a) sLen sCap]).run P w =
      .ok (goInt (Nat.min sLen dLen)) (w.setRow g (cur.toList.take o ++ cs ++ cur.toList.drop (o + cs.length)).toArray) := by
  have hl := run_loadCells_list (P := P) w a cs hsrc
  have hst := run_storeCells_at P g o t cs 0 cur w hg (by simpa using hfit) h1
  cases hq : P.info? elem with
  | none => simp [hq] at hs
  | some i =>
    have hi : i.size = k := by simpa [hq] using hs
    simp [Builtin.copy_, run_underlying hu, Builtin.lenOf, Builtin.firstCells, sizeOf, typeInfo, hq, hi, ← hn, hl, hst]
theorem wpList_copy_wide {w : World} {ops : Array Oper} {rest : List Oper} {o : Oper} {a : Act} {Q : Exit → Act → World → Prop} (hgd : o.guard = none) (d s : Operand) (dT sT : TypeId)
    (ho : o.op = .call { callee := .builtin .copy, args := #[d, s], argTypes := #[dT, sT] }) (elem : TypeId) (k : Nat) (hu : P.underlying dT = some (.slice elem)) (hsz : (P.info? elem).map (·.size) = some k)
    (dp sp : Option Addr) (dLen dCap sLen sCap : Nat) (hd : a.eval d = .slice dp dLen dCap) (hs : a.eval s = .slice sp sLen sCap)
    (g off : Nat) (cur : List Value) (t : TypeId) (hg : w.heap[g]? = some (.cells cur.toArray t (0, 0))) (m : Nat) (hm : Nat.min sLen dLen = m) (cs : List Value) (hn : cs.length = m * k)
    (hpos : 0 < m → dp = some ⟨g, off, none⟩ ∧ ∃ ad, sp = some ad ∧ ∀ j v, cs[j]? = some v → w.cell? (ad.add j) = some v)
    (hfit : off + cs.length ≤ cur.length) (h1 : ∀ v ∈ cs, v.oneCell' = true) (B : Nat) (w0 : World) (hb : Below B w0 w) (hBg : B ≤ g)
    (h : ∀ w', Hid (w'.heap[g]? = some (.cells (splice cur off cs).toArray t (0, 0))) → Below B w0 w' → wpList P ops Q rest (a.put o.dst (goInt m)) w') :
    wpList P ops Q (o :: rest) a w := by
  refine wpList_plain hgd fun K hK => ?_
  subst hm
  by_cases h0 : Nat.min sLen dLen = 0
  · rw [h0, Nat.zero_mul] at hn
    obtain rfl : cs = [] := List.eq_nil_of_length_eq_zero hn
    have hrun := run_copy_none_w (P := P) w dT sT o.type elem k dp sp dLen dCap sLen sCap hu hsz h0
    unfold Oper.wp
    simp [execOp, ho, resolve, invoke, builtin, hd, hs, hrun, Result.andThen]
    rw [h0] at h
    exact hK _ _ (h w (show _ = _ by simpa [splice] using hg) hb)
  · obtain ⟨rfl, ad, rfl, hsrc⟩ := hpos (by omega)
    have hrun := run_copy_row_w (P := P) w dT sT o.type elem k g off dLen dCap ad sLen sCap cur.toArray t cs hu hsz hg hn hsrc (by simpa using hfit) h1
    unfold Oper.wp
    simp [execOp, ho, resolve, invoke, builtin, hd, hs, hrun, Result.andThen]
    exact hK _ _ (h _ (show _ = _ by simpa [splice] using setRow_heap w g _ _ t _ hg) (below_setRow hb hBg _))
end
end Go.Proofs.YtjdepjpjjgkmbaaGreat

/- The model's copy of a list of records: each with its list in a block of its own; conditions: the sizes. -/
namespace Go.Proofs.YtjdepjpjjgkmbaaGreat
open Go Go.RowKit Go.Deep

/-- k records are copied: a row of one's own, the records' lists each in blocks of its own. -/
structure CopyK (w wr : World) (ds : List RecD) (k g cap : Nat) (ms : List (RecD × Value)) (Fs : Nat → Nat → Prop) : Prop where
  bel : Below w.heap.size w wr
  own : wr.ownsRow w.heap.size 46 9 (.slice (some ⟨g, 0, none⟩) k cap) k (flatC ms)
  map : ms.map (·.1) = ds.take k
  cert : ∀ i (h : i < ms.length), OwnP wr (Fs i) (ms[i]).2 (ms[i]).1.ps
  far : ∀ i, i < k → ∀ b, Fs i b → w.heap.size ≤ b ∧ b < wr.heap.size ∧ b ≠ g
  two : ∀ i j, i < k → j < k → i ≠ j → ∀ b, Fs i b → ¬ Fs j b
theorem CopyK.gl {w wr : World} {ds : List RecD} {k g cap : Nat} {ms : List (RecD × Value)} {Fs : Nat → Nat → Prop} (h : CopyK w wr ds k g cap ms Fs) : w.heap.size ≤ g ∧ g < wr.heap.size := h.own.lt g rfl
theorem CopyK.len {w wr : World} {ds : List RecD} {k g cap : Nat} {ms : List (RecD × Value)} {Fs : Nat → Nat → Prop} (h : CopyK w wr ds k g cap ms Fs) : ms.length = k := by
  have h1 := h.own.1
  rw [flatC_len] at h1
  omega
theorem OwnP.low {w : World} {F : Nat → Prop} {v : Value} {ps : List (Int × Int)} (h : OwnP w F v ps) : OwnP w (fun b => F b ∧ b < w.heap.size) v ps := by
  rcases h with h | ⟨g, cap, hg, e, h0, h1, hh⟩
  · exact .inl h
  · exact .inr ⟨g, cap, ⟨hg, hh.lt⟩, e, h0, h1, hh⟩
/-- The next one: its list was copied (w2), behind it it went into the row (w3). -/
theorem CopyK.next {w wr w2 w3 : World} {ds : List RecD} {k g cap g' cap' : Nat} {ms : List (RecD × Value)} {Fs : Nat → Nat → Prop} {u : Value} (h : CopyK w wr ds k g cap ms Fs) (hk : k < ds.length) (hb : Below wr.heap.size wr w2) (hu : OwnP w2 (Iv wr.heap.size w2.heap.size) u (ds[k]).ps)
    (hown : w3.ownsRow w.heap.size 46 9 (.slice (some ⟨g', 0, none⟩) (k + 1) cap') (k + 1) (flatC (ms ++ [(ds[k], u)]))) (hg : w2.grownBy w3 (some g)) (hl : g' = g ∨ w2.heap.size ≤ g') :
    CopyK w w3 ds (k + 1) g' cap' (ms ++ [(ds[k], u)]) (fun i => if i = k then Iv wr.heap.size w2.heap.size else Fs i) := by
  have hlen := h.len
  obtain ⟨g1, g2⟩ := h.gl
  have hs := hb.size
  have hs3 := hg.size
  have ht := Turns.of_grown hg
  refine ⟨bel_grown (bel_trans h.bel hb) hg g1, hown, ?_, fun i hi => ?_, fun i hi b hbi => ?_, fun i j hi hj hij b hbi hbj => ?_⟩
  · rw [List.map_append, h.map, List.take_succ_eq_append_getElem hk]
    rfl
  · rw [List.length_append, hlen] at hi
    by_cases e : i = k
    · subst e
      simp only [if_true]
      rw [List.getElem_append_right (by omega)]
      simp only [hlen, Nat.sub_self, List.getElem_cons_zero]
      exact hu.turn ht (fun b hb e => by have := hb.1; omega)
    · have hik : i < k := by simp at hi; omega
      simp only [if_neg e]
      rw [List.getElem_append_left (by omega)]
      exact (OwnP.turn (h.cert i (by omega)) (T := fun _ => False) (Turns.of_below hb) (fun _ _ h => h)).turn ht (fun b hb e => (h.far i hik b hb).2.2 e)
  · by_cases e : i = k
    · simp only [if_pos e] at hbi
      have h1 := hbi.1
      have h2 := hbi.2
      have h3 := h.bel.size
      refine ⟨by omega, by omega, ?_⟩
      omega
    · simp only [if_neg e] at hbi
      have := h.far i (by omega) b hbi
      refine ⟨this.1, by omega, by omega⟩
  · by_cases e : i = k
    · by_cases e2 : j = k
      · omega
      · simp only [if_pos e] at hbi
        simp only [if_neg e2] at hbj
        have := h.far j (by omega) b hbj
        have := hbi.1
        omega
    · simp only [if_neg e] at hbi
      by_cases e2 : j = k
      · simp only [if_pos e2] at hbj
        have := h.far i (by omega) b hbi
        have := hbj.1
        omega
      · simp only [if_neg e2] at hbj
        exact h.two i j (by omega) (by omega) hij b hbi hbj
theorem CopyK.done {w wr : World} {ds : List RecD} {g cap : Nat} {ms : List (RecD × Value)} {Fs : Nat → Nat → Prop} (h : CopyK w wr ds ds.length g cap ms Fs) : OwnCS ds wr (Iv w.heap.size wr.heap.size) (.slice (some ⟨g, 0, none⟩) ds.length cap) := by
  have hlen := h.len
  obtain ⟨g1, g2⟩ := h.gl
  have hm := h.map
  rw [List.take_length] at hm
  have hcap : ds.length ≤ cap ∧ cap ≤ maxLen := by
    rcases h.own.2 with ⟨e, _⟩ | ⟨g', c', cur, e, _, _, h1, h2, _⟩
    · cases e
    · injection e with _ _ e
      subst e
      exact ⟨h1, h2⟩
  refine .inr ⟨g, cap, Fs, ⟨g1, g2⟩, rfl, hcap.1, hcap.2, ⟨g2, fun o => ?_, fun i hi => ?_, fun i hi b hb => (h.far i hi b hb).2.2, h.two⟩, fun i hi b hb => ⟨⟨(h.far i hi b hb).1, (h.far i hi b hb).2.1⟩, (h.far i hi b hb).2.1⟩⟩
  · rcases h.own.2 with ⟨e, _⟩ | ⟨g', c', cur, e, _, hg, _⟩
    · cases e
    · injection e with e _ _
      injection e with e
      injection e with e _ _
      subst e
      simp [World.frozen?, hg]
  · obtain ⟨hi', ed⟩ := map_at hm hi
    rw [recsK_at rfl hi, ← ed]
    refine ⟨(ms[i]).2, fun j x hx => ?_, (ms[i]).2, rfl, h.cert i hi'⟩
    have hj : j < 9 := by
      have := (List.getElem?_eq_some_iff.1 hx).1
      rwa [cells_len] at this
    rw [h.own.cellAt (i * 9 + j) (by omega), flatC_at hi' hj]
    exact hx

set_option maxRecDepth 100000 in
set_option maxHeartbeats 8000000 in
theorem l10RecsK_is {ds : List RecD} {w : World} {F : Nat → Prop} {v : Value} (h : ListS ds w F v) (hs : totC ds ≤ 2097152) :
    Calls Tryz.prog 71 #[v] w fun e w' => ∃ g cap ms Fs, e = .returned (.slice (some ⟨g, 0, none⟩) ds.length cap) ∧ CopyK w w' ds ds.length g cap ms Fs := by
  obtain ⟨i0, hi0, hz0, hz1, hz2⟩ := info_parts Tryz.infoSealI
  obtain ⟨j0, hj0, hy0, hy1, hy2⟩ := info_parts Tryz.infoRecI
  have hlt := h.lt
  clear h
  have hdl : ds.length ≤ 2097152 := by have := totC_rest ds 0; rw [totC_zero] at this; omega
  obtain ⟨n, hn⟩ : ∃ n, ds.length = n := ⟨_, rfl⟩
  have HL := Lib.hid hn
  obtain ⟨A, c, e, -, -⟩ := hlt.at
  subst e
  have HV : Hid (n = 0 ∨ ∃ b o, A = some ⟨b, o, none⟩ ∧ b < w.heap.size ∧ ∃ ms : List (RecD × Value), ms.map (·.1) = ds ∧ CertsF w (· < w.heap.size) ms ∧ CellsAt w b o ms) := by
    rcases hlt with ⟨_, h0⟩ | ⟨b, o, c', e, _, _, h3, ms, hm, hc, hx⟩
    · exact .inl (by rw [← hn, h0]; rfl)
    · rcases Nat.eq_zero_or_pos n with h0 | h0
      · exact .inl h0
      · injection e with e1 _ _
        exact .inr ⟨b, o, e1, (h3 (by omega)).2, ms, hm, hc.sub (fun b hb => hb.2), hx⟩
  rw [hn] at hdl ⊢
  clear hlt hn
  have hb0 := bel_alloc w (.cells #[] 46)
  have K0 : CopyK w (w.alloc (.cells #[] 46)) ds 0 w.heap.size 0 [] (fun _ _ => False) := ⟨hb0, own_new w 46 9, by simp, fun i h => absurd h (by simp), fun i hi => absurd hi (by omega), fun i j hi => absurd hi (by omega)⟩
  go_enter Tryz.func71, Tryz.ntmps71
  go_wp2_with fail
  generalize (w.alloc _ : World) = w0 at hb0 K0 ⊢
  go_loopw [3, 4] (fun out i wr => ∃ (k g cap : Nat) (ms : List (RecD × Value)) (Fs : Nat → Nat → Prop), k ≤ n ∧ i = .int .i64 k ∧ out = .slice (some ⟨g, 0, none⟩) k cap ∧ CopyK w wr ds k g cap ms Fs) (fun _ i _ => n - (intOf i).toNat)
  case atStart => exact ⟨0, w.heap.size, 0, [], _, Nat.zero_le _, rfl, rfl, K0⟩
  case round =>
    clear K0
    obtain ⟨k, g, cap, ms, Fs, hk, rfl, rfl, K⟩ := hrel
    by_cases hlt : k < n
    · have hkd : k < ds.length := by have := HL.out; omega
      obtain h0 | ⟨b, o, hA, hbl, mx, hm, hc, hx⟩ := HV.out
      · omega
      subst hA
      obtain ⟨hi', ed⟩ := map_at hm hkd
      have hrow := flatC_row hx hi'
      have hct := hc mx[k] (List.getElem_mem hi')
      obtain ⟨L, m, mc, eu, hmm, -⟩ := hct.at
      have htc := totC_mem ds hkd
      have hnx := fun (w2 w3 : World) (g' cap' : Nat) (u : Value) => K.next (w2 := w2) (w3 := w3) (g' := g') (cap' := cap') (u := u) hkd
      rw [ed] at hrow hct
      rw [eu] at hrow hct
      obtain ⟨d, hd⟩ : ∃ d : RecD, ds[k] = d := ⟨_, rfl⟩
      rw [hd] at hrow hct htc hnx
      have NX := Lib.hid hnx
      have hT : ∀ j x, w.cell? ⟨b, j, none⟩ = some x → wr.cell? ⟨b, j, none⟩ = some x := fun j x h => (K.bel.cell (p := ⟨b, j, none⟩) hbl).trans h
      obtain ⟨c0, c1, c2, c3, c4, c5, c6, c7, c8⟩ := hrow
      replace c0 := hT _ _ c0
      replace c1 := hT _ _ c1
      replace c2 := hT _ _ c2
      replace c3 := hT _ _ c3
      replace c4 := hT _ _ c4
      replace c5 := hT _ _ c5
      replace c6 := hT _ _ c6
      replace c7 := hT _ _ c7
      replace c8 := hT _ _ c8
      have hsl := (hct.slc.later K.bel)
      have HSL := Lib.hid hsl
      have hps : d.ps.length ≤ 2097152 := by omega
      have hltI : (k : Int) < (n : Int) := by omega
      have hkw : IntKind.i64.wrap ((k : Int) + 1) = (k : Int) + 1 := IntWalk.i64_in _ (by omega)
      clear hnx hT hm hc hx hd hsl hct htc ed eu
      have ZB := Box.new wr 46 #[.int .i64 0, .int .i64 0, .int .i64 0, .int .i64 0, .int .i64 0, .int .i64 0, .int .i64 0, .slice none 0 0, .int .i64 0]
      have VX := (Box.new wr 46 #[.int .i64 0, .int .i64 0, .int .i64 0, .int .i64 0, .int .i64 0, .int .i64 0, .int .i64 0, .slice none 0 0, .int .i64 0]).setRow #[.int .i64 d.r1, .int .i64 d.r2, .int .i64 d.r3, .int .i64 d.r4, .int .i64 d.r5, .int .i64 d.r6, .int .i64 d.r7, .slice L m mc, .int .i64 d.r8]
      have hn := bel_new_row wr #[.int .i64 0, .int .i64 0, .int .i64 0, .int .i64 0, .int .i64 0, .int .i64 0, .int .i64 0, .slice none 0 0, .int .i64 0] 46 #[.int .i64 d.r1, .int .i64 d.r2, .int .i64 d.r3, .int .i64 d.r4, .int .i64 d.r5, .int .i64 d.r6, .int .i64 d.r7, .slice L m mc, .int .i64 d.r8]
      go_upto_region 6 with (refine wpList_store_row rfl 46 _ _ rfl wr.heap.size _ rfl rfl 46 #[.int .i64 0, .int .i64 0, .int .i64 0, .int .i64 0, .int .i64 0, .int .i64 0, .int .i64 0, .slice none 0 0, .int .i64 0] ZB (by kernel_rfl) rfl (by simp [Value.oneCell']) ?_)
      clear ZB c0 c1 c2 c3 c4 c5 c6 c7 c8
      try simp only [Act.put]
      generalize ((wr.alloc _).setRow _ _ : World) = w1 at VX hn ⊢
      obtain ⟨v0, v1, v2, v3, v4, v5, v6, v7, v8⟩ := VX.nine
      have hVl := VX.lt
      have hb1 := bel_alloc w1 (.cells #[] 136)
      have hown := own_new w1 136 2
      have S1 := Lib.hid ((HSL.out.later hn).later hb1).src
      have VX1 := VX.later hb1 VX.lt
      have E1 := bel_trans hn hb1
      have hbs : w1.heap.size ≤ (w1.alloc (.cells #[] 136)).heap.size := hb1.size
      go_upto_region 7 with (at_builtin; refine wpList_append_src rfl _ _ _ rfl w1.heap.size 136 i0 _ 2 16 Tryz.underlying40 hi0 hz0 hz1 hz2 rfl (by omega) (.slice (some ⟨w1.heap.size, 0, none⟩) 0 0) 0 [] rfl hown (by simp) (.slice L m mc) d.ps.length (flatP d.ps) rfl S1.out (by unfold maxLen; omega) (by omega) hbs ?_; intro g1 cap1 w2 hown1 hgrow1 hbg1 hlg1; have hR1 := hown1; rw [Nat.zero_add, List.nil_append] at hR1; have R1 := Lib.hid ((own_resP hR1).own); have hgr : (w1.alloc (.cells #[] 136)).grownBy w2 (some w1.heap.size) := hgrow1; have VX2 := VX1.kept hgr (by intro e; injection e with e; omega); have E2 := bel_grown E1 hgr (by have := hn.size; omega); obtain ⟨y0, y1, y2, y3, y4, y5, y6, y7, y8⟩ := VX2.nine; have fy := VX2.frozen; clear hown1 hgrow1 hR1)
      have R3 := R1.out.turn (turns_setCells9.turns_cell9 w2 wr.heap.size 7 (.slice (some ⟨g1, 0, none⟩) d.ps.length cap1)) (fun b hb e => by have := hb.1; have := hn.size; omega)
      have VX3 : Box (w2.setCell ⟨wr.heap.size, 7, none⟩ (.slice (some ⟨g1, 0, none⟩) d.ps.length cap1)) wr.heap.size 46 #[.int .i64 d.r1, .int .i64 d.r2, .int .i64 d.r3, .int .i64 d.r4, .int .i64 d.r5, .int .i64 d.r6, .int .i64 d.r7, .slice (some ⟨g1, 0, none⟩) d.ps.length cap1, .int .i64 d.r8] := VX2.set 7 _
      have E3 := E2.setCell (p := ⟨wr.heap.size, 7, none⟩) (Nat.le_refl _) (.slice (some ⟨g1, 0, none⟩) d.ps.length cap1)
      have hs3 : (w2.setCell ⟨wr.heap.size, 7, none⟩ (.slice (some ⟨g1, 0, none⟩) d.ps.length cap1)).heap.size = w2.heap.size := size_set _ _ _
      have hw1 : wr.heap.size ≤ w1.heap.size := hn.size
      rw [← hs3] at R3
      clear R1 VX2 E2 hgr y0 y1 y2 y3 y4 y5 y6 y7 y8 fy v0 v1 v2 v3 v4 v5 v6 v7 v8 VX VX1 hn E1 S1 hown hb1 hbs hs3 hlg1
      try simp only [Nat.zero_add]
      generalize (w2.setCell _ _ : World) = w3 at R3 VX3 E3 ⊢
      have R4 := OwnP.sub (F' := Iv wr.heap.size w3.heap.size) R3 (fun b hb => ⟨Nat.le_trans hw1 hb.1, hb.2⟩)
      have R5 := Lib.hid R4
      clear R3 R4
      have hb5 := bel_alloc w3 (.cells #[.int .i64 d.r1, .int .i64 d.r2, .int .i64 d.r3, .int .i64 d.r4, .int .i64 d.r5, .int .i64 d.r6, .int .i64 d.r7, .slice (some ⟨g1, 0, none⟩) d.ps.length cap1, .int .i64 d.r8] 46)
      have E5 := Lib.hid (bel_trans E3 hb5)
      have OWN := Lib.hid (K.own.kept (grown_bel E5.out none) (.inr (by simp [Value.ownBlock])))
      have HW := Lib.hid (Nat.le_trans K.bel.size E5.out.size)
      have R6 := Lib.hid ((OwnP.turn R5.out (T := fun _ => False) (Turns.of_below hb5) (fun _ _ h => h)).sub (F' := Iv wr.heap.size (w3.alloc (.cells #[.int .i64 d.r1, .int .i64 d.r2, .int .i64 d.r3, .int .i64 d.r4, .int .i64 d.r5, .int .i64 d.r6, .int .i64 d.r7, .slice (some ⟨g1, 0, none⟩) d.ps.length cap1, .int .i64 d.r8] 46)).heap.size) (fun b hb => ⟨hb.1, Nat.lt_of_lt_of_le hb.2 hb5.size⟩))
      have hflat : flatC [(d, .slice (some ⟨g1, 0, none⟩) d.ps.length cap1)] = (#[.int .i64 d.r1, .int .i64 d.r2, .int .i64 d.r3, .int .i64 d.r4, .int .i64 d.r5, .int .i64 d.r6, .int .i64 d.r7, .slice (some ⟨g1, 0, none⟩) d.ps.length cap1, .int .i64 d.r8] : Array Value).toList := rfl
      have NEWS := Lib.hid (show ∀ j x, (flatC [(d, .slice (some ⟨g1, 0, none⟩) d.ps.length cap1)])[j]? = some x → (w3.alloc (.cells #[.int .i64 d.r1, .int .i64 d.r2, .int .i64 d.r3, .int .i64 d.r4, .int .i64 d.r5, .int .i64 d.r6, .int .i64 d.r7, .slice (some ⟨g1, 0, none⟩) d.ps.length cap1, .int .i64 d.r8] 46)).cell? ((⟨w3.heap.size, 0, none⟩ : Addr).add j) = some x from fun j x hj => by
        rw [hflat] at hj
        rw [show (⟨w3.heap.size, 0, none⟩ : Addr).add j = ⟨w3.heap.size, j, none⟩ by unfold Addr.add; split <;> simp_all]
        rw [(Box.new w3 46 #[.int .i64 d.r1, .int .i64 d.r2, .int .i64 d.r3, .int .i64 d.r4, .int .i64 d.r5, .int .i64 d.r6, .int .i64 d.r7, .slice (some ⟨g1, 0, none⟩) d.ps.length cap1, .int .i64 d.r8]).cell j]
        simpa using hj)
      have ONE := Lib.hid (show ∀ x ∈ flatC [(d, .slice (some ⟨g1, 0, none⟩) d.ps.length cap1)], x.oneCell' = true from flatC_one (fun p hp => by rw [List.mem_singleton.1 hp]; rfl))
      clear hflat hb5 R5
      go_wp2_with (first | (refine wpList_load_box 46 _ rfl wr.heap.size rfl 46 #[.int .i64 d.r1, .int .i64 d.r2, .int .i64 d.r3, .int .i64 d.r4, .int .i64 d.r5, .int .i64 d.r6, .int .i64 d.r7, .slice (some ⟨g1, 0, none⟩) d.ps.length cap1, .int .i64 d.r8] VX3 _ Tryz.underlying46 rfl (by kernel_rfl) (by first | rfl | simp [Region.wanted, yielded] | (simp [Region.wanted, yielded, Act.put] <;> omega)) ?_) | (at_builtin; refine wpList_append_lies _ rfl _ _ _ rfl w.heap.size 46 j0 _ 9 88 Tryz.underlying27 hj0 hy0 hy1 hy2 rfl (by omega) (.slice (some ⟨g, 0, none⟩) k cap) k (flatC ms) rfl OWN.out ⟨w3.heap.size, 0, none⟩ 1 1 (flatC [(d, .slice (some ⟨g1, 0, none⟩) d.ps.length cap1)]) rfl rfl NEWS.out ONE.out (by omega) (by unfold maxLen; omega) (by omega) HW.out _ rfl ?_; intro g' cap' w5 hown5 hgrow5 hlie hlg5))
      rw [← flatC_app] at hown5
      replace hgrow5 : World.grownBy _ w5 (some g) := hgrow5
      have hlie2 : g' = g ∨ (w3.alloc (.cells #[.int .i64 d.r1, .int .i64 d.r2, .int .i64 d.r3, .int .i64 d.r4, .int .i64 d.r5, .int .i64 d.r6, .int .i64 d.r7, .slice (some ⟨g1, 0, none⟩) d.ps.length cap1, .int .i64 d.r8] 46)).heap.size ≤ g' := by
        rcases hlie with h | h
        · injection h with h
          exact .inl h.symm
        · exact .inr (by rw [h]; exact Nat.le_refl _)
      have KN := Lib.hid (NX.out _ _ _ _ _ E5.out R6.out hown5 hgrow5 hlie2)
      clear hown5 hgrow5 hlie hlie2 hlg5 E5 OWN HW R6 NEWS ONE
      go_roundw
      case rel => exact ⟨k + 1, g', cap', _, _, by omega, by go_num, rfl, KN.out⟩
      case measure => simp [intOf]; omega
    · have hkn : k = n := by omega
      subst hkn
      have HD := Lib.hid K
      clear K
      go_wp2
      go_ret
      exact ⟨g, cap, ms, Fs, rfl, HD.out⟩
theorem l10Recs_is {ds : List RecD} {w : World} {F : Nat → Prop} {v : Value} (h : ListS ds w F v) (hs : totC ds ≤ 2097152) :
    Calls Tryz.prog 71 #[v] w fun e w' => ∃ g cap, e = .returned (.slice (some ⟨g, 0, none⟩) ds.length cap) ∧ OwnCS ds w' (Iv w.heap.size w'.heap.size) (.slice (some ⟨g, 0, none⟩) ds.length cap) ∧ Below w.heap.size w w' := by
  refine (l10RecsK_is h hs).mono ?_
  rintro e w' ⟨g, cap, ms, Fs, rfl, K⟩
  exact ⟨g, cap, rfl, K.done, K.bel⟩
end Go.Proofs.YtjdepjpjjgkmbaaGreat

/- Two lists of records, one behind the other, in memory of their own, each record with its list in a block of its own; conditions: the sizes. -/
namespace Go.Proofs.YtjdepjpjjgkmbaaGreat
open Go Go.RowKit Go.Deep

theorem farJ (w : World) (g : Nat) (v : Value) {a b : Nat} (h : a ≠ b) : (w.setCell ⟨g, a, none⟩ v).cell? ⟨g, b, none⟩ = w.cell? ⟨g, b, none⟩ := World.cell?_setCell_other _ _ _ _ (fun e => h (by injection e))
/-- Of the records in the block G the first k have lists of their own. -/
structure JoinK (w wr : World) (ds : List RecD) (k G : Nat) (Fs : Nat → Nat → Prop) : Prop where
  bel : Below w.heap.size w wr
  lo : w.heap.size ≤ G
  lt : G < wr.heap.size
  fr : ∀ o, wr.frozen? ⟨G, o, none⟩ = false
  own : ∀ i (h : i < ds.length), i < k → ∃ u, wr.rangeAt G (i * 9) ((ds[i]).cells u).toList ∧ OwnP wr (Fs i) u (ds[i]).ps
  rest : ∀ i (h : i < ds.length), k ≤ i → ∃ u, wr.rangeAt G (i * 9) ((ds[i]).cells u).toList ∧ SlcF wr (· < w.heap.size) u (ds[i]).ps
  far : ∀ i, i < k → ∀ b, Fs i b → w.heap.size ≤ b ∧ b < wr.heap.size ∧ b ≠ G
  two : ∀ i j, i < k → j < k → i ≠ j → ∀ b, Fs i b → ¬ Fs j b
theorem set_cells (d : RecD) (u u' : Value) : (d.cells u').toList = (d.cells u).toList.set 7 u' := rfl
/-- The next one's list was copied (w2) and laid into its place. -/
theorem JoinK.next {w wr w2 : World} {ds : List RecD} {k G : Nat} {Fs : Nat → Nat → Prop} {u' : Value} (h : JoinK w wr ds k G Fs) (hk : k < ds.length) (hb : Below wr.heap.size wr w2) (hu : OwnP w2 (Iv wr.heap.size w2.heap.size) u' (ds[k]).ps) :
    JoinK w (w2.setCell ⟨G, k * 9 + 7, none⟩ u') ds (k + 1) G (fun i => if i = k then Iv wr.heap.size w2.heap.size else Fs i) := by
  have hs := hb.size
  have hlt := h.lt
  have hlo := h.lo
  have hbw := h.bel.size
  have ht := turns_setCells9.turns_cell9 w2 G (k * 9 + 7) u'
  have hsz : (w2.setCell ⟨G, k * 9 + 7, none⟩ u').heap.size = w2.heap.size := size_set _ _ _
  have cellb : ∀ o x, wr.cell? ⟨G, o, none⟩ = some x → w2.cell? ⟨G, o, none⟩ = some x := fun o x hx => (hb.cell (p := ⟨G, o, none⟩) hlt).trans hx
  have rows : ∀ i, i ≠ k → ∀ vs : List Value, vs.length = 9 → wr.rangeAt G (i * 9) vs → (w2.setCell ⟨G, k * 9 + 7, none⟩ u').rangeAt G (i * 9) vs := fun i hi vs hl hr p y hy => by
    have hp : p < 9 := by
      have := (List.getElem?_eq_some_iff.1 hy).1
      omega
    exact (farJ w2 G u' (by omega)).trans (cellb _ _ (hr p y hy))
  refine ⟨(bel_trans h.bel hb).setCell (p := ⟨G, k * 9 + 7, none⟩) (by show w.heap.size ≤ G; exact hlo) _, hlo, by omega, fun o => ?_, fun i hi hik => ?_, fun i hi hik => ?_, fun i hi b hbi => ?_, fun i j hi hj hij b hbi hbj => ?_⟩
  · refine (World.frozen?_setCell _ _ _ _).trans ?_
    exact (hb.frozen (p := ⟨G, o, none⟩) hlt).trans (h.fr o)
  · by_cases e : i = k
    · subst e
      obtain ⟨u, h1, -⟩ := h.rest i hi (Nat.le_refl _)
      refine ⟨u', fun p y hy => ?_, ?_⟩
      · rw [set_cells (ds[i]) u u'] at hy
        by_cases hp : p = 7
        · subst hp
          rw [List.getElem?_set_self (by rw [cells_len]; omega)] at hy
          injection hy with hy
          subst hy
          exact World.cell?_setCell_same' _ _ _ (by rw [cellb _ _ (h1 7 u rfl)]; rfl)
        · rw [List.getElem?_set_ne (Ne.symm hp)] at hy
          exact (farJ w2 G u' (by omega)).trans (cellb _ _ (h1 p y hy))
      · simp only [if_true]
        exact hu.turn ht (fun b hb e => by have := hb.1; omega)
    · have hlk : i < k := by omega
      obtain ⟨u, h1, h2⟩ := h.own i hi hlk
      refine ⟨u, rows i e _ (cells_len _ _) h1, ?_⟩
      simp only [if_neg e]
      exact (OwnP.turn h2 (T := fun _ => False) (Turns.of_below hb) (fun _ _ h => h)).turn ht (fun b hb e => (h.far i hlk b hb).2.2 e)
  · obtain ⟨u, h1, h2⟩ := h.rest i hi (by omega)
    exact ⟨u, rows i (by omega) _ (cells_len _ _) h1, (SlcF.turn h2 (T := fun _ => False) (Turns.of_below hb) (fun _ _ h => h)).turn ht (fun b hb e => by have h3 : b < w.heap.size := hb; omega)⟩
  · by_cases e : i = k
    · simp only [if_pos e] at hbi
      have h1 := hbi.1
      have h2 := hbi.2
      exact ⟨by omega, by omega, by omega⟩
    · simp only [if_neg e] at hbi
      have := h.far i (by omega) b hbi
      exact ⟨this.1, by omega, this.2.2⟩
  · by_cases e : i = k
    · by_cases e2 : j = k
      · omega
      · simp only [if_pos e] at hbi
        simp only [if_neg e2] at hbj
        have := h.far j (by omega) b hbj
        have := hbi.1
        omega
    · simp only [if_neg e] at hbi
      by_cases e2 : j = k
      · simp only [if_pos e2] at hbj
        have := h.far i (by omega) b hbi
        have := hbj.1
        omega
      · simp only [if_neg e2] at hbj
        exact h.two i j (by omega) (by omega) hij b hbi hbj
theorem JoinK.done {w wr : World} {ds : List RecD} {G n : Nat} {Fs : Nat → Nat → Prop} (h : JoinK w wr ds n G Fs) (hn : ds.length = n) (hm : n ≤ maxLen) : OwnCS ds wr (Iv w.heap.size wr.heap.size) (.slice (some ⟨G, 0, none⟩) n n) := by
  subst hn
  refine .inr ⟨G, _, Fs, ⟨h.lo, h.lt⟩, rfl, Nat.le_refl _, hm, ⟨h.lt, h.fr, fun i hi => ?_, fun i hi b hb => (h.far i hi b hb).2.2, h.two⟩, fun i hi b hb => ⟨⟨(h.far i hi b hb).1, (h.far i hi b hb).2.1⟩, (h.far i hi b hb).2.1⟩⟩
  obtain ⟨u, h1, h2⟩ := h.own i hi hi
  rw [recsK_at rfl hi]
  exact ⟨u, h1, u, rfl, h2⟩
theorem splice_two {α : Type} (Z X X' : List α) (h : Z.length = X.length + X'.length) : splice (splice Z 0 X) X.length X' = X ++ X' := by
  have e : splice Z 0 X = X ++ Z.drop X.length := by simp [splice]
  rw [e]
  unfold splice
  rw [List.take_left, List.drop_append]
  simp
  omega
/-- Before the first one: the cells were copied. -/
theorem JoinK.start {w wr : World} {G : Nat} {ks ls : List RecD} {ms ms' : List (RecD × Value)} {t : TypeId} (hb : Below w.heap.size w wr) (hG : w.heap.size ≤ G) (hm : ms.map (·.1) = ks) (hm' : ms'.map (·.1) = ls) (hc : CertsF w (· < w.heap.size) ms) (hc' : CertsF w (· < w.heap.size) ms') (hbox : Box wr G t (flatC ms ++ flatC ms').toArray) : JoinK w wr (ks ++ ls) 0 G (fun _ _ => False) := by
  have hm2 : (ms ++ ms').map (·.1) = ks ++ ls := by rw [List.map_append, hm, hm']
  rw [← flatC_app] at hbox
  have hcc := (hc.app hc').later hb
  refine ⟨hb, hG, hbox.lt, hbox.frozen, fun i hi h0 => absurd h0 (by omega), fun i hi _ => ?_, fun i hi => absurd hi (by omega), fun i j hi => absurd hi (by omega)⟩
  obtain ⟨hi', ed⟩ := map_at hm2 hi
  refine ⟨((ms ++ ms')[i]).2, fun j x hx => ?_, ?_⟩
  · have hj : j < 9 := by
      have := (List.getElem?_eq_some_iff.1 hx).1
      rwa [cells_len] at this
    refine (hbox.cell _).trans ?_
    rw [List.getElem?_toArray, flatC_at hi' hj, ed]
    exact hx
  · have h2 := hcc _ (List.getElem_mem hi')
    rwa [ed] at h2
theorem Own.inIv {w w' : World} {v : Value} {ps : List (Int × Int)} (h : Own w v ps w') {B : Nat} (hB : B ≤ w.heap.size) : OwnP w' (Iv B w'.heap.size) v ps := by
  rcases h.1 with h | ⟨g, cap, hg, h0, h1, h2, h3⟩
  · exact .inl h
  · exact .inr ⟨g, cap, ⟨Nat.le_trans hB hg, h3.lt⟩, h0, h1, h2, h3⟩
set_option maxRecDepth 100000 in
set_option maxHeartbeats 8000000 in
theorem joined_is {ks ls : List RecD} {w : World} {F : Nat → Prop} {v v' : Value} (h : ListS ks w F v) (h' : ListS ls w F v') (hs : totC ks + totC ls ≤ 1048576) :
    Calls Tryz.prog 69 #[v, v'] w fun e w' => ∃ G, e = .returned (.slice (some ⟨G, 0, none⟩) (ks.length + ls.length) (ks.length + ls.length)) ∧ OwnCS (ks ++ ls) w' (Iv w.heap.size w'.heap.size) (.slice (some ⟨G, 0, none⟩) (ks.length + ls.length) (ks.length + ls.length)) ∧ Below w.heap.size w w' := by
  have hl1 : ks.length ≤ totC ks := by have := totC_rest ks 0; rw [totC_zero] at this; omega
  have hl2 : ls.length ≤ totC ls := by have := totC_rest ls 0; rw [totC_zero] at this; omega
  obtain ⟨ms, hm, hc, hx⟩ := h.lt.src
  obtain ⟨ms', hm', hc', hx'⟩ := h'.lt.src
  obtain ⟨A, c, rfl, -, -⟩ := h.at
  obtain ⟨A', c', rfl, -, -⟩ := h'.at
  clear h h'
  have HD := Lib.hid (fun k (hk : k < (ks ++ ls).length) => totC_mem (ks ++ ls) hk)
  have htot : totC (ks ++ ls) = totC ks + totC ls := by unfold totC; rw [List.map_append, List.sum_append]
  rw [htot] at HD
  have hlen : (ks ++ ls).length = ks.length + ls.length := List.length_append
  have hX : (flatC ms).length = ks.length * 9 := by rw [flatC_len, ← hm, List.length_map]
  have hX' : (flatC ms').length = ls.length * 9 := by rw [flatC_len, ← hm', List.length_map]
  have ONE := Lib.hid (flatC_one hc.one)
  have ONE' := Lib.hid (flatC_one hc'.one)
  have ST := fun (wr : World) (G : Nat) (t : TypeId) (hb : Below w.heap.size w wr) (hG : w.heap.size ≤ G) => JoinK.start (t := t) hb hG hm hm' (hc.sub (fun b hb => hb.2)) (hc'.sub (fun b hb => hb.2))
  have HST := Lib.hid ST
  clear ST hm hm' hc hc'
  generalize flatC ms = X at hx hX ONE HST
  generalize flatC ms' = X' at hx' hX' ONE' HST
  generalize ks.length = n at *
  generalize ls.length = n' at *
  generalize ks ++ ls = ds at *
  obtain ⟨s, hs1, hs2⟩ : ∃ s : Nat, (n : Int) + (n' : Int) = (s : Int) ∧ n + n' = s := ⟨n + n', by omega, rfl⟩
  rw [hs2] at hlen ⊢
  have hmk := fun W => run_make_recs (P := Tryz.prog) 27 46 Tryz.underlying27 Tryz.infoRec9 s (by omega) W
  have SX := Lib.hid hx
  have SX' := Lib.hid hx'
  have hb1 := bel_alloc w (.cells (madeCells (zeroC.cells (.slice none 0 0)) (s * 9)) 46)
  have B0 := Box.new w 46 (madeCells (zeroC.cells (.slice none 0 0)) (s * 9))
  have hZl : (madeCells (zeroC.cells (.slice none 0 0)) (s * 9)).toList.length = s * 9 := by simp [size_madeCells]
  have HL := Lib.hid hlen
  clear hx hx' hlen
  go_enter Tryz.func69, Tryz.ntmps69
  go_upto_region 2 with fail
  clear hmk
  have HP := Lib.hid (show ∀ w', Below w.heap.size w w' → 0 < n → ∃ ad, A = some ad ∧ ∀ j v, X[j]? = some v → w'.cell? (ad.add j) = some v from fun w' hb h0 => by
    rcases SX.out.later hb with ⟨_, e, _⟩ | ⟨ad, c2, e, _, h2, _⟩
    · omega
    · injection e with e _ _
      exact ⟨ad, e, h2⟩)
  have HP' := Lib.hid (show ∀ w', Below w.heap.size w w' → 0 < n' → ∃ ad, A' = some ad ∧ ∀ j v, X'[j]? = some v → w'.cell? (ad.add j) = some v from fun w' hb h0 => by
    rcases SX'.out.later hb with ⟨_, e, _⟩ | ⟨ad, c2, e, _, h2, _⟩
    · omega
    · injection e with e _ _
      exact ⟨ad, e, h2⟩)
  obtain ⟨Z, hZ⟩ : ∃ Z, (madeCells (zeroC.cells (.slice none 0 0)) (s * 9)).toList = Z := ⟨_, rfl⟩
  rw [hZ] at hZl
  have B1 : (w.alloc (.cells (madeCells (zeroC.cells (.slice none 0 0)) (s * 9)) 46)).heap[w.heap.size]? = some (.cells Z.toArray 46 (0, 0)) := by rw [← hZ]; exact B0
  have HB1 := Lib.hid B1
  clear B0 B1 hZ SX SX'
  have hm1 : Nat.min n s = n := Nat.min_eq_left (by omega)
  have hm2 : Nat.min n' n' = n' := Nat.min_self n'
  have hsn : s - n = n' := by omega
  generalize (w.alloc _ : World) = w1 at hb1 HB1 ⊢
  have hsp := Lib.hid (splice_two Z X X' (by rw [hZl, hX, hX']; omega))
  rw [hX] at hsp
  have hfit := Lib.hid (show n * 9 + n' * 9 ≤ (splice Z 0 X).length by rw [length_splice _ _ _ (by omega)]; omega)
  go_upto_region 3 with (first | (refine wpList_copy_wide rfl _ _ _ _ rfl 46 9 Tryz.underlying27 (by kernel_rfl) _ _ _ _ _ _ rfl rfl w.heap.size 0 Z 46 HB1.out n hm1 X hX (fun h0 => ⟨rfl, HP.out _ hb1 h0⟩) (by omega) ONE.out w.heap.size w hb1 (Nat.le_refl _) ?_; intro w2 HB2 hb2) | (refine wpList_copy_wide rfl _ _ _ _ rfl 46 9 Tryz.underlying27 (by kernel_rfl) _ _ _ _ _ _ rfl rfl w.heap.size (n * 9) (splice Z 0 X) 46 HB2.out n' hm2 X' hX' (fun h0 => ⟨by rw [if_neg (by omega)], HP'.out _ hb2 h0⟩) (Nat.le_trans (Nat.le_of_eq (by rw [hX'])) hfit.out) ONE'.out w.heap.size w hb2 (Nat.le_refl _) ?_; intro w3 HB3 hb3))
  rw [hsp.out] at HB3
  have K0 := Lib.hid (HST.out w3 w.heap.size _ hb3 (Nat.le_refl _) HB3.out)
  clear HB1 HB2 HB3 hb1 hb2 hfit hsp HP HP' HST ONE ONE' hZl hX hX' hb3
  try simp only [Act.put]
  generalize (ite (s = n) _ _ : Option Addr) = AD
  go_wp2
  go_loopw [23] (fun i wr => ∃ (k : Nat) (Fs : Nat → Nat → Prop), k ≤ s ∧ i = .int .i64 k ∧ JoinK w wr ds k w.heap.size Fs) (fun i _ => s - (intOf i).toNat)
  case atStart => exact ⟨0, _, Nat.zero_le _, rfl, K0.out⟩
  case round =>
    clear K0
    obtain ⟨k, Fs, hk, rfl, K⟩ := hrel
    by_cases hlt : k < s
    · have hkd : k < ds.length := by have := HL.out; omega
      obtain ⟨u, hrow, hsl⟩ := K.rest k hkd (Nat.le_refl _)
      have hdk := HD.out k hkd
      have hnx := fun (w2 : World) (u' : Value) => K.next (w2 := w2) (u' := u') hkd
      obtain ⟨d, hd⟩ : ∃ d : RecD, ds[k] = d := ⟨_, rfl⟩
      rw [hd] at hrow hsl hnx hdk
      have NX := Lib.hid hnx
      obtain ⟨L, m, mc, rfl, -, -⟩ := hsl.at
      have HSL := Lib.hid hsl.slc
      have c0 := hrow 0 _ rfl
      rw [Nat.add_zero] at c0
      have c1 := hrow 1 _ rfl
      have c2 := hrow 2 _ rfl
      have c3 := hrow 3 _ rfl
      have c4 := hrow 4 _ rfl
      have c5 := hrow 5 _ rfl
      have c6 := hrow 6 _ rfl
      have c7 := hrow 7 _ rfl
      have c8 := hrow 8 _ rfl
      have hps : d.ps.length ≤ 4194304 := by omega
      have hltI : (k : Int) < (s : Int) := by omega
      have hkw : IntKind.i64.wrap ((k : Int) + 1) = (k : Int) + 1 := IntWalk.i64_in _ (by omega)
      have hGl := K.lt
      have hfr := K.fr (k * 9 + 7)
      clear hnx hrow hd hsl hdk
      have ZB := Box.new wr 46 #[.int .i64 0, .int .i64 0, .int .i64 0, .int .i64 0, .int .i64 0, .int .i64 0, .int .i64 0, .slice none 0 0, .int .i64 0]
      have VX := (Box.new wr 46 #[.int .i64 0, .int .i64 0, .int .i64 0, .int .i64 0, .int .i64 0, .int .i64 0, .int .i64 0, .slice none 0 0, .int .i64 0]).setRow #[.int .i64 d.r1, .int .i64 d.r2, .int .i64 d.r3, .int .i64 d.r4, .int .i64 d.r5, .int .i64 d.r6, .int .i64 d.r7, .slice L m mc, .int .i64 d.r8]
      have hn := bel_new_row wr #[.int .i64 0, .int .i64 0, .int .i64 0, .int .i64 0, .int .i64 0, .int .i64 0, .int .i64 0, .slice none 0 0, .int .i64 0] 46 #[.int .i64 d.r1, .int .i64 d.r2, .int .i64 d.r3, .int .i64 d.r4, .int .i64 d.r5, .int .i64 d.r6, .int .i64 d.r7, .slice L m mc, .int .i64 d.r8]
      go_upto_region 6 with (refine wpList_store_row rfl 46 _ _ rfl wr.heap.size _ rfl rfl 46 #[.int .i64 0, .int .i64 0, .int .i64 0, .int .i64 0, .int .i64 0, .int .i64 0, .int .i64 0, .slice none 0 0, .int .i64 0] ZB (by kernel_rfl) rfl (by simp [Value.oneCell']) ?_)
      clear ZB c0 c1 c2 c3 c4 c5 c6 c8
      try simp only [Act.put]
      generalize ((wr.alloc _).setRow _ _ : World) = w1 at VX hn ⊢
      obtain ⟨v0, v1, v2, v3, v4, v5, v6, v7, v8⟩ := VX.nine
      have hVl := VX.lt
      have hs1 := hn.size
      have HS1 := Lib.hid (HSL.out.later hn)
      go_wp2_with (go_at_call 129; refine (cloneSeals_is _ d.ps _ hps HS1.out).mono ?_; rintro e w2 ⟨u', rfl, hO⟩; obtain ⟨A1, m1, c1, rfl⟩ := slc_form hO.slc; have hb2 := bel_trans hn hO.2; have hO2 := Lib.hid (hO.inIv hs1); have d7 := (hb2.cell (p := ⟨w.heap.size, k * 9 + 7, none⟩) hGl).trans c7; have fd := (hb2.frozen (p := ⟨w.heap.size, k * 9 + 7, none⟩) hGl).trans hfr; have HB := Lib.hid hb2; clear hO hb2)
      have KN := Lib.hid (NX.out w2 _ HB.out hO2.out)
      clear d7 fd
      go_roundw
      case rel => exact ⟨k + 1, _, by omega, by go_num, KN.out⟩
      case measure => simp [intOf]; omega
    · have hkn : k = s := by omega
      subst hkn
      have hd := K.done HL.out (by unfold maxLen; omega)
      have HDN := Lib.hid hd
      have E := K.bel
      clear K hd
      go_wp2
      go_ret
      exact ⟨w.heap.size, rfl, HDN.out, E⟩
end Go.Proofs.YtjdepjpjjgkmbaaGreat

namespace Go.Proofs.YtjdepjpjjgkmbaaGreat
open Go Go.RowKit

/-- A list of bools in memory, read through blocks of F. -/
def BoolF (w : World) (F : Nat → Prop) (A : Option Addr) (n : Nat) (bs : List Bool) : Prop :=
  bs.length = n ∧ (0 < n → ∃ b o, A = some ⟨b, o, none⟩ ∧ F b ∧ b < w.heap.size ∧ ∀ i (h : i < bs.length), w.cell? ⟨b, o + i, none⟩ = some (.bool bs[i]))
theorem BoolF.turn {T : Nat → Prop} {w w' : World} {F : Nat → Prop} {A : Option Addr} {n : Nat} {bs : List Bool} (h : BoolF w F A n bs) (ht : Turns T w w') (hd : ∀ b, F b → ¬ T b) : BoolF w' F A n bs := by
  refine ⟨h.1, fun hn => ?_⟩
  obtain ⟨b, o, hA, hF, hb, hc⟩ := h.2 hn
  exact ⟨b, o, hA, hF, Nat.lt_of_lt_of_le hb ht.size, fun i hi => (ht.cell hb (hd b hF) _).trans (hc i hi)⟩
theorem BoolF.later {w w' : World} {F : Nat → Prop} {A : Option Addr} {n : Nat} {bs : List Bool} (h : BoolF w F A n bs) (hb : Below w.heap.size w w') : BoolF w' F A n bs := h.turn (T := fun _ => False) (Turns.of_below hb) (fun _ _ h => h)
theorem BoolF.sub {w : World} {F F' : Nat → Prop} {A : Option Addr} {n : Nat} {bs : List Bool} (h : BoolF w F A n bs) (hs : ∀ b, F b → F' b) : BoolF w F' A n bs := by
  refine ⟨h.1, fun hn => ?_⟩
  obtain ⟨b, o, hA, hF, hb, hc⟩ := h.2 hn
  exact ⟨b, o, hA, hs b hF, hb, hc⟩
theorem BoolF.nil (w : World) (F : Nat → Prop) : BoolF w F none 0 [] := ⟨rfl, fun h => absurd h (by omega)⟩
/-- How many of m loose records are left: those ahead of the first lost one. -/
def leftN (bs : List Bool) (m : Nat) : Nat := if bs.findIdx id < bs.length then min (bs.findIdx id) m else m
theorem leftN_le (bs : List Bool) (m : Nat) : leftN bs m ≤ m := by
  unfold leftN
  split
  · exact Nat.min_le_right _ _
  · exact Nat.le_refl _
theorem findIdx_at {bs : List Bool} {k : Nat} (h : k < bs.length) (ha : ∀ i, i < k → ∀ hi : i < bs.length, bs[i] = false) (hk : bs[k] = true) : bs.findIdx id = k := by
  rcases Nat.lt_trichotomy (bs.findIdx id) k with h1 | h1 | h1
  · have h2 := List.findIdx_getElem (p := id) (xs := bs) (w := by omega)
    have h3 := ha _ h1 (by omega)
    simp only [id] at h2
    rw [h2] at h3
    cases h3
  · exact h1
  · have h2 := List.not_of_lt_findIdx h1
    simp only [id] at h2
    rw [hk] at h2
    simp at h2
theorem findIdx_none {bs : List Bool} (ha : ∀ i, ∀ hi : i < bs.length, bs[i] = false) : bs.findIdx id = bs.length := by
  rcases Nat.lt_or_ge (bs.findIdx id) bs.length with h1 | h1
  · have h2 := List.findIdx_getElem (p := id) (xs := bs) (w := h1)
    simp only [id] at h2
    rw [ha _ h1] at h2
    cases h2
  · exact Nat.le_antisymm List.findIdx_le_length h1
/-- What Index answers for true. -/
def idxI (bs : List Bool) : Int := if bs.findIdx id < bs.length then (bs.findIdx id : Int) else -1

set_option maxRecDepth 100000 in
set_option maxHeartbeats 2000000 in
theorem index_is {w : World} {F : Nat → Prop} {A : Option Addr} {n c : Nat} {bs : List Bool} (h : BoolF w F A n bs) (hm : n ≤ maxLen) :
    Calls Tryz.prog 130 #[.slice A n c, .bool true] w fun e w' => e = .returned (.int .i64 (idxI bs)) ∧ w = w' := by
  have HH := Lib.hid h
  have HL := Lib.hid h.1
  unfold maxLen at hm
  clear h
  go_enter Tryz.func130, Tryz.ntmps130
  go_wp2
  go_loopw [8] (fun i wr => ∃ k : Nat, k ≤ n ∧ i = .int .i64 k ∧ w = wr ∧ ∀ j, j < k → ∀ hj : j < bs.length, bs[j] = false) (fun i _ => n - (intOf i).toNat)
  case atStart => exact ⟨0, Nat.zero_le _, rfl, rfl, fun j hj => absurd hj (by omega)⟩
  case round =>
    obtain ⟨k, hk, rfl, rfl, hf⟩ := hrel
    have HF := Lib.hid hf
    clear hf
    by_cases hlt : k < n
    · obtain ⟨b, o, hA, -, hb, hc⟩ := HH.out.2 (by omega)
      subst hA
      have hkd : k < bs.length := by have := HL.out; omega
      have c0 := hc k hkd
      have hltI : (k : Int) < (n : Int) := by omega
      have hkw : IntKind.i64.wrap ((k : Int) + 1) = (k : Int) + 1 := IntWalk.i64_in _ (by omega)
      obtain ⟨x, hx⟩ : ∃ x, bs[k] = x := ⟨_, rfl⟩
      rw [hx] at c0
      have HX := Lib.hid hx
      clear hc hx
      cases x
      · go_wp2
        go_roundw
        case rel => exact ⟨k + 1, by omega, by go_num, trivial, fun j hj hjb => by
          rcases Nat.lt_or_ge j k with h1 | h1
          · exact HF.out j h1 hjb
          · obtain rfl : j = k := by omega
            exact HX.out⟩
        case measure => simp [intOf]; omega
      · have hi : idxI bs = (k : Int) := by unfold idxI; rw [findIdx_at hkd HF.out HX.out, if_pos hkd]
        have HI := Lib.hid hi
        clear hi
        go_wp2
        go_ret
        exact ⟨by rw [HI.out]; rfl, rfl⟩
    · have hkn : k = n := by omega
      subst hkn
      have hi : idxI bs = -1 := by unfold idxI; rw [findIdx_none (fun i hi => HF.out i (by have := HL.out; omega) hi), if_neg (Nat.lt_irrefl _)]
      have HI := Lib.hid hi
      clear hi
      go_wp2
      go_ret
      exact ⟨by rw [HI.out]; rfl, rfl⟩
/-- A part of a list, from its beginning. -/
theorem ListS.take {ds : List RecD} {w : World} {F : Nat → Prop} {A : Option Addr} {n c : Nat} (h : ListS ds w F (.slice A n c)) {k : Nat} (hk : k ≤ ds.length) {c' : Nat} (hc : k ≤ c') (hm : c' ≤ maxLen) (h0 : A = none → c' = 0) : ListS (ds.take k) w F (.slice A k c') := by
  have hl : (ds.take k).length = k := by rw [List.length_take]; omega
  rcases h with ⟨e, rfl⟩ | ⟨b, o, c1, e, h1, h2, h3, ms, hms, hcs, hx⟩
  · injection e with e _ _
    subst e
    have := h0 rfl
    subst this
    obtain rfl : k = 0 := by omega
    exact .inl ⟨rfl, by simp⟩
  · injection e with e _ _
    subst e
    refine .inr ⟨b, o, c', by rw [hl], by rw [hl]; exact hc, hm, fun hn => h3 (by rw [hl] at hn; omega), ms.take k, ?_, fun p hp => hcs p (List.mem_of_mem_take hp), fun j x hj => hx j x ?_⟩
    · rw [List.map_take, hms]
    · have hjl := flatC_lt hj
      rw [show flatC ms = flatC (ms.take k) ++ flatC (ms.drop k) by rw [← flatC_app, List.take_append_drop]]
      rw [List.getElem?_append_left (by rw [flatC_len]; exact hjl)]
      exact hj
set_option maxRecDepth 100000 in
set_option maxHeartbeats 2000000 in
theorem leftOf_is {ls : List RecD} {w : World} {F F' : Nat → Prop} {v : Value} {A : Option Addr} {n c : Nat} {bs : List Bool} (h : ListS ls w F v) (hb : BoolF w F' A n bs) (hm : n ≤ maxLen) :
    Calls Tryz.prog 70 #[v, .slice A n c] w fun e w' => ∃ u, e = .returned u ∧ ListS (ls.take (leftN bs ls.length)) w F u ∧ w = w' := by
  obtain ⟨B, q, rfl, hml, -⟩ := h.at
  have hle := leftN_le bs ls.length
  have hq : ls.length ≤ q := by
    rcases h with ⟨e, rfl⟩ | ⟨b, o, c1, e, h1, h2, _⟩
    · exact Nat.zero_le _
    · injection e with _ _ e
      subst e
      exact h1
  have h0 : B = none → leftN bs ls.length = 0 := fun hB => by
    rcases h with ⟨e, rfl⟩ | ⟨b, o, c1, e, _⟩
    · simp at hle; omega
    · injection e with e _ _
      rw [hB] at e
      cases e
  have HT := Lib.hid (h.take hle (Nat.le_refl _) (Nat.le_trans hle hml) h0)
  have HBF := Lib.hid hb
  have hLN : idxI bs < 0 ∧ leftN bs ls.length = ls.length ∨ 0 ≤ idxI bs ∧ ((ls.length : Int) < idxI bs ∧ leftN bs ls.length = ls.length ∨ idxI bs ≤ ls.length ∧ (leftN bs ls.length : Int) = idxI bs) := by
    by_cases hc : bs.findIdx id < bs.length
    · have e1 : idxI bs = (bs.findIdx id : Int) := by unfold idxI; rw [if_pos hc]
      have e2 : leftN bs ls.length = min (bs.findIdx id) ls.length := by unfold leftN; rw [if_pos hc]
      refine .inr ⟨by omega, ?_⟩
      rcases Nat.lt_or_ge ls.length (bs.findIdx id) with h1 | h1
      · rw [Nat.min_eq_right (Nat.le_of_lt h1)] at e2
        exact .inl ⟨by omega, e2⟩
      · rw [Nat.min_eq_left h1] at e2
        exact .inr ⟨by omega, by omega⟩
    · have e1 : idxI bs = -1 := by unfold idxI; rw [if_neg hc]
      have e2 : leftN bs ls.length = ls.length := by unfold leftN; rw [if_neg hc]
      exact .inl ⟨by omega, e2⟩
  clear h hb h0
  generalize ls.length = m at *
  generalize leftN bs m = k at *
  obtain ⟨I, hI⟩ : ∃ I, idxI bs = I := ⟨_, rfl⟩
  rw [hI] at hLN
  unfold maxLen at hml
  go_enter Tryz.func70, Tryz.ntmps70
  go_wp2_with (go_at_call 130; refine (index_is HBF.out hm).mono ?_; rintro e w1 ⟨rfl, rfl⟩; rw [hI])
  all_goals first
    | (have hk : I.toNat = k := by omega
       go_ret
       exact ⟨_, rfl, by rw [hk]; exact HT.out, rfl⟩)
    | (have hk : m = k := by omega
       go_ret
       exact ⟨_, rfl, by rw [hk]; exact HT.out, rfl⟩)
end Go.Proofs.YtjdepjpjjgkmbaaGreat
