/- FnExactReplayed: at every group and list of records the program answers as its model and leaves its argument alone: the law answers true; no condition beyond the given row's own. -/
import Derived.Test.YtmooajppfjglaaaGreatDrawReg2
import Derived.Test.YtmooajppfjglaaaGreatRegOk2
import Derived.Test.YtmooajppfjglaaaGreatRepData
import Derived.Test.YtmooajppfjglaaaGreatRegsBlock
import Derived.Test.YtmooajppfjglaaaGreatRecsBlock
import Derived.Test.YtmooajppfjglaaaGreatRepIn
import Derived.Test.YtmooajppfjglaaaGreatKinds9
import Derived.Deep.MidRow
import Derived.Test.YtmooajppfjglaaaGreatVarReg
import Derived.Test.YtmooajppfjglaaaGreatRows
import Derived.Test.YtmooajppfjglaaaGreatBase
import Derived.Test.YtmooajppfjglaaaGreatChecked
import Derived.WalkKit
import Derived.ProofKit
import Derived.OpenShut
import Derived.ShutString
import Derived.ChangeOld
import Derived.Below
import Derived.Carry
import Derived.Deep.Fields
import Derived.Laws.Rows
import Derived.Test.YtmooajppfjglaaaGreatCopiesMark
import Derived.Test.YtmooajppfjglaaaGreatStampBase
import Derived.Deep.SlicePairs
import Derived.Test.YtmooajppfjglaaaGreatRegBase

/- The model's writing on a shelf, its values and its lists told together (written by spec_write_v.py); conditions: the sizes. -/
namespace Go.Proofs.YtmooajppfjglaaaGreat
open Go.RowKit Go.Deep

/-- A shelf and a flag, the lists in blocks of their own that are known whole. -/
def SpV (w : World) (t q v : Int) (cs : List (Int × Int)) (os : List Opn) (f : Bool) (e : Ending) (w' : World) : Prop :=
  ∃ (g1 c1 g2 c2 : Nat), e = .returned (.tuple #[.agg #[.int .i64 t, .int .i64 q, .int .i64 v, .slice (some ⟨g1, 0, none⟩) cs.length c1, .slice (some ⟨g2, 0, none⟩) os.length c2], .bool f]) ∧ g1 ≠ g2 ∧ w'.ownsRow w.heap.size 127 2 (.slice (some ⟨g1, 0, none⟩) cs.length c1) cs.length (flatP cs) ∧ w'.ownsRow w.heap.size 105 4 (.slice (some ⟨g2, 0, none⟩) os.length c2) os.length (flatO os) ∧ Below w.heap.size w w'
def WroteV (w : World) (s l c sh : Int) (zs : List Int) (x rt rq rv : Int) (ps : List (Int × Int)) (os : List Opn) (ct cq v : Int) (cs : List (Int × Int)) (e : Ending) (w' : World) : Prop :=
  (¬ 0 < cmpN ct cq rt rq ∧ SpV w rt rq rv ps os true e w') ∨ (0 < cmpN ct cq rt rq ∧ SpV w ct cq v (goodP (rB s l c sh zs 1 x ct cq v) cs) os true e w')
theorem lw_oldV {w wr : World} {S B : Nat} {s l c sh : Int} {A : Option Addr} {n cap : Nat} {rt rq rv : Int} {P : Option Addr} {p pc : Nat} {Q : Option Addr} {q qc : Nat} {ct cq : Int} {a5 c5 a6 c6 : Nat} {ps : List (Int × Int)} {os : List Opn} {f : Bool} (h : LWO w wr S B s l c sh A n cap rt rq rv P p pc Q q qc ct cq (.slice (some ⟨a5, 0, none⟩) ps.length c5) (.slice (some ⟨a6, 0, none⟩) os.length c6) ps os) (x0 x1 x2 x3 x4 : Value) :
    SpV w rt rq rv ps os f (.returned (.tuple #[.agg #[.int .i64 rt, .int .i64 rq, .int .i64 rv, .slice (some ⟨a5, 0, none⟩) ps.length c5, .slice (some ⟨a6, 0, none⟩) os.length c6], .bool f])) (((((wr.setCell ⟨w.heap.size + 1 + 1 + 1, 0, none⟩ x0).setCell ⟨w.heap.size + 1 + 1 + 1, 1, none⟩ x1).setCell ⟨w.heap.size + 1 + 1 + 1, 2, none⟩ x2).setCell ⟨w.heap.size + 1 + 1 + 1, 3, none⟩ x3).setCell ⟨w.heap.size + 1 + 1 + 1, 4, none⟩ x4) := by
  have hlo := h.hlo
  obtain ⟨g, k, h1, h2, e, h3⟩ := h.R.far5 (b := w.heap.size + 1 + 1 + 1) (by omega) x0 x1 x2 x3 x4
  obtain ⟨g', k', h1', h2', e', h3'⟩ := h.V.far5 (b := w.heap.size + 1 + 1 + 1) (by omega) x0 x1 x2 x3 x4
  cases e
  cases e'
  exact ⟨_, _, _, _, rfl, by omega, ownLow h3 (by omega), ownLow h3' (by omega), bel_five h.bel (by omega) x0 x1 x2 x3 x4⟩

theorem lv_newV {w w1 wr : World} {S B : Nat} {s l c sh : Int} {A : Option Addr} {n cap : Nat} {ct cq v : Int} {z : Value} {a6 c6 : Nat} {os : List Opn} (h : LVO w wr S B s l c sh A n cap ct cq v z (.slice (some ⟨a6, 0, none⟩) os.length c6) os) {g c5 : Nat} {J : List (Int × Int)} (hS1 : S < w1.heap.size) (hJ : wr.ownsRow w1.heap.size 127 2 (.slice (some ⟨g, 0, none⟩) J.length c5) J.length (flatP J)) (x0 x1 x2 x3 x4 : Value) :
    SpV w ct cq v J os true (.returned (.tuple #[.agg #[.int .i64 ct, .int .i64 cq, .int .i64 v, .slice (some ⟨g, 0, none⟩) J.length c5, .slice (some ⟨a6, 0, none⟩) os.length c6], .bool true])) ((((((wr.setCell ⟨S, 3, none⟩ (.slice (some ⟨g, 0, none⟩) J.length c5)).setCell ⟨w.heap.size + 1 + 1 + 1, 0, none⟩ x0).setCell ⟨w.heap.size + 1 + 1 + 1, 1, none⟩ x1).setCell ⟨w.heap.size + 1 + 1 + 1, 2, none⟩ x2).setCell ⟨w.heap.size + 1 + 1 + 1, 3, none⟩ x3).setCell ⟨w.heap.size + 1 + 1 + 1, 4, none⟩ x4) := by
  have hlo := h.hlo
  have hBS := h.hBS
  have hb : Below w.heap.size w (wr.setCell ⟨S, 3, none⟩ (.slice (some ⟨g, 0, none⟩) J.length c5)) := h.bel.setCell (p := ⟨S, 3, none⟩) (by show _ ≤ S; omega) _
  have hV := h.V.farHi (Nat.le_refl _) 3 (.slice (some ⟨g, 0, none⟩) J.length c5)
  obtain ⟨g', k', h1', h2', e', h3'⟩ := hV.far5 (b := w.heap.size + 1 + 1 + 1) (by omega) x0 x1 x2 x3 x4
  cases e'
  obtain ⟨k1, k2, h1, h2, e, h3⟩ := ((ownR_of hJ).far (b := S) hS1 3 (.slice (some ⟨g, 0, none⟩) J.length c5)).far5 (b := w.heap.size + 1 + 1 + 1) (by omega) x0 x1 x2 x3 x4
  cases e
  exact ⟨_, _, _, _, rfl, by omega, ownLow h3 (by omega), ownLow h3' (by omega), bel_five hb (by omega) x0 x1 x2 x3 x4⟩

theorem l7WriteV_yes (s l c sh : Int) (A : Option Addr) (n cap : Nat) (zs : List Int) (x rt rq rv : Int) (P : Option Addr) (p pc : Nat) (Q : Option Addr) (q qc : Nat) (ct cq v : Int) (L : Option Addr) (m mc : Nat) (ps : List (Int × Int)) (os : List Opn) (cs : List (Int × Int)) (w : World) (hm : n ≤ maxLen) (hr : Row w w.heap.size A n zs) (hp : ps.length ≤ 2000000) (hq : os.length ≤ 2000000) (h1 : Slc w (.slice P p pc) ps) (h2 : SlcQ w (.slice Q q qc) os) (hn : m ≤ 4194304) (h3 : Pairs w w.heap.size L m cs) (hW : wrtB s l c sh zs x ct cq v cs = true) :
    Calls Tryz.prog 116 #[.agg #[.int .i64 s, .int .i64 l, .int .i64 c, .int .i64 sh, .slice A n cap], .int .i64 x, .agg #[.int .i64 rt, .int .i64 rq, .int .i64 rv, .slice P p pc, .slice Q q qc], .agg #[.int .i64 ct, .int .i64 cq], .int .i64 v, .slice L m mc] w (WroteV w s l c sh zs x rt rq rv ps os ct cq v cs) := by
  have G := (((Box.new w 26 #[.int .i64 s, .int .i64 l, .int .i64 c, .int .i64 sh, .slice A n cap]).alloc (.cells #[.int .i64 rt, .int .i64 rq, .int .i64 rv, .slice P p pc, .slice Q q qc] 40)).alloc (.cells #[.int .i64 ct, .int .i64 cq] 36)).alloc (.cells #[.int .i64 0, .int .i64 0, .int .i64 0, .slice none 0 0, .slice none 0 0] 40)
  have D := ((Box.new (w.alloc (.cells #[.int .i64 s, .int .i64 l, .int .i64 c, .int .i64 sh, .slice A n cap] 26)) 40 #[.int .i64 rt, .int .i64 rq, .int .i64 rv, .slice P p pc, .slice Q q qc]).alloc (.cells #[.int .i64 ct, .int .i64 cq] 36)).alloc (.cells #[.int .i64 0, .int .i64 0, .int .i64 0, .slice none 0 0, .slice none 0 0] 40)
  have T := (Box.new ((w.alloc (.cells #[.int .i64 s, .int .i64 l, .int .i64 c, .int .i64 sh, .slice A n cap] 26)).alloc (.cells #[.int .i64 rt, .int .i64 rq, .int .i64 rv, .slice P p pc, .slice Q q qc] 40)) 36 #[.int .i64 ct, .int .i64 cq]).alloc (.cells #[.int .i64 0, .int .i64 0, .int .i64 0, .slice none 0 0, .slice none 0 0] 40)
  have X := Box.new (((w.alloc (.cells #[.int .i64 s, .int .i64 l, .int .i64 c, .int .i64 sh, .slice A n cap] 26)).alloc (.cells #[.int .i64 rt, .int .i64 rq, .int .i64 rv, .slice P p pc, .slice Q q qc] 40)).alloc (.cells #[.int .i64 ct, .int .i64 cq] 36)) 40 #[.int .i64 0, .int .i64 0, .int .i64 0, .slice none 0 0, .slice none 0 0]
  have E := bel_trans (bel_trans (bel_trans (bel_alloc w (.cells #[.int .i64 s, .int .i64 l, .int .i64 c, .int .i64 sh, .slice A n cap] 26)) (bel_alloc _ (.cells #[.int .i64 rt, .int .i64 rq, .int .i64 rv, .slice P p pc, .slice Q q qc] 40))) (bel_alloc _ (.cells #[.int .i64 ct, .int .i64 cq] 36))) (bel_alloc _ (.cells #[.int .i64 0, .int .i64 0, .int .i64 0, .slice none 0 0, .slice none 0 0] 40))
  simp only [World.size_alloc] at D T X
  have HR := Lib.hid hr
  have HM := Lib.hid hm
  have H1 := Lib.hid h1
  have H2 := Lib.hid h2
  have H3 := Lib.hid h3
  have HW := Lib.hid (wrt_parts hW)
  clear hr hm h1 h2 h3 hW
  go_enter Tryz.func116, Tryz.ntmps116
  go_wp2_with fail
  generalize ((((w.alloc _).alloc _).alloc _).alloc _ : World) = w0 at G D T X E ⊢
  refine (l7Copy_own rt rq rv P p pc Q q qc ps os w0 (by omega) (by omega) (H1.out.later E) (H2.out.later E)).mono ?_
  rintro e w1 ⟨B, u, v', hB, hB', rfl, hR, hV, hb1⟩
  obtain ⟨a5, c5, rfl⟩ := hR.form
  obtain ⟨a6, c6, rfl⟩ := hV.form
  have hb2 := bel_alloc w1 (.cells #[.int .i64 rt, .int .i64 rq, .int .i64 rv, .slice (some ⟨a5, 0, none⟩) ps.length c5, .slice (some ⟨a6, 0, none⟩) os.length c6] 40)
  have hXl := X.lt
  have K : LWO w (w1.alloc (.cells #[.int .i64 rt, .int .i64 rq, .int .i64 rv, .slice (some ⟨a5, 0, none⟩) ps.length c5, .slice (some ⟨a6, 0, none⟩) os.length c6] 40)) w1.heap.size B s l c sh A n cap rt rq rv P p pc Q q qc ct cq (.slice (some ⟨a5, 0, none⟩) ps.length c5) (.slice (some ⟨a6, 0, none⟩) os.length c6) ps os := by
    have hb12 := bel_trans hb1 hb2
    exact ⟨bel_trans E hb12, G.later hb12 G.lt, D.later hb12 D.lt, T.later hb12 T.lt, X.later hb12 X.lt, Box.new w1 _ _, by omega, hB', (hR.later hb2).wide (by omega) (Nat.le_refl _), hV.later hb2⟩
  have T1 := T.later hb1 T.lt
  have hT1 := T1.lt
  obtain ⟨t0, t1⟩ := T1.two
  clear hR hV G D T X E hb1 hb2 hB T1
  go_wp2_with fail
  generalize (w1.alloc _ : World) = w2 at K ⊢
  generalize w1.heap.size = S at K hB' hT1 ⊢
  clear t0 t1 hT1
  have hz := Lib.hid (show (ct == 0) = false ∨ ((ct == 0) = true ∧ (cq == 0) = false) from by
    rcases zero_cases ct cq with h | ⟨h, _⟩
    · exact absurd h HW.out.2.2.1
    · exact h)
  have HS := Lib.hid HW.out.1
  have HPF := Lib.hid HW.out.2.2.2
  have hm20 : m ≤ 20 := by have := HW.out.2.1; rw [H3.out.1] at this; exact this
  refine (l4Zero_no ct cq hz.out w2).mono ?_
  rintro e w3 ⟨rfl, hb3⟩
  have K3 := K.later hb3
  clear K hb3
  obtain ⟨t0, t1⟩ := K3.T.two
  go_wp2_with fail
  refine (specStampR_is HS.out w3).mono ?_
  rintro e w4 ⟨rfl, hb4⟩
  have K4 := K3.later hb4
  clear K3 hb4 t0 t1
  obtain ⟨t0, t1⟩ := K4.T.two
  obtain ⟨g0, g1, g2, g3, g4⟩ := K4.G.five
  go_wp2_with fail
  refine (specProvenR_is HPF.out A n cap L m mc w4 HM.out ((HR.out.below K4.bel (Nat.le_refl _)).more K4.bel.size) hn (H3.out.later K4.bel)).mono ?_
  rintro e w5 ⟨rfl, hb5⟩
  have K5 := K4.later hb5
  clear K4 hb5 t0 t1 g0 g1 g2 g3 g4
  obtain ⟨t0, t1⟩ := K5.T.two
  obtain ⟨d0, d1, d2, d3, d4⟩ := K5.D.five
  go_wp2_with fail
  refine (specCmp_any ct cq rt rq w5).mono ?_
  rintro e w6 ⟨rfl, hb6⟩
  have K6 := K5.later hb6
  clear K5 hb6 t0 t1 d0 d1 d2 d3 d4
  by_cases hc : 0 < cmpN ct cq rt rq
  · have HC := Lib.hid hc
    obtain ⟨y0, y1, y2, y3, y4⟩ := K6.Y.five
    obtain ⟨t0, t1⟩ := K6.T.two
    have fy := K6.Y.frozen
    have hlo := K6.hlo
    have hBS := K6.hBS
    have HV := Lib.hid (K6.put v)
    clear K6
    go_upto_region 7 with fail
    generalize (((w6.setCell _ _).setCell _ _).setCell _ _ : World) = w7 at HV ⊢
    have K7 := HV.out
    have HC := Lib.hid hc
    clear y0 y1 y2 y3 y4 t0 t1 fy HV hc
    obtain ⟨J, hJ⟩ : ∃ J, goodP (rB s l c sh zs 1 x ct cq v) cs = J := ⟨_, rfl⟩
    have HJL : Hid (J.length ≤ 20) := Lib.hid (by rw [← hJ]; exact Nat.le_trans (goodP_le _ _) (by rw [H3.out.1]; exact hm20))
    replace hJ := Lib.hid hJ
    obtain ⟨g0, g1, g2, g3, g4⟩ := K7.G.five
    obtain ⟨t0, t1⟩ := K7.T.two
    have R7 := (HR.out.below K7.bel (Nat.le_refl _)).more K7.bel.size
    have P7 := H3.out.later K7.bel
    have hSG : (⟨S, 3, none⟩ : Addr).block ≠ w.heap.size := by show S ≠ _; omega
    have hST : (⟨S, 3, none⟩ : Addr).block ≠ w.heap.size + 1 + 1 := by show S ≠ _; omega
    have hSl := K7.Y.lt
    go_region_held3 (fun w' => w'.cell? ⟨w.heap.size, 0, none⟩ = some (.int .i64 s) ∧ w'.cell? ⟨w.heap.size, 1, none⟩ = some (.int .i64 l) ∧ w'.cell? ⟨w.heap.size, 2, none⟩ = some (.int .i64 c) ∧ w'.cell? ⟨w.heap.size, 3, none⟩ = some (.int .i64 sh) ∧ w'.cell? ⟨w.heap.size, 4, none⟩ = some (.slice A n cap) ∧ w'.cell? ⟨w.heap.size + 1 + 1, 0, none⟩ = some (.int .i64 ct) ∧ w'.cell? ⟨w.heap.size + 1 + 1, 1, none⟩ = some (.int .i64 cq))
      (first | (with_reducible exact KD) | (with_reducible exact KB) | (with_reducible exact KA) | go_keep)
      (first
        | (go_at_call 124; refine (l4Ready_is x ct cq v _).mono ?_; rintro e w8 ⟨rfl, hb8⟩; have F8 := bel_drew' hb8; have K8 := K7.later F8; have R8 := (R7.below F8 (Nat.le_refl _)).more F8.size; have P8 := P7.later F8; have KA := sevenGD K8.G K8.T; have hs8 := F8.size)
        | (go_at_call 148; refine (specGoodO_is s l c sh A n cap zs 1 x ct cq v L m mc cs _ HM.out R8 hn P8).mono ?_; rintro e w9 ⟨q9, c9, rfl, hw9, hb9⟩; rw [hJ.out] at hw9 ⊢; have K9 := K8.later hb9; have KB := sevenGD K9.G K9.T; have KD := sevenGD (K9.G.far (p := ⟨S, 3, none⟩) hSG (.slice (some ⟨q9, 0, none⟩) J.length c9)) (K9.T.far (p := ⟨S, 3, none⟩) hST (.slice (some ⟨q9, 0, none⟩) J.length c9)); have y3 := K9.Y.cell 3; have fy := K9.Y.frozen; have HP := Lib.hid (lv_newV (w1 := w8) (c5 := c9) K9 (by omega) hw9); have Z9 := Lib.hid (K9.Y.set 3 (.slice (some ⟨q9, 0, none⟩) J.length c9)); have X9 := Lib.hid (K9.X.far (p := ⟨S, 3, none⟩) (by show S ≠ _; omega) (.slice (some ⟨q9, 0, none⟩) J.length c9))))
    obtain ⟨z0, z1, z2, z3, z4⟩ := (show Box _ S 40 #[.int .i64 ct, .int .i64 cq, .int .i64 v, .slice (some ⟨q9, 0, none⟩) J.length c9, .slice (some ⟨a6, 0, none⟩) os.length c6] from Z9.out).five
    obtain ⟨x0, x1, x2, x3, x4⟩ := X9.out.five
    have fx := X9.out.frozen
    clear KA KB KD K7 K8 K9 y3 fy R7 R8 P7 P8 g0 g1 g2 g3 g4 t0 t1 hw9 hb9 Z9 X9
    generalize (w9.setCell _ _ : World) = w10 at HP z0 z1 z2 z3 z4 x0 x1 x2 x3 x4 fx ⊢
    go_wp2
    exact bodyPost_ret (v := .tuple #[.agg #[.int .i64 ct, .int .i64 cq, .int .i64 v, .slice (some ⟨q9, 0, none⟩) J.length c9, .slice (some ⟨a6, 0, none⟩) os.length c6], .bool true]) (by simp [results, Tryz.results116, go_sem, x0, x1, x2, x3, x4]) rfl (.inr ⟨by have := HC.out; omega, hJ.out.symm ▸ HP.out _ _ _ _ _⟩)
  · have HC := Lib.hid hc
    have hc' : decide (0 < cmpN ct cq rt rq) = false := decide_eq_false hc
    obtain ⟨y0, y1, y2, y3, y4⟩ := K6.Y.five
    obtain ⟨x0, x1, x2, x3, x4⟩ := K6.X.five
    have fx := K6.X.frozen
    have HP := Lib.hid (lw_oldV (f := true) K6)
    clear K6
    go_wp2
    exact bodyPost_ret (v := .tuple #[.agg #[.int .i64 rt, .int .i64 rq, .int .i64 rv, .slice (some ⟨a5, 0, none⟩) ps.length c5, .slice (some ⟨a6, 0, none⟩) os.length c6], .bool true]) (by simp [results, Tryz.results116, go_sem, x0, x1, x2, x3, x4]) rfl (.inl ⟨by have := HC.out; omega, HP.out _ _ _ _ _⟩)

end Go.Proofs.YtmooajppfjglaaaGreat

/- Opens that are put to their places stay in order; mathematics alone; no conditions. -/
namespace Go.Proofs.YtmooajppfjglaaaGreat
open Go.RowKit

/-- Opens in order, all right. -/
theorem opsB_iff (R : Opn → Bool) (os : List Opn) : opsB R os = true ↔ (∀ i, i < os.length → R (oth os i) = true) ∧ ∀ i, i + 1 < os.length → (oth os i).1 < (oth os (i + 1)).1 := by
  constructor
  · intro h
    unfold opsB at h
    rw [List.all_eq_true] at h
    refine ⟨fun i hi => ?_, fun i hi => ?_⟩
    · have := h i (List.mem_range.2 hi)
      unfold stepB at this
      rw [Bool.and_eq_true] at this
      exact this.1
    · have := h (i + 1) (List.mem_range.2 hi)
      unfold stepB at this
      simp only [Bool.and_eq_true, Bool.or_eq_true, decide_eq_true_eq, Nat.add_sub_cancel] at this
      rcases this.2 with h1 | h1
      · omega
      · exact h1
  · rintro ⟨h1, h2⟩
    refine opsB_true fun i hi => ?_
    unfold stepB
    rcases i with _ | i
    · simp [h1 0 hi]
    · have := h2 i hi
      simp [h1 (i + 1) hi, this]
theorem opsB_lt {R : Opn → Bool} {os : List Opn} (h : opsB R os = true) : ∀ i j, i < j → j < os.length → (oth os i).1 < (oth os j).1 := by
  obtain ⟨-, h2⟩ := (opsB_iff R os).1 h
  intro i j hij
  induction j with
  | zero => omega
  | succ j ih =>
    intro hj
    have h3 := h2 j hj
    by_cases e : i = j
    · subst e; exact h3
    · have := ih (by omega) (by omega)
      omega
theorem oth_put {os : List Opn} {i j : Nat} {o : Opn} (hi : i ≤ os.length) (_hj : j ≤ os.length) (hij : i ≤ j) (x : Nat) :
    oth (putO os i j o) x = if x < i then oth os x else if x = i then o else oth os (x - (i + 1) + j) := by
  unfold oth putO
  simp only [List.getD_eq_getElem?_getD]
  rw [List.append_assoc]
  by_cases h1 : x < i
  · rw [if_pos h1, List.getElem?_append_left (by rw [List.length_take]; omega), List.getElem?_take, if_pos h1]
  · rw [if_neg h1, List.getElem?_append_right (by rw [List.length_take]; omega), List.length_take, Nat.min_eq_left hi]
    by_cases h2 : x = i
    · subst h2
      simp
    · rw [if_neg h2, List.getElem?_append_right (by simp; omega), List.getElem?_drop]
      simp only [List.length_singleton]
      rw [show j + (x - i - 1) = x - (i + 1) + j by omega]
theorem beh_ge {c : Int} {os : List Opn} : ∀ k, k ≤ os.length → (∀ j, behN c (os.take k) ≤ j → j < k → ¬ (oth os j).1 < c) ∧ (0 < behN c (os.take k) → (oth os (behN c (os.take k) - 1)).1 < c) := by
  intro k
  induction k with
  | zero => intro _; exact ⟨fun j _ hj => absurd hj (by omega), fun h => absurd h (by simp [behN])⟩
  | succ k ih =>
    intro hk
    obtain ⟨h1, h2⟩ := ih (by omega)
    rw [behN_snoc (by omega)]
    by_cases hc : (oth os k).1 < c
    · rw [if_pos hc]
      exact ⟨fun j h3 h4 => absurd h4 (by omega), fun _ => by simpa using hc⟩
    · rw [if_neg hc]
      refine ⟨fun j h3 h4 => ?_, h2⟩
      by_cases e : j = k
      · subst e; exact hc
      · exact h1 j h3 (by omega)
theorem opsB_with {R : Opn → Bool} {os : List Opn} {o : Opn} (h : opsB R os = true) (ho : R o = true) : opsB R (withO os o) = true := by
  have hlt := opsB_lt h
  obtain ⟨h1, h2⟩ := (opsB_iff R os).1 h
  rw [opsB_iff]
  rcases first_cases o.1 os with ⟨i, hf⟩ | hn
  · rw [withO_first hf]
    have hil := hf.1
    have hlen : (putO os i (i + 1) o).length = os.length := by rw [putO_len (by omega) (by omega)]; omega
    have hoth : ∀ x, oth (putO os i (i + 1) o) x = if x = i then o else oth os x := fun x => by
      rw [oth_put (by omega) (by omega) (by omega)]
      by_cases a : x < i
      · rw [if_pos a, if_neg (by omega)]
      · rw [if_neg a]
        by_cases b : x = i
        · rw [if_pos b, if_pos b]
        · rw [if_neg b, if_neg b, show x - (i + 1) + (i + 1) = x by omega]
    have hk := hf.2.1
    refine ⟨fun x hx => ?_, fun x hx => ?_⟩
    · rw [hoth]
      split
      · exact ho
      · exact h1 x (by omega)
    · rw [hoth, hoth]
      have := h2 x (by omega)
      split <;> split
      · omega
      · subst_vars; rw [hk] at this; exact this
      · rename_i a b; rw [← hk, ← b]; exact this
      · exact this
  · rw [withO_none hn]
    obtain ⟨b, hb⟩ : ∃ b, behN o.1 os = b := ⟨_, rfl⟩
    have hbl := behN_le o.1 os
    obtain ⟨g1, g2⟩ := beh_ge (c := o.1) os.length (Nat.le_refl _)
    rw [List.take_length] at g1 g2
    rw [hb] at hbl g1 g2 ⊢
    have hlen : (putO os b b o).length = os.length + 1 := by rw [putO_len hbl hbl]; omega
    have hoth := oth_put (o := o) hbl hbl (Nat.le_refl b)
    refine ⟨fun x hx => ?_, fun x hx => ?_⟩
    · rw [hoth]
      split
      · exact h1 x (by omega)
      · split
        · exact ho
        · exact h1 _ (by omega)
    · rw [hoth, hoth]
      by_cases a : x + 1 < b
      · rw [if_pos (by omega), if_pos a]
        exact h2 x (by omega)
      · by_cases e : x + 1 = b
        · rw [if_pos (by omega), if_neg (by omega), if_pos e]
          have := g2 (by omega)
          rw [show b - 1 = x by omega] at this
          exact this
        · by_cases f : x = b
          · subst f
            rw [if_neg (by omega), if_pos rfl, if_neg (by omega), if_neg (by omega), show x + 1 - (x + 1) + x = x by omega]
            have hx1 : x < os.length := by omega
            have := g1 x (Nat.le_refl _) hx1
            have := hn x hx1
            omega
          · rw [if_neg (by omega), if_neg f, if_neg (by omega), if_neg (by omega), show x - (b + 1) + b = x - 1 by omega, show x + 1 - (b + 1) + b = x - 1 + 1 by omega]
            exact h2 (x - 1) (by omega)

end Go.Proofs.YtmooajppfjglaaaGreat

/- What is replayed keeps every shelf right; what the functions of chapter 7 answer, as a shelf's data; no conditions. -/
namespace Go.Proofs.YtmooajppfjglaaaGreat
open Go Go.RowKit

/-- Is a shelf right? -/
def regG (g : GrpD) (x : Int) (r : RegD) : Bool := regB g.s g.l g.c g.sh g.zs x r.t r.q r.v r.ps r.os
def goodS (g : GrpD) (rs : List RegD) : Prop := ∀ i (h : i < rs.length), regG g (i : Int) rs[i] = true
theorem lef_wrt {s l c sh : Int} {zs : List Int} {x ct cq v : Int} {ps : List (Int × Int)} (h : lefB s l c sh zs x ct cq v ps = true) (hz : ¬ (ct = 0 ∧ cq = 0)) : wrtB s l c sh zs x ct cq v ps = true := by
  unfold lefB at h
  unfold wrtB
  simp only [Bool.and_eq_true, Bool.not_eq_true', decide_eq_false_iff_not] at h ⊢
  exact ⟨hz, h.1⟩
theorem knd_parts {s l c sh : Int} {zs : List Int} {r2 r3 r4 r5 r6 r7 : Int} {ps : List (Int × Int)} (h : kndB s l c sh zs r2 r3 r4 r5 r6 r7 ps = true) :
    (r2 = 1 ∧ ps = [] ∧ opnB s l c sh zs (r4, r5, r6, r7) = true) ∨ (r2 = 2 ∧ r4 = 0 ∧ ¬ (r5 = 0 ∧ r6 = 0) ∧ lefB s l c sh zs r3 r5 r6 r7 ps = true) := by
  unfold kndB at h
  split at h
  · simp only [Bool.and_eq_true, decide_eq_true_eq] at h
    exact .inl ⟨by assumption, h.1, h.2⟩
  · split at h
    · simp only [Bool.and_eq_true, Bool.not_eq_true', decide_eq_true_eq, decide_eq_false_iff_not] at h
      exact .inr ⟨by assumption, h.1.1, h.1.2, h.2⟩
    · cases h
theorem reg_zero {g : GrpD} {x : Int} (hok : okG g = true) (hx : inB x 0 (g.sh - 1) = true) : regG g x zeroR = true := by
  unfold okG at hok
  simp [regG, regB, lefB, proB, lefS, zeroR, hok, hx, opsB]
theorem good_zero {g : GrpD} (hok : okG g = true) : goodS g (List.replicate g.sh.toNat zeroR) := by
  intro i hi
  rw [List.length_replicate] at hi
  rw [List.getElem_replicate]
  have hs := okB_sh hok
  exact reg_zero hok (inB_true.2 ⟨by omega, by omega⟩)
/-- A shelf that is right stays so, whatever right record is done to it. -/
theorem onto_good {g : GrpD} {d : RecD} {r : RegD} (hr : regG g d.r3 r = true) (hk : kndB g.s g.l g.c g.sh g.zs d.r2 d.r3 d.r4 d.r5 d.r6 d.r7 d.ps = true) : regG g d.r3 (ontoD g d r) = true := by
  rcases knd_parts hk with ⟨h2, -, ho⟩ | ⟨h2, -, hz, hl⟩
  · unfold ontoD
    rw [if_pos h2]
    unfold regG regB at hr ⊢
    rw [Bool.and_eq_true] at hr ⊢
    exact ⟨hr.1, opsB_with hr.2 ho⟩
  · unfold ontoD
    rw [if_neg (by omega)]
    obtain ⟨-, -, h3, -⟩ := outW_again hr (lef_wrt hl hz) rfl
    exact h3
theorem step_good {g : GrpD} {rs : List RegD} {d : RecD} (hg : goodS g rs) (hk : kndB g.s g.l g.c g.sh g.zs d.r2 d.r3 d.r4 d.r5 d.r6 d.r7 d.ps = true) (h0 : 0 ≤ d.r3) (hl : d.r3.toNat < rs.length) : goodS g (stepR g rs d) := by
  intro i hi
  unfold stepR at hi ⊢
  rw [List.length_set] at hi
  by_cases e : d.r3.toNat = i
  · subst e
    have hx : ((d.r3.toNat : Nat) : Int) = d.r3 := by omega
    rw [List.getElem_set_self, hx]
    refine onto_good ?_ hk
    have h := hg _ hl
    rw [hx] at h
    unfold regOf
    rw [List.getD_eq_getElem?_getD, List.getElem?_eq_getElem hl]
    exact h
  · rw [List.getElem_set_ne e]
    exact hg i hi
theorem good_shelves {g : GrpD} {ds : List RecD} (hok : okG g = true) : ∀ k, k ≤ ds.length → (∀ i, i < k → isAt g ds i = true) → goodS g (shelves g (ds.take k)) := by
  intro k
  induction k with
  | zero => intro _ _; exact good_zero hok
  | succ k ih =>
    intro hk ha
    rw [shelves_snoc g ds (by omega)]
    have h := ha k (by omega)
    rw [isAt_lt (by omega)] at h
    simp only [Bool.and_eq_true] at h
    obtain ⟨h0, h1, -, hkn⟩ := rok_shelf h.2
    exact step_good (ih (by omega) (fun i hi => ha i (by omega))) hkn h0 (by rw [shelves_len]; omega)

theorem own_cap {w : World} {base : Nat} {t : TypeId} {k g n cap : Nat} {xs : List Value} (h : w.ownsRow base t k (.slice (some ⟨g, 0, none⟩) n cap) n xs) : n ≤ cap ∧ cap ≤ maxLen := by
  rcases h.2 with ⟨h', _⟩ | ⟨g', cap', cur, h', hb, hg, hnc, hcm, _⟩
  · cases h'
  · injection h' with _ _ e3
    subst e3
    exact ⟨hnc, hcm⟩
/-- What an open answers; what a writing answers: the shelf's data. -/
theorem regR_at {w w' : World} {e : Ending} {rt rq rv : Int} {ps : List (Int × Int)} {os : List Opn} (h : RegR w rt rq rv ps os e w') :
    ∃ u v, e = .returned (.agg #[.int .i64 rt, .int .i64 rq, .int .i64 rv, u, v]) ∧ LieR ⟨rt, rq, rv, ps, os⟩ w' (Iv w.heap.size w'.heap.size) (.agg #[.int .i64 rt, .int .i64 rq, .int .i64 rv, u, v]) ∧ Below w.heap.size w w' := by
  obtain ⟨B, u, v, hB, hB', rfl, h1, h2, hb⟩ := h
  obtain ⟨A, c, rfl, -⟩ := h1.form
  obtain ⟨A', c', rfl, -⟩ := h2.form
  exact ⟨_, _, rfl, ⟨A, _, c, A', _, c', w.heap.size, B, w'.heap.size, rfl, h1, h2.resQ, hB, hB', Nat.le_refl _, fun b hb => hb⟩, hb⟩
theorem spV_at {w w' : World} {e : Ending} {t q v : Int} {cs : List (Int × Int)} {os : List Opn} {f : Bool} (h : SpV w t q v cs os f e w') :
    ∃ u x, e = .returned (.tuple #[.agg #[.int .i64 t, .int .i64 q, .int .i64 v, u, x], .bool f]) ∧ AtW ⟨t, q, v, cs, os⟩ w' (Iv w.heap.size w'.heap.size) (.agg #[.int .i64 t, .int .i64 q, .int .i64 v, u, x]) ∧ Below w.heap.size w w' := by
  obtain ⟨g1, c1, g2, c2, rfl, -, h1, h2, hb⟩ := h
  obtain ⟨p1, p2⟩ := own_cap h1
  obtain ⟨q1, q2⟩ := own_cap h2
  exact ⟨_, _, rfl, ⟨_, _, c1, _, _, c2, rfl, Nat.le_trans p1 p2, Nat.le_trans q1 q2, ⟨own_pairs h1, fun _ b o e => by injection e with e; injection e with e; exact e ▸ h1.lt g1 rfl⟩, ⟨own_quads h2, fun _ b o e => by injection e with e; injection e with e; exact e ▸ h2.lt g2 rfl⟩, .inl ⟨g1, 0, rfl⟩, .inl ⟨g2, 0, rfl, q1, q2⟩⟩, hb⟩
theorem wroteV_at {w w' : World} {e : Ending} {g : GrpD} {d : RecD} {r : RegD} (hr : regG g d.r3 r = true) (hk : kndB g.s g.l g.c g.sh g.zs d.r2 d.r3 d.r4 d.r5 d.r6 d.r7 d.ps = true) (h2 : d.r2 ≠ 1) (h : WroteV w g.s g.l g.c g.sh g.zs d.r3 r.t r.q r.v r.ps r.os d.r5 d.r6 d.r7 d.ps e w') :
    ∃ u x, e = .returned (.tuple #[.agg #[.int .i64 (ontoD g d r).t, .int .i64 (ontoD g d r).q, .int .i64 (ontoD g d r).v, u, x], .bool true]) ∧ AtW (ontoD g d r) w' (Iv w.heap.size w'.heap.size) (.agg #[.int .i64 (ontoD g d r).t, .int .i64 (ontoD g d r).q, .int .i64 (ontoD g d r).v, u, x]) ∧ Below w.heap.size w w' := by
  rcases knd_parts hk with ⟨h, -⟩ | ⟨-, -, hz, hl⟩
  · exact absurd h h2
  have hw := lef_wrt hl hz
  have hc := cmp_pos (wrt_parts hw).1 (reg_stamp hr)
  have hr' : regB g.s g.l g.c g.sh g.zs d.r3 r.t r.q r.v r.ps r.os = true := hr
  have ho : ontoD g d r = if cmpN d.r5 d.r6 r.t r.q = 1 then ⟨d.r5, d.r6, d.r7, goodP (rB g.s g.l g.c g.sh g.zs 1 d.r3 d.r5 d.r6 d.r7) d.ps, r.os⟩ else ⟨r.t, r.q, r.v, r.ps, r.os⟩ := by
    unfold ontoD outW
    rw [if_neg h2, if_neg (by rw [hr']; simp), if_neg (by rw [hw]; simp)]
    split <;> rfl
  rw [ho]
  rcases h with ⟨hn, h⟩ | ⟨hp, h⟩
  · rw [if_neg (fun e => hn (hc.2 e))]
    exact spV_at h
  · rw [if_pos (hc.1 hp)]
    exact spV_at h
end Go.Proofs.YtmooajppfjglaaaGreat

/- The program's onto: a record is done to a shelf (written by onto9.py); conditions: the sizes. -/
namespace Go.Proofs.YtmooajppfjglaaaGreat
open Go Go.RowKit

theorem results_row9 {P : Program} {fn : Func} {x : Tmp} {ty : TypeId} (h : fn.results = #[.cell x ty]) (tmps : Array Value) (w : World) (g : Nat) (t : TypeId) (cs : Array Value) (d : TypeDesc)
    (hx : tmps.getD x undef = .pointer (some ⟨g, 0, none⟩)) (hg : Box w g t cs)
    (hu : P.underlying ty = some d) (hd : (match d with | .struct _ | .array _ _ => true | _ => false) = true) (hi : (P.info? ty).map (·.size) = some cs.size) :
    (results fn tmps).run P w = .ok (.agg cs) w := by
  have ex : tmps[x]?.getD undef = .pointer (some ⟨g, 0, none⟩) := by simpa using hx
  simp [results, h, ex, asAddr, run_loadVar_row w g t ty cs (0, 0) d hg hu hd hi]
/-- A shelf that is answered: its data, its lists in new blocks. -/
def MadeR (o : RegD) (w : World) (e : Ending) (w' : World) : Prop := ∃ u v, e = .returned (.agg #[.int .i64 o.t, .int .i64 o.q, .int .i64 o.v, u, v]) ∧ LieR o w' (Iv w.heap.size w'.heap.size) (.agg #[.int .i64 o.t, .int .i64 o.q, .int .i64 o.v, u, v]) ∧ Below w.heap.size w w'
theorem wrR_at {w w' : World} {o : Out} {e : Ending} (h : WrR w o e w') : ∃ u v, e = .returned (.tuple #[.agg #[.int .i64 o.t, .int .i64 o.q, .int .i64 o.v, u, v], .bool o.f]) ∧ LieR ⟨o.t, o.q, o.v, o.cs, o.os⟩ w' (Iv w.heap.size w'.heap.size) (.agg #[.int .i64 o.t, .int .i64 o.q, .int .i64 o.v, u, v]) ∧ Below w.heap.size w w' := by
  obtain ⟨B, A, n, c, A', n', c', hB, hB', rfl, h1, h2, hb⟩ := h
  exact ⟨_, _, rfl, ⟨A, n, c, A', n', c', w.heap.size, B, w'.heap.size, rfl, h1, h2.resQ, hB, hB', Nat.le_refl _, fun b hb => hb⟩, hb⟩
/-- The shelf is laid into the variable of the answer. -/
theorem madeR_put {o : RegD} {w w2 w3 : World} {R : Nat} {C : Array Value} {N : Nat} (hb : Below w.heap.size w w2) (hR : w.heap.size ≤ R) (hRN : R < N) (_hN : N ≤ w2.heap.size) (hL : LieR o w2 (Iv N w2.heap.size) (.agg C)) (hw : w3 = w2.setRow R C) :
    LieR o w3 (Iv w.heap.size w3.heap.size) (.agg C) ∧ Below w.heap.size w w3 := by
  have ht := turns_setRow w2 R C
  rw [hw]
  exact ⟨(keepsLR o).sub ((keepsLR o).turn hL ht (iv_one (.inl hRN))) (fun b hb => ⟨by have := hb.1; omega, by have := hb.2; rw [size_setRow]; exact this⟩), ht.below hb (fun i hi => by omega)⟩

set_option maxRecDepth 100000 in
set_option maxHeartbeats 16000000 in
theorem onto_is (g : GrpD) (d : RecD) (r : RegD) (A : Option Addr) (n cap : Nat) (L : Option Addr) (m mc : Nat) (P : Option Addr) (p pc : Nat) (Q : Option Addr) (q qc : Nat) (w : World)
    (hm : n ≤ maxLen) (hgr : Row w w.heap.size A n g.zs) (hmc : m ≤ 4194304) (hp : Pairs w w.heap.size L m d.ps) (h1 : Slc w (.slice P p pc) r.ps) (h2 : SlcQ w (.slice Q q qc) r.os) (hs1 : r.ps.length ≤ 2000000) (hs2 : r.os.length ≤ 2000000) (hlp : r.ps.length = p) (hlq : r.os.length = q) :
    Calls Tryz.prog 62 #[.agg #[.int .i64 d.r1, .int .i64 d.r2, .int .i64 d.r3, .int .i64 d.r4, .int .i64 d.r5, .int .i64 d.r6, .int .i64 d.r7, .slice L m mc, .int .i64 d.r8], .agg #[.int .i64 g.s, .int .i64 g.l, .int .i64 g.c, .int .i64 g.sh, .slice A n cap], .agg #[.int .i64 r.t, .int .i64 r.q, .int .i64 r.v, .slice P p pc, .slice Q q qc]] w (MadeR (ontoD g d r) w) := by
  have E := bel_trans (bel_trans (bel_trans (bel_alloc w (.cells #[.int .i64 d.r1, .int .i64 d.r2, .int .i64 d.r3, .int .i64 d.r4, .int .i64 d.r5, .int .i64 d.r6, .int .i64 d.r7, .slice L m mc, .int .i64 d.r8] 42)) (bel_alloc _ (.cells #[.int .i64 g.s, .int .i64 g.l, .int .i64 g.c, .int .i64 g.sh, .slice A n cap] 26))) (bel_alloc _ (.cells #[.int .i64 r.t, .int .i64 r.q, .int .i64 r.v, .slice P p pc, .slice Q q qc] 40))) (bel_alloc _ (.cells #[.int .i64 0, .int .i64 0, .int .i64 0, .slice none 0 0, .slice none 0 0] 40))
  have D := (((Box.new w 42 #[.int .i64 d.r1, .int .i64 d.r2, .int .i64 d.r3, .int .i64 d.r4, .int .i64 d.r5, .int .i64 d.r6, .int .i64 d.r7, .slice L m mc, .int .i64 d.r8]).alloc (.cells #[.int .i64 g.s, .int .i64 g.l, .int .i64 g.c, .int .i64 g.sh, .slice A n cap] 26)).alloc (.cells #[.int .i64 r.t, .int .i64 r.q, .int .i64 r.v, .slice P p pc, .slice Q q qc] 40)).alloc (.cells #[.int .i64 0, .int .i64 0, .int .i64 0, .slice none 0 0, .slice none 0 0] 40)
  have G := ((Box.new (w.alloc (.cells #[.int .i64 d.r1, .int .i64 d.r2, .int .i64 d.r3, .int .i64 d.r4, .int .i64 d.r5, .int .i64 d.r6, .int .i64 d.r7, .slice L m mc, .int .i64 d.r8] 42)) 26 #[.int .i64 g.s, .int .i64 g.l, .int .i64 g.c, .int .i64 g.sh, .slice A n cap]).alloc (.cells #[.int .i64 r.t, .int .i64 r.q, .int .i64 r.v, .slice P p pc, .slice Q q qc] 40)).alloc (.cells #[.int .i64 0, .int .i64 0, .int .i64 0, .slice none 0 0, .slice none 0 0] 40)
  have V := (Box.new ((w.alloc (.cells #[.int .i64 d.r1, .int .i64 d.r2, .int .i64 d.r3, .int .i64 d.r4, .int .i64 d.r5, .int .i64 d.r6, .int .i64 d.r7, .slice L m mc, .int .i64 d.r8] 42)).alloc (.cells #[.int .i64 g.s, .int .i64 g.l, .int .i64 g.c, .int .i64 g.sh, .slice A n cap] 26)) 40 #[.int .i64 r.t, .int .i64 r.q, .int .i64 r.v, .slice P p pc, .slice Q q qc]).alloc (.cells #[.int .i64 0, .int .i64 0, .int .i64 0, .slice none 0 0, .slice none 0 0] 40)
  have X := Box.new (((w.alloc (.cells #[.int .i64 d.r1, .int .i64 d.r2, .int .i64 d.r3, .int .i64 d.r4, .int .i64 d.r5, .int .i64 d.r6, .int .i64 d.r7, .slice L m mc, .int .i64 d.r8] 42)).alloc (.cells #[.int .i64 g.s, .int .i64 g.l, .int .i64 g.c, .int .i64 g.sh, .slice A n cap] 26)).alloc (.cells #[.int .i64 r.t, .int .i64 r.q, .int .i64 r.v, .slice P p pc, .slice Q q qc] 40)) 40 #[.int .i64 0, .int .i64 0, .int .i64 0, .slice none 0 0, .slice none 0 0]
  simp only [World.size_alloc] at G V X
  have HR := Lib.hid ((hgr.below E (Nat.le_refl _)).more E.size)
  have HP := Lib.hid (hp.later E)
  have H1 := Lib.hid (h1.later E)
  have H2 := Lib.hid (h2.later E)
  have HM := Lib.hid hm
  have HL1 := Lib.hid hlp
  have HL2 := Lib.hid hlq
  clear hgr hp h1 h2 hm hlp hlq
  go_enter Tryz.func62, Tryz.ntmps62
  go_upto_region 1 with fail
  generalize ((((w.alloc _).alloc _).alloc _).alloc _ : World) = w0 at E D G V X HR HP H1 H2 ⊢
  have d1 := D.cell 1
  have hXl := X.lt
  have IX := Lib.hid (show (Tryz.prog.info? 40).map (·.size) = some 5 from by kernel_rfl)
  by_cases h2 : d.r2 = 1
  · skip
    have h2b : (d.r2 == 1) = true := by simpa using h2
    have hh2 := Lib.hid h2
    clear h2
    go_upto_region 2 with fail
    clear d1 h2b
    refine wp_region_sink 5 (fun w' => Box w' w.heap.size 42 #[.int .i64 d.r1, .int .i64 d.r2, .int .i64 d.r3, .int .i64 d.r4, .int .i64 d.r5, .int .i64 d.r6, .int .i64 d.r7, .slice L m mc, .int .i64 d.r8] ∧ Box w' (w.heap.size + 1 + 1) 40 #[.int .i64 r.t, .int .i64 r.q, .int .i64 r.v, .slice P p pc, .slice Q q qc]) (by kernel_rfl) ⟨D, V⟩ (fun hH => ?_)
    have hb := (Below.refl w0.heap.size w0).drew
    replace E := bel_trans E hb
    replace D := D.later hb D.lt
    replace V := V.later hb V.lt
    replace X := X.later hb X.lt
    replace H1 := Lib.hid (H1.out.later hb)
    replace H2 := Lib.hid (H2.out.later hb)
    replace hXl := Nat.lt_of_lt_of_le hXl hb.size
    clear hb
    generalize w0.drew = w1 at E D V X H1 H2 hH hXl ⊢
    refine wpAnyE_takeS (i := 0) (v := .agg #[.int .i64 r.t, .int .i64 r.q, .int .i64 r.v, .slice P p pc, .slice Q q qc]) (by simp only [List.getElem?_toArray, List.getElem?_cons_zero]; rfl) (by kernel_rfl) (by kernel_rfl) (by kernel_rfl) (by exact fun _ _ _ h => h) (by kernel_rfl) ?y0 hH ?_
    case y0 => exact yields_box 40 _ rfl (w.heap.size + 1 + 1) rfl 40 #[.int .i64 r.t, .int .i64 r.q, .int .i64 r.v, .slice P p pc, .slice Q q qc] (fun _ h => h.2) _ Tryz.underlying40 rfl IX.out (by first | rfl | simp [Region.wanted, yielded] | (simp [Region.wanted, yielded, Act.put] <;> omega))
    try simp only [Act.put, List.setIfInBounds_toArray, List.set_cons_zero, List.set_cons_succ]
    refine wpAnyE_takeS (i := 1) (v := .agg #[.int .i64 d.r1, .int .i64 d.r2, .int .i64 d.r3, .int .i64 d.r4, .int .i64 d.r5, .int .i64 d.r6, .int .i64 d.r7, .slice L m mc, .int .i64 d.r8]) (by simp only [List.getElem?_toArray, List.getElem?_cons_succ, List.getElem?_cons_zero]; rfl) (by kernel_rfl) (by kernel_rfl) (by kernel_rfl) (by exact fun _ _ _ h => h) (by kernel_rfl) ?y1 hH ?_
    case y1 => exact yields_box 42 _ rfl (w.heap.size) rfl 42 #[.int .i64 d.r1, .int .i64 d.r2, .int .i64 d.r3, .int .i64 d.r4, .int .i64 d.r5, .int .i64 d.r6, .int .i64 d.r7, .slice L m mc, .int .i64 d.r8] (fun _ h => h.1) _ Tryz.underlying42 rfl (by kernel_rfl) (by first | rfl | simp [Region.wanted, yielded] | (simp [Region.wanted, yielded, Act.put] <;> omega))
    try simp only [Act.put, List.setIfInBounds_toArray, List.set_cons_zero, List.set_cons_succ]
    refine wpAnyE_one (i := 2) (by kernel_rfl) (by simp only [List.getElem?_toArray, List.getElem?_cons_succ, List.getElem?_cons_zero]; rfl) (fun K' hK => ?_)
    go_simp
    refine (recOpen_is d.r1 d.r2 d.r3 d.r4 d.r5 d.r6 d.r7 L m mc d.r8 w1).mono ?_
    rintro e w2 ⟨rfl, hb⟩
    replace E := bel_trans E hb
    replace D := D.later hb D.lt
    replace V := V.later hb V.lt
    replace X := X.later hb X.lt
    replace H1 := Lib.hid (H1.out.later hb)
    replace H2 := Lib.hid (H2.out.later hb)
    replace hXl := Nat.lt_of_lt_of_le hXl hb.size
    clear hb
    obtain ⟨w1, rfl⟩ : ∃ x, x = w2 := ⟨_, rfl⟩
    clear hH
    refine hK.out _ _ ⟨D, V⟩ (fun hH => ?_)
    clear hK K'
    try simp only [Act.put, List.setIfInBounds_toArray, List.set_cons_zero, List.set_cons_succ]
    refine wpAnyE_one (i := 3) (by kernel_rfl) (by simp only [List.getElem?_toArray, List.getElem?_cons_succ, List.getElem?_cons_zero]; rfl) (fun K' hK => ?_)
    go_simp
    refine (withOpen_is r.t r.q r.v P p pc Q q qc d.r4 d.r5 d.r6 d.r7 r.ps r.os w1 hs1 hs2 H1.out H2.out).mono ?_
    rintro e w2 hE
    obtain ⟨u, v, rfl, hL, hb⟩ := regR_at hE
    have hN := hb.size
    replace E := bel_trans E hb
    replace D := D.later hb D.lt
    replace V := V.later hb V.lt
    replace X := X.later hb X.lt
    have hz := X.lt
    clear hE hb
    have hon : ontoD g d r = ⟨r.t, r.q, r.v, r.ps, withO r.os (d.r4, d.r5, d.r6, d.r7)⟩ := by unfold ontoD; rw [if_pos hh2.out]
    replace hon := Lib.hid hon
    clear hH
    refine hK.out _ _ ⟨D, V⟩ (fun hH => ?_)
    clear hK K'
    try simp only [Act.put, List.setIfInBounds_toArray, List.set_cons_zero, List.set_cons_succ]
    have OL := Lib.hid (oneR hL.at)
    generalize w1.heap.size = N at hL hN hXl
    have ht := turns_setRow w2 (w.heap.size + 1 + 1 + 1) #[.int .i64 r.t, .int .i64 r.q, .int .i64 r.v, u, v]
    have B := Lib.hid (X.setRow #[.int .i64 r.t, .int .i64 r.q, .int .i64 r.v, u, v])
    obtain ⟨hL2, hb2⟩ := madeR_put (w3 := w2.setRow (w.heap.size + 1 + 1 + 1) #[.int .i64 r.t, .int .i64 r.q, .int .i64 r.v, u, v]) E (by omega) hXl hN hL rfl
    replace hL2 := Lib.hid hL2
    replace hb2 := Lib.hid hb2
    refine wpAnyE_end (i := 4) (by kernel_rfl) (by simp only [List.getElem?_toArray, List.getElem?_cons_succ, List.getElem?_cons_zero]; rfl) (by kernel_rfl) (fun K' hK => ?_)
    rw [if_pos (by first | rfl | kernel_rfl | simp [Region.wanted, yielded])]
    refine wp_store_row 40 _ _ rfl (w.heap.size + 1 + 1 + 1) #[.int .i64 r.t, .int .i64 r.q, .int .i64 r.v, u, v] rfl rfl 40 #[.int .i64 0, .int .i64 0, .int .i64 0, .slice none 0 0, .slice none 0 0] X IX.out rfl OL.out.2 ?_
    refine hK.out _ _ ⟨D.turn ht (by omega), V.turn ht (by omega)⟩ ?_
    clear hK K'
    try simp only [Act.put]
    clear hH D V X ht hL
    go_wp2
    exact bodyPost_ret (v := .agg #[.int .i64 r.t, .int .i64 r.q, .int .i64 r.v, u, v]) (results_row9 (Tryz.results62) _ _ (w.heap.size + 1 + 1 + 1) 40 #[.int .i64 r.t, .int .i64 r.q, .int .i64 r.v, u, v] _ rfl B.out Tryz.underlying40 rfl IX.out) rfl (by rw [hon.out]; exact ⟨u, v, rfl, hL2.out, hb2.out⟩)
  have h2b : (d.r2 == 1) = false := by simpa using h2
  have hh2 := Lib.hid h2
  clear h2
  go_upto_region 3 with fail
  clear d1 h2b
  obtain ⟨d0, d1, d2, d3, d4, d5, d6, d7, d8⟩ := D.nine
  obtain ⟨g0, g1, g2, g3, g4⟩ := G.five
  obtain ⟨v0, v1, v2, v3, v4⟩ := V.five
  go_wp2_with fail
  obtain ⟨O, hO⟩ : ∃ O, outW g.s g.l g.c g.sh g.zs d.r3 r.t r.q r.v r.ps r.os d.r5 d.r6 d.r7 d.ps = O := ⟨_, rfl⟩
  refine (written_is g.s g.l g.c g.sh A n cap g.zs d.r3 r.t r.q r.v P p pc Q q qc d.r5 d.r6 d.r7 L m mc r.ps r.os d.ps w0 HM.out HR.out (by have := HL1.out; omega) (by have := HL2.out; omega) H1.out H2.out hmc HP.out).mono ?_
  rintro e w1 hE
  rw [hO] at hE
  obtain ⟨u, v, rfl, hL, hb⟩ := wrR_at hE
  have hon : ontoD g d r = ⟨O.t, O.q, O.v, O.cs, O.os⟩ := by unfold ontoD; rw [if_neg hh2.out, hO]
  have HON := Lib.hid hon
  replace E := bel_trans E hb
  replace X := X.later hb X.lt
  have OL := Lib.hid (oneR hL.at)
  clear hE hO hon g0 g1 g2 g3 g4 v0 v1 v2 v3 v4 d0 d1 d2 d3 d4 d5 d6 d7 d8 D G V
  have hN := hb.size
  clear hb
  generalize w0.heap.size = N at hL hN hXl
  have ZB := Box.new w1 40 #[.int .i64 0, .int .i64 0, .int .i64 0, .slice none 0 0, .slice none 0 0]
  have hn := bel_new_row w1 #[.int .i64 0, .int .i64 0, .int .i64 0, .slice none 0 0, .slice none 0 0] 40 #[.int .i64 O.t, .int .i64 O.q, .int .i64 O.v, u, v]
  have VB := ZB.setRow #[.int .i64 O.t, .int .i64 O.q, .int .i64 O.v, u, v]
  have hV1 := X.lt
  replace hL := (keepsLR _).later hL hn
  replace E := bel_trans E hn
  replace X := X.later hn X.lt
  go_upto_region 4 with (refine wpList_store_row rfl 40 _ _ rfl w1.heap.size _ rfl rfl 40 #[.int .i64 0, .int .i64 0, .int .i64 0, .slice none 0 0, .slice none 0 0] ZB IX.out rfl OL.out.2 ?_)
  clear ZB
  have hz2 := hn.size
  clear hn
  generalize ((w1.alloc _).setRow _ _ : World) = w2 at hL E X VB hz2 ⊢
  generalize w1.heap.size = VV at hL hN hV1 VB hz2 ⊢
  have ht := turns_setRow w2 (w.heap.size + 1 + 1 + 1) #[.int .i64 O.t, .int .i64 O.q, .int .i64 O.v, u, v]
  have B := Lib.hid (X.setRow #[.int .i64 O.t, .int .i64 O.q, .int .i64 O.v, u, v])
  obtain ⟨hL2, hb2⟩ := madeR_put (w3 := w2.setRow (w.heap.size + 1 + 1 + 1) #[.int .i64 O.t, .int .i64 O.q, .int .i64 O.v, u, v]) E (by omega) hXl (by omega) ((keepsLR _).sub hL (fun b hb => ⟨hb.1, by have := hb.2; omega⟩)) rfl
  replace hL2 := Lib.hid hL2
  replace hb2 := Lib.hid hb2
  clear ht hL E
  go_wp2_with (first | (refine wpList_load_box 40 _ rfl VV rfl 40 #[.int .i64 O.t, .int .i64 O.q, .int .i64 O.v, u, v] VB _ Tryz.underlying40 rfl IX.out (by first | rfl | simp [Region.wanted, yielded] | (simp [Region.wanted, yielded, Act.put] <;> omega)) ?_) | (refine wpList_store_row rfl 40 _ _ rfl (w.heap.size + 1 + 1 + 1) _ rfl rfl 40 #[.int .i64 0, .int .i64 0, .int .i64 0, .slice none 0 0, .slice none 0 0] X IX.out rfl OL.out.2 ?_))
  exact bodyPost_ret (v := .agg #[.int .i64 O.t, .int .i64 O.q, .int .i64 O.v, u, v]) (results_row9 (Tryz.results62) _ _ (w.heap.size + 1 + 1 + 1) 40 #[.int .i64 O.t, .int .i64 O.q, .int .i64 O.v, u, v] _ rfl B.out Tryz.underlying40 rfl IX.out) rfl (by rw [HON.out]; exact ⟨u, v, rfl, hL2.out, hb2.out⟩)

end Go.Proofs.YtmooajppfjglaaaGreat

/- The model's l9Apply: a right record is done to its shelf (written by apply_s.py); conditions: the shelves are right, the sizes. -/
namespace Go.Proofs.YtmooajppfjglaaaGreat
open Go Go.RowKit

theorem hreg {P : RegD → World → (Nat → Prop) → Value → Prop} (kp : ∀ d, Keeps (P d)) {w : World} {g lo : Nat} {rs : List RegD} (h : RegsOwn P w g lo rs) {i : Nat} (hi : i < rs.length) :
    ∃ u v, w.cell? ⟨g, i * 5, none⟩ = some (.int .i64 (rs[i]).t) ∧ w.cell? ⟨g, i * 5 + 1, none⟩ = some (.int .i64 (rs[i]).q) ∧ w.cell? ⟨g, i * 5 + 2, none⟩ = some (.int .i64 (rs[i]).v) ∧ w.cell? ⟨g, i * 5 + 3, none⟩ = some u ∧ w.cell? ⟨g, i * 5 + 4, none⟩ = some v ∧
      P rs[i] w (fun b => lo ≤ b) (.agg #[.int .i64 (rs[i]).t, .int .i64 (rs[i]).q, .int .i64 (rs[i]).v, u, v]) := by
  obtain ⟨_, Fs, hR, hF⟩ := h
  obtain ⟨u, v, c0, c1, c2, c3, c4, hP⟩ := hR.get hi
  exact ⟨u, v, c0, c1, c2, c3, c4, (kp _).sub hP (fun b hb => (hF i hi b hb).1)⟩
theorem grownG5 {w w2 : World} (h : Below w.heap.size w w2) (G : Nat) {o0 o1 o2 o3 o4 : Nat} (x0 x1 x2 x3 x4 : Value) : w.grownBy (((((w2.setCell ⟨G, o0, none⟩ x0).setCell ⟨G, o1, none⟩ x1).setCell ⟨G, o2, none⟩ x2).setCell ⟨G, o3, none⟩ x3).setCell ⟨G, o4, none⟩ x4) (some G) := by
  have t5 : Turns (· = G) w2 (((((w2.setCell ⟨G, o0, none⟩ x0).setCell ⟨G, o1, none⟩ x1).setCell ⟨G, o2, none⟩ x2).setCell ⟨G, o3, none⟩ x3).setCell ⟨G, o4, none⟩ x4) :=
    ((((turns_cell5 w2 G _ _).trans (turns_cell5 _ G _ _)).trans (turns_cell5 _ G _ _)).trans (turns_cell5 _ G _ _)).trans (turns_cell5 _ G _ _)
  exact ⟨t5.os.trans h.os, t5.tape.trans h.tape, t5.output.trans h.output, Nat.le_trans h.size t5.size, fun i hi hne => (t5.block i (Nat.lt_of_lt_of_le hi h.size) (fun e => hne (by rw [e]))).trans (h.block i hi)⟩

set_option maxRecDepth 100000 in
set_option maxHeartbeats 16000000 in
theorem l9Apply_is (g : GrpD) (d : RecD) (A : Option Addr) (n cap : Nat) (L : Option Addr) (m mc : Nat) (G k cap' lo : Nat) (rs : List RegD) (i : Nat) (w : World) (hi : d.r3 = (i : Int)) (hil : i < rs.length) (hlen : rs.length = k)
    (hm : n ≤ maxLen) (hgr : Row w w.heap.size A n g.zs) (hmc : m ≤ 4194304) (hp : Pairs w w.heap.size L m d.ps) (hR : RegsOwn AtW w G lo rs)
    (hgood : regG g d.r3 rs[i] = true) (hkn : kndB g.s g.l g.c g.sh g.zs d.r2 d.r3 d.r4 d.r5 d.r6 d.r7 d.ps = true) (hs1 : (rs[i]).ps.length ≤ 2000000) (hs2 : (rs[i]).os.length ≤ 2000000) :
    Calls Tryz.prog 65 #[.agg #[.int .i64 g.s, .int .i64 g.l, .int .i64 g.c, .int .i64 g.sh, .slice A n cap], .slice (some ⟨G, 0, none⟩) k cap', .agg #[.int .i64 d.r1, .int .i64 d.r2, .int .i64 (i : Int), .int .i64 d.r4, .int .i64 d.r5, .int .i64 d.r6, .int .i64 d.r7, .slice L m mc, .int .i64 d.r8]] w fun e w' => (∃ v, e = .returned v) ∧ RegsOwn AtW w' G lo (rs.set i (ontoD g d rs[i])) ∧ w.grownBy w' (some G) := by
  have E := bel_trans (bel_alloc w (.cells #[.int .i64 g.s, .int .i64 g.l, .int .i64 g.c, .int .i64 g.sh, .slice A n cap] 26)) (bel_alloc _ (.cells #[.int .i64 d.r1, .int .i64 d.r2, .int .i64 (i : Int), .int .i64 d.r4, .int .i64 d.r5, .int .i64 d.r6, .int .i64 d.r7, .slice L m mc, .int .i64 d.r8] 42))
  have D := (Box.new w 26 #[.int .i64 g.s, .int .i64 g.l, .int .i64 g.c, .int .i64 g.sh, .slice A n cap]).alloc (.cells #[.int .i64 d.r1, .int .i64 d.r2, .int .i64 (i : Int), .int .i64 d.r4, .int .i64 d.r5, .int .i64 d.r6, .int .i64 d.r7, .slice L m mc, .int .i64 d.r8] 42)
  have R := Box.new (w.alloc (.cells #[.int .i64 g.s, .int .i64 g.l, .int .i64 g.c, .int .i64 g.sh, .slice A n cap] 26)) 42 #[.int .i64 d.r1, .int .i64 d.r2, .int .i64 (i : Int), .int .i64 d.r4, .int .i64 d.r5, .int .i64 d.r6, .int .i64 d.r7, .slice L m mc, .int .i64 d.r8]
  simp only [World.size_alloc] at R
  have HR := Lib.hid ((hgr.below E (Nat.le_refl _)).more E.size)
  have HP := Lib.hid (hp.later E)
  have K := RegsOwn.later keepsW hR E
  have HG := Lib.hid hgood
  have HK := Lib.hid hkn
  have HM := Lib.hid hm
  have HI := Lib.hid hi
  have hGl : G < w.heap.size := by
    obtain ⟨_, Fs, h, _⟩ := hR
    exact h.lt
  clear hgr hp hR hgood hkn hm hi
  have hlt : (i : Int) < (k : Int) := by omega
  obtain ⟨r, hr⟩ : ∃ r : RegD, rs[i] = r := ⟨_, rfl⟩
  rw [hr] at hs1 hs2 ⊢
  replace HG : Hid (regG g d.r3 r = true) := hr ▸ HG
  have hlen' := Lib.hid hlen
  clear hlen
  go_enter Tryz.func65, Tryz.ntmps65
  go_upto_region 1 with fail
  generalize ((w.alloc _).alloc _ : World) = w0 at E D R HR HP K ⊢
  have d1 := R.cell 1
  by_cases h2 : d.r2 = 1
  · skip
    have h2b : (d.r2 == 1) = true := by simpa using h2
    go_upto_region 2 with fail
    clear d1
    obtain ⟨u0, v0, c0, c1, c2, c3, c4, hA⟩ := hreg keepsW K hil
    rw [hr] at c0 c1 c2 hA
    obtain ⟨P, p, pc, Q, q, qc, rfl, rfl, hS1, hS2, hl1, hl2⟩ := hA.slc
    refine wp_region_sink 17 (fun w' => Box w' w.heap.size 26 #[.int .i64 g.s, .int .i64 g.l, .int .i64 g.c, .int .i64 g.sh, .slice A n cap] ∧ Box w' (w.heap.size + 1) 42 #[.int .i64 d.r1, .int .i64 d.r2, .int .i64 (i : Int), .int .i64 d.r4, .int .i64 d.r5, .int .i64 d.r6, .int .i64 d.r7, .slice L m mc, .int .i64 d.r8] ∧ w'.cell? ⟨G, i * 5, none⟩ = some (.int .i64 r.t) ∧ w'.cell? ⟨G, i * 5 + 1, none⟩ = some (.int .i64 r.q) ∧ w'.cell? ⟨G, i * 5 + 2, none⟩ = some (.int .i64 r.v) ∧ w'.cell? ⟨G, i * 5 + 3, none⟩ = some (.slice P p pc) ∧ w'.cell? ⟨G, i * 5 + 4, none⟩ = some (.slice Q q qc)) (by kernel_rfl) ⟨D, R, c0, c1, c2, c3, c4⟩ (fun hH => ?_)
    have hb := (Below.refl w0.heap.size w0).drew
    replace E := bel_trans E hb
    replace D := D.later hb D.lt
    replace R := R.later hb R.lt
    have K1 := RegsOwn.later keepsW K hb
    replace HR := Lib.hid ((HR.out.below hb (Nat.le_refl _)).more hb.size)
    replace HP := Lib.hid (HP.out.later hb)
    replace hS1 := hS1.later hb
    replace hS2 := hS2.later hb
    clear hb hA K
    have K := K1
    clear K1
    generalize w0.drew = w1 at E D R HR HP K hS1 hS2 hH ⊢
    refine wpAnyE_pure (i := 0) (v := ?vp1) (by simp only [List.getElem?_toArray, List.getElem?_cons_zero]; rfl) (by kernel_rfl) (by kernel_rfl) (by kernel_rfl) (by exact fun _ _ _ h => h) (by kernel_rfl) (Or.inl ⟨by rfl, ?yp1⟩) hH ?rp1
    case yp1 => (intro w' hSw; (try dsimp only at hSw); go_simp; try with_reducible rfl)
    try simp only [Act.put, List.setIfInBounds_toArray, List.set_cons_zero, List.set_cons_succ]
    refine wpAnyE_pure (i := 1) (v := ?vp2) (by simp only [List.getElem?_toArray, List.getElem?_cons_succ, List.getElem?_cons_zero]; rfl) (by kernel_rfl) (by kernel_rfl) (by kernel_rfl) (by exact fun _ _ _ h => h) (by kernel_rfl) (Or.inl ⟨by rfl, ?yp2⟩) hH ?rp2
    case yp2 => (intro w' hSw; (try dsimp only at hSw); go_simp; try with_reducible rfl)
    try simp only [Act.put, List.setIfInBounds_toArray, List.set_cons_zero, List.set_cons_succ]
    refine wpAnyE_take (i := 2) (v := .int .i64 (i : Int)) (by simp only [List.getElem?_toArray, List.getElem?_cons_succ, List.getElem?_cons_zero]; rfl) (by kernel_rfl) (by kernel_rfl) (by kernel_rfl) (by exact fun _ _ _ h => h) (by kernel_rfl) (Or.inl ⟨by rfl, ?y3⟩) hH ?r3
    case y3 => (intro w' hSw; have hc2 : w'.cell? ⟨w.heap.size + 1, 2, none⟩ = some (.int .i64 (i : Int)) := hSw.2.1.cell 2; clear hSw; go_simp; try with_reducible rfl)
    try simp only [Act.put, List.setIfInBounds_toArray, List.set_cons_zero, List.set_cons_succ]
    refine wpAnyE_pure (i := 3) (v := ?vp4) (by simp only [List.getElem?_toArray, List.getElem?_cons_succ, List.getElem?_cons_zero]; rfl) (by kernel_rfl) (by kernel_rfl) (by kernel_rfl) (by exact fun _ _ _ h => h) (by kernel_rfl) (Or.inl ⟨by rfl, ?yp4⟩) hH ?rp4
    case yp4 => (intro w' hSw; (try dsimp only at hSw); go_simp; try with_reducible rfl)
    try simp only [Act.put, List.setIfInBounds_toArray, List.set_cons_zero, List.set_cons_succ]
    refine wpAnyE_pure (i := 4) (v := ?vp5) (by simp only [List.getElem?_toArray, List.getElem?_cons_succ, List.getElem?_cons_zero]; rfl) (by kernel_rfl) (by kernel_rfl) (by kernel_rfl) (by exact fun _ _ _ h => h) (by kernel_rfl) (Or.inl ⟨by rfl, ?yp5⟩) hH ?rp5
    case yp5 => (intro w' hSw; (try dsimp only at hSw); go_simp; try with_reducible rfl)
    try simp only [Act.put, List.setIfInBounds_toArray, List.set_cons_zero, List.set_cons_succ]
    refine wpAnyE_take (i := 5) (v := .int .i64 (i : Int)) (by simp only [List.getElem?_toArray, List.getElem?_cons_succ, List.getElem?_cons_zero]; rfl) (by kernel_rfl) (by kernel_rfl) (by kernel_rfl) (by exact fun _ _ _ h => h) (by kernel_rfl) (Or.inl ⟨by rfl, ?y6⟩) hH ?r6
    case y6 => (intro w' hSw; have hc2 : w'.cell? ⟨w.heap.size + 1, 2, none⟩ = some (.int .i64 (i : Int)) := hSw.2.1.cell 2; clear hSw; go_simp; try with_reducible rfl)
    try simp only [Act.put, List.setIfInBounds_toArray, List.set_cons_zero, List.set_cons_succ]
    refine wpAnyE_pure (i := 6) (v := ?vp7) (by simp only [List.getElem?_toArray, List.getElem?_cons_succ, List.getElem?_cons_zero]; rfl) (by kernel_rfl) (by kernel_rfl) (by kernel_rfl) (by exact fun _ _ _ h => h) (by kernel_rfl) (Or.inl ⟨by rfl, ?yp7⟩) hH ?rp7
    case yp7 => (intro w' hSw; (try dsimp only at hSw); go_simp; try with_reducible rfl)
    try simp only [Act.put, List.setIfInBounds_toArray, List.set_cons_zero, List.set_cons_succ]
    refine wpAnyE_take (i := 7) (v := .agg #[.int .i64 r.t, .int .i64 r.q, .int .i64 r.v, .slice P p pc, .slice Q q qc]) (by simp only [List.getElem?_toArray, List.getElem?_cons_succ, List.getElem?_cons_zero]; rfl) (by kernel_rfl) (by kernel_rfl) (by kernel_rfl) (by exact fun _ _ _ h => h) (by kernel_rfl) (Or.inl ⟨by rfl, ?y8⟩) hH ?r8
    case y8 => (intro w' hSw; have hr0 : w'.cell? ⟨G, i * 5, none⟩ = some (.int .i64 r.t) := hSw.2.2.1; have hr1 : w'.cell? ⟨G, i * 5 + 1, none⟩ = some (.int .i64 r.q) := hSw.2.2.2.1; have hr2 : w'.cell? ⟨G, i * 5 + 2, none⟩ = some (.int .i64 r.v) := hSw.2.2.2.2.1; have hr3 : w'.cell? ⟨G, i * 5 + 3, none⟩ = some (.slice P p pc) := hSw.2.2.2.2.2.1; have hr4 : w'.cell? ⟨G, i * 5 + 4, none⟩ = some (.slice Q q qc) := hSw.2.2.2.2.2.2; clear hSw; go_simp; try with_reducible rfl)
    try simp only [Act.put, List.setIfInBounds_toArray, List.set_cons_zero, List.set_cons_succ]
    refine wpAnyE_pure (i := 8) (v := ?vp9) (by simp only [List.getElem?_toArray, List.getElem?_cons_succ, List.getElem?_cons_zero]; rfl) (by kernel_rfl) (by kernel_rfl) (by kernel_rfl) (by exact fun _ _ _ h => h) (by kernel_rfl) (Or.inl ⟨by rfl, ?yp9⟩) hH ?rp9
    case yp9 => (intro w' hSw; (try dsimp only at hSw); go_simp; try with_reducible rfl)
    try simp only [Act.put, List.setIfInBounds_toArray, List.set_cons_zero, List.set_cons_succ]
    refine wpAnyE_take (i := 9) (v := .int .i64 d.r4) (by simp only [List.getElem?_toArray, List.getElem?_cons_succ, List.getElem?_cons_zero]; rfl) (by kernel_rfl) (by kernel_rfl) (by kernel_rfl) (by exact fun _ _ _ h => h) (by kernel_rfl) (Or.inl ⟨by rfl, ?y10⟩) hH ?r10
    case y10 => (intro w' hSw; have hc3 : w'.cell? ⟨w.heap.size + 1, 3, none⟩ = some (.int .i64 d.r4) := hSw.2.1.cell 3; clear hSw; go_simp; try with_reducible rfl)
    try simp only [Act.put, List.setIfInBounds_toArray, List.set_cons_zero, List.set_cons_succ]
    refine wpAnyE_pure (i := 10) (v := ?vp11) (by simp only [List.getElem?_toArray, List.getElem?_cons_succ, List.getElem?_cons_zero]; rfl) (by kernel_rfl) (by kernel_rfl) (by kernel_rfl) (by exact fun _ _ _ h => h) (by kernel_rfl) (Or.inl ⟨by rfl, ?yp11⟩) hH ?rp11
    case yp11 => (intro w' hSw; (try dsimp only at hSw); go_simp; try with_reducible rfl)
    try simp only [Act.put, List.setIfInBounds_toArray, List.set_cons_zero, List.set_cons_succ]
    refine wpAnyE_take (i := 11) (v := .agg #[.int .i64 d.r5, .int .i64 d.r6]) (by simp only [List.getElem?_toArray, List.getElem?_cons_succ, List.getElem?_cons_zero]; rfl) (by kernel_rfl) (by kernel_rfl) (by kernel_rfl) (by exact fun _ _ _ h => h) (by kernel_rfl) (Or.inl ⟨by rfl, ?y12⟩) hH ?r12
    case y12 => (intro w' hSw; have hc4 : w'.cell? ⟨w.heap.size + 1, 4, none⟩ = some (.int .i64 d.r5) := hSw.2.1.cell 4; have hc5 : w'.cell? ⟨w.heap.size + 1, 5, none⟩ = some (.int .i64 d.r6) := hSw.2.1.cell 5; clear hSw; go_simp; try with_reducible rfl)
    try simp only [Act.put, List.setIfInBounds_toArray, List.set_cons_zero, List.set_cons_succ]
    refine wpAnyE_pure (i := 12) (v := ?vp13) (by simp only [List.getElem?_toArray, List.getElem?_cons_succ, List.getElem?_cons_zero]; rfl) (by kernel_rfl) (by kernel_rfl) (by kernel_rfl) (by exact fun _ _ _ h => h) (by kernel_rfl) (Or.inl ⟨by rfl, ?yp13⟩) hH ?rp13
    case yp13 => (intro w' hSw; (try dsimp only at hSw); go_simp; try with_reducible rfl)
    try simp only [Act.put, List.setIfInBounds_toArray, List.set_cons_zero, List.set_cons_succ]
    refine wpAnyE_take (i := 13) (v := .int .i64 d.r7) (by simp only [List.getElem?_toArray, List.getElem?_cons_succ, List.getElem?_cons_zero]; rfl) (by kernel_rfl) (by kernel_rfl) (by kernel_rfl) (by exact fun _ _ _ h => h) (by kernel_rfl) (Or.inl ⟨by rfl, ?y14⟩) hH ?r14
    case y14 => (intro w' hSw; have hc6 : w'.cell? ⟨w.heap.size + 1, 6, none⟩ = some (.int .i64 d.r7) := hSw.2.1.cell 6; clear hSw; go_simp; try with_reducible rfl)
    try simp only [Act.put, List.setIfInBounds_toArray, List.set_cons_zero, List.set_cons_succ]
    refine wpAnyE_pure (i := 14) (v := ?vp15) (by simp only [List.getElem?_toArray, List.getElem?_cons_succ, List.getElem?_cons_zero]; rfl) (by kernel_rfl) (by kernel_rfl) (by kernel_rfl) (by exact fun _ _ _ h => h) (by kernel_rfl) (Or.inl ⟨by rfl, ?yp15⟩) hH ?rp15
    case yp15 => (intro w' hSw; (try dsimp only at hSw); go_simp; try with_reducible rfl)
    try simp only [Act.put, List.setIfInBounds_toArray, List.set_cons_zero, List.set_cons_succ]
    refine wpAnyE_one (i := 15) (by kernel_rfl) (by simp only [List.getElem?_toArray, List.getElem?_cons_succ, List.getElem?_cons_zero]; rfl) (fun K' hK => ?_)
    go_simp
    refine (specWith_is r.t r.q r.v P p pc Q q qc d.r4 d.r5 d.r6 d.r7 r.ps r.os w1 hs1 hs2 hS1 hS2).mono ?_
    rintro e w2 hE
    obtain ⟨u, v, rfl, hL, hb⟩ := regR_at hE
    have hon : ontoD g d r = ⟨r.t, r.q, r.v, r.ps, withO r.os (d.r4, d.r5, d.r6, d.r7)⟩ := by unfold ontoD; rw [if_pos h2]
    replace hL := hL.atW
    obtain ⟨A1, n1, c1', A2, n2', c2', rfl, rfl, -, -, -, -⟩ := hL.slc
    have hcG : ∀ o x, w1.cell? ⟨G, o, none⟩ = some x → w2.cell? ⟨G, o, none⟩ = some x := fun o x h => (hb.cell (p := ⟨G, o, none⟩) (Nat.lt_of_lt_of_le hGl E.size)).trans h
    obtain ⟨D1, R1, q0, q1, q2, q3, q4⟩ := hH
    have n0 := hcG _ _ q0
    have n1 := hcG _ _ q1
    have n2 := hcG _ _ q2
    have n3 := hcG _ _ q3
    have n4 := hcG _ _ q4
    have D2 := D.later hb D.lt
    have R2 := R.later hb R.lt
    have Kf := Lib.hid (RegsOwn.put keepsW K hb hil hL)
    have E2 := Lib.hid (bel_trans E hb)
    have fG : ∀ o, w2.frozen? ⟨G, o, none⟩ = false := by
      obtain ⟨_, Fs, h, _⟩ := RegsOwn.later keepsW K hb
      exact h.frozen
    refine hK.out _ _ ⟨D2, R2, n0, n1, n2, n3, n4⟩ (fun hH => ?_)
    clear hK K' K hb hE hcG q0 q1 q2 q3 q4 D1 R1 hL
    try simp only [Act.put, List.setIfInBounds_toArray, List.set_cons_zero, List.set_cons_succ]
    refine wpAnyE_pure (i := 16) (v := ?vp16) (by simp only [List.getElem?_toArray, List.getElem?_cons_succ, List.getElem?_cons_zero]; rfl) (by kernel_rfl) (by kernel_rfl) (by kernel_rfl) (by exact fun _ _ _ h => h) (by kernel_rfl) (Or.inl ⟨by rfl, ?yp16⟩) hH ?rp16
    case yp16 => (intro w' hSw; (try dsimp only at hSw); go_simp; try with_reducible rfl)
    try simp only [Act.put, List.setIfInBounds_toArray, List.set_cons_zero, List.set_cons_succ]
    refine wpAnyE_last (by kernel_rfl) (by simp only [List.getElem?_toArray, List.getElem?_cons_succ, List.getElem?_cons_zero]; rfl) (by kernel_rfl) (fun K' hK => ?_)
    go_simp
    refine hK.out _ _ ?_
    clear hK K' hH
    try simp only [Act.put, List.setIfInBounds_toArray, List.set_cons_zero, List.set_cons_succ]
    clear n0 n1 n2 n3 n4 fG D2 R2
    go_wp2
    refine bodyPost_ret (results_none rfl _ _ _) rfl ?_
    refine ⟨⟨_, rfl⟩, hon ▸ Kf.out, grownG5 E2.out G _ _ _ _ _⟩
  · skip
    have h2b : (d.r2 == 1) = false := by simpa using h2
    go_upto_region 3 with fail
    clear d1
    obtain ⟨u0, v0, c0, c1, c2, c3, c4, hA⟩ := hreg keepsW K hil
    rw [hr] at c0 c1 c2 hA
    obtain ⟨P, p, pc, Q, q, qc, rfl, rfl, hS1, hS2, hl1, hl2⟩ := hA.slc
    refine wp_region_sink 22 (fun w' => Box w' w.heap.size 26 #[.int .i64 g.s, .int .i64 g.l, .int .i64 g.c, .int .i64 g.sh, .slice A n cap] ∧ Box w' (w.heap.size + 1) 42 #[.int .i64 d.r1, .int .i64 d.r2, .int .i64 (i : Int), .int .i64 d.r4, .int .i64 d.r5, .int .i64 d.r6, .int .i64 d.r7, .slice L m mc, .int .i64 d.r8] ∧ w'.cell? ⟨G, i * 5, none⟩ = some (.int .i64 r.t) ∧ w'.cell? ⟨G, i * 5 + 1, none⟩ = some (.int .i64 r.q) ∧ w'.cell? ⟨G, i * 5 + 2, none⟩ = some (.int .i64 r.v) ∧ w'.cell? ⟨G, i * 5 + 3, none⟩ = some (.slice P p pc) ∧ w'.cell? ⟨G, i * 5 + 4, none⟩ = some (.slice Q q qc)) (by kernel_rfl) ⟨D, R, c0, c1, c2, c3, c4⟩ (fun hH => ?_)
    have hb := (Below.refl w0.heap.size w0).drew
    replace E := bel_trans E hb
    replace D := D.later hb D.lt
    replace R := R.later hb R.lt
    have K1 := RegsOwn.later keepsW K hb
    replace HR := Lib.hid ((HR.out.below hb (Nat.le_refl _)).more hb.size)
    replace HP := Lib.hid (HP.out.later hb)
    replace hS1 := hS1.later hb
    replace hS2 := hS2.later hb
    clear hb hA K
    have K := K1
    clear K1
    generalize w0.drew = w1 at E D R HR HP K hS1 hS2 hH ⊢
    refine wpAnyE_pure (i := 0) (v := ?vp17) (by simp only [List.getElem?_toArray, List.getElem?_cons_zero]; rfl) (by kernel_rfl) (by kernel_rfl) (by kernel_rfl) (by exact fun _ _ _ h => h) (by kernel_rfl) (Or.inl ⟨by rfl, ?yp17⟩) hH ?rp17
    case yp17 => (intro w' hSw; (try dsimp only at hSw); go_simp; try with_reducible rfl)
    try simp only [Act.put, List.setIfInBounds_toArray, List.set_cons_zero, List.set_cons_succ]
    refine wpAnyE_pure (i := 1) (v := ?vp18) (by simp only [List.getElem?_toArray, List.getElem?_cons_succ, List.getElem?_cons_zero]; rfl) (by kernel_rfl) (by kernel_rfl) (by kernel_rfl) (by exact fun _ _ _ h => h) (by kernel_rfl) (Or.inl ⟨by rfl, ?yp18⟩) hH ?rp18
    case yp18 => (intro w' hSw; (try dsimp only at hSw); go_simp; try with_reducible rfl)
    try simp only [Act.put, List.setIfInBounds_toArray, List.set_cons_zero, List.set_cons_succ]
    refine wpAnyE_take (i := 2) (v := .int .i64 (i : Int)) (by simp only [List.getElem?_toArray, List.getElem?_cons_succ, List.getElem?_cons_zero]; rfl) (by kernel_rfl) (by kernel_rfl) (by kernel_rfl) (by exact fun _ _ _ h => h) (by kernel_rfl) (Or.inl ⟨by rfl, ?y19⟩) hH ?r19
    case y19 => (intro w' hSw; have hc2 : w'.cell? ⟨w.heap.size + 1, 2, none⟩ = some (.int .i64 (i : Int)) := hSw.2.1.cell 2; clear hSw; go_simp; try with_reducible rfl)
    try simp only [Act.put, List.setIfInBounds_toArray, List.set_cons_zero, List.set_cons_succ]
    refine wpAnyE_take (i := 3) (v := .agg #[.int .i64 g.s, .int .i64 g.l, .int .i64 g.c, .int .i64 g.sh, .slice A n cap]) (by simp only [List.getElem?_toArray, List.getElem?_cons_succ, List.getElem?_cons_zero]; rfl) (by kernel_rfl) (by kernel_rfl) (by kernel_rfl) (by exact fun _ _ _ h => h) (by kernel_rfl) (Or.inl ⟨by rfl, ?y20⟩) hH ?r20
    case y20 => (intro w' hSw; have hg0 : w'.cell? ⟨w.heap.size, 0, none⟩ = some (.int .i64 g.s) := hSw.1.cell 0; have hg1 : w'.cell? ⟨w.heap.size, 1, none⟩ = some (.int .i64 g.l) := hSw.1.cell 1; have hg2 : w'.cell? ⟨w.heap.size, 2, none⟩ = some (.int .i64 g.c) := hSw.1.cell 2; have hg3 : w'.cell? ⟨w.heap.size, 3, none⟩ = some (.int .i64 g.sh) := hSw.1.cell 3; have hg4 : w'.cell? ⟨w.heap.size, 4, none⟩ = some (.slice A n cap) := hSw.1.cell 4; clear hSw; go_simp; try with_reducible rfl)
    try simp only [Act.put, List.setIfInBounds_toArray, List.set_cons_zero, List.set_cons_succ]
    refine wpAnyE_pure (i := 4) (v := ?vp21) (by simp only [List.getElem?_toArray, List.getElem?_cons_succ, List.getElem?_cons_zero]; rfl) (by kernel_rfl) (by kernel_rfl) (by kernel_rfl) (by exact fun _ _ _ h => h) (by kernel_rfl) (Or.inl ⟨by rfl, ?yp21⟩) hH ?rp21
    case yp21 => (intro w' hSw; (try dsimp only at hSw); go_simp; try with_reducible rfl)
    try simp only [Act.put, List.setIfInBounds_toArray, List.set_cons_zero, List.set_cons_succ]
    refine wpAnyE_take (i := 5) (v := .int .i64 (i : Int)) (by simp only [List.getElem?_toArray, List.getElem?_cons_succ, List.getElem?_cons_zero]; rfl) (by kernel_rfl) (by kernel_rfl) (by kernel_rfl) (by exact fun _ _ _ h => h) (by kernel_rfl) (Or.inl ⟨by rfl, ?y22⟩) hH ?r22
    case y22 => (intro w' hSw; have hc2 : w'.cell? ⟨w.heap.size + 1, 2, none⟩ = some (.int .i64 (i : Int)) := hSw.2.1.cell 2; clear hSw; go_simp; try with_reducible rfl)
    try simp only [Act.put, List.setIfInBounds_toArray, List.set_cons_zero, List.set_cons_succ]
    refine wpAnyE_pure (i := 6) (v := ?vp23) (by simp only [List.getElem?_toArray, List.getElem?_cons_succ, List.getElem?_cons_zero]; rfl) (by kernel_rfl) (by kernel_rfl) (by kernel_rfl) (by exact fun _ _ _ h => h) (by kernel_rfl) (Or.inl ⟨by rfl, ?yp23⟩) hH ?rp23
    case yp23 => (intro w' hSw; (try dsimp only at hSw); go_simp; try with_reducible rfl)
    try simp only [Act.put, List.setIfInBounds_toArray, List.set_cons_zero, List.set_cons_succ]
    refine wpAnyE_pure (i := 7) (v := ?vp24) (by simp only [List.getElem?_toArray, List.getElem?_cons_succ, List.getElem?_cons_zero]; rfl) (by kernel_rfl) (by kernel_rfl) (by kernel_rfl) (by exact fun _ _ _ h => h) (by kernel_rfl) (Or.inl ⟨by rfl, ?yp24⟩) hH ?rp24
    case yp24 => (intro w' hSw; (try dsimp only at hSw); go_simp; try with_reducible rfl)
    try simp only [Act.put, List.setIfInBounds_toArray, List.set_cons_zero, List.set_cons_succ]
    refine wpAnyE_take (i := 8) (v := .int .i64 (i : Int)) (by simp only [List.getElem?_toArray, List.getElem?_cons_succ, List.getElem?_cons_zero]; rfl) (by kernel_rfl) (by kernel_rfl) (by kernel_rfl) (by exact fun _ _ _ h => h) (by kernel_rfl) (Or.inl ⟨by rfl, ?y25⟩) hH ?r25
    case y25 => (intro w' hSw; have hc2 : w'.cell? ⟨w.heap.size + 1, 2, none⟩ = some (.int .i64 (i : Int)) := hSw.2.1.cell 2; clear hSw; go_simp; try with_reducible rfl)
    try simp only [Act.put, List.setIfInBounds_toArray, List.set_cons_zero, List.set_cons_succ]
    refine wpAnyE_pure (i := 9) (v := ?vp26) (by simp only [List.getElem?_toArray, List.getElem?_cons_succ, List.getElem?_cons_zero]; rfl) (by kernel_rfl) (by kernel_rfl) (by kernel_rfl) (by exact fun _ _ _ h => h) (by kernel_rfl) (Or.inl ⟨by rfl, ?yp26⟩) hH ?rp26
    case yp26 => (intro w' hSw; (try dsimp only at hSw); go_simp; try with_reducible rfl)
    try simp only [Act.put, List.setIfInBounds_toArray, List.set_cons_zero, List.set_cons_succ]
    refine wpAnyE_take (i := 10) (v := .agg #[.int .i64 r.t, .int .i64 r.q, .int .i64 r.v, .slice P p pc, .slice Q q qc]) (by simp only [List.getElem?_toArray, List.getElem?_cons_succ, List.getElem?_cons_zero]; rfl) (by kernel_rfl) (by kernel_rfl) (by kernel_rfl) (by exact fun _ _ _ h => h) (by kernel_rfl) (Or.inl ⟨by rfl, ?y27⟩) hH ?r27
    case y27 => (intro w' hSw; have hr0 : w'.cell? ⟨G, i * 5, none⟩ = some (.int .i64 r.t) := hSw.2.2.1; have hr1 : w'.cell? ⟨G, i * 5 + 1, none⟩ = some (.int .i64 r.q) := hSw.2.2.2.1; have hr2 : w'.cell? ⟨G, i * 5 + 2, none⟩ = some (.int .i64 r.v) := hSw.2.2.2.2.1; have hr3 : w'.cell? ⟨G, i * 5 + 3, none⟩ = some (.slice P p pc) := hSw.2.2.2.2.2.1; have hr4 : w'.cell? ⟨G, i * 5 + 4, none⟩ = some (.slice Q q qc) := hSw.2.2.2.2.2.2; clear hSw; go_simp; try with_reducible rfl)
    try simp only [Act.put, List.setIfInBounds_toArray, List.set_cons_zero, List.set_cons_succ]
    refine wpAnyE_pure (i := 11) (v := ?vp28) (by simp only [List.getElem?_toArray, List.getElem?_cons_succ, List.getElem?_cons_zero]; rfl) (by kernel_rfl) (by kernel_rfl) (by kernel_rfl) (by exact fun _ _ _ h => h) (by kernel_rfl) (Or.inl ⟨by rfl, ?yp28⟩) hH ?rp28
    case yp28 => (intro w' hSw; (try dsimp only at hSw); go_simp; try with_reducible rfl)
    try simp only [Act.put, List.setIfInBounds_toArray, List.set_cons_zero, List.set_cons_succ]
    refine wpAnyE_take (i := 12) (v := .agg #[.int .i64 d.r5, .int .i64 d.r6]) (by simp only [List.getElem?_toArray, List.getElem?_cons_succ, List.getElem?_cons_zero]; rfl) (by kernel_rfl) (by kernel_rfl) (by kernel_rfl) (by exact fun _ _ _ h => h) (by kernel_rfl) (Or.inl ⟨by rfl, ?y29⟩) hH ?r29
    case y29 => (intro w' hSw; have hc4 : w'.cell? ⟨w.heap.size + 1, 4, none⟩ = some (.int .i64 d.r5) := hSw.2.1.cell 4; have hc5 : w'.cell? ⟨w.heap.size + 1, 5, none⟩ = some (.int .i64 d.r6) := hSw.2.1.cell 5; clear hSw; go_simp; try with_reducible rfl)
    try simp only [Act.put, List.setIfInBounds_toArray, List.set_cons_zero, List.set_cons_succ]
    refine wpAnyE_pure (i := 13) (v := ?vp30) (by simp only [List.getElem?_toArray, List.getElem?_cons_succ, List.getElem?_cons_zero]; rfl) (by kernel_rfl) (by kernel_rfl) (by kernel_rfl) (by exact fun _ _ _ h => h) (by kernel_rfl) (Or.inl ⟨by rfl, ?yp30⟩) hH ?rp30
    case yp30 => (intro w' hSw; (try dsimp only at hSw); go_simp; try with_reducible rfl)
    try simp only [Act.put, List.setIfInBounds_toArray, List.set_cons_zero, List.set_cons_succ]
    refine wpAnyE_take (i := 14) (v := .int .i64 d.r7) (by simp only [List.getElem?_toArray, List.getElem?_cons_succ, List.getElem?_cons_zero]; rfl) (by kernel_rfl) (by kernel_rfl) (by kernel_rfl) (by exact fun _ _ _ h => h) (by kernel_rfl) (Or.inl ⟨by rfl, ?y31⟩) hH ?r31
    case y31 => (intro w' hSw; have hc6 : w'.cell? ⟨w.heap.size + 1, 6, none⟩ = some (.int .i64 d.r7) := hSw.2.1.cell 6; clear hSw; go_simp; try with_reducible rfl)
    try simp only [Act.put, List.setIfInBounds_toArray, List.set_cons_zero, List.set_cons_succ]
    refine wpAnyE_pure (i := 15) (v := ?vp32) (by simp only [List.getElem?_toArray, List.getElem?_cons_succ, List.getElem?_cons_zero]; rfl) (by kernel_rfl) (by kernel_rfl) (by kernel_rfl) (by exact fun _ _ _ h => h) (by kernel_rfl) (Or.inl ⟨by rfl, ?yp32⟩) hH ?rp32
    case yp32 => (intro w' hSw; (try dsimp only at hSw); go_simp; try with_reducible rfl)
    try simp only [Act.put, List.setIfInBounds_toArray, List.set_cons_zero, List.set_cons_succ]
    refine wpAnyE_take (i := 16) (v := .slice L m mc) (by simp only [List.getElem?_toArray, List.getElem?_cons_succ, List.getElem?_cons_zero]; rfl) (by kernel_rfl) (by kernel_rfl) (by kernel_rfl) (by exact fun _ _ _ h => h) (by kernel_rfl) (Or.inl ⟨by rfl, ?y33⟩) hH ?r33
    case y33 => (intro w' hSw; have hc7 : w'.cell? ⟨w.heap.size + 1, 7, none⟩ = some (.slice L m mc) := hSw.2.1.cell 7; clear hSw; go_simp; try with_reducible rfl)
    try simp only [Act.put, List.setIfInBounds_toArray, List.set_cons_zero, List.set_cons_succ]
    refine wpAnyE_one (i := 17) (by kernel_rfl) (by simp only [List.getElem?_toArray, List.getElem?_cons_succ, List.getElem?_cons_zero]; rfl) (fun K' hK => ?_)
    go_simp
    have hw : wrtB g.s g.l g.c g.sh g.zs (i : Int) d.r5 d.r6 d.r7 d.ps = true := by
      rcases knd_parts HK.out with ⟨h, -⟩ | ⟨-, -, hz, hl⟩
      · exact absurd h h2
      · rw [← HI.out]; exact lef_wrt hl hz
    refine (l7WriteV_yes g.s g.l g.c g.sh A n cap g.zs (i : Int) r.t r.q r.v P p pc Q q qc d.r5 d.r6 d.r7 L m mc r.ps r.os d.ps w1 HM.out HR.out hs1 hs2 hS1 hS2 hmc HP.out hw).mono ?_
    rintro e w2 hE
    rw [← HI.out] at hE
    obtain ⟨u, v, rfl, hL, hb⟩ := wroteV_at HG.out HK.out h2 hE
    obtain ⟨o, ho⟩ : ∃ o : RegD, ontoD g d r = o := ⟨_, rfl⟩
    rw [ho] at hL ⊢
    obtain ⟨A1, n1, c1', A2, n2', c2', rfl, rfl, -, -, -, -⟩ := hL.slc
    have hcG : ∀ o x, w1.cell? ⟨G, o, none⟩ = some x → w2.cell? ⟨G, o, none⟩ = some x := fun o x h => (hb.cell (p := ⟨G, o, none⟩) (Nat.lt_of_lt_of_le hGl E.size)).trans h
    obtain ⟨D1, R1, q0, q1, q2, q3, q4⟩ := hH
    have n0 := hcG _ _ q0
    have n1 := hcG _ _ q1
    have n2 := hcG _ _ q2
    have n3 := hcG _ _ q3
    have n4 := hcG _ _ q4
    have D2 := D.later hb D.lt
    have R2 := R.later hb R.lt
    have Kf := Lib.hid (RegsOwn.put keepsW K hb hil hL)
    have E2 := Lib.hid (bel_trans E hb)
    have fG : ∀ o, w2.frozen? ⟨G, o, none⟩ = false := by
      obtain ⟨_, Fs, h, _⟩ := RegsOwn.later keepsW K hb
      exact h.frozen
    refine hK.out _ _ ⟨D2, R2, n0, n1, n2, n3, n4⟩ (fun hH => ?_)
    clear hK K' K hb hE hcG q0 q1 q2 q3 q4 D1 R1 hL hw
    try simp only [Act.put, List.setIfInBounds_toArray, List.set_cons_zero, List.set_cons_succ]
    refine wpAnyE_pure (i := 18) (v := ?vp34) (by simp only [List.getElem?_toArray, List.getElem?_cons_succ, List.getElem?_cons_zero]; rfl) (by kernel_rfl) (by kernel_rfl) (by kernel_rfl) (by exact fun _ _ _ h => h) (by kernel_rfl) (Or.inl ⟨by rfl, ?yp34⟩) hH ?rp34
    case yp34 => (intro w' hSw; (try dsimp only at hSw); go_simp; try with_reducible rfl)
    try simp only [Act.put, List.setIfInBounds_toArray, List.set_cons_zero, List.set_cons_succ]
    refine wpAnyE_pure (i := 19) (v := ?vp35) (by simp only [List.getElem?_toArray, List.getElem?_cons_succ, List.getElem?_cons_zero]; rfl) (by kernel_rfl) (by kernel_rfl) (by kernel_rfl) (by exact fun _ _ _ h => h) (by kernel_rfl) (Or.inl ⟨by rfl, ?yp35⟩) hH ?rp35
    case yp35 => (intro w' hSw; (try dsimp only at hSw); go_simp; try with_reducible rfl)
    try simp only [Act.put, List.setIfInBounds_toArray, List.set_cons_zero, List.set_cons_succ]
    refine wpAnyE_pure (i := 20) (v := ?vp36) (by simp only [List.getElem?_toArray, List.getElem?_cons_succ, List.getElem?_cons_zero]; rfl) (by kernel_rfl) (by kernel_rfl) (by kernel_rfl) (by exact fun _ _ _ h => h) (by kernel_rfl) (Or.inl ⟨by rfl, ?yp36⟩) hH ?rp36
    case yp36 => (intro w' hSw; (try dsimp only at hSw); go_simp; try with_reducible rfl)
    try simp only [Act.put, List.setIfInBounds_toArray, List.set_cons_zero, List.set_cons_succ]
    refine wpAnyE_pure (i := 21) (v := ?vp37) (by simp only [List.getElem?_toArray, List.getElem?_cons_succ, List.getElem?_cons_zero]; rfl) (by kernel_rfl) (by kernel_rfl) (by kernel_rfl) (by exact fun _ _ _ h => h) (by kernel_rfl) (Or.inl ⟨by rfl, ?yp37⟩) hH ?rp37
    case yp37 => (intro w' hSw; (try dsimp only at hSw); go_simp; try with_reducible rfl)
    try simp only [Act.put, List.setIfInBounds_toArray, List.set_cons_zero, List.set_cons_succ]
    refine wpAnyE_last (by kernel_rfl) (by simp only [List.getElem?_toArray, List.getElem?_cons_succ, List.getElem?_cons_zero]; rfl) (by kernel_rfl) (fun K' hK => ?_)
    go_simp
    refine hK.out _ _ ?_
    clear hK K' hH
    try simp only [Act.put, List.setIfInBounds_toArray, List.set_cons_zero, List.set_cons_succ]
    clear n0 n1 n2 n3 n4 fG D2 R2
    go_wp2
    go_end0
    refine ⟨⟨_, rfl⟩, (by rw [ho]; exact Kf.out), grownG5 E2.out G _ _ _ _ _⟩

end Go.Proofs.YtmooajppfjglaaaGreat

/- The model's Replayed: what was done to each shelf, one record after the other (written by rep_s.py); conditions: the sizes. -/
namespace Go.Proofs.YtmooajppfjglaaaGreat
open Go Go.RowKit

theorem Tryz.infoReg9 : (Tryz.prog.info? 40).map (fun i => (i.zero, i.size, i.bytes)) = some (some (.agg #[.int .i64 0, .int .i64 0, .int .i64 0, .slice none 0 0, .slice none 0 0]), 5, 72) := by kernel_rfl
theorem run_make_regs {P : Program} (t e : TypeId) (ht : P.underlying t = some (.slice e)) (hinfo : (P.info? e).map (fun i => (i.zero, i.size, i.bytes)) = some (some (.agg #[.int .i64 0, .int .i64 0, .int .i64 0, .slice none 0 0, .slice none 0 0]), 5, 72))
    (n : Nat) (hn : n ≤ 1048576) (w : World) :
    (Instr.makeSlice t (.int .i64 (n : Int)) (.int .i64 (n : Int))).run P w = .ok (.slice (some ⟨w.heap.size, 0, none⟩) n n) (w.alloc (.cells (madeCells #[.int .i64 0, .int .i64 0, .int .i64 0, .slice none 0 0, .slice none 0 0] (n * 5)) e)) := by
  obtain ⟨i, hi, hzz⟩ := Option.map_eq_some_iff.1 hinfo
  simp only [Prod.mk.injEq] at hzz
  obtain ⟨hz, hs, hb⟩ := hzz
  have hr := run_make (P := P) w t e i _ ht hi hz .i64 .i64 n n (by omega) (Int.le_refl _) (by rw [hb]; omega) (by omega)
  simp only [Int.toNat_natCast, hs] at hr
  exact hr
/-- No shelves at all. -/
theorem regs_none (P : RegD → World → (Nat → Prop) → Value → Prop) (w : World) : RegsOwn P (w.alloc (.cells #[] 40)) w.heap.size w.heap.size [] :=
  ⟨Nat.le_refl _, fun _ _ => False, ⟨⟨#[], Box.new w _ _, rfl, fun i hi => absurd hi (by simp)⟩, fun _ _ _ h => h.elim, fun _ _ _ _ _ _ h => h.elim⟩, fun _ _ _ h => h.elim⟩
/-- What Replayed leaves: shelves of one's own, and a flag. -/
def MadeReps (P : RegD → World → (Nat → Prop) → Value → Prop) (rs : List RegD) (f : Bool) (w : World) (e : Ending) (w' : World) : Prop :=
  ∃ G c, e = .returned (.tuple #[.slice (some ⟨G, 0, none⟩) rs.length c, .bool f]) ∧ RegsOwn P w' G w.heap.size rs ∧ Below w.heap.size w w'
theorem RegsOwn.low {P : RegD → World → (Nat → Prop) → Value → Prop} {w : World} {g lo lo' : Nat} {rs : List RegD} (h : RegsOwn P w g lo rs) (hl : lo' ≤ lo) : RegsOwn P w g lo' rs := by
  obtain ⟨hg, Fs, hR, hF⟩ := h
  exact ⟨by omega, Fs, hR, fun i hi b hb => ⟨by have := (hF i hi b hb).1; omega, (hF i hi b hb).2⟩⟩
theorem RegsOwn.glt {P : RegD → World → (Nat → Prop) → Value → Prop} {w : World} {g lo : Nat} {rs : List RegD} (h : RegsOwn P w g lo rs) : g < w.heap.size := by
  obtain ⟨_, Fs, hR, _⟩ := h
  exact hR.lt
theorem regOf_lt {rs : List RegD} {i : Nat} (h : i < rs.length) : regOf rs i = rs[i] := by
  unfold regOf
  rw [List.getD_eq_getElem?_getD, List.getElem?_eq_getElem h]
  rfl

theorem RowF.later {w w' : World} {F : Nat → Prop} {A : Option Addr} {n : Nat} {zs : List Int} (h : RowF w F A n zs) (hb : Below w.heap.size w w') : RowF w' F A n zs := h.turn (T := fun _ => False) (Turns.of_below hb) (fun _ _ h => h)
set_option maxRecDepth 100000 in
set_option maxHeartbeats 16000000 in
theorem specReplayed_is (g : GrpD) (ds : List RecD) (A : Option Addr) (n cap : Nat) (LA : Option Addr) (ln lc : Nat) (w : World) (hm : n ≤ maxLen) (hgr : Row w w.heap.size A n g.zs) (hds : RecsF ds w (· < w.heap.size) LA ln) (htot : totC ds ≤ 1048576) :
    Calls Tryz.prog 14 #[.agg #[.int .i64 g.s, .int .i64 g.l, .int .i64 g.c, .int .i64 g.sh, .slice A n cap], .slice LA ln lc] w (MadeReps AtW (replD g ds).1 (replD g ds).2 w) := by
  have D := Box.new w 26 #[.int .i64 g.s, .int .i64 g.l, .int .i64 g.c, .int .i64 g.sh, .slice A n cap]
  have E := bel_alloc w (.cells #[.int .i64 g.s, .int .i64 g.l, .int .i64 g.c, .int .i64 g.sh, .slice A n cap] 26)
  have HR := Lib.hid (RowF.later hgr.all E)
  have HD := Lib.hid (hds.later E)
  have HM := Lib.hid hm
  have hln := hds.1
  have HT := Lib.hid htot
  have hlnb : ln ≤ 1048576 := by
    have h : ds.length ≤ totC ds := by
      unfold totC
      clear hds htot HD HT hln
      induction ds with
      | nil => exact Nat.zero_le _
      | cons d ds ih => simp only [List.map_cons, List.sum_cons, List.length_cons]; omega
    omega
  have HL := Lib.hid hln
  clear hgr hds hm htot hln
  go_enter Tryz.func14, Tryz.ntmps14
  go_upto_region 1 with fail
  generalize (w.alloc _ : World) = w0 at D E HR HD ⊢
  obtain ⟨g0, g1, g2, g3, g4⟩ := D.five
  rcases hok : okG g with _ | _
  · skip
    have hrep := Lib.hid (show replD g ds = ([], false) from by unfold replD; rw [hok]; rfl)
    have HO := Lib.hid hok
    clear hok
    go_wp2_with fail
    refine (specOkR_is HO.out A n cap w0 HM.out HR.out.1).mono ?_
    rintro e w1 ⟨rfl, hb⟩
    have E1 := bel_trans E hb
    have K := (regs_none AtW w1).low E1.size
    have E2 := bel_trans E1 (bel_alloc w1 (.cells #[] 40))
    go_wp2
    exact bodyPost_ret (v := .tuple #[.slice (some ⟨w1.heap.size, 0, none⟩) 0 0, .bool false]) (by simp [results, Tryz.results14, go_sem]) rfl (by rw [hrep.out]; exact ⟨w1.heap.size, 0, rfl, K, E2⟩)
  obtain ⟨hs1, hs4⟩ := okB_sh hok
  obtain ⟨ns, hns⟩ : ∃ ns : Nat, g.sh = (ns : Int) := ⟨g.sh.toNat, by omega⟩
  have hnn : g.sh.toNat = ns := by omega
  have hns1 : ns ≤ 4 := by omega
  have hmk := fun W => run_make_regs (P := Tryz.prog) 30 40 Tryz.underlying30 Tryz.infoReg9 ns (by omega) W
  have HO := Lib.hid hok
  have HN := Lib.hid hnn
  have HS := Lib.hid hns
  clear hok hnn hns
  go_wp2_with fail
  refine (specOkR_is HO.out A n cap w0 HM.out HR.out.1).mono ?_
  rintro e w1 ⟨rfl, hb⟩
  have E1 := bel_trans E hb
  have D1 := D.later hb D.lt
  have gn3 : w1.cell? ⟨w.heap.size, 3, none⟩ = some (.int .i64 (ns : Int)) := (D1.cell 3).trans (by rw [← HS.out]; rfl)
  replace HR := Lib.hid (RowF.later HR.out hb)
  replace HD := Lib.hid (HD.out.later hb)
  clear g0 g1 g2 g3 g4 hb E D hs1 hs4
  have K0 := (regs_new AtW zeroW w1 ns).low E1.size
  have hb := bel_alloc w1 (.cells (madeCells #[.int .i64 0, .int .i64 0, .int .i64 0, .slice none 0 0, .slice none 0 0] (ns * 5)) 40)
  have D2 := D1.later hb D1.lt
  have E2 := bel_trans E1 hb
  replace HR := Lib.hid (RowF.later HR.out hb)
  replace HD := Lib.hid (HD.out.later hb)
  have hVG : w.heap.size < w1.heap.size := D1.lt
  go_wp2_with fail
  clear gn3 hmk hb D1
  generalize (w1.alloc (.cells (madeCells #[.int .i64 0, .int .i64 0, .int .i64 0, .slice none 0 0, .slice none 0 0] (ns * 5)) 40)) = w2 at K0 D2 E2 HR HD ⊢
  generalize w1.heap.size = G at K0 hVG ⊢
  clear E1
  have hsh : ∀ k, (shelves g (ds.take k)).length = ns := fun k => by rw [shelves_len]; exact HN.out
  go_loopw [7] (fun i wr => ∃ k : Nat, k ≤ ln ∧ i = .int .i64 k ∧ Hid (∀ j, j < k → isAt g ds j = true) ∧ RegsOwn AtW wr G w.heap.size (shelves g (ds.take k)) ∧ w2.grownBy wr (some G)) (fun i _ => ln - (intOf i).toNat)
  case atStart => exact ⟨0, Nat.zero_le _, rfl, Lib.hid (fun j hj => absurd hj (by omega)), by unfold shelves; rw [List.take_zero, List.foldl_nil, HN.out]; exact K0, grown_refl _ _⟩
  case round =>
    clear K0
    obtain ⟨k, hk, rfl, hall, K, hgw⟩ := hrel
    have E := bel_grown E2 hgw (by omega)
    have D := D2.kept hgw (by intro e; injection e with e; omega)
    have TG := Turns.of_grown hgw
    by_cases hlt : k < ln
    · skip
      obtain ⟨b, o, hA, hbF, hbl, hcell⟩ := (HD.out.turn TG (fun b hb e => by omega)).2 (by omega)
      subst hA
      have hkd : k < ds.length := by have := HL.out; omega
      obtain ⟨L, m, mc, hrec, hmm, hps⟩ := hcell k hkd
      clear hcell
      have HRw := Lib.hid (HR.out.turn TG (fun b hb e => by omega)).1
      obtain ⟨d, hd⟩ : ∃ d : RecD, ds[k] = d := ⟨_, rfl⟩
      have hAt := isAt_lt (g := g) hkd
      have htm := totC_mem ds hkd
      have hstep := shelves_snoc g ds hkd
      rw [hd] at hrec hps hAt htm hstep
      have HPw := Lib.hid hps.1
      have hmd : d.ps.length = m := hps.1.1
      have hm4 : m ≤ 4194304 := by have := HT.out; omega
      have HS2 := Lib.hid hstep
      have HA := Lib.hid hAt
      clear hd hmd htm hstep hAt hps
      obtain ⟨c0, c1, c2, c3, c4, c5, c6, c7, c8⟩ := hrec
      have hDl := D.lt
      obtain ⟨e0, e1, e2, e3, e4⟩ := fiveAfter D
      have f0 := After.cell hbl c0
      have f1 := After.cell hbl c1
      have f2 := After.cell hbl c2
      have f3 := After.cell hbl c3
      have f4 := After.cell hbl c4
      have f5 := After.cell hbl c5
      have f6 := After.cell hbl c6
      have f7 := After.cell hbl c7
      have f8 := After.cell hbl c8
      have hltI : (k : Int) < (ln : Int) := by omega
      have hkw : IntKind.i64.wrap ((k : Int) + 1) = (k : Int) + 1 := IntWalk.i64_in _ (by omega)
      go_upto_region 7 with fail
      by_cases hno : d.r1 = (k : Int) + 1
      rotate_left
      · skip
        have hne : (d.r1 != (k : Int) + 1) = true := by simpa using hno
        have hf : isAt g ds k = false := by rw [HA.out]; simp [hno]
        clear hno
        refine wp_region_after (by kernel_rfl) (by kernel_rfl) ?_
        repeat (first | go_big_quiet_step (fail) | quiet_step (fail))
        refine wpQuiet_nil ?_
        intro pw
        have hrep := Lib.hid (show replD g ds = ([], false) from by unfold replD; rw [allAt_false hkd hf, Bool.and_false]; rfl)
        have E3 := bel_trans E pw.bel
        have K3 := (regs_none AtW pw.x).low E3.size
        have E4 := bel_trans E3 (bel_alloc pw.x (.cells #[] 40))
        go_wp2
        exact bodyPost_ret (v := .tuple #[.slice (some ⟨pw.x.heap.size, 0, none⟩) 0 0, .bool false]) (by simp [results, Tryz.results14, go_sem]) rfl (by rw [hrep.out]; exact ⟨pw.x.heap.size, 0, rfl, K3, E4⟩)
      have hne : (d.r1 != (k : Int) + 1) = false := by simpa using hno
      rcases hrb : rokD g d with _ | _
      · skip
        have hf : isAt g ds k = false := by rw [HA.out, hrb, Bool.and_false]
        have HB : Hid (rokB g.s g.l g.c g.sh g.zs d.r1 d.r2 d.r3 d.r4 d.r5 d.r6 d.r7 d.ps d.r8 = false) := Lib.hid hrb
        clear hrb hno
        refine wp_region_after (by kernel_rfl) (by kernel_rfl) ?_
        repeat (first | go_big_quiet_step ((go_at_call 64; exact after_of (specRecOk_is HB.out A n cap L m mc _ HM.out (rowAfter HRw.out _) hm4 (pairsAfter HPw.out _)))) | quiet_step ((go_at_call 64; exact after_of (specRecOk_is HB.out A n cap L m mc _ HM.out (rowAfter HRw.out _) hm4 (pairsAfter HPw.out _)))))
        refine wpQuiet_nil ?_
        intro pw
        have hrep := Lib.hid (show replD g ds = ([], false) from by unfold replD; rw [allAt_false hkd hf, Bool.and_false]; rfl)
        have E3 := bel_trans E pw.bel
        have K3 := (regs_none AtW pw.x).low E3.size
        have E4 := bel_trans E3 (bel_alloc pw.x (.cells #[] 40))
        go_wp2
        exact bodyPost_ret (v := .tuple #[.slice (some ⟨pw.x.heap.size, 0, none⟩) 0 0, .bool false]) (by simp [results, Tryz.results14, go_sem]) rfl (by rw [hrep.out]; exact ⟨pw.x.heap.size, 0, rfl, K3, E4⟩)
      have hf : isAt g ds k = true := by rw [HA.out, hrb]; simp [hno]
      have HB : Hid (rokB g.s g.l g.c g.sh g.zs d.r1 d.r2 d.r3 d.r4 d.r5 d.r6 d.r7 d.ps d.r8 = true) := Lib.hid hrb
      obtain ⟨hr0, hr1, -, hkn⟩ := rok_shelf hrb
      clear hrb hno
      refine wp_region_after (by kernel_rfl) (by kernel_rfl) ?_
      repeat (first | go_big_quiet_step ((go_at_call 64; exact after_of (specRecOk_is HB.out A n cap L m mc _ HM.out (rowAfter HRw.out _) hm4 (pairsAfter HPw.out _)))) | quiet_step ((go_at_call 64; exact after_of (specRecOk_is HB.out A n cap L m mc _ HM.out (rowAfter HRw.out _) hm4 (pairsAfter HPw.out _)))))
      refine wpQuiet_nil ?_
      intro pw
      clear f0 f1 f2 f3 f4 f5 f6 f7 f8 e0 e1 e2 e3 e4 hkw
      have hb := pw.bel
      have hgw3 := grown_trans hgw (grown_bel hb (some G))
      replace K := RegsOwn.later keepsW K hb
      replace D := D.later hb D.lt
      replace E := bel_trans E hb
      replace HRw := Lib.hid (rowAfter HRw.out pw)
      replace HPw := Lib.hid (pairsAfter HPw.out pw)
      have T : ∀ j x, wr.cell? ⟨b, j, none⟩ = some x → pw.x.cell? ⟨b, j, none⟩ = some x := fun j x h => (hb.cell (p := ⟨b, j, none⟩) hbl).trans h
      replace c0 := T _ _ c0
      replace c1 := T _ _ c1
      replace c2 := T _ _ c2
      replace c3 := T _ _ c3
      replace c4 := T _ _ c4
      replace c5 := T _ _ c5
      replace c6 := T _ _ c6
      replace c7 := T _ _ c7
      replace c8 := T _ _ c8
      obtain ⟨i, hi⟩ : ∃ i : Nat, d.r3 = (i : Int) := ⟨d.r3.toNat, by omega⟩
      have hin : i < ns := by have := HS.out; omega
      rw [hi] at c2
      have hbG : b ≠ G := by omega
      clear T hb
      generalize pw.x = w3 at K D E HRw HPw hgw3 c0 c1 c2 c3 c4 c5 c6 c7 c8 ⊢
      have hit : d.r3.toNat = i := by omega
      have hil : i < (shelves g (ds.take k)).length := by rw [hsh]; exact hin
      have hall2 : ∀ j, j < k + 1 → isAt g ds j = true := fun j hj => by
        by_cases e : j = k
        · rw [e]; exact hf
        · exact hall.out j (by omega)
      have hgd : regG g d.r3 ((shelves g (ds.take k))[i]) = true := by rw [hi]; exact good_shelves HO.out k (by omega) hall.out i hil
      have hsz := shelves_sz g ds k (by omega) i
      have htk := totC_take ds k
      rw [regOf_lt hil] at hsz
      have hsn : shelves g (ds.take (k + 1)) = (shelves g (ds.take k)).set i (ontoD g d ((shelves g (ds.take k))[i])) := by rw [HS2.out]; unfold stepR; rw [hit, regOf_lt hil]
      have hs1 : ((shelves g (ds.take k))[i]).ps.length ≤ 2000000 := by have := HT.out; omega
      have hs2 : ((shelves g (ds.take k))[i]).os.length ≤ 2000000 := by have := HT.out; omega
      have HI := Lib.hid hi
      have HSN := Lib.hid hsn
      have HA2 := Lib.hid hall2
      have HIT := Lib.hid hit
      clear hi hsn hall2 hit hf hsz htk hr0 hr1 HA HB hall hgw
      go_upto_region 9 with fail
      refine wp_region_sink 6 (fun w' => Box w' w.heap.size 26 #[.int .i64 g.s, .int .i64 g.l, .int .i64 g.c, .int .i64 g.sh, .slice A n cap] ∧ w'.cell? ⟨b, o + k * 9, none⟩ = some (.int .i64 d.r1) ∧ w'.cell? ⟨b, o + k * 9 + 1, none⟩ = some (.int .i64 d.r2) ∧ w'.cell? ⟨b, o + k * 9 + 2, none⟩ = some (.int .i64 (i : Int)) ∧ w'.cell? ⟨b, o + k * 9 + 3, none⟩ = some (.int .i64 d.r4) ∧ w'.cell? ⟨b, o + k * 9 + 4, none⟩ = some (.int .i64 d.r5) ∧ w'.cell? ⟨b, o + k * 9 + 5, none⟩ = some (.int .i64 d.r6) ∧ w'.cell? ⟨b, o + k * 9 + 6, none⟩ = some (.int .i64 d.r7) ∧ w'.cell? ⟨b, o + k * 9 + 7, none⟩ = some (.slice L m mc) ∧ w'.cell? ⟨b, o + k * 9 + 8, none⟩ = some (.int .i64 d.r8)) (by kernel_rfl) ⟨D, c0, c1, c2, c3, c4, c5, c6, c7, c8⟩ (fun hH => ?_)
      have hb := (Below.refl w3.heap.size w3).drew
      replace K := RegsOwn.later keepsW K hb
      replace E := bel_trans E hb
      replace HRw := Lib.hid ((HRw.out.below hb (Nat.le_refl _)).more hb.size)
      replace HPw := Lib.hid (HPw.out.later hb)
      replace hgw3 := grown_trans hgw3 (grown_bel hb (some G))
      clear hb D c0 c1 c2 c3 c4 c5 c6 c7 c8
      generalize w3.drew = w4 at K E HRw HPw hgw3 hH ⊢
      refine wpAnyE_take (i := 0) (v := .agg #[.int .i64 g.s, .int .i64 g.l, .int .i64 g.c, .int .i64 g.sh, .slice A n cap]) (by simp only [List.getElem?_toArray, List.getElem?_cons_zero]; rfl) (by kernel_rfl) (by kernel_rfl) (by kernel_rfl) (by exact fun _ _ _ h => h) (by kernel_rfl) (Or.inl ⟨by rfl, ?y1⟩) hH ?r1
      case y1 => (intro w' hSw; have hg0 : w'.cell? ⟨w.heap.size, 0, none⟩ = some (.int .i64 g.s) := hSw.1.cell 0; have hg1 : w'.cell? ⟨w.heap.size, 1, none⟩ = some (.int .i64 g.l) := hSw.1.cell 1; have hg2 : w'.cell? ⟨w.heap.size, 2, none⟩ = some (.int .i64 g.c) := hSw.1.cell 2; have hg3 : w'.cell? ⟨w.heap.size, 3, none⟩ = some (.int .i64 g.sh) := hSw.1.cell 3; have hg4 : w'.cell? ⟨w.heap.size, 4, none⟩ = some (.slice A n cap) := hSw.1.cell 4; clear hSw; go_simp; try with_reducible rfl)
      try simp only [Act.put, List.setIfInBounds_toArray, List.set_cons_zero, List.set_cons_succ]
      refine wpAnyE_pure (i := 1) (v := ?vu1) (by simp only [List.getElem?_toArray, List.getElem?_cons_succ, List.getElem?_cons_zero]; rfl) (by kernel_rfl) (by kernel_rfl) (by kernel_rfl) (by exact fun _ _ _ h => h) (by kernel_rfl) (Or.inl ⟨by rfl, ?yu1⟩) hH ?ru1
      case yu1 => (intro w' hSw; (try dsimp only at hSw); go_simp; try with_reducible rfl)
      try simp only [Act.put, List.setIfInBounds_toArray, List.set_cons_zero, List.set_cons_succ]
      refine wpAnyE_pure (i := 2) (v := ?vu2) (by simp only [List.getElem?_toArray, List.getElem?_cons_succ, List.getElem?_cons_zero]; rfl) (by kernel_rfl) (by kernel_rfl) (by kernel_rfl) (by exact fun _ _ _ h => h) (by kernel_rfl) (Or.inl ⟨by rfl, ?yu2⟩) hH ?ru2
      case yu2 => (intro w' hSw; (try dsimp only at hSw); go_simp; try with_reducible rfl)
      try simp only [Act.put, List.setIfInBounds_toArray, List.set_cons_zero, List.set_cons_succ]
      refine wpAnyE_pure (i := 3) (v := ?vu3) (by simp only [List.getElem?_toArray, List.getElem?_cons_succ, List.getElem?_cons_zero]; rfl) (by kernel_rfl) (by kernel_rfl) (by kernel_rfl) (by exact fun _ _ _ h => h) (by kernel_rfl) (Or.inl ⟨by rfl, ?yu3⟩) hH ?ru3
      case yu3 => (intro w' hSw; (try dsimp only at hSw); go_simp; try with_reducible rfl)
      try simp only [Act.put, List.setIfInBounds_toArray, List.set_cons_zero, List.set_cons_succ]
      refine wpAnyE_pure (i := 4) (v := ?vu4) (by simp only [List.getElem?_toArray, List.getElem?_cons_succ, List.getElem?_cons_zero]; rfl) (by kernel_rfl) (by kernel_rfl) (by kernel_rfl) (by exact fun _ _ _ h => h) (by kernel_rfl) (Or.inl ⟨by rfl, ?yu4⟩) hH ?ru4
      case yu4 => (intro w' hSw; (try dsimp only at hSw); go_simp; try with_reducible rfl)
      try simp only [Act.put, List.setIfInBounds_toArray, List.set_cons_zero, List.set_cons_succ]
      refine wpAnyE_take (i := 5) (v := .agg #[.int .i64 d.r1, .int .i64 d.r2, .int .i64 (i : Int), .int .i64 d.r4, .int .i64 d.r5, .int .i64 d.r6, .int .i64 d.r7, .slice L m mc, .int .i64 d.r8]) (by simp only [List.getElem?_toArray, List.getElem?_cons_succ, List.getElem?_cons_zero]; rfl) (by kernel_rfl) (by kernel_rfl) (by kernel_rfl) (by exact fun _ _ _ h => h) (by kernel_rfl) (Or.inl ⟨by rfl, ?y2⟩) hH ?r2
      case y2 => (intro w' hSw; have hc0 : w'.cell? ⟨b, o + k * 9, none⟩ = some (.int .i64 d.r1) := hSw.2.1; have hc1 : w'.cell? ⟨b, o + k * 9 + 1, none⟩ = some (.int .i64 d.r2) := hSw.2.2.1; have hc2 : w'.cell? ⟨b, o + k * 9 + 2, none⟩ = some (.int .i64 (i : Int)) := hSw.2.2.2.1; have hc3 : w'.cell? ⟨b, o + k * 9 + 3, none⟩ = some (.int .i64 d.r4) := hSw.2.2.2.2.1; have hc4 : w'.cell? ⟨b, o + k * 9 + 4, none⟩ = some (.int .i64 d.r5) := hSw.2.2.2.2.2.1; have hc5 : w'.cell? ⟨b, o + k * 9 + 5, none⟩ = some (.int .i64 d.r6) := hSw.2.2.2.2.2.2.1; have hc6 : w'.cell? ⟨b, o + k * 9 + 6, none⟩ = some (.int .i64 d.r7) := hSw.2.2.2.2.2.2.2.1; have hc7 : w'.cell? ⟨b, o + k * 9 + 7, none⟩ = some (.slice L m mc) := hSw.2.2.2.2.2.2.2.2.1; have hc8 : w'.cell? ⟨b, o + k * 9 + 8, none⟩ = some (.int .i64 d.r8) := hSw.2.2.2.2.2.2.2.2.2; clear hSw; go_simp; try with_reducible rfl)
      try simp only [Act.put, List.setIfInBounds_toArray, List.set_cons_zero, List.set_cons_succ]
      refine wpAnyE_last (by kernel_rfl) (by simp only [List.getElem?_toArray, List.getElem?_cons_succ, List.getElem?_cons_zero]; rfl) (by kernel_rfl) (fun K' hK => ?_)
      go_simp
      refine (l9Apply_is g d A n cap L m mc G ns ns w.heap.size (shelves g (ds.take k)) i w4 HI.out hil (hsh k) HM.out HRw.out hm4 HPw.out K hgd hkn hs1 hs2).mono ?_
      rintro e w5 ⟨⟨v, rfl⟩, K5, hg5⟩
      have hgw5 := grown_trans hgw3 hg5
      rw [← HSN.out] at K5
      refine hK.out _ _ ?_
      clear hK K' hH K
      try simp only [Act.put, List.setIfInBounds_toArray, List.set_cons_zero, List.set_cons_succ]
      have hkw : IntKind.i64.wrap ((k : Int) + 1) = (k : Int) + 1 := IntWalk.i64_in _ (by omega)
      go_wp2
      go_roundw
      case rel => exact ⟨k + 1, by omega, by go_num, HA2, K5, hgw5⟩
      case measure => simp [intOf]; omega
    · skip
      have hkn : k = ln := by omega
      subst hkn
      have hrep := Lib.hid (show replD g ds = (shelves g ds, true) from by
        unfold replD
        rw [HO.out, allAt_true (fun j hj => hall.out j (by have := HL.out; omega))]
        rfl)
      have hfull : ds.take k = ds := List.take_of_length_le (by have := HL.out; omega)
      rw [hfull] at K
      have hshl : (shelves g ds).length = ns := by rw [shelves_len]; exact HN.out
      have HSL := Lib.hid hshl
      clear hshl hfull hsh
      go_wp2
      exact bodyPost_ret (v := .tuple #[.slice (some ⟨G, 0, none⟩) ns ns, .bool true]) (by simp [results, Tryz.results14, go_sem]) rfl (by rw [hrep.out]; exact ⟨G, ns, by rw [HSL.out], K, E⟩)

end Go.Proofs.YtmooajppfjglaaaGreat

/- The program's Replayed: a loop over the iterator of the records (written by replay_i.py); conditions: the sizes. -/
namespace Go.Proofs.YtmooajppfjglaaaGreat
open Go Go.RowKit Go.Shelf

attribute [local go_sem] Oper.semAt_some

theorem recsOf_is (g : GrpD) (A : Option Addr) (n cap : Nat) (LA : Option Addr) (ln lc : Nat) (w : World) :
    Calls Tryz.prog 61 #[.agg #[.int .i64 g.s, .int .i64 g.l, .int .i64 g.c, .int .i64 g.sh, .slice A n cap], .slice LA ln lc] w fun e w' => e = .returned (.func (.func 107) #[] #[.pointer (some ⟨w.heap.size + 1, 0, none⟩), .pointer (some ⟨w.heap.size, 0, none⟩)]) ∧ w' = (w.alloc (.cells #[.int .i64 g.s, .int .i64 g.l, .int .i64 g.c, .int .i64 g.sh, .slice A n cap] 26)).alloc (.cells #[.slice LA ln lc] 27) := by
  go_enter Tryz.func61, Tryz.ntmps61
  go_wp2
  go_ret
  exact ⟨by simp, rfl⟩

theorem results_cells2 {P : Program} {fn : Func} {x y : Tmp} {t1 t2 : TypeId} (h : fn.results = #[.cell x t1, .cell y t2]) (tmps : Array Value) (w : World) {a b : Addr} {v1 v2 : Value} (hx : tmps.getD x undef = .pointer (some a)) (hy : tmps.getD y undef = .pointer (some b))
    (h1 : (loadVar t1 a).run P w = .ok v1 w) (h2 : (loadVar t2 b).run P w = .ok v2 w) : (results fn tmps).run P w = .ok (.tuple #[v1, v2]) w := by
  have ex : tmps[x]?.getD undef = .pointer (some a) := by simpa using hx
  have ey : tmps[y]?.getD undef = .pointer (some b) := by simpa using hy
  simp [results, h, ex, ey, asAddr, h1, h2]
theorem load_oneR {w : World} {a : Addr} {v : Value} (hc : w.cell? a = some v) : (loadVar 30 a).run Tryz.prog w = .ok v w := by
  simp [loadVar, isAgg, underlying, Tryz.underlying30, hc, go_sem]
theorem load_oneB {w : World} {a : Addr} {v : Value} (hc : w.cell? a = some v) : (loadVar 4 a).run Tryz.prog w = .ok v w := by
  simp [loadVar, isAgg, underlying, Tryz.underlying4, hc, go_sem]
theorem cell_set_self {w : World} {a : Addr} {u v : Value} (h : w.cell? a = some u) : (w.setCell a v).cell? a = some v := World.cell?_setCell_same' _ _ _ (by rw [h]; rfl)
theorem cell_set_other {w : World} {g g' o o' : Nat} {u v : Value} (h : w.cell? ⟨g, o, none⟩ = some u) (hne : g ≠ g') : (w.setCell ⟨g', o', none⟩ v).cell? ⟨g, o, none⟩ = some u := by
  rw [World.cell?_of_block (Below.heap_setCell w ⟨g', o', none⟩ v g hne)]
  exact h

/-- Between two rounds. -/
structure InvR (g : GrpD) (ds : List RecD) (A : Option Addr) (n cap : Nat) (w : World) (G ns : Nat) (pre : List (Fin ds.length)) (W : World) : Prop where
  D : Box W w.heap.size 26 #[.int .i64 g.s, .int .i64 g.l, .int .i64 g.c, .int .i64 g.sh, .slice A n cap]
  R4 : Box W (w.heap.size + 1) 30 #[.slice none 0 0]
  R5 : Box W (w.heap.size + 1 + 1) 4 #[.bool false]
  R6 : Box W (G + 1) 30 #[.slice (some ⟨G, 0, none⟩) ns ns]
  K : RegsOwn LieE W G G (shI g ds pre)
  all : ∀ k, k ∈ pre → isAt g ds k.val = true
  E : Below w.heap.size w W
theorem InvR.own {g : GrpD} {ds : List RecD} {A : Option Addr} {n cap : Nat} {w : World} {G ns N : Nat} (hN : w.heap.size ≤ N) : OwnFrom N (fun pre W => InvR g ds A n cap w G ns pre W) := fun pre X Y row hs hg hr => by
  have hk := cellsK_own hg (fun r e => (hr r e).2)
  exact ⟨hk.box hs.D, hk.box hs.R4, hk.box hs.R5, hk.box hs.R6, hs.K.cells hk, hs.all, ownFrom_below (β := Unit) (Nat.le_refl _) hN () X Y row hs.E hg hr⟩
theorem InvR.later {g : GrpD} {ds : List RecD} {A : Option Addr} {n cap : Nat} {w : World} {G ns : Nat} {pre : List (Fin ds.length)} {W W' : World} (h : InvR g ds A n cap w G ns pre W) (hb : Below W.heap.size W W') : InvR g ds A n cap w G ns pre W' :=
  ⟨h.D.later hb h.D.lt, h.R4.later hb h.R4.lt, h.R5.later hb h.R5.lt, h.R6.later hb h.R6.lt, RegsOwn.later keepsLE h.K hb, h.all, bel_trans h.E hb⟩
theorem InvR.put {g : GrpD} {ds : List RecD} {A : Option Addr} {n cap : Nat} {w : World} {G ns : Nat} {pre pre' : List (Fin ds.length)} {W W' : World} (h : InvR g ds A n cap w G ns pre W) (ht : Turns (· = G) W W') (hG : w.heap.size + 1 + 1 < G) (hK : RegsOwn LieE W' G G (shI g ds pre')) (hall : ∀ k, k ∈ pre' → isAt g ds k.val = true) : InvR g ds A n cap w G ns pre' W' :=
  ⟨h.D.turn ht (by omega), h.R4.turn ht (by omega), h.R5.turn ht (by omega), h.R6.turn ht (by omega), hK, hall, ht.below h.E (fun i e => by omega)⟩
/-- A round that goes on: what it keeps. -/
theorem turns_row5 (w2 : World) (G : Nat) {o0 o1 o2 o3 o4 : Nat} (x0 x1 x2 x3 x4 : Value) : Turns (· = G) w2 (((((w2.setCell ⟨G, o0, none⟩ x0).setCell ⟨G, o1, none⟩ x1).setCell ⟨G, o2, none⟩ x2).setCell ⟨G, o3, none⟩ x3).setCell ⟨G, o4, none⟩ x4) :=
  ((((turns_cell5 w2 G _ _).trans (turns_cell5 _ G _ _)).trans (turns_cell5 _ G _ _)).trans (turns_cell5 _ G _ _)).trans (turns_cell5 _ G _ _)
/-- A round that left. -/
structure OutR (g : GrpD) (ds : List RecD) (w : World) (W : World) : Prop where
  no : ∃ k : Fin ds.length, isAt g ds k.val = false
  res : ∃ E0, Box W (w.heap.size + 1) 30 #[.slice (some ⟨E0, 0, none⟩) 0 0] ∧ Box W (w.heap.size + 1 + 1) 4 #[.bool false] ∧ RegsOwn LieE W E0 E0 [] ∧ w.heap.size ≤ E0
  E : Below w.heap.size w W
theorem OutR.own {g : GrpD} {ds : List RecD} {w : World} {N : Nat} (hN : w.heap.size ≤ N) {β : Type} (p : β → Prop) : OwnFrom N (fun s W => p s ∧ OutR g ds w W) := fun s X Y row hs hg hr => by
  have hk := cellsK_own hg (fun r e => (hr r e).2)
  obtain ⟨E0, h1, h2, h3, h4⟩ := hs.2.res
  exact ⟨hs.1, hs.2.no, ⟨E0, hk.box h1, hk.box h2, h3.cells hk, h4⟩, ownFrom_below (β := Unit) (Nat.le_refl _) hN () X Y row hs.2.E hg hr⟩
theorem totC_len (ds : List RecD) : ds.length ≤ totC ds := by
  unfold totC
  induction ds with
  | nil => exact Nat.zero_le _
  | cons d ds ih => simp only [List.map_cons, List.sum_cons, List.length_cons]; omega
theorem keepsFrom_below {N : Nat} {W W' : World} (h : Below W.heap.size W W') : KeepsFrom N W W' := ⟨h.size, fun k _ _ hk _ => (h.block k (Array.getElem?_eq_some_iff.1 hk).1).trans hk⟩
/-- The frame in which a round's body runs. -/
def frmR (g : GrpD) (ds : List RecD) (A : Option Addr) (n cap : Nat) (LA : Option Addr) (ln lc : Nat) (L : Nat → Option Addr) (m mc : Nat → Nat) (w : World) (G ns B : Nat) (x : Fin ds.length) (Bx : Nat) : Act :=
  { tmps := #[.agg #[.int .i64 g.s, .int .i64 g.l, .int .i64 g.c, .int .i64 g.sh, .slice A n cap], .slice LA ln lc, .pointer (some ⟨w.heap.size, 0, none⟩), undef, .pointer (some ⟨w.heap.size + 1, 0, none⟩), .pointer (some ⟨w.heap.size + 1 + 1, 0, none⟩), .pointer (some ⟨G + 1, 0, none⟩), .pointer (some ⟨Bx, 0, none⟩), .bool (isAt g ds x.val), .agg #[.int .i64 g.s, .int .i64 g.l, .int .i64 g.c, .int .i64 g.sh, .slice A n cap], .bool true, .bool false, undef, .pointer (some ⟨w.heap.size, 3, none⟩), .int .i64 ns, .slice (some ⟨G, 0, none⟩) ns ns, .agg #[.int .i64 g.s, .int .i64 g.l, .int .i64 g.c, .int .i64 g.sh, .slice A n cap], .slice LA ln lc, .func (.func 107) #[] #[.pointer (some ⟨B + 1, 0, none⟩), .pointer (some ⟨B, 0, none⟩)], .agg (cellsC ds[x.val] (L x.val) (m x.val) (mc x.val)), .bool (isAt g ds x.val), undef, undef, undef, undef, undef, undef, undef, undef, undef, undef, undef, undef, undef, undef, undef, undef], defers := [] }

set_option maxRecDepth 100000 in
set_option maxHeartbeats 16000000 in
theorem replayed_is (g : GrpD) (ds : List RecD) (A : Option Addr) (n cap : Nat) (LA : Option Addr) (ln lc : Nat) (w : World) (hm : n ≤ maxLen) (hgr : Row w w.heap.size A n g.zs) (hds : RecsF ds w (· < w.heap.size) LA ln) (htot : totC ds ≤ 1048576) :
    Calls Tryz.prog 13 #[.agg #[.int .i64 g.s, .int .i64 g.l, .int .i64 g.c, .int .i64 g.sh, .slice A n cap], .slice LA ln lc] w (MadeReps LieE (replD g ds).1 (replD g ds).2 w) := by
  refine (callsIn_wide (n := 3)).1 ?_
  refine callsIn_of_wp_marks Tryz.func13 rfl trivial ?_ rfl
  simp only [Tryz.ntmps13, List.size_toArray, List.length_cons, List.length_nil, Nat.reduceAdd, Nat.reduceSub, Array.replicate_succ, Array.replicate_zero, List.push_toArray, List.append_toArray, List.nil_append, List.cons_append]
  have E := bel_trans (bel_trans (bel_alloc w (.cells #[.int .i64 g.s, .int .i64 g.l, .int .i64 g.c, .int .i64 g.sh, .slice A n cap] 26)) (bel_alloc _ (.cells #[.slice none 0 0] 30))) (bel_alloc _ (.cells #[.bool false] 4))
  have D := ((Box.new w 26 #[.int .i64 g.s, .int .i64 g.l, .int .i64 g.c, .int .i64 g.sh, .slice A n cap]).alloc (.cells #[.slice none 0 0] 30)).alloc (.cells #[.bool false] 4)
  have R4 := (Box.new (w.alloc (.cells #[.int .i64 g.s, .int .i64 g.l, .int .i64 g.c, .int .i64 g.sh, .slice A n cap] 26)) 30 #[.slice none 0 0]).alloc (.cells #[.bool false] 4)
  have R5 := Box.new ((w.alloc (.cells #[.int .i64 g.s, .int .i64 g.l, .int .i64 g.c, .int .i64 g.sh, .slice A n cap] 26)).alloc (.cells #[.slice none 0 0] 30)) 4 #[.bool false]
  simp only [World.size_alloc] at R4 R5
  have HR := Lib.hid (RowF.later hgr.all E)
  have HD := Lib.hid (hds.later E)
  have HM := Lib.hid hm
  have HL := Lib.hid hds.1
  have HT := Lib.hid htot
  have HRW := Lib.hid hgr.all
  obtain ⟨L, m, mc, hVw⟩ := hds.vals
  have HVW := Lib.hid hVw
  clear hgr hds hm htot hVw
  gi_upto_region 1 with fail
  generalize (((w.alloc _).alloc _).alloc _ : World) = w0 at D E R4 R5 HR HD ⊢
  obtain ⟨g0, g1, g2, g3, g4⟩ := D.five
  rcases hok : okG g with _ | _
  · skip
    have hrep := Lib.hid (show replD g ds = ([], false) from by unfold replD; rw [hok]; rfl)
    have HO := Lib.hid hok
    clear hok
    gi_upto_region 2 with (refine ⟨trivial, ?_⟩; gi_at_call 60; refine (callsIn_wide.2 (groupB_is (show okB g.s g.l g.c g.sh g.zs = _ from HO.out) A n cap w0 HM.out HR.out.1)).mono ?_; rintro e w1 ⟨rfl, hb⟩)
    have E1 := bel_trans E hb
    have K := (regs_none LieE w1).low E1.size
    clear g0 g1 g2 g3 g4 D HR HD E
    replace R4 := R4.later hb R4.lt
    replace R5 := R5.later hb R5.lt
    have hz := R5.lt
    clear hb
    have E2 := bel_trans E1 (bel_alloc w1 (.cells #[] 40))
    replace R4 := R4.alloc (.cells #[] 40)
    replace R5 := R5.alloc (.cells #[] 40)
    have f4 := R4.frozen 0
    have f5 := R5.frozen 0
    have c4 : (w1.alloc (.cells #[] 40)).cell? ⟨w.heap.size + 1, 0, none⟩ = some (.slice none 0 0) := R4.cell 0
    have c5 : (w1.alloc (.cells #[] 40)).cell? ⟨w.heap.size + 1 + 1, 0, none⟩ = some (.bool false) := R5.cell 0
    replace K := (regs_none LieE w1)
    gi_wp2
    refine ⟨_, results_cells2 Tryz.results13 _ _ rfl rfl (load_oneR (cell_set_other (cell_set_self c4) (by omega))) (load_oneB (cell_set_self (cell_set_other c5 (by omega)))), ?_⟩
    rw [hrep.out]
    exact ⟨w1.heap.size, 0, rfl, (RegsOwn.turn keepsLE (RegsOwn.turn keepsLE K (turns_cell5 _ (w.heap.size + 1) 0 _) (fun b e => by omega)) (turns_cell5 _ (w.heap.size + 1 + 1) 0 _) (fun b e => by omega)).low E1.size, (turns_cell5 _ (w.heap.size + 1 + 1) 0 _).below ((turns_cell5 _ (w.heap.size + 1) 0 _).below E2 (fun i e => by omega)) (fun i e => by omega)⟩
  obtain ⟨hs1, hs4⟩ := okB_sh hok
  obtain ⟨ns, hns⟩ : ∃ ns : Nat, g.sh = (ns : Int) := ⟨g.sh.toNat, by omega⟩
  have hnn : g.sh.toNat = ns := by omega
  have hns1 : ns ≤ 4 := by omega
  have hmk := fun W => run_make_regs (P := Tryz.prog) 30 40 Tryz.underlying30 Tryz.infoReg9 ns (by omega) W
  have HO := Lib.hid hok
  have HN := Lib.hid hnn
  have HS := Lib.hid hns
  clear hok hnn hns hs1 hs4
  gi_upto_region 3 with (refine ⟨trivial, ?_⟩; gi_at_call 60; refine (callsIn_wide.2 (groupB_is (show okB g.s g.l g.c g.sh g.zs = _ from HO.out) A n cap w0 HM.out HR.out.1)).mono ?_; rintro e w1 ⟨rfl, hb⟩)
  have E1 := bel_trans E hb
  have D1 := D.later hb D.lt
  have gn3 : w1.cell? ⟨w.heap.size, 3, none⟩ = some (.int .i64 (ns : Int)) := (D1.cell 3).trans (by rw [← HS.out]; rfl)
  replace HR := Lib.hid (RowF.later HR.out hb)
  replace HD := Lib.hid (HD.out.later hb)
  replace R4 := R4.later hb R4.lt
  replace R5 := R5.later hb R5.lt
  have hz5 := R5.lt
  clear g0 g1 g2 g3 g4 hb E D
  have K0 := regs_new LieE zeroE w1 ns
  have hb1 := bel_alloc w1 (.cells (madeCells #[.int .i64 0, .int .i64 0, .int .i64 0, .slice none 0 0, .slice none 0 0] (ns * 5)) 40)
  have hb2 := bel_alloc (w1.alloc (.cells (madeCells #[.int .i64 0, .int .i64 0, .int .i64 0, .slice none 0 0, .slice none 0 0] (ns * 5)) 40)) (.cells #[.slice (some ⟨w1.heap.size, 0, none⟩) ns ns] 30)
  have R6 := Box.new (w1.alloc (.cells (madeCells #[.int .i64 0, .int .i64 0, .int .i64 0, .slice none 0 0, .slice none 0 0] (ns * 5)) 40)) 30 #[.slice (some ⟨w1.heap.size, 0, none⟩) ns ns]
  rw [World.size_alloc] at R6
  have K := RegsOwn.later keepsLE K0 hb2
  have hb3 := bel_trans hb1 hb2
  have D2 := D1.later hb3 D1.lt
  have E2 := bel_trans E1 hb3
  replace HR := Lib.hid (RowF.later HR.out hb3)
  replace HD := Lib.hid (HD.out.later hb3)
  replace R4 := R4.later hb3 R4.lt
  replace R5 := R5.later hb3 R5.lt
  have hVG : w.heap.size + 1 + 1 < w1.heap.size := hz5
  gi_upto_region 4 with fail
  clear gn3 hmk hb1 hb2 hb3 D1 K0 E1
  generalize ((w1.alloc (.cells (madeCells #[.int .i64 0, .int .i64 0, .int .i64 0, .slice none 0 0, .slice none 0 0] (ns * 5)) 40)).alloc _ : World) = w2 at K R4 R5 R6 D2 E2 HR HD ⊢
  generalize w1.heap.size = G at K R6 hVG ⊢
  obtain ⟨g0, g1, g2, g3, g4⟩ := D2.five
  gi_wp2_with (refine ⟨trivial, ?_⟩; gi_at_call 61; refine (callsIn_wide.2 (recsOf_is g A n cap LA ln lc _)).mono ?_; rintro e w' ⟨rfl, rfl⟩)
  clear g0 g1 g2 g3 g4
  have hb0 : Below w2.heap.size w2 ((w2.alloc (.cells #[.int .i64 g.s, .int .i64 g.l, .int .i64 g.c, .int .i64 g.sh, .slice A n cap] 26)).alloc (.cells #[.slice LA ln lc] 27)) := bel_trans (bel_alloc w2 (.cells #[.int .i64 g.s, .int .i64 g.l, .int .i64 g.c, .int .i64 g.sh, .slice A n cap] 26)) (bel_alloc (w2.alloc (.cells #[.int .i64 g.s, .int .i64 g.l, .int .i64 g.c, .int .i64 g.sh, .slice A n cap] 26)) (.cells #[.slice LA ln lc] 27))
  have X2 := (Box.new w2 26 #[.int .i64 g.s, .int .i64 g.l, .int .i64 g.c, .int .i64 g.sh, .slice A n cap]).alloc (.cells #[.slice LA ln lc] 27)
  have X1 := Box.new (w2.alloc (.cells #[.int .i64 g.s, .int .i64 g.l, .int .i64 g.c, .int .i64 g.sh, .slice A n cap] 26)) 27 #[.slice LA ln lc]
  rw [World.size_alloc] at X1
  have hGB := R6.lt
  have IV : InvR g ds A n cap w G ns [] w2 := ⟨D2, R4, R5, R6, by unfold shI; rw [List.foldl_nil, HN.out]; exact K, fun k hk => (by cases hk), E2⟩
  replace IV := IV.later hb0
  replace HR := Lib.hid (RowF.later HR.out hb0)
  replace HD := Lib.hid (HD.out.later hb0)
  have hV := HVW.out.turn (T := fun _ => False) (Turns.of_below IV.E) (fun _ _ h => h)
  have hsB := hb0.size
  have hEs := E2.size
  have hx1 := X1.lt
  clear D2 R4 R5 R6 K E2 HD hb0
  generalize (((w2.alloc (.cells #[.int .i64 g.s, .int .i64 g.l, .int .i64 g.c, .int .i64 g.sh, .slice A n cap] 26)).alloc (.cells #[.slice LA ln lc] 27)) : World) = W0 at X1 X2 IV HR hV hsB hx1 ⊢
  generalize w2.heap.size = B at X1 X2 hGB hsB hEs hx1 ⊢
  have hGw : w.heap.size ≤ G := by omega
  have hmk4 : ∀ k, k < ds.length → m k ≤ 4194304 := fun k hk => by
    by_cases h0 : 0 < ln
    · obtain ⟨b, o, -, -, -, hc⟩ := hV.2 h0
      have h1 : (ds[k]).ps.length = m k := (hc k hk).2.2.1.1
      have h2 := totC_mem ds hk
      have h3 := HT.out
      omega
    · have := HL.out
      omega
  have hln : ln ≤ 1048576 := by
    have h := totC_len ds
    have h1 := HL.out
    have h2 := HT.out
    omega
  refine wpIn_rangeFunc_ownH rfl (by decide) (gf := 107) (lb := #[.pointer (some ⟨B + 1, 0, none⟩), .pointer (some ⟨B, 0, none⟩)]) rfl trivial (enters_of Tryz.func107 (by kernel_rfl) rfl)
    (recsIter_stops g ds A n cap LA ln lc L m mc (B + 1) B G W0.heap.size (· < w.heap.size) W0 (by omega) (by omega) (fun b hb => ⟨by omega, by omega⟩) X1 X2 HM.out HR.out hV hln hmk4) (fun h k => h.trans k) (fun W l o o' hl h hc _ => keepC_put W l o o' hl h hc) (Below.refl _ _) (fun _ => rfl)
    (fun pre W => InvR g ds A n cap w G ns pre W) (fun c _ W => c = .ret ∧ OutR g ds w W) (InvR.own (by omega)) (fun c => OutR.own (by omega) (fun _ => c = .ret)) IV
    (fun x a' W => ∃ Bx, G + 1 < Bx ∧ Box W Bx 42 (cellsC ds[x.val] (L x.val) (m x.val) (mc x.val)) ∧ a' = frmR g ds A n cap LA ln lc L m mc w G ns B x Bx)
    (fun x a' _ X Y row hs hg hr => by obtain ⟨Bx, h1, h2, h3⟩ := hs; exact ⟨Bx, h1, (cellsK_own hg (fun r e => (hr r e).2)).box h2, h3⟩)
    ?assign ?body ?done ?stop
  case assign =>
    rintro l pre x W K hi hK
    simp only [encC]
    have ZB := Box.new W 42 #[.int .i64 0, .int .i64 0, .int .i64 0, .int .i64 0, .int .i64 0, .int .i64 0, .int .i64 0, .slice none 0 0, .int .i64 0]
    have hn := bel_new_row W #[.int .i64 0, .int .i64 0, .int .i64 0, .int .i64 0, .int .i64 0, .int .i64 0, .int .i64 0, .slice none 0 0, .int .i64 0] 42 (cellsC ds[x.val] (L x.val) (m x.val) (mc x.val))
    have X := (Box.new W 42 #[.int .i64 0, .int .i64 0, .int .i64 0, .int .i64 0, .int .i64 0, .int .i64 0, .int .i64 0, .slice none 0 0, .int .i64 0]).setRow (cellsC ds[x.val] (L x.val) (m x.val) (mc x.val))
    have hlt := hi.R6.lt
    gi_wp2_with (refine wpListIn_store_row (fun _ => trivial) rfl 42 _ _ rfl W.heap.size (cellsC ds[x.val] (L x.val) (m x.val) (mc x.val)) rfl rfl 42 #[.int .i64 0, .int .i64 0, .int .i64 0, .int .i64 0, .int .i64 0, .int .i64 0, .int .i64 0, .slice none 0 0, .int .i64 0] ZB (by kernel_rfl) rfl (by simp [cellsC, Value.oneCell']) ?_)
    exact hK _ _ (keepsFrom_below hn) (KeepC.of_below hn) (hi.later hn) ⟨W.heap.size, hlt, X, rfl⟩
  case body =>
    rintro l pre x a' W hl - hi ⟨Bx, hBx, bX, rfl⟩ hlt
    unfold frmR
    obtain ⟨z, hz⟩ : ∃ z, isAt g ds x.val = z := ⟨_, rfl⟩
    rw [hz]
    rcases z with _ | _
    · skip
      have R4 := hi.R4.alloc (.cells #[] 40)
      have R5 := hi.R5.alloc (.cells #[] 40)
      have f4 := R4.frozen 0
      have f5 := R5.frozen 0
      have c4 : (W.alloc (.cells #[] 40)).cell? ⟨w.heap.size + 1, 0, none⟩ = some (.slice none 0 0) := R4.cell 0
      have c5 : (W.alloc (.cells #[] 40)).cell? ⟨w.heap.size + 1 + 1, 0, none⟩ = some (.bool false) := R5.cell 0
      have HI := Lib.hid hi
      have HZ := Lib.hid hz
      have hz5 := hi.R5.lt
      clear hi hz
      gi_wp2
      have hb := bel_alloc W (.cells #[] 40)
      have t1 := turns_cell5 (W.alloc (.cells #[] 40)) (w.heap.size + 1) 0 (.slice (some ⟨W.heap.size, 0, none⟩) 0 0)
      have t2 := turns_cell5 ((W.alloc (.cells #[] 40)).setCell ⟨w.heap.size + 1, 0, none⟩ (.slice (some ⟨W.heap.size, 0, none⟩) 0 0)) (w.heap.size + 1 + 1) 0 (.bool false)
      refine ⟨((keepsFrom_below hb).trans ((KeepsOthers.setCell _ _ _).from _)).trans ((KeepsOthers.setCell _ _ _).from _), rfl, ⟨⟨x, HZ.out⟩, ⟨W.heap.size, ?_, ?_, ?_, ?_⟩, ?_⟩⟩
      · exact (R4.set 0 (.slice (some ⟨W.heap.size, 0, none⟩) 0 0)).turn t2 (by omega)
      · exact (R5.turn t1 (by omega)).set 0 (.bool false)
      · exact RegsOwn.turn keepsLE (RegsOwn.turn keepsLE (regs_none LieE W) t1 (fun b e => by omega)) t2 (fun b e => by omega)
      · exact HI.out.E.size
      · exact t2.below (t1.below (bel_trans HI.out.E hb) (fun i e => by omega)) (fun i e => by omega)
    have hAt := isAt_lt (g := g) x.isLt
    have hVx := HVW.out.2 (by have := x.isLt; have := HL.out; omega)
    obtain ⟨b, o, -, -, -, hcell⟩ := hVx
    obtain ⟨-, -, hps⟩ := hcell x.val x.isLt
    clear hcell
    have hsz := shI_sz g ds (M := 1048576) (fun k hk => by have := totC_mem ds hk; have := HT.out; omega) pre
    have hmx := hmk4 x.val x.isLt
    have hsn := shI_snoc g ds pre x
    obtain ⟨d, hd⟩ : ∃ d : RecD, ds[x.val] = d := ⟨_, rfl⟩
    rw [hd] at hAt hps hsn bX ⊢
    obtain ⟨Lk, hLk⟩ : ∃ y, L x.val = y := ⟨_, rfl⟩
    obtain ⟨mk, hmkk⟩ : ∃ y, m x.val = y := ⟨_, rfl⟩
    obtain ⟨mck, hmck⟩ : ∃ y, mc x.val = y := ⟨_, rfl⟩
    rw [hLk, hmkk] at hps
    rw [hLk, hmkk, hmck] at bX ⊢
    rw [hmkk] at hmx
    rw [hz] at hAt
    have hrk : rokD g d = true := by
      have h := hAt.symm
      rw [Bool.and_eq_true] at h
      exact h.2
    obtain ⟨hr0, hr1, -, -⟩ := rok_shelf hrk
    obtain ⟨i, hi3⟩ : ∃ i : Nat, d.r3 = (i : Int) := ⟨d.r3.toNat, by omega⟩
    have hin : i < ns := by have := HS.out; omega
    have hit : d.r3.toNat = i := by omega
    have hil : i < (shI g ds pre).length := by rw [shI_len, HN.out]; exact hin
    replace hsz := hsz i
    rw [regOf_lt hil] at hsz
    unfold stepR at hsn
    rw [hit, regOf_lt hil] at hsn
    have hpl : pre.length ≤ 1048576 := by have := HL.out; omega
    obtain ⟨r, hr⟩ : ∃ r : RegD, (shI g ds pre)[i] = r := ⟨_, rfl⟩
    rw [hr] at hsz hsn
    obtain ⟨u0, v0, c0, c1, c2, c3, c4, hA⟩ := hreg keepsLE hi.K hil
    rw [hr] at c0 c1 c2 hA
    obtain ⟨P, p, pc, Q, q, qc, rfl, rfl, hS1, hS2, hl1, hl2⟩ := hA.slc
    unfold cellsC at bX ⊢
    rw [hi3] at bX ⊢
    have HPw := Lib.hid (hps.1.later hi.E)
    have HRx := Lib.hid ((RowF.later HRW.out hi.E)).1
    have HI := Lib.hid hi
    have HSN := Lib.hid hsn
    have HSZ := Lib.hid hsz
    have HI3 := Lib.hid hi3
    have HZ := Lib.hid hz
    have HS1 := Lib.hid hS1
    have HS2 := Lib.hid hS2
    have HL1 := Lib.hid hl1
    have HL2 := Lib.hid hl2
    have hltI : (i : Int) < (ns : Int) := by omega
    have S6 := hi.R6
    have SD := hi.D
    clear hi hsn hsz hi3 hz hS1 hS2 hl1 hl2 hA hd hLk hmkk hmck hps hr0 hr1 hit hAt hrk hr
    gi_upto_region 9 with fail
    have hb := (Below.refl W.heap.size W).drew
    have hgG : G < W.heap.size := by have := S6.lt; omega
    refine wpIn_region_sink 12 (fun w' => Box w' Bx 42 #[.int .i64 d.r1, .int .i64 d.r2, .int .i64 (i : Int), .int .i64 d.r4, .int .i64 d.r5, .int .i64 d.r6, .int .i64 d.r7, .slice Lk mk mck, .int .i64 d.r8] ∧ Box w' w.heap.size 26 #[.int .i64 g.s, .int .i64 g.l, .int .i64 g.c, .int .i64 g.sh, .slice A n cap] ∧ Box w' (G + 1) 30 #[.slice (some ⟨G, 0, none⟩) ns ns] ∧ w'.cell? ⟨G, i * 5, none⟩ = some (.int .i64 r.t) ∧ w'.cell? ⟨G, i * 5 + 1, none⟩ = some (.int .i64 r.q) ∧ w'.cell? ⟨G, i * 5 + 2, none⟩ = some (.int .i64 r.v) ∧ w'.cell? ⟨G, i * 5 + 3, none⟩ = some (.slice P p pc) ∧ w'.cell? ⟨G, i * 5 + 4, none⟩ = some (.slice Q q qc)) (by kernel_rfl) ⟨bX.later hb bX.lt, SD.later hb SD.lt, S6.later hb S6.lt, c0, c1, c2, c3, c4⟩ (fun hH => ?_)
    have HB := Lib.hid hb
    replace HI := Lib.hid (HI.out.later hb)
    replace HPw := Lib.hid (HPw.out.later hb)
    replace HRx := Lib.hid ((HRx.out.below hb (Nat.le_refl _)).more hb.size)
    replace HS1 := Lib.hid (HS1.out.later hb)
    replace HS2 := Lib.hid (HS2.out.later hb)
    clear hb bX SD S6 c0 c1 c2 c3 c4
    generalize W.drew = w3 at HI HB HPw HRx HS1 HS2 hH ⊢
    refine wpAnyEI_takeP [] (plain_of (fun _ => trivial) (by kernel_rfl)) (i := 0) (v := .slice (some ⟨G, 0, none⟩) ns ns) (by simp only [List.getElem?_toArray, List.getElem?_cons_zero]; rfl) (by kernel_rfl) (by kernel_rfl) (by kernel_rfl) (by exact fun _ _ _ h => h) (by kernel_rfl) (Or.inl ⟨(by first | rfl | simp [Region.wanted, yielded] | (simp [Region.wanted, yielded, Act.put] <;> omega)), ?y0⟩) hH ?_
    case y0 => (intro w' hSw; have h0 : w'.cell? ⟨G + 1, 0, none⟩ = some (.slice (some ⟨G, 0, none⟩) ns ns) := hSw.2.2.1.cell 0; clear hSw; go_simp; try with_reducible rfl)
    try simp only [Act.put, List.setIfInBounds_toArray, List.set_cons_zero, List.set_cons_succ]
    refine wpAnyEI_pure (plain_of (fun _ => trivial) (by kernel_rfl)) (i := 1) (v := ?vu1_1) (by simp only [List.getElem?_toArray, List.getElem?_cons_succ, List.getElem?_cons_zero]; rfl) (by kernel_rfl) (by kernel_rfl) (by kernel_rfl) (by exact fun _ _ _ h => h) (by kernel_rfl) (Or.inl ⟨by rfl, ?yu1_1⟩) hH ?_
    case yu1_1 => (intro w' hSw; (try dsimp only at hSw); clear hSw; go_simp; try with_reducible rfl)
    try simp only [Act.put, List.setIfInBounds_toArray, List.set_cons_zero, List.set_cons_succ]
    refine wpAnyEI_takeP [] (plain_of (fun _ => trivial) (by kernel_rfl)) (i := 2) (v := .int .i64 (i : Int)) (by simp only [List.getElem?_toArray, List.getElem?_cons_succ, List.getElem?_cons_zero]; rfl) (by kernel_rfl) (by kernel_rfl) (by kernel_rfl) (by exact fun _ _ _ h => h) (by kernel_rfl) (Or.inl ⟨(by first | rfl | simp [Region.wanted, yielded] | (simp [Region.wanted, yielded, Act.put] <;> omega)), ?y2⟩) hH ?_
    case y2 => (intro w' hSw; have h2 : w'.cell? ⟨Bx, 2, none⟩ = some (.int .i64 (i : Int)) := hSw.1.cell 2; clear hSw; go_simp; try with_reducible rfl)
    try simp only [Act.put, List.setIfInBounds_toArray, List.set_cons_zero, List.set_cons_succ]
    refine wpAnyEI_takeP [] (plain_of (fun _ => trivial) (by kernel_rfl)) (i := 3) (v := .agg #[.int .i64 d.r1, .int .i64 d.r2, .int .i64 (i : Int), .int .i64 d.r4, .int .i64 d.r5, .int .i64 d.r6, .int .i64 d.r7, .slice Lk mk mck, .int .i64 d.r8]) (by simp only [List.getElem?_toArray, List.getElem?_cons_succ, List.getElem?_cons_zero]; rfl) (by kernel_rfl) (by kernel_rfl) (by kernel_rfl) (by exact fun _ _ _ h => h) (by kernel_rfl) ?y3 hH ?_
    case y3 => exact yields_box 42 _ rfl (Bx) rfl 42 #[.int .i64 d.r1, .int .i64 d.r2, .int .i64 (i : Int), .int .i64 d.r4, .int .i64 d.r5, .int .i64 d.r6, .int .i64 d.r7, .slice Lk mk mck, .int .i64 d.r8] (fun _ h => h.1) _ Tryz.underlying42 rfl (by kernel_rfl) (by first | rfl | simp [Region.wanted, yielded] | (simp [Region.wanted, yielded, Act.put] <;> omega))
    try simp only [Act.put, List.setIfInBounds_toArray, List.set_cons_zero, List.set_cons_succ]
    refine wpAnyEI_takeP [] (plain_of (fun _ => trivial) (by kernel_rfl)) (i := 4) (v := .agg #[.int .i64 g.s, .int .i64 g.l, .int .i64 g.c, .int .i64 g.sh, .slice A n cap]) (by simp only [List.getElem?_toArray, List.getElem?_cons_succ, List.getElem?_cons_zero]; rfl) (by kernel_rfl) (by kernel_rfl) (by kernel_rfl) (by exact fun _ _ _ h => h) (by kernel_rfl) ?y4 hH ?_
    case y4 => exact yields_box 26 _ rfl (w.heap.size) rfl 26 #[.int .i64 g.s, .int .i64 g.l, .int .i64 g.c, .int .i64 g.sh, .slice A n cap] (fun _ h => h.2.1) _ Tryz.underlying26 rfl (by kernel_rfl) (by first | rfl | simp [Region.wanted, yielded] | (simp [Region.wanted, yielded, Act.put] <;> omega))
    try simp only [Act.put, List.setIfInBounds_toArray, List.set_cons_zero, List.set_cons_succ]
    refine wpAnyEI_takeP [] (plain_of (fun _ => trivial) (by kernel_rfl)) (i := 5) (v := .slice (some ⟨G, 0, none⟩) ns ns) (by simp only [List.getElem?_toArray, List.getElem?_cons_succ, List.getElem?_cons_zero]; rfl) (by kernel_rfl) (by kernel_rfl) (by kernel_rfl) (by exact fun _ _ _ h => h) (by kernel_rfl) (Or.inl ⟨(by first | rfl | simp [Region.wanted, yielded] | (simp [Region.wanted, yielded, Act.put] <;> omega)), ?y5⟩) hH ?_
    case y5 => (intro w' hSw; have h0 : w'.cell? ⟨G + 1, 0, none⟩ = some (.slice (some ⟨G, 0, none⟩) ns ns) := hSw.2.2.1.cell 0; clear hSw; go_simp; try with_reducible rfl)
    try simp only [Act.put, List.setIfInBounds_toArray, List.set_cons_zero, List.set_cons_succ]
    refine wpAnyEI_pure (plain_of (fun _ => trivial) (by kernel_rfl)) (i := 6) (v := ?vu6_2) (by simp only [List.getElem?_toArray, List.getElem?_cons_succ, List.getElem?_cons_zero]; rfl) (by kernel_rfl) (by kernel_rfl) (by kernel_rfl) (by exact fun _ _ _ h => h) (by kernel_rfl) (Or.inl ⟨by rfl, ?yu6_2⟩) hH ?_
    case yu6_2 => (intro w' hSw; (try dsimp only at hSw); clear hSw; go_simp; try with_reducible rfl)
    try simp only [Act.put, List.setIfInBounds_toArray, List.set_cons_zero, List.set_cons_succ]
    refine wpAnyEI_takeP [] (plain_of (fun _ => trivial) (by kernel_rfl)) (i := 7) (v := .int .i64 (i : Int)) (by simp only [List.getElem?_toArray, List.getElem?_cons_succ, List.getElem?_cons_zero]; rfl) (by kernel_rfl) (by kernel_rfl) (by kernel_rfl) (by exact fun _ _ _ h => h) (by kernel_rfl) (Or.inl ⟨(by first | rfl | simp [Region.wanted, yielded] | (simp [Region.wanted, yielded, Act.put] <;> omega)), ?y7⟩) hH ?_
    case y7 => (intro w' hSw; have h2 : w'.cell? ⟨Bx, 2, none⟩ = some (.int .i64 (i : Int)) := hSw.1.cell 2; clear hSw; go_simp; try with_reducible rfl)
    try simp only [Act.put, List.setIfInBounds_toArray, List.set_cons_zero, List.set_cons_succ]
    refine wpAnyEI_pure (plain_of (fun _ => trivial) (by kernel_rfl)) (i := 8) (v := ?vu8_3) (by simp only [List.getElem?_toArray, List.getElem?_cons_succ, List.getElem?_cons_zero]; rfl) (by kernel_rfl) (by kernel_rfl) (by kernel_rfl) (by exact fun _ _ _ h => h) (by kernel_rfl) (Or.inl ⟨by rfl, ?yu8_3⟩) hH ?_
    case yu8_3 => (intro w' hSw; (try dsimp only at hSw); clear hSw; go_simp; try with_reducible rfl)
    try simp only [Act.put, List.setIfInBounds_toArray, List.set_cons_zero, List.set_cons_succ]
    refine wpAnyEI_takeP [] (plain_of (fun _ => trivial) (by kernel_rfl)) (i := 9) (v := .agg #[.int .i64 r.t, .int .i64 r.q, .int .i64 r.v, .slice P p pc, .slice Q q qc]) (by simp only [List.getElem?_toArray, List.getElem?_cons_succ, List.getElem?_cons_zero]; rfl) (by kernel_rfl) (by kernel_rfl) (by kernel_rfl) (by exact fun _ _ _ h => h) (by kernel_rfl) (Or.inl ⟨(by first | rfl | simp [Region.wanted, yielded] | (simp [Region.wanted, yielded, Act.put] <;> omega)), ?y9⟩) hH ?_
    case y9 => (intro w' hSw; have k0 := hSw.2.2.2.1; have k1 := hSw.2.2.2.2.1; have k2 := hSw.2.2.2.2.2.1; have k3 := hSw.2.2.2.2.2.2.1; have k4 := hSw.2.2.2.2.2.2.2; clear hSw; go_simp; try with_reducible rfl)
    try simp only [Act.put, List.setIfInBounds_toArray, List.set_cons_zero, List.set_cons_succ]
    refine wpAnyEI_one (i := 10) (by kernel_rfl) (by simp only [List.getElem?_toArray, List.getElem?_cons_succ, List.getElem?_cons_zero]; rfl) (fun K' hK => ?_)
    have HH := Lib.hid hH
    clear hH
    have HON := Lib.hid (onto_is g d r A n cap Lk mk mck P p pc Q q qc w3 HM.out HRx.out hmx HPw.out HS1.out HS2.out (by have := HSZ.out; omega) (by have := HSZ.out; omega) HL1.out HL2.out)
    replace HON := Lib.hid (HI3.out ▸ HON.out)
    go_simp
    refine ⟨trivial, ?_⟩
    refine (CallsIn.inRound l (callsIn_wide.2 HON.out)).mono ?_
    rintro e w4 ⟨u', v', rfl, hL, hb⟩
    obtain ⟨DD, hDD⟩ : ∃ DD : RegD, ontoD g d r = DD := ⟨_, rfl⟩
    replace HSN := HSN.out
    rw [hDD] at hL HSN ⊢
    replace HSN := Lib.hid HSN
    clear hDD HON
    have hL := hL.lieE
    obtain ⟨A1, n1, c1', A2, n2', c2', rfl, rfl, -, -, -, -⟩ := hL.slc
    have K4 := Lib.hid (RegsOwn.put keepsLE HI.out.K hb hil hL)
    have fG : ∀ o, w4.frozen? ⟨G, o, none⟩ = false := by
      obtain ⟨_, Fs, h, _⟩ := RegsOwn.later keepsLE HI.out.K hb
      exact h.frozen
    have hG3 : G < w3.heap.size := by have := HB.out.size; omega
    have hcG : ∀ o y, w3.cell? ⟨G, o, none⟩ = some y → w4.cell? ⟨G, o, none⟩ = some y := fun o y h => (hb.cell (p := ⟨G, o, none⟩) hG3).trans h
    obtain ⟨q1, q2, q3, q4, q5, q6, q7, q8⟩ := HH.out
    have n0 := hcG _ _ q4
    have n1 := hcG _ _ q5
    have n2 := hcG _ _ q6
    have n3 := hcG _ _ q7
    have n4 := hcG _ _ q8
    have hI4 := Lib.hid (InvR.later HI.out hb)
    have hBW := Lib.hid (bel_trans HB.out hb)
    refine hK.out _ _ ⟨q1.later hb q1.lt, q2.later hb q2.lt, q3.later hb q3.lt, n0, n1, n2, n3, n4⟩ (fun hH => ?_)
    clear hK K' HH hb hcG q1 q2 q3 q4 q5 q6 q7 q8 hL HI HB
    try simp only [Act.put, List.setIfInBounds_toArray, List.set_cons_zero, List.set_cons_succ]
    refine wpAnyEI_pure (plain_of (fun _ => trivial) (by kernel_rfl)) (i := 11) (v := ?vu11_4) (by simp only [List.getElem?_toArray, List.getElem?_cons_succ, List.getElem?_cons_zero]; rfl) (by kernel_rfl) (by kernel_rfl) (by kernel_rfl) (by exact fun _ _ _ h => h) (by kernel_rfl) (Or.inl ⟨by rfl, ?yu11_4⟩) hH ?_
    case yu11_4 => (intro w' hSw; (try dsimp only at hSw); clear hSw; go_simp; try with_reducible rfl)
    try simp only [Act.put, List.setIfInBounds_toArray, List.set_cons_zero, List.set_cons_succ]
    refine wpAnyEI_last (by kernel_rfl) (by simp only [List.getElem?_toArray, List.getElem?_cons_succ, List.getElem?_cons_zero]; rfl) (by kernel_rfl) (fun K' hK => ?_)
    go_simp
    refine hK.out _ _ ?_
    clear hK K' hH
    try simp only [Act.put, List.setIfInBounds_toArray, List.set_cons_zero, List.set_cons_succ]
    clear n0 n1 n2 n3 n4 fG
    gi_wp2
    refine ⟨KeepsFrom.of_grownBy (grownG5 hBW.out G _ _ _ _ _) (fun j e => by cases e; omega), (KeepC.of_below hBW.out).trans (KeepC.of_turns (turns_row5 w4 G _ _ _ _ _) (fun i e => e)), hI4.out.put (turns_row5 w4 G _ _ _ _ _) hVG (by rw [HSN.out]; exact K4.out) (fun k hk => ?_)⟩
    rcases List.mem_append.1 hk with hk | hk
    · exact hI4.out.all k hk
    · rw [List.mem_singleton] at hk
      rw [hk]
      exact HZ.out
  case done =>
    rintro D' xs W hD rfl hi hK
    have c4 : W.cell? ⟨w.heap.size + 1, 0, none⟩ = some (.slice none 0 0) := hi.R4.cell 0
    have c5 : W.cell? ⟨w.heap.size + 1 + 1, 0, none⟩ = some (.bool false) := hi.R5.cell 0
    have f4 := hi.R4.frozen 0
    have f5 := hi.R5.frozen 0
    have c6 : W.cell? ⟨G + 1, 0, none⟩ = some (.slice (some ⟨G, 0, none⟩) ns ns) := hi.R6.cell 0
    have HI := Lib.hid hi
    have HK := Lib.hid hK
    clear hi hK
    gi_wp2
    have hK1 := (((KeepsOthers.setCell W ⟨w.heap.size + 1, 0, none⟩ (.slice (some ⟨G, 0, none⟩) ns ns)).trans (KeepsOthers.setCell _ ⟨w.heap.size + 1 + 1, 0, none⟩ (.bool true)))).same _ _ HK.out rfl
    refine ⟨by simp, .inl ⟨_, _, rfl, run_takeDeferred hK1, ?_⟩⟩
    have hg := grownBy_putObj' ((W.setCell ⟨w.heap.size + 1, 0, none⟩ (.slice (some ⟨G, 0, none⟩) ns ns)).setCell ⟨w.heap.size + 1 + 1, 0, none⟩ (.bool true)) D' (.deferred none)
    have hk := cellsK_own hg (fun r e => by cases e; exact ⟨_, hK1, rfl⟩)
    refine ⟨_, results_cells2 Tryz.results13 _ _ rfl rfl (load_oneR (hk.cell (cell_set_other (cell_set_self c4) (by omega)))) (load_oneB (hk.cell (cell_set_self (cell_set_other c5 (by omega))))), ?_⟩
    have hrep : replD g ds = (shelves g ds, true) := by
      unfold replD
      rw [HO.out, allAt_true (fun i hi => HI.out.all ⟨i, hi⟩ (List.mem_finRange _))]
      rfl
    have hsl : (shelves g ds).length = ns := by rw [shelves_len]; exact HN.out
    rw [hrep]
    have K1 := HI.out.K
    rw [shI_all] at K1
    have K2 := (RegsOwn.turn keepsLE (RegsOwn.turn keepsLE K1 (turns_cell5 _ (w.heap.size + 1) 0 (.slice (some ⟨G, 0, none⟩) ns ns)) (fun b e => by omega)) (turns_cell5 _ (w.heap.size + 1 + 1) 0 (.bool true)) (fun b e => by omega)).cells hk
    have hB := (turns_cell5 _ (w.heap.size + 1 + 1) 0 (.bool true)).below ((turns_cell5 W (w.heap.size + 1) 0 (.slice (some ⟨G, 0, none⟩) ns ns)).below HI.out.E (fun i e => by omega)) (fun i e => by omega)
    exact ⟨G, ns, by rw [hsl], K2.low hGw, hB.grown hg hB.size (fun k e => by cases e; omega)⟩
  case stop =>
    rintro D' c pre W hD hS ⟨rfl, ho⟩ hK
    gi_wp2
    refine ⟨by simp, .inl ⟨_, _, rfl, run_takeDeferred hK, ?_⟩⟩
    have hg := grownBy_putObj' W D' (.deferred none)
    have hk := cellsK_own hg (fun r e => by cases e; exact ⟨_, hK, rfl⟩)
    obtain ⟨E0, h1, h2, h3, h4⟩ := ho.res
    refine ⟨_, results_cells2 Tryz.results13 _ _ rfl rfl (load_oneR (hk.cell (h1.cell 0))) (load_oneB (hk.cell (h2.cell 0))), ?_⟩
    obtain ⟨k, hk0⟩ := ho.no
    have hrep : replD g ds = ([], false) := by unfold replD; rw [allAt_false k.isLt hk0, Bool.and_false]; rfl
    rw [hrep]
    exact ⟨E0, 0, rfl, (h3.cells hk).low h4, ho.E.grown hg ho.E.size (fun k e => by cases e; omega)⟩
end Go.Proofs.YtmooajppfjglaaaGreat

/- The laws' helpers over lists of records: the size, held against what is left; conditions: the sizes. -/
namespace Go.Proofs.YtmooajppfjglaaaGreat
open Go Go.RowKit

theorem totC_rest (ds : List RecD) (k : Nat) : totC (ds.take k) + (ds.length - k) ≤ totC ds := by
  have h : totC (ds.take k) + totC (ds.drop k) = totC ds := by
    unfold totC
    rw [← List.sum_append, ← List.map_append, List.take_append_drop]
  have key : ∀ l : List RecD, l.length ≤ totC l := by
    intro l
    unfold totC
    induction l with
    | nil => exact Nat.zero_le _
    | cons d l ih => simp only [List.map_cons, List.sum_cons, List.length_cons]; omega
  have h2 := key (ds.drop k)
  rw [List.length_drop] at h2
  omega
theorem totC_zero (ds : List RecD) : totC (ds.take 0) = 0 := by simp [totC]
theorem RecsF.atC {ds : List RecD} {w : World} {F : Nat → Prop} {b o n : Nat} (h : RecsF ds w F (some ⟨b, o, none⟩) n) {k : Nat} (hk : k < ds.length) (hn : 0 < n) : ∃ L m mc, RecAt w b (o + k * 9) ds[k] (.slice L m mc) ∧ AtC ds[k] w F (.agg #[.int .i64 (ds[k]).r1, .int .i64 (ds[k]).r2, .int .i64 (ds[k]).r3, .int .i64 (ds[k]).r4, .int .i64 (ds[k]).r5, .int .i64 (ds[k]).r6, .int .i64 (ds[k]).r7, .slice L m mc, .int .i64 (ds[k]).r8]) := by
  obtain ⟨b', o', hA, -, -, hc⟩ := h.2 hn
  injection hA with hA
  injection hA with e1 e2
  subst e1 e2
  obtain ⟨L, m, mc, h1, h2, h3⟩ := hc k hk
  exact ⟨L, m, mc, h1, L, m, mc, rfl, h2, h3⟩

set_option maxRecDepth 100000 in
set_option maxHeartbeats 4000000 in
theorem sz_CS {ds : List RecD} {w : World} {F : Nat → Prop} {A : Option Addr} {n cap : Nat} {L : Int} (h : RecsF ds w F A n) (hm : n ≤ maxLen) (h0 : 0 ≤ L) (h1 : L ≤ 1048576) :
    Calls Tryz.prog 30 #[.slice A n cap, .int .i64 L] w fun e w' => Left L (totC ds) e ∧ Below w.heap.size w w' := by
  have HL := Lib.hid h.1
  have HH := Lib.hid h
  have HR := Lib.hid (totC_rest ds)
  have hw1 : IntKind.i64.wrap (L - (n : Int)) = L - (n : Int) := IntWalk.i64_in _ (by unfold maxLen at hm; omega)
  clear h
  go_enter Tryz.func30, Tryz.ntmps30
  by_cases hneg : L - (n : Int) < 0
  · go_wp2
    go_ret
    refine ⟨⟨-1, rfl, fun h => ?_, fun _ => by omega⟩, Below.refl _ _⟩
    have := HR.out 0
    have := HL.out
    omega
  · have hnn : n ≤ 1048576 := by omega
    go_wp2
    go_loopw [1, 5] (fun s i wr => ∃ k : Nat, k ≤ n ∧ i = .int .i64 k ∧ s = .int .i64 (L - n + k - totC (ds.take k)) ∧ totC (ds.take k) + n ≤ L + k ∧ Below w.heap.size w wr) (fun _ i _ => n - (intOf i).toNat)
    case atStart => exact ⟨0, Nat.zero_le _, rfl, by rw [totC_zero]; simp, by rw [totC_zero]; omega, Below.refl _ _⟩
    case round =>
      obtain ⟨k, hk, rfl, rfl, hs, hb⟩ := hrel
      by_cases hlt : k < n
      · have hkd : k < ds.length := by have := HL.out; omega
        have hD := HH.out.later hb
        obtain ⟨b, o, hA, -, hbl, -⟩ := hD.2 (by omega)
        subst hA
        obtain ⟨L', m, mc, hrec, hat⟩ := hD.atC hkd (by omega)
        have hsn := totC_snoc ds hkd
        have hrr := HR.out (k + 1)
        obtain ⟨d, hd⟩ : ∃ d : RecD, ds[k] = d := ⟨_, rfl⟩
        rw [hd] at hrec hat hsn
        have hll := HL.out
        obtain ⟨c0, c1, c2, c3, c4, c5, c6, c7, c8⟩ := hrec
        have hltI : (k : Int) < (n : Int) := by omega
        have hkw : IntKind.i64.wrap ((k : Int) + 1) = (k : Int) + 1 := IntWalk.i64_in _ (by omega)
        have hsz : d.sz = d.ps.length := rfl
        have HAT := Lib.hid hat
        have HSN := Lib.hid hsn
        have HRR := Lib.hid hrr
        have HLL := Lib.hid hll
        have HSZ := Lib.hid hsz
        clear hd hD hat hsn hrr hll hsz
        by_cases hover : L - n + k - totC (ds.take k) < d.sz
        · go_wp2_with (go_at_call 84; refine (sz_C HAT.out (by omega) (by omega)).mono ?_; rintro e w2 ⟨⟨v, rfl, -, hv⟩, hb2⟩; replace hv := hv (by omega))
          go_ret
          refine ⟨⟨-1, rfl, fun h => ?_, fun _ => by omega⟩, bel_trans hb hb2⟩
          have := HRR.out
          have := HSN.out
          have := HLL.out
          have := HSZ.out
          omega
        · go_wp2_with (go_at_call 84; refine (sz_C HAT.out (by omega) (by omega)).mono ?_; rintro e w2 ⟨⟨v, rfl, hv, -⟩, hb2⟩; replace hv := hv (by omega); have hv0 : ¬ v < 0 := by omega)
          go_roundw
          case rel => exact ⟨k + 1, by omega, by go_num, by rw [HSN.out, HSZ.out]; congr 1; omega, by rw [HSN.out]; have := HSZ.out; omega, bel_trans hb hb2⟩
          case measure => simp [intOf]; omega
      · have hkn : k = n := by omega
        subst hkn
        have hfull : ds.take k = ds := List.take_of_length_le (by have := HL.out; omega)
        rw [hfull] at hs ⊢
        go_wp2
        go_ret
        exact ⟨⟨_, rfl, fun _ => by omega, fun h => by omega⟩, hb⟩
theorem atAfter {d : RecD} {w : World} {F : Nat → Prop} {v : Value} (h : AtC d w F v) (pw : After w) : AtC d pw.x F v := (keepsC d).later h pw.bel
set_option maxRecDepth 100000 in
set_option maxHeartbeats 4000000 in
theorem eq_CS {ds : List RecD} {w : World} {F F' : Nat → Prop} {A A' : Option Addr} {n cap cap' : Nat} (h : RecsF ds w F A n) (h' : RecsF ds w F' A' n) (hz : totC ds ≤ 1048576) :
    Calls Tryz.prog 35 #[.slice A n cap, .slice A' n cap'] w fun e w' => e = .returned (.bool true) ∧ Below w.heap.size w w' := by
  have HL := Lib.hid h.1
  have HH := Lib.hid h
  have HH' := Lib.hid h'
  have hnn : n ≤ 1048576 := by have := totC_rest ds 0; rw [totC_zero] at this; have := h.1; omega
  have HZ := Lib.hid (fun k (hk : k < ds.length) => totC_mem ds hk)
  clear h h'
  go_enter Tryz.func35, Tryz.ntmps35
  go_wp2
  go_loopw [5] (fun i wr => ∃ k : Nat, k ≤ n ∧ i = .int .i64 k ∧ Below w.heap.size w wr) (fun i _ => n - (intOf i).toNat)
  case atStart => exact ⟨0, Nat.zero_le _, rfl, Below.refl _ _⟩
  case round =>
    obtain ⟨k, hk, rfl, hb⟩ := hrel
    by_cases hlt : k < n
    · have hkd : k < ds.length := by have := HL.out; omega
      have hD := HH.out.later hb
      have hD' := HH'.out.later hb
      obtain ⟨b, o, hA, -, hbl, -⟩ := hD.2 (by omega)
      obtain ⟨b', o', hA', -, hbl', -⟩ := hD'.2 (by omega)
      subst hA hA'
      obtain ⟨L, m, mc, hrec, hat⟩ := hD.atC hkd (by omega)
      obtain ⟨L', m', mc', hrec', hat'⟩ := hD'.atC hkd (by omega)
      have hzz := HZ.out k hkd
      obtain ⟨d, hd⟩ : ∃ d : RecD, ds[k] = d := ⟨_, rfl⟩
      rw [hd] at hrec hat hrec' hat' hzz
      have hsz : d.sz ≤ 1048576 := by unfold RecD.sz; omega
      obtain ⟨c0, c1, c2, c3, c4, c5, c6, c7, c8⟩ := hrec
      obtain ⟨k0, k1, k2, k3, k4, k5, k6, k7, k8⟩ := hrec'
      have f0 := After.cell hbl c0
      have f1 := After.cell hbl c1
      have f2 := After.cell hbl c2
      have f3 := After.cell hbl c3
      have f4 := After.cell hbl c4
      have f5 := After.cell hbl c5
      have f6 := After.cell hbl c6
      have f7 := After.cell hbl c7
      have f8 := After.cell hbl c8
      have e0 := After.cell hbl' k0
      have e1 := After.cell hbl' k1
      have e2 := After.cell hbl' k2
      have e3 := After.cell hbl' k3
      have e4 := After.cell hbl' k4
      have e5 := After.cell hbl' k5
      have e6 := After.cell hbl' k6
      have e7 := After.cell hbl' k7
      have e8 := After.cell hbl' k8
      have hltI : (k : Int) < (n : Int) := by omega
      have hkw : IntKind.i64.wrap ((k : Int) + 1) = (k : Int) + 1 := IntWalk.i64_in _ (by omega)
      have HAT := Lib.hid hat
      have HAT' := Lib.hid hat'
      clear hd hD hD' hat hat' hzz
      go_upto_region 6 with fail
      refine wp_region_after (by kernel_rfl) (by kernel_rfl) ?_
      repeat (first | go_big_quiet_step ((go_at_call 89; exact after_of (eq_C (atAfter HAT.out _) (atAfter HAT'.out _) hsz))) | quiet_step ((go_at_call 89; exact after_of (eq_C (atAfter HAT.out _) (atAfter HAT'.out _) hsz))))
      refine wpQuiet_nil ?_
      intro pw
      clear f0 f1 f2 f3 f4 f5 f6 f7 f8 e0 e1 e2 e3 e4 e5 e6 e7 e8
      go_wp2
      go_roundw
      case rel => exact ⟨k + 1, by omega, by go_num, bel_trans hb pw.bel⟩
      case measure => simp [intOf]; omega
    · have hkn : k = n := by omega
      subst hkn
      go_wp2
      go_ret
      exact ⟨rfl, hb⟩
end Go.Proofs.YtmooajppfjglaaaGreat

/- A block of records of one's own: each with its list in blocks of its own; made anew, written, read; no conditions. -/
namespace Go.Proofs.YtmooajppfjglaaaGreat
open Go Go.RowKit

theorem turns_setCells9 (g : Nat) : ∀ (vs : List Value) (o : Nat) (w : World), Turns (· = g) w (w.setCells g o vs)
  | [], _, w => Turns.of_below (Below.refl _ _)
  | v :: vs, o, w => (turns_cell9 w g o v).trans (turns_setCells9 g vs (o + 1) _)
where
  turns_cell9 (w : World) (g o : Nat) (u : Value) : Turns (· = g) w (w.setCell ⟨g, o, none⟩ u) :=
    ⟨rfl, rfl, rfl, by rw [size_set]; exact Nat.le_refl _, fun i _ hne => Below.heap_setCell w ⟨g, o, none⟩ u i hne⟩
def zeroC : RecD := ⟨0, 0, 0, 0, 0, 0, 0, [], 0⟩
/-- The block g holds n records, D of them; the list of the one at place i lies in blocks of Fs i, apart from all others'. -/
structure RecsAt (w : World) (g n : Nat) (D : Nat → RecD) (Fs : Nat → Nat → Prop) : Prop where
  lt : g < w.heap.size
  fr : ∀ o, w.frozen? ⟨g, o, none⟩ = false
  row : ∀ i, i < n → ∃ u, w.rangeAt g (i * 9) ((D i).cells u).toList ∧ LieC (D i) w (Fs i) (.agg ((D i).cells u))
  apart : ∀ i, i < n → ∀ b, Fs i b → b ≠ g
  two : ∀ i j, i < n → j < n → i ≠ j → ∀ b, Fs i b → ¬ Fs j b
theorem RecsAt.turn {w w' : World} {g n : Nat} {D : Nat → RecD} {Fs : Nat → Nat → Prop} {T : Nat → Prop} (h : RecsAt w g n D Fs) (ht : Turns T w w') (hg : ¬ T g) (hF : ∀ i, i < n → ∀ b, Fs i b → ¬ T b) : RecsAt w' g n D Fs :=
  ⟨Nat.lt_of_lt_of_le h.lt ht.size, fun o => (ht.frozen h.lt hg o).trans (h.fr o), fun i hi => by
    obtain ⟨u, h1, h2⟩ := h.row i hi
    exact ⟨u, fun j v hv => (ht.cell h.lt hg _).trans (h1 j v hv), (keepsLC _).turn h2 ht (hF i hi)⟩, h.apart, h.two⟩
theorem RecsAt.later {w w' : World} {g n : Nat} {D : Nat → RecD} {Fs : Nat → Nat → Prop} (h : RecsAt w g n D Fs) (hb : Below w.heap.size w w') : RecsAt w' g n D Fs :=
  h.turn (T := fun _ => False) (Turns.of_below hb) (fun h => h) (fun _ _ _ _ h => h)
theorem cells_len (d : RecD) (u : Value) : (d.cells u).toList.length = 9 := rfl
theorem RecsAt.there {w : World} {g n : Nat} {D : Nat → RecD} {Fs : Nat → Nat → Prop} (h : RecsAt w g n D Fs) {i : Nat} (hi : i < n) : w.there g (i * 9) 9 := fun j hj => by
  obtain ⟨u, h1, -⟩ := h.row i hi
  exact ⟨h1.isSome j (by rw [cells_len]; exact hj), h.fr _⟩
def upD (D : Nat → RecD) (i : Nat) (d : RecD) : Nat → RecD := fun j => if j = i then d else D j
def upFs (Fs : Nat → Nat → Prop) (i : Nat) (F : Nat → Prop) : Nat → Nat → Prop := fun j => if j = i then F else Fs j
/-- One of them is written anew. -/
theorem RecsAt.put {w : World} {g n : Nat} {D : Nat → RecD} {Fs : Nat → Nat → Prop} (h : RecsAt w g n D Fs) {i : Nat} (hi : i < n) {d : RecD} {F : Nat → Prop} {u : Value} (hL : LieC d w F (.agg (d.cells u))) (hg : ∀ b, F b → b ≠ g) (ho : ∀ j, j < n → j ≠ i → ∀ b, F b → ¬ Fs j b) :
    RecsAt (w.setCells g (i * 9) (d.cells u).toList) g n (upD D i d) (upFs Fs i F) := by
  have ht := turns_setCells9 g (d.cells u).toList (i * 9) w
  refine ⟨Nat.lt_of_lt_of_le h.lt ht.size, fun o => (World.frozen?_setCells g _ _ _ _).trans (h.fr o), fun j hj => ?_, fun j hj b hb => ?_, fun j k hj hk hjk b hb hb2 => ?_⟩
  · by_cases e : j = i
    · subst e
      refine ⟨u, ?_, ?_⟩
      · simp only [upD, if_true]
        exact World.rangeAt_setCells_same w g _ _ (h.there hi)
      · simp only [upD, upFs, if_true]
        exact (keepsLC _).turn hL ht hg
    · obtain ⟨u', h1, h2⟩ := h.row j hj
      refine ⟨u', ?_, ?_⟩
      · simp only [upD, if_neg e]
        exact World.rangeAt_setCells_apart h1 g _ _ (.inr (by simp only [cells_len]; omega))
      · simp only [upD, upFs, if_neg e]
        exact (keepsLC _).turn h2 ht (h.apart j hj)
  · unfold upFs at hb
    split at hb
    · exact hg b hb
    · exact h.apart j hj b hb
  · unfold upFs at hb hb2
    split at hb <;> split at hb2
    · omega
    · exact ho k hk (by assumption) b hb hb2
    · exact ho j hj (by assumption) b hb2 hb
    · exact h.two j k hj hk hjk b hb hb2
/-- Records of one's own behind lo: no list lies below it. -/
def RecsOwn (w : World) (g lo n : Nat) (D : Nat → RecD) : Prop :=
  lo ≤ g ∧ ∃ Fs, RecsAt w g n D Fs ∧ ∀ i, i < n → ∀ b, Fs i b → lo ≤ b ∧ b < w.heap.size
theorem RecsOwn.turn {w w' : World} {g lo n : Nat} {D : Nat → RecD} {T : Nat → Prop} (h : RecsOwn w g lo n D) (ht : Turns T w w') (hT : ∀ b, T b → b < lo) : RecsOwn w' g lo n D := by
  obtain ⟨hg, Fs, hR, hF⟩ := h
  exact ⟨hg, Fs, hR.turn ht (fun h => by have := hT _ h; omega) (fun i hi b hb hb2 => by have := hT b hb2; have := (hF i hi b hb).1; omega), fun i hi b hb => ⟨(hF i hi b hb).1, Nat.lt_of_lt_of_le (hF i hi b hb).2 ht.size⟩⟩
theorem RecsOwn.later {w w' : World} {g lo n : Nat} {D : Nat → RecD} (h : RecsOwn w g lo n D) (hb : Below w.heap.size w w') : RecsOwn w' g lo n D := h.turn (T := fun _ => False) (Turns.of_below hb) (fun _ h => h.elim)
/-- One of them is written anew, with a new list. -/
theorem RecsOwn.put {w w1 : World} {g lo n : Nat} {D : Nat → RecD} (h : RecsOwn w g lo n D) (hb : Below w.heap.size w w1) {i : Nat} (hi : i < n) {d : RecD} {u : Value} (hL : LieC d w1 (Iv w.heap.size w1.heap.size) (.agg (d.cells u))) :
    RecsOwn (w1.setCells g (i * 9) (d.cells u).toList) g lo n (upD D i d) := by
  obtain ⟨hg, Fs, hR, hF⟩ := h
  have hlt := hR.lt
  have hs := (turns_setCells9 g (d.cells u).toList (i * 9) w1).size
  refine ⟨hg, _, (hR.later hb).put hi hL (fun b hb1 => by have := hb1.1; omega) (fun j hj _ b hb1 hb2 => by have := hb1.1; have := (hF j hj b hb2).2; omega), fun j hj b hb1 => ?_⟩
  unfold upFs at hb1
  split at hb1
  · exact ⟨by have := hb1.1; omega, Nat.lt_of_lt_of_le hb1.2 hs⟩
  · have := hF j hj b hb1
    have := hb.size
    omega
theorem RecsOwn.low {w : World} {g lo lo' n : Nat} {D : Nat → RecD} (h : RecsOwn w g lo n D) (hl : lo' ≤ lo) : RecsOwn w g lo' n D := by
  obtain ⟨hg, Fs, hR, hF⟩ := h
  exact ⟨by omega, Fs, hR, fun i hi b hb => ⟨by have := (hF i hi b hb).1; omega, (hF i hi b hb).2⟩⟩
/-- Records that nothing was written to yet. -/
theorem recs_new (w : World) (t : TypeId) (n : Nat) : RecsOwn (w.alloc (.cells (madeCells (zeroC.cells (.slice none 0 0)) (n * 9)) t)) w.heap.size w.heap.size n (fun _ => zeroC) := by
  have hb := Box.new w t (madeCells (zeroC.cells (.slice none 0 0)) (n * 9))
  refine ⟨Nat.le_refl _, fun _ _ => False, ⟨hb.lt, hb.frozen, fun i hi => ⟨.slice none 0 0, fun j v hv => ?_, ⟨_, rfl, .inl ⟨rfl, rfl⟩⟩⟩, fun _ _ _ h => h.elim, fun _ _ _ _ _ _ h => h.elim⟩, fun _ _ _ h => h.elim⟩
  have hj : j < 9 := by
    have := (List.getElem?_eq_some_iff.1 hv).1
    rwa [cells_len] at this
  refine (hb.cell _).trans ?_
  rw [← hv]
  have e : (i * 9 + j) % 9 = j := by omega
  have hl : i * 9 + j < n * 9 := by omega
  have h9 : (zeroC.cells (.slice none 0 0)).size = 9 := rfl
  simp [madeCells, hl, h9, e, hj]
end Go.Proofs.YtmooajppfjglaaaGreat

/- Records of one's own, a cell or a list of one of them written; conditions: the sizes. -/
namespace Go.Proofs.YtmooajppfjglaaaGreat
open Go Go.RowKit

theorem upD_same (D : Nat → RecD) (i : Nat) (d : RecD) : upD D i d i = d := by simp [upD]
theorem upD_twice (D : Nat → RecD) (i : Nat) (a b : RecD) : upD (upD D i a) i b = upD D i b := by
  funext j
  unfold upD
  split <;> rfl
theorem far9 (w : World) (g : Nat) (v : Value) {a b : Nat} (h : a ≠ b) : (w.setCell ⟨g, a, none⟩ v).cell? ⟨g, b, none⟩ = w.cell? ⟨g, b, none⟩ := World.cell?_setCell_other _ _ _ _ (fun e => h (by injection e))
/-- One cell of one of them is written. -/
theorem RecsAt.cell {w : World} {g n : Nat} {D : Nat → RecD} {Fs : Nat → Nat → Prop} (h : RecsAt w g n D Fs) {i : Nat} (hi : i < n) {j : Nat} (hj : j < 9) (v : Value) (d' : RecD) (hps : d'.ps = (D i).ps) (hc : ∀ u, (d'.cells u).toList = ((D i).cells u).toList.set j v) :
    RecsAt (w.setCell ⟨g, i * 9 + j, none⟩ v) g n (upD D i d') Fs := by
  have ht := turns_setCells9 g [v] (i * 9 + j) w
  have hsz : (w.setCell ⟨g, i * 9 + j, none⟩ v).heap.size = w.heap.size := size_set _ _ _
  refine ⟨by rw [hsz]; exact h.lt, fun o => (World.frozen?_setCell _ _ _ _).trans (h.fr o), fun k hk => ?_, h.apart, h.two⟩
  obtain ⟨u, h1, h2⟩ := h.row k hk
  by_cases e : k = i
  · subst e
    rw [upD_same]
    refine ⟨u, fun p x hx => ?_, ?_⟩
    · rw [hc u] at hx
      by_cases hp : p = j
      · subst hp
        have hl : p < ((D k).cells u).toList.length := by rw [cells_len]; exact hj
        rw [List.getElem?_set_self hl] at hx
        injection hx with hx
        subst hx
        obtain ⟨y, hy⟩ : ∃ y, ((D k).cells u).toList[p]? = some y := ⟨_, List.getElem?_eq_getElem hl⟩
        exact World.cell?_setCell_same' _ _ _ (by rw [h1 p y hy]; rfl)
      · rw [List.getElem?_set_ne (Ne.symm hp)] at hx
        exact (far9 w g v (by omega)).trans (h1 p x hx)
    · obtain ⟨u2, e2, hO⟩ := h2
      injection e2 with e2
      have hu : u = u2 := by simpa [RecD.cells] using e2
      subst hu
      exact ⟨u, rfl, hps ▸ hO.turn ht (h.apart k hk)⟩
  · have hd : upD D i d' k = D k := by simp [upD, e]
    rw [hd]
    refine ⟨u, fun p x hx => ?_, (keepsLC _).turn h2 ht (h.apart k hk)⟩
    have hp : p < 9 := by
      have := (List.getElem?_eq_some_iff.1 hx).1
      rwa [cells_len] at this
    exact (far9 w g v (by omega)).trans (h1 p x hx)
/-- The seven numbers ahead of the list are written. -/
theorem RecsAt.seven {w : World} {g n : Nat} {D : Nat → RecD} {Fs : Nat → Nat → Prop} (h : RecsAt w g n D Fs) {i : Nat} (hi : i < n) (x0 x1 x2 x3 x4 x5 x6 : Int) :
    RecsAt (((((((w.setCell ⟨g, i * 9, none⟩ (.int .i64 x0)).setCell ⟨g, i * 9 + 1, none⟩ (.int .i64 x1)).setCell ⟨g, i * 9 + 2, none⟩ (.int .i64 x2)).setCell ⟨g, i * 9 + 3, none⟩ (.int .i64 x3)).setCell ⟨g, i * 9 + 4, none⟩ (.int .i64 x4)).setCell ⟨g, i * 9 + 5, none⟩ (.int .i64 x5)).setCell ⟨g, i * 9 + 6, none⟩ (.int .i64 x6)) g n (upD D i ⟨x0, x1, x2, x3, x4, x5, x6, (D i).ps, (D i).r8⟩) Fs := by
  have h0 := h.cell hi (j := 0) (by omega) (.int .i64 x0) ⟨x0, (D i).r2, (D i).r3, (D i).r4, (D i).r5, (D i).r6, (D i).r7, (D i).ps, (D i).r8⟩ rfl (fun _ => rfl)
  have h1 := h0.cell hi (j := 1) (by omega) (.int .i64 x1) ⟨x0, x1, (D i).r3, (D i).r4, (D i).r5, (D i).r6, (D i).r7, (D i).ps, (D i).r8⟩ (by rw [upD_same]) (fun _ => by rw [upD_same]; rfl)
  rw [upD_twice] at h1
  have h2 := h1.cell hi (j := 2) (by omega) (.int .i64 x2) ⟨x0, x1, x2, (D i).r4, (D i).r5, (D i).r6, (D i).r7, (D i).ps, (D i).r8⟩ (by rw [upD_same]) (fun _ => by rw [upD_same]; rfl)
  rw [upD_twice] at h2
  have h3 := h2.cell hi (j := 3) (by omega) (.int .i64 x3) ⟨x0, x1, x2, x3, (D i).r5, (D i).r6, (D i).r7, (D i).ps, (D i).r8⟩ (by rw [upD_same]) (fun _ => by rw [upD_same]; rfl)
  rw [upD_twice] at h3
  have h4 := h3.cell hi (j := 4) (by omega) (.int .i64 x4) ⟨x0, x1, x2, x3, x4, (D i).r6, (D i).r7, (D i).ps, (D i).r8⟩ (by rw [upD_same]) (fun _ => by rw [upD_same]; rfl)
  rw [upD_twice] at h4
  have h5 := h4.cell hi (j := 5) (by omega) (.int .i64 x5) ⟨x0, x1, x2, x3, x4, x5, (D i).r7, (D i).ps, (D i).r8⟩ (by rw [upD_same]) (fun _ => by rw [upD_same]; rfl)
  rw [upD_twice] at h5
  have h6 := h5.cell hi (j := 6) (by omega) (.int .i64 x6) ⟨x0, x1, x2, x3, x4, x5, x6, (D i).ps, (D i).r8⟩ (by rw [upD_same]) (fun _ => by rw [upD_same]; rfl)
  rw [upD_twice] at h6
  exact h6
/-- The list of one of them is written. -/
theorem RecsAt.list {w w' : World} {g n : Nat} {D : Nat → RecD} {Fs : Nat → Nat → Prop} (h : RecsAt w g n D Fs) {i : Nat} (hi : i < n) {T : Nat → Prop} (ht : Turns T w w') (hT : ∀ b, T b → Fs i b) {u : Value} {ps' : List (Int × Int)} (hu : w.cell? ⟨g, i * 9 + 7, none⟩ = some u) (hO : OwnP w' (Fs i) u ps') :
    RecsAt w' g n (upD D i ⟨(D i).r1, (D i).r2, (D i).r3, (D i).r4, (D i).r5, (D i).r6, (D i).r7, ps', (D i).r8⟩) Fs := by
  have hg : ¬ T g := fun hb => h.apart i hi g (hT g hb) rfl
  refine ⟨Nat.lt_of_lt_of_le h.lt ht.size, fun o => (ht.frozen h.lt hg o).trans (h.fr o), fun k hk => ?_, h.apart, h.two⟩
  obtain ⟨u1, h1, h2⟩ := h.row k hk
  by_cases e : k = i
  · subst e
    rw [upD_same]
    have hc : w.cell? ⟨g, k * 9 + 7, none⟩ = some u1 := h1 7 u1 rfl
    rw [hu] at hc
    injection hc with hc
    subst hc
    exact ⟨u, fun p x hx => (ht.cell h.lt hg _).trans (h1 p x hx), u, rfl, hO⟩
  · have hd : upD D i ⟨(D i).r1, (D i).r2, (D i).r3, (D i).r4, (D i).r5, (D i).r6, (D i).r7, ps', (D i).r8⟩ k = D k := by simp [upD, e]
    rw [hd]
    exact ⟨u1, fun p x hx => (ht.cell h.lt hg _).trans (h1 p x hx), (keepsLC _).turn h2 ht (fun b hb hb2 => h.two k i hk hi e b hb (hT b hb2))⟩
end Go.Proofs.YtmooajppfjglaaaGreat

/- The laws' mark on a list of records of one's own; conditions: the sizes. -/
namespace Go.Proofs.YtmooajppfjglaaaGreat
open Go Go.RowKit

theorem ownP_res9 {w : World} {F : Nat → Prop} {u : Value} {ps : List (Int × Int)} (h : OwnP w F u ps) : ∃ lo hi, ResP w lo hi u ps ∧ ∀ b, Iv lo hi b → F b := ownP_res h
theorem resP_own {w : World} {lo hi : Nat} {F : Nat → Prop} {u : Value} {ps : List (Int × Int)} (h : ResP w lo hi u ps) (hF : ∀ b, Iv lo hi b → F b) : OwnP w F u ps := by
  rcases h with h | ⟨g, cap, h1, h2, h3, h4, h5, h6⟩
  · exact .inl h
  · exact .inr ⟨g, cap, hF g ⟨h1, h2⟩, h3, h4, h5, h6⟩

set_option maxRecDepth 100000 in
set_option maxHeartbeats 8000000 in
theorem mark_CS {w : World} {G n cap : Nat} {D : Nat → RecD} {Fs : Nat → Nat → Prop} {k : Int} (h : RecsAt w G n D Fs) (hn : n ≤ 1048576) (S : Nat → Nat) (hS0 : S 0 = 0) (hS : ∀ j, j < n → S (j + 1) = S j + 8 + 2 * (D j).ps.length) (hSn : ∀ j, j ≤ n → S j ≤ 20000000) (hlen : ∀ j, j < n → (D j).ps.length ≤ 1048577) (hk0 : 0 ≤ k) (hk1 : k ≤ 10000000) :
    Calls Tryz.prog 37 #[.slice (some ⟨G, 0, none⟩) n cap, .int .i64 k] w fun e w' => e = .returned (.int .i64 (k + S n)) ∧ Turns (fun b => b = G ∨ ∃ i, i < n ∧ Fs i b) w w' ∧ ∃ D', RecsAt w' G n D' Fs := by
  have HS := Lib.hid hS
  have HSN := Lib.hid hSn
  have HLN := Lib.hid hlen
  have HS0 := Lib.hid hS0
  clear hS hSn hlen hS0
  go_enter Tryz.func37, Tryz.ntmps37
  go_wp2
  go_loopw [1, 5] (fun kv i wr => ∃ (j : Nat) (D' : Nat → RecD), j ≤ n ∧ i = .int .i64 j ∧ kv = .int .i64 (k + S j) ∧ RecsAt wr G n D' Fs ∧ (∀ i, (D' i).ps.length = (D i).ps.length) ∧ Turns (fun b => b = G ∨ ∃ i, i < n ∧ Fs i b) w wr) (fun _ i _ => n - (intOf i).toNat)
  case atStart => exact ⟨0, D, Nat.zero_le _, rfl, by rw [HS0.out]; simp, h, fun _ => rfl, Turns.of_below (Below.refl _ _)⟩
  case round =>
    clear h
    obtain ⟨j, D', hj, rfl, rfl, h, hl, ht⟩ := hrel
    by_cases hlt : j < n
    · obtain ⟨u, hr, u2, e2, hO⟩ := h.row j hlt
      injection e2 with e2
      have hu : u = u2 := by simpa [RecD.cells] using e2
      subst hu
      clear e2
      have c0 : wr.cell? ⟨G, j * 9, none⟩ = some (.int .i64 (D' j).r1) := hr 0 _ rfl
      have c1 : wr.cell? ⟨G, j * 9 + 1, none⟩ = some (.int .i64 (D' j).r2) := hr 1 _ rfl
      have c2 : wr.cell? ⟨G, j * 9 + 2, none⟩ = some (.int .i64 (D' j).r3) := hr 2 _ rfl
      have c3 : wr.cell? ⟨G, j * 9 + 3, none⟩ = some (.int .i64 (D' j).r4) := hr 3 _ rfl
      have c4 : wr.cell? ⟨G, j * 9 + 4, none⟩ = some (.int .i64 (D' j).r5) := hr 4 _ rfl
      have c5 : wr.cell? ⟨G, j * 9 + 5, none⟩ = some (.int .i64 (D' j).r6) := hr 5 _ rfl
      have c6 : wr.cell? ⟨G, j * 9 + 6, none⟩ = some (.int .i64 (D' j).r7) := hr 6 _ rfl
      have c7 : wr.cell? ⟨G, j * 9 + 7, none⟩ = some u := hr 7 _ rfl
      have c8 : wr.cell? ⟨G, j * 9 + 8, none⟩ = some (.int .i64 (D' j).r8) := hr 8 _ rfl
      have fG := h.fr
      have hSj := HSN.out j hj
      obtain ⟨q, hq⟩ : ∃ q : Int, k + (S j : Int) = q := ⟨_, rfl⟩
      have hq0 : 0 ≤ q := by omega
      have hq1 : q ≤ 30000000 := by omega
      rw [hq]
      have HQ := Lib.hid hq
      clear hq hSj
      have v0 : IntKind.i64.wrap (q + 1) = q + 1 := IntWalk.i64_in _ (by omega)
      have v1 : IntKind.i64.wrap (q + 1 + 1) = q + 1 + 1 := IntWalk.i64_in _ (by omega)
      have v2 : IntKind.i64.wrap (q + 1 + 1 + 1) = q + 1 + 1 + 1 := IntWalk.i64_in _ (by omega)
      have v3 : IntKind.i64.wrap (q + 1 + 1 + 1 + 1) = q + 1 + 1 + 1 + 1 := IntWalk.i64_in _ (by omega)
      have v4 : IntKind.i64.wrap (q + 1 + 1 + 1 + 1 + 1) = q + 1 + 1 + 1 + 1 + 1 := IntWalk.i64_in _ (by omega)
      have v5 : IntKind.i64.wrap (q + 1 + 1 + 1 + 1 + 1 + 1) = q + 1 + 1 + 1 + 1 + 1 + 1 := IntWalk.i64_in _ (by omega)
      have v6 : IntKind.i64.wrap (q + 1 + 1 + 1 + 1 + 1 + 1 + 1) = q + 1 + 1 + 1 + 1 + 1 + 1 + 1 := IntWalk.i64_in _ (by omega)
      have hkw : IntKind.i64.wrap ((j : Int) + 1) = (j : Int) + 1 := IntWalk.i64_in _ (by omega)
      have hltI : (j : Int) < (n : Int) := by omega
      have HSJ := Lib.hid (HS.out j hlt)
      have HLJ := Lib.hid (HLN.out j hlt)
      have HLE := Lib.hid (hl j)
      go_upto_region 18 with fail
      have K7 := h.seven hlt (q) (q + 1) (q + 1 + 1) (q + 1 + 1 + 1) (q + 1 + 1 + 1 + 1) (q + 1 + 1 + 1 + 1 + 1) (q + 1 + 1 + 1 + 1 + 1 + 1)
      have t7 : Turns (· = G) wr (((((((wr.setCell ⟨G, j * 9, none⟩ (.int .i64 (q))).setCell ⟨G, j * 9 + 1, none⟩ (.int .i64 (q + 1))).setCell ⟨G, j * 9 + 2, none⟩ (.int .i64 (q + 1 + 1))).setCell ⟨G, j * 9 + 3, none⟩ (.int .i64 (q + 1 + 1 + 1))).setCell ⟨G, j * 9 + 4, none⟩ (.int .i64 (q + 1 + 1 + 1 + 1))).setCell ⟨G, j * 9 + 5, none⟩ (.int .i64 (q + 1 + 1 + 1 + 1 + 1))).setCell ⟨G, j * 9 + 6, none⟩ (.int .i64 (q + 1 + 1 + 1 + 1 + 1 + 1))) := turns_setCells9 G [.int .i64 (q), .int .i64 (q + 1), .int .i64 (q + 1 + 1), .int .i64 (q + 1 + 1 + 1), .int .i64 (q + 1 + 1 + 1 + 1), .int .i64 (q + 1 + 1 + 1 + 1 + 1), .int .i64 (q + 1 + 1 + 1 + 1 + 1 + 1)] (j * 9) wr
      have n7 := (K7.row j hlt)
      rw [upD_same] at n7
      obtain ⟨u3, hr3, u4, e4, hO4⟩ := n7
      injection e4 with e4
      have hu4 : u3 = u4 := by simpa [RecD.cells] using e4
      subst hu4
      clear e4
      clear c0 c1 c2 c3 c4 c5 c6 c7 c8 fG v0 v1 v2 v3 v4 v5 v6 hr hO
      generalize (((((((wr.setCell ⟨G, j * 9, none⟩ (.int .i64 (q))).setCell ⟨G, j * 9 + 1, none⟩ (.int .i64 (q + 1))).setCell ⟨G, j * 9 + 2, none⟩ (.int .i64 (q + 1 + 1))).setCell ⟨G, j * 9 + 3, none⟩ (.int .i64 (q + 1 + 1 + 1))).setCell ⟨G, j * 9 + 4, none⟩ (.int .i64 (q + 1 + 1 + 1 + 1))).setCell ⟨G, j * 9 + 5, none⟩ (.int .i64 (q + 1 + 1 + 1 + 1 + 1))).setCell ⟨G, j * 9 + 6, none⟩ (.int .i64 (q + 1 + 1 + 1 + 1 + 1 + 1))) = w7 at K7 t7 hr3 hO4 ⊢
      have c7 : w7.cell? ⟨G, j * 9 + 7, none⟩ = some u3 := hr3 7 _ rfl
      obtain ⟨q7, hq7⟩ : ∃ q7 : Int, q + 1 + 1 + 1 + 1 + 1 + 1 + 1 = q7 := ⟨_, rfl⟩
      rw [hq7]
      have HQ7 := Lib.hid hq7
      have hp0 : 0 ≤ q7 := by omega
      have hp1 : q7 ≤ 30000007 := by omega
      clear hq7 hq0 hq1
      obtain ⟨lo, hi, hRP, hFs⟩ := ownP_res9 hO4
      have HRP := Lib.hid hRP
      clear hRP hO4 hr3
      go_upto_region 19 with (go_at_call 48; refine (markP_is q7 HRP.out (by rw [HLE.out]; exact HLJ.out) hp0 (by omega)).mono ?_; rintro e w8 ⟨rfl, D2, hd1, hd2, hR2, hB⟩)
      have K8 := K7.list hlt (Turns.of_band hB) hFs c7 (resP_own hR2 hFs)
      rw [upD_twice, upD_same] at K8
      have t8 := Turns.of_band hB
      have n8 := K8.row j hlt
      rw [upD_same] at n8
      obtain ⟨u5, hr5, -⟩ := n8
      have c8 : w8.cell? ⟨G, j * 9 + 8, none⟩ = some (.int .i64 (D' j).r8) := hr5 8 _ rfl
      have fG := K8.fr
      have HL2 := Lib.hid hd1
      have HF := Lib.hid hFs
      obtain ⟨q8, hq8⟩ : ∃ q8 : Int, q7 + 2 * ((D j).ps.length : Int) = q8 := ⟨_, rfl⟩
      have hql := HLJ.out
      rw [hq8]
      have HQ8 := Lib.hid hq8
      have v8 : IntKind.i64.wrap (q8 + 1) = q8 + 1 := IntWalk.i64_in _ (by omega)
      have t9 := turns_setCells9 G [.int .i64 q8] (j * 9 + 8) w8
      have K9 := K8.cell hlt (j := 8) (by omega) (.int .i64 q8) ⟨q, q + 1, q + 1 + 1, q + 1 + 1 + 1, q + 1 + 1 + 1 + 1, q + 1 + 1 + 1 + 1 + 1, q + 1 + 1 + 1 + 1 + 1 + 1, D2, q8⟩ (by rw [upD_same]) (fun _ => by rw [upD_same]; rfl)
      rw [upD_twice] at K9
      clear hq8 hql hd1 hd2 hR2 hB hr5 hFs c7
      go_wp2
      go_roundw
      case rel =>
        refine ⟨j + 1, _, by omega, by go_num, ?_, K9, fun i => ?_, ?_⟩
        · rw [HSJ.out]
          have h1 := HQ8.out
          have h2 := HQ7.out
          have h3 := HQ.out
          have h4 := HLE.out
          congr 1
          omega
        · by_cases e : i = j
          · subst e
            rw [upD_same]
            show D2.length = _
            rw [HL2.out]
            exact HLE.out
          · rw [show ∀ d, upD D' j d i = D' i from fun d => by simp [upD, e]]
            exact hl i
        · exact ((ht.trans (t7.sub (fun _ _ e => .inl e))).trans (t8.sub (fun b _ hb => .inr ⟨j, hlt, HF.out b hb⟩))).trans (t9.sub (fun _ _ e => .inl e))
      case measure => simp [intOf]; omega
    · have hjn : j = n := by omega
      subst hjn
      go_wp2
      go_ret
      exact ⟨rfl, ht, D', h⟩
end Go.Proofs.YtmooajppfjglaaaGreat

/- The laws' marks on lists of one's own that may be empty, wherever those point; conditions: the sizes. -/
namespace Go.Proofs.YtmooajppfjglaaaGreat
open Go Go.RowKit

theorem mark_zero (A : Option Addr) (cap : Nat) (k : Int) (w : World) : Calls Tryz.prog 48 #[.slice A 0 cap, .int .i64 k] w fun e w' => e = .returned (.int .i64 k) ∧ w = w' := by
  go_enter Tryz.func48, Tryz.ntmps48
  go_wp2_with fail
  go_loopw [1, 5] (fun kv iv wr => iv = .int .i64 0 ∧ kv = .int .i64 k ∧ w = wr) (fun _ _ _ => 0)
  case atStart => exact ⟨rfl, rfl, rfl⟩
  case round =>
    obtain ⟨rfl, rfl, rfl⟩ := hrel
    go_wp2
    go_ret
    exact ⟨rfl, rfl⟩
theorem held_zero (A : Option Addr) (cap : Nat) (k : Int) (w : World) : Calls Tryz.prog 92 #[.slice A 0 cap, .int .i64 k] w fun e w' => e = .returned (.int .i64 k) ∧ w = w' := by
  go_enter Tryz.func92, Tryz.ntmps92
  go_wp2_with fail
  go_loopw [1, 5] (fun kv iv wr => iv = .int .i64 0 ∧ kv = .int .i64 k ∧ w = wr) (fun _ _ _ => 0)
  case atStart => exact ⟨rfl, rfl, rfl⟩
  case round =>
    obtain ⟨rfl, rfl, rfl⟩ := hrel
    go_wp2
    go_ret
    exact ⟨rfl, rfl⟩
theorem markOpens_zero (A : Option Addr) (cap : Nat) (k : Int) (w : World) : Calls Tryz.prog 91 #[.slice A 0 cap, .int .i64 k] w fun e w' => e = .returned (.int .i64 k) ∧ w = w' := by
  go_enter Tryz.func91, Tryz.ntmps91
  go_wp2_with fail
  go_loopw [1, 5] (fun kv iv wr => iv = .int .i64 0 ∧ kv = .int .i64 k ∧ w = wr) (fun _ _ _ => 0)
  case atStart => exact ⟨rfl, rfl, rfl⟩
  case round =>
    obtain ⟨rfl, rfl, rfl⟩ := hrel
    go_wp2
    go_ret
    exact ⟨rfl, rfl⟩
theorem heldOpens_zero (A : Option Addr) (cap : Nat) (k : Int) (w : World) : Calls Tryz.prog 93 #[.slice A 0 cap, .int .i64 k] w fun e w' => e = .returned (.int .i64 k) ∧ w = w' := by
  go_enter Tryz.func93, Tryz.ntmps93
  go_wp2_with fail
  go_loopw [1, 5] (fun kv iv wr => iv = .int .i64 0 ∧ kv = .int .i64 k ∧ w = wr) (fun _ _ _ => 0)
  case atStart => exact ⟨rfl, rfl, rfl⟩
  case round =>
    obtain ⟨rfl, rfl, rfl⟩ := hrel
    go_wp2
    go_ret
    exact ⟨rfl, rfl⟩
theorem markPE_is {wr : World} {lo hi : Nat} {u : Value} {D : List (Int × Int)} (k : Int) (h : ResE wr lo hi u D) (hn : D.length ≤ 1048577) (hk0 : 0 ≤ k) (hk1 : k ≤ 50000000) :
    Calls Tryz.prog 48 #[u, .int .i64 k] wr fun e w' => e = .returned (.int .i64 (k + 2 * D.length)) ∧ ∃ D', D'.length = D.length ∧ Marked k D' ∧ ResE w' lo hi u D' ∧ Band lo hi wr w' := by
  by_cases hp : 0 < D.length
  · have hr : ResP wr lo hi u D := by
      rcases h with h | ⟨g, cap, h0, h0', h1, h2, h3, h4⟩
      · exact .inl h
      · exact .inr ⟨g, cap, h0, h0', h1, h2, h3, h4 hp⟩
    refine (markP_is k hr hn hk0 hk1).mono ?_
    rintro e w' ⟨rfl, D', h1, h2, h3, h4⟩
    refine ⟨rfl, D', h1, h2, ?_, h4⟩
    rcases h3 with h | ⟨g, cap, h0, h0', h1, h2, h3, h4⟩
    · exact .inl h
    · exact .inr ⟨g, cap, h0, h0', h1, h2, h3, fun _ => h4⟩
  · have hd : D = [] := List.eq_nil_of_length_eq_zero (by omega)
    subst hd
    have hu : ∃ A cap, u = .slice A 0 cap := by
      rcases h with ⟨h, -⟩ | ⟨g, cap, _, _, h, _⟩
      · exact ⟨_, _, h⟩
      · exact ⟨_, _, h⟩
    have HE := Lib.hid h
    clear h
    obtain ⟨A, cap, rfl⟩ := hu
    refine (mark_zero A cap k wr).mono ?_
    rintro e w' ⟨rfl, rfl⟩
    exact ⟨by simp, [], rfl, fun j hj => absurd hj (by simp), HE.out, Band.refl _ _ _⟩
theorem heldPE_is {wr : World} {lo hi : Nat} {u : Value} {D : List (Int × Int)} (k : Int) (h : ResE wr lo hi u D) (hM : Marked k D) (hn : D.length ≤ 1048577) (hk0 : 0 ≤ k) (hk1 : k ≤ 50000000) :
    Calls Tryz.prog 92 #[u, .int .i64 k] wr fun e w' => e = .returned (.int .i64 (k + 2 * D.length)) ∧ wr = w' := by
  by_cases hp : 0 < D.length
  · have hr : ResP wr lo hi u D := by
      rcases h with h | ⟨g, cap, h0, h0', h1, h2, h3, h4⟩
      · exact .inl h
      · exact .inr ⟨g, cap, h0, h0', h1, h2, h3, h4 hp⟩
    exact heldP_is k hr hM hn hk0 hk1
  · have hd : D = [] := List.eq_nil_of_length_eq_zero (by omega)
    subst hd
    have hu : ∃ A cap, u = .slice A 0 cap := by
      rcases h with ⟨h, -⟩ | ⟨g, cap, _, _, h, _⟩
      · exact ⟨_, _, h⟩
      · exact ⟨_, _, h⟩
    clear h
    obtain ⟨A, cap, rfl⟩ := hu
    refine (held_zero A cap k wr).mono ?_
    rintro e w' ⟨rfl, rfl⟩
    exact ⟨by simp, rfl⟩
theorem markQE_is {wr : World} {lo hi : Nat} {u : Value} {D : List Opn} (k : Int) (h : ResEQ wr lo hi u D) (hn : D.length ≤ 1048577) (hk0 : 0 ≤ k) (hk1 : k ≤ 50000000) :
    Calls Tryz.prog 91 #[u, .int .i64 k] wr fun e w' => e = .returned (.int .i64 (k + 4 * D.length)) ∧ ∃ D', D'.length = D.length ∧ MarkedQ k D' ∧ ResEQ w' lo hi u D' ∧ Band lo hi wr w' := by
  by_cases hp : 0 < D.length
  · have hr : ResQ wr lo hi u D := by
      rcases h with h | ⟨g, cap, h0, h0', h1, h2, h3, h4⟩
      · exact .inl h
      · exact .inr ⟨g, cap, h0, h0', h1, h2, h3, h4 hp⟩
    refine (markQ_is k hr hn hk0 hk1).mono ?_
    rintro e w' ⟨rfl, D', h1, h2, h3, h4⟩
    refine ⟨rfl, D', h1, h2, ?_, h4⟩
    rcases h3 with h | ⟨g, cap, h0, h0', h1, h2, h3, h4⟩
    · exact .inl h
    · exact .inr ⟨g, cap, h0, h0', h1, h2, h3, fun _ => h4⟩
  · have hd : D = [] := List.eq_nil_of_length_eq_zero (by omega)
    subst hd
    have hu : ∃ A cap, u = .slice A 0 cap := by
      rcases h with ⟨h, -⟩ | ⟨g, cap, _, _, h, _⟩
      · exact ⟨_, _, h⟩
      · exact ⟨_, _, h⟩
    have HE := Lib.hid h
    clear h
    obtain ⟨A, cap, rfl⟩ := hu
    refine (markOpens_zero A cap k wr).mono ?_
    rintro e w' ⟨rfl, rfl⟩
    exact ⟨by simp, [], rfl, fun j hj => absurd hj (by simp), HE.out, Band.refl _ _ _⟩
theorem heldQE_is {wr : World} {lo hi : Nat} {u : Value} {D : List Opn} (k : Int) (h : ResEQ wr lo hi u D) (hM : MarkedQ k D) (hn : D.length ≤ 1048577) (hk0 : 0 ≤ k) (hk1 : k ≤ 50000000) :
    Calls Tryz.prog 93 #[u, .int .i64 k] wr fun e w' => e = .returned (.int .i64 (k + 4 * D.length)) ∧ wr = w' := by
  by_cases hp : 0 < D.length
  · have hr : ResQ wr lo hi u D := by
      rcases h with h | ⟨g, cap, h0, h0', h1, h2, h3, h4⟩
      · exact .inl h
      · exact .inr ⟨g, cap, h0, h0', h1, h2, h3, h4 hp⟩
    exact heldQ_is k hr hM hn hk0 hk1
  · have hd : D = [] := List.eq_nil_of_length_eq_zero (by omega)
    subst hd
    have hu : ∃ A cap, u = .slice A 0 cap := by
      rcases h with ⟨h, -⟩ | ⟨g, cap, _, _, h, _⟩
      · exact ⟨_, _, h⟩
      · exact ⟨_, _, h⟩
    clear h
    obtain ⟨A, cap, rfl⟩ := hu
    refine (heldOpens_zero A cap k wr).mono ?_
    rintro e w' ⟨rfl, rfl⟩
    exact ⟨by simp, rfl⟩
end Go.Proofs.YtmooajppfjglaaaGreat

/- Shelves of one's own by ranges: a number or the lists of one of them written; conditions: none. -/
namespace Go.Proofs.YtmooajppfjglaaaGreat
open Go Go.RowKit

def rowE (d : RegD) (u v : Value) : List Value := [.int .i64 d.t, .int .i64 d.q, .int .i64 d.v, u, v]
def upR (D : Nat → RegD) (i : Nat) (d : RegD) : Nat → RegD := fun j => if j = i then d else D j
theorem upR_same (D : Nat → RegD) (i : Nat) (d : RegD) : upR D i d i = d := by simp [upR]
theorem upR_twice (D : Nat → RegD) (i : Nat) (a b : RegD) : upR (upR D i a) i b = upR D i b := by
  funext j
  unfold upR
  split <;> rfl
/-- The block g holds n shelves, D of them; the lists of the one at place i lie in blocks of Fs i, apart from all others'. -/
structure RegsE (w : World) (g n : Nat) (D : Nat → RegD) (Fs : Nat → Nat → Prop) : Prop where
  lt : g < w.heap.size
  fr : ∀ o, w.frozen? ⟨g, o, none⟩ = false
  row : ∀ i, i < n → ∃ u v, w.rangeAt g (i * 5) (rowE (D i) u v) ∧ LieE (D i) w (Fs i) (.agg (rowE (D i) u v).toArray)
  apart : ∀ i, i < n → ∀ b, Fs i b → b ≠ g
  two : ∀ i j, i < n → j < n → i ≠ j → ∀ b, Fs i b → ¬ Fs j b
theorem RegsOwn.rangesE {w : World} {g lo : Nat} {rs : List RegD} (h : RegsOwn LieE w g lo rs) : ∃ Fs, RegsE w g rs.length (regOf rs) Fs ∧ ∀ i, i < rs.length → ∀ b, Fs i b → lo ≤ b ∧ b < w.heap.size := by
  obtain ⟨_, Fs, hR, hF⟩ := h
  refine ⟨Fs, ⟨hR.lt, hR.frozen, fun i hi => ?_, hR.apart, hR.two⟩, hF⟩
  obtain ⟨u, v, c0, c1, c2, c3, c4, hL⟩ := hR.get hi
  have hd : regOf rs i = rs[i] := by
    unfold regOf
    rw [List.getD_eq_getElem?_getD, List.getElem?_eq_getElem hi]
    rfl
  rw [hd]
  refine ⟨u, v, fun j x hx => ?_, hL⟩
  unfold rowE at hx
  match j, hx with
  | 0, hx => injection hx with hx; subst hx; exact c0
  | 1, hx => injection hx with hx; subst hx; exact c1
  | 2, hx => injection hx with hx; subst hx; exact c2
  | 3, hx => injection hx with hx; subst hx; exact c3
  | 4, hx => injection hx with hx; subst hx; exact c4
  | j + 5, hx => simp at hx
theorem LieE.same {d d' : RegD} {w : World} {F : Nat → Prop} {u v : Value} (h : LieE d w F (.agg (rowE d u v).toArray)) (hps : d'.ps = d.ps) (hos : d'.os = d.os) : LieE d' w F (.agg (rowE d' u v).toArray) := by
  obtain ⟨A, n, c, A', n', c', lo, B, hi, e, h1, h2, h3⟩ := h
  have hu : u = .slice A n c ∧ v = .slice A' n' c' := by simpa [rowE] using e
  refine ⟨A, n, c, A', n', c', lo, B, hi, by rw [hu.1, hu.2]; rfl, hps ▸ h1, hos ▸ h2, h3⟩
theorem rowE_len (d : RegD) (u v : Value) : (rowE d u v).length = 5 := rfl
/-- One number of one of them is written. -/
theorem RegsE.cell {w : World} {g n : Nat} {D : Nat → RegD} {Fs : Nat → Nat → Prop} (h : RegsE w g n D Fs) {i : Nat} (hi : i < n) {j : Nat} (hj : j < 5) (x : Value) (d' : RegD) (hps : d'.ps = (D i).ps) (hos : d'.os = (D i).os) (hc : ∀ u v, rowE d' u v = (rowE (D i) u v).set j x) :
    RegsE (w.setCell ⟨g, i * 5 + j, none⟩ x) g n (upR D i d') Fs := by
  have ht := turns_cell5 w g (i * 5 + j) x
  have hsz : (w.setCell ⟨g, i * 5 + j, none⟩ x).heap.size = w.heap.size := size_set _ _ _
  refine ⟨by rw [hsz]; exact h.lt, fun o => (World.frozen?_setCell _ _ _ _).trans (h.fr o), fun k hk => ?_, h.apart, h.two⟩
  obtain ⟨u, v, h1, h2⟩ := h.row k hk
  by_cases e : k = i
  · subst e
    rw [upR_same]
    refine ⟨u, v, fun p y hy => ?_, ((keepsLE _).turn h2 ht (h.apart k hk)).same hps hos⟩
    rw [hc u v] at hy
    by_cases hp : p = j
    · subst hp
      have hl : p < (rowE (D k) u v).length := by rw [rowE_len]; exact hj
      rw [List.getElem?_set_self hl] at hy
      injection hy with hy
      subst hy
      obtain ⟨z, hz⟩ : ∃ z, (rowE (D k) u v)[p]? = some z := ⟨_, List.getElem?_eq_getElem hl⟩
      exact World.cell?_setCell_same' _ _ _ (by rw [h1 p z hz]; rfl)
    · rw [List.getElem?_set_ne (Ne.symm hp)] at hy
      exact (far9 w g x (by omega)).trans (h1 p y hy)
  · have hd : upR D i d' k = D k := by simp [upR, e]
    rw [hd]
    refine ⟨u, v, fun p y hy => ?_, (keepsLE _).turn h2 ht (h.apart k hk)⟩
    have hp : p < 5 := by
      have := (List.getElem?_eq_some_iff.1 hy).1
      rwa [rowE_len] at this
    exact (far9 w g x (by omega)).trans (h1 p y hy)
/-- The three numbers ahead of the lists are written. -/
theorem RegsE.three {w : World} {g n : Nat} {D : Nat → RegD} {Fs : Nat → Nat → Prop} (h : RegsE w g n D Fs) {i : Nat} (hi : i < n) (x0 x1 x2 : Int) :
    RegsE (((w.setCell ⟨g, i * 5, none⟩ (.int .i64 x0)).setCell ⟨g, i * 5 + 1, none⟩ (.int .i64 x1)).setCell ⟨g, i * 5 + 2, none⟩ (.int .i64 x2)) g n (upR D i ⟨x0, x1, x2, (D i).ps, (D i).os⟩) Fs := by
  have h0 := h.cell hi (j := 0) (by omega) (.int .i64 x0) ⟨x0, (D i).q, (D i).v, (D i).ps, (D i).os⟩ rfl rfl (fun _ _ => rfl)
  have h1 := h0.cell hi (j := 1) (by omega) (.int .i64 x1) ⟨x0, x1, (D i).v, (D i).ps, (D i).os⟩ (by rw [upR_same]) (by rw [upR_same]) (fun _ _ => by rw [upR_same]; rfl)
  rw [upR_twice] at h1
  have h2 := h1.cell hi (j := 2) (by omega) (.int .i64 x2) ⟨x0, x1, x2, (D i).ps, (D i).os⟩ (by rw [upR_same]) (by rw [upR_same]) (fun _ _ => by rw [upR_same]; rfl)
  rw [upR_twice] at h2
  exact h2
/-- The lists of one of them are written. -/
theorem RegsE.lists {w w' : World} {g n : Nat} {D : Nat → RegD} {Fs : Nat → Nat → Prop} (h : RegsE w g n D Fs) {i : Nat} (hi : i < n) {T : Nat → Prop} (ht : Turns T w w') (hT : ∀ b, T b → Fs i b) {d' : RegD} {u v : Value} (hu : w.cell? ⟨g, i * 5 + 3, none⟩ = some u) (hv : w.cell? ⟨g, i * 5 + 4, none⟩ = some v) (h3 : d'.t = (D i).t ∧ d'.q = (D i).q ∧ d'.v = (D i).v) (hL : LieE d' w' (Fs i) (.agg (rowE d' u v).toArray)) :
    RegsE w' g n (upR D i d') Fs := by
  have hg : ¬ T g := fun hb => h.apart i hi g (hT g hb) rfl
  refine ⟨Nat.lt_of_lt_of_le h.lt ht.size, fun o => (ht.frozen h.lt hg o).trans (h.fr o), fun k hk => ?_, h.apart, h.two⟩
  obtain ⟨u1, v1, h1, h2⟩ := h.row k hk
  by_cases e : k = i
  · subst e
    rw [upR_same]
    have hc : w.cell? ⟨g, k * 5 + 3, none⟩ = some u1 := h1 3 u1 rfl
    have hc2 : w.cell? ⟨g, k * 5 + 4, none⟩ = some v1 := h1 4 v1 rfl
    rw [hu] at hc
    rw [hv] at hc2
    injection hc with hc
    injection hc2 with hc2
    subst hc hc2
    refine ⟨u, v, fun p x hx => (ht.cell h.lt hg _).trans (h1 p x ?_), hL⟩
    unfold rowE at hx ⊢
    rw [h3.1, h3.2.1, h3.2.2] at hx
    exact hx
  · have hd : upR D i d' k = D k := by simp [upR, e]
    rw [hd]
    exact ⟨u1, v1, fun p x hx => (ht.cell h.lt hg _).trans (h1 p x hx), (keepsLE _).turn h2 ht (fun b hb hb2 => h.two k i hk hi e b hb (hT b hb2))⟩
end Go.Proofs.YtmooajppfjglaaaGreat

/- The laws' mark on a list of shelves of one's own; conditions: the sizes. -/
namespace Go.Proofs.YtmooajppfjglaaaGreat
open Go Go.RowKit

/-- The first j of them are marked, from k on. -/
def MarkedS (k : Int) (S : Nat → Nat) (D D' : Nat → RegD) (j : Nat) : Prop :=
  (∀ i, (D' i).ps.length = (D i).ps.length ∧ (D' i).os.length = (D i).os.length) ∧ ∀ i, i < j → (D' i).t = k + S i ∧ (D' i).q = k + S i + 1 ∧ (D' i).v = k + S i + 1 + 1 ∧ Marked (k + S i + 1 + 1 + 1) (D' i).ps ∧ MarkedQ (k + S i + 1 + 1 + 1 + 2 * (D i).ps.length) (D' i).os

set_option maxRecDepth 100000 in
set_option maxHeartbeats 8000000 in
theorem mark_RS {w : World} {G n cap : Nat} {D : Nat → RegD} {Fs : Nat → Nat → Prop} {k : Int} (h : RegsE w G n D Fs) (hn : n ≤ 1048576) (S : Nat → Nat) (hS0 : S 0 = 0) (hS : ∀ j, j < n → S (j + 1) = S j + 3 + 2 * (D j).ps.length + 4 * (D j).os.length) (hSn : ∀ j, j ≤ n → S j ≤ 20000000) (hlen : ∀ j, j < n → (D j).ps.length ≤ 1048577 ∧ (D j).os.length ≤ 1048577) (hk0 : 0 ≤ k) (hk1 : k ≤ 10000000) :
    Calls Tryz.prog 38 #[.slice (some ⟨G, 0, none⟩) n cap, .int .i64 k] w fun e w' => e = .returned (.int .i64 (k + S n)) ∧ Turns (fun b => b = G ∨ ∃ i, i < n ∧ Fs i b) w w' ∧ ∃ D', RegsE w' G n D' Fs ∧ MarkedS k S D D' n := by
  have HS := Lib.hid hS
  have HSN := Lib.hid hSn
  have HLN := Lib.hid hlen
  have HS0 := Lib.hid hS0
  clear hS hSn hlen hS0
  go_enter Tryz.func38, Tryz.ntmps38
  go_wp2
  go_loopw [1, 5] (fun kv i wr => ∃ (j : Nat) (D' : Nat → RegD), j ≤ n ∧ i = .int .i64 j ∧ kv = .int .i64 (k + S j) ∧ RegsE wr G n D' Fs ∧ Hid (MarkedS k S D D' j) ∧ Turns (fun b => b = G ∨ ∃ i, i < n ∧ Fs i b) w wr) (fun _ i _ => n - (intOf i).toNat)
  case atStart => exact ⟨0, D, Nat.zero_le _, rfl, by rw [HS0.out]; simp, h, Lib.hid ⟨fun _ => ⟨rfl, rfl⟩, fun i hi => absurd hi (by omega)⟩, Turns.of_below (Below.refl _ _)⟩
  case round =>
    clear h
    obtain ⟨j, D', hj, rfl, rfl, h, hl, ht⟩ := hrel
    by_cases hlt : j < n
    · obtain ⟨u, v, hr, -⟩ := h.row j hlt
      have c0 : wr.cell? ⟨G, j * 5, none⟩ = some (.int .i64 (D' j).t) := hr 0 _ rfl
      have c1 : wr.cell? ⟨G, j * 5 + 1, none⟩ = some (.int .i64 (D' j).q) := hr 1 _ rfl
      have c2 : wr.cell? ⟨G, j * 5 + 2, none⟩ = some (.int .i64 (D' j).v) := hr 2 _ rfl
      have c3 : wr.cell? ⟨G, j * 5 + 3, none⟩ = some u := hr 3 _ rfl
      have c4 : wr.cell? ⟨G, j * 5 + 4, none⟩ = some v := hr 4 _ rfl
      have fG := h.fr
      have hSj := HSN.out j hj
      obtain ⟨q, hq⟩ : ∃ q : Int, k + (S j : Int) = q := ⟨_, rfl⟩
      have hq0 : 0 ≤ q := by omega
      have hq1 : q ≤ 30000000 := by omega
      rw [hq]
      have HQ := Lib.hid hq
      clear hq hSj
      have v0 : IntKind.i64.wrap (q + 1) = q + 1 := IntWalk.i64_in _ (by omega)
      have v1 : IntKind.i64.wrap (q + 1 + 1) = q + 1 + 1 := IntWalk.i64_in _ (by omega)
      have v2 : IntKind.i64.wrap (q + 1 + 1 + 1) = q + 1 + 1 + 1 := IntWalk.i64_in _ (by omega)
      have hkw : IntKind.i64.wrap ((j : Int) + 1) = (j : Int) + 1 := IntWalk.i64_in _ (by omega)
      have hltI : (j : Int) < (n : Int) := by omega
      have HSJ := Lib.hid (HS.out j hlt)
      have HLJ := Lib.hid (HLN.out j hlt)
      have HLE := Lib.hid (hl.out.1 j)
      go_upto_region 10 with fail
      have K3 := h.three hlt q (q + 1) (q + 1 + 1)
      have t3 : Turns (· = G) wr (((wr.setCell ⟨G, j * 5, none⟩ (.int .i64 q)).setCell ⟨G, j * 5 + 1, none⟩ (.int .i64 (q + 1))).setCell ⟨G, j * 5 + 2, none⟩ (.int .i64 (q + 1 + 1))) := ((turns_cell5 wr G _ _).trans (turns_cell5 _ G _ _)).trans (turns_cell5 _ G _ _)
      clear c0 c1 c2 c3 c4 fG v0 v1 v2 hr
      generalize (((wr.setCell ⟨G, j * 5, none⟩ (.int .i64 q)).setCell ⟨G, j * 5 + 1, none⟩ (.int .i64 (q + 1))).setCell ⟨G, j * 5 + 2, none⟩ (.int .i64 (q + 1 + 1))) = w7 at K3 t3 ⊢
      obtain ⟨u, v, hr3, hL3⟩ := K3.row j hlt
      rw [upR_same] at hr3 hL3
      obtain ⟨A, m, mc, A', m', mc', lo, B, hi, e3, hP, hQ, o1, o2, o3, hF⟩ := hL3
      have huv : u = .slice A m mc ∧ v = .slice A' m' mc' := by simpa [rowE] using e3
      obtain ⟨rfl, rfl⟩ := huv
      clear e3
      have c3 : w7.cell? ⟨G, j * 5 + 3, none⟩ = some (.slice A m mc) := hr3 3 _ rfl
      have c4 : w7.cell? ⟨G, j * 5 + 4, none⟩ = some (.slice A' m' mc') := hr3 4 _ rfl
      obtain ⟨q7, hq7⟩ : ∃ q7 : Int, q + 1 + 1 + 1 = q7 := ⟨_, rfl⟩
      rw [hq7]
      have HQ7 := Lib.hid hq7
      have hp0 : 0 ≤ q7 := by omega
      have hp1 : q7 ≤ 30000007 := by omega
      clear hq7 hq0 hq1 hr3
      have HP := Lib.hid hP
      have HQQ := Lib.hid hQ
      have HF := Lib.hid hF
      clear hP hQ hF
      go_upto_region 11 with (go_at_call 48; refine (markPE_is q7 HP.out (by rw [HLE.out.1]; exact HLJ.out.1) hp0 (by omega)).mono ?_; rintro e w8 ⟨rfl, D2, hd1, hd2, hR2, hB⟩)
      have t8 := Turns.of_band hB
      have hGn : ¬ Iv lo hi G := fun hb => K3.apart j hlt G (HF.out G hb) rfl
      have hQ8 := HQQ.out.turn t8 (fun b h1 h2 => by unfold Iv at h1 h2; omega)
      have c48 := (t8.cell K3.lt (fun hb => hGn ⟨hb.1, Nat.lt_of_lt_of_le hb.2 o2⟩) (j * 5 + 4)).trans c4
      obtain ⟨q8, hq8⟩ : ∃ q8 : Int, q7 + 2 * ((D' j).ps.length : Int) = q8 := ⟨_, rfl⟩
      have hql := HLJ.out.1
      have hql2 := HLE.out.1
      rw [hq8]
      have HQ8 := Lib.hid hq8
      have hr0 : 0 ≤ q8 := by omega
      have hr1 : q8 ≤ 40000000 := by omega
      have HD1 := Lib.hid hd1
      have HD2 := Lib.hid hd2
      have HR2 := Lib.hid hR2
      have HQR := Lib.hid hQ8
      have C3 := Lib.hid c3
      have C4 := Lib.hid c4
      clear hq8 hql hql2 hd1 hd2 hR2 hQ8 hB c3 c4
      go_wp2_with (go_at_call 91; refine (markQE_is q8 HQR.out (by rw [HLE.out.2]; exact HLJ.out.2) hr0 (by omega)).mono ?_; rintro e w9 ⟨rfl, D3, he1, he2, hR3, hB2⟩)
      have t9 := Turns.of_band hB2
      have tt : Turns (Iv lo hi) w7 w9 := (t8.sub (fun b _ hb => ⟨hb.1, Nat.lt_of_lt_of_le hb.2 o2⟩)).trans (t9.sub (fun b _ hb => ⟨Nat.le_trans o1 hb.1, hb.2⟩))
      have hL9 : LieE ⟨q, q + 1, q + 1 + 1, D2, D3⟩ w9 (Fs j) (.agg (rowE ⟨q, q + 1, q + 1 + 1, D2, D3⟩ (.slice A m mc) (.slice A' m' mc')).toArray) :=
        ⟨A, m, mc, A', m', mc', lo, B, hi, rfl, HR2.out.turn t9 (fun b h1 h2 => by unfold Iv at h1 h2; omega), hR3, o1, o2, Nat.le_trans o3 tt.size, HF.out⟩
      have K9 := K3.lists hlt tt HF.out C3.out C4.out (by rw [upR_same]; exact ⟨rfl, rfl, rfl⟩) hL9
      rw [upR_twice] at K9
      go_roundw
      case rel =>
        refine ⟨j + 1, _, by omega, by go_num, ?_, K9, Lib.hid ⟨fun i => ?_, fun i hi1 => ?_⟩, ?_⟩
        · rw [HSJ.out]
          have h1 := HQ8.out
          have h2 := HQ7.out
          have h3 := HQ.out
          have h4 := HLE.out
          congr 1
          omega
        · by_cases e : i = j
          · subst e
            rw [upR_same]
            exact ⟨HD1.out.trans HLE.out.1, he1.trans HLE.out.2⟩
          · rw [show ∀ d, upR D' j d i = D' i from fun d => by simp [upR, e]]
            exact hl.out.1 i
        · by_cases e : i = j
          · subst e
            rw [upR_same]
            have h1 := HQ8.out
            have h2 := HQ7.out
            have h3 := HQ.out
            have h4 := HLE.out.1
            refine ⟨h3.symm, by rw [h3], by rw [h3], by rw [h3, h2]; exact HD2.out, ?_⟩
            rw [h3, h2, ← h4, h1]
            exact he2
          · rw [show ∀ d, upR D' j d i = D' i from fun d => by simp [upR, e]]
            exact hl.out.2 i (by omega)
        · exact (ht.trans (t3.sub (fun _ _ e => .inl e))).trans (tt.sub (fun b _ hb => .inr ⟨j, hlt, HF.out b hb⟩))
      case measure => simp [intOf]; omega
    · have hjn : j = n := by omega
      subst hjn
      go_wp2
      go_ret
      exact ⟨rfl, ht, D', h, hl.out⟩
end Go.Proofs.YtmooajppfjglaaaGreat

/- The laws' look at the marks on a list of shelves of one's own; conditions: the sizes. -/
namespace Go.Proofs.YtmooajppfjglaaaGreat
open Go Go.RowKit

set_option maxRecDepth 100000 in
set_option maxHeartbeats 8000000 in
theorem held_RS {w : World} {G n cap : Nat} {D D' : Nat → RegD} {Fs : Nat → Nat → Prop} {k : Int} (S : Nat → Nat) (h : RegsE w G n D' Fs) (hm : MarkedS k S D D' n) (hn : n ≤ 1048576) (hS0 : S 0 = 0) (hS : ∀ j, j < n → S (j + 1) = S j + 3 + 2 * (D j).ps.length + 4 * (D j).os.length) (hSn : ∀ j, j ≤ n → S j ≤ 20000000) (hlen : ∀ j, j < n → (D j).ps.length ≤ 1048577 ∧ (D j).os.length ≤ 1048577) (hk0 : 0 ≤ k) (hk1 : k ≤ 10000000) :
    Calls Tryz.prog 39 #[.slice (some ⟨G, 0, none⟩) n cap, .int .i64 k] w fun e w' => e = .returned (.int .i64 (k + S n)) ∧ w = w' := by
  have HS := Lib.hid hS
  have HSN := Lib.hid hSn
  have HLN := Lib.hid hlen
  have HS0 := Lib.hid hS0
  have HM := Lib.hid hm
  clear hS hSn hlen hS0 hm
  go_enter Tryz.func39, Tryz.ntmps39
  go_wp2
  go_loopw [1, 5] (fun kv i wr => ∃ j : Nat, j ≤ n ∧ i = .int .i64 j ∧ kv = .int .i64 (k + S j) ∧ w = wr) (fun _ i _ => n - (intOf i).toNat)
  case atStart => exact ⟨0, Nat.zero_le _, rfl, by rw [HS0.out]; simp, rfl⟩
  case round =>
    obtain ⟨j, hj, rfl, rfl, rfl⟩ := hrel
    by_cases hlt : j < n
    · obtain ⟨u, v, hr, hL⟩ := h.row j hlt
      obtain ⟨A, m, mc, A', m', mc', lo, B, hi, e3, hP, hQ, -⟩ := hL
      have huv : u = .slice A m mc ∧ v = .slice A' m' mc' := by simpa [rowE] using e3
      obtain ⟨rfl, rfl⟩ := huv
      clear e3
      obtain ⟨m0, m1, m2, m3, m4⟩ := HM.out.2 j hlt
      have hSj := HSN.out j hj
      obtain ⟨q, hq⟩ : ∃ q : Int, k + (S j : Int) = q := ⟨_, rfl⟩
      rw [hq] at m0 m1 m2 m3 m4 ⊢
      have c0 : w.cell? ⟨G, j * 5, none⟩ = some (.int .i64 q) := m0 ▸ hr 0 _ rfl
      have c1 : w.cell? ⟨G, j * 5 + 1, none⟩ = some (.int .i64 (q + 1)) := m1 ▸ hr 1 _ rfl
      have c2 : w.cell? ⟨G, j * 5 + 2, none⟩ = some (.int .i64 (q + 1 + 1)) := m2 ▸ hr 2 _ rfl
      have c3 : w.cell? ⟨G, j * 5 + 3, none⟩ = some (.slice A m mc) := hr 3 _ rfl
      have c4 : w.cell? ⟨G, j * 5 + 4, none⟩ = some (.slice A' m' mc') := hr 4 _ rfl
      have hq0 : 0 ≤ q := by omega
      have hq1 : q ≤ 30000000 := by omega
      have HQ := Lib.hid hq
      clear hq hSj hr
      have v0 : IntKind.i64.wrap (q + 1) = q + 1 := IntWalk.i64_in _ (by omega)
      have v1 : IntKind.i64.wrap (q + 1 + 1) = q + 1 + 1 := IntWalk.i64_in _ (by omega)
      have v2 : IntKind.i64.wrap (q + 1 + 1 + 1) = q + 1 + 1 + 1 := IntWalk.i64_in _ (by omega)
      have hkw : IntKind.i64.wrap ((j : Int) + 1) = (j : Int) + 1 := IntWalk.i64_in _ (by omega)
      have hltI : (j : Int) < (n : Int) := by omega
      have HSJ := Lib.hid (HS.out j hlt)
      have HLJ := Lib.hid (HLN.out j hlt)
      have HLE := Lib.hid (HM.out.1 j)
      have HP := Lib.hid hP
      have HQQ := Lib.hid hQ
      have M3 := Lib.hid m3
      have M4 := Lib.hid m4
      clear hP hQ m0 m1 m2 m3 m4
      go_upto_region 13 with fail
      obtain ⟨q7, hq7⟩ : ∃ q7 : Int, q + 1 + 1 + 1 = q7 := ⟨_, rfl⟩
      rw [hq7]
      have hM3 := M3.out
      have hM4 := M4.out
      rw [hq7] at hM3 hM4
      have HQ7 := Lib.hid hq7
      have hp0 : 0 ≤ q7 := by omega
      have hp1 : q7 ≤ 30000007 := by omega
      rw [← HLE.out.1] at hM4
      have HM3 := Lib.hid hM3
      have HM4 := Lib.hid hM4
      clear hq7 hq0 hq1 hM3 hM4 M3 M4 v0 v1 v2 c0 c1 c2
      go_upto_region 14 with (go_at_call 92; refine (heldPE_is q7 HP.out HM3.out (by rw [HLE.out.1]; exact HLJ.out.1) hp0 (by omega)).mono ?_; rintro e w8 ⟨rfl, rfl⟩)
      obtain ⟨q8, hq8⟩ : ∃ q8 : Int, q7 + 2 * ((D' j).ps.length : Int) = q8 := ⟨_, rfl⟩
      have hql := HLJ.out.1
      have hql2 := HLE.out.1
      have hM4 := HM4.out
      rw [hq8] at hM4 ⊢
      have HQ8 := Lib.hid hq8
      have hr0 : 0 ≤ q8 := by omega
      have hr1 : q8 ≤ 40000000 := by omega
      have hneg : ¬ q8 < 0 := by omega
      replace HM4 := Lib.hid hM4
      have hfin : ¬ q8 + 4 * ((D' j).os.length : Int) < 0 := by omega
      clear hq8 hql hql2 hM4
      go_wp2_with (go_at_call 93; refine (heldQE_is q8 HQQ.out HM4.out (by rw [HLE.out.2]; exact HLJ.out.2) hr0 (by omega)).mono ?_; rintro e w9 ⟨rfl, rfl⟩)
      go_roundw
      case rel =>
        refine ⟨j + 1, by omega, by go_num, ?_, by trivial⟩
        rw [HSJ.out]
        have h1 := HQ8.out
        have h2 := HQ7.out
        have h3 := HQ.out
        have h4 := HLE.out
        congr 1
        omega
      case measure => simp [intOf]; omega
    · have hjn : j = n := by omega
      subst hjn
      go_wp2
      go_ret
      exact ⟨rfl, rfl⟩
end Go.Proofs.YtmooajppfjglaaaGreat

/- The laws' copy of a list of records; conditions: the sizes. -/
namespace Go.Proofs.YtmooajppfjglaaaGreat
open Go Go.RowKit

theorem Tryz.infoRec9 : (Tryz.prog.info? 42).map (fun i => (i.zero, i.size, i.bytes)) = some (some (.agg (zeroC.cells (.slice none 0 0))), 9, 88) := by kernel_rfl
theorem run_make_recs {P : Program} (t e : TypeId) (ht : P.underlying t = some (.slice e)) (hinfo : (P.info? e).map (fun i => (i.zero, i.size, i.bytes)) = some (some (.agg (zeroC.cells (.slice none 0 0))), 9, 88))
    (n : Nat) (hn : n ≤ 1048576) (w : World) :
    (Instr.makeSlice t (.int .i64 (n : Int)) (.int .i64 (n : Int))).run P w = .ok (.slice (some ⟨w.heap.size, 0, none⟩) n n) (w.alloc (.cells (madeCells (zeroC.cells (.slice none 0 0)) (n * 9)) e)) := by
  obtain ⟨i, hi, hzz⟩ := Option.map_eq_some_iff.1 hinfo
  simp only [Prod.mk.injEq] at hzz
  obtain ⟨hz, hs, hb⟩ := hzz
  have hr := run_make (P := P) w t e i _ ht hi hz .i64 .i64 n n (by omega) (Int.le_refl _) (by rw [hb]; omega) (by omega)
  simp only [Int.toNat_natCast, hs] at hr
  exact hr
/-- The first k of them, and nothing behind. -/
def recsK (ds : List RecD) (k : Nat) : Nat → RecD := fun j => if j < k then ds.getD j zeroC else zeroC
theorem recsK_zero (ds : List RecD) : recsK ds 0 = fun _ => zeroC := by
  funext j
  simp [recsK]
theorem recsK_step (ds : List RecD) {k : Nat} (h : k < ds.length) : upD (recsK ds k) k ds[k] = recsK ds (k + 1) := by
  funext j
  unfold upD recsK
  by_cases e : j = k
  · subst e
    rw [if_pos rfl, if_pos (by omega), List.getD_eq_getElem?_getD, List.getElem?_eq_getElem h]
    rfl
  · rw [if_neg e]
    by_cases e2 : j < k
    · rw [if_pos e2, if_pos (by omega)]
    · rw [if_neg e2, if_neg (by omega)]
theorem RecsOwn.there {w : World} {g lo n : Nat} {D : Nat → RecD} (h : RecsOwn w g lo n D) {i : Nat} (hi : i < n) : w.there g (i * 9) 9 := by
  obtain ⟨_, Fs, hR, _⟩ := h
  exact hR.there hi
theorem one_cells {d : RecD} {w : World} {F : Nat → Prop} {u : Value} (h : OwnP w F u d.ps) : (d.cells u).all (·.oneCell') = true := by
  rcases h with ⟨rfl, -⟩ | ⟨g, cap, -, rfl, -⟩ <;> simp [RecD.cells, Value.oneCell']
theorem grown_setCells9 {w w1 : World} (h : Below w.heap.size w w1) (g o : Nat) (vs : List Value) : w.grownBy (w1.setCells g o vs) (some g) := by
  have t := turns_setCells9 g vs o w1
  exact ⟨t.os.trans h.os, t.tape.trans h.tape, t.output.trans h.output, Nat.le_trans h.size t.size, fun i hi hne => (t.block i (Nat.lt_of_lt_of_le hi h.size) (fun e => hne (by rw [e]))).trans (h.block i hi)⟩

set_option maxRecDepth 100000 in
set_option maxHeartbeats 4000000 in
theorem to_CS {ds : List RecD} {w : World} {F : Nat → Prop} {A : Option Addr} {n cap : Nat} (h : RecsF ds w F A n) (hF : ∀ b, F b → b < w.heap.size) (hz : totC ds ≤ 1048576) :
    Calls Tryz.prog 32 #[.slice A n cap] w fun e w' => ∃ G, e = .returned (.slice (some ⟨G, 0, none⟩) n n) ∧ RecsOwn w' G w.heap.size n (recsK ds n) ∧ Below w.heap.size w w' := by
  have HL := Lib.hid h.1
  have hnn : n ≤ 1048576 := by have := totC_rest ds 0; rw [totC_zero] at this; have := h.1; omega
  have HZ := Lib.hid (fun k (hk : k < ds.length) => totC_mem ds hk)
  have HBW := Lib.hid hF
  have hmk := fun W => run_make_recs (P := Tryz.prog) 27 42 Tryz.underlying27 Tryz.infoRec9 n hnn W
  have K0 := recs_new w 42 n
  have hb1 := bel_alloc w (.cells (madeCells (zeroC.cells (.slice none 0 0)) (n * 9)) 42)
  have HH := Lib.hid (h.later hb1)
  clear h
  go_enter Tryz.func32, Tryz.ntmps32
  go_upto_region 2 with fail
  clear hmk
  generalize (w.alloc (.cells (madeCells (zeroC.cells (.slice none 0 0)) (n * 9)) 42)) = w2 at K0 hb1 HH ⊢
  have hGl : w.heap.size < w2.heap.size := by
    obtain ⟨_, Fs, hR, _⟩ := K0
    exact hR.lt
  go_wp2
  go_loopw [4] (fun i wr => ∃ k : Nat, k ≤ n ∧ i = .int .i64 k ∧ RecsOwn wr w.heap.size w.heap.size n (recsK ds k) ∧ w2.grownBy wr (some w.heap.size)) (fun i _ => n - (intOf i).toNat)
  case atStart => exact ⟨0, Nat.zero_le _, rfl, by rw [recsK_zero]; exact K0, grown_refl _ _⟩
  case round =>
    clear K0
    obtain ⟨k, hk, rfl, K, hgw⟩ := hrel
    by_cases hlt : k < n
    · have hkd : k < ds.length := by have := HL.out; omega
      have hD := HH.out
      obtain ⟨b, o, hA, hbF, hbl, -⟩ := hD.2 (by omega)
      subst hA
      have hbw : b < w.heap.size := HBW.out b hbF
      obtain ⟨L, m, mc, hrec, hat⟩ := hD.atC hkd (by omega)
      have hzz := HZ.out k hkd
      have hst := recsK_step ds hkd
      obtain ⟨d, hd⟩ : ∃ d : RecD, ds[k] = d := ⟨_, rfl⟩
      rw [hd] at hrec hat hzz hst
      have hsz : d.sz ≤ 1048576 := by unfold RecD.sz; omega
      have hT : ∀ j x, w2.cell? ⟨b, j, none⟩ = some x → wr.cell? ⟨b, j, none⟩ = some x := fun j x h => (hgw.cell_far ⟨b, j, none⟩ hbl (fun e => by injection e with e; have e2 : b = w.heap.size := e; omega)).trans h
      obtain ⟨c0, c1, c2, c3, c4, c5, c6, c7, c8⟩ := hrec
      replace c0 := hT _ _ c0
      replace c1 := hT _ _ c1
      replace c2 := hT _ _ c2
      replace c3 := hT _ _ c3
      replace c4 := hT _ _ c4
      replace c5 := hT _ _ c5
      replace c6 := hT _ _ c6
      replace c7 := hT _ _ c7
      replace c8 := hT _ _ c8
      have HAT := Lib.hid ((keepsC d).turn hat (Turns.of_grown hgw) (fun b hb e => by have := HBW.out b hb; have e2 : b = w.heap.size := e; omega))
      have HST := Lib.hid hst
      have hltI : (k : Int) < (n : Int) := by omega
      have hkw : IntKind.i64.wrap ((k : Int) + 1) = (k : Int) + 1 := IntWalk.i64_in _ (by omega)
      clear hd hD hat hzz hst hT
      go_wp2_with (first | (go_at_call 86; refine (to_C HAT.out hsz).mono ?_; rintro e w3 ⟨C, rfl, hL, hb3⟩; obtain ⟨u, hC, hO⟩ := hL; injection hC with hC; subst hC; have HTH := Lib.hid ((K.later hb3).there hlt); have HO := Lib.hid hO; clear hO) | (refine wpList_store_mid rfl 42 _ _ rfl w.heap.size (k * 9) (d.cells u) rfl rfl HTH.out (by kernel_rfl) (one_cells HO.out) ?_; have KN := Lib.hid (RecsOwn.put K hb3 hlt (d := d) (u := u) ⟨u, rfl, HO.out⟩); have GN := Lib.hid (grown_trans hgw (grown_setCells9 hb3 w.heap.size (k * 9) (d.cells u).toList)); rw [HST.out] at KN; generalize (World.setCells w3 _ _ _) = w4 at KN GN ⊢; try simp only [Act.put]))
      go_roundw
      case rel => exact ⟨k + 1, by omega, by go_num, KN.out, GN.out⟩
      case measure => simp [intOf]; omega
    · have hkn : k = n := by omega
      subst hkn
      go_wp2
      go_ret
      exact ⟨w.heap.size, rfl, K, bel_grown hb1 hgw (by omega)⟩
end Go.Proofs.YtmooajppfjglaaaGreat

/- Records of one's own, read as a list; conditions: none. -/
namespace Go.Proofs.YtmooajppfjglaaaGreat
open Go Go.RowKit

theorem RecsOwn.reads {w : World} {G lo n : Nat} {ds : List RecD} (h : RecsOwn w G lo n (recsK ds n)) (hn : ds.length = n) : RecsF ds w (fun b => b < w.heap.size) (some ⟨G, 0, none⟩) n := by
  obtain ⟨_, Fs, hR, hF⟩ := h
  refine ⟨hn, fun _ => ⟨G, 0, rfl, hR.lt, hR.lt, fun i hi => ?_⟩⟩
  have hi' : i < n := by omega
  obtain ⟨u, h1, h2⟩ := hR.row i hi'
  have hd : recsK ds n i = ds[i] := by
    unfold recsK
    rw [if_pos hi', List.getD_eq_getElem?_getD, List.getElem?_eq_getElem hi]
    rfl
  rw [hd] at h1 h2
  obtain ⟨L, m, mc, e, hm, hp⟩ := ((keepsC _).sub h2.at (fun b hb => (hF i hi' b hb).2) : AtC ds[i] w (fun b => b < w.heap.size) _)
  injection e with e
  have hu : u = .slice L m mc := by simpa [RecD.cells] using e
  subst hu
  refine ⟨L, m, mc, ?_, hm, hp⟩
  rw [Nat.zero_add]
  exact ⟨h1 0 _ rfl, h1 1 _ rfl, h1 2 _ rfl, h1 3 _ rfl, h1 4 _ rfl, h1 5 _ rfl, h1 6 _ rfl, h1 7 _ rfl, h1 8 _ rfl⟩
end Go.Proofs.YtmooajppfjglaaaGreat

/- How many marks a list of records and a list of shelves take; shelves by ranges carried on; conditions: the sizes. -/
namespace Go.Proofs.YtmooajppfjglaaaGreat
open Go Go.RowKit

def sumC (D : Nat → RecD) : Nat → Nat
  | 0 => 0
  | j + 1 => sumC D j + 8 + 2 * (D j).ps.length
theorem sumC_le {ds : List RecD} {n : Nat} (hn : ds.length = n) (hz : totC ds ≤ 1048576) : ∀ j, j ≤ n → sumC (recsK ds n) j ≤ 20000000 := by
  have key : ∀ j, j ≤ n → sumC (recsK ds n) j ≤ 8 * totC (ds.take j) := by
    intro j
    induction j with
    | zero => intro _; exact Nat.zero_le _
    | succ j ih =>
      intro hj
      have hjd : j < ds.length := by omega
      have h1 := ih (by omega)
      have h2 := totC_snoc ds hjd
      have hd : recsK ds n j = ds[j] := by
        unfold recsK
        rw [if_pos (by omega), List.getD_eq_getElem?_getD, List.getElem?_eq_getElem hjd]
        rfl
      unfold sumC
      rw [hd, h2]
      omega
  intro j hj
  have h1 := key j hj
  have h2 := totC_take ds j
  omega
def sumR (D : Nat → RegD) : Nat → Nat
  | 0 => 0
  | j + 1 => sumR D j + 3 + 2 * (D j).ps.length + 4 * (D j).os.length
theorem sumR_le {D : Nat → RegD} {n : Nat} (hn : n ≤ 4) (hz : ∀ i, i < n → (D i).ps.length + (D i).os.length ≤ 1048576) : ∀ j, j ≤ n → sumR D j ≤ 20000000 := by
  have key : ∀ j, j ≤ n → sumR D j ≤ j * 4194307 := by
    intro j
    induction j with
    | zero => intro _; exact Nat.le_refl _
    | succ j ih =>
      intro hj
      have h1 := ih (by omega)
      have h2 := hz j (by omega)
      unfold sumR
      omega
  intro j hj
  have h1 := key j hj
  omega
theorem RegsE.turn {w w' : World} {g n : Nat} {D : Nat → RegD} {Fs : Nat → Nat → Prop} {T : Nat → Prop} (h : RegsE w g n D Fs) (ht : Turns T w w') (hg : ¬ T g) (hF : ∀ i, i < n → ∀ b, Fs i b → ¬ T b) : RegsE w' g n D Fs :=
  ⟨Nat.lt_of_lt_of_le h.lt ht.size, fun o => (ht.frozen h.lt hg o).trans (h.fr o), fun i hi => by
    obtain ⟨u, v, h1, h2⟩ := h.row i hi
    exact ⟨u, v, fun j x hx => (ht.cell h.lt hg _).trans (h1 j x hx), (keepsLE _).turn h2 ht (hF i hi)⟩, h.apart, h.two⟩
theorem RegsE.later {w w' : World} {g n : Nat} {D : Nat → RegD} {Fs : Nat → Nat → Prop} (h : RegsE w g n D Fs) (hb : Below w.heap.size w w') : RegsE w' g n D Fs :=
  h.turn (T := fun _ => False) (Turns.of_below hb) (fun h => h) (fun _ _ _ _ h => h)
/-- Every shelf that is answered is short. -/
theorem replD_sz (g : GrpD) (ds : List RecD) (hz : totC ds ≤ 1048576) : ∀ i, i < (replD g ds).1.length → (regOf (replD g ds).1 i).ps.length + (regOf (replD g ds).1 i).os.length ≤ 1048576 := by
  intro i hi
  unfold replD at hi ⊢
  split at hi
  · rename_i hc
    rw [if_pos hc]
    have h1 := shelves_sz g ds ds.length (Nat.le_refl _) i
    have h2 := totC_take ds ds.length
    rw [List.take_length] at h1 h2
    show (regOf (shelves g ds) i).ps.length + (regOf (shelves g ds) i).os.length ≤ 1048576
    omega
  · exact absurd hi (by simp)
theorem replD_len (g : GrpD) (ds : List RecD) : (replD g ds).1.length ≤ 4 := by
  unfold replD
  split
  · rename_i hc
    rw [Bool.and_eq_true] at hc
    have hok : okB g.s g.l g.c g.sh g.zs = true := hc.1
    obtain ⟨h1, h2⟩ := okB_sh hok
    show (shelves g ds).length ≤ 4
    rw [shelves_len]
    omega
  · exact Nat.zero_le _
end Go.Proofs.YtmooajppfjglaaaGreat

/- Both Replayed as a law meets them: over a copy of a group and a list of records, read; the arguments' variables; conditions: the sizes. -/
namespace Go.Proofs.YtmooajppfjglaaaGreat
open Go Go.RowKit

theorem specReplayed8_is {g : GrpD} {ds : List RecD} {w : World} {F0 : Nat → Prop} {C0 : Array Value} {LA : Option Addr} {ln lc : Nat} (h0 : AtG g w F0 (.agg C0)) (h1 : RecsF ds w (· < w.heap.size) LA ln) (hz : totC ds ≤ 1048576) :
    Calls Tryz.prog 14 #[.agg C0, .slice LA ln lc] w (MadeReps AtW (replD g ds).1 (replD g ds).2 w) := by
  obtain ⟨A, n, cap, e0, m0, hr⟩ := h0
  injection e0 with e0
  subst e0
  exact specReplayed_is g ds A n cap LA ln lc w m0 hr.1 h1 hz
theorem replayed8_is {g : GrpD} {ds : List RecD} {w : World} {F0 : Nat → Prop} {C0 : Array Value} {LA : Option Addr} {ln lc : Nat} (h0 : AtG g w F0 (.agg C0)) (h1 : RecsF ds w (· < w.heap.size) LA ln) (hz : totC ds ≤ 1048576) :
    Calls Tryz.prog 13 #[.agg C0, .slice LA ln lc] w (MadeReps LieE (replD g ds).1 (replD g ds).2 w) := by
  obtain ⟨A, n, cap, e0, m0, hr⟩ := h0
  injection e0 with e0
  subst e0
  exact replayed_is g ds A n cap LA ln lc w m0 hr.1 h1 hz
/-- The variables of the arguments, as they were given. -/
structure PreRep (w wr : World) (C0 : Array Value) (d0 : GrpD) (ds : List RecD) (LA : Option Addr) (n : Nat) : Prop where
  v0 : VarOf (AtG d0) 58 wr (· < w.heap.size) (w.heap.size) C0
  l1 : RecsF ds wr (· < w.heap.size) LA n
  bel : Below w.heap.size w wr
theorem PreRep.later {w wr w' : World} {C0 : Array Value} {d0 : GrpD} {ds : List RecD} {LA : Option Addr} {n : Nat} (h : PreRep w wr C0 d0 ds LA n) (hb : Below wr.heap.size wr w') : PreRep w w' C0 d0 ds LA n :=
  ⟨h.v0.later (keepsG d0) hb, h.l1.later hb, bel_trans h.bel hb⟩
theorem PreRep.turn {w wr w' : World} {C0 : Array Value} {d0 : GrpD} {ds : List RecD} {LA : Option Addr} {n : Nat} {T : Nat → Prop} (h : PreRep w wr C0 d0 ds LA n) (ht : Turns T wr w') (hT : ∀ b, T b → w.heap.size < b) : PreRep w w' C0 d0 ds LA n :=
  ⟨h.v0.turn (keepsG d0) ht (fun hb => by have := hT _ hb; omega) (fun b hb hb2 => by have := hT b hb2; omega), h.l1.turn ht (fun b hb hb2 => by have := hT b hb2; omega), ht.below h.bel (fun b hb => by have := hT b hb; omega)⟩
theorem PreRep.start {w : World} {C0 : Array Value} {d0 : GrpD} {ds : List RecD} {LA : Option Addr} {n : Nat} (h0 : AtG d0 w (· < w.heap.size) (.agg C0)) (h1 : RecsF ds w (· < w.heap.size) LA n) : PreRep w (w.alloc (.cells C0 58)) C0 d0 ds LA n := by
  have e0 := bel_alloc w (.cells C0 58)
  exact ⟨⟨Box.new w 58 C0, by omega, (keepsG d0).later h0 e0⟩, h1.later e0, e0⟩
end Go.Proofs.YtmooajppfjglaaaGreat

/- The laws' helpers over lists of shelves: two lists compared; conditions: the sizes. -/
namespace Go.Proofs.YtmooajppfjglaaaGreat
open Go Go.RowKit

/-- A list of shelves, read. -/
def RegsR (rs : List RegD) (w : World) (A : Option Addr) (n : Nat) : Prop :=
  rs.length = n ∧ (0 < n → ∃ b, A = some ⟨b, 0, none⟩ ∧ b < w.heap.size ∧ ∀ i (h : i < rs.length), ∃ u v, w.cell? ⟨b, i * 5, none⟩ = some (.int .i64 (rs[i]).t) ∧ w.cell? ⟨b, i * 5 + 1, none⟩ = some (.int .i64 (rs[i]).q) ∧ w.cell? ⟨b, i * 5 + 2, none⟩ = some (.int .i64 (rs[i]).v) ∧ w.cell? ⟨b, i * 5 + 3, none⟩ = some u ∧ w.cell? ⟨b, i * 5 + 4, none⟩ = some v ∧
    AtR rs[i] w (fun _ => True) (.agg #[.int .i64 (rs[i]).t, .int .i64 (rs[i]).q, .int .i64 (rs[i]).v, u, v]))
theorem RegsR.later {rs : List RegD} {w w' : World} {A : Option Addr} {n : Nat} (h : RegsR rs w A n) (hb : Below w.heap.size w w') : RegsR rs w' A n := by
  refine ⟨h.1, fun hn => ?_⟩
  obtain ⟨b, hA, hbl, hc⟩ := h.2 hn
  have F : ∀ o x, w.cell? ⟨b, o, none⟩ = some x → w'.cell? ⟨b, o, none⟩ = some x := fun o x h => (hb.cell (p := ⟨b, o, none⟩) hbl).trans h
  refine ⟨b, hA, Nat.lt_of_lt_of_le hbl hb.size, fun i hi => ?_⟩
  obtain ⟨u, v, c0, c1, c2, c3, c4, h5⟩ := hc i hi
  exact ⟨u, v, F _ _ c0, F _ _ c1, F _ _ c2, F _ _ c3, F _ _ c4, (keepsR _).later h5 hb⟩
theorem RegsOwn.reads {P : RegD → World → (Nat → Prop) → Value → Prop} (hP : ∀ d w F v, P d w F v → AtR d w (fun _ => True) v) {w : World} {G lo : Nat} {rs : List RegD} (h : RegsOwn P w G lo rs) {n : Nat} (hn : rs.length = n) : RegsR rs w (some ⟨G, 0, none⟩) n := by
  obtain ⟨_, Fs, hR, _⟩ := h
  refine ⟨hn, fun _ => ⟨G, rfl, hR.lt, fun i hi => ?_⟩⟩
  obtain ⟨u, v, c0, c1, c2, c3, c4, hp⟩ := hR.get hi
  exact ⟨u, v, c0, c1, c2, c3, c4, hP _ _ _ _ hp⟩
theorem AtW.read {d : RegD} {w : World} {F : Nat → Prop} {v : Value} (h : AtW d w F v) : AtR d w (fun _ => True) v := (keepsR d).sub h.at (fun _ _ => trivial)
theorem LieE.read {d : RegD} {w : World} {F : Nat → Prop} {v : Value} (h : LieE d w F v) : AtR d w (fun _ => True) v := by
  obtain ⟨A, n, c, A', n', c', lo, B, hi, e, h1, h2, -⟩ := h
  have hs1 := h1.slc
  have hs2 := h2.slc
  have m1 : n ≤ maxLen := by
    rcases h1 with ⟨h, -⟩ | ⟨g, cap, _, _, h, h3, h4, _⟩
    · injection h with _ h _; omega
    · injection h with _ h _; omega
  have m2 : n' ≤ maxLen := by
    rcases h2 with ⟨h, -⟩ | ⟨g, cap, _, _, h, h3, h4, _⟩
    · injection h with _ h _; omega
    · injection h with _ h _; omega
  refine ⟨A, n, c, A', n', c', e, m1, m2, ⟨?_, fun _ _ _ _ => trivial⟩, ⟨?_, fun _ _ _ _ => trivial⟩⟩
  · rcases hs1.1 with ⟨h, hd⟩ | ⟨b, o, n1, c1, h, hp⟩
    · injection h with q1 q2 _
      subst q1 q2
      rw [hd]
      exact ⟨rfl, fun h => absurd h (by omega)⟩
    · injection h with q1 q2 _
      subst q1 q2
      exact hp
  · rcases hs2.1 with ⟨h, hd⟩ | ⟨b, o, n1, c1, h, _, _, hp⟩
    · injection h with q1 q2 _
      subst q1 q2
      rw [hd]
      exact ⟨rfl, fun h => absurd h (by omega)⟩
    · injection h with q1 q2 _
      subst q1 q2
      exact hp
theorem atAfterR {d : RegD} {w : World} {F : Nat → Prop} {v : Value} (h : AtR d w F v) (pw : After w) : AtR d pw.x F v := (keepsR d).later h pw.bel

set_option maxRecDepth 100000 in
set_option maxHeartbeats 4000000 in
theorem eq_RS {rs : List RegD} {w : World} {A A' : Option Addr} {n cap cap' : Nat} (h : RegsR rs w A n) (h' : RegsR rs w A' n) (hn : n ≤ 1048576) (hz : ∀ k (h : k < rs.length), (rs[k]).ps.length ≤ 1048576 ∧ (rs[k]).os.length ≤ 1048577) :
    Calls Tryz.prog 33 #[.slice A n cap, .slice A' n cap'] w fun e w' => e = .returned (.bool true) ∧ Below w.heap.size w w' := by
  have HL := Lib.hid h.1
  have HH := Lib.hid h
  have HH' := Lib.hid h'
  have HZ := Lib.hid hz
  clear h h' hz
  go_enter Tryz.func33, Tryz.ntmps33
  go_wp2
  go_loopw [5] (fun i wr => ∃ k : Nat, k ≤ n ∧ i = .int .i64 k ∧ Below w.heap.size w wr) (fun i _ => n - (intOf i).toNat)
  case atStart => exact ⟨0, Nat.zero_le _, rfl, Below.refl _ _⟩
  case round =>
    obtain ⟨k, hk, rfl, hb⟩ := hrel
    by_cases hlt : k < n
    · have hkd : k < rs.length := by have := HL.out; omega
      obtain ⟨b, hA, hbl, hc⟩ := (HH.out.later hb).2 (by omega)
      obtain ⟨b', hA', hbl', hc'⟩ := (HH'.out.later hb).2 (by omega)
      subst hA hA'
      obtain ⟨u, v, c0, c1, c2, c3, c4, hat⟩ := hc k hkd
      obtain ⟨u', v', k0, k1, k2, k3, k4, hat'⟩ := hc' k hkd
      have hzz := HZ.out k hkd
      obtain ⟨d, hd⟩ : ∃ d : RegD, rs[k] = d := ⟨_, rfl⟩
      rw [hd] at c0 c1 c2 hat k0 k1 k2 hat' hzz
      have f0 := After.cell hbl c0
      have f1 := After.cell hbl c1
      have f2 := After.cell hbl c2
      have f3 := After.cell hbl c3
      have f4 := After.cell hbl c4
      have e0 := After.cell hbl' k0
      have e1 := After.cell hbl' k1
      have e2 := After.cell hbl' k2
      have e3 := After.cell hbl' k3
      have e4 := After.cell hbl' k4
      have hltI : (k : Int) < (n : Int) := by omega
      have hkw : IntKind.i64.wrap ((k : Int) + 1) = (k : Int) + 1 := IntWalk.i64_in _ (by omega)
      have HAT := Lib.hid hat
      have HAT' := Lib.hid hat'
      have HZZ := Lib.hid hzz
      clear hd hat hat' hzz hc hc'
      go_upto_region 6 with fail
      refine wp_region_after (by kernel_rfl) (by kernel_rfl) ?_
      repeat (first | go_big_quiet_step ((go_at_call 87; exact after_of (eq_R (atAfterR HAT.out _) (atAfterR HAT'.out _) HZZ.out.1 HZZ.out.2))) | quiet_step ((go_at_call 87; exact after_of (eq_R (atAfterR HAT.out _) (atAfterR HAT'.out _) HZZ.out.1 HZZ.out.2))))
      refine wpQuiet_nil ?_
      intro pw
      clear f0 f1 f2 f3 f4 e0 e1 e2 e3 e4
      go_wp2
      go_roundw
      case rel => exact ⟨k + 1, by omega, by go_num, bel_trans hb pw.bel⟩
      case measure => simp [intOf]; omega
    · have hkn : k = n := by omega
      subst hkn
      go_wp2
      go_ret
      exact ⟨rfl, hb⟩
end Go.Proofs.YtmooajppfjglaaaGreat

/- The exact law of Replayed, walked (written by laws_replayed.py); conditions: the sizes. -/
namespace Go.Proofs.YtmooajppfjglaaaGreat
open Go Go.RowKit

/-- Shelves whose blocks all lie below hi. -/
def RegsLow (P : RegD → World → (Nat → Prop) → Value → Prop) (w : World) (g hi : Nat) (rs : List RegD) : Prop :=
  g < hi ∧ ∃ Fs, RegsAt P w g rs Fs ∧ ∀ i, i < rs.length → ∀ b, Fs i b → b < hi
theorem RegsOwn.upto {P : RegD → World → (Nat → Prop) → Value → Prop} {w : World} {g lo : Nat} {rs : List RegD} (h : RegsOwn P w g lo rs) : RegsLow P w g w.heap.size rs := by
  obtain ⟨_, Fs, hR, hF⟩ := h
  exact ⟨hR.lt, Fs, hR, fun i hi b hb => (hF i hi b hb).2⟩
theorem RegsLow.turn {P : RegD → World → (Nat → Prop) → Value → Prop} (kp : ∀ d, Keeps (P d)) {w w' : World} {g hi : Nat} {rs : List RegD} {T : Nat → Prop} (h : RegsLow P w g hi rs) (ht : Turns T w w') (hT : ∀ b, T b → hi ≤ b) : RegsLow P w' g hi rs := by
  obtain ⟨hg, Fs, hR, hF⟩ := h
  exact ⟨hg, Fs, RegsAt.turn kp hR ht (fun h => by have := hT _ h; omega) (fun i hi b hb hb2 => by have := hT b hb2; have := hF i hi b hb; omega), hF⟩
theorem RegsLow.later {P : RegD → World → (Nat → Prop) → Value → Prop} (kp : ∀ d, Keeps (P d)) {w w' : World} {g hi : Nat} {rs : List RegD} (h : RegsLow P w g hi rs) (hb : Below w.heap.size w w') : RegsLow P w' g hi rs := RegsLow.turn kp h (T := fun _ => False) (Turns.of_below hb) (fun _ h => h.elim)
theorem RegsLow.reads {P : RegD → World → (Nat → Prop) → Value → Prop} (hP : ∀ d w F v, P d w F v → AtR d w (fun _ => True) v) {w : World} {G hi : Nat} {rs : List RegD} (h : RegsLow P w G hi rs) {n : Nat} (hn : rs.length = n) : RegsR rs w (some ⟨G, 0, none⟩) n := by
  obtain ⟨_, Fs, hR, _⟩ := h
  refine ⟨hn, fun _ => ⟨G, rfl, hR.lt, fun i hi => ?_⟩⟩
  obtain ⟨u, v, c0, c1, c2, c3, c4, hp⟩ := hR.get hi
  exact ⟨u, v, c0, c1, c2, c3, c4, hP _ _ _ _ hp⟩
/-- Records of one's own, all blocks from lo to hi. -/
def RecsIn (w : World) (g lo hi n : Nat) (D : Nat → RecD) : Prop :=
  hi ≤ w.heap.size ∧ lo ≤ g ∧ g < hi ∧ ∃ Fs, RecsAt w g n D Fs ∧ ∀ i, i < n → ∀ b, Fs i b → lo ≤ b ∧ b < hi
theorem RecsOwn.into {w : World} {g lo n : Nat} {D : Nat → RecD} (h : RecsOwn w g lo n D) : RecsIn w g lo w.heap.size n D := by
  obtain ⟨hg, Fs, hR, hF⟩ := h
  exact ⟨Nat.le_refl _, hg, hR.lt, Fs, hR, hF⟩
theorem RecsIn.own {w : World} {g lo hi n : Nat} {D : Nat → RecD} (h : RecsIn w g lo hi n D) : RecsOwn w g lo n D := by
  obtain ⟨hs, hg, _, Fs, hR, hF⟩ := h
  exact ⟨hg, Fs, hR, fun i hi b hb => ⟨(hF i hi b hb).1, Nat.lt_of_lt_of_le (hF i hi b hb).2 hs⟩⟩
theorem RecsIn.turn {w w' : World} {g lo hi n : Nat} {D : Nat → RecD} {T : Nat → Prop} (h : RecsIn w g lo hi n D) (ht : Turns T w w') (hT : ∀ b, T b → b < lo) : RecsIn w' g lo hi n D := by
  obtain ⟨hs, hg, hh, Fs, hR, hF⟩ := h
  exact ⟨Nat.le_trans hs ht.size, hg, hh, Fs, hR.turn ht (fun h => by have := hT _ h; omega) (fun i hi b hb hb2 => by have := hT b hb2; have := (hF i hi b hb).1; omega), hF⟩
theorem RecsIn.later {w w' : World} {g lo hi n : Nat} {D : Nat → RecD} (h : RecsIn w g lo hi n D) (hb : Below w.heap.size w w') : RecsIn w' g lo hi n D := h.turn (T := fun _ => False) (Turns.of_below hb) (fun _ h => h.elim)
theorem recsK_len {ds : List RecD} {n : Nat} (hn : ds.length = n) (hz : totC ds ≤ 1048576) : n ≤ 1048576 ∧ ∀ j, j < n → (recsK ds n j).ps.length ≤ 1048577 := by
  have h0 := totC_rest ds 0
  rw [totC_zero] at h0
  refine ⟨by omega, fun j hj => ?_⟩
  have hjd : j < ds.length := by omega
  have h2 := totC_snoc ds hjd
  have h3 := totC_take ds (j + 1)
  have hd : recsK ds n j = ds[j] := by
    unfold recsK
    rw [if_pos hj, List.getD_eq_getElem?_getD, List.getElem?_eq_getElem hjd]
    rfl
  rw [hd]
  omega
theorem regs_len {rs : List RegD} (h : ∀ i, i < rs.length → (regOf rs i).ps.length + (regOf rs i).os.length ≤ 1048576) : ∀ j, j < rs.length → (regOf rs j).ps.length ≤ 1048577 ∧ (regOf rs j).os.length ≤ 1048577 := fun j hj => by have := h j hj; exact ⟨by omega, by omega⟩

/-- What goes along: the arguments, what was wanted, what was got, the copies kept; behind the arguments' variables what was wanted, then the copies, then what was got. -/
structure GoR (w wr : World) (C0 : Array Value) (d0 : GrpD) (ds : List RecD) (LA : Option Addr) (n : Nat) (rs : List RegD) (GW H4 GG V : Nat) (C2 : Array Value) (G2 L7 H7 : Nat) : Prop where
  K : PreRep w wr C0 d0 ds LA n
  W : RegsLow AtW wr GW H4 rs
  R : RegsOwn LieE wr GG H7 rs
  X : Box wr V 26 C2
  G : LieG d0 wr (Iv H4 V) (.agg C2)
  L : RecsIn wr G2 L7 H7 n (recsK ds n)
  o : w.heap.size < H4 ∧ H4 ≤ V ∧ V < L7 ∧ L7 ≤ H7
theorem GoR.later {w wr w' : World} {C0 : Array Value} {d0 : GrpD} {ds : List RecD} {LA : Option Addr} {n : Nat} {rs : List RegD} {GW H4 GG V : Nat} {C2 : Array Value} {G2 L7 H7 : Nat} (h : GoR w wr C0 d0 ds LA n rs GW H4 GG V C2 G2 L7 H7) (hb : Below wr.heap.size wr w') : GoR w w' C0 d0 ds LA n rs GW H4 GG V C2 G2 L7 H7 :=
  ⟨h.K.later hb, RegsLow.later keepsW h.W hb, RegsOwn.later keepsLE h.R hb, h.X.later hb h.X.lt, (keepsLG d0).later h.G hb, h.L.later hb, h.o⟩
/-- The copy of the group is marked. -/
structure GoM (w wr : World) (C0 : Array Value) (d0 : GrpD) (ds : List RecD) (LA : Option Addr) (n : Nat) (rs : List RegD) (GW H4 GG G2 L7 H7 : Nat) : Prop where
  K : PreRep w wr C0 d0 ds LA n
  W : RegsLow AtW wr GW H4 rs
  R : RegsOwn LieE wr GG H7 rs
  L : RecsIn wr G2 L7 H7 n (recsK ds n)
  o : w.heap.size < H4 ∧ H4 < L7 ∧ L7 ≤ H7
theorem GoR.marked {w wr w' : World} {C0 : Array Value} {d0 : GrpD} {ds : List RecD} {LA : Option Addr} {n : Nat} {rs : List RegD} {GW H4 GG V : Nat} {C2 : Array Value} {G2 L7 H7 : Nat} (h : GoR w wr C0 d0 ds LA n rs GW H4 GG V C2 G2 L7 H7) (ht : Turns (Iv H4 V) wr w') : GoM w w' C0 d0 ds LA n rs GW H4 GG G2 L7 H7 := by
  obtain ⟨o1, o2, o3, o4⟩ := h.o
  exact ⟨h.K.turn ht (fun b hb => by have := hb.1; omega), RegsLow.turn keepsW h.W ht (fun b hb => hb.1), RegsOwn.turn keepsLE h.R ht (fun b hb => by have := hb.2; omega), h.L.turn ht (fun b hb => by have := hb.2; omega), o1, by omega, o4⟩
/-- Both copies are marked. -/
structure GoN (w wr : World) (C0 : Array Value) (d0 : GrpD) (ds : List RecD) (LA : Option Addr) (n : Nat) (rs : List RegD) (GW H4 GG H7 : Nat) : Prop where
  K : PreRep w wr C0 d0 ds LA n
  W : RegsLow AtW wr GW H4 rs
  R : RegsOwn LieE wr GG H7 rs
  o : w.heap.size < H4 ∧ H4 < H7
theorem GoN.later {w wr w' : World} {C0 : Array Value} {d0 : GrpD} {ds : List RecD} {LA : Option Addr} {n : Nat} {rs : List RegD} {GW H4 GG H7 : Nat} (h : GoN w wr C0 d0 ds LA n rs GW H4 GG H7) (hb : Below wr.heap.size wr w') : GoN w w' C0 d0 ds LA n rs GW H4 GG H7 :=
  ⟨h.K.later hb, RegsLow.later keepsW h.W hb, RegsOwn.later keepsLE h.R hb, h.o⟩
theorem GoM.marked {w wr w' : World} {C0 : Array Value} {d0 : GrpD} {ds : List RecD} {LA : Option Addr} {n : Nat} {rs : List RegD} {GW H4 GG G2 L7 H7 : Nat} (h : GoM w wr C0 d0 ds LA n rs GW H4 GG G2 L7 H7) {Fs : Nat → Nat → Prop} (hF : ∀ i, i < n → ∀ b, Fs i b → L7 ≤ b ∧ b < H7) (ht : Turns (fun b => b = G2 ∨ ∃ i, i < n ∧ Fs i b) wr w') : GoN w w' C0 d0 ds LA n rs GW H4 GG H7 := by
  obtain ⟨o1, o2, o3⟩ := h.o
  obtain ⟨_, hg, hg2, _⟩ := h.L
  have key : ∀ b, (b = G2 ∨ ∃ i, i < n ∧ Fs i b) → L7 ≤ b ∧ b < H7 := by
    rintro b (rfl | ⟨i, hi, hb⟩)
    · exact ⟨hg, hg2⟩
    · exact hF i hi b hb
  exact ⟨h.K.turn ht (fun b hb => by have := key b hb; omega), RegsLow.turn keepsW h.W ht (fun b hb => by have := key b hb; omega), RegsOwn.turn keepsLE h.R ht (fun b hb => (key b hb).2), o1, by omega⟩
/-- What was got is marked. -/
structure GoE (w wr : World) (C0 : Array Value) (d0 : GrpD) (ds : List RecD) (LA : Option Addr) (n : Nat) (rs : List RegD) (GW H4 GG : Nat) (D' : Nat → RegD) (Fs : Nat → Nat → Prop) : Prop where
  K : PreRep w wr C0 d0 ds LA n
  W : RegsLow AtW wr GW H4 rs
  R : RegsE wr GG rs.length D' Fs
theorem GoE.later {w wr w' : World} {C0 : Array Value} {d0 : GrpD} {ds : List RecD} {LA : Option Addr} {n : Nat} {rs : List RegD} {GW H4 GG : Nat} {D' : Nat → RegD} {Fs : Nat → Nat → Prop} (h : GoE w wr C0 d0 ds LA n rs GW H4 GG D' Fs) (hb : Below wr.heap.size wr w') : GoE w w' C0 d0 ds LA n rs GW H4 GG D' Fs :=
  ⟨h.K.later hb, RegsLow.later keepsW h.W hb, h.R.later hb⟩
theorem GoN.marked {w wr w' : World} {C0 : Array Value} {d0 : GrpD} {ds : List RecD} {LA : Option Addr} {n : Nat} {rs : List RegD} {GW H4 GG H7 : Nat} (h : GoN w wr C0 d0 ds LA n rs GW H4 GG H7) {D' : Nat → RegD} {Fs : Nat → Nat → Prop} (hF : ∀ i, i < rs.length → ∀ b, Fs i b → H7 ≤ b ∧ b < wr.heap.size) (ht : Turns (fun b => b = GG ∨ ∃ i, i < rs.length ∧ Fs i b) wr w') (hE : RegsE w' GG rs.length D' Fs) : GoE w w' C0 d0 ds LA n rs GW H4 GG D' Fs := by
  obtain ⟨o1, o2⟩ := h.o
  have hg := h.R.1
  have key : ∀ b, (b = GG ∨ ∃ i, i < rs.length ∧ Fs i b) → H7 ≤ b := by
    rintro b (rfl | ⟨i, hi, hb⟩)
    · exact hg
    · exact (hF i hi b hb).1
  exact ⟨h.K.turn ht (fun b hb => by have := key b hb; omega), RegsLow.turn keepsW h.W ht (fun b hb => by have := key b hb; omega), hE⟩

set_option maxRecDepth 100000 in
set_option maxHeartbeats 16000000 in
theorem exactReplayed_any (C0 : Array Value) (d0 : GrpD) (ds : List RecD) (LA : Option Addr) (n lc : Nat) (w : World) (h0 : AtG d0 w (· < w.heap.size) (.agg C0)) (h1 : RecsF ds w (· < w.heap.size) LA n) (hm : n ≤ maxLen) :
    Calls Tryz.prog 6 #[.agg C0, .slice LA n lc] w fun e w' => e = .returned (.bool true) ∧ Below w.heap.size w w' := by
  have I0 := Lib.hid (sizeG h0).1
  have J0 := Lib.hid (sizeG h0).2
  have K0 := PreRep.start h0 h1
  have HL := Lib.hid h1.1
  clear h0 h1
  go_enter Tryz.func6, Tryz.ntmps6
  go_wp2_with (refine wpList_load_box 58 _ rfl (w.heap.size) rfl 58 C0 K0.v0.box _ Tryz.underlying58 rfl I0.out (by first | rfl | simp [Region.wanted, yielded] | (simp [Region.wanted, yielded, Act.put] <;> omega)) ?_)
  generalize (w.alloc _ : World) = w0 at K0 ⊢
  refine (sz_G K0.v0.dat).mono ?_
  rintro e w1 ⟨⟨u, rfl, hle, hgt⟩, hb⟩
  replace K0 := K0.later hb
  clear hb
  rcases Int.lt_or_le (1048576) (d0.sz : Int) with hs0 | hs0
  · have hu := hgt hs0
    clear hle hgt
    have E := K0.bel
    go_wp2
    go_ret
    exact ⟨rfl, E⟩
  have hu := hle hs0
  clear hle hgt
  subst hu
  have hu0 : ¬ (1048576 - (d0.sz : Int) < 0) := by omega
  go_wp2_with fail
  refine (sz_CS K0.l1 hm (L := 1048576 - (d0.sz : Int)) (by omega) (by omega)).mono ?_
  rintro e w1 ⟨⟨u, rfl, hle, hgt⟩, hb⟩
  replace K0 := K0.later hb
  clear hb
  rcases Int.lt_or_le (1048576 - (d0.sz : Int)) (totC ds : Int) with hs1 | hs1
  · have hu := hgt hs1
    clear hle hgt
    have E := K0.bel
    go_wp2
    go_ret
    exact ⟨rfl, E⟩
  have hu := hle hs1
  clear hle hgt
  subst hu
  have hu1 : ¬ (1048576 - (d0.sz : Int) - (totC ds : Int) < 0) := by omega
  have hz0 : d0.sz ≤ 1048576 := by omega
  have hz1 : totC ds ≤ 1048576 := by omega
  go_wp2_with (refine wpList_load_box 58 _ rfl (w.heap.size) rfl 58 C0 K0.v0.box _ Tryz.underlying58 rfl I0.out (by first | rfl | simp [Region.wanted, yielded] | (simp [Region.wanted, yielded, Act.put] <;> omega)) ?_)
  refine (to_G K0.v0.dat hz0).mono ?_
  rintro e w2 ⟨C1, rfl, hG1, hb⟩
  replace K0 := K0.later hb
  clear hb
  go_wp2_with fail
  have hsw := K0.bel.size
  refine (to_CS K0.l1 (fun b hb => Nat.lt_of_lt_of_le hb hsw) hz1).mono ?_
  rintro e w3 ⟨G1, rfl, hL1, hb⟩
  replace hG1 := (keepsLG d0).later hG1 hb
  replace K0 := K0.later hb
  clear hb hsw
  go_wp2_with fail
  refine (specReplayed8_is hG1.at (hL1.reads HL.out) hz1).mono ?_
  rintro e w4 ⟨GW, cw, rfl, hW, hb⟩
  replace K0 := K0.later hb
  clear hb hL1 hG1
  replace hW := RegsOwn.upto hW
  have hrl := replD_len d0 ds
  have hrs := replD_sz d0 ds hz1
  obtain ⟨rs, hrsE⟩ : ∃ rs, (replD d0 ds).1 = rs := ⟨_, rfl⟩
  obtain ⟨z, hzE⟩ : ∃ z, (replD d0 ds).2 = z := ⟨_, rfl⟩
  rw [hrsE] at hrl hrs hW ⊢
  rw [hzE]
  have HRS := Lib.hid hrsE
  have HZE := Lib.hid hzE
  have HSZ := Lib.hid hrs
  clear hrsE hzE hrs
  have hzz : (z != z) = false := by simp
  have hsv := K0.bel.size
  have hV0 := K0.v0.box.lt
  go_wp2_with (refine wpList_load_box 58 _ rfl (w.heap.size) rfl 58 C0 K0.v0.box _ Tryz.underlying58 rfl I0.out (by first | rfl | simp [Region.wanted, yielded] | (simp [Region.wanted, yielded, Act.put] <;> omega)) ?_)
  refine (to_G K0.v0.dat hz0).mono ?_
  rintro e w5 ⟨C2, rfl, hG2, hb⟩
  replace K0 := K0.later hb
  replace hW := RegsLow.later keepsW hW hb
  have hs5 := hb.size
  clear hb
  have ZB := Box.new w5 26 #[.int .i64 0, .int .i64 0, .int .i64 0, .int .i64 0, .slice none 0 0]
  have O := Lib.hid (oneG hG2.at)
  have J2 := Lib.hid (sizeG hG2.at).2
  have hn := bel_new_row w5 #[.int .i64 0, .int .i64 0, .int .i64 0, .int .i64 0, .slice none 0 0] 26 C2
  have VX := (Box.new w5 26 #[.int .i64 0, .int .i64 0, .int .i64 0, .int .i64 0, .slice none 0 0]).setRow C2
  replace K0 := K0.later hn
  replace hW := RegsLow.later keepsW hW hn
  replace hG2 := (keepsLG d0).later hG2 hn
  go_upto_region 10 with (refine wpList_store_row rfl 26 _ _ rfl w5.heap.size _ rfl rfl 26 #[.int .i64 0, .int .i64 0, .int .i64 0, .int .i64 0, .slice none 0 0] ZB J2.out O.out.1.symm O.out.2 ?_)
  clear ZB O hn
  try simp only [Act.put]
  generalize ((w5.alloc _).setRow _ _ : World) = w6 at K0 hW hG2 VX ⊢
  generalize w5.heap.size = V at VX hG2 hs5 ⊢
  have hs6 := VX.lt
  go_wp2_with fail
  have hsw := K0.bel.size
  refine (to_CS K0.l1 (fun b hb => Nat.lt_of_lt_of_le hb hsw) hz1).mono ?_
  rintro e w7 ⟨G2, rfl, hL2, hb⟩
  have hs7 := hb.size
  replace K0 := K0.later hb
  replace hW := RegsLow.later keepsW hW hb
  replace hG2 := (keepsLG d0).later hG2 hb
  replace VX := VX.later hb VX.lt
  clear hb hsw
  go_wp2_with (refine wpList_load_box 26 _ rfl V rfl 26 C2 VX _ Tryz.underlying26 rfl J2.out (by first | rfl | simp [Region.wanted, yielded] | (simp [Region.wanted, yielded, Act.put] <;> omega)) ?_)
  refine (replayed8_is hG2.at (hL2.reads HL.out) hz1).mono ?_
  rintro e w8 ⟨GG, cg, rfl, hR, hb⟩
  replace hL2 := RecsOwn.into hL2
  rw [HRS.out] at hR ⊢
  rw [HZE.out]
  replace K0 := K0.later hb
  replace hW := RegsLow.later keepsW hW hb
  replace hG2 := (keepsLG d0).later hG2 hb
  replace VX := VX.later hb VX.lt
  replace hL2 := hL2.later hb
  clear hb
  have HE := Lib.hid (fun w' (a : RegsR rs w' (some ⟨GG, 0, none⟩) rs.length) (b : RegsR rs w' (some ⟨GW, 0, none⟩) rs.length) => eq_RS (cap := cg) (cap' := cw) a b (by omega) (fun i hi => by have h := HSZ.out i hi; unfold regOf at h; rw [List.getD_eq_getElem?_getD, List.getElem?_eq_getElem hi] at h; exact ⟨by show (rs[i]).ps.length ≤ 1048576; have h2 : (rs[i]).ps.length + (rs[i]).os.length ≤ 1048576 := h; omega, by show (rs[i]).os.length ≤ 1048577; have h2 : (rs[i]).ps.length + (rs[i]).os.length ≤ 1048576 := h; omega⟩))
  go_wp2_with (go_at_call 33; refine (HE.out w8 (hR.reads (fun _ _ _ _ h => h.read) rfl) (hW.reads (fun _ _ _ _ h => h.read) rfl)).mono ?_; rintro e w9 ⟨rfl, hb⟩)
  have Z : GoR w w9 C0 d0 ds LA n rs GW w4.heap.size GG V C2 G2 w6.heap.size w7.heap.size := GoR.later ⟨K0, hW, hR, VX, hG2, hL2, by omega⟩ hb
  clear K0 hW hR VX hG2 hL2 hb
  refine wp_region_sink 5 (fun w' => Box w' V 26 C2 ∧ Box w' w.heap.size 58 C0) (by kernel_rfl) ⟨Z.X, Z.K.v0.box⟩ (fun hH => ?_)
  have hb := (Below.refl w9.heap.size w9).drew
  replace Z := Z.later hb
  clear hb
  generalize w9.drew = w10 at Z hH ⊢
  refine wpAnyE_takeS (i := 0) (v := .agg C2) (by simp only [List.getElem?_toArray, List.getElem?_cons_zero]; rfl) (by kernel_rfl) (by kernel_rfl) (by kernel_rfl) (by exact fun _ _ _ h => h) (by kernel_rfl) ?za hH ?_
  case za => exact yields_box 26 _ rfl (V) rfl 26 C2 (fun _ h => h.1) _ Tryz.underlying26 rfl J2.out (by first | rfl | simp [Region.wanted, yielded] | (simp [Region.wanted, yielded, Act.put] <;> omega))
  try simp only [Act.put, List.setIfInBounds_toArray, List.set_cons_zero, List.set_cons_succ]
  refine wpAnyE_takeS (i := 1) (v := .agg C0) (by simp only [List.getElem?_toArray, List.getElem?_cons_succ, List.getElem?_cons_zero]; rfl) (by kernel_rfl) (by kernel_rfl) (by kernel_rfl) (by exact fun _ _ _ h => h) (by kernel_rfl) ?zb hH ?_
  case zb => exact yields_box 58 _ rfl (w.heap.size) rfl 58 C0 (fun _ h => h.2) _ Tryz.underlying58 rfl I0.out (by first | rfl | simp [Region.wanted, yielded] | (simp [Region.wanted, yielded, Act.put] <;> omega))
  try simp only [Act.put, List.setIfInBounds_toArray, List.set_cons_zero, List.set_cons_succ]
  refine wpAnyE_one (i := 2) (by kernel_rfl) (by simp only [List.getElem?_toArray, List.getElem?_cons_succ, List.getElem?_cons_zero]; rfl) (fun K' hK => ?_)
  go_simp
  refine (to_G Z.K.v0.dat hz0).mono ?_
  rintro e w11 ⟨C3, rfl, hG3, hb⟩
  replace Z := Z.later hb
  clear hb hH
  refine hK.out _ _ ⟨Z.X, Z.K.v0.box⟩ (fun hH => ?_)
  clear hK K'
  try simp only [Act.put, List.setIfInBounds_toArray, List.set_cons_zero, List.set_cons_succ]
  refine wpAnyE_one (i := 3) (by kernel_rfl) (by simp only [List.getElem?_toArray, List.getElem?_cons_succ, List.getElem?_cons_zero]; rfl) (fun K' hK => ?_)
  go_simp
  refine (eq_G Z.G.at hG3.at hz0).mono ?_
  rintro e w12 ⟨rfl, hb⟩
  replace Z := Z.later hb
  clear hb hH hG3
  refine hK.out _ _ ⟨Z.X, Z.K.v0.box⟩ (fun hH => ?_)
  clear hK K'
  try simp only [Act.put, List.setIfInBounds_toArray, List.set_cons_zero, List.set_cons_succ]
  refine wpAnyE_end (i := 4) (by kernel_rfl) (by simp only [List.getElem?_toArray, List.getElem?_cons_succ, List.getElem?_cons_zero]; rfl) (by kernel_rfl) (fun K' hK => ?_)
  go_simp
  refine hK.out _ _ ⟨Z.X, Z.K.v0.box⟩ ?_
  clear hK K' hH
  try simp only [Act.put, List.setIfInBounds_toArray, List.set_cons_zero, List.set_cons_succ]
  go_wp2_with fail
  have hsw := Z.K.bel.size
  refine (to_CS Z.K.l1 (fun b hb => Nat.lt_of_lt_of_le hb hsw) hz1).mono ?_
  rintro e w13 ⟨G3, rfl, hL3, hb⟩
  replace Z := Z.later hb
  clear hb hsw
  go_wp2_with fail
  refine (eq_CS (Z.L.own.reads HL.out) (hL3.reads HL.out) hz1).mono ?_
  rintro e w14 ⟨rfl, hb⟩
  replace Z := Z.later hb
  clear hb hL3
  go_wp2_with (refine wpList_load_box 26 _ rfl V rfl 26 C2 Z.X _ Tryz.underlying26 rfl J2.out (by first | rfl | simp [Region.wanted, yielded] | (simp [Region.wanted, yielded, Act.put] <;> omega)) ?_)
  have m0 : 0 ≤ d0.mk8 ∧ d0.mk8 ≤ 1048576 := by unfold GrpD.mk8; have h8 : d0.zs.length ≤ 1048576 := hz0; omega
  obtain ⟨hnn, hcl⟩ := recsK_len HL.out hz1
  have HCL := Lib.hid hcl
  have hsn := sumC_le HL.out hz1 n (Nat.le_refl _)
  clear hcl
  refine (mark_G (k := 1) Z.G hz0 (by omega) (by omega)).mono ?_
  rintro e w15 ⟨rfl, ht⟩
  have M := Z.marked ht
  clear ht Z
  go_wp2_with fail
  obtain ⟨_, _, _, FL, hLA, hLF⟩ := M.L
  refine (mark_CS (k := 1 + d0.mk8) hLA hnn (sumC (recsK ds n)) rfl (fun _ _ => rfl) (sumC_le HL.out hz1) HCL.out (by omega) (by omega)).mono ?_
  rintro e w16 ⟨rfl, ht, -⟩
  have N := M.marked hLF ht
  clear ht M hLA hLF FL
  generalize hks : sumC (recsK ds n) n = ks at hsn ⊢
  clear hks
  have hk : ¬ ((1 : Int) + d0.mk8 + ks < 0) := by omega
  go_wp2_with (go_at_call 33; refine (HE.out w16 (RegsOwn.reads (fun _ _ _ _ h => h.read) N.R rfl) (RegsLow.reads (fun _ _ _ _ h => h.read) N.W rfl)).mono ?_; rintro e w17 ⟨rfl, hb⟩)
  replace N := N.later hb
  clear hb hk
  obtain ⟨FR, hRE, hRF⟩ := RegsOwn.rangesE N.R
  have hrn := sumR_le hrl HSZ.out rs.length (Nat.le_refl _)
  obtain ⟨rn, hrnE⟩ : ∃ x, sumR (regOf rs) rs.length = x := ⟨_, rfl⟩
  rw [hrnE] at hrn
  have HRN := Lib.hid hrnE
  clear hrnE
  refine (mark_RS (k := 1) hRE (by omega) (sumR (regOf rs)) rfl (fun _ _ => rfl) (sumR_le hrl HSZ.out) (regs_len HSZ.out) (by omega) (by omega)).mono ?_
  rintro e w18 ⟨rfl, ht, D', hRE2, hmk⟩
  rw [HRN.out]
  have Y := N.marked hRF ht hRE2
  have HM := Lib.hid hmk
  clear ht N hRE hRF hRE2 hmk
  have hq : ¬ ((1 : Int) + rn < 0) := by omega
  have hqq : ((1 : Int) + rn != 1 + rn) = false := by simp
  go_wp2_with fail
  refine (held_RS (k := 1) (sumR (regOf rs)) Y.R HM.out (by omega) rfl (fun _ _ => rfl) (sumR_le hrl HSZ.out) (regs_len HSZ.out) (by omega) (by omega)).mono ?_
  rintro e w19 ⟨rfl, rfl⟩
  rw [HRN.out]
  go_wp2_with (refine wpList_load_box 58 _ rfl (w.heap.size) rfl 58 C0 Y.K.v0.box _ Tryz.underlying58 rfl I0.out (by first | rfl | simp [Region.wanted, yielded] | (simp [Region.wanted, yielded, Act.put] <;> omega)) ?_)
  refine (to_G Y.K.v0.dat hz0).mono ?_
  rintro e w20 ⟨C5, rfl, hG5, hb⟩
  replace Y := Y.later hb
  clear hb
  go_wp2_with fail
  have hsw := Y.K.bel.size
  refine (to_CS Y.K.l1 (fun b hb => Nat.lt_of_lt_of_le hb hsw) hz1).mono ?_
  rintro e w21 ⟨G5, rfl, hL5, hb⟩
  replace hG5 := (keepsLG d0).later hG5 hb
  replace Y := Y.later hb
  clear hb hsw
  go_wp2_with fail
  refine (replayed8_is hG5.at (hL5.reads HL.out) hz1).mono ?_
  rintro e w22 ⟨GH, ch, rfl, hH5, hb⟩
  rw [HRS.out] at hH5 ⊢
  rw [HZE.out]
  replace Y := Y.later hb
  clear hb hG5 hL5 HE
  have HE2 := Lib.hid (fun w' (a : RegsR rs w' (some ⟨GH, 0, none⟩) rs.length) (b : RegsR rs w' (some ⟨GW, 0, none⟩) rs.length) => eq_RS (cap := ch) (cap' := cw) a b (by omega) (fun i hi => by have h := HSZ.out i hi; unfold regOf at h; rw [List.getD_eq_getElem?_getD, List.getElem?_eq_getElem hi] at h; exact ⟨by show (rs[i]).ps.length ≤ 1048576; have h2 : (rs[i]).ps.length + (rs[i]).os.length ≤ 1048576 := h; omega, by show (rs[i]).os.length ≤ 1048577; have h2 : (rs[i]).ps.length + (rs[i]).os.length ≤ 1048576 := h; omega⟩))
  go_wp2_with (go_at_call 33; refine (HE2.out w22 (RegsOwn.reads (fun _ _ _ _ h => h.read) hH5 rfl) (RegsLow.reads (fun _ _ _ _ h => h.read) Y.W rfl)).mono ?_; rintro e w23 ⟨rfl, hb⟩)
  replace Y := Y.later hb
  clear hb hH5 HE2
  refine (held_RS (k := 1) (sumR (regOf rs)) Y.R HM.out (by omega) rfl (fun _ _ => rfl) (sumR_le hrl HSZ.out) (regs_len HSZ.out) (by omega) (by omega)).mono ?_
  rintro e w24 ⟨rfl, rfl⟩
  rw [HRN.out]
  have E := Y.K.bel
  clear Y HM
  go_wp2
  go_ret
  exact ⟨rfl, E⟩

end Go.Proofs.YtmooajppfjglaaaGreat

/- A struct of one-cell fields that comes in is read field by field; two facts of the program's own; no conditions. -/
namespace Go.Proofs.YtmooajppfjglaaaGreat
open Go.ChangeShapes Go.WideShapes Go.ChangeAt Go.RowKit Go.Deep
set_option linter.unusedVariables false

/-- A struct of one-cell fields, by value: its cells, each with its own reading. -/
theorem one_fields {H : Type} {enc : TypeId × Value → H} {P : Program} {W : World} {r : Reach} {b0 : Nat} {t : TypeId} {fs : Array Field} {v : Value} {d : DataW H} {p : List MemPlace} (hs : P.underlying t = some (.struct fs)) (hone : oneCellFields P fs = true) (hC : P.cellsOf t = fs.size)
    (hv : Value.okWide P W r b0 t v) (h : DataW.Trod enc P W 0 (fun _ => true) true t v d p) :
    ∃ (l : List Value) (m : Nat), v = .agg l.toArray ∧ l.length = fs.size ∧ ∀ (i : Nat) (f : Field) (u : Value), fs[i]? = some f → l[i]? = some u → ∃ y, DataW.trod enc P W 0 (fun _ => true) true m f.type [u] = some y := by
  obtain ⟨cs, rfl, hsz⟩ := okWide_struct hs hv
  obtain ⟨fuel, hf⟩ := h
  obtain ⟨xs, m, _, _, _, hxl, hg⟩ := DataW.trod_struct hs hf
  obtain ⟨l⟩ := cs
  refine ⟨l, m, rfl, by simpa using hsz.trans hC, fun i f u hi hu => ?_⟩
  have h1 := hg i f hi
  obtain ⟨ho, hk⟩ := hone_of hone i f hi
  rw [ho, hk] at h1
  have e : ((Value.agg (List.toArray l)).cells.toList.drop i).take 1 = [u] := by
    show (l.drop i).take 1 = [u]
    rw [List.take_one, List.head?_drop, hu]
    rfl
  rw [e] at h1
  have hlt : i < xs.length := by rw [hxl]; exact (Array.getElem?_eq_some_iff.1 hi).1
  exact ⟨_, h1.trans (List.getElem?_eq_getElem hlt)⟩

/-- Whatever struct, its cells laid out: each field's own cells with their own reading. -/
theorem sub_fields {H : Type} {enc : TypeId × Value → H} {P : Program} {W : World} {t : TypeId} {fs : Array Field} {fuel : Nat} {cs : List Value} {x : DataW H × List MemPlace} (hs : P.underlying t = some (.struct fs)) (h : DataW.trod enc P W 0 (fun _ => true) true fuel t cs = some x) :
    ∃ m, ∀ (i : Nat) (f : Field), fs[i]? = some f → ∃ y, DataW.trod enc P W 0 (fun _ => true) true m f.type ((cs.drop f.offset).take (P.cellsOf f.type)) = some y := by
  obtain ⟨xs, m, _, _, _, hxl, hg⟩ := DataW.trod_struct hs h
  refine ⟨m, fun i f hi => ?_⟩
  have h1 := hg i f hi
  have hlt : i < xs.length := by rw [hxl]; exact (Array.getElem?_eq_some_iff.1 hi).1
  exact ⟨_, h1.trans (List.getElem?_eq_getElem hlt)⟩

theorem own : ownKnob Tryz.prog.godebug = none := by kernel_rfl
theorem laidOut : laidOutB Tryz.prog = true := by kernel_rfl

end Go.Proofs.YtmooajppfjglaaaGreat

/- A group that comes in is read as four numbers and a row of keys. -/
namespace Go.Proofs.YtmooajppfjglaaaGreat
set_option maxRecDepth 100000
open Go.ChangeShapes Go.WideShapes Go.ChangeAt Go.RowKit Go.Deep
set_option linter.unusedVariables false

/-- What the reading of a group that came in tells: its four numbers, and its keys as a row. -/
theorem group_read {H : Type} {enc : TypeId × Value → H} {W : World} {r : Reach} {b0 : Nat} {v : Value} {d : DataW H} {p : List MemPlace} (hv : Value.okWide Tryz.prog W r b0 58 v) (h : DataW.Trod enc Tryz.prog W 0 (fun _ => true) true 58 v d p) :
    ∃ (s l c sh : Int) (A : Option Addr) (n cap : Nat) (zs : List Int), v = .agg #[.int .i64 s, .int .i64 l, .int .i64 c, .int .i64 sh, .slice A n cap] ∧ Row W W.heap.size A n zs ∧ n ≤ maxLen := by
  obtain ⟨l0, m, rfl, h5, get⟩ := one_fields Tryz.underlying58 (by kernel_rfl) (by kernel_rfl) hv h
  have h5 : l0.length = 5 := h5
  obtain ⟨c0, l1, rfl⟩ : ∃ c0 l1, l0 = c0 :: l1 := List.exists_cons_of_length_pos (by omega)
  obtain ⟨c1, l2, rfl⟩ : ∃ c0 l2, l1 = c0 :: l2 := List.exists_cons_of_length_pos (by simp only [List.length_cons] at h5; omega)
  obtain ⟨c2, l3, rfl⟩ : ∃ c0 l3, l2 = c0 :: l3 := List.exists_cons_of_length_pos (by simp only [List.length_cons] at h5; omega)
  obtain ⟨c3, l4, rfl⟩ : ∃ c0 l4, l3 = c0 :: l4 := List.exists_cons_of_length_pos (by simp only [List.length_cons] at h5; omega)
  obtain ⟨c4, l5, rfl⟩ : ∃ c0 l5, l4 = c0 :: l5 := List.exists_cons_of_length_pos (by simp only [List.length_cons] at h5; omega)
  obtain rfl : l5 = [] := List.eq_nil_of_length_eq_zero (by simp only [List.length_cons] at h5; omega)
  obtain ⟨y0, g0⟩ := get 0 _ _ rfl rfl
  obtain ⟨y1, g1⟩ := get 1 _ _ rfl rfl
  obtain ⟨y2, g2⟩ := get 2 _ _ rfl rfl
  obtain ⟨y3, g3⟩ := get 3 _ _ rfl rfl
  obtain ⟨y4, g4⟩ := get 4 _ _ rfl rfl
  obtain ⟨s, e0, _, _⟩ := DataW.trod_int Tryz.underlying2 g0
  obtain ⟨l, e1, _, _⟩ := DataW.trod_int Tryz.underlying2 g1
  obtain ⟨c, e2, _, _⟩ := DataW.trod_int Tryz.underlying2 g2
  obtain ⟨sh, e3, _, _⟩ := DataW.trod_int Tryz.underlying2 g3
  simp only [List.cons.injEq, and_true] at e0 e1 e2 e3
  subst e0 e1 e2 e3
  rcases open_ints Tryz.underlying24 Tryz.underlying2 (by kernel_rfl) g4 with ⟨e4, _⟩ | ⟨a, len, cap, zs, e4, _, hl, hm, hz, _, hcell, _⟩
  · simp only [List.cons.injEq, and_true] at e4
    subst e4
    exact ⟨s, l, c, sh, none, 0, 0, [], rfl, ⟨rfl, fun h => absurd h (by omega)⟩, by unfold maxLen; omega⟩
  · simp only [List.cons.injEq, and_true] at e4
    subst e4
    have hzc : zs.length = cap := by simpa using hz
    refine ⟨s, l, c, sh, some a, len, cap, zs.take len, rfl, ⟨by rw [List.length_take]; omega, fun hn => ?_⟩, by omega⟩
    obtain ⟨b, o, spot⟩ := a
    have hc0 := hcell 0 (by omega)
    have hs : spot = none := by simpa [Addr.add] using World.cell?_spot hc0
    subst hs
    refine ⟨b, o, rfl, ?_, fun i hi => ?_⟩
    · have := block_lt_of_cell hc0
      simpa [Addr.add] using this
    · have hci := hcell i (by omega)
      have ea : (⟨b, o, none⟩ : Addr).add i = ⟨b, o + i, none⟩ := by
        unfold Addr.add
        split
        · simp_all
        · rfl
      rw [ea] at hci
      rw [hci]
      have : nth (zs.take len) i = zs.getD i 0 := by simp [nth, hi]
      rw [this]

end Go.Proofs.YtmooajppfjglaaaGreat

/- A stamp that comes in is read as two numbers, a list of stamps as a list of pairs; no conditions. -/
namespace Go.Proofs.YtmooajppfjglaaaGreat
set_option maxRecDepth 100000
open Go.ChangeShapes Go.WideShapes Go.ChangeAt Go.RowKit Go.Deep
set_option linter.unusedVariables false

/-- What the reading of a stamp that came in tells: its two numbers. -/
theorem stamp_read {H : Type} {enc : TypeId × Value → H} {W : World} {r : Reach} {b0 : Nat} {v : Value} {d : DataW H} {p : List MemPlace} (hv : Value.okWide Tryz.prog W r b0 74 v) (h : DataW.Trod enc Tryz.prog W 0 (fun _ => true) true 74 v d p) :
    ∃ (c k : Int), v = .agg #[.int .i64 c, .int .i64 k] := by
  obtain ⟨l0, m, rfl, h5, get⟩ := one_fields Tryz.underlying74 (by kernel_rfl) (by kernel_rfl) hv h
  have h5 : l0.length = 2 := h5
  obtain ⟨c0, l1, rfl⟩ : ∃ c0 l1, l0 = c0 :: l1 := List.exists_cons_of_length_pos (by omega)
  obtain ⟨c1, l2, rfl⟩ : ∃ c0 l2, l1 = c0 :: l2 := List.exists_cons_of_length_pos (by simp only [List.length_cons] at h5; omega)
  obtain rfl : l2 = [] := List.eq_nil_of_length_eq_zero (by simp only [List.length_cons] at h5; omega)
  obtain ⟨y0, g0⟩ := get 0 _ _ rfl rfl
  obtain ⟨y1, g1⟩ := get 1 _ _ rfl rfl
  obtain ⟨s, e0, _, _⟩ := DataW.trod_int Tryz.underlying2 g0
  obtain ⟨l, e1, _, _⟩ := DataW.trod_int Tryz.underlying2 g1
  simp only [List.cons.injEq, and_true] at e0 e1
  subst e0 e1
  exact ⟨s, l, rfl⟩

/-- The number that a value is. -/
def intV : Value → Int
  | .int _ z => z
  | _ => 0

/-- What the reading of a slice of structs of two int64 tells: a list of pairs. -/
theorem pairs_of {H : Type} {enc : TypeId × Value → H} {P : Program} {W : World} {t e : TypeId} {f0 f1 : Field} {fuel : Nat} {v : Value} {x : DataW H × List MemPlace} (ht : P.underlying t = some (.slice e)) (he : P.underlying e = some (.struct #[f0, f1]))
    (ce : P.cellsOf e = 2) (o0 : f0.offset = 0) (o1 : f1.offset = 1) (c0 : P.cellsOf f0.type = 1) (c1 : P.cellsOf f1.type = 1) (u0 : P.underlying f0.type = some (.int .i64)) (u1 : P.underlying f1.type = some (.int .i64))
    (h : DataW.trod enc P W 0 (fun _ => true) true fuel t [v] = some x) :
    ∃ (A : Option Addr) (n cap : Nat) (ps : List (Int × Int)), v = .slice A n cap ∧ Pairs W W.heap.size A n ps ∧ n ≤ maxLen := by
  rcases open_slice_pairs ht he ce o0 o1 c0 c1 h with ⟨e4, _⟩ | ⟨a, len, cap, m, n, V0, V1, D0, D1, P0, P1, e4, _, hl, hm, hmm, _, hc⟩
  · simp only [List.cons.injEq, and_true] at e4
    subst e4
    exact ⟨none, 0, 0, [], rfl, ⟨rfl, fun h => absurd h (by omega)⟩, by unfold maxLen; omega⟩
  · simp only [List.cons.injEq, and_true] at e4
    subst e4
    have hmm : m = cap := by simpa using hmm
    refine ⟨some a, len, cap, (List.range len).map fun i => (intV (V0 i), intV (V1 i)), rfl, ⟨by simp, fun hn => ?_⟩, by omega⟩
    obtain ⟨b, o, spot⟩ := a
    have hs : spot = none := by
      have := (hc 0 (by omega)).1
      simpa [Addr.add] using World.cell?_spot this
    subst hs
    have ea : ∀ i, (⟨b, o, none⟩ : Addr).add i = ⟨b, o + i, none⟩ := fun i => by
      unfold Addr.add
      split
      · simp_all
      · rfl
    refine ⟨b, o, rfl, ?_, fun i hi => ?_⟩
    · have := block_lt_of_cell (hc 0 (by omega)).1
      rw [ea] at this
      exact this
    · obtain ⟨h0, h1, t0, t1⟩ := hc i (by omega)
      obtain ⟨z0, e0, _, _⟩ := DataW.trod_int u0 t0
      obtain ⟨z1, e1, _, _⟩ := DataW.trod_int u1 t1
      simp only [List.cons.injEq, and_true] at e0 e1
      rw [ea] at h0 h1
      have ep : pth ((List.range len).map fun i => (intV (V0 i), intV (V1 i))) i = (intV (V0 i), intV (V1 i)) := by simp [pth, hi]
      rw [ep, h0, show o + i * 2 + 1 = o + (i * 2 + 1) by omega, h1, e0, e1]
      exact ⟨rfl, rfl⟩

end Go.Proofs.YtmooajppfjglaaaGreat

/- A list of seals that comes in is read as a list of pairs. -/
namespace Go.Proofs.YtmooajppfjglaaaGreat
set_option maxRecDepth 100000
open Go.ChangeShapes Go.WideShapes Go.ChangeAt Go.RowKit Go.Deep

theorem seals_read {H : Type} {enc : TypeId × Value → H} {W : World} {r : Reach} {b0 : Nat} {v : Value} {d : DataW H} {p : List MemPlace} (hv : Value.okWide Tryz.prog W r b0 75 v) (h : DataW.Trod enc Tryz.prog W 0 (fun _ => true) true 75 v d p) :
    ∃ (A : Option Addr) (n cap : Nat) (ps : List (Int × Int)), v = .slice A n cap ∧ Pairs W W.heap.size A n ps ∧ n ≤ maxLen := by
  obtain ⟨a0, len0, cap0, rfl⟩ := okWide_slice Tryz.underlying75 hv
  obtain ⟨fuel, hf⟩ := h
  exact pairs_of Tryz.underlying75 Tryz.underlying129 (by kernel_rfl) rfl rfl (by kernel_rfl) (by kernel_rfl) Tryz.underlying2 Tryz.underlying2 hf

end Go.Proofs.YtmooajppfjglaaaGreat

/- A claim that comes in is read as five numbers, a seal as two. -/
namespace Go.Proofs.YtmooajppfjglaaaGreat
set_option maxRecDepth 100000
open Go.ChangeShapes Go.WideShapes Go.ChangeAt Go.RowKit Go.Deep
set_option linter.unusedVariables false

/-- What the reading of a seal that came in tells: its two numbers. -/
theorem seal_read {H : Type} {enc : TypeId × Value → H} {W : World} {r : Reach} {b0 : Nat} {v : Value} {d : DataW H} {p : List MemPlace} (hv : Value.okWide Tryz.prog W r b0 129 v) (h : DataW.Trod enc Tryz.prog W 0 (fun _ => true) true 129 v d p) :
    ∃ (c k : Int), v = .agg #[.int .i64 c, .int .i64 k] := by
  obtain ⟨l0, m, rfl, h5, get⟩ := one_fields Tryz.underlying129 (by kernel_rfl) (by kernel_rfl) hv h
  have h5 : l0.length = 2 := h5
  obtain ⟨c0, l1, rfl⟩ : ∃ c0 l1, l0 = c0 :: l1 := List.exists_cons_of_length_pos (by omega)
  obtain ⟨c1, l2, rfl⟩ : ∃ c0 l2, l1 = c0 :: l2 := List.exists_cons_of_length_pos (by simp only [List.length_cons] at h5; omega)
  obtain rfl : l2 = [] := List.eq_nil_of_length_eq_zero (by simp only [List.length_cons] at h5; omega)
  obtain ⟨y0, g0⟩ := get 0 _ _ rfl rfl
  obtain ⟨y1, g1⟩ := get 1 _ _ rfl rfl
  obtain ⟨s, e0, _, _⟩ := DataW.trod_int Tryz.underlying2 g0
  obtain ⟨l, e1, _, _⟩ := DataW.trod_int Tryz.underlying2 g1
  simp only [List.cons.injEq, and_true] at e0 e1
  subst e0 e1
  exact ⟨s, l, rfl⟩

theorem cells_int : Tryz.prog.cellsOf 2 = 1 := by kernel_rfl
theorem cells_stamp : Tryz.prog.cellsOf 74 = 2 := by kernel_rfl
end Go.Proofs.YtmooajppfjglaaaGreat

/- A note that comes in is read as fourteen numbers and two lists of pairs. -/
namespace Go.Proofs.YtmooajppfjglaaaGreat
set_option maxRecDepth 100000
open Go.ChangeShapes Go.WideShapes Go.ChangeAt Go.RowKit Go.Deep
set_option linter.unusedVariables false

theorem cells_seals : Tryz.prog.cellsOf 75 = 1 := by kernel_rfl

/-- One number, read. -/
theorem int_of {H : Type} {enc : TypeId × Value → H} {W : World} {m : Nat} {x : Value} {y : DataW H × List MemPlace} (h : DataW.trod enc Tryz.prog W 0 (fun _ => true) true m 2 [x] = some y) : ∃ z : Int, x = .int .i64 z := by
  obtain ⟨z, e, _, _⟩ := DataW.trod_int Tryz.underlying2 h
  simp only [List.cons.injEq, and_true] at e
  exact ⟨z, e⟩
/-- A stamp's two cells, read. -/
theorem two_of {H : Type} {enc : TypeId × Value → H} {W : World} {m : Nat} {x x' : Value} {y : DataW H × List MemPlace} (h : DataW.trod enc Tryz.prog W 0 (fun _ => true) true m 74 [x, x'] = some y) : ∃ z z' : Int, x = .int .i64 z ∧ x' = .int .i64 z' := by
  obtain ⟨m', get'⟩ := sub_fields Tryz.underlying74 h
  obtain ⟨z0, k0⟩ := get' 0 _ rfl
  obtain ⟨z1, k1⟩ := get' 1 _ rfl
  have k0 : DataW.trod enc Tryz.prog W 0 (fun _ => true) true m' 2 (List.take (Tryz.prog.cellsOf 2) (List.drop 0 [x, x'])) = some z0 := k0
  rw [cells_int] at k0
  have k1 : DataW.trod enc Tryz.prog W 0 (fun _ => true) true m' 2 (List.take (Tryz.prog.cellsOf 2) (List.drop 1 [x, x'])) = some z1 := k1
  rw [cells_int] at k1
  obtain ⟨a, ha⟩ := int_of (show DataW.trod enc Tryz.prog W 0 (fun _ => true) true m' 2 [x] = some z0 from k0)
  obtain ⟨b, hb⟩ := int_of (show DataW.trod enc Tryz.prog W 0 (fun _ => true) true m' 2 [x'] = some z1 from k1)
  exact ⟨a, b, ha, hb⟩

end Go.Proofs.YtmooajppfjglaaaGreat

/- A record that comes in is read as eight numbers and a list of pairs; no conditions. -/
namespace Go.Proofs.YtmooajppfjglaaaGreat
set_option maxRecDepth 100000
open Go.ChangeShapes Go.WideShapes Go.ChangeAt Go.RowKit Go.Deep
set_option linter.unusedVariables false

theorem cells_sealsR : Tryz.prog.cellsOf 75 = 1 := by kernel_rfl
theorem cells_rec : Tryz.prog.cellsOf 121 = 9 := by kernel_rfl

/-- A record's nine cells, read. -/
theorem nine_of {H : Type} {enc : TypeId × Value → H} {W : World} {m : Nat} {c0 c1 c2 c3 c4 c5 c6 c7 c8 : Value} {y : DataW H × List MemPlace} (h : DataW.trod enc Tryz.prog W 0 (fun _ => true) true m 121 [c0, c1, c2, c3, c4, c5, c6, c7, c8] = some y) :
    ∃ (r1 r2 r3 r4 r5 r6 r7 : Int) (L : Option Addr) (n mc : Nat) (r8 : Int) (ps : List (Int × Int)), c0 = .int .i64 r1 ∧ c1 = .int .i64 r2 ∧ c2 = .int .i64 r3 ∧ c3 = .int .i64 r4 ∧ c4 = .int .i64 r5 ∧ c5 = .int .i64 r6 ∧ c6 = .int .i64 r7 ∧ c7 = .slice L n mc ∧ c8 = .int .i64 r8 ∧ Pairs W W.heap.size L n ps ∧ n ≤ maxLen := by
  obtain ⟨m', get⟩ := sub_fields Tryz.underlying121 h
  obtain ⟨z0, g0⟩ := get 0 _ rfl
  have g0 : DataW.trod enc Tryz.prog W 0 (fun _ => true) true m' 2 (List.take (Tryz.prog.cellsOf 2) (List.drop 0 [c0, c1, c2, c3, c4, c5, c6, c7, c8])) = some z0 := g0
  rw [cells_int] at g0
  obtain ⟨z1, g1⟩ := get 1 _ rfl
  have g1 : DataW.trod enc Tryz.prog W 0 (fun _ => true) true m' 2 (List.take (Tryz.prog.cellsOf 2) (List.drop 1 [c0, c1, c2, c3, c4, c5, c6, c7, c8])) = some z1 := g1
  rw [cells_int] at g1
  obtain ⟨z2, g2⟩ := get 2 _ rfl
  have g2 : DataW.trod enc Tryz.prog W 0 (fun _ => true) true m' 2 (List.take (Tryz.prog.cellsOf 2) (List.drop 2 [c0, c1, c2, c3, c4, c5, c6, c7, c8])) = some z2 := g2
  rw [cells_int] at g2
  obtain ⟨z3, g3⟩ := get 3 _ rfl
  have g3 : DataW.trod enc Tryz.prog W 0 (fun _ => true) true m' 2 (List.take (Tryz.prog.cellsOf 2) (List.drop 3 [c0, c1, c2, c3, c4, c5, c6, c7, c8])) = some z3 := g3
  rw [cells_int] at g3
  obtain ⟨z4, g4⟩ := get 4 _ rfl
  have g4 : DataW.trod enc Tryz.prog W 0 (fun _ => true) true m' 74 (List.take (Tryz.prog.cellsOf 74) (List.drop 4 [c0, c1, c2, c3, c4, c5, c6, c7, c8])) = some z4 := g4
  rw [cells_stamp] at g4
  obtain ⟨z5, g5⟩ := get 5 _ rfl
  have g5 : DataW.trod enc Tryz.prog W 0 (fun _ => true) true m' 2 (List.take (Tryz.prog.cellsOf 2) (List.drop 6 [c0, c1, c2, c3, c4, c5, c6, c7, c8])) = some z5 := g5
  rw [cells_int] at g5
  obtain ⟨z6, g6⟩ := get 6 _ rfl
  have g6 : DataW.trod enc Tryz.prog W 0 (fun _ => true) true m' 75 (List.take (Tryz.prog.cellsOf 75) (List.drop 7 [c0, c1, c2, c3, c4, c5, c6, c7, c8])) = some z6 := g6
  rw [cells_sealsR] at g6
  obtain ⟨z7, g7⟩ := get 7 _ rfl
  have g7 : DataW.trod enc Tryz.prog W 0 (fun _ => true) true m' 2 (List.take (Tryz.prog.cellsOf 2) (List.drop 8 [c0, c1, c2, c3, c4, c5, c6, c7, c8])) = some z7 := g7
  rw [cells_int] at g7
  obtain ⟨r1, rfl⟩ := int_of (show DataW.trod enc Tryz.prog W 0 (fun _ => true) true m' 2 [c0] = some z0 from g0)
  obtain ⟨r2, rfl⟩ := int_of (show DataW.trod enc Tryz.prog W 0 (fun _ => true) true m' 2 [c1] = some z1 from g1)
  obtain ⟨r3, rfl⟩ := int_of (show DataW.trod enc Tryz.prog W 0 (fun _ => true) true m' 2 [c2] = some z2 from g2)
  obtain ⟨r4, rfl⟩ := int_of (show DataW.trod enc Tryz.prog W 0 (fun _ => true) true m' 2 [c3] = some z3 from g3)
  obtain ⟨r5, r6, rfl, rfl⟩ := two_of (show DataW.trod enc Tryz.prog W 0 (fun _ => true) true m' 74 [c4, c5] = some z4 from g4)
  obtain ⟨r7, rfl⟩ := int_of (show DataW.trod enc Tryz.prog W 0 (fun _ => true) true m' 2 [c6] = some z5 from g5)
  obtain ⟨L, n, mc, ps, rfl, hp, hm⟩ := pairs_of Tryz.underlying75 Tryz.underlying129 (by kernel_rfl) rfl rfl (by kernel_rfl) (by kernel_rfl) Tryz.underlying2 Tryz.underlying2 (show DataW.trod enc Tryz.prog W 0 (fun _ => true) true m' 75 [c7] = some z6 from g6)
  obtain ⟨r8, rfl⟩ := int_of (show DataW.trod enc Tryz.prog W 0 (fun _ => true) true m' 2 [c8] = some z7 from g7)
  exact ⟨r1, r2, r3, r4, r5, r6, r7, L, n, mc, r8, ps, rfl, rfl, rfl, rfl, rfl, rfl, rfl, rfl, rfl, hp, hm⟩

/-- What the reading of a record that came in tells. -/
theorem rec_read {H : Type} {enc : TypeId × Value → H} {W : World} {r : Reach} {b0 : Nat} {v : Value} {d : DataW H} {p : List MemPlace} (hv : Value.okWide Tryz.prog W r b0 121 v) (h : DataW.Trod enc Tryz.prog W 0 (fun _ => true) true 121 v d p) :
    ∃ (r1 r2 r3 r4 r5 r6 r7 : Int) (L : Option Addr) (n mc : Nat) (r8 : Int) (ps : List (Int × Int)), v = .agg #[.int .i64 r1, .int .i64 r2, .int .i64 r3, .int .i64 r4, .int .i64 r5, .int .i64 r6, .int .i64 r7, .slice L n mc, .int .i64 r8] ∧ Pairs W W.heap.size L n ps ∧ n ≤ maxLen := by
  obtain ⟨cs, rfl, hsz⟩ := okWide_struct Tryz.underlying121 hv
  obtain ⟨y0⟩ := cs
  have h5 : y0.length = 9 := by simpa using hsz.trans cells_rec
  obtain ⟨fuel, hf⟩ := h
  have hf : DataW.trod enc Tryz.prog W 0 (fun _ => true) true fuel 121 y0 = some (d, p) := hf
  match y0, h5 with
  | [c0, c1, c2, c3, c4, c5, c6, c7, c8], _ =>
    obtain ⟨r1, r2, r3, r4, r5, r6, r7, L, n, mc, r8, ps, rfl, rfl, rfl, rfl, rfl, rfl, rfl, rfl, rfl, hp, hm⟩ := nine_of hf
    exact ⟨r1, r2, r3, r4, r5, r6, r7, L, n, mc, r8, ps, rfl, hp, hm⟩

end Go.Proofs.YtmooajppfjglaaaGreat

/- An open that comes in is read as four numbers, a list of opens as a list of them, a shelf as three numbers and two lists; no conditions. -/
namespace Go.Proofs.YtmooajppfjglaaaGreat
set_option maxRecDepth 100000
open Go.ChangeShapes Go.WideShapes Go.ChangeAt Go.RowKit Go.Deep
set_option linter.unusedVariables false

end Go.Proofs.YtmooajppfjglaaaGreat

/- A list of records that comes in is read as a list of records, each with its list of pairs; no conditions. -/
namespace Go.Proofs.YtmooajppfjglaaaGreat
set_option maxRecDepth 100000
open Go.ChangeShapes Go.WideShapes Go.ChangeAt Go.RowKit Go.Deep
set_option linter.unusedVariables false

theorem recs_of {H : Type} {enc : TypeId × Value → H} {W : World} {fuel : Nat} {v : Value} {x : DataW H × List MemPlace} (h : DataW.trod enc Tryz.prog W 0 (fun _ => true) true fuel 59 [v] = some x) :
    ∃ (A : Option Addr) (n cap : Nat) (ds : List RecD), v = .slice A n cap ∧ RecsF ds W (· < W.heap.size) A n ∧ n ≤ maxLen := by
  rcases open_slice Tryz.underlying59 h with ⟨e4, _⟩ | ⟨a, len, cap, m, n, D, Pl, e4, _, hl, hm, hmm, _, hx⟩
  · simp only [List.cons.injEq, and_true] at e4
    subst e4
    exact ⟨none, 0, 0, [], rfl, ⟨rfl, fun h => absurd h (by omega)⟩, by unfold maxLen; omega⟩
  · simp only [List.cons.injEq, and_true] at e4
    subst e4
    have hmm : m = cap := by simpa using hmm
    have each : ∀ i, i < len → ∃ q : RecD × Option Addr × Nat × Nat, (∀ j v, (q.1.cells (.slice q.2.1 q.2.2.1 q.2.2.2))[j]? = some v → W.cell? (a.add (i * 9 + j)) = some v) ∧ PairsF W (· < W.heap.size) q.2.1 q.2.2.1 q.1.ps ∧ q.2.2.1 ≤ maxLen := by
      intro i hi
      obtain ⟨cs', h1, h2⟩ := hx i (by omega)
      rw [cells_rec] at h1
      obtain ⟨_, hlen, hcell⟩ := World.cells?_some h1
      match cs', hlen with
      | [c0, c1, c2, c3, c4, c5, c6, c7, c8], hl9 =>
        obtain ⟨r1, r2, r3, r4, r5, r6, r7, L, n, mc, r8, ps, rfl, rfl, rfl, rfl, rfl, rfl, rfl, rfl, rfl, hp, hm⟩ := nine_of h2
        refine ⟨(⟨r1, r2, r3, r4, r5, r6, r7, ps, r8⟩, L, n, mc), fun j v hv => ?_, hp.all, hm⟩
        have hj : j < 9 := (Array.getElem?_eq_some_iff.1 hv).1
        have e := hcell j hj
        rw [add_add] at e
        rw [e]
        simpa [RecD.cells] using hv
    haveI : Inhabited (RecD × Option Addr × Nat × Nat) := ⟨(⟨0, 0, 0, 0, 0, 0, 0, [], 0⟩, none, 0, 0)⟩
    obtain ⟨q, hq⟩ := choose_lt each
    refine ⟨some a, len, cap, (List.range len).map fun i => (q i).1, rfl, ⟨by simp, fun hn => ?_⟩, by omega⟩
    obtain ⟨b, o, spot⟩ := a
    have hs : spot = none := by
      have := (hq 0 (by omega)).1 0 _ rfl
      simpa [Addr.add] using World.cell?_spot this
    subst hs
    have ea : ∀ i, (⟨b, o, none⟩ : Addr).add i = ⟨b, o + i, none⟩ := fun i => by
      unfold Addr.add
      split
      · simp_all
      · rfl
    have hb : b < W.heap.size := by
      have := block_lt_of_cell ((hq 0 (by omega)).1 0 _ rfl)
      rw [ea] at this
      exact this
    refine ⟨b, o, rfl, hb, hb, fun i hi => ?_⟩
    have hi' : i < len := by simpa using hi
    obtain ⟨h0, h1, h2⟩ := hq i hi'
    have ep : ((List.range len).map fun i => (q i).1)[i] = (q i).1 := by simp
    rw [ep]
    have C : ∀ j v, ((q i).1.cells (.slice (q i).2.1 (q i).2.2.1 (q i).2.2.2))[j]? = some v → W.cell? ⟨b, o + i * 9 + j, none⟩ = some v := fun j v hv => by
      have := h0 j v hv
      rw [ea, show o + (i * 9 + j) = o + i * 9 + j by omega] at this
      exact this
    exact ⟨(q i).2.1, (q i).2.2.1, (q i).2.2.2, ⟨C 0 _ rfl, C 1 _ rfl, C 2 _ rfl, C 3 _ rfl, C 4 _ rfl, C 5 _ rfl, C 6 _ rfl, C 7 _ rfl, C 8 _ rfl⟩, h2, h1⟩

/-- What the reading of a list of records that came in tells. -/
theorem recs_read {H : Type} {enc : TypeId × Value → H} {W : World} {r : Reach} {b0 : Nat} {v : Value} {d : DataW H} {p : List MemPlace} (hv : Value.okWide Tryz.prog W r b0 59 v) (h : DataW.Trod enc Tryz.prog W 0 (fun _ => true) true 59 v d p) :
    ∃ (A : Option Addr) (n cap : Nat) (ds : List RecD), v = .slice A n cap ∧ RecsF ds W (· < W.heap.size) A n ∧ n ≤ maxLen := by
  obtain ⟨a0, len0, cap0, rfl⟩ := okWide_slice Tryz.underlying59 hv
  obtain ⟨fuel, hf⟩ := h
  exact recs_of hf
end Go.Proofs.YtmooajppfjglaaaGreat

namespace Go.Proofs.YtmooajppfjglaaaGreat
open Go.ChangeShapes Go.WideShapes Go.ChangeAt Go.RowKit Go.Deep
set_option linter.unusedVariables false

namespace fnExactReplayedF
set_option maxRecDepth 100000 in
theorem lifted (os : Os) (started : os.Started) (H : Type) (enc : TypeId × Value → H) :
    ReturnsInHanded {} Tryz.checked os 6 .any (Rows.fnExactReplayedSpec.pre6 enc Tryz.prog Tryz.f6 Rows.fnExactReplayedRow.domain false) (Rows.fnExactReplayedSpec.post enc Tryz.prog Tryz.f6 false true false false) := by
  refine returnsInHanded_of_change (C := Tryz.checked) own started (by kernel_rfl) Tryz.func6
    (ChangeSpec.witness6 (enc := enc) (C := Tryz.checked) false ⟨#[], #[.agg #[.int .i64 0, .int .i64 0, .int .i64 0, .int .i64 0, .slice none 0 0], .slice none 0 0], []⟩ 8 (by kernel_rfl) (by kernel_rfl) (by kernel_rfl) (by kernel_rfl)) ?_
  intro W base args ds gs before hval0 hW hcnd _
  have hval : ∀ (j : Nat) t v, Tryz.f6.params[j]? = some t → args[j]? = some v → Value.okWide Tryz.prog W .any base t v := hval0
  have hW' := hW
  obtain ⟨p, q, hA0, hV, rfl, hfz, hnd⟩ := hW
  have hA : DataW.TrodAll enc Tryz.prog W 0 (fun _ => true) true Tryz.f6.params.toList args.toList ds p := hA0
  rw [Tryz.params6] at hA hval
  obtain ⟨v0, vs0, d0, ds0, p0, q0, hargs, rfl, rfl, h0, r0⟩ := trodAll_cons hA
  obtain ⟨v1, vs1, d1, ds1, p1, q1, rfl, rfl, rfl, h1, r1⟩ := trodAll_cons r0
  obtain ⟨rfl, rfl, rfl⟩ := trodAll_nil r1
  obtain rfl : args = #[v0, v1] := by cases args; simp_all
  obtain ⟨rfl, rfl⟩ := trodVars_none hV
  have t0 := h0
  have lt0 : ∀ x ∈ p0, x.block < W.heap.size := by obtain ⟨m, hm⟩ := t0; exact DataW.trod_lt m _ _ _ hm
  obtain ⟨s0, l0, c0, sh0, A0, n0, cap0, zs0, rfl, hp0, hm0⟩ := group_read (hval 0 58 v0 rfl rfl) h0
  have t1 := h1
  have lt1 : ∀ x ∈ p1, x.block < W.heap.size := by obtain ⟨m, hm⟩ := t1; exact DataW.trod_lt m _ _ _ hm
  obtain ⟨A1, n1, cap1, ds1, rfl, hp1, hm1⟩ := recs_read (hval 1 59 v1 rfl rfl) h1
  clear hA0 hval0
  have walk : Calls Tryz.prog 6 #[.agg #[.int .i64 s0, .int .i64 l0, .int .i64 c0, .int .i64 sh0, .slice A0 n0 cap0], .slice A1 n1 cap1] W fun e w' => e = .returned (.bool true) ∧ Below W.heap.size W w' := by
    exact exactReplayed_any _ ⟨s0, l0, c0, sh0, zs0⟩ ds1 A1 n1 cap1 W ⟨A0, n0, cap0, rfl, hm0, hp0.all⟩ hp1 hm1
  refine walk.mono fun e W' ⟨he, bel⟩ => ?_
  subst he
  exact ⟨_, rfl, _, _, _, [], _, [], hW', trodAll_mk1 (shut_bool Tryz.underlying4 _), (trodAll_cons_mk (Below.trod laidOut (by kernel_rfl) (of_decide_eq_true (by kernel_rfl)) t0 bel lt0) (trodAll_cons_mk (Below.trod laidOut (by kernel_rfl) (of_decide_eq_true (by kernel_rfl)) t1 bel lt1) trodAll_mk0)), rfl, bel.frame _, fun h => by cases h⟩

theorem proved : Rows.FnExactReplayedSaid :=
  OpenClaim.holds_of_wide 6 Tryz.f6 rfl rfl rfl rfl rfl rfl rfl ⟨rfl, rfl, rfl, rfl, rfl⟩ rfl rfl rfl rfl rfl (by kernel_rfl) Tryz.func6 (by kernel_rfl)
    (of_decide_eq_true (by kernel_rfl)) (by unfold Func.isWrapper; first | (rw [if_pos (by decide +kernel)]; kernel_rfl) | (rw [if_neg (by decide +kernel)]; exact ⟨rfl, rfl⟩))
    (fun os started H enc _ => lifted os started H enc)
end fnExactReplayedF

theorem fnExactReplayed_holds : Rows.FnExactReplayedSaid := fnExactReplayedF.proved
end Go.Proofs.YtmooajppfjglaaaGreat
