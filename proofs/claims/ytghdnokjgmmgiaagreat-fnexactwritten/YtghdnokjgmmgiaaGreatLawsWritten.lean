/- The exact law of Written answers true, whatever it is given: its walk (written by laws_written.py). -/
import Derived.Test.YtghdnokjgmmgiaaGreatWritten2
import Derived.Test.YtghdnokjgmmgiaaGreatLawsWith
import Derived.Test.YtghdnokjgmmgiaaGreatCopiesMark
namespace Go.Proofs.YtghdnokjgmmgiaaGreat
open Go.RowKit

/-- The variable at g holds a shelf of the model's; its lists lie in blocks ahead of hi. -/
structure PVar (wr : World) (lo hi g : Nat) (A : Option Addr) (n c : Nat) (A' : Option Addr) (n' c' : Nat) (rt rq rv : Int) (ps : List (Int × Int)) (os : List Opn) : Prop where
  box : Box wr g 32 #[.int .i64 rt, .int .i64 rq, .int .i64 rv, .slice A n c, .slice A' n' c']
  g0 : lo ≤ g
  g1 : g < hi
  hw : hi ≤ wr.heap.size
  ps1 : Pairs wr hi A n ps
  os1 : Quads wr hi A' n' os
theorem PVar.later {wr w' : World} {lo hi g : Nat} {A : Option Addr} {n c : Nat} {A' : Option Addr} {n' c' : Nat} {rt rq rv : Int} {ps : List (Int × Int)} {os : List Opn} (h : PVar wr lo hi g A n c A' n' c' rt rq rv ps os) (hb : Below wr.heap.size wr w') : PVar w' lo hi g A n c A' n' c' rt rq rv ps os :=
  ⟨h.box.later hb h.box.lt, h.g0, h.g1, Nat.le_trans h.hw hb.size, h.ps1.below hb h.hw, h.os1.below hb h.hw⟩
theorem pairs_band {wr w' : World} {a b hi : Nat} {A : Option Addr} {n : Nat} {ps : List (Int × Int)} (h : Pairs wr hi A n ps) (hw : hi ≤ wr.heap.size) (hb : Band a b wr w') (hd : hi ≤ a) : Pairs w' hi A n ps := by
  refine ⟨h.1, fun hn => ?_⟩
  obtain ⟨bl, o, hA, hbl, hc⟩ := h.2 hn
  exact ⟨bl, o, hA, hbl, fun i hi' => ⟨(hb.cell (by omega) (.inl (by omega)) _).trans (hc i hi').1, (hb.cell (by omega) (.inl (by omega)) _).trans (hc i hi').2⟩⟩
theorem quads_band {wr w' : World} {a b hi : Nat} {A : Option Addr} {n : Nat} {os : List Opn} (h : Quads wr hi A n os) (hw : hi ≤ wr.heap.size) (hb : Band a b wr w') (hd : hi ≤ a) : Quads w' hi A n os := by
  refine ⟨h.1, fun hn => ?_⟩
  obtain ⟨bl, o, hA, hbl, hc⟩ := h.2 hn
  exact ⟨bl, o, hA, hbl, fun i hi' => ⟨(hb.cell (by omega) (.inl (by omega)) _).trans (hc i hi').1, (hb.cell (by omega) (.inl (by omega)) _).trans (hc i hi').2.1, (hb.cell (by omega) (.inl (by omega)) _).trans (hc i hi').2.2.1, (hb.cell (by omega) (.inl (by omega)) _).trans (hc i hi').2.2.2⟩⟩
theorem PVar.band {wr w' : World} {lo hi a b g : Nat} {A : Option Addr} {n c : Nat} {A' : Option Addr} {n' c' : Nat} {rt rq rv : Int} {ps : List (Int × Int)} {os : List Opn} (h : PVar wr lo hi g A n c A' n' c' rt rq rv ps os) (hb : Band a b wr w') (hd : hi ≤ a) : PVar w' lo hi g A n c A' n' c' rt rq rv ps os := by
  have := h.g1
  exact ⟨h.box.band hb (.inl (by omega)), h.g0, h.g1, Nat.le_trans h.hw hb.size, pairs_band h.ps1 h.hw hb hd, quads_band h.os1 h.hw hb hd⟩
theorem eqVarP_is {wr : World} {lo hi g : Nat} {A : Option Addr} {n c : Nat} {A' : Option Addr} {n' c' : Nat} {rt rq rv : Int} {ps : List (Int × Int)} {os : List Opn} {lo2 hi2 g2 : Nat} {A2 : Option Addr} {n2 c2 : Nat} {A2' : Option Addr} {n2' c2' : Nat} (h : Var wr lo hi g A n c A' n' c' rt rq rv ps os) (h2 : PVar wr lo2 hi2 g2 A2 n2 c2 A2' n2' c2' rt rq rv ps os) (hp : ps.length ≤ 1048576) (hq : os.length ≤ 1048577) :
    Calls Tryz.prog 20 #[.agg #[.int .i64 rt, .int .i64 rq, .int .i64 rv, .slice A n c, .slice A' n' c'], .agg #[.int .i64 rt, .int .i64 rq, .int .i64 rv, .slice A2 n2 c2, .slice A2' n2' c2']] wr fun e w' => e = .returned (.bool true) ∧ Below wr.heap.size wr w' := by
  obtain ⟨e1, p1, e2, q1, _⟩ := h.pairs
  have f1 := h2.ps1.1
  have f2 := h2.os1.1
  subst e1 e2 f1 f2
  exact eqReg_same rt rq rv A A2 _ c c2 A' A2' _ c' c2' ps os wr hp hq p1 (h2.ps1.more h2.hw) q1 (h2.os1.more h2.hw)
/-- The model's shelf was answered into a new variable. -/
def PVarAt (w0 wr : World) (p : Value) (rt rq rv : Int) (ps : List (Int × Int)) (os : List Opn) : Prop :=
  ∃ (g : Nat) (A : Option Addr) (n c : Nat) (A' : Option Addr) (n' c' : Nat), p = .pointer (some ⟨g, 0, none⟩) ∧ PVar wr w0.heap.size wr.heap.size g A n c A' n' c' rt rq rv ps os ∧ Below w0.heap.size w0 wr
theorem pvarAt_new {w0 W w4 : World} {A : Option Addr} {n c : Nat} {A' : Option Addr} {n' c' : Nat} {rt rq rv : Int} {ps : List (Int × Int)} {os : List Opn} (h1 : Pairs w4 w4.heap.size A n ps) (h2 : Quads w4 w4.heap.size A' n' os) (_h0 : w0.heap.size ≤ W.heap.size) (hb : Below w0.heap.size w0 w4) :
    PVarAt w0 (w4.alloc (.cells #[.int .i64 rt, .int .i64 rq, .int .i64 rv, .slice A n c, .slice A' n' c'] 32)) (.pointer (some ⟨w4.heap.size, 0, none⟩)) rt rq rv ps os := by
  have hba := bel_alloc w4 (.cells #[.int .i64 rt, .int .i64 rq, .int .i64 rv, .slice A n c, .slice A' n' c'] 32)
  exact ⟨_, _, _, _, _, _, _, rfl, ⟨Box.new w4 _ _, hb.size, by simp, Nat.le_refl _, h1.later hba, h2.later hba⟩, bel_trans hb hba⟩
theorem pvarAt_put {w0 W w4 : World} {g : Nat} {z0 z1 z2 z3 z4 : Value} {A : Option Addr} {n c : Nat} {A' : Option Addr} {n' c' : Nat} {rt rq rv : Int} {ps : List (Int × Int)} {os : List Opn} (h1 : Pairs w4 w4.heap.size A n ps) (h2 : Quads w4 w4.heap.size A' n' os) (hA : ∀ b o, A = some ⟨b, o, none⟩ → W.heap.size ≤ b) (hA' : ∀ b o, A' = some ⟨b, o, none⟩ → W.heap.size ≤ b) (X : Box w4 g 32 #[z0, z1, z2, z3, z4]) (hg : w0.heap.size ≤ g) (hgW : g < W.heap.size) (hb : Below w0.heap.size w0 w4) :
    PVarAt w0 (((((w4.setCell ⟨g, 0, none⟩ (.int .i64 rt)).setCell ⟨g, 1, none⟩ (.int .i64 rq)).setCell ⟨g, 2, none⟩ (.int .i64 rv)).setCell ⟨g, 3, none⟩ (.slice A n c)).setCell ⟨g, 4, none⟩ (.slice A' n' c')) (.pointer (some ⟨g, 0, none⟩)) rt rq rv ps os := by
  obtain ⟨A1, n1, c1, A2, n2, c2, he, hp, hq, -, -, hbb⟩ := spr_put (rt := rt) (rq := rq) (rv := rv) (c := c) (c' := c') (f := true) hb hg h1 h2 (fun b o e => ⟨by have := hA b o e; omega, by have := hA b o e; omega⟩) (fun b o e => ⟨by have := hA' b o e; omega, by have := hA' b o e; omega⟩) (.int .i64 rt) (.int .i64 rq) (.int .i64 rv) (.slice A n c) (.slice A' n' c')
  simp only [Ending.returned.injEq, Value.tuple.injEq, Array.mk.injEq, List.cons.injEq, Value.agg.injEq, Value.slice.injEq, and_true, true_and] at he
  obtain ⟨⟨rfl, rfl, rfl⟩, rfl, rfl, rfl⟩ := he
  exact ⟨_, _, _, _, _, _, _, rfl, ⟨X.put5 _ _ _ _ _, hg, by simp only [size_set]; exact X.lt, Nat.le_refl _, hp, hq⟩, hbb⟩

theorem writtenC_is (s l c sh : Int) (A : Option Addr) (n cap : Nat) (zs : List Int) (x rt rq rv : Int) (P : Option Addr) (p pc : Nat) (Q : Option Addr) (q qc : Nat) (ct cq v : Int) (L : Option Addr) (m mc : Nat) (ps : List (Int × Int)) (os : List Opn) (cs : List (Int × Int)) (w : World) (hm : n ≤ maxLen) (hr : Row w w.heap.size A n zs) (hp : p ≤ 2000000) (hq : q ≤ 2000000) (h1 : Slc w (.slice P p pc) ps) (h2 : SlcQ w (.slice Q q qc) os) (hn : m ≤ 4194304) (h3 : Pairs w w.heap.size L m cs) {Ot Oq Ov : Int} {Oc : List (Int × Int)} {Oo : List Opn} {Of : Bool} (hO : outW s l c sh zs x rt rq rv ps os ct cq v cs = ⟨Ot, Oq, Ov, Oc, Oo, Of⟩) :
    Calls Tryz.prog 7 #[.agg #[.int .i64 s, .int .i64 l, .int .i64 c, .int .i64 sh, .slice A n cap], .int .i64 x, .agg #[.int .i64 rt, .int .i64 rq, .int .i64 rv, .slice P p pc, .slice Q q qc], .agg #[.int .i64 ct, .int .i64 cq], .int .i64 v, .slice L m mc] w fun e w' => ∃ (B : Nat) (A : Option Addr) (n c : Nat) (A' : Option Addr) (n' c' : Nat), w.heap.size ≤ B ∧ B ≤ w'.heap.size ∧ e = .returned (.tuple #[.agg #[.int .i64 Ot, .int .i64 Oq, .int .i64 Ov, .slice A n c, .slice A' n' c'], .bool Of]) ∧ ResP w' w.heap.size B (.slice A n c) Oc ∧ ResO w' B (.slice A' n' c') Oo ∧ Below w.heap.size w w' := by
  have := written_is s l c sh A n cap zs x rt rq rv P p pc Q q qc ct cq v L m mc ps os cs w hm hr hp hq h1 h2 hn h3
  rw [hO] at this
  exact this
theorem specWrittenC_is (s l c sh : Int) (A : Option Addr) (n cap : Nat) (zs : List Int) (x rt rq rv : Int) (P : Option Addr) (p pc : Nat) (Q : Option Addr) (q qc : Nat) (ct cq v : Int) (L : Option Addr) (m mc : Nat) (ps : List (Int × Int)) (os : List Opn) (cs : List (Int × Int)) (w : World) (hm : n ≤ maxLen) (hr : Row w w.heap.size A n zs) (hp : p ≤ 2000000) (hq : q ≤ 2000000) (h1 : Slc w (.slice P p pc) ps) (h2 : SlcQ w (.slice Q q qc) os) (hn : m ≤ 4194304) (h3 : Pairs w w.heap.size L m cs) {Ot Oq Ov : Int} {Oc : List (Int × Int)} {Oo : List Opn} {Of : Bool} (hO : outW s l c sh zs x rt rq rv ps os ct cq v cs = ⟨Ot, Oq, Ov, Oc, Oo, Of⟩) :
    Calls Tryz.prog 8 #[.agg #[.int .i64 s, .int .i64 l, .int .i64 c, .int .i64 sh, .slice A n cap], .int .i64 x, .agg #[.int .i64 rt, .int .i64 rq, .int .i64 rv, .slice P p pc, .slice Q q qc], .agg #[.int .i64 ct, .int .i64 cq], .int .i64 v, .slice L m mc] w (SpR w Ot Oq Ov Oc Oo Of) := specWritten_is s l c sh A n cap zs x rt rq rv P p pc Q q qc ct cq v L m mc ps os cs w hm hr hp hq h1 h2 hn h3 _ hO
theorem out_len {s l c sh : Int} {zs : List Int} {x rt rq rv : Int} {ps : List (Int × Int)} {os : List Opn} {ct cq v : Int} {cs : List (Int × Int)} {Ot Oq Ov : Int} {Oc : List (Int × Int)} {Oo : List Opn} {Of : Bool} (hO : outW s l c sh zs x rt rq rv ps os ct cq v cs = ⟨Ot, Oq, Ov, Oc, Oo, Of⟩) : Oc.length ≤ ps.length + cs.length ∧ Oo.length ≤ os.length := by
  have e1 : Oc = (outW s l c sh zs x rt rq rv ps os ct cq v cs).cs := by rw [hO]
  have e2 : Oo = (outW s l c sh zs x rt rq rv ps os ct cq v cs).os := by rw [hO]
  rw [e1, e2]
  unfold outW
  have := goodP_le (rB s l c sh zs 1 x ct cq v) cs
  split
  · simp
  · split
    · simp
    · split
      · exact ⟨by show (goodP _ cs).length ≤ _; omega, Nat.le_refl _⟩
      · simp

set_option maxRecDepth 100000 in
set_option maxHeartbeats 16000000 in
theorem exactWritten_small (s l c sh : Int) (A : Option Addr) (n cap : Nat) (zs : List Int) (x rt rq rv : Int) (P : Option Addr) (p pc : Nat) (Q : Option Addr) (q qc : Nat) (ct cq v : Int) (L : Option Addr) (m mc : Nat) (ps : List (Int × Int)) (os : List Opn) (cs : List (Int × Int)) (w : World) (hm : n + p + q + m ≤ 1048576) (hr : Row w w.heap.size A n zs) (h1 : Pairs w w.heap.size P p ps) (h3 : Quads w w.heap.size Q q os) (h4 : Pairs w w.heap.size L m cs) :
    Calls Tryz.prog 4 #[.agg #[.int .i64 s, .int .i64 l, .int .i64 c, .int .i64 sh, .slice A n cap], .int .i64 x, .agg #[.int .i64 rt, .int .i64 rq, .int .i64 rv, .slice P p pc, .slice Q q qc], .agg #[.int .i64 ct, .int .i64 cq], .int .i64 v, .slice L m mc] w fun e w' => e = .returned (.bool true) ∧ Below w.heap.size w w' := by
  have hm1 : n ≤ 1048576 := by omega
  have hp : p ≤ 1048576 := by omega
  have hq : q ≤ 1048576 := by omega
  have hmm : m ≤ 1048576 := by omega
  have hnn : ¬ ((1048576 : Int) - n < 0) := by omega
  have hnm : ¬ ((1048576 : Int) - n - p - q < 0) := by omega
  have hnk : ¬ ((1048576 : Int) - n - p - q - m < 0) := by omega
  obtain ⟨Ot, Oq, Ov, Oc, Oo, Of, hO⟩ : ∃ Ot Oq Ov Oc Oo Of, outW s l c sh zs x rt rq rv ps os ct cq v cs = ⟨Ot, Oq, Ov, Oc, Oo, Of⟩ := ⟨_, _, _, _, _, _, rfl⟩
  have hol := out_len hO
  have hOl : Oc.length ≤ 1048576 := by have := h1.1; have := h4.1; omega
  have hOq : Oo.length ≤ 1048577 := by have := h3.1; omega
  have hff : (Of != Of) = false := by simp
  have HO := Lib.hid hO
  have HX : Hid (n ≤ maxLen) := Lib.hid (by unfold maxLen; omega)
  have HMP : Hid (p ≤ maxLen) := Lib.hid (by unfold maxLen; omega)
  have HMQ : Hid (q ≤ maxLen) := Lib.hid (by unfold maxLen; omega)
  have HL1 := Lib.hid h1.1
  have HL3 := Lib.hid h3.1
  have HLC := Lib.hid h4.1
  have HLP' : Hid (ps.length ≤ 1048576) := Lib.hid (by rw [h1.1]; omega)
  have HLQ' : Hid (os.length ≤ 1048577) := Lib.hid (by rw [h3.1]; omega)
  have HR := Lib.hid hr
  have H1 := Lib.hid h1
  have H3 := Lib.hid h3
  have HC := Lib.hid h4
  clear hr h1 h3 h4 hO hol
  have G := ((Box.new w 40 #[.int .i64 s, .int .i64 l, .int .i64 c, .int .i64 sh, .slice A n cap]).alloc (.cells #[.int .i64 rt, .int .i64 rq, .int .i64 rv, .slice P p pc, .slice Q q qc] 45)).alloc (.cells #[.int .i64 ct, .int .i64 cq] 41)
  have D := (Box.new (w.alloc (.cells #[.int .i64 s, .int .i64 l, .int .i64 c, .int .i64 sh, .slice A n cap] 40)) 45 #[.int .i64 rt, .int .i64 rq, .int .i64 rv, .slice P p pc, .slice Q q qc]).alloc (.cells #[.int .i64 ct, .int .i64 cq] 41)
  have T := Box.new ((w.alloc (.cells #[.int .i64 s, .int .i64 l, .int .i64 c, .int .i64 sh, .slice A n cap] 40)).alloc (.cells #[.int .i64 rt, .int .i64 rq, .int .i64 rv, .slice P p pc, .slice Q q qc] 45)) 41 #[.int .i64 ct, .int .i64 cq]
  have E := bel_trans (bel_trans (bel_alloc w (.cells #[.int .i64 s, .int .i64 l, .int .i64 c, .int .i64 sh, .slice A n cap] 40)) (bel_alloc _ (.cells #[.int .i64 rt, .int .i64 rq, .int .i64 rv, .slice P p pc, .slice Q q qc] 45))) (bel_alloc _ (.cells #[.int .i64 ct, .int .i64 cq] 41))
  simp only [World.size_alloc] at D T
  go_enter Tryz.func4, Tryz.ntmps4
  go_wp2_with fail
  generalize (((w.alloc _).alloc _).alloc _ : World) = w0 at G D T E ⊢
  refine (szGroup_le s l c sh A n cap w0 hm1).mono ?_
  rintro e w1 ⟨rfl, hb1⟩
  replace G := G.later hb1 G.lt
  replace D := D.later hb1 D.lt
  replace T := T.later hb1 T.lt
  replace E := bel_trans E hb1
  clear hb1
  obtain ⟨x0, x1, x2, x3, x4⟩ := D.five
  go_wp2_with fail
  refine (szReg_le rt rq rv P p pc Q q qc (1048576 - n) w1 (by omega) (by omega)).mono ?_
  rintro e w2 ⟨rfl, hb2⟩
  replace G := G.later hb2 G.lt
  replace D := D.later hb2 D.lt
  replace T := T.later hb2 T.lt
  replace E := bel_trans E hb2
  clear hb2 x0 x1 x2 x3 x4
  go_wp2_with fail
  refine (szSeals_le L m mc (1048576 - n - p - q) w2 (by omega) (by omega)).mono ?_
  rintro e w2' ⟨rfl, rfl⟩
  go_upto_region 11 with fail
  -- the model, on copies
  go_cut [14, 15] (fun pv bv wr => bv = .bool Of ∧ PVarAt w2 wr pv Ot Oq Ov Oc Oo)
  case first =>
    have Gd : Box w2.drew w.heap.size 40 #[.int .i64 s, .int .i64 l, .int .i64 c, .int .i64 sh, .slice A n cap] := G
    have Dd : Box w2.drew (w.heap.size + 1) 45 #[.int .i64 rt, .int .i64 rq, .int .i64 rv, .slice P p pc, .slice Q q qc] := D
    have Td : Box w2.drew (w.heap.size + 1 + 1) 41 #[.int .i64 ct, .int .i64 cq] := T
    obtain ⟨a0, a1, a2, a3, a4, b0, b1, b2, b3, b4, t0, t1⟩ := twelve G D T
    have R1 := (HR.out.below E (Nat.le_refl _)).more E.size
    have P1 := H1.out.later E
    have Q1 := H3.out.later E
    have L1 := HC.out.later E
    have l0 := T.lt
    have q0 : w2.heap.size ≠ w.heap.size := (by omega)
    have q0' : w2.heap.size ≠ w.heap.size + 1 := (by omega)
    have q0'' : w2.heap.size ≠ w.heap.size + 1 + 1 := (by omega)
    go_region_held3 (fun w' => w'.cell? ⟨w.heap.size, 0, none⟩ = some (.int .i64 s) ∧ w'.cell? ⟨w.heap.size, 1, none⟩ = some (.int .i64 l) ∧ w'.cell? ⟨w.heap.size, 2, none⟩ = some (.int .i64 c) ∧ w'.cell? ⟨w.heap.size, 3, none⟩ = some (.int .i64 sh) ∧ w'.cell? ⟨w.heap.size, 4, none⟩ = some (.slice A n cap) ∧ w'.cell? ⟨w.heap.size + 1, 0, none⟩ = some (.int .i64 rt) ∧ w'.cell? ⟨w.heap.size + 1, 1, none⟩ = some (.int .i64 rq) ∧ w'.cell? ⟨w.heap.size + 1, 2, none⟩ = some (.int .i64 rv) ∧ w'.cell? ⟨w.heap.size + 1, 3, none⟩ = some (.slice P p pc) ∧ w'.cell? ⟨w.heap.size + 1, 4, none⟩ = some (.slice Q q qc) ∧ w'.cell? ⟨w.heap.size + 1 + 1, 0, none⟩ = some (.int .i64 ct) ∧ w'.cell? ⟨w.heap.size + 1 + 1, 1, none⟩ = some (.int .i64 cq))
      (first | (with_reducible exact K5) | (with_reducible exact K4) | (with_reducible exact K3) | (with_reducible exact K2) | (with_reducible exact K1) | (with_reducible exact twelve (G5.alloc _) (D5.alloc _) (T5.alloc _)) | (with_reducible exact twelve (G4.alloc _) (D4.alloc _) (T4.alloc _)) | (with_reducible exact twelve (G3.alloc _) (D3.alloc _) (T3.alloc _)) | (with_reducible exact twelve (G2.alloc _) (D2.alloc _) (T2.alloc _)) | (with_reducible exact twelve (G1.alloc _) (D1.alloc _) (T1.alloc _)) | (with_reducible exact twelve (Gd.alloc _) (Dd.alloc _) (Td.alloc _)) | (with_reducible exact twelve (boxFar5 G5 q4 _ _ _ _ _) (boxFar5 D5 q4' _ _ _ _ _) (boxFar5 T5 q4'' _ _ _ _ _)) | (with_reducible exact twelve (boxFar5 G5 q3 _ _ _ _ _) (boxFar5 D5 q3' _ _ _ _ _) (boxFar5 T5 q3'' _ _ _ _ _)) | (with_reducible exact twelve (boxFar5 G5 q2 _ _ _ _ _) (boxFar5 D5 q2' _ _ _ _ _) (boxFar5 T5 q2'' _ _ _ _ _)) | (with_reducible exact twelve (boxFar5 G5 q1 _ _ _ _ _) (boxFar5 D5 q1' _ _ _ _ _) (boxFar5 T5 q1'' _ _ _ _ _)) | (with_reducible exact twelve (boxFar5 G5 q0 _ _ _ _ _) (boxFar5 D5 q0' _ _ _ _ _) (boxFar5 T5 q0'' _ _ _ _ _)) | go_keep)
      (first
        | (go_at_call 16; refine (toGroup_any s l c sh A n cap zs _ hm1 ?_).mono ?_; (first | exact R1 | exact rowNew (w := w2.drew) R1 _); rintro e v1 ⟨g1, hg1, rfl, hrow1, hb1⟩; (first | (have B1 := box_of_alloc (bel_drew' hb1); have F1 := bel_of_alloc (bel_drew' hb1)) | have F1 := bel_drew' hb1); have G1 := G.later F1 G.lt; have D1 := D.later F1 D.lt; have T1 := T.later F1 T.lt; have l1 := T1.lt; have q1 : v1.heap.size ≠ w.heap.size := (by omega); have q1' : v1.heap.size ≠ w.heap.size + 1 := (by omega); have q1'' : v1.heap.size ≠ w.heap.size + 1 + 1 := (by omega); have K1 := twelve G1 D1 T1; have PA1 := P1.later F1; have QA1 := Q1.later F1)
        | (go_at_call 17; refine (toReg_any rt rq rv P p pc Q q qc ps os _ hp hq ?_ ?_).mono ?_; (first | exact PA1 | exact pairsNew PA1 _); (first | exact QA1 | exact quadsNew QA1 _); rintro e v2 ⟨g2, h2, hg2, hgh2, rfl, hk2, hh2, hb2⟩; (first | (have B2 := box_of_alloc hb2; have F2 := bel_of_alloc hb2) | (have B2 := B1.later hb2 B1.lt; have F2 := hb2) | have F2 := hb2); have G2 := G1.later F2 G1.lt; have D2 := D1.later F2 D1.lt; have T2 := T1.later F2 T1.lt; have l2 := T2.lt; have q2 : v2.heap.size ≠ w.heap.size := (by omega); have q2' : v2.heap.size ≠ w.heap.size + 1 := (by omega); have q2'' : v2.heap.size ≠ w.heap.size + 1 + 1 := (by omega); have K2 := twelve G2 D2 T2; have hrow2 := (hrow1.below F2 (Nat.le_refl _)).more F2.size; have F12 := bel_trans F1 F2)
        | (go_at_call 18; refine (toStamp_any ct cq _).mono ?_; rintro e v3 ⟨rfl, hb3⟩; (first | (have B3 := box_of_alloc hb3; have F3 := bel_of_alloc hb3) | (have B3 := B2.later hb3 B2.lt; have F3 := hb3) | have F3 := hb3); have G3 := G2.later F3 G2.lt; have D3 := D2.later F3 D2.lt; have T3 := T2.later F3 T2.lt; have l3 := T3.lt; have q3 : v3.heap.size ≠ w.heap.size := (by omega); have q3' : v3.heap.size ≠ w.heap.size + 1 := (by omega); have q3'' : v3.heap.size ≠ w.heap.size + 1 + 1 := (by omega); have K3 := twelve G3 D3 T3; have hrow3 := (hrow2.below F3 (Nat.le_refl _)).more F3.size; have F13 := bel_trans F12 F3; have hk3 := hk2.later F3; have hh3 := hh2.later F3; have LA3 := L1.later F13)
        | (go_at_call 19; refine (toSeals_any L m mc cs _ hmm ?_).mono ?_; (first | exact LA3 | exact pairsNew LA3 _); rintro e v4 ⟨g4, hg4, rfl, -, hj4, hb4⟩; (first | (have B4 := box_of_alloc hb4; have F4 := bel_of_alloc hb4) | (have B4 := B3.later hb4 B3.lt; have F4 := hb4) | have F4 := hb4); have G4 := G3.later F4 G3.lt; have D4 := D3.later F4 D3.lt; have T4 := T3.later F4 T3.lt; have l4 := T4.lt; have q4 : v4.heap.size ≠ w.heap.size := (by omega); have q4' : v4.heap.size ≠ w.heap.size + 1 := (by omega); have q4'' : v4.heap.size ≠ w.heap.size + 1 + 1 := (by omega); have K4 := twelve G4 D4 T4; have hrow4 := (hrow3.below F4 (Nat.le_refl _)).more F4.size; have F14 := bel_trans F13 F4; have S4 := (hk3.later F4).slc HL1.out (cap := p); have Z4 := (hh3.later F4).slcQ HL3.out HMQ.out; have PL4 := hj4.prs HLC.out)
        | (go_at_call 8; refine (specWrittenC_is s l c sh _ n n zs x rt rq rv _ p p _ q q ct cq v _ m m ps os cs _ HX.out ?_ (by omega) (by omega) ?_ ?_ (by omega) ?_ HO.out).mono ?_; (first | exact hrow4 | exact rowNew hrow4 _); (first | exact S4 | exact S4.later (bel_alloc _ _)); (first | exact Z4 | exact Z4.later (bel_alloc _ _)); (first | exact PL4 | exact pairsNew PL4 _); rintro e v5 ⟨A5, n5, c5, A6, n6, c6, rfl, hP5, hQ5, hA5, hA5', hb5⟩; (first | (have B5 := box_of_alloc hb5; have F5 := bel_of_alloc hb5) | (have B5 := B4.later hb5 B4.lt; have F5 := hb5) | have F5 := hb5); have G5 := G4.later F5 G4.lt; have D5 := D4.later F5 D4.lt; have T5 := T4.later F5 T4.lt; have l5 := T5.lt; have q5 : v5.heap.size ≠ w.heap.size := (by omega); have q5' : v5.heap.size ≠ w.heap.size + 1 := (by omega); have q5'' : v5.heap.size ≠ w.heap.size + 1 + 1 := (by omega); have K5 := twelve G5 D5 T5; have F15 := bel_trans F14 F5; (first | (obtain ⟨z0, z1, z2, z3, z4⟩ := B5.five; have fz := B5.frozen) | skip)))
    all_goals go_wp2_with fail
    all_goals go_meet
    all_goals first
      | with_reducible exact ⟨rfl, pvarAt_new hP5 hQ5 (W := v4) F14.size F15⟩
      | with_reducible exact ⟨rfl, pvarAt_put hP5 hQ5 hA5 hA5' (W := v4.alloc _) B5 F14.size (by simp) F15⟩
      | with_reducible exact ⟨rfl, pvarAt_put hP5 hQ5 hA5 hA5' (W := v4) B5 F13.size B4.lt F15⟩
      | with_reducible exact ⟨rfl, pvarAt_put hP5 hQ5 hA5 hA5' (W := v4) B5 F12.size B4.lt F15⟩
      | with_reducible exact ⟨rfl, pvarAt_put hP5 hQ5 hA5 hA5' (W := v4) B5 F1.size B4.lt F15⟩
      | with_reducible exact ⟨rfl, pvarAt_put hP5 hQ5 hA5 hA5' (W := v4) B5 (Nat.le_refl _) B4.lt F15⟩
  case rest =>
  obtain ⟨rfl, t6, A6, n6, c6, A6', n6', c6', rfl, TT, hbc⟩ := hcut
  have hT2 := T.lt
  have hs1 := hbc.size
  replace G := G.later hbc G.lt
  replace D := D.later hbc D.lt
  replace T := T.later hbc T.lt
  replace E := bel_trans E hbc
  clear hbc
  obtain ⟨a0, a1, a2, a3, a4⟩ := G.five
  go_wp2_with fail
  -- the copies that are handed in
  refine (toGroup_fr s l c sh A n cap zs wc hm1 ((HR.out.below E (Nat.le_refl _)).more E.size)).mono ?_
  rintro e w4 ⟨g4, hg4, rfl, hrow, hfz, hg4l, hb4⟩
  have hbY := bel_alloc w4 (.cells #[.int .i64 s, .int .i64 l, .int .i64 c, .int .i64 sh, .slice (some ⟨g4, 0, none⟩) n n] 26)
  have Y := Box.new w4 26 #[.int .i64 s, .int .i64 l, .int .i64 c, .int .i64 sh, .slice (some ⟨g4, 0, none⟩) n n]
  have hb5 := bel_trans hb4 hbY
  have D4 := D.later hb4 D.lt
  have hD4 := D4.lt
  obtain ⟨x0, x1, x2, x3, x4⟩ := D4.five
  have hs2 := hb4.size
  replace G := G.later hb5 G.lt
  replace D := D.later hb5 D.lt
  replace T := T.later hb5 T.lt
  replace E := bel_trans E hb5
  replace TT := TT.later hb5
  replace hrow := (hrow.below hbY (Nat.le_refl _)).more hbY.size
  have HFZ := Lib.hid (show ∀ i, (w4.alloc (.cells #[.int .i64 s, .int .i64 l, .int .i64 c, .int .i64 sh, .slice (some ⟨g4, 0, none⟩) n n] 26)).frozen? ⟨g4, i, none⟩ = false from fun i => (hbY.frozen (p := ⟨g4, i, none⟩) hg4l).trans (hfz i))
  have hYs : w4.heap.size < (w4.alloc (.cells #[.int .i64 s, .int .i64 l, .int .i64 c, .int .i64 sh, .slice (some ⟨g4, 0, none⟩) n n] 26)).heap.size := Y.lt
  clear hb4 hb5 hbY a0 a1 a2 a3 a4 hfz D4
  go_wp2_with fail
  generalize (w4.alloc _ : World) = w5 at Y G D T E TT hrow HFZ hYs ⊢
  generalize w4.heap.size = S0 at Y hg4l hD4 hs2 hYs ⊢
  refine (toReg_any rt rq rv P p pc Q q qc ps os w5 hp hq (H1.out.later E) (H3.out.later E)).mono ?_
  rintro e w6 ⟨g2, h2, hg2, hgh2, rfl, hk2, hh2, hb6⟩
  have X := var_made (rt := rt) (rq := rq) (rv := rv) HL1.out HL3.out hg2 hgh2 hk2 hh2 HMP.out HMQ.out
  have hb7 := bel_trans hb6 (bel_alloc w6 (.cells #[.int .i64 rt, .int .i64 rq, .int .i64 rv, .slice (some ⟨g2, 0, none⟩) p p, .slice (some ⟨h2, 0, none⟩) q q] 32))
  replace G := G.later hb7 G.lt
  replace D := D.later hb7 D.lt
  replace T := T.later hb7 T.lt
  replace Y := Y.later hb7 Y.lt
  replace E := bel_trans E hb7
  replace TT := TT.later hb7
  replace hrow := (hrow.below hb7 (Nat.le_refl _)).more hb7.size
  replace HFZ := Lib.hid (show ∀ i, (w6.alloc (.cells #[.int .i64 rt, .int .i64 rq, .int .i64 rv, .slice (some ⟨g2, 0, none⟩) p p, .slice (some ⟨h2, 0, none⟩) q q] 32)).frozen? ⟨g4, i, none⟩ = false from fun i => (hb7.frozen (p := ⟨g4, i, none⟩) (show g4 < _ by omega)).trans (HFZ.out i))
  clear hb6 hb7 hk2 hh2 x0 x1 x2 x3 x4
  go_wp2_with fail
  generalize (w6.alloc _ : World) = w7 at X Y G D T E TT hrow HFZ ⊢
  generalize w6.heap.size = t7 at X ⊢
  obtain ⟨s7, hs7⟩ : ∃ s7, w5.heap.size = s7 := ⟨_, rfl⟩
  rw [hs7] at X hYs
  obtain ⟨s6, hs6⟩ : ∃ s6, wc.heap.size = s6 := ⟨_, rfl⟩
  rw [hs6] at TT hs1 hs2 hg4
  clear hs7 hs6
  have hX0 := X.g0
  have hX1 := X.g1
  have hXw := X.hw
  refine (toSeals_any L m mc cs w7 hmm (HC.out.later E)).mono ?_
  rintro e w8 ⟨g6, hg6, rfl, -, hh6, hb8⟩
  have hs3 := hb8.size
  replace G := G.later hb8 G.lt
  replace D := D.later hb8 D.lt
  replace T := T.later hb8 T.lt
  replace Y := Y.later hb8 Y.lt
  replace X := X.later hb8
  replace E := bel_trans E hb8
  replace TT := TT.later hb8
  replace hrow := (hrow.below hb8 (Nat.le_refl _)).more hb8.size
  replace HFZ := Lib.hid (show ∀ i, w8.frozen? ⟨g4, i, none⟩ = false from fun i => (hb8.frozen (p := ⟨g4, i, none⟩) (show g4 < _ by omega)).trans (HFZ.out i))
  have hg6l := hh6.lt
  clear hb8
  obtain ⟨s8, hs8⟩ : ∃ s8, w7.heap.size = s8 := ⟨_, rfl⟩
  rw [hs8] at X hX1 hs3 hg6
  clear hs8 hXw
  go_upto_region 15 with fail
  -- the program
  go_cut [19, 20] (fun pv bv wr => bv = .bool Of ∧ VarAt w8 wr pv Ot Oq Ov Oc Oo)
  case first =>
    have Yd : Box w8.drew S0 26 #[.int .i64 s, .int .i64 l, .int .i64 c, .int .i64 sh, .slice (some ⟨g4, 0, none⟩) n n] := Y
    have Xd : Box w8.drew t7 32 #[.int .i64 rt, .int .i64 rq, .int .i64 rv, .slice (some ⟨g2, 0, none⟩) p p, .slice (some ⟨h2, 0, none⟩) q q] := X.box
    have Td : Box w8.drew (w.heap.size + 1 + 1) 41 #[.int .i64 ct, .int .i64 cq] := T
    obtain ⟨a0, a1, a2, a3, a4, b0, b1, b2, b3, b4, t0, t1⟩ := twelve Y X.box T
    have q1 : w8.heap.size ≠ S0 := by omega
    have q1' : w8.heap.size ≠ t7 := by omega
    have q1'' : w8.heap.size ≠ w.heap.size + 1 + 1 := by omega
    go_region_held3 (fun w' => w'.cell? ⟨S0, 0, none⟩ = some (.int .i64 s) ∧ w'.cell? ⟨S0, 1, none⟩ = some (.int .i64 l) ∧ w'.cell? ⟨S0, 2, none⟩ = some (.int .i64 c) ∧ w'.cell? ⟨S0, 3, none⟩ = some (.int .i64 sh) ∧ w'.cell? ⟨S0, 4, none⟩ = some (.slice (some ⟨g4, 0, none⟩) n n) ∧ w'.cell? ⟨t7, 0, none⟩ = some (.int .i64 rt) ∧ w'.cell? ⟨t7, 1, none⟩ = some (.int .i64 rq) ∧ w'.cell? ⟨t7, 2, none⟩ = some (.int .i64 rv) ∧ w'.cell? ⟨t7, 3, none⟩ = some (.slice (some ⟨g2, 0, none⟩) p p) ∧ w'.cell? ⟨t7, 4, none⟩ = some (.slice (some ⟨h2, 0, none⟩) q q) ∧ w'.cell? ⟨w.heap.size + 1 + 1, 0, none⟩ = some (.int .i64 ct) ∧ w'.cell? ⟨w.heap.size + 1 + 1, 1, none⟩ = some (.int .i64 cq))
      (first | (with_reducible exact KB) | (with_reducible exact KA) | (with_reducible exact twelve (YB.alloc _) (XB.alloc _) (TB.alloc _)) | (with_reducible exact twelve (YA.alloc _) (XA.alloc _) (TA.alloc _)) | (with_reducible exact twelve (Yd.alloc _) (Xd.alloc _) (Td.alloc _)) | (with_reducible exact twelve (boxFar5 YB q2 _ _ _ _ _) (boxFar5 XB q2' _ _ _ _ _) (boxFar5 TB q2'' _ _ _ _ _)) | (with_reducible exact twelve (boxFar5 YB q1 _ _ _ _ _) (boxFar5 XB q1' _ _ _ _ _) (boxFar5 TB q1'' _ _ _ _ _)) | go_keep)
      (first
        | (go_at_call 18; refine (toStamp_any ct cq _).mono ?_; rintro e wa ⟨rfl, hba⟩; (first | (have BA := box_of_alloc (bel_drew' hba); have FA := bel_of_alloc (bel_drew' hba)) | have FA := bel_drew' hba); have YA := Y.later FA Y.lt; have VA := X.later FA; have XA := VA.box; have TA := T.later FA T.lt; have la := FA.size; have q2 : wa.heap.size ≠ S0 := (by omega); have q2' : wa.heap.size ≠ t7 := (by omega); have q2'' : wa.heap.size ≠ w.heap.size + 1 + 1 := (by omega); have KA := twelve YA XA TA; have hrowA := (hrow.below FA (Nat.le_refl _)).more FA.size; have PLA := (hh6.later FA).prs HLC.out; obtain ⟨-, -, -, -, -, -, -, -, SA, ZA⟩ := VA.pairs)
        | (go_at_call 7; refine (writtenC_is s l c sh _ n n zs x rt rq rv _ p p _ q q ct cq v _ m m ps os cs _ HX.out ?_ (by omega) (by omega) ?_ ?_ (by omega) ?_ HO.out).mono ?_; (first | exact hrowA | exact rowNew hrowA _); (first | exact SA | exact SA.later (bel_alloc _ _)); (first | exact ZA | exact ZA.later (bel_alloc _ _)); (first | exact PLA | exact pairsNew PLA _); rintro e wb ⟨B4, A4, m4, c4, A4', m4', c4', hB4, hB4', rfl, hR4, hV4, hbb⟩; (first | (have BB := box_of_alloc hbb; have FB := bel_of_alloc hbb) | (have BB := BA.later hbb BA.lt; have FB := hbb) | have FB := hbb); have YB := YA.later FB YA.lt; have XB := XA.later FB XA.lt; have TB := TA.later FB TA.lt; have PB := bel_trans FA FB; have KB := twelve YB XB TB; (first | (obtain ⟨z0, z1, z2, z3, z4⟩ := BB.five; have fz := BB.frozen) | skip)))
    all_goals go_wp2_with fail
    all_goals go_meet
    all_goals first
      | with_reducible exact ⟨rfl, varAt_new (W := wa) FA.size hB4 hB4' hR4 hV4 PB⟩
      | with_reducible exact ⟨rfl, varAt_put (W := wa.alloc _) BB FA.size (by simp) hB4 hB4' hR4 hV4 PB⟩
      | with_reducible exact ⟨rfl, varAt_put (W := wa) BB (Nat.le_refl _) BA.lt hB4 hB4' hR4 hV4 PB⟩
  case rest =>
  obtain ⟨rfl, t8, A8, n8, c8, A8', n8', c8', rfl, U, hbc⟩ := hcut
  replace G := G.later hbc G.lt
  replace D := D.later hbc D.lt
  replace T := T.later hbc T.lt
  replace Y := Y.later hbc Y.lt
  replace X := X.later hbc
  replace E := bel_trans E hbc
  replace TT := TT.later hbc
  replace hrow := (hrow.below hbc (Nat.le_refl _)).more hbc.size
  replace HFZ := Lib.hid (show ∀ i, wc.frozen? ⟨g4, i, none⟩ = false from fun i => (hbc.frozen (p := ⟨g4, i, none⟩) (show g4 < _ by omega)).trans (HFZ.out i))
  replace hh6 := hh6.later hbc
  have hU0 := U.g0
  have hU1 := U.g1
  have hs4 := hbc.size
  clear hbc
  obtain ⟨s10, hs10⟩ : ∃ s10, wc.heap.size = s10 := ⟨_, rfl⟩
  obtain ⟨s9, hs9⟩ : ∃ s9, w8.heap.size = s9 := ⟨_, rfl⟩
  rw [hs10, hs9] at U
  rw [hs9] at hU0 hs3 hg6l hs4
  rw [hs10] at hU1
  clear hs10 hs9
  obtain ⟨u0, u1, u2, u3, u4⟩ := U.box.five
  obtain ⟨x0, x1, x2, x3, x4⟩ := TT.box.five
  go_wp2_with fail
  refine (eqVarP_is U TT hOl hOq).mono ?_
  rintro e w9 ⟨rfl, hb9⟩
  replace G := G.later hb9 G.lt
  replace D := D.later hb9 D.lt
  replace T := T.later hb9 T.lt
  replace Y := Y.later hb9 Y.lt
  replace X := X.later hb9
  replace U := U.later hb9
  replace E := bel_trans E hb9
  replace TT := TT.later hb9
  replace hrow := (hrow.below hb9 (Nat.le_refl _)).more hb9.size
  replace HFZ := Lib.hid (show ∀ i, w9.frozen? ⟨g4, i, none⟩ = false from fun i => (hb9.frozen (p := ⟨g4, i, none⟩) (show g4 < _ by omega)).trans (HFZ.out i))
  replace hh6 := hh6.later hb9
  have hs5 := hb9.size
  clear hb9 u0 u1 u2 u3 u4 x0 x1 x2 x3 x4
  obtain ⟨a0, a1, a2, a3, a4, y0, y1, y2, y3, y4⟩ := ten G Y
  have R1 := (HR.out.below E (Nat.le_refl _)).more E.size
  go_wp2_with fail
  go_region_held3 (fun w' => w'.cell? ⟨w.heap.size, 0, none⟩ = some (.int .i64 s) ∧ w'.cell? ⟨w.heap.size, 1, none⟩ = some (.int .i64 l) ∧ w'.cell? ⟨w.heap.size, 2, none⟩ = some (.int .i64 c) ∧ w'.cell? ⟨w.heap.size, 3, none⟩ = some (.int .i64 sh) ∧ w'.cell? ⟨w.heap.size, 4, none⟩ = some (.slice A n cap) ∧ w'.cell? ⟨S0, 0, none⟩ = some (.int .i64 s) ∧ w'.cell? ⟨S0, 1, none⟩ = some (.int .i64 l) ∧ w'.cell? ⟨S0, 2, none⟩ = some (.int .i64 c) ∧ w'.cell? ⟨S0, 3, none⟩ = some (.int .i64 sh) ∧ w'.cell? ⟨S0, 4, none⟩ = some (.slice (some ⟨g4, 0, none⟩) n n)) (first | (with_reducible exact KB) | (with_reducible exact KA) | go_keep)
    (first
      | (go_at_call 16; refine (toGroup_any s l c sh A n cap zs _ hm1 ?_).mono ?_; exact R1; rintro e wa ⟨ga, hga, rfl, hrowa, hba⟩; have FA := bel_drew' hba; have hrowA := (hrow.below FA (Nat.le_refl _)).more FA.size; have KA := ten (G.later FA G.lt) (Y.later FA Y.lt))
      | (go_at_call 21; refine (eqGroup_same s l c sh _ _ n n n zs _ hm1 hrowA hrowa).mono ?_; rintro e wb ⟨rfl, hbb⟩; have FB := bel_trans FA hbb; have KB := ten (G.later FB G.lt) (Y.later FB Y.lt)))
  replace G := G.later FB G.lt
  replace D := D.later FB D.lt
  replace T := T.later FB T.lt
  replace Y := Y.later FB Y.lt
  replace X := X.later FB
  replace U := U.later FB
  replace E := bel_trans E FB
  replace TT := TT.later FB
  replace hrow := (hrow.below FB (Nat.le_refl _)).more FB.size
  replace HFZ := Lib.hid (show ∀ i, wb.frozen? ⟨g4, i, none⟩ = false from fun i => (FB.frozen (p := ⟨g4, i, none⟩) (show g4 < _ by omega)).trans (HFZ.out i))
  replace hh6 := hh6.later FB
  have hs11 := FB.size
  clear a0 a1 a2 a3 a4 y0 y1 y2 y3 y4 R1 FA FB KA KB hba hbb hrowA hrowa
  obtain ⟨a0, a1, a2, a3, a4⟩ := D.five
  obtain ⟨x0, x1, x2, x3, x4⟩ := X.box.five
  have P9 := H1.out.later E
  have Q9 := H3.out.later E
  have X9 := X.box
  go_wp2_with fail
  go_region_held3 (fun w' => w'.cell? ⟨w.heap.size + 1, 0, none⟩ = some (.int .i64 rt) ∧ w'.cell? ⟨w.heap.size + 1, 1, none⟩ = some (.int .i64 rq) ∧ w'.cell? ⟨w.heap.size + 1, 2, none⟩ = some (.int .i64 rv) ∧ w'.cell? ⟨w.heap.size + 1, 3, none⟩ = some (.slice P p pc) ∧ w'.cell? ⟨w.heap.size + 1, 4, none⟩ = some (.slice Q q qc) ∧ w'.cell? ⟨t7, 0, none⟩ = some (.int .i64 rt) ∧ w'.cell? ⟨t7, 1, none⟩ = some (.int .i64 rq) ∧ w'.cell? ⟨t7, 2, none⟩ = some (.int .i64 rv) ∧ w'.cell? ⟨t7, 3, none⟩ = some (.slice (some ⟨g2, 0, none⟩) p p) ∧ w'.cell? ⟨t7, 4, none⟩ = some (.slice (some ⟨h2, 0, none⟩) q q)) (first | (with_reducible exact KD) | (with_reducible exact KC) | go_keep)
    (first
      | (go_at_call 17; refine (toReg_any rt rq rv P p pc Q q qc ps os _ hp hq ?_ ?_).mono ?_; exact P9; exact Q9; rintro e wd ⟨gd, hd, hgd, hghd, rfl, hkd, hhd, hbd⟩; have FC := bel_drew' hbd; have XC := X.later FC; obtain ⟨-, pC, -, qC, -⟩ := XC.pairs; have KC := ten (D.later FC D.lt) (X9.later FC X9.lt))
      | (go_at_call 20; refine (eqReg_same rt rq rv _ _ p p p _ _ q q q ps os _ hp (by omega) pC (hkd.prs HL1.out) qC (hhd.qds HL3.out)).mono ?_; rintro e we ⟨rfl, hbe⟩; have FD := bel_trans FC hbe; have KD := ten (D.later FD D.lt) (X9.later FD X9.lt)))
  replace G := G.later FD G.lt
  replace D := D.later FD D.lt
  replace T := T.later FD T.lt
  replace Y := Y.later FD Y.lt
  replace X := X.later FD
  replace U := U.later FD
  replace E := bel_trans E FD
  replace TT := TT.later FD
  replace hrow := (hrow.below FD (Nat.le_refl _)).more FD.size
  replace HFZ := Lib.hid (show ∀ i, we.frozen? ⟨g4, i, none⟩ = false from fun i => (FD.frozen (p := ⟨g4, i, none⟩) (show g4 < _ by omega)).trans (HFZ.out i))
  replace hh6 := hh6.later FD
  have hs12 := FD.size
  clear a0 a1 a2 a3 a4 x0 x1 x2 x3 x4 P9 Q9 X9 FC FD KC KD hbd hbe hkd hhd XC pC qC
  go_wp2_with fail
  refine (toSeals_any L m mc cs we hmm (HC.out.later E)).mono ?_
  rintro e wf ⟨gf, hgf, rfl, -, hhf, hbf⟩
  go_wp2_with fail
  refine (eqSeals_same _ _ m m m cs wf hmm ((hh6.later hbf).prs HLC.out) (hhf.prs HLC.out)).mono ?_
  rintro e wg ⟨rfl, hbg⟩
  have FG := bel_trans hbf hbg
  replace G := G.later FG G.lt
  replace D := D.later FG D.lt
  replace T := T.later FG T.lt
  replace Y := Y.later FG Y.lt
  replace X := X.later FG
  replace U := U.later FG
  replace E := bel_trans E FG
  replace TT := TT.later FG
  replace hrow := (hrow.below FG (Nat.le_refl _)).more FG.size
  replace HFZ := Lib.hid (show ∀ i, wg.frozen? ⟨g4, i, none⟩ = false from fun i => (FG.frozen (p := ⟨g4, i, none⟩) (show g4 < _ by omega)).trans (HFZ.out i))
  replace hh6 := hh6.later FG
  have hs13 := FG.size
  clear hbf hbg FG hhf hgf
  obtain ⟨y0, y1, y2, y3, y4⟩ := Y.five
  -- the copies are written
  go_wp2_with fail
  refine (markGroup_is s l c sh g4 n n 1 zs wg (by omega) (by omega) (by omega) hrow HFZ.out (by omega)).mono ?_
  rintro e wh ⟨rfl, hgh⟩
  have hbd := Band.of_grown (lo := s6) (hi := s7) hgh hg4 (by omega)
  replace G := G.band hbd (.inl (by omega))
  replace D := D.band hbd (.inl (by omega))
  replace T := T.band hbd (.inl (by omega))
  replace X := X.band hbd (.inr (Nat.le_refl _))
  replace U := U.band hbd (.inr (by omega))
  replace E := hbd.below E (by omega)
  replace TT := TT.band hbd (Nat.le_refl _)
  replace hh6 := hh6.band hbd (.inr (by omega))
  have hs14 := hbd.size
  clear hgh hbd hrow HFZ Y y0 y1 y2 y3 y4
  obtain ⟨x0, x1, x2, x3, x4⟩ := X.box.five
  go_wp2_with fail
  refine (markVar_is (1 + n) X (by have := HLP'.out; omega) HLQ'.out (by omega) (by omega)).mono ?_
  rintro e wi ⟨rfl, D1, D2, -, -, -, -, -, hbd⟩
  replace G := G.band hbd (.inl (by omega))
  replace D := D.band hbd (.inl (by omega))
  replace T := T.band hbd (.inl (by omega))
  replace U := U.band hbd (.inr (by omega))
  replace E := hbd.below E (by omega)
  replace TT := TT.band hbd (by omega)
  replace hh6 := hh6.band hbd (.inr (by omega))
  clear hbd X x0 x1 x2 x3 x4 D1 D2
  have hlp := HLP'.out
  have hlq := HLQ'.out
  go_wp2_with fail
  refine (mark_is g6 m m (1 + n + 2 * ps.length + 4 * os.length) cs wi (by omega) (by omega) (by omega) HLC.out hh6).mono ?_
  rintro e wj ⟨rfl, d13, -, -, -, hg13⟩
  have hbd := Band.of_grown (lo := s8) (hi := s9) hg13 hg6 (by omega)
  replace G := G.band hbd (.inl (by omega))
  replace D := D.band hbd (.inl (by omega))
  replace T := T.band hbd (.inl (by omega))
  replace U := U.band hbd (.inr (by omega))
  replace E := hbd.below E (by omega)
  replace TT := TT.band hbd (by omega)
  clear hbd hg13 hh6
  have hk0 : ¬ ((1 : Int) + n + 2 * (ps.length : Int) + 4 * (os.length : Int) + 2 * m < 0) := by omega
  obtain ⟨u0, u1, u2, u3, u4⟩ := U.box.five
  obtain ⟨x0, x1, x2, x3, x4⟩ := TT.box.five
  go_wp2_with fail
  refine (eqVarP_is U TT hOl hOq).mono ?_
  rintro e wk ⟨rfl, hbk⟩
  replace G := G.later hbk G.lt
  replace D := D.later hbk D.lt
  replace T := T.later hbk T.lt
  replace U := U.later hbk
  replace E := bel_trans E hbk
  replace TT := TT.later hbk
  clear hbk u0 u1 u2 u3 u4 x0 x1 x2 x3 x4 hk0
  obtain ⟨u0, u1, u2, u3, u4⟩ := U.box.five
  -- the answer is written
  go_wp2_with fail
  refine (markVar_is 1 U (by omega) hOq (by omega) (by omega)).mono ?_
  rintro e wl ⟨rfl, D1, D2, hd1, hd2, hn1, hn2, U', hbd⟩
  replace G := G.band hbd (.inl (by omega))
  replace D := D.band hbd (.inl (by omega))
  replace T := T.band hbd (.inl (by omega))
  replace E := hbd.below E (by omega)
  replace TT := TT.band hbd (by omega)
  replace hd1 := Lib.hid hd1
  replace hd2 := Lib.hid hd2
  replace hn1 := Lib.hid hn1
  replace hn2 := Lib.hid hn2
  clear U hbd u0 u1 u2 u3 u4
  obtain ⟨u0, u1, u2, u3, u4⟩ := U'.box.five
  have hk0 : ¬ ((1 : Int) + 2 * (Oc.length : Int) + 4 * (Oo.length : Int) < 0) := by omega
  go_wp2_with fail
  refine (heldVarN_is 1 U' hd1.out hd2.out hn1.out hn2.out (by omega) hOq (by omega) (by omega)).mono ?_
  rintro e wm ⟨rfl, hbm⟩
  replace G := G.later hbm G.lt
  replace D := D.later hbm D.lt
  replace T := T.later hbm T.lt
  replace E := bel_trans E hbm
  replace TT := TT.later hbm
  replace U' := U'.later hbm
  clear hbm u0 u1 u2 u3 u4
  -- and it stays
  go_upto_region 38 with fail
  go_cut [24, 25] (fun pv bv wr => bv = .bool Of ∧ VarAt wm wr pv Ot Oq Ov Oc Oo)
  case first =>
    have Gd : Box wm.drew w.heap.size 40 #[.int .i64 s, .int .i64 l, .int .i64 c, .int .i64 sh, .slice A n cap] := G
    have Dd : Box wm.drew (w.heap.size + 1) 45 #[.int .i64 rt, .int .i64 rq, .int .i64 rv, .slice P p pc, .slice Q q qc] := D
    have Td : Box wm.drew (w.heap.size + 1 + 1) 41 #[.int .i64 ct, .int .i64 cq] := T
    obtain ⟨a0, a1, a2, a3, a4, b0, b1, b2, b3, b4, t0, t1⟩ := twelve G D T
    have R1 := (HR.out.below E (Nat.le_refl _)).more E.size
    have P1 := H1.out.later E
    have Q1 := H3.out.later E
    have L1 := HC.out.later E
    have l0 := T.lt
    have q0 : wm.heap.size ≠ w.heap.size := (by omega)
    have q0' : wm.heap.size ≠ w.heap.size + 1 := (by omega)
    have q0'' : wm.heap.size ≠ w.heap.size + 1 + 1 := (by omega)
    go_region_held3 (fun w' => w'.cell? ⟨w.heap.size, 0, none⟩ = some (.int .i64 s) ∧ w'.cell? ⟨w.heap.size, 1, none⟩ = some (.int .i64 l) ∧ w'.cell? ⟨w.heap.size, 2, none⟩ = some (.int .i64 c) ∧ w'.cell? ⟨w.heap.size, 3, none⟩ = some (.int .i64 sh) ∧ w'.cell? ⟨w.heap.size, 4, none⟩ = some (.slice A n cap) ∧ w'.cell? ⟨w.heap.size + 1, 0, none⟩ = some (.int .i64 rt) ∧ w'.cell? ⟨w.heap.size + 1, 1, none⟩ = some (.int .i64 rq) ∧ w'.cell? ⟨w.heap.size + 1, 2, none⟩ = some (.int .i64 rv) ∧ w'.cell? ⟨w.heap.size + 1, 3, none⟩ = some (.slice P p pc) ∧ w'.cell? ⟨w.heap.size + 1, 4, none⟩ = some (.slice Q q qc) ∧ w'.cell? ⟨w.heap.size + 1 + 1, 0, none⟩ = some (.int .i64 ct) ∧ w'.cell? ⟨w.heap.size + 1 + 1, 1, none⟩ = some (.int .i64 cq))
      (first | (with_reducible exact K5) | (with_reducible exact K4) | (with_reducible exact K3) | (with_reducible exact K2) | (with_reducible exact K1) | (with_reducible exact twelve (G5.alloc _) (D5.alloc _) (T5.alloc _)) | (with_reducible exact twelve (G4.alloc _) (D4.alloc _) (T4.alloc _)) | (with_reducible exact twelve (G3.alloc _) (D3.alloc _) (T3.alloc _)) | (with_reducible exact twelve (G2.alloc _) (D2.alloc _) (T2.alloc _)) | (with_reducible exact twelve (G1.alloc _) (D1.alloc _) (T1.alloc _)) | (with_reducible exact twelve (Gd.alloc _) (Dd.alloc _) (Td.alloc _)) | (with_reducible exact twelve (boxFar5 G5 q4 _ _ _ _ _) (boxFar5 D5 q4' _ _ _ _ _) (boxFar5 T5 q4'' _ _ _ _ _)) | (with_reducible exact twelve (boxFar5 G5 q3 _ _ _ _ _) (boxFar5 D5 q3' _ _ _ _ _) (boxFar5 T5 q3'' _ _ _ _ _)) | (with_reducible exact twelve (boxFar5 G5 q2 _ _ _ _ _) (boxFar5 D5 q2' _ _ _ _ _) (boxFar5 T5 q2'' _ _ _ _ _)) | (with_reducible exact twelve (boxFar5 G5 q1 _ _ _ _ _) (boxFar5 D5 q1' _ _ _ _ _) (boxFar5 T5 q1'' _ _ _ _ _)) | (with_reducible exact twelve (boxFar5 G5 q0 _ _ _ _ _) (boxFar5 D5 q0' _ _ _ _ _) (boxFar5 T5 q0'' _ _ _ _ _)) | go_keep)
      (first
        | (go_at_call 16; refine (toGroup_any s l c sh A n cap zs _ hm1 ?_).mono ?_; (first | exact R1 | exact rowNew (w := wm.drew) R1 _); rintro e v1 ⟨g1, hg1, rfl, hrow1, hb1⟩; (first | (have B1 := box_of_alloc (bel_drew' hb1); have F1 := bel_of_alloc (bel_drew' hb1)) | have F1 := bel_drew' hb1); have G1 := G.later F1 G.lt; have D1 := D.later F1 D.lt; have T1 := T.later F1 T.lt; have l1 := T1.lt; have q1 : v1.heap.size ≠ w.heap.size := (by omega); have q1' : v1.heap.size ≠ w.heap.size + 1 := (by omega); have q1'' : v1.heap.size ≠ w.heap.size + 1 + 1 := (by omega); have K1 := twelve G1 D1 T1; have PA1 := P1.later F1; have QA1 := Q1.later F1)
        | (go_at_call 17; refine (toReg_any rt rq rv P p pc Q q qc ps os _ hp hq ?_ ?_).mono ?_; (first | exact PA1 | exact pairsNew PA1 _); (first | exact QA1 | exact quadsNew QA1 _); rintro e v2 ⟨g2, h2, hg2, hgh2, rfl, hk2, hh2, hb2⟩; (first | (have B2 := box_of_alloc hb2; have F2 := bel_of_alloc hb2) | (have B2 := B1.later hb2 B1.lt; have F2 := hb2) | have F2 := hb2); have G2 := G1.later F2 G1.lt; have D2 := D1.later F2 D1.lt; have T2 := T1.later F2 T1.lt; have l2 := T2.lt; have q2 : v2.heap.size ≠ w.heap.size := (by omega); have q2' : v2.heap.size ≠ w.heap.size + 1 := (by omega); have q2'' : v2.heap.size ≠ w.heap.size + 1 + 1 := (by omega); have K2 := twelve G2 D2 T2; have hrow2 := (hrow1.below F2 (Nat.le_refl _)).more F2.size; have F12 := bel_trans F1 F2)
        | (go_at_call 18; refine (toStamp_any ct cq _).mono ?_; rintro e v3 ⟨rfl, hb3⟩; (first | (have B3 := box_of_alloc hb3; have F3 := bel_of_alloc hb3) | (have B3 := B2.later hb3 B2.lt; have F3 := hb3) | have F3 := hb3); have G3 := G2.later F3 G2.lt; have D3 := D2.later F3 D2.lt; have T3 := T2.later F3 T2.lt; have l3 := T3.lt; have q3 : v3.heap.size ≠ w.heap.size := (by omega); have q3' : v3.heap.size ≠ w.heap.size + 1 := (by omega); have q3'' : v3.heap.size ≠ w.heap.size + 1 + 1 := (by omega); have K3 := twelve G3 D3 T3; have hrow3 := (hrow2.below F3 (Nat.le_refl _)).more F3.size; have F13 := bel_trans F12 F3; have hk3 := hk2.later F3; have hh3 := hh2.later F3; have LA3 := L1.later F13)
        | (go_at_call 19; refine (toSeals_any L m mc cs _ hmm ?_).mono ?_; (first | exact LA3 | exact pairsNew LA3 _); rintro e v4 ⟨g4, hg4, rfl, -, hj4, hb4⟩; (first | (have B4 := box_of_alloc hb4; have F4 := bel_of_alloc hb4) | (have B4 := B3.later hb4 B3.lt; have F4 := hb4) | have F4 := hb4); have G4 := G3.later F4 G3.lt; have D4 := D3.later F4 D3.lt; have T4 := T3.later F4 T3.lt; have l4 := T4.lt; have q4 : v4.heap.size ≠ w.heap.size := (by omega); have q4' : v4.heap.size ≠ w.heap.size + 1 := (by omega); have q4'' : v4.heap.size ≠ w.heap.size + 1 + 1 := (by omega); have K4 := twelve G4 D4 T4; have hrow4 := (hrow3.below F4 (Nat.le_refl _)).more F4.size; have F14 := bel_trans F13 F4; have S4 := (hk3.later F4).slc HL1.out (cap := p); have Z4 := (hh3.later F4).slcQ HL3.out HMQ.out; have PL4 := hj4.prs HLC.out)
        | (go_at_call 7; refine (writtenC_is s l c sh _ n n zs x rt rq rv _ p p _ q q ct cq v _ m m ps os cs _ HX.out ?_ (by omega) (by omega) ?_ ?_ (by omega) ?_ HO.out).mono ?_; (first | exact hrow4 | exact rowNew hrow4 _); (first | exact S4 | exact S4.later (bel_alloc _ _)); (first | exact Z4 | exact Z4.later (bel_alloc _ _)); (first | exact PL4 | exact pairsNew PL4 _); rintro e v5 ⟨Bn, A5, n5, c5, A6, n6, c6, hB4, hB4', rfl, hR4, hV4, hb5⟩; (first | (have B5 := box_of_alloc hb5; have F5 := bel_of_alloc hb5) | (have B5 := B4.later hb5 B4.lt; have F5 := hb5) | have F5 := hb5); have G5 := G4.later F5 G4.lt; have D5 := D4.later F5 D4.lt; have T5 := T4.later F5 T4.lt; have l5 := T5.lt; have q5 : v5.heap.size ≠ w.heap.size := (by omega); have q5' : v5.heap.size ≠ w.heap.size + 1 := (by omega); have q5'' : v5.heap.size ≠ w.heap.size + 1 + 1 := (by omega); have K5 := twelve G5 D5 T5; have F15 := bel_trans F14 F5; (first | (obtain ⟨z0, z1, z2, z3, z4⟩ := B5.five; have fz := B5.frozen) | skip)))
    all_goals go_wp2_with fail
    all_goals go_meet
    all_goals first
      | with_reducible exact ⟨rfl, varAt_new (W := v4) F14.size hB4 hB4' hR4 hV4 F15⟩
      | with_reducible exact ⟨rfl, varAt_put (W := v4.alloc _) B5 F14.size (by simp) hB4 hB4' hR4 hV4 F15⟩
      | with_reducible exact ⟨rfl, varAt_put (W := v4) B5 F13.size B4.lt hB4 hB4' hR4 hV4 F15⟩
      | with_reducible exact ⟨rfl, varAt_put (W := v4) B5 F12.size B4.lt hB4 hB4' hR4 hV4 F15⟩
      | with_reducible exact ⟨rfl, varAt_put (W := v4) B5 F1.size B4.lt hB4 hB4' hR4 hV4 F15⟩
      | with_reducible exact ⟨rfl, varAt_put (W := v4) B5 (Nat.le_refl _) B4.lt hB4 hB4' hR4 hV4 F15⟩
  case rest =>
  obtain ⟨rfl, t12, A12, n12, c12, A12', n12', c12', rfl, YY, hbc⟩ := hcut
  replace E := bel_trans E hbc
  replace TT := TT.later hbc
  replace U' := U'.later hbc
  clear G D T hbc
  obtain ⟨u0, u1, u2, u3, u4⟩ := YY.box.five
  obtain ⟨x0, x1, x2, x3, x4⟩ := TT.box.five
  go_wp2_with fail
  refine (eqVarP_is YY TT hOl hOq).mono ?_
  rintro e wn ⟨rfl, hbn⟩
  replace E := bel_trans E hbn
  replace U' := U'.later hbn
  clear hbn u0 u1 u2 u3 u4 x0 x1 x2 x3 x4 YY TT
  obtain ⟨u0, u1, u2, u3, u4⟩ := U'.box.five
  go_wp2_with fail
  refine (heldVarN_is 1 U' hd1.out hd2.out hn1.out hn2.out (by omega) hOq (by omega) (by omega)).mono ?_
  rintro e wo ⟨rfl, hbo⟩
  replace E := bel_trans E hbo
  clear hbo u0 u1 u2 u3 u4 U'
  go_wp2
  go_ret
  exact ⟨rfl, E⟩

theorem exactWritten_big (s l c sh : Int) (A : Option Addr) (n cap : Nat)  (x rt rq rv : Int) (P : Option Addr) (p pc : Nat) (Q : Option Addr) (q qc : Nat) (ct cq v : Int) (L : Option Addr) (m mc : Nat) (w : World) (hx : n ≤ maxLen) (hy : p ≤ maxLen) (hz : q ≤ maxLen) (hu : m ≤ maxLen) (hm : 1048576 < n + p + q + m) :
    Calls Tryz.prog 4 #[.agg #[.int .i64 s, .int .i64 l, .int .i64 c, .int .i64 sh, .slice A n cap], .int .i64 x, .agg #[.int .i64 rt, .int .i64 rq, .int .i64 rv, .slice P p pc, .slice Q q qc], .agg #[.int .i64 ct, .int .i64 cq], .int .i64 v, .slice L m mc] w fun e w' => e = .returned (.bool true) ∧ Below w.heap.size w w' := by
  have D := (Box.new (w.alloc (.cells #[.int .i64 s, .int .i64 l, .int .i64 c, .int .i64 sh, .slice A n cap] 40)) 45 #[.int .i64 rt, .int .i64 rq, .int .i64 rv, .slice P p pc, .slice Q q qc]).alloc (.cells #[.int .i64 ct, .int .i64 cq] 41)
  have E := bel_trans (bel_trans (bel_alloc w (.cells #[.int .i64 s, .int .i64 l, .int .i64 c, .int .i64 sh, .slice A n cap] 40)) (bel_alloc _ (.cells #[.int .i64 rt, .int .i64 rq, .int .i64 rv, .slice P p pc, .slice Q q qc] 45))) (bel_alloc _ (.cells #[.int .i64 ct, .int .i64 cq] 41))
  simp only [World.size_alloc] at D
  have HX := Lib.hid hx
  have HY := Lib.hid hy
  have HZ := Lib.hid hz
  have HU := Lib.hid hu
  clear hx hy hz hu
  go_enter Tryz.func4, Tryz.ntmps4
  go_wp2_with fail
  generalize (((w.alloc _).alloc _).alloc _ : World) = w0 at D E ⊢
  rcases Nat.lt_or_ge 1048576 n with h | h
  · refine (szGroup_gt s l c sh A n cap w0 h HX.out).mono ?_
    rintro e w1 ⟨rfl, hb1⟩
    have E1 := bel_trans E hb1
    go_wp2
    go_ret
    exact ⟨rfl, E1⟩
  have hnn : ¬ ((1048576 : Int) - n < 0) := by omega
  refine (szGroup_le s l c sh A n cap w0 h).mono ?_
  rintro e w1 ⟨rfl, hb1⟩
  replace D := D.later hb1 D.lt
  replace E := bel_trans E hb1
  clear hb1
  obtain ⟨x0, x1, x2, x3, x4⟩ := D.five
  go_wp2_with fail
  rcases Nat.lt_or_ge 1048576 (n + p + q) with h2 | h2
  · refine (szReg_gt rt rq rv P p pc Q q qc (1048576 - n) w1 (by omega) (by omega) (by omega) HY.out HZ.out).mono ?_
    rintro e w2 ⟨rfl, hb2⟩
    have E2 := bel_trans E hb2
    go_wp2
    go_ret
    exact ⟨rfl, E2⟩
  have hnm : ¬ ((1048576 : Int) - n - p - q < 0) := by omega
  refine (szReg_le rt rq rv P p pc Q q qc (1048576 - n) w1 (by omega) (by omega)).mono ?_
  rintro e w2 ⟨rfl, hb2⟩
  have E2 := bel_trans E hb2
  clear x0 x1 x2 x3 x4
  go_wp2_with fail
  refine (szSeals_gt L m mc (1048576 - n - p - q) w2 (by omega) (by omega) (by omega) HU.out).mono ?_
  rintro e w3 ⟨rfl, rfl⟩
  go_wp2
  go_ret
  exact ⟨rfl, E2⟩

end Go.Proofs.YtghdnokjgmmgiaaGreat
