/- The exact law of WithOpen answers true, whatever it is given: its walk (written by laws_with.py). -/
import Derived.Test.YtghdnokjgmmgiaaVarReg
import Derived.Test.YtghdnokjgmmgiaaSpecReg1
import Derived.Test.YtghdnokjgmmgiaaLawsJoin
namespace Go.Proofs.Ytghdnokjgmmgiaa
open Go.RowKit

theorem pairsNew {w : World} {A : Option Addr} {n : Nat} {ps : List (Int × Int)} (h : Pairs w w.heap.size A n ps) (o : Obj) : Pairs (w.alloc o) (w.alloc o).heap.size A n ps := h.later (bel_alloc w o)
theorem quadsNew {w : World} {A : Option Addr} {n : Nat} {os : List Opn} (h : Quads w w.heap.size A n os) (o : Obj) : Quads (w.alloc o) (w.alloc o).heap.size A n os := h.later (bel_alloc w o)
theorem HeldQ.slcQ {w : World} {g n : Nat} {os : List Opn} (h : HeldQ w g os) (hl : os.length = n) (hm : n ≤ maxLen) : SlcQ w (.slice (some ⟨g, 0, none⟩) n n) os := .inr ⟨g, 0, n, n, rfl, Nat.le_refl _, hm, h.qds hl⟩
theorem nine {w : World} {g g' : Nat} {t t' : TypeId} {v0 v1 v2 v3 v4 u0 u1 u2 u3 : Value} (h : Box w g t #[v0, v1, v2, v3, v4]) (h' : Box w g' t' #[u0, u1, u2, u3]) :
    w.cell? ⟨g, 0, none⟩ = some v0 ∧ w.cell? ⟨g, 1, none⟩ = some v1 ∧ w.cell? ⟨g, 2, none⟩ = some v2 ∧ w.cell? ⟨g, 3, none⟩ = some v3 ∧ w.cell? ⟨g, 4, none⟩ = some v4 ∧ w.cell? ⟨g', 0, none⟩ = some u0 ∧ w.cell? ⟨g', 1, none⟩ = some u1 ∧ w.cell? ⟨g', 2, none⟩ = some u2 ∧ w.cell? ⟨g', 3, none⟩ = some u3 :=
  ⟨h.cell 0, h.cell 1, h.cell 2, h.cell 3, h.cell 4, h'.cell 0, h'.cell 1, h'.cell 2, h'.cell 3⟩
theorem boxFar5 {w : World} {g R : Nat} {t : TypeId} {cs : Array Value} (h : Box w g t cs) (hR : R ≠ g) (u0 u1 u2 u3 u4 : Value) : Box (((((w.setCell ⟨R, 0, none⟩ u0).setCell ⟨R, 1, none⟩ u1).setCell ⟨R, 2, none⟩ u2).setCell ⟨R, 3, none⟩ u3).setCell ⟨R, 4, none⟩ u4) g t cs :=
  ((((h.far (p := ⟨R, 0, none⟩) hR u0).far (p := ⟨R, 1, none⟩) hR u1).far (p := ⟨R, 2, none⟩) hR u2).far (p := ⟨R, 3, none⟩) hR u3).far (p := ⟨R, 4, none⟩) hR u4
theorem bel_put5 {w w' : World} {B g : Nat} (h : Below B w w') (hg : B ≤ g) (u0 u1 u2 u3 u4 : Value) : Below B w (((((w'.setCell ⟨g, 0, none⟩ u0).setCell ⟨g, 1, none⟩ u1).setCell ⟨g, 2, none⟩ u2).setCell ⟨g, 3, none⟩ u3).setCell ⟨g, 4, none⟩ u4) := ((((h.setCell hg u0).setCell hg u1).setCell hg u2).setCell hg u3).setCell hg u4
/-- A shelf was answered into a new variable. -/
def VarAt (w0 wr : World) (p : Value) (rt rq rv : Int) (ps : List (Int × Int)) (os : List Opn) : Prop :=
  ∃ (g : Nat) (A : Option Addr) (n c : Nat) (A' : Option Addr) (n' c' : Nat), p = .pointer (some ⟨g, 0, none⟩) ∧ Var wr w0.heap.size wr.heap.size g A n c A' n' c' rt rq rv ps os ∧ Below w0.heap.size w0 wr
theorem varAt_new {w0 W w4 : World} {B : Nat} {A : Option Addr} {n c : Nat} {A' : Option Addr} {n' c' : Nat} {rt rq rv : Int} {ps : List (Int × Int)} {os : List Opn} (h0 : w0.heap.size ≤ W.heap.size) (hB : W.heap.size ≤ B) (hB' : B ≤ w4.heap.size) (hR : ResP w4 W.heap.size B (.slice A n c) ps) (hV : ResO w4 B (.slice A' n' c') os) (hb : Below w0.heap.size w0 w4) :
    VarAt w0 (w4.alloc (.cells #[.int .i64 rt, .int .i64 rq, .int .i64 rv, .slice A n c, .slice A' n' c'] 29)) (.pointer (some ⟨w4.heap.size, 0, none⟩)) rt rq rv ps os :=
  ⟨_, _, _, _, _, _, _, rfl, var_new (W := W) h0 hB hB' hR hV, bel_trans hb (bel_alloc _ _)⟩
theorem varAt_put {w0 W w4 : World} {B g : Nat} {z0 z1 z2 z3 z4 : Value} {A : Option Addr} {n c : Nat} {A' : Option Addr} {n' c' : Nat} {rt rq rv : Int} {ps : List (Int × Int)} {os : List Opn} (X : Box w4 g 29 #[z0, z1, z2, z3, z4]) (hg : w0.heap.size ≤ g) (hgW : g < W.heap.size) (hB : W.heap.size ≤ B) (hB' : B ≤ w4.heap.size) (hR : ResP w4 W.heap.size B (.slice A n c) ps) (hV : ResO w4 B (.slice A' n' c') os) (hb : Below w0.heap.size w0 w4) :
    VarAt w0 (((((w4.setCell ⟨g, 0, none⟩ (.int .i64 rt)).setCell ⟨g, 1, none⟩ (.int .i64 rq)).setCell ⟨g, 2, none⟩ (.int .i64 rv)).setCell ⟨g, 3, none⟩ (.slice A n c)).setCell ⟨g, 4, none⟩ (.slice A' n' c')) (.pointer (some ⟨g, 0, none⟩)) rt rq rv ps os :=
  ⟨_, _, _, _, _, _, _, rfl, var_put (W := W) X hg hgW hB hB' hR hV, bel_put5 hb hg _ _ _ _ _⟩

set_option maxRecDepth 100000 in
set_option maxHeartbeats 8000000 in
theorem exactWith_small (rt rq rv : Int) (P : Option Addr) (p pc : Nat) (Q : Option Addr) (q qc : Nat) (ps : List (Int × Int)) (os : List Opn) (a b c d : Int) (w : World) (hm : p + q ≤ 1048576) (h1 : Pairs w w.heap.size P p ps) (h3 : Quads w w.heap.size Q q os) :
    Calls Try.prog 6 #[.agg #[.int .i64 rt, .int .i64 rq, .int .i64 rv, .slice P p pc, .slice Q q qc], .agg #[.int .i64 a, .int .i64 b, .int .i64 c, .int .i64 d]] w fun e w' => e = .returned (.bool true) ∧ Below w.heap.size w w' := by
  have hp : p ≤ 1048576 := by omega
  have hq : q ≤ 1048576 := by omega
  have hnn : ¬ ((1048576 : Int) - p - q < 0) := by omega
  have D := (Box.new w 45 #[.int .i64 rt, .int .i64 rq, .int .i64 rv, .slice P p pc, .slice Q q qc]).alloc (.cells #[.int .i64 a, .int .i64 b, .int .i64 c, .int .i64 d] 57)
  have O := Box.new (w.alloc (.cells #[.int .i64 rt, .int .i64 rq, .int .i64 rv, .slice P p pc, .slice Q q qc] 45)) 57 #[.int .i64 a, .int .i64 b, .int .i64 c, .int .i64 d]
  have E := bel_trans (bel_alloc w (.cells #[.int .i64 rt, .int .i64 rq, .int .i64 rv, .slice P p pc, .slice Q q qc] 45)) (bel_alloc _ (.cells #[.int .i64 a, .int .i64 b, .int .i64 c, .int .i64 d] 57))
  simp only [World.size_alloc] at O
  obtain ⟨J, hJ⟩ : ∃ J, withO os (a, b, c, d) = J := ⟨_, rfl⟩
  have hJl : J.length ≤ 1048577 := by
    rw [← hJ]
    have := (withO_len os (a, b, c, d)).1
    rw [h3.1] at this
    omega
  have HJ := Lib.hid hJ
  have HL1 := Lib.hid h1.1
  have HL3 := Lib.hid h3.1
  have HLP : Hid (ps.length ≤ 2000000) := Lib.hid (by rw [h1.1]; omega)
  have HLQ : Hid (os.length ≤ 2000000) := Lib.hid (by rw [h3.1]; omega)
  have HLP' : Hid (ps.length ≤ 1048576) := Lib.hid (by rw [h1.1]; omega)
  have HLQ' : Hid (os.length ≤ 1048577) := Lib.hid (by rw [h3.1]; omega)
  have HMP : Hid (p ≤ maxLen) := Lib.hid (by unfold maxLen; omega)
  have HMQ : Hid (q ≤ maxLen) := Lib.hid (by unfold maxLen; omega)
  have H1 := Lib.hid h1
  have H3 := Lib.hid h3
  clear h1 h3 hJ
  go_enter Try.func6, Try.ntmps6
  go_wp2_with fail
  generalize ((w.alloc _).alloc _ : World) = w0 at D O E ⊢
  refine (szReg_le rt rq rv P p pc Q q qc 1048576 w0 (by omega) (by omega)).mono ?_
  rintro e w1 ⟨rfl, hb1⟩
  replace D := D.later hb1 D.lt
  replace O := O.later hb1 O.lt
  replace E := bel_trans E hb1
  clear hb1
  go_upto_region 5 with fail
  -- the model, on copies
  go_cut [6] (fun p wr => VarAt w1 wr p rt rq rv ps J)
  case first =>
    have Dd : Box w1.drew w.heap.size 45 #[.int .i64 rt, .int .i64 rq, .int .i64 rv, .slice P p pc, .slice Q q qc] := D
    have Od : Box w1.drew (w.heap.size + 1) 57 #[.int .i64 a, .int .i64 b, .int .i64 c, .int .i64 d] := O
    obtain ⟨a0, a1, a2, a3, a4⟩ := D.five
    obtain ⟨o0, o1, o2, o3⟩ := O.four
    have P1 := H1.out.later E
    have Q1 := H3.out.later E
    have l1 := O.lt
    have q1 : w1.heap.size ≠ w.heap.size := by omega
    have q1' : w1.heap.size ≠ w.heap.size + 1 := by omega
    go_region_held3 (fun w' => w'.cell? ⟨w.heap.size, 0, none⟩ = some (.int .i64 rt) ∧ w'.cell? ⟨w.heap.size, 1, none⟩ = some (.int .i64 rq) ∧ w'.cell? ⟨w.heap.size, 2, none⟩ = some (.int .i64 rv) ∧ w'.cell? ⟨w.heap.size, 3, none⟩ = some (.slice P p pc) ∧ w'.cell? ⟨w.heap.size, 4, none⟩ = some (.slice Q q qc) ∧ w'.cell? ⟨w.heap.size + 1, 0, none⟩ = some (.int .i64 a) ∧ w'.cell? ⟨w.heap.size + 1, 1, none⟩ = some (.int .i64 b) ∧ w'.cell? ⟨w.heap.size + 1, 2, none⟩ = some (.int .i64 c) ∧ w'.cell? ⟨w.heap.size + 1, 3, none⟩ = some (.int .i64 d))
      (first | (with_reducible exact K4) | (with_reducible exact K3) | (with_reducible exact K2) | (with_reducible exact nine (D4.alloc _) (O4.alloc _)) | (with_reducible exact nine (D3.alloc _) (O3.alloc _)) | (with_reducible exact nine (D2.alloc _) (O2.alloc _)) | (with_reducible exact nine (Dd.alloc _) (Od.alloc _)) | (with_reducible exact nine (boxFar5 D4 q3 _ _ _ _ _) (boxFar5 O4 q3' _ _ _ _ _)) | (with_reducible exact nine (boxFar5 D4 q2 _ _ _ _ _) (boxFar5 O4 q2' _ _ _ _ _)) | (with_reducible exact nine (boxFar5 D4 q1 _ _ _ _ _) (boxFar5 O4 q1' _ _ _ _ _)) | go_keep)
      (first
        | (go_at_call 17; refine (toReg_any rt rq rv P p pc Q q qc ps os _ hp hq ?_ ?_).mono ?_; (first | exact P1 | exact pairsNew (w := w1.drew) P1 _); (first | exact Q1 | exact quadsNew (w := w1.drew) Q1 _); rintro e w2 ⟨g2, h2, hg2, hgh2, rfl, hk2, hh2, hb2⟩; (first | (have B2 := box_of_alloc (bel_drew' hb2); have F2 := bel_of_alloc (bel_drew' hb2)) | have F2 := bel_drew' hb2); have D2 := D.later F2 D.lt; have O2 := O.later F2 O.lt; have l2 := O2.lt; have q2 : w2.heap.size ≠ w.heap.size := (by omega); have q2' : w2.heap.size ≠ w.heap.size + 1 := (by omega); have K2 := nine D2 O2)
        | (go_at_call 23; refine (toOpen_any a b c d _).mono ?_; rintro e w3 ⟨rfl, hb3⟩; (first | (have B3 := box_of_alloc hb3; have F3 := bel_of_alloc hb3) | (have B3 := B2.later hb3 B2.lt; have F3 := hb3) | have F3 := hb3); have D3 := D2.later F3 D2.lt; have O3 := O2.later F3 O2.lt; have S3 := (hk2.later F3).slc HL1.out (cap := p); have T3 := (hh2.later F3).slcQ HL3.out HMQ.out; have P3 := bel_trans F2 F3; have l3 := O3.lt; have q3 : w3.heap.size ≠ w.heap.size := (by omega); have q3' : w3.heap.size ≠ w.heap.size + 1 := (by omega); have K3 := nine D3 O3)
        | (go_at_call 11; refine (specWith_is rt rq rv _ p p _ q q a b c d ps os _ HLP.out HLQ.out ?_ ?_).mono ?_; (first | exact S3 | exact S3.later (bel_alloc _ _)); (first | exact T3 | exact T3.later (bel_alloc _ _)); rintro e w4 ⟨B4, u4, v4, hB4, hB4', rfl, hR4, hV4, hb4⟩; rw [HJ.out] at hV4; obtain ⟨A4, c4, rfl, _, _, _, _⟩ := hR4.form; obtain ⟨A4', c4', rfl, _, _, _, _⟩ := hV4.form; have hb4' := hb4; (first | (have X4 := box_of_alloc hb4; have F4 := bel_of_alloc hb4) | (have X4 := B3.later hb4 B3.lt; have F4 := hb4) | have F4 := hb4); have D4 := D3.later F4 D3.lt; have O4 := O3.later F4 O3.lt; have P4 := bel_trans P3 F4; have K4 := nine D4 O4; (first | (obtain ⟨z0, z1, z2, z3, z4⟩ := X4.five; have fz := X4.frozen) | skip)))
    all_goals go_wp2_with fail
    all_goals go_meet
    all_goals first
      | with_reducible exact varAt_new (W := w3) P3.size hB4 hB4' hR4 hV4 P4
      | with_reducible exact varAt_put (W := w3.alloc _) X4 P3.size (by simp) hB4 hB4' hR4 hV4 P4
      | with_reducible exact varAt_put (W := w3) X4 F2.size B3.lt hB4 hB4' hR4 hV4 P4
      | with_reducible exact varAt_put (W := w3) X4 (Nat.le_refl _) B3.lt hB4 hB4' hR4 hV4 P4
  case rest =>
  obtain ⟨t6, A6, n6, c6, A6', n6', c6', rfl, T, hbc⟩ := hcut
  replace D := D.later hbc D.lt
  replace O := O.later hbc O.lt
  replace E := bel_trans E hbc
  have hs1 := hbc.size
  have hO1 := O.lt
  have hT0 := T.g0
  clear hbc
  obtain ⟨a0, a1, a2, a3, a4⟩ := D.five
  go_wp2_with fail
  -- the copies that are handed in
  refine (toReg_any rt rq rv P p pc Q q qc ps os wc hp hq (H1.out.later E) (H3.out.later E)).mono ?_
  rintro e w2 ⟨g2, h2, hg2, hgh2, rfl, hk2, hh2, hb2⟩
  have X := var_made (rt := rt) (rq := rq) (rv := rv) HL1.out HL3.out hg2 hgh2 hk2 hh2 HMP.out HMQ.out
  have hb3 := bel_trans hb2 (bel_alloc w2 (.cells #[.int .i64 rt, .int .i64 rq, .int .i64 rv, .slice (some ⟨g2, 0, none⟩) p p, .slice (some ⟨h2, 0, none⟩) q q] 29))
  replace D := D.later hb3 D.lt
  replace O := O.later hb3 O.lt
  replace E := bel_trans E hb3
  replace T := T.later hb3
  clear a0 a1 a2 a3 a4 hk2 hh2 hb2 hb3
  go_wp2_with fail
  generalize (w2.alloc _ : World) = w3 at X D O E T ⊢
  generalize w2.heap.size = t7 at X ⊢
  obtain ⟨s6, hs6⟩ : ∃ s6, wc.heap.size = s6 := ⟨_, rfl⟩
  rw [hs6] at T X hs1 hO1 hg2
  clear hs6
  have hX0 := X.g0
  have hX1 := X.g1
  have hXw := X.hw
  -- the program
  go_cut [8] (fun p wr => VarAt w3 wr p rt rq rv ps J)
  case first =>
    have Xd : Box w3.drew t7 29 #[.int .i64 rt, .int .i64 rq, .int .i64 rv, .slice (some ⟨g2, 0, none⟩) p p, .slice (some ⟨h2, 0, none⟩) q q] := X.box
    have Od : Box w3.drew (w.heap.size + 1) 57 #[.int .i64 a, .int .i64 b, .int .i64 c, .int .i64 d] := O
    obtain ⟨a0, a1, a2, a3, a4⟩ := X.box.five
    obtain ⟨o0, o1, o2, o3⟩ := O.four
    have l1 := O.lt
    have q1 : w3.heap.size ≠ t7 := by omega
    have q1' : w3.heap.size ≠ w.heap.size + 1 := by omega
    go_region_held3 (fun w' => w'.cell? ⟨t7, 0, none⟩ = some (.int .i64 rt) ∧ w'.cell? ⟨t7, 1, none⟩ = some (.int .i64 rq) ∧ w'.cell? ⟨t7, 2, none⟩ = some (.int .i64 rv) ∧ w'.cell? ⟨t7, 3, none⟩ = some (.slice (some ⟨g2, 0, none⟩) p p) ∧ w'.cell? ⟨t7, 4, none⟩ = some (.slice (some ⟨h2, 0, none⟩) q q) ∧ w'.cell? ⟨w.heap.size + 1, 0, none⟩ = some (.int .i64 a) ∧ w'.cell? ⟨w.heap.size + 1, 1, none⟩ = some (.int .i64 b) ∧ w'.cell? ⟨w.heap.size + 1, 2, none⟩ = some (.int .i64 c) ∧ w'.cell? ⟨w.heap.size + 1, 3, none⟩ = some (.int .i64 d))
      (first | (with_reducible exact K7) | (with_reducible exact K6) | (with_reducible exact nine (X7.alloc _) (O7.alloc _)) | (with_reducible exact nine (X6.alloc _) (O6.alloc _)) | (with_reducible exact nine (Xd.alloc _) (Od.alloc _)) | (with_reducible exact nine (boxFar5 X7 q2 _ _ _ _ _) (boxFar5 O7 q2' _ _ _ _ _)) | (with_reducible exact nine (boxFar5 X7 q1 _ _ _ _ _) (boxFar5 O7 q1' _ _ _ _ _)) | go_keep)
      (first
        | (go_at_call 23; refine (toOpen_any a b c d _).mono ?_; rintro e w6 ⟨rfl, hb6⟩; (first | (have B6 := box_of_alloc (bel_drew' hb6); have F6 := bel_of_alloc (bel_drew' hb6)) | have F6 := bel_drew' hb6); have V6 := X.later F6; have X6 := V6.box; have O6 := O.later F6 O.lt; have l2 := O6.lt; have l3 := X6.lt; have q2 : w6.heap.size ≠ t7 := (by omega); have q2' : w6.heap.size ≠ w.heap.size + 1 := (by omega); have K6 := nine X6 O6; obtain ⟨-, -, -, -, -, -, -, -, S6, T6⟩ := V6.pairs)
        | (go_at_call 9; refine (withOpen_is rt rq rv _ p p _ q q a b c d ps os _ HLP.out HLQ.out ?_ ?_).mono ?_; (first | exact S6 | exact S6.later (bel_alloc _ _)); (first | exact T6 | exact T6.later (bel_alloc _ _)); rintro e w7 ⟨B4, u4, v4, hB4, hB4', rfl, hR4, hV4, hb7⟩; rw [HJ.out] at hV4; obtain ⟨A4, c4, rfl, _, _, _, _⟩ := hR4.form; obtain ⟨A4', c4', rfl, _, _, _, _⟩ := hV4.form; (first | (have Z7 := box_of_alloc hb7; have F7 := bel_of_alloc hb7) | (have Z7 := B6.later hb7 B6.lt; have F7 := hb7) | have F7 := hb7); have X7 := X6.later F7 X6.lt; have O7 := O6.later F7 O6.lt; have P7 := bel_trans F6 F7; have K7 := nine X7 O7; (first | (obtain ⟨z0, z1, z2, z3, z4⟩ := Z7.five; have fz := Z7.frozen) | skip)))
    all_goals go_wp2_with fail
    all_goals go_meet
    all_goals first
      | with_reducible exact varAt_new (W := w6) F6.size hB4 hB4' hR4 hV4 P7
      | with_reducible exact varAt_put (W := w6.alloc _) Z7 F6.size (by simp) hB4 hB4' hR4 hV4 P7
      | with_reducible exact varAt_put (W := w6) Z7 (Nat.le_refl _) B6.lt hB4 hB4' hR4 hV4 P7
  case rest =>
  obtain ⟨t8, A8, n8, c8, A8', n8', c8', rfl, U, hbc⟩ := hcut
  replace D := D.later hbc D.lt
  replace O := O.later hbc O.lt
  replace E := bel_trans E hbc
  replace T := T.later hbc
  replace X := X.later hbc
  have hU0 := U.g0
  have hU1 := U.g1
  have hUw := U.hw
  clear hbc
  obtain ⟨s8, hs8⟩ : ∃ s8, wc.heap.size = s8 := ⟨_, rfl⟩
  obtain ⟨s7, hs7⟩ : ∃ s7, w3.heap.size = s7 := ⟨_, rfl⟩
  rw [hs8, hs7] at U
  rw [hs7] at X hU0 hX1
  rw [hs8] at hU1
  replace hs8 : s8 ≤ wc.heap.size := Nat.le_of_eq hs8.symm
  clear hs7 hUw hXw
  obtain ⟨u0, u1, u2, u3, u4⟩ := U.box.five
  obtain ⟨x0, x1, x2, x3, x4⟩ := T.box.five
  go_wp2_with fail
  refine (eqVar_is U T HLP'.out hJl).mono ?_
  rintro e w5 ⟨rfl, hb5⟩
  replace D := D.later hb5 D.lt
  replace O := O.later hb5 O.lt
  replace E := bel_trans E hb5
  replace T := T.later hb5
  replace X := X.later hb5
  replace U := U.later hb5
  clear hb5 u0 u1 u2 u3 u4 x0 x1 x2 x3 x4 hs8
  obtain ⟨a0, a1, a2, a3, a4⟩ := D.five
  obtain ⟨x0, x1, x2, x3, x4⟩ := X.box.five
  have P9 := H1.out.later E
  have Q9 := H3.out.later E
  have X9 := X.box
  go_wp2_with fail
  go_region_held3 (fun w' => w'.cell? ⟨w.heap.size, 0, none⟩ = some (.int .i64 rt) ∧ w'.cell? ⟨w.heap.size, 1, none⟩ = some (.int .i64 rq) ∧ w'.cell? ⟨w.heap.size, 2, none⟩ = some (.int .i64 rv) ∧ w'.cell? ⟨w.heap.size, 3, none⟩ = some (.slice P p pc) ∧ w'.cell? ⟨w.heap.size, 4, none⟩ = some (.slice Q q qc) ∧ w'.cell? ⟨t7, 0, none⟩ = some (.int .i64 rt) ∧ w'.cell? ⟨t7, 1, none⟩ = some (.int .i64 rq) ∧ w'.cell? ⟨t7, 2, none⟩ = some (.int .i64 rv) ∧ w'.cell? ⟨t7, 3, none⟩ = some (.slice (some ⟨g2, 0, none⟩) p p) ∧ w'.cell? ⟨t7, 4, none⟩ = some (.slice (some ⟨h2, 0, none⟩) q q)) (first | (with_reducible exact KB) | (with_reducible exact KA) | go_keep)
    (first
      | (go_at_call 17; refine (toReg_any rt rq rv P p pc Q q qc ps os _ hp hq ?_ ?_).mono ?_; exact P9; exact Q9; rintro e wa ⟨ga, ha, hga, hgha, rfl, hka, hha, hba⟩; have FA := bel_drew' hba; have XA := X.later FA; obtain ⟨-, pA, -, qA, -⟩ := XA.pairs; have KA := ten (D.later FA D.lt) (X9.later FA X9.lt))
      | (go_at_call 20; refine (eqReg_same rt rq rv _ _ p p p _ _ q q q ps os _ hp (by omega) pA (hka.prs HL1.out) qA (hha.qds HL3.out)).mono ?_; rintro e wb ⟨rfl, hbb⟩; have FB := bel_trans FA hbb; have KB := ten (D.later FB D.lt) (X9.later FB X9.lt)))
  replace D := D.later FB D.lt
  replace O := O.later FB O.lt
  replace E := bel_trans E FB
  replace T := T.later FB
  replace X := X.later FB
  replace U := U.later FB
  clear a0 a1 a2 a3 a4 x0 x1 x2 x3 x4 P9 Q9 X9 FA FB KA KB hba hbb hka hha XA pA qA
  obtain ⟨x0, x1, x2, x3, x4⟩ := X.box.five
  -- the copies are written
  go_wp2_with fail
  refine (markVar_is 1 X (by have := HLP'.out; omega) HLQ'.out (by omega) (by omega)).mono ?_
  rintro e w7 ⟨rfl, D1, D2, hd1, hd2, _, _, X', hbd⟩
  replace D := D.band hbd (.inl (by omega))
  replace O := O.band hbd (.inl (by omega))
  replace E := hbd.below E (by omega)
  replace T := T.band hbd (.inl (by omega))
  replace U := U.band hbd (.inr (by omega))
  have hk0 : ¬ ((1 : Int) + 2 * (ps.length : Int) + 4 * (os.length : Int) < 0) := by omega
  obtain ⟨u0, u1, u2, u3, u4⟩ := U.box.five
  obtain ⟨y0, y1, y2, y3, y4⟩ := T.box.five
  clear X X' hd1 hd2 hbd x0 x1 x2 x3 x4
  go_wp2_with fail
  refine (eqVar_is U T HLP'.out hJl).mono ?_
  rintro e w8 ⟨rfl, hb8⟩
  replace D := D.later hb8 D.lt
  replace O := O.later hb8 O.lt
  replace E := bel_trans E hb8
  replace T := T.later hb8
  replace U := U.later hb8
  clear hb8 u0 u1 u2 u3 u4 y0 y1 y2 y3 y4 hk0
  obtain ⟨u0, u1, u2, u3, u4⟩ := U.box.five
  -- the answer is written
  go_wp2_with fail
  refine (markVar_is 1 U (by have := HLP'.out; omega) hJl (by omega) (by omega)).mono ?_
  rintro e w9 ⟨rfl, D1, D2, hd1, hd2, hm1, hm2, U', hbd⟩
  replace D := D.band hbd (.inl (by omega))
  replace O := O.band hbd (.inl (by omega))
  replace E := hbd.below E (by omega)
  replace T := T.band hbd (.inl (by omega))
  replace hd1 := Lib.hid hd1
  replace hd2 := Lib.hid hd2
  replace hm1 := Lib.hid hm1
  replace hm2 := Lib.hid hm2
  clear U hbd u0 u1 u2 u3 u4
  obtain ⟨u0, u1, u2, u3, u4⟩ := U'.box.five
  have hlp := HLP'.out
  have hk0 : ¬ ((1 : Int) + 2 * (ps.length : Int) + 4 * (J.length : Int) < 0) := by omega
  go_wp2_with fail
  refine (heldVarN_is 1 U' hd1.out hd2.out hm1.out hm2.out (by omega) hJl (by omega) (by omega)).mono ?_
  rintro e w10 ⟨rfl, hb10⟩
  replace D := D.later hb10 D.lt
  replace O := O.later hb10 O.lt
  replace E := bel_trans E hb10
  replace T := T.later hb10
  replace U' := U'.later hb10
  clear hb10 u0 u1 u2 u3 u4
  -- and it stays
  go_upto_region 24 with fail
  go_cut [12] (fun p wr => VarAt w10 wr p rt rq rv ps J)
  case first =>
    have Dd : Box w10.drew w.heap.size 45 #[.int .i64 rt, .int .i64 rq, .int .i64 rv, .slice P p pc, .slice Q q qc] := D
    have Od : Box w10.drew (w.heap.size + 1) 57 #[.int .i64 a, .int .i64 b, .int .i64 c, .int .i64 d] := O
    obtain ⟨a0, a1, a2, a3, a4⟩ := D.five
    obtain ⟨o0, o1, o2, o3⟩ := O.four
    have P1 := H1.out.later E
    have Q1 := H3.out.later E
    have l1 := O.lt
    have q1 : w10.heap.size ≠ w.heap.size := by omega
    have q1' : w10.heap.size ≠ w.heap.size + 1 := by omega
    go_region_held3 (fun w' => w'.cell? ⟨w.heap.size, 0, none⟩ = some (.int .i64 rt) ∧ w'.cell? ⟨w.heap.size, 1, none⟩ = some (.int .i64 rq) ∧ w'.cell? ⟨w.heap.size, 2, none⟩ = some (.int .i64 rv) ∧ w'.cell? ⟨w.heap.size, 3, none⟩ = some (.slice P p pc) ∧ w'.cell? ⟨w.heap.size, 4, none⟩ = some (.slice Q q qc) ∧ w'.cell? ⟨w.heap.size + 1, 0, none⟩ = some (.int .i64 a) ∧ w'.cell? ⟨w.heap.size + 1, 1, none⟩ = some (.int .i64 b) ∧ w'.cell? ⟨w.heap.size + 1, 2, none⟩ = some (.int .i64 c) ∧ w'.cell? ⟨w.heap.size + 1, 3, none⟩ = some (.int .i64 d))
      (first | (with_reducible exact K4) | (with_reducible exact K3) | (with_reducible exact K2) | (with_reducible exact nine (D4.alloc _) (O4.alloc _)) | (with_reducible exact nine (D3.alloc _) (O3.alloc _)) | (with_reducible exact nine (D2.alloc _) (O2.alloc _)) | (with_reducible exact nine (Dd.alloc _) (Od.alloc _)) | (with_reducible exact nine (boxFar5 D4 q3 _ _ _ _ _) (boxFar5 O4 q3' _ _ _ _ _)) | (with_reducible exact nine (boxFar5 D4 q2 _ _ _ _ _) (boxFar5 O4 q2' _ _ _ _ _)) | (with_reducible exact nine (boxFar5 D4 q1 _ _ _ _ _) (boxFar5 O4 q1' _ _ _ _ _)) | go_keep)
      (first
        | (go_at_call 17; refine (toReg_any rt rq rv P p pc Q q qc ps os _ hp hq ?_ ?_).mono ?_; (first | exact P1 | exact pairsNew (w := w10.drew) P1 _); (first | exact Q1 | exact quadsNew (w := w10.drew) Q1 _); rintro e w2 ⟨g2, h2, hg2, hgh2, rfl, hk2, hh2, hb2⟩; (first | (have B2 := box_of_alloc (bel_drew' hb2); have F2 := bel_of_alloc (bel_drew' hb2)) | have F2 := bel_drew' hb2); have D2 := D.later F2 D.lt; have O2 := O.later F2 O.lt; have l2 := O2.lt; have q2 : w2.heap.size ≠ w.heap.size := (by omega); have q2' : w2.heap.size ≠ w.heap.size + 1 := (by omega); have K2 := nine D2 O2)
        | (go_at_call 23; refine (toOpen_any a b c d _).mono ?_; rintro e w3 ⟨rfl, hb3⟩; (first | (have B3 := box_of_alloc hb3; have F3 := bel_of_alloc hb3) | (have B3 := B2.later hb3 B2.lt; have F3 := hb3) | have F3 := hb3); have D3 := D2.later F3 D2.lt; have O3 := O2.later F3 O2.lt; have S3 := (hk2.later F3).slc HL1.out (cap := p); have T3 := (hh2.later F3).slcQ HL3.out HMQ.out; have P3 := bel_trans F2 F3; have l3 := O3.lt; have q3 : w3.heap.size ≠ w.heap.size := (by omega); have q3' : w3.heap.size ≠ w.heap.size + 1 := (by omega); have K3 := nine D3 O3)
        | (go_at_call 9; refine (withOpen_is rt rq rv _ p p _ q q a b c d ps os _ HLP.out HLQ.out ?_ ?_).mono ?_; (first | exact S3 | exact S3.later (bel_alloc _ _)); (first | exact T3 | exact T3.later (bel_alloc _ _)); rintro e w4 ⟨B4, u4, v4, hB4, hB4', rfl, hR4, hV4, hb4⟩; rw [HJ.out] at hV4; obtain ⟨A4, c4, rfl, _, _, _, _⟩ := hR4.form; obtain ⟨A4', c4', rfl, _, _, _, _⟩ := hV4.form; have hb4' := hb4; (first | (have X4 := box_of_alloc hb4; have F4 := bel_of_alloc hb4) | (have X4 := B3.later hb4 B3.lt; have F4 := hb4) | have F4 := hb4); have D4 := D3.later F4 D3.lt; have O4 := O3.later F4 O3.lt; have P4 := bel_trans P3 F4; have K4 := nine D4 O4; (first | (obtain ⟨z0, z1, z2, z3, z4⟩ := X4.five; have fz := X4.frozen) | skip)))
    all_goals go_wp2_with fail
    all_goals go_meet
    all_goals first
      | with_reducible exact varAt_new (W := w3) P3.size hB4 hB4' hR4 hV4 P4
      | with_reducible exact varAt_put (W := w3.alloc _) X4 P3.size (by simp) hB4 hB4' hR4 hV4 P4
      | with_reducible exact varAt_put (W := w3) X4 F2.size B3.lt hB4 hB4' hR4 hV4 P4
      | with_reducible exact varAt_put (W := w3) X4 (Nat.le_refl _) B3.lt hB4 hB4' hR4 hV4 P4
  case rest =>
  obtain ⟨t12, A12, n12, c12, A12', n12', c12', rfl, Y, hbc⟩ := hcut
  replace E := bel_trans E hbc
  replace T := T.later hbc
  replace U' := U'.later hbc
  clear D O hbc
  obtain ⟨u0, u1, u2, u3, u4⟩ := Y.box.five
  obtain ⟨x0, x1, x2, x3, x4⟩ := T.box.five
  go_wp2_with fail
  refine (eqVar_is Y T HLP'.out hJl).mono ?_
  rintro e w13 ⟨rfl, hb13⟩
  replace E := bel_trans E hb13
  replace U' := U'.later hb13
  clear hb13 u0 u1 u2 u3 u4 x0 x1 x2 x3 x4 Y T
  obtain ⟨u0, u1, u2, u3, u4⟩ := U'.box.five
  go_wp2_with fail
  refine (heldVarN_is 1 U' hd1.out hd2.out hm1.out hm2.out (by omega) hJl (by omega) (by omega)).mono ?_
  rintro e w14 ⟨rfl, hb14⟩
  replace E := bel_trans E hb14
  clear hb14 u0 u1 u2 u3 u4 U'
  go_wp2
  go_ret
  exact ⟨rfl, E⟩

theorem exactWith_big (rt rq rv : Int) (P : Option Addr) (p pc : Nat) (Q : Option Addr) (q qc : Nat) (a b c d : Int) (w : World) (hx : p ≤ maxLen) (hy : q ≤ maxLen) (hm : 1048576 < p + q) :
    Calls Try.prog 6 #[.agg #[.int .i64 rt, .int .i64 rq, .int .i64 rv, .slice P p pc, .slice Q q qc], .agg #[.int .i64 a, .int .i64 b, .int .i64 c, .int .i64 d]] w fun e w' => e = .returned (.bool true) ∧ Below w.heap.size w w' := by
  go_enter Try.func6, Try.ntmps6
  go_wp2_with (go_at_call 14; refine (szReg_gt rt rq rv P p pc Q q qc 1048576 _ (by omega) (by omega) (by omega) hx hy).mono ?_; rintro e w1 ⟨rfl, hb1⟩; have E1 := bel_trans (bel_trans (bel_alloc w (.cells #[.int .i64 rt, .int .i64 rq, .int .i64 rv, .slice P p pc, .slice Q q qc] 45)) (bel_alloc _ (.cells #[.int .i64 a, .int .i64 b, .int .i64 c, .int .i64 d] 57))) hb1)
  go_ret
  exact ⟨rfl, E1⟩

end Go.Proofs.Ytghdnokjgmmgiaa
