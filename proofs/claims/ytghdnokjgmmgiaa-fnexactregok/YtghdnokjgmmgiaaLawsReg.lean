/- The exact law of RegOk answers true, whatever it is given: its walk (written by laws_reg.py). -/
import Derived.Test.YtghdnokjgmmgiaaSpecReg3
import Derived.Test.YtghdnokjgmmgiaaCopiesMark
import Derived.Test.YtghdnokjgmmgiaaLawsJoin
namespace Go.Proofs.Ytghdnokjgmmgiaa
open Go.RowKit

set_option maxRecDepth 100000 in
set_option maxHeartbeats 8000000 in
theorem exactRegOk_small (s l c sh : Int) (A : Option Addr) (n cap : Nat) (zs : List Int) (x rt rq rv : Int) (P : Option Addr) (p pc : Nat) (Q : Option Addr) (q qc : Nat) (ps : List (Int × Int)) (os : List Opn) (w : World) (hm : n + p + q ≤ 1048576) (hr : Row w w.heap.size A n zs) (h1 : Pairs w w.heap.size P p ps) (h3 : Quads w w.heap.size Q q os) :
    Calls Try.prog 4 #[.agg #[.int .i64 s, .int .i64 l, .int .i64 c, .int .i64 sh, .slice A n cap], .int .i64 x, .agg #[.int .i64 rt, .int .i64 rq, .int .i64 rv, .slice P p pc, .slice Q q qc]] w fun e w' => e = .returned (.bool true) ∧ Below w.heap.size w w' := by
  have hm1 : n ≤ 1048576 := by omega
  have hp : p ≤ 1048576 := by omega
  have hq : q ≤ 1048576 := by omega
  have hnn : ¬ ((1048576 : Int) - n < 0) := by omega
  have hnm : ¬ ((1048576 : Int) - n - p - q < 0) := by omega
  obtain ⟨B, hB⟩ : ∃ B, regB s l c sh zs x rt rq rv ps os = B := ⟨_, rfl⟩
  have HB := Lib.hid hB
  have HX : Hid (n ≤ maxLen) := Lib.hid (by unfold maxLen; omega)
  have HL1 := Lib.hid h1.1
  have HL3 := Lib.hid h3.1
  have HR := Lib.hid hr
  have H1 := Lib.hid h1
  have H3 := Lib.hid h3
  clear hr h1 h3 hB
  have G := (Box.new w 40 #[.int .i64 s, .int .i64 l, .int .i64 c, .int .i64 sh, .slice A n cap]).alloc (.cells #[.int .i64 rt, .int .i64 rq, .int .i64 rv, .slice P p pc, .slice Q q qc] 45)
  have D := Box.new (w.alloc (.cells #[.int .i64 s, .int .i64 l, .int .i64 c, .int .i64 sh, .slice A n cap] 40)) 45 #[.int .i64 rt, .int .i64 rq, .int .i64 rv, .slice P p pc, .slice Q q qc]
  have E := bel_trans (bel_alloc w (.cells #[.int .i64 s, .int .i64 l, .int .i64 c, .int .i64 sh, .slice A n cap] 40)) (bel_alloc _ (.cells #[.int .i64 rt, .int .i64 rq, .int .i64 rv, .slice P p pc, .slice Q q qc] 45))
  simp only [World.size_alloc] at D
  go_enter Try.func4, Try.ntmps4
  go_wp2_with fail
  generalize ((w.alloc _).alloc _ : World) = w0 at D G E ⊢
  refine (szGroup_le s l c sh A n cap w0 hm1).mono ?_
  rintro e w1 ⟨rfl, hb1⟩
  replace G := G.later hb1 G.lt
  replace D := D.later hb1 D.lt
  replace E := bel_trans E hb1
  clear hb1
  obtain ⟨x0, x1, x2, x3, x4⟩ := D.five
  go_wp2_with fail
  refine (szReg_le rt rq rv P p pc Q q qc (1048576 - n) w1 (by omega) (by omega)).mono ?_
  rintro e w2 ⟨rfl, hb2⟩
  replace G := G.later hb2 G.lt
  replace D := D.later hb2 D.lt
  replace E := bel_trans E hb2
  clear hb2 x0 x1 x2 x3 x4
  obtain ⟨a0, a1, a2, a3, a4, x0, x1, x2, x3, x4⟩ := ten G D
  have R1 := (HR.out.below E (Nat.le_refl _)).more E.size
  have P1 := H1.out.later E
  have Q1 := H3.out.later E
  go_wp2_with fail
  -- the model, on copies
  go_region_held3 (fun w' => w'.cell? ⟨w.heap.size, 0, none⟩ = some (.int .i64 s) ∧ w'.cell? ⟨w.heap.size, 1, none⟩ = some (.int .i64 l) ∧ w'.cell? ⟨w.heap.size, 2, none⟩ = some (.int .i64 c) ∧ w'.cell? ⟨w.heap.size, 3, none⟩ = some (.int .i64 sh) ∧ w'.cell? ⟨w.heap.size, 4, none⟩ = some (.slice A n cap) ∧ w'.cell? ⟨w.heap.size + 1, 0, none⟩ = some (.int .i64 rt) ∧ w'.cell? ⟨w.heap.size + 1, 1, none⟩ = some (.int .i64 rq) ∧ w'.cell? ⟨w.heap.size + 1, 2, none⟩ = some (.int .i64 rv) ∧ w'.cell? ⟨w.heap.size + 1, 3, none⟩ = some (.slice P p pc) ∧ w'.cell? ⟨w.heap.size + 1, 4, none⟩ = some (.slice Q q qc))
    (first | (with_reducible exact K5) | (with_reducible exact K4) | (with_reducible exact K3) | go_keep)
    (first
      | (go_at_call 16; refine (toGroup_any s l c sh A n cap zs _ hm1 ?_).mono ?_; exact R1; rintro e w3 ⟨g3, hg3, rfl, hrow3, hb3⟩; have F3 := bel_drew' hb3; have P3 := P1.later F3; have Q3 := Q1.later F3; have K3 := ten (G.later F3 G.lt) (D.later F3 D.lt))
      | (go_at_call 17; refine (toReg_any rt rq rv P p pc Q q qc ps os _ hp hq P3 Q3).mono ?_; rintro e w4 ⟨g4, h4, hg4, hgh4, rfl, hk4, hh4, hb4⟩; have F4 := bel_trans F3 hb4; have hrow4 := (hrow3.below hb4 (Nat.le_refl _)).more hb4.size; have K4 := ten (G.later F4 G.lt) (D.later F4 D.lt))
      | (go_at_call 15; refine (specRegOk_is s l c sh _ n n zs x rt rq rv _ p p _ q q ps os _ HX.out hrow4 (by omega) (by omega) (hk4.prs HL1.out) (hh4.qds HL3.out)).mono ?_; rintro e w5 ⟨rfl, hb5⟩; have F5 := bel_trans F4 hb5; have K5 := ten (G.later F5 G.lt) (D.later F5 D.lt)))
  rw [HB.out]
  replace G := G.later F5 G.lt
  replace D := D.later F5 D.lt
  replace E := bel_trans E F5
  clear a0 a1 a2 a3 a4 x0 x1 x2 x3 x4 R1 P1 Q1 F3 F4 F5 P3 Q3 K3 K4 K5 hb3 hb4 hb5 hrow3 hrow4 hk4 hh4 hg3 hg4 hgh4
  obtain ⟨a0, a1, a2, a3, a4⟩ := G.five
  go_wp2_with fail
  -- the copies that are handed in
  refine (toGroup_any s l c sh A n cap zs w5 hm1 ((HR.out.below E (Nat.le_refl _)).more E.size)).mono ?_
  rintro e w6 ⟨g4, hg4, rfl, hrow, hb6⟩
  have Y := Box.new w6 49 #[.int .i64 s, .int .i64 l, .int .i64 c, .int .i64 sh, .slice (some ⟨g4, 0, none⟩) n n]
  have hb7 := bel_alloc w6 (.cells #[.int .i64 s, .int .i64 l, .int .i64 c, .int .i64 sh, .slice (some ⟨g4, 0, none⟩) n n] 49)
  replace G := (G.later hb6 G.lt).later hb7 (Nat.lt_of_lt_of_le G.lt hb6.size)
  replace D := D.later hb6 D.lt
  have hD6 := D.lt
  obtain ⟨x0, x1, x2, x3, x4⟩ := D.five
  replace D := D.later hb7 D.lt
  replace E := bel_trans (bel_trans E hb6) hb7
  replace hrow := (hrow.below hb7 (Nat.le_refl _)).more hb7.size
  clear hb6 hb7 a0 a1 a2 a3 a4
  go_wp2_with fail
  generalize (w6.alloc _ : World) = w7 at Y G D E hrow ⊢
  generalize w6.heap.size = S at Y hD6 ⊢
  refine (toReg_any rt rq rv P p pc Q q qc ps os w7 hp hq (H1.out.later E) (H3.out.later E)).mono ?_
  rintro e w8 ⟨g6, h6, hg6, hgh6, rfl, hk, hh, hb8⟩
  have Z := Box.new w8 29 #[.int .i64 rt, .int .i64 rq, .int .i64 rv, .slice (some ⟨g6, 0, none⟩) p p, .slice (some ⟨h6, 0, none⟩) q q]
  have hb9 := bel_trans hb8 (bel_alloc w8 (.cells #[.int .i64 rt, .int .i64 rq, .int .i64 rv, .slice (some ⟨g6, 0, none⟩) p p, .slice (some ⟨h6, 0, none⟩) q q] 29))
  replace G := G.later hb9 G.lt
  replace D := D.later hb9 D.lt
  have hY8 := (Y.later hb8 Y.lt).lt
  obtain ⟨y0, y1, y2, y3, y4⟩ := (Y.later hb8 Y.lt).five
  replace Y := Y.later hb9 Y.lt
  replace E := bel_trans E hb9
  replace hrow := (hrow.below hb9 (Nat.le_refl _)).more hb9.size
  replace hk := hk.later (bel_alloc w8 (.cells #[.int .i64 rt, .int .i64 rq, .int .i64 rv, .slice (some ⟨g6, 0, none⟩) p p, .slice (some ⟨h6, 0, none⟩) q q] 29))
  replace hh := hh.later (bel_alloc w8 (.cells #[.int .i64 rt, .int .i64 rq, .int .i64 rv, .slice (some ⟨g6, 0, none⟩) p p, .slice (some ⟨h6, 0, none⟩) q q] 29))
  clear hb8 hb9 x0 x1 x2 x3 x4
  go_wp2_with fail
  generalize (w8.alloc _ : World) = w9 at Z Y G D E hrow hk hh ⊢
  generalize w8.heap.size = T at Z hY8 ⊢
  -- the program
  refine (regOk_is s l c sh _ n n zs x rt rq rv _ p p _ q q ps os w9 HX.out hrow (by omega) (by omega) (hk.prs HL1.out) (hh.qds HL3.out)).mono ?_
  rintro e w10 ⟨rfl, hb10⟩
  rw [HB.out]
  replace G := G.later hb10 G.lt
  replace D := D.later hb10 D.lt
  replace Y := Y.later hb10 Y.lt
  replace Z := Z.later hb10 Z.lt
  replace E := bel_trans E hb10
  replace hrow := (hrow.below hb10 (Nat.le_refl _)).more hb10.size
  replace hk := hk.later hb10
  replace hh := hh.later hb10
  clear hb10 y0 y1 y2 y3 y4
  obtain ⟨a0, a1, a2, a3, a4, y0, y1, y2, y3, y4⟩ := ten G Y
  have R1 := (HR.out.below E (Nat.le_refl _)).more E.size
  cases B
  all_goals (
    go_wp2_with fail
    go_region_held3 (fun w' => w'.cell? ⟨w.heap.size, 0, none⟩ = some (.int .i64 s) ∧ w'.cell? ⟨w.heap.size, 1, none⟩ = some (.int .i64 l) ∧ w'.cell? ⟨w.heap.size, 2, none⟩ = some (.int .i64 c) ∧ w'.cell? ⟨w.heap.size, 3, none⟩ = some (.int .i64 sh) ∧ w'.cell? ⟨w.heap.size, 4, none⟩ = some (.slice A n cap) ∧ w'.cell? ⟨S, 0, none⟩ = some (.int .i64 s) ∧ w'.cell? ⟨S, 1, none⟩ = some (.int .i64 l) ∧ w'.cell? ⟨S, 2, none⟩ = some (.int .i64 c) ∧ w'.cell? ⟨S, 3, none⟩ = some (.int .i64 sh) ∧ w'.cell? ⟨S, 4, none⟩ = some (.slice (some ⟨g4, 0, none⟩) n n)) (first | (with_reducible exact KB) | (with_reducible exact KA) | go_keep)
      (first
        | (go_at_call 16; refine (toGroup_any s l c sh A n cap zs _ hm1 ?_).mono ?_; exact R1; rintro e wa ⟨ga, hga, rfl, hrowa, hba⟩; have FA := bel_drew' hba; have hrowA := (hrow.below FA (Nat.le_refl _)).more FA.size; have KA := ten (G.later FA G.lt) (Y.later FA Y.lt))
        | (go_at_call 19; refine (eqGroup_same s l c sh _ _ n n n zs _ hm1 hrowA hrowa).mono ?_; rintro e wb ⟨rfl, hbb⟩; have FB := bel_trans FA hbb; have KB := ten (G.later FB G.lt) (Y.later FB Y.lt)))
    have D2 := D.later FB D.lt
    have Z2 := Z.later FB Z.lt
    have E2 := bel_trans E FB
    have hk2 := hk.later FB
    have hh2 := hh.later FB
    clear KA KB FA FB hba hbb hrowA hrowa R1 a0 a1 a2 a3 a4 y0 y1 y2 y3 y4 G D Y Z E hrow hk hh
    obtain ⟨a0, a1, a2, a3, a4, y0, y1, y2, y3, y4⟩ := ten D2 Z2
    have P2 := H1.out.later E2
    have Q2 := H3.out.later E2
    go_wp2_with fail
    go_region_held3 (fun w' => w'.cell? ⟨w.heap.size + 1, 0, none⟩ = some (.int .i64 rt) ∧ w'.cell? ⟨w.heap.size + 1, 1, none⟩ = some (.int .i64 rq) ∧ w'.cell? ⟨w.heap.size + 1, 2, none⟩ = some (.int .i64 rv) ∧ w'.cell? ⟨w.heap.size + 1, 3, none⟩ = some (.slice P p pc) ∧ w'.cell? ⟨w.heap.size + 1, 4, none⟩ = some (.slice Q q qc) ∧ w'.cell? ⟨T, 0, none⟩ = some (.int .i64 rt) ∧ w'.cell? ⟨T, 1, none⟩ = some (.int .i64 rq) ∧ w'.cell? ⟨T, 2, none⟩ = some (.int .i64 rv) ∧ w'.cell? ⟨T, 3, none⟩ = some (.slice (some ⟨g6, 0, none⟩) p p) ∧ w'.cell? ⟨T, 4, none⟩ = some (.slice (some ⟨h6, 0, none⟩) q q)) (first | (with_reducible exact KD) | (with_reducible exact KC) | go_keep)
      (first
        | (go_at_call 17; refine (toReg_any rt rq rv P p pc Q q qc ps os _ hp hq ?_ ?_).mono ?_; exact P2; exact Q2; rintro e wc ⟨gc, hc, hgc, hghc, rfl, hkc, hhc, hbc⟩; have FC := bel_drew' hbc; have hkC := hk2.later FC; have hhC := hh2.later FC; have KC := ten (D2.later FC D2.lt) (Z2.later FC Z2.lt))
        | (go_at_call 20; refine (eqReg_same rt rq rv _ _ p p p _ _ q q q ps os _ hp (by omega) (hkC.prs HL1.out) (hkc.prs HL1.out) (hhC.qds HL3.out) (hhc.qds HL3.out)).mono ?_; rintro e wd ⟨rfl, hbd⟩; have FD := bel_trans FC hbd; have KD := ten (D2.later FD D2.lt) (Z2.later FD Z2.lt)))
    have E3 := bel_trans E2 FD
    clear KC KD a0 a1 a2 a3 a4 y0 y1 y2 y3 y4
    go_wp2
    go_ret
    exact ⟨rfl, E3⟩)

theorem exactRegOk_big (s l c sh : Int) (A : Option Addr) (n cap : Nat)  (x rt rq rv : Int) (P : Option Addr) (p pc : Nat) (Q : Option Addr) (q qc : Nat) (w : World) (hx : n ≤ maxLen) (hy : p ≤ maxLen) (hz : q ≤ maxLen) (hm : 1048576 < n + p + q) :
    Calls Try.prog 4 #[.agg #[.int .i64 s, .int .i64 l, .int .i64 c, .int .i64 sh, .slice A n cap], .int .i64 x, .agg #[.int .i64 rt, .int .i64 rq, .int .i64 rv, .slice P p pc, .slice Q q qc]] w fun e w' => e = .returned (.bool true) ∧ Below w.heap.size w w' := by
  rcases Nat.lt_or_ge 1048576 n with h | h
  · go_enter Try.func4, Try.ntmps4
    go_wp2_with (go_at_call 13; refine (szGroup_gt s l c sh A n cap _ h hx).mono ?_; rintro e w1 ⟨rfl, hb1⟩; have E1 := bel_trans (bel_trans (bel_alloc w (.cells #[.int .i64 s, .int .i64 l, .int .i64 c, .int .i64 sh, .slice A n cap] 40)) (bel_alloc _ (.cells #[.int .i64 rt, .int .i64 rq, .int .i64 rv, .slice P p pc, .slice Q q qc] 45))) hb1)
    go_ret
    exact ⟨rfl, E1⟩
  · have HY := Lib.hid hy
    have HZ := Lib.hid hz
    have hnn : ¬ ((1048576 : Int) - n < 0) := by omega
    have D := Box.new (w.alloc (.cells #[.int .i64 s, .int .i64 l, .int .i64 c, .int .i64 sh, .slice A n cap] 40)) 45 #[.int .i64 rt, .int .i64 rq, .int .i64 rv, .slice P p pc, .slice Q q qc]
    have E := bel_trans (bel_alloc w (.cells #[.int .i64 s, .int .i64 l, .int .i64 c, .int .i64 sh, .slice A n cap] 40)) (bel_alloc _ (.cells #[.int .i64 rt, .int .i64 rq, .int .i64 rv, .slice P p pc, .slice Q q qc] 45))
    simp only [World.size_alloc] at D
    clear hy hz
    go_enter Try.func4, Try.ntmps4
    go_wp2_with fail
    generalize ((w.alloc _).alloc _ : World) = w0 at D E ⊢
    refine (szGroup_le s l c sh A n cap w0 h).mono ?_
    rintro e w1 ⟨rfl, hb1⟩
    replace D := D.later hb1 D.lt
    replace E := bel_trans E hb1
    obtain ⟨x0, x1, x2, x3, x4⟩ := D.five
    go_wp2_with fail
    refine (szReg_gt rt rq rv P p pc Q q qc (1048576 - n) w1 (by omega) (by omega) (by omega) HY.out HZ.out).mono ?_
    rintro e w2 ⟨rfl, hb2⟩
    have E2 := bel_trans E hb2
    go_wp2
    go_ret
    exact ⟨rfl, E2⟩

end Go.Proofs.Ytghdnokjgmmgiaa
