/- The exact laws of AnswerTo and NoteOk answer true, whatever they are given: walks of each of them (written by laws_note.py). -/
import Derived.Test.YthfakifgnaollaaCopiesNote
import Derived.Test.YthfakifgnaollaaCopies
import Derived.Test.YthfakifgnaollaaNoteCells
import Derived.Test.YthfakifgnaollaaNote1
import Derived.Test.YthfakifgnaollaaSpecNote1
namespace Go.Proofs.Ythfakifgnaollaa
open Go.RowKit

theorem noteNote {w : World} {g g' : Nat} {t t' : TypeId} {a0 a1 a2 a3 a4 a5 a6 a7 a8 a9 a10 a11 a12 a13 a14 a15 b0 b1 b2 b3 b4 b5 b6 b7 b8 b9 b10 b11 b12 b13 b14 b15 : Value} (h : Box w g t #[a0, a1, a2, a3, a4, a5, a6, a7, a8, a9, a10, a11, a12, a13, a14, a15]) (h' : Box w g' t' #[b0, b1, b2, b3, b4, b5, b6, b7, b8, b9, b10, b11, b12, b13, b14, b15]) :
    w.cell? ⟨g, 0, none⟩ = some a0 ∧ w.cell? ⟨g, 1, none⟩ = some a1 ∧ w.cell? ⟨g, 2, none⟩ = some a2 ∧ w.cell? ⟨g, 3, none⟩ = some a3 ∧ w.cell? ⟨g, 4, none⟩ = some a4 ∧ w.cell? ⟨g, 5, none⟩ = some a5 ∧ w.cell? ⟨g, 6, none⟩ = some a6 ∧ w.cell? ⟨g, 7, none⟩ = some a7 ∧ w.cell? ⟨g, 8, none⟩ = some a8 ∧ w.cell? ⟨g, 9, none⟩ = some a9 ∧ w.cell? ⟨g, 10, none⟩ = some a10 ∧ w.cell? ⟨g, 11, none⟩ = some a11 ∧ w.cell? ⟨g, 12, none⟩ = some a12 ∧ w.cell? ⟨g, 13, none⟩ = some a13 ∧ w.cell? ⟨g, 14, none⟩ = some a14 ∧ w.cell? ⟨g, 15, none⟩ = some a15 ∧ w.cell? ⟨g', 0, none⟩ = some b0 ∧ w.cell? ⟨g', 1, none⟩ = some b1 ∧ w.cell? ⟨g', 2, none⟩ = some b2 ∧ w.cell? ⟨g', 3, none⟩ = some b3 ∧ w.cell? ⟨g', 4, none⟩ = some b4 ∧ w.cell? ⟨g', 5, none⟩ = some b5 ∧ w.cell? ⟨g', 6, none⟩ = some b6 ∧ w.cell? ⟨g', 7, none⟩ = some b7 ∧ w.cell? ⟨g', 8, none⟩ = some b8 ∧ w.cell? ⟨g', 9, none⟩ = some b9 ∧ w.cell? ⟨g', 10, none⟩ = some b10 ∧ w.cell? ⟨g', 11, none⟩ = some b11 ∧ w.cell? ⟨g', 12, none⟩ = some b12 ∧ w.cell? ⟨g', 13, none⟩ = some b13 ∧ w.cell? ⟨g', 14, none⟩ = some b14 ∧ w.cell? ⟨g', 15, none⟩ = some b15 :=
  ⟨h.cell 0, h.cell 1, h.cell 2, h.cell 3, h.cell 4, h.cell 5, h.cell 6, h.cell 7, h.cell 8, h.cell 9, h.cell 10, h.cell 11, h.cell 12, h.cell 13, h.cell 14, h.cell 15, h'.cell 0, h'.cell 1, h'.cell 2, h'.cell 3, h'.cell 4, h'.cell 5, h'.cell 6, h'.cell 7, h'.cell 8, h'.cell 9, h'.cell 10, h'.cell 11, h'.cell 12, h'.cell 13, h'.cell 14, h'.cell 15⟩
theorem groupNote {w : World} {g g' : Nat} {t t' : TypeId} {a0 a1 a2 a3 a4 b0 b1 b2 b3 b4 b5 b6 b7 b8 b9 b10 b11 b12 b13 b14 b15 : Value} (h : Box w g t #[a0, a1, a2, a3, a4]) (h' : Box w g' t' #[b0, b1, b2, b3, b4, b5, b6, b7, b8, b9, b10, b11, b12, b13, b14, b15]) :
    w.cell? ⟨g, 0, none⟩ = some a0 ∧ w.cell? ⟨g, 1, none⟩ = some a1 ∧ w.cell? ⟨g, 2, none⟩ = some a2 ∧ w.cell? ⟨g, 3, none⟩ = some a3 ∧ w.cell? ⟨g, 4, none⟩ = some a4 ∧ w.cell? ⟨g', 0, none⟩ = some b0 ∧ w.cell? ⟨g', 1, none⟩ = some b1 ∧ w.cell? ⟨g', 2, none⟩ = some b2 ∧ w.cell? ⟨g', 3, none⟩ = some b3 ∧ w.cell? ⟨g', 4, none⟩ = some b4 ∧ w.cell? ⟨g', 5, none⟩ = some b5 ∧ w.cell? ⟨g', 6, none⟩ = some b6 ∧ w.cell? ⟨g', 7, none⟩ = some b7 ∧ w.cell? ⟨g', 8, none⟩ = some b8 ∧ w.cell? ⟨g', 9, none⟩ = some b9 ∧ w.cell? ⟨g', 10, none⟩ = some b10 ∧ w.cell? ⟨g', 11, none⟩ = some b11 ∧ w.cell? ⟨g', 12, none⟩ = some b12 ∧ w.cell? ⟨g', 13, none⟩ = some b13 ∧ w.cell? ⟨g', 14, none⟩ = some b14 ∧ w.cell? ⟨g', 15, none⟩ = some b15 :=
  ⟨h.cell 0, h.cell 1, h.cell 2, h.cell 3, h.cell 4, h'.cell 0, h'.cell 1, h'.cell 2, h'.cell 3, h'.cell 4, h'.cell 5, h'.cell 6, h'.cell 7, h'.cell 8, h'.cell 9, h'.cell 10, h'.cell 11, h'.cell 12, h'.cell 13, h'.cell 14, h'.cell 15⟩
theorem groupGroup {w : World} {g g' : Nat} {t t' : TypeId} {a0 a1 a2 a3 a4 b0 b1 b2 b3 b4 : Value} (h : Box w g t #[a0, a1, a2, a3, a4]) (h' : Box w g' t' #[b0, b1, b2, b3, b4]) :
    w.cell? ⟨g, 0, none⟩ = some a0 ∧ w.cell? ⟨g, 1, none⟩ = some a1 ∧ w.cell? ⟨g, 2, none⟩ = some a2 ∧ w.cell? ⟨g, 3, none⟩ = some a3 ∧ w.cell? ⟨g, 4, none⟩ = some a4 ∧ w.cell? ⟨g', 0, none⟩ = some b0 ∧ w.cell? ⟨g', 1, none⟩ = some b1 ∧ w.cell? ⟨g', 2, none⟩ = some b2 ∧ w.cell? ⟨g', 3, none⟩ = some b3 ∧ w.cell? ⟨g', 4, none⟩ = some b4 :=
  ⟨h.cell 0, h.cell 1, h.cell 2, h.cell 3, h.cell 4, h'.cell 0, h'.cell 1, h'.cell 2, h'.cell 3, h'.cell 4⟩
theorem made_pairs_of {w : World} {g p : Nat} {ps : List (Int × Int)} (h : Held w g ps) (hl : ps.length = p) : Pairs w w.heap.size (some ⟨g, 0, none⟩) p ps := hl ▸ h.pairs

set_option maxRecDepth 100000 in
set_option maxHeartbeats 8000000 in
theorem exactAnswer_small (k1 k2 k3 k4 k5 t1 t2 v1 o1 o2 v2 : Int) (P : Option Addr) (p pc : Nat) (Q : Option Addr) (q qc : Nat) (l1 l2 v3 : Int) (ps qs : List (Int × Int)) (w : World) (hm : p + q ≤ 1048576) (hp : Pairs w w.heap.size P p ps) (hq : Pairs w w.heap.size Q q qs) :
    Calls Try.prog 5 #[.agg #[.int .i64 k1, .int .i64 k2, .int .i64 k3, .int .i64 k4, .int .i64 k5, .int .i64 t1, .int .i64 t2, .int .i64 v1, .int .i64 o1, .int .i64 o2, .int .i64 v2, .slice P p pc, .slice Q q qc, .int .i64 l1, .int .i64 l2, .int .i64 v3]] w fun e w' => e = .returned (.bool true) ∧ Below w.heap.size w w' := by
  have hm1 : p ≤ 1048576 := by omega
  have hm2 : q ≤ 1048576 := by omega
  have hlp := Lib.hid hp.1
  have hlq := Lib.hid hq.1
  have HP := Lib.hid hp
  have HQ := Lib.hid hq
  clear hp hq
  have D0 := Box.new w 40 #[.int .i64 k1, .int .i64 k2, .int .i64 k3, .int .i64 k4, .int .i64 k5, .int .i64 t1, .int .i64 t2, .int .i64 v1, .int .i64 o1, .int .i64 o2, .int .i64 v2, .slice P p pc, .slice Q q qc, .int .i64 l1, .int .i64 l2, .int .i64 v3]
  have E0 := bel_alloc w (.cells #[.int .i64 k1, .int .i64 k2, .int .i64 k3, .int .i64 k4, .int .i64 k5, .int .i64 t1, .int .i64 t2, .int .i64 v1, .int .i64 o1, .int .i64 o2, .int .i64 v2, .slice P p pc, .slice Q q qc, .int .i64 l1, .int .i64 l2, .int .i64 v3] 40)
  go_enter Try.func5, Try.ntmps5
  go_wp2_with fail
  generalize (w.alloc _ : World) = w0 at D0 E0 ⊢
  refine (szNote_le k1 k2 k3 k4 k5 t1 t2 v1 o1 o2 v2 P p pc Q q qc l1 l2 v3 1048576 w0 (by omega) (by omega)).mono ?_
  rintro e w1 ⟨rfl, hb⟩
  have D1 := D0.later hb D0.lt
  have E1 := bel_trans E0 hb
  clear D0 E0 hb
  have hnn : ¬ ((1048576 : Int) - p - q < 0) := by omega
  obtain ⟨a0, a1, a2, a3, a4, a5, a6, a7, a8, a9, a10, a11, a12, a13, a14, a15⟩ := sixteen D1
  go_upto_region 5 with fail
  -- the model, on a copy
  go_cut [4] (fun v wr => v = .int .i64 (ansN k1) ∧ Box wr w.heap.size 40 #[.int .i64 k1, .int .i64 k2, .int .i64 k3, .int .i64 k4, .int .i64 k5, .int .i64 t1, .int .i64 t2, .int .i64 v1, .int .i64 o1, .int .i64 o2, .int .i64 v2, .slice P p pc, .slice Q q qc, .int .i64 l1, .int .i64 l2, .int .i64 v3] ∧ Below w.heap.size w wr)
  case first => as_aux_lemma =>
    go_wp2_with fail
    refine (toNote_any k1 k2 k3 k4 k5 t1 t2 v1 o1 o2 v2 P p pc Q q qc l1 l2 v3 ps qs w1 hm1 hm2 (HP.out.later E1) (HQ.out.later E1)).mono ?_
    rintro e w2 ⟨g1, g2, hg1, hg2, rfl, h1, h2, hb⟩
    have D2 := D1.later hb D1.lt
    have E2 := bel_trans E1 hb
    clear D1 E1 hb h1 h2 a0 a1 a2 a3 a4 a5 a6 a7 a8 a9 a10 a11 a12 a13 a14 a15
    go_wp2_with fail
    refine (specAnswer_is k1 k2 k3 k4 k5 t1 t2 v1 o1 o2 v2 _ p p _ q q l1 l2 v3 w2).mono ?_
    rintro e w3 ⟨rfl, hb⟩
    have D3 := D2.later hb D2.lt
    have E3 := bel_trans E2 hb
    clear D2 E2 hb hg1 hg2
    go_wp2_with fail
    go_meet
    exact ⟨rfl, D3, E3⟩
  case rest =>
  obtain ⟨rfl, D3, E3⟩ := hcut
  obtain ⟨w3, rfl⟩ : ∃ x, x = wc := ⟨_, rfl⟩
  clear D1 E1 a0 a1 a2 a3 a4 a5 a6 a7 a8 a9 a10 a11 a12 a13 a14 a15
  obtain ⟨a0, a1, a2, a3, a4, a5, a6, a7, a8, a9, a10, a11, a12, a13, a14, a15⟩ := sixteen D3
  go_wp2_with fail
  -- the copy that is handed in
  refine (toNote_any k1 k2 k3 k4 k5 t1 t2 v1 o1 o2 v2 P p pc Q q qc l1 l2 v3 ps qs w3 hm1 hm2 (HP.out.later E3) (HQ.out.later E3)).mono ?_
  rintro e w4 ⟨g1, g2, hg1, hg2, rfl, h1, h2, hb⟩
  have D4 := D3.later hb D3.lt
  have E4 := bel_trans E3 hb
  clear D3 E3 hb a0 a1 a2 a3 a4 a5 a6 a7 a8 a9 a10 a11 a12 a13 a14 a15
  have Y4 := Box.new w4 31 #[.int .i64 k1, .int .i64 k2, .int .i64 k3, .int .i64 k4, .int .i64 k5, .int .i64 t1, .int .i64 t2, .int .i64 v1, .int .i64 o1, .int .i64 o2, .int .i64 v2, .slice (some ⟨g1, 0, none⟩) p p, .slice (some ⟨g2, 0, none⟩) q q, .int .i64 l1, .int .i64 l2, .int .i64 v3]
  have hb := bel_alloc w4 (.cells #[.int .i64 k1, .int .i64 k2, .int .i64 k3, .int .i64 k4, .int .i64 k5, .int .i64 t1, .int .i64 t2, .int .i64 v1, .int .i64 o1, .int .i64 o2, .int .i64 v2, .slice (some ⟨g1, 0, none⟩) p p, .slice (some ⟨g2, 0, none⟩) q q, .int .i64 l1, .int .i64 l2, .int .i64 v3] 31)
  have D5 := D4.later hb D4.lt
  have E5 := bel_trans E4 hb
  have p5 := (made_pairs_of h1 hlp.out).later hb
  have q5 := (made_pairs_of h2 hlq.out).later hb
  have hz4 := D4.lt
  clear D4 E4 h1 h2 hb
  obtain ⟨b0, b1, b2, b3, b4, b5, b6, b7, b8, b9, b10, b11, b12, b13, b14, b15⟩ := sixteen Y4
  go_wp2_with fail
  generalize (w4.alloc _ : World) = w5 at Y4 D5 E5 p5 q5 b0 b1 b2 b3 b4 b5 b6 b7 b8 b9 b10 b11 b12 b13 b14 b15 ⊢
  generalize w4.heap.size = R at Y4 hz4 b0 b1 b2 b3 b4 b5 b6 b7 b8 b9 b10 b11 b12 b13 b14 b15 ⊢
  -- the program
  refine (answer_is k1 k2 k3 k4 k5 t1 t2 v1 o1 o2 v2 _ p p _ q q l1 l2 v3 w5).mono ?_
  rintro e w6 ⟨rfl, hb⟩
  have D6 := D5.later hb D5.lt
  have Y6 := Y4.later hb Y4.lt
  have E6 := bel_trans E5 hb
  have p6 := p5.later hb
  have q6 := q5.later hb
  clear D5 Y4 E5 p5 q5 hb b0 b1 b2 b3 b4 b5 b6 b7 b8 b9 b10 b11 b12 b13 b14 b15
  have hff : (ansN k1 != ansN k1) = false := by simp
  have P6 := HP.out.later E6
  have Q6 := HQ.out.later E6
  obtain ⟨a0, a1, a2, a3, a4, a5, a6, a7, a8, a9, a10, a11, a12, a13, a14, a15⟩ := sixteen D6
  obtain ⟨b0, b1, b2, b3, b4, b5, b6, b7, b8, b9, b10, b11, b12, b13, b14, b15⟩ := sixteen Y6
  have hnew : w.heap.size ≠ R := by omega
  go_upto_region 10 with fail
  go_cut [26] (fun v wr => v = .bool false ∧ Below w.heap.size w wr)
  case first => as_aux_lemma =>
   go_wp2_with fail
   go_region_held3 (fun w' => w'.cell? ⟨w.heap.size, 0, none⟩ = some (.int .i64 k1) ∧ w'.cell? ⟨w.heap.size, 1, none⟩ = some (.int .i64 k2) ∧ w'.cell? ⟨w.heap.size, 2, none⟩ = some (.int .i64 k3) ∧ w'.cell? ⟨w.heap.size, 3, none⟩ = some (.int .i64 k4) ∧ w'.cell? ⟨w.heap.size, 4, none⟩ = some (.int .i64 k5) ∧ w'.cell? ⟨w.heap.size, 5, none⟩ = some (.int .i64 t1) ∧ w'.cell? ⟨w.heap.size, 6, none⟩ = some (.int .i64 t2) ∧ w'.cell? ⟨w.heap.size, 7, none⟩ = some (.int .i64 v1) ∧ w'.cell? ⟨w.heap.size, 8, none⟩ = some (.int .i64 o1) ∧ w'.cell? ⟨w.heap.size, 9, none⟩ = some (.int .i64 o2) ∧ w'.cell? ⟨w.heap.size, 10, none⟩ = some (.int .i64 v2) ∧ w'.cell? ⟨w.heap.size, 11, none⟩ = some (.slice P p pc) ∧ w'.cell? ⟨w.heap.size, 12, none⟩ = some (.slice Q q qc) ∧ w'.cell? ⟨w.heap.size, 13, none⟩ = some (.int .i64 l1) ∧ w'.cell? ⟨w.heap.size, 14, none⟩ = some (.int .i64 l2) ∧ w'.cell? ⟨w.heap.size, 15, none⟩ = some (.int .i64 v3) ∧ w'.cell? ⟨R, 0, none⟩ = some (.int .i64 k1) ∧ w'.cell? ⟨R, 1, none⟩ = some (.int .i64 k2) ∧ w'.cell? ⟨R, 2, none⟩ = some (.int .i64 k3) ∧ w'.cell? ⟨R, 3, none⟩ = some (.int .i64 k4) ∧ w'.cell? ⟨R, 4, none⟩ = some (.int .i64 k5) ∧ w'.cell? ⟨R, 5, none⟩ = some (.int .i64 t1) ∧ w'.cell? ⟨R, 6, none⟩ = some (.int .i64 t2) ∧ w'.cell? ⟨R, 7, none⟩ = some (.int .i64 v1) ∧ w'.cell? ⟨R, 8, none⟩ = some (.int .i64 o1) ∧ w'.cell? ⟨R, 9, none⟩ = some (.int .i64 o2) ∧ w'.cell? ⟨R, 10, none⟩ = some (.int .i64 v2) ∧ w'.cell? ⟨R, 11, none⟩ = some (.slice (some ⟨g1, 0, none⟩) p p) ∧ w'.cell? ⟨R, 12, none⟩ = some (.slice (some ⟨g2, 0, none⟩) q q) ∧ w'.cell? ⟨R, 13, none⟩ = some (.int .i64 l1) ∧ w'.cell? ⟨R, 14, none⟩ = some (.int .i64 l2) ∧ w'.cell? ⟨R, 15, none⟩ = some (.int .i64 v3)) (first | (with_reducible exact K9) | (with_reducible exact K8) | go_keep)
    (first
      | (go_at_call 15; refine (toNote_any k1 k2 k3 k4 k5 t1 t2 v1 o1 o2 v2 P p pc Q q qc l1 l2 v3 ps qs _ hm1 hm2 ?_ ?_).mono ?_; exact P6; exact Q6; rintro e w8 ⟨g3, g4, hg3, hg4, rfl, h3, h4, hb8⟩; have F8 := bel_drew' hb8; have D8 := D6.later F8 D6.lt; have Y8 := Y6.later F8 Y6.lt; have E8 := bel_trans E6 F8; have p8 := p6.later F8; have q8 := q6.later F8; have r8 := made_pairs_of h3 hlp.out; have s8 := made_pairs_of h4 hlq.out; have K8 := noteNote D8 Y8; clear h3 h4)
      | (go_at_call 17; refine (eqNote_same k1 k2 k3 k4 k5 t1 t2 v1 o1 o2 v2 _ p p _ q q l1 l2 v3 _ p _ q ps qs _ hm1 hm2 p8 q8 r8 s8).mono ?_; rintro e w9 ⟨rfl, hb9⟩; have K9 := noteNote (D8.later hb9 D8.lt) (Y8.later hb9 Y8.lt)))
   all_goals
    have E9 := bel_trans E8 hb9
    clear E8 K8 K9 D8 Y8 hb8 hb9 F8 p8 q8 r8 s8 a0 a1 a2 a3 a4 a5 a6 a7 a8 a9 a10 a11 a12 a13 a14 a15 b0 b1 b2 b3 b4 b5 b6 b7 b8 b9 b10 b11 b12 b13 b14 b15
    go_wp2_with fail
    go_meet
    exact ⟨rfl, E9⟩
  case rest =>
  obtain ⟨rfl, E9⟩ := hcut
  clear a0 a1 a2 a3 a4 a5 a6 a7 a8 a9 a10 a11 a12 a13 a14 a15 b0 b1 b2 b3 b4 b5 b6 b7 b8 b9 b10 b11 b12 b13 b14 b15 D6 Y6 E6 P6 Q6 p6 q6
  go_wp2
  go_ret
  exact ⟨rfl, E9⟩
theorem exactAnswer_big (k1 k2 k3 k4 k5 t1 t2 v1 o1 o2 v2 : Int) (P : Option Addr) (p pc : Nat) (Q : Option Addr) (q qc : Nat) (l1 l2 v3 : Int) (w : World) (hp : p ≤ maxLen) (hq : q ≤ maxLen) (hm : 1048576 < p + q) :
    Calls Try.prog 5 #[.agg #[.int .i64 k1, .int .i64 k2, .int .i64 k3, .int .i64 k4, .int .i64 k5, .int .i64 t1, .int .i64 t2, .int .i64 v1, .int .i64 o1, .int .i64 o2, .int .i64 v2, .slice P p pc, .slice Q q qc, .int .i64 l1, .int .i64 l2, .int .i64 v3]] w fun e w' => e = .returned (.bool true) ∧ Below w.heap.size w w' := by
  have E0 := bel_alloc w (.cells #[.int .i64 k1, .int .i64 k2, .int .i64 k3, .int .i64 k4, .int .i64 k5, .int .i64 t1, .int .i64 t2, .int .i64 v1, .int .i64 o1, .int .i64 o2, .int .i64 v2, .slice P p pc, .slice Q q qc, .int .i64 l1, .int .i64 l2, .int .i64 v3] 40)
  have HP := Lib.hid hp
  have HQ := Lib.hid hq
  clear hp hq
  go_enter Try.func5, Try.ntmps5
  go_wp2_with fail
  refine (szNote_gt k1 k2 k3 k4 k5 t1 t2 v1 o1 o2 v2 P p pc Q q qc l1 l2 v3 1048576 _ (by omega) (by omega) (by omega) HP.out HQ.out).mono ?_
  rintro e w1 ⟨rfl, hb⟩
  go_wp2
  go_ret
  exact ⟨rfl, bel_trans E0 hb⟩

end Go.Proofs.Ythfakifgnaollaa
