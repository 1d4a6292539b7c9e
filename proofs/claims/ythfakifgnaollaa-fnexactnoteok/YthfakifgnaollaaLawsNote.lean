/- The exact law of NoteOk answers true, whatever it is given: its walk (written by laws_note.py). -/
import Derived.Test.YthfakifgnaollaaLawsAnswer
import Derived.Test.YthfakifgnaollaaNote4
import Derived.Test.YthfakifgnaollaaSpecNote2
namespace Go.Proofs.Ythfakifgnaollaa
open Go.RowKit

set_option maxRecDepth 100000 in
set_option maxHeartbeats 16000000 in
theorem exactNote_small (s l c sh : Int) (A : Option Addr) (n cap : Nat) (zs : List Int) (k1 k2 k3 k4 k5 t1 t2 v1 o1 o2 v2 : Int) (P : Option Addr) (p pc : Nat) (Q : Option Addr) (q qc : Nat) (l1 l2 v3 : Int) (ps qs : List (Int × Int)) (w : World) (hm : n + p + q ≤ 1048576) (hr : Row w w.heap.size A n zs) (hp : Pairs w w.heap.size P p ps) (hq : Pairs w w.heap.size Q q qs) :
    Calls Try.prog 4 #[.agg #[.int .i64 s, .int .i64 l, .int .i64 c, .int .i64 sh, .slice A n cap], .agg #[.int .i64 k1, .int .i64 k2, .int .i64 k3, .int .i64 k4, .int .i64 k5, .int .i64 t1, .int .i64 t2, .int .i64 v1, .int .i64 o1, .int .i64 o2, .int .i64 v2, .slice P p pc, .slice Q q qc, .int .i64 l1, .int .i64 l2, .int .i64 v3]] w fun e w' => e = .returned (.bool true) ∧ Below w.heap.size w w' := by
  have hm1 : p ≤ 1048576 := by omega
  have hm2 : q ≤ 1048576 := by omega
  have hm0 : n ≤ 1048576 := by omega
  have HX : Hid (n ≤ maxLen ∧ p ≤ maxLen ∧ q ≤ maxLen) := by show n ≤ maxLen ∧ p ≤ maxLen ∧ q ≤ maxLen; unfold maxLen; omega
  have hlp := Lib.hid hp.1
  have hlq := Lib.hid hq.1
  have HR := Lib.hid hr
  have HP := Lib.hid hp
  have HQ := Lib.hid hq
  clear hp hq hr
  have D0 := (Box.new w 36 #[.int .i64 s, .int .i64 l, .int .i64 c, .int .i64 sh, .slice A n cap]).alloc (.cells #[.int .i64 k1, .int .i64 k2, .int .i64 k3, .int .i64 k4, .int .i64 k5, .int .i64 t1, .int .i64 t2, .int .i64 v1, .int .i64 o1, .int .i64 o2, .int .i64 v2, .slice P p pc, .slice Q q qc, .int .i64 l1, .int .i64 l2, .int .i64 v3] 40)
  have X0 := Box.new (w.alloc (.cells #[.int .i64 s, .int .i64 l, .int .i64 c, .int .i64 sh, .slice A n cap] 36)) 40 #[.int .i64 k1, .int .i64 k2, .int .i64 k3, .int .i64 k4, .int .i64 k5, .int .i64 t1, .int .i64 t2, .int .i64 v1, .int .i64 o1, .int .i64 o2, .int .i64 v2, .slice P p pc, .slice Q q qc, .int .i64 l1, .int .i64 l2, .int .i64 v3]
  simp only [World.size_alloc] at X0
  have E0 := bel_trans (bel_alloc w (.cells #[.int .i64 s, .int .i64 l, .int .i64 c, .int .i64 sh, .slice A n cap] 36)) (bel_alloc _ (.cells #[.int .i64 k1, .int .i64 k2, .int .i64 k3, .int .i64 k4, .int .i64 k5, .int .i64 t1, .int .i64 t2, .int .i64 v1, .int .i64 o1, .int .i64 o2, .int .i64 v2, .slice P p pc, .slice Q q qc, .int .i64 l1, .int .i64 l2, .int .i64 v3] 40))
  go_enter Try.func4, Try.ntmps4
  go_wp2_with fail
  generalize ((w.alloc _).alloc _ : World) = w0 at D0 X0 E0 ⊢
  refine (szGroup_le s l c sh A n cap w0 hm0).mono ?_
  rintro e w1 ⟨rfl, hb⟩
  have D1 := D0.later hb D0.lt
  have X1 := X0.later hb X0.lt
  have E1 := bel_trans E0 hb
  clear D0 X0 E0 hb
  have hnn : ¬ ((1048576 : Int) - n < 0) := by omega
  have hnm : ¬ ((1048576 : Int) - n - p - q < 0) := by omega
  have HSZ := Lib.hid (sizeL (N := #[.int .i64 k1, .int .i64 k2, .int .i64 k3, .int .i64 k4, .int .i64 k5, .int .i64 t1, .int .i64 t2, .int .i64 v1, .int .i64 o1, .int .i64 o2, .int .i64 v2, .slice P p pc, .slice Q q qc, .int .i64 l1, .int .i64 l2, .int .i64 v3]) rfl)
  go_wp2_with (refine wpList_load_box 40 _ rfl (w.heap.size + 1) rfl 40 #[.int .i64 k1, .int .i64 k2, .int .i64 k3, .int .i64 k4, .int .i64 k5, .int .i64 t1, .int .i64 t2, .int .i64 v1, .int .i64 o1, .int .i64 o2, .int .i64 v2, .slice P p pc, .slice Q q qc, .int .i64 l1, .int .i64 l2, .int .i64 v3] X1 _ Try.underlying40 rfl HSZ.out (by simp [Region.wanted, yielded]) ?_)
  refine (szNote_le k1 k2 k3 k4 k5 t1 t2 v1 o1 o2 v2 P p pc Q q qc l1 l2 v3 (1048576 - n) w1 (by omega) (by omega)).mono ?_
  rintro e w2 ⟨rfl, hb⟩
  have D2 := D1.later hb D1.lt
  have X2 := X1.later hb X1.lt
  have E2 := bel_trans E1 hb
  clear D1 X1 E1 hb
  go_upto_region 8 with fail
  -- the model, on copies
  go_cut [6] (fun v wr => v = .bool (ntB s l c sh zs k1 k2 k3 k4 k5 t1 t2 v1 o1 o2 v2 ps qs l1 l2 v3) ∧ Box wr w.heap.size 36 #[.int .i64 s, .int .i64 l, .int .i64 c, .int .i64 sh, .slice A n cap] ∧ Box wr (w.heap.size + 1) 40 #[.int .i64 k1, .int .i64 k2, .int .i64 k3, .int .i64 k4, .int .i64 k5, .int .i64 t1, .int .i64 t2, .int .i64 v1, .int .i64 o1, .int .i64 o2, .int .i64 v2, .slice P p pc, .slice Q q qc, .int .i64 l1, .int .i64 l2, .int .i64 v3] ∧ Below w.heap.size w wr)
  case first => as_aux_lemma =>
    have R2 := (HR.out.below E2 (Nat.le_refl _)).more E2.size
    have P2 := HP.out.later E2
    have Q2 := HQ.out.later E2
    obtain ⟨g0, g1, g2, g3, g4⟩ := D2.five
    obtain ⟨a0, a1, a2, a3, a4, a5, a6, a7, a8, a9, a10, a11, a12, a13, a14, a15⟩ := sixteen X2
    go_wp2_with fail
    go_region_held3 (fun w' => w'.cell? ⟨w.heap.size, 0, none⟩ = some (.int .i64 s) ∧ w'.cell? ⟨w.heap.size, 1, none⟩ = some (.int .i64 l) ∧ w'.cell? ⟨w.heap.size, 2, none⟩ = some (.int .i64 c) ∧ w'.cell? ⟨w.heap.size, 3, none⟩ = some (.int .i64 sh) ∧ w'.cell? ⟨w.heap.size, 4, none⟩ = some (.slice A n cap) ∧ w'.cell? ⟨w.heap.size + 1, 0, none⟩ = some (.int .i64 k1) ∧ w'.cell? ⟨w.heap.size + 1, 1, none⟩ = some (.int .i64 k2) ∧ w'.cell? ⟨w.heap.size + 1, 2, none⟩ = some (.int .i64 k3) ∧ w'.cell? ⟨w.heap.size + 1, 3, none⟩ = some (.int .i64 k4) ∧ w'.cell? ⟨w.heap.size + 1, 4, none⟩ = some (.int .i64 k5) ∧ w'.cell? ⟨w.heap.size + 1, 5, none⟩ = some (.int .i64 t1) ∧ w'.cell? ⟨w.heap.size + 1, 6, none⟩ = some (.int .i64 t2) ∧ w'.cell? ⟨w.heap.size + 1, 7, none⟩ = some (.int .i64 v1) ∧ w'.cell? ⟨w.heap.size + 1, 8, none⟩ = some (.int .i64 o1) ∧ w'.cell? ⟨w.heap.size + 1, 9, none⟩ = some (.int .i64 o2) ∧ w'.cell? ⟨w.heap.size + 1, 10, none⟩ = some (.int .i64 v2) ∧ w'.cell? ⟨w.heap.size + 1, 11, none⟩ = some (.slice P p pc) ∧ w'.cell? ⟨w.heap.size + 1, 12, none⟩ = some (.slice Q q qc) ∧ w'.cell? ⟨w.heap.size + 1, 13, none⟩ = some (.int .i64 l1) ∧ w'.cell? ⟨w.heap.size + 1, 14, none⟩ = some (.int .i64 l2) ∧ w'.cell? ⟨w.heap.size + 1, 15, none⟩ = some (.int .i64 v3)) (first | (with_reducible exact K5) | (with_reducible exact K4) | (with_reducible exact K3) | go_keep)
      (first
        | (go_at_call 14; refine (toGroup_any s l c sh A n cap zs _ hm0 ?_).mono ?_; exact R2; rintro e w3 ⟨y3, hy3, rfl, hrow3, hb3⟩; have F3 := bel_drew' hb3; have P3 := P2.later F3; have Q3 := Q2.later F3; have K3 := groupNote (D2.later F3 D2.lt) (X2.later F3 X2.lt))
        | (go_at_call 15; refine (toNote_any k1 k2 k3 k4 k5 t1 t2 v1 o1 o2 v2 P p pc Q q qc l1 l2 v3 ps qs _ hm1 hm2 P3 Q3).mono ?_; rintro e w4 ⟨y1, y2, hy1, hy2, rfl, h1, h2, hb4⟩; have F4 := bel_trans F3 hb4; have hrow4 := (hrow3.below hb4 (Nat.le_refl _)).more hb4.size; have p4 := made_pairs_of h1 hlp.out; have q4 := made_pairs_of h2 hlq.out; have K4 := groupNote (D2.later F4 D2.lt) (X2.later F4 X2.lt))
        | (go_at_call 10; refine (specNote_is s l c sh _ n n zs k1 k2 k3 k4 k5 t1 t2 v1 o1 o2 v2 _ p p _ q q l1 l2 v3 ps qs _ HX.out.1 HX.out.2.1 HX.out.2.2 hrow4 p4 q4).mono ?_; rintro e w5 ⟨rfl, hb5⟩; have F5 := bel_trans F4 hb5; have K5 := groupNote (D2.later F5 D2.lt) (X2.later F5 X2.lt)))
    all_goals
      have D3 := D2.later F5 D2.lt
      have X3 := X2.later F5 X2.lt
      have E3 := bel_trans E2 F5
      clear K3 K4 K5 F3 F4 F5 D2 X2 E2 R2 P2 Q2 P3 Q3 hrow3 hrow4 p4 q4 h1 h2 hb3 hb4 hb5 g0 g1 g2 g3 g4 a0 a1 a2 a3 a4 a5 a6 a7 a8 a9 a10 a11 a12 a13 a14 a15
      go_wp2_with fail
      go_meet
      exact ⟨rfl, D3, X3, E3⟩
  case rest =>
  obtain ⟨rfl, D3, X3, E3⟩ := hcut
  obtain ⟨w3, rfl⟩ : ∃ x, x = wc := ⟨_, rfl⟩
  clear D2 X2 E2
  -- the copies that are handed in
  go_upto_region 9 with fail
  go_cut [7] (fun v wr => ∃ R y, v = .pointer (some ⟨R, 0, none⟩) ∧ w.heap.size + 1 < R ∧ Box wr R 26 #[.int .i64 s, .int .i64 l, .int .i64 c, .int .i64 sh, .slice (some ⟨y, 0, none⟩) n n] ∧ Row wr wr.heap.size (some ⟨y, 0, none⟩) n zs ∧ Box wr w.heap.size 36 #[.int .i64 s, .int .i64 l, .int .i64 c, .int .i64 sh, .slice A n cap] ∧ Box wr (w.heap.size + 1) 40 #[.int .i64 k1, .int .i64 k2, .int .i64 k3, .int .i64 k4, .int .i64 k5, .int .i64 t1, .int .i64 t2, .int .i64 v1, .int .i64 o1, .int .i64 o2, .int .i64 v2, .slice P p pc, .slice Q q qc, .int .i64 l1, .int .i64 l2, .int .i64 v3] ∧ Below w.heap.size w wr)
  case first => as_aux_lemma =>
    obtain ⟨g0, g1, g2, g3, g4⟩ := D3.five
    go_wp2_with fail
    refine (toGroup_any s l c sh A n cap zs w3 hm0 ((HR.out.below E3 (Nat.le_refl _)).more E3.size)).mono ?_
    rintro e w4 ⟨y, hy, rfl, hrow, hb⟩
    have F := bel_alloc w4 (.cells #[.int .i64 s, .int .i64 l, .int .i64 c, .int .i64 sh, .slice (some ⟨y, 0, none⟩) n n] 26)
    have D4 := (D3.later hb D3.lt).later F (D3.later hb D3.lt).lt
    have X4 := (X3.later hb X3.lt).later F (X3.later hb X3.lt).lt
    have hxl := (X3.later hb X3.lt).lt
    have E4 := bel_trans (bel_trans E3 hb) F
    have hrow4 := (hrow.below F (Nat.le_refl _)).more F.size
    have Y4 := Box.new w4 26 #[.int .i64 s, .int .i64 l, .int .i64 c, .int .i64 sh, .slice (some ⟨y, 0, none⟩) n n]
    clear g0 g1 g2 g3 g4 D3 X3 E3 hb hrow F
    go_wp2_with fail
    go_meet
    exact ⟨w4.heap.size, y, rfl, hxl, Y4, hrow4, D4, X4, E4⟩
  case rest =>
  obtain ⟨R, y, rfl, hR, Y4, r4, D4, X4, E4⟩ := hcut
  obtain ⟨w4, rfl⟩ : ∃ x, x = wc := ⟨_, rfl⟩
  clear D3 X3 E3
  go_upto_region 10 with fail
  go_cut [8] (fun v wr => ∃ S y1 y2, v = .pointer (some ⟨S, 0, none⟩) ∧ R < S ∧ Box wr S 31 #[.int .i64 k1, .int .i64 k2, .int .i64 k3, .int .i64 k4, .int .i64 k5, .int .i64 t1, .int .i64 t2, .int .i64 v1, .int .i64 o1, .int .i64 o2, .int .i64 v2, .slice (some ⟨y1, 0, none⟩) p p, .slice (some ⟨y2, 0, none⟩) q q, .int .i64 l1, .int .i64 l2, .int .i64 v3] ∧ Pairs wr wr.heap.size (some ⟨y1, 0, none⟩) p ps ∧ Pairs wr wr.heap.size (some ⟨y2, 0, none⟩) q qs ∧ Box wr R 26 #[.int .i64 s, .int .i64 l, .int .i64 c, .int .i64 sh, .slice (some ⟨y, 0, none⟩) n n] ∧ Row wr wr.heap.size (some ⟨y, 0, none⟩) n zs ∧ Box wr w.heap.size 36 #[.int .i64 s, .int .i64 l, .int .i64 c, .int .i64 sh, .slice A n cap] ∧ Box wr (w.heap.size + 1) 40 #[.int .i64 k1, .int .i64 k2, .int .i64 k3, .int .i64 k4, .int .i64 k5, .int .i64 t1, .int .i64 t2, .int .i64 v1, .int .i64 o1, .int .i64 o2, .int .i64 v2, .slice P p pc, .slice Q q qc, .int .i64 l1, .int .i64 l2, .int .i64 v3] ∧ Below w.heap.size w wr)
  case first => as_aux_lemma =>
    go_wp2_with (refine wpList_load_box 40 _ rfl (w.heap.size + 1) rfl 40 #[.int .i64 k1, .int .i64 k2, .int .i64 k3, .int .i64 k4, .int .i64 k5, .int .i64 t1, .int .i64 t2, .int .i64 v1, .int .i64 o1, .int .i64 o2, .int .i64 v2, .slice P p pc, .slice Q q qc, .int .i64 l1, .int .i64 l2, .int .i64 v3] X4 _ Try.underlying40 rfl HSZ.out (by simp [Region.wanted, yielded]) ?_)
    refine (toNote_any k1 k2 k3 k4 k5 t1 t2 v1 o1 o2 v2 P p pc Q q qc l1 l2 v3 ps qs w4 hm1 hm2 (HP.out.later E4) (HQ.out.later E4)).mono ?_
    rintro e w5 ⟨y1, y2, hy1, hy2, rfl, h1, h2, hb⟩
    have F := bel_alloc w5 (.cells #[.int .i64 k1, .int .i64 k2, .int .i64 k3, .int .i64 k4, .int .i64 k5, .int .i64 t1, .int .i64 t2, .int .i64 v1, .int .i64 o1, .int .i64 o2, .int .i64 v2, .slice (some ⟨y1, 0, none⟩) p p, .slice (some ⟨y2, 0, none⟩) q q, .int .i64 l1, .int .i64 l2, .int .i64 v3] 31)
    have G := bel_trans hb F
    have D5 := D4.later G D4.lt
    have X5 := X4.later G X4.lt
    have Z5 := Y4.later G Y4.lt
    have hyl := (Y4.later hb Y4.lt).lt
    have E5 := bel_trans E4 G
    have r5 := (r4.below G (Nat.le_refl _)).more G.size
    have p5 := (made_pairs_of h1 hlp.out).later F
    have q5 := (made_pairs_of h2 hlq.out).later F
    have S5 := Box.new w5 31 #[.int .i64 k1, .int .i64 k2, .int .i64 k3, .int .i64 k4, .int .i64 k5, .int .i64 t1, .int .i64 t2, .int .i64 v1, .int .i64 o1, .int .i64 o2, .int .i64 v2, .slice (some ⟨y1, 0, none⟩) p p, .slice (some ⟨y2, 0, none⟩) q q, .int .i64 l1, .int .i64 l2, .int .i64 v3]
    clear D4 X4 E4 hb F G h1 h2 Y4 r4
    go_wp2_with fail
    go_meet
    exact ⟨w5.heap.size, y1, y2, rfl, hyl, S5, p5, q5, Z5, r5, D5, X5, E5⟩
  case rest =>
  obtain ⟨S, y1, y2, rfl, hS, S5, p5, q5, Z5, r5, D5, X5, E5⟩ := hcut
  obtain ⟨w5, rfl⟩ : ∃ x, x = wc := ⟨_, rfl⟩
  clear D4 X4 E4 Y4 r4
  -- the program
  have HSI := Lib.hid (sizeN (N := #[.int .i64 k1, .int .i64 k2, .int .i64 k3, .int .i64 k4, .int .i64 k5, .int .i64 t1, .int .i64 t2, .int .i64 v1, .int .i64 o1, .int .i64 o2, .int .i64 v2, .slice (some ⟨y1, 0, none⟩) p p, .slice (some ⟨y2, 0, none⟩) q q, .int .i64 l1, .int .i64 l2, .int .i64 v3]) rfl)
  go_upto_region 11 with fail
  go_cut [9] (fun v wr => v = .bool (ntB s l c sh zs k1 k2 k3 k4 k5 t1 t2 v1 o1 o2 v2 ps qs l1 l2 v3) ∧ Box wr S 31 #[.int .i64 k1, .int .i64 k2, .int .i64 k3, .int .i64 k4, .int .i64 k5, .int .i64 t1, .int .i64 t2, .int .i64 v1, .int .i64 o1, .int .i64 o2, .int .i64 v2, .slice (some ⟨y1, 0, none⟩) p p, .slice (some ⟨y2, 0, none⟩) q q, .int .i64 l1, .int .i64 l2, .int .i64 v3] ∧ Pairs wr wr.heap.size (some ⟨y1, 0, none⟩) p ps ∧ Pairs wr wr.heap.size (some ⟨y2, 0, none⟩) q qs ∧ Box wr R 26 #[.int .i64 s, .int .i64 l, .int .i64 c, .int .i64 sh, .slice (some ⟨y, 0, none⟩) n n] ∧ Row wr wr.heap.size (some ⟨y, 0, none⟩) n zs ∧ Box wr w.heap.size 36 #[.int .i64 s, .int .i64 l, .int .i64 c, .int .i64 sh, .slice A n cap] ∧ Box wr (w.heap.size + 1) 40 #[.int .i64 k1, .int .i64 k2, .int .i64 k3, .int .i64 k4, .int .i64 k5, .int .i64 t1, .int .i64 t2, .int .i64 v1, .int .i64 o1, .int .i64 o2, .int .i64 v2, .slice P p pc, .slice Q q qc, .int .i64 l1, .int .i64 l2, .int .i64 v3] ∧ Below w.heap.size w wr)
  case first => as_aux_lemma =>
    obtain ⟨g0, g1, g2, g3, g4⟩ := Z5.five
    go_wp2_with (refine wpList_load_box 31 _ rfl S rfl 31 #[.int .i64 k1, .int .i64 k2, .int .i64 k3, .int .i64 k4, .int .i64 k5, .int .i64 t1, .int .i64 t2, .int .i64 v1, .int .i64 o1, .int .i64 o2, .int .i64 v2, .slice (some ⟨y1, 0, none⟩) p p, .slice (some ⟨y2, 0, none⟩) q q, .int .i64 l1, .int .i64 l2, .int .i64 v3] S5 _ Try.underlying31 rfl HSI.out (by simp [Region.wanted, yielded]) ?_)
    refine (noteN_is (N := #[.int .i64 k1, .int .i64 k2, .int .i64 k3, .int .i64 k4, .int .i64 k5, .int .i64 t1, .int .i64 t2, .int .i64 v1, .int .i64 o1, .int .i64 o2, .int .i64 v2, .slice (some ⟨y1, 0, none⟩) p p, .slice (some ⟨y2, 0, none⟩) q q, .int .i64 l1, .int .i64 l2, .int .i64 v3]) rfl s l c sh _ n n zs ps qs w5 HX.out.1 HX.out.2.1 HX.out.2.2 r5 p5 q5).mono ?_
    rintro e w6 ⟨rfl, hb⟩
    have S6 := S5.later hb S5.lt
    have Z6 := Z5.later hb Z5.lt
    have D6 := D5.later hb D5.lt
    have X6 := X5.later hb X5.lt
    have E6 := bel_trans E5 hb
    have r6 := (r5.below hb (Nat.le_refl _)).more hb.size
    have p6 := p5.later hb
    have q6 := q5.later hb
    clear S5 Z5 D5 X5 E5 r5 p5 q5 hb g0 g1 g2 g3 g4
    go_wp2_with fail
    go_meet
    exact ⟨rfl, S6, p6, q6, Z6, r6, D6, X6, E6⟩
  case rest =>
  obtain ⟨rfl, S6, p6, q6, Z6, r6, D6, X6, E6⟩ := hcut
  obtain ⟨w6, rfl⟩ : ∃ x, x = wc := ⟨_, rfl⟩
  clear S5 Z5 D5 X5 E5 r5 p5 q5
  generalize ntB s l c sh zs k1 k2 k3 k4 k5 t1 t2 v1 o1 o2 v2 ps qs l1 l2 v3 = bn
  have hff : (bn != bn) = false := by simp
  go_upto_region 14 with fail
  go_cut [39] (fun v wr => v = .bool false ∧ Below w6.heap.size w6 wr)
  case first => as_aux_lemma =>
    have R6 := (HR.out.below E6 (Nat.le_refl _)).more E6.size
    obtain ⟨g0, g1, g2, g3, g4⟩ := D6.five
    obtain ⟨z0, z1, z2, z3, z4⟩ := Z6.five
    have hne : w.heap.size ≠ R := by omega
    go_wp2_with fail
    go_region_held3 (fun w' => w'.cell? ⟨w.heap.size, 0, none⟩ = some (.int .i64 s) ∧ w'.cell? ⟨w.heap.size, 1, none⟩ = some (.int .i64 l) ∧ w'.cell? ⟨w.heap.size, 2, none⟩ = some (.int .i64 c) ∧ w'.cell? ⟨w.heap.size, 3, none⟩ = some (.int .i64 sh) ∧ w'.cell? ⟨w.heap.size, 4, none⟩ = some (.slice A n cap) ∧ w'.cell? ⟨R, 0, none⟩ = some (.int .i64 s) ∧ w'.cell? ⟨R, 1, none⟩ = some (.int .i64 l) ∧ w'.cell? ⟨R, 2, none⟩ = some (.int .i64 c) ∧ w'.cell? ⟨R, 3, none⟩ = some (.int .i64 sh) ∧ w'.cell? ⟨R, 4, none⟩ = some (.slice (some ⟨y, 0, none⟩) n n)) (first | (with_reducible exact K9) | (with_reducible exact K8) | go_keep)
      (first
        | (go_at_call 14; refine (toGroup_any s l c sh A n cap zs _ hm0 ?_).mono ?_; exact R6; rintro e w8 ⟨y8, hy8, rfl, hrow8, hb8⟩; have F8 := bel_drew' hb8; have r8 := (r6.below F8 (Nat.le_refl _)).more F8.size; have K8 := groupGroup (D6.later F8 D6.lt) (Z6.later F8 Z6.lt))
        | (go_at_call 16; refine (eqGroup_same s l c sh _ _ n n n zs _ hm0 r8 hrow8).mono ?_; rintro e w9 ⟨rfl, hb9⟩; have F9 := bel_trans F8 hb9; have K9 := groupGroup (D6.later F9 D6.lt) (Z6.later F9 Z6.lt)))
    all_goals
      have G := F9
      clear K8 K9 F8 F9 hb8 hb9 r8 hrow8 R6 g0 g1 g2 g3 g4 z0 z1 z2 z3 z4 D6 Z6 X6 S6 E6 p6 q6 r6
      go_wp2_with fail
      go_meet
      exact ⟨rfl, G⟩
  case rest =>
  obtain ⟨rfl, G7⟩ := hcut
  obtain ⟨w7, rfl⟩ : ∃ x, x = wc := ⟨_, rfl⟩
  have S7 := S6.later G7 S6.lt
  have X7 := X6.later G7 X6.lt
  have E7 := bel_trans E6 G7
  have p7 := p6.later G7
  have q7 := q6.later G7
  clear S6 Z6 D6 X6 E6 r6 p6 q6 G7
  go_upto_region 16 with fail
  go_cut [44] (fun v wr => v = .bool false ∧ Below w.heap.size w wr)
  case first => as_aux_lemma =>
    have P7 := HP.out.later E7
    have Q7 := HQ.out.later E7
    obtain ⟨a0, a1, a2, a3, a4, a5, a6, a7, a8, a9, a10, a11, a12, a13, a14, a15⟩ := sixteen X7
    obtain ⟨b0, b1, b2, b3, b4, b5, b6, b7, b8, b9, b10, b11, b12, b13, b14, b15⟩ := sixteen S7
    have hnew : w.heap.size + 1 ≠ S := by omega
    go_wp2_with fail
    go_region_held3 (fun w' => w'.cell? ⟨w.heap.size + 1, 0, none⟩ = some (.int .i64 k1) ∧ w'.cell? ⟨w.heap.size + 1, 1, none⟩ = some (.int .i64 k2) ∧ w'.cell? ⟨w.heap.size + 1, 2, none⟩ = some (.int .i64 k3) ∧ w'.cell? ⟨w.heap.size + 1, 3, none⟩ = some (.int .i64 k4) ∧ w'.cell? ⟨w.heap.size + 1, 4, none⟩ = some (.int .i64 k5) ∧ w'.cell? ⟨w.heap.size + 1, 5, none⟩ = some (.int .i64 t1) ∧ w'.cell? ⟨w.heap.size + 1, 6, none⟩ = some (.int .i64 t2) ∧ w'.cell? ⟨w.heap.size + 1, 7, none⟩ = some (.int .i64 v1) ∧ w'.cell? ⟨w.heap.size + 1, 8, none⟩ = some (.int .i64 o1) ∧ w'.cell? ⟨w.heap.size + 1, 9, none⟩ = some (.int .i64 o2) ∧ w'.cell? ⟨w.heap.size + 1, 10, none⟩ = some (.int .i64 v2) ∧ w'.cell? ⟨w.heap.size + 1, 11, none⟩ = some (.slice P p pc) ∧ w'.cell? ⟨w.heap.size + 1, 12, none⟩ = some (.slice Q q qc) ∧ w'.cell? ⟨w.heap.size + 1, 13, none⟩ = some (.int .i64 l1) ∧ w'.cell? ⟨w.heap.size + 1, 14, none⟩ = some (.int .i64 l2) ∧ w'.cell? ⟨w.heap.size + 1, 15, none⟩ = some (.int .i64 v3) ∧ w'.cell? ⟨S, 0, none⟩ = some (.int .i64 k1) ∧ w'.cell? ⟨S, 1, none⟩ = some (.int .i64 k2) ∧ w'.cell? ⟨S, 2, none⟩ = some (.int .i64 k3) ∧ w'.cell? ⟨S, 3, none⟩ = some (.int .i64 k4) ∧ w'.cell? ⟨S, 4, none⟩ = some (.int .i64 k5) ∧ w'.cell? ⟨S, 5, none⟩ = some (.int .i64 t1) ∧ w'.cell? ⟨S, 6, none⟩ = some (.int .i64 t2) ∧ w'.cell? ⟨S, 7, none⟩ = some (.int .i64 v1) ∧ w'.cell? ⟨S, 8, none⟩ = some (.int .i64 o1) ∧ w'.cell? ⟨S, 9, none⟩ = some (.int .i64 o2) ∧ w'.cell? ⟨S, 10, none⟩ = some (.int .i64 v2) ∧ w'.cell? ⟨S, 11, none⟩ = some (.slice (some ⟨y1, 0, none⟩) p p) ∧ w'.cell? ⟨S, 12, none⟩ = some (.slice (some ⟨y2, 0, none⟩) q q) ∧ w'.cell? ⟨S, 13, none⟩ = some (.int .i64 l1) ∧ w'.cell? ⟨S, 14, none⟩ = some (.int .i64 l2) ∧ w'.cell? ⟨S, 15, none⟩ = some (.int .i64 v3)) (first | (with_reducible exact K9) | (with_reducible exact K8) | go_keep)
      (first
        | (go_at_call 15; refine (toNote_any k1 k2 k3 k4 k5 t1 t2 v1 o1 o2 v2 P p pc Q q qc l1 l2 v3 ps qs _ hm1 hm2 ?_ ?_).mono ?_; exact P7; exact Q7; rintro e w8 ⟨g3, g4, hg3, hg4, rfl, h3, h4, hb8⟩; have F8 := bel_drew' hb8; have D8 := X7.later F8 X7.lt; have Y8 := S7.later F8 S7.lt; have E8 := bel_trans E7 F8; have p8 := p7.later F8; have q8 := q7.later F8; have r8 := made_pairs_of h3 hlp.out; have s8 := made_pairs_of h4 hlq.out; have K8 := noteNote D8 Y8; clear h3 h4)
        | (go_at_call 17; refine (eqNote_same k1 k2 k3 k4 k5 t1 t2 v1 o1 o2 v2 _ p p _ q q l1 l2 v3 _ p _ q ps qs _ hm1 hm2 p8 q8 r8 s8).mono ?_; rintro e w9 ⟨rfl, hb9⟩; have K9 := noteNote (D8.later hb9 D8.lt) (Y8.later hb9 Y8.lt)))
    all_goals
      have E9 := bel_trans E8 hb9
      clear E8 K8 K9 D8 Y8 hb8 hb9 F8 p8 q8 r8 s8 a0 a1 a2 a3 a4 a5 a6 a7 a8 a9 a10 a11 a12 a13 a14 a15 b0 b1 b2 b3 b4 b5 b6 b7 b8 b9 b10 b11 b12 b13 b14 b15
      go_wp2_with fail
      go_meet
      exact ⟨rfl, E9⟩
  case rest =>
  obtain ⟨rfl, E9⟩ := hcut
  clear S7 X7 E7 p7 q7
  go_wp2
  go_ret
  exact ⟨rfl, E9⟩
theorem exactNote_big (s l c sh : Int) (A : Option Addr) (n cap : Nat) (k1 k2 k3 k4 k5 t1 t2 v1 o1 o2 v2 : Int) (P : Option Addr) (p pc : Nat) (Q : Option Addr) (q qc : Nat) (l1 l2 v3 : Int) (w : World) (hn : n ≤ maxLen) (hp : p ≤ maxLen) (hq : q ≤ maxLen) (hm : 1048576 < n + p + q) :
    Calls Try.prog 4 #[.agg #[.int .i64 s, .int .i64 l, .int .i64 c, .int .i64 sh, .slice A n cap], .agg #[.int .i64 k1, .int .i64 k2, .int .i64 k3, .int .i64 k4, .int .i64 k5, .int .i64 t1, .int .i64 t2, .int .i64 v1, .int .i64 o1, .int .i64 o2, .int .i64 v2, .slice P p pc, .slice Q q qc, .int .i64 l1, .int .i64 l2, .int .i64 v3]] w fun e w' => e = .returned (.bool true) ∧ Below w.heap.size w w' := by
  have E0 := bel_trans (bel_alloc w (.cells #[.int .i64 s, .int .i64 l, .int .i64 c, .int .i64 sh, .slice A n cap] 36)) (bel_alloc _ (.cells #[.int .i64 k1, .int .i64 k2, .int .i64 k3, .int .i64 k4, .int .i64 k5, .int .i64 t1, .int .i64 t2, .int .i64 v1, .int .i64 o1, .int .i64 o2, .int .i64 v2, .slice P p pc, .slice Q q qc, .int .i64 l1, .int .i64 l2, .int .i64 v3] 40))
  have X0 := Box.new (w.alloc (.cells #[.int .i64 s, .int .i64 l, .int .i64 c, .int .i64 sh, .slice A n cap] 36)) 40 #[.int .i64 k1, .int .i64 k2, .int .i64 k3, .int .i64 k4, .int .i64 k5, .int .i64 t1, .int .i64 t2, .int .i64 v1, .int .i64 o1, .int .i64 o2, .int .i64 v2, .slice P p pc, .slice Q q qc, .int .i64 l1, .int .i64 l2, .int .i64 v3]
  simp only [World.size_alloc] at X0
  have HSZ := Lib.hid (sizeL (N := #[.int .i64 k1, .int .i64 k2, .int .i64 k3, .int .i64 k4, .int .i64 k5, .int .i64 t1, .int .i64 t2, .int .i64 v1, .int .i64 o1, .int .i64 o2, .int .i64 v2, .slice P p pc, .slice Q q qc, .int .i64 l1, .int .i64 l2, .int .i64 v3]) rfl)
  have HN := Lib.hid hn
  have HP := Lib.hid hp
  have HQ := Lib.hid hq
  clear hp hq hn
  rcases Nat.lt_or_ge 1048576 n with h | h
  · go_enter Try.func4, Try.ntmps4
    go_wp2_with fail
    refine (szGroup_gt s l c sh A n cap _ h HN.out).mono ?_
    rintro e w1 ⟨rfl, hb⟩
    have E := bel_trans E0 hb
    go_wp2
    go_ret
    exact ⟨rfl, E⟩
  · have hnn : ¬ ((1048576 : Int) - n < 0) := by omega
    go_enter Try.func4, Try.ntmps4
    go_wp2_with fail
    generalize ((w.alloc _).alloc _ : World) = w0 at X0 E0 ⊢
    refine (szGroup_le s l c sh A n cap w0 h).mono ?_
    rintro e w1 ⟨rfl, hb⟩
    have E1 := bel_trans E0 hb
    have X1 := X0.later hb X0.lt
    clear X0 E0 hb
    go_wp2_with (refine wpList_load_box 40 _ rfl (w.heap.size + 1) rfl 40 #[.int .i64 k1, .int .i64 k2, .int .i64 k3, .int .i64 k4, .int .i64 k5, .int .i64 t1, .int .i64 t2, .int .i64 v1, .int .i64 o1, .int .i64 o2, .int .i64 v2, .slice P p pc, .slice Q q qc, .int .i64 l1, .int .i64 l2, .int .i64 v3] X1 _ Try.underlying40 rfl HSZ.out (by simp [Region.wanted, yielded]) ?_)
    refine (szNote_gt k1 k2 k3 k4 k5 t1 t2 v1 o1 o2 v2 P p pc Q q qc l1 l2 v3 (1048576 - n) w1 (by omega) (by omega) (by omega) HP.out HQ.out).mono ?_
    rintro e w2 ⟨rfl, hb⟩
    have E := bel_trans E1 hb
    go_wp2
    go_ret
    exact ⟨rfl, E⟩

end Go.Proofs.Ythfakifgnaollaa
