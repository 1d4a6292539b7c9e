/- The four exact laws of chapter 3 answer true, whatever they are given: walks of each of them. -/
import Derived.Test.YtcejiellbefojaaCopiesClaim
import Derived.Test.YtcejiellbefojaaFresh
namespace Go.Proofs.Ytcejiellbefojaa
open Go.RowKit

set_option maxHeartbeats 400000 in
theorem exactClaim_walk (ck ch ct cq cv : Int) (w : World) :
    Calls Try.prog 4 #[.agg #[.int .i64 ck, .int .i64 ch, .int .i64 ct, .int .i64 cq, .int .i64 cv]] w fun e w' => e = .returned (.bool true) ∧ Below w.heap.size w w' := by
  have D := Box.new w 47 #[.int .i64 ck, .int .i64 ch, .int .i64 ct, .int .i64 cq, .int .i64 cv]
  have hb0 := bel_alloc w (.cells #[.int .i64 ck, .int .i64 ch, .int .i64 ct, .int .i64 cq, .int .i64 cv] 47)
  go_enter Try.func4, Try.ntmps4
  go_wp2_with fail
  generalize (w.alloc _ : World) = w0 at D hb0 ⊢
  refine (toClaim_any ck ch ct cq cv w0).mono ?_
  rintro e w1 ⟨rfl, hb1⟩
  have D1 := D.later hb1 D.lt
  have E1 := bel_trans hb0 hb1
  go_wp2_with fail
  refine (specClaim_any ck ch ct cq cv w1).mono ?_
  rintro e w2 ⟨rfl, hb2⟩
  have D2 := D1.later hb2 D1.lt
  have E2 := bel_trans E1 hb2
  obtain ⟨a0, a1, a2, a3, a4⟩ := D2.five
  go_wp2_with fail
  refine (toClaim_any ck ch ct cq cv w2).mono ?_
  rintro e w3 ⟨rfl, hb3⟩
  have E3 := bel_trans E2 hb3
  go_wp2_with fail
  refine (claimOk_any ck ch ct cq cv w3).mono ?_
  rintro e w4 ⟨rfl, hb4⟩
  have E4 := bel_trans E3 hb4
  generalize clB ck ch ct cq cv = v
  cases v <;>
  · go_wp2
    go_ret
    exact ⟨rfl, E4⟩

set_option maxHeartbeats 400000 in
theorem exactDigest_walk (ck ch ct cq cv : Int) (w : World) :
    Calls Try.prog 5 #[.agg #[.int .i64 ck, .int .i64 ch, .int .i64 ct, .int .i64 cq, .int .i64 cv]] w fun e w' => e = .returned (.bool true) ∧ Below w.heap.size w w' := by
  have D := Box.new w 47 #[.int .i64 ck, .int .i64 ch, .int .i64 ct, .int .i64 cq, .int .i64 cv]
  have hb0 := bel_alloc w (.cells #[.int .i64 ck, .int .i64 ch, .int .i64 ct, .int .i64 cq, .int .i64 cv] 47)
  go_enter Try.func5, Try.ntmps5
  go_wp2_with fail
  generalize (w.alloc _ : World) = w0 at D hb0 ⊢
  refine (toClaim_any ck ch ct cq cv w0).mono ?_
  rintro e w1 ⟨rfl, hb1⟩
  have D1 := D.later hb1 D.lt
  have E1 := bel_trans hb0 hb1
  go_wp2_with fail
  refine (specDigest_any ck ch ct cq cv w1).mono ?_
  rintro e w2 ⟨rfl, hb2⟩
  have D2 := D1.later hb2 D1.lt
  have E2 := bel_trans E1 hb2
  obtain ⟨a0, a1, a2, a3, a4⟩ := D2.five
  go_wp2_with fail
  refine (toClaim_any ck ch ct cq cv w2).mono ?_
  rintro e w3 ⟨rfl, hb3⟩
  have E3 := bel_trans E2 hb3
  go_wp2_with fail
  refine (digest_any ck ch ct cq cv w3).mono ?_
  rintro e w4 ⟨rfl, hb4⟩
  have E4 := bel_trans E3 hb4
  generalize digN ck ch ct cq cv = v
  go_wp2
  go_ret
  exact ⟨rfl, E4⟩

theorem exactSealOf_big (s l c sh : Int) (A : Option Addr) (n cap : Nat) (ck ch ct cq cv x : Int) (w : World) (hm : 1048576 < n) (hx : n ≤ maxLen) :
    Calls Try.prog 6 #[.agg #[.int .i64 s, .int .i64 l, .int .i64 c, .int .i64 sh, .slice A n cap], .agg #[.int .i64 ck, .int .i64 ch, .int .i64 ct, .int .i64 cq, .int .i64 cv], .int .i64 x] w fun e w' => e = .returned (.bool true) ∧ Below w.heap.size w w' := by
  go_enter Try.func6, Try.ntmps6
  go_wp2_with (go_at_call 22; refine (szGroup_gt s l c sh A n cap _ hm hx).mono ?_; rintro e w' ⟨rfl, hb⟩)
  go_ret
  exact ⟨rfl, bel_trans (bel_trans (bel_alloc _ _) (bel_alloc _ _)) hb⟩

set_option maxHeartbeats 2000000 in
theorem exactSealOf_small (s l c sh : Int) (A : Option Addr) (n cap : Nat) (zs : List Int) (ck ch ct cq cv x : Int) (w : World) (hm : n ≤ 1048576) (hr : Row w w.heap.size A n zs) :
    Calls Try.prog 6 #[.agg #[.int .i64 s, .int .i64 l, .int .i64 c, .int .i64 sh, .slice A n cap], .agg #[.int .i64 ck, .int .i64 ch, .int .i64 ct, .int .i64 cq, .int .i64 cv], .int .i64 x] w fun e w' => e = .returned (.bool true) ∧ Below w.heap.size w w' := by
  have hx : n ≤ maxLen := by unfold maxLen; omega
  have HX := Lib.hid hx
  have HR := Lib.hid hr
  clear hx hr
  obtain ⟨a, t, f, hv⟩ := seV_form s l c sh zs ck ch ct cq cv x
  have HV := Lib.hid hv
  clear hv
  have D := (Box.new w 50 #[.int .i64 s, .int .i64 l, .int .i64 c, .int .i64 sh, .slice A n cap]).alloc (.cells #[.int .i64 ck, .int .i64 ch, .int .i64 ct, .int .i64 cq, .int .i64 cv] 47)
  have X := Box.new (w.alloc (.cells #[.int .i64 s, .int .i64 l, .int .i64 c, .int .i64 sh, .slice A n cap] 50)) 47 #[.int .i64 ck, .int .i64 ch, .int .i64 ct, .int .i64 cq, .int .i64 cv]
  have hb0 := bel_trans (bel_alloc w (.cells #[.int .i64 s, .int .i64 l, .int .i64 c, .int .i64 sh, .slice A n cap] 50)) (bel_alloc _ (.cells #[.int .i64 ck, .int .i64 ch, .int .i64 ct, .int .i64 cq, .int .i64 cv] 47))
  simp only [World.size_alloc] at X
  go_enter Try.func6, Try.ntmps6
  go_wp2_with fail
  generalize ((w.alloc _).alloc _ : World) = w0 at D X hb0 ⊢
  -- the size
  refine (szGroup_le s l c sh A n cap w0 hm).mono ?_
  rintro e w1 ⟨rfl, hb1⟩
  have D1 := D.later hb1 D.lt
  have X1 := X.later hb1 X.lt
  have E1 := bel_trans hb0 hb1
  have R1 := (HR.out.below E1 (Nat.le_refl _)).more E1.size
  clear D X hb0 hb1
  have hnn : ¬ ((1048576 : Int) - n < 0) := by omega
  go_upto_region 5 with fail
  -- the model, on copies
  go_cut [8, 9] (fun p b wr => ∃ g, p = .pointer (some ⟨g, 0, none⟩) ∧ b = .bool f ∧ w1.heap.size ≤ g ∧ Box wr g 37 #[.int .i64 a, .int .i64 t] ∧ Below w1.heap.size w1 wr)
  case first =>
    have D1d : Box w1.drew w.heap.size 50 #[.int .i64 s, .int .i64 l, .int .i64 c, .int .i64 sh, .slice A n cap] := D1
    have X1d : Box w1.drew (w.heap.size + 1) 47 #[.int .i64 ck, .int .i64 ch, .int .i64 ct, .int .i64 cq, .int .i64 cv] := X1
    obtain ⟨a0, a1, a2, a3, a4⟩ := D1.five
    obtain ⟨x0, x1, x2, x3, x4⟩ := X1.five
    have l1 := X1.lt
    have q1 : w1.heap.size ≠ w.heap.size := by omega
    have q1' : w1.heap.size ≠ w.heap.size + 1 := by omega
    go_region_held3 (fun w' => w'.cell? ⟨w.heap.size, 0, none⟩ = some (.int .i64 s) ∧ w'.cell? ⟨w.heap.size, 1, none⟩ = some (.int .i64 l) ∧ w'.cell? ⟨w.heap.size, 2, none⟩ = some (.int .i64 c) ∧ w'.cell? ⟨w.heap.size, 3, none⟩ = some (.int .i64 sh) ∧ w'.cell? ⟨w.heap.size, 4, none⟩ = some (.slice A n cap) ∧
        w'.cell? ⟨w.heap.size + 1, 0, none⟩ = some (.int .i64 ck) ∧ w'.cell? ⟨w.heap.size + 1, 1, none⟩ = some (.int .i64 ch) ∧ w'.cell? ⟨w.heap.size + 1, 2, none⟩ = some (.int .i64 ct) ∧ w'.cell? ⟨w.heap.size + 1, 3, none⟩ = some (.int .i64 cq) ∧ w'.cell? ⟨w.heap.size + 1, 4, none⟩ = some (.int .i64 cv))
      (first | (with_reducible exact K4) | (with_reducible exact K3) | (with_reducible exact K2) | (with_reducible exact ten (D4.alloc _) (X4.alloc _)) | (with_reducible exact ten (D3.alloc _) (X3.alloc _)) | (with_reducible exact ten (D2.alloc _) (X2.alloc _)) | (with_reducible exact ten (D1d.alloc _) (X1d.alloc _)) | (with_reducible exact ten (D4.far2 q3 _ _) (X4.far2 q3' _ _)) | (with_reducible exact ten (D4.far2 q2 _ _) (X4.far2 q2' _ _)) | (with_reducible exact ten (D4.far2 q1 _ _) (X4.far2 q1' _ _)) | go_keep)
      (first
        | (go_at_call 23; (refine (toGroup_any s l c sh A n cap zs _ hm ?_).mono ?_; (first | exact R1 | exact rowNew (w := w1.drew) R1 _); rintro e w2 ⟨g2, hg2, rfl, hrow2, hb2⟩; (first | (have B2 := box_of_alloc (bel_drew' hb2); have F2 := bel_of_alloc (bel_drew' hb2)) | have F2 := bel_drew' hb2); have D2 := D1.later F2 D1.lt; have X2 := X1.later F2 X1.lt; have l2 := X2.lt; have q2 : w2.heap.size ≠ w.heap.size := (by omega); have q2' : w2.heap.size ≠ w.heap.size + 1 := (by omega); have K2 := ten D2 X2))
        | (go_at_call 21; refine (toClaim_any ck ch ct cq cv _).mono ?_; rintro e w3 ⟨rfl, hb3⟩; (first | (have B3 := box_of_alloc hb3; have F3 := bel_of_alloc hb3) | (have B3 := B2.later hb3 B2.lt; have F3 := hb3) | have F3 := hb3); have D3 := D2.later F3 D2.lt; have X3 := X2.later F3 X2.lt; have hrow3 := (hrow2.below F3 (Nat.le_refl _)).more F3.size; have P3 := bel_trans F2 F3; have l3 := X3.lt; have q3 : w3.heap.size ≠ w.heap.size := (by omega); have q3' : w3.heap.size ≠ w.heap.size + 1 := (by omega); have K3 := ten D3 X3)
        | (go_at_call 13; refine (specSeal_is HV.out _ n n _ HX.out ?_).mono ?_; (first | exact hrow3 | exact rowNew hrow3 _); rintro e w4 ⟨rfl, hb4⟩; (first | (have B4 := box_of_alloc hb4; have F4 := bel_of_alloc hb4) | (have B4 := B3.later hb4 B3.lt; have F4 := hb4) | have F4 := hb4); have D4 := D3.later F4 D3.lt; have X4 := X3.later F4 X3.lt; have P4 := bel_trans P3 F4; have K4 := ten D4 X4; (first | (obtain ⟨b0, b1⟩ := B4.two; have fb := B4.frozen) | skip)))
    all_goals go_wp2_with fail
    all_goals go_meet
    all_goals first
      | exact ⟨_, rfl, rfl, P4.size, Box.new w4 _ _, bel_trans P4 (bel_alloc _ _)⟩
      | exact ⟨_, rfl, rfl, P3.size, B4.put2 _ _, bel_put2 P4 P3.size _ _⟩
      | exact ⟨_, rfl, rfl, F2.size, B4.put2 _ _, bel_put2 P4 F2.size _ _⟩
      | exact ⟨_, rfl, rfl, Nat.le_refl _, B4.put2 _ _, bel_put2 P4 (Nat.le_refl _) _ _⟩
  case rest =>
  obtain ⟨g8, rfl, rfl, hg8, S2, hb2⟩ := hcut
  have D2 := D1.later hb2 D1.lt
  have X2 := X1.later hb2 X1.lt
  have E2 := bel_trans E1 hb2
  have hl1 := X1.lt
  clear D1 X1 E1 R1 hb2
  obtain ⟨a0, a1, a2, a3, a4⟩ := D2.five
  go_wp2_with fail
  -- the copy that is handed in
  refine (toGroup_any s l c sh A n cap zs wc hm ((HR.out.below E2 (Nat.le_refl _)).more E2.size)).mono ?_
  rintro e w4 ⟨g4, hg4, rfl, hrow4, hb4⟩
  have D4 := D2.later hb4 D2.lt
  have X4 := X2.later hb4 X2.lt
  have S4 := S2.later hb4 S2.lt
  have E4 := bel_trans E2 hb4
  have hgl := S2.lt
  have hbs := hb4.size
  clear D2 X2 S2 E2 hb4 a0 a1 a2 a3 a4
  have Y := Box.new w4 29 #[.int .i64 s, .int .i64 l, .int .i64 c, .int .i64 sh, .slice (some ⟨g4, 0, none⟩) n n]
  have hb5 := bel_alloc w4 (.cells #[.int .i64 s, .int .i64 l, .int .i64 c, .int .i64 sh, .slice (some ⟨g4, 0, none⟩) n n] 29)
  go_upto_region 7 with fail
  have D5 := D4.later hb5 D4.lt
  have X5 := X4.later hb5 X4.lt
  have S5 := S4.later hb5 S4.lt
  have E5 := bel_trans E4 hb5
  have hrow5 := (hrow4.below hb5 (Nat.le_refl _)).more hb5.size
  have hg4l : w.heap.size + 1 < w4.heap.size := X4.lt
  have hg8l : g8 < w4.heap.size := S4.lt
  generalize (w4.alloc _ : World) = w5 at Y hb5 D5 X5 S5 E5 hrow5 ⊢
  clear D4 X4 S4 E4 hrow4
  -- the program
  go_cut [11, 12] (fun p b wr => ∃ g, p = .pointer (some ⟨g, 0, none⟩) ∧ b = .bool f ∧ w5.heap.size ≤ g ∧ Box wr g 37 #[.int .i64 a, .int .i64 t] ∧ Below w5.heap.size w5 wr)
  case first =>
    have Y5d : Box w5.drew w4.heap.size 29 #[.int .i64 s, .int .i64 l, .int .i64 c, .int .i64 sh, .slice (some ⟨g4, 0, none⟩) n n] := Y
    have X5d : Box w5.drew (w.heap.size + 1) 47 #[.int .i64 ck, .int .i64 ch, .int .i64 ct, .int .i64 cq, .int .i64 cv] := X5
    obtain ⟨a0, a1, a2, a3, a4⟩ := Y.five
    obtain ⟨x0, x1, x2, x3, x4⟩ := X5.five
    have l1 := Y.lt
    have q1 : w5.heap.size ≠ w4.heap.size := by omega
    have q1' : w5.heap.size ≠ w.heap.size + 1 := by omega
    go_region_held3 (fun w' => w'.cell? ⟨w4.heap.size, 0, none⟩ = some (.int .i64 s) ∧ w'.cell? ⟨w4.heap.size, 1, none⟩ = some (.int .i64 l) ∧ w'.cell? ⟨w4.heap.size, 2, none⟩ = some (.int .i64 c) ∧ w'.cell? ⟨w4.heap.size, 3, none⟩ = some (.int .i64 sh) ∧ w'.cell? ⟨w4.heap.size, 4, none⟩ = some (.slice (some ⟨g4, 0, none⟩) n n) ∧
        w'.cell? ⟨w.heap.size + 1, 0, none⟩ = some (.int .i64 ck) ∧ w'.cell? ⟨w.heap.size + 1, 1, none⟩ = some (.int .i64 ch) ∧ w'.cell? ⟨w.heap.size + 1, 2, none⟩ = some (.int .i64 ct) ∧ w'.cell? ⟨w.heap.size + 1, 3, none⟩ = some (.int .i64 cq) ∧ w'.cell? ⟨w.heap.size + 1, 4, none⟩ = some (.int .i64 cv))
      (first | (with_reducible exact K7) | (with_reducible exact K6) | (with_reducible exact ten (Y7.alloc _) (X7.alloc _)) | (with_reducible exact ten (Y6.alloc _) (X6.alloc _)) | (with_reducible exact ten (Y5d.alloc _) (X5d.alloc _)) | (with_reducible exact ten (Y7.far2 q2 _ _) (X7.far2 q2' _ _)) | (with_reducible exact ten (Y7.far2 q1 _ _) (X7.far2 q1' _ _)) | go_keep)
      (first
        | (go_at_call 21; refine (toClaim_any ck ch ct cq cv _).mono ?_; rintro e w6 ⟨rfl, hb6⟩; (first | (have B6 := box_of_alloc (bel_drew' hb6); have F6 := bel_of_alloc (bel_drew' hb6)) | have F6 := bel_drew' hb6); have Y6 := Y.later F6 Y.lt; have X6 := X5.later F6 X5.lt; have hrow6 := (hrow5.below F6 (Nat.le_refl _)).more F6.size; have l2 := Y6.lt; have q2 : w6.heap.size ≠ w4.heap.size := (by omega); have q2' : w6.heap.size ≠ w.heap.size + 1 := (by omega); have K6 := ten Y6 X6)
        | (go_at_call 12; refine (sealOf_is HV.out _ n n _ HX.out ?_).mono ?_; (first | exact hrow6 | exact rowNew hrow6 _); rintro e w7 ⟨rfl, hb7⟩; (first | (have B7 := box_of_alloc hb7; have F7 := bel_of_alloc hb7) | (have B7 := B6.later hb7 B6.lt; have F7 := hb7) | have F7 := hb7); have Y7 := Y6.later F7 Y6.lt; have X7 := X6.later F7 X6.lt; have P7 := bel_trans F6 F7; have K7 := ten Y7 X7; (first | (obtain ⟨b0, b1⟩ := B7.two; have fb := B7.frozen) | skip)))
    all_goals go_wp2_with fail
    all_goals go_meet
    all_goals first
      | exact ⟨_, rfl, rfl, P7.size, Box.new w7 _ _, bel_trans P7 (bel_alloc _ _)⟩
      | exact ⟨_, rfl, rfl, F6.size, B7.put2 _ _, bel_put2 P7 F6.size _ _⟩
      | exact ⟨_, rfl, rfl, Nat.le_refl _, B7.put2 _ _, bel_put2 P7 (Nat.le_refl _) _ _⟩
  case rest =>
  obtain ⟨g11, rfl, rfl, hg11, T6, hb6⟩ := hcut
  have D6 := D5.later hb6 D5.lt
  have S6 := S5.later hb6 S5.lt
  have Y6 := Y.later hb6 Y.lt
  have E6 := bel_trans E5 hb6
  have hrow6 := (hrow5.below hb6 (Nat.le_refl _)).more hb6.size
  clear D5 X5 S5 Y E5 hrow5 hb5 hb6
  rename_i wc
  obtain ⟨s0, s1⟩ := S6.two
  obtain ⟨t0, t1⟩ := T6.two
  go_wp2_with fail
  refine (eqSeal_same a t wc).mono ?_
  rintro e w7 ⟨rfl, hb7⟩
  have D7 := D6.later hb7 D6.lt
  have Y7 := Y6.later hb7 Y6.lt
  have E7 := bel_trans E6 hb7
  have hrow7 := (hrow6.below hb7 (Nat.le_refl _)).more hb7.size
  have R7 := (HR.out.below E7 (Nat.le_refl _)).more E7.size
  clear D6 Y6 E6 hrow6 hb7 S6 T6 s0 s1 t0 t1
  have hff : (f != f) = false := by cases f <;> rfl
  obtain ⟨a0, a1, a2, a3, a4⟩ := D7.five
  obtain ⟨y0, y1, y2, y3, y4⟩ := Y7.five
  have hz1 := D7.lt
  have hz2 := Y7.lt
  have hnew : w.heap.size ≠ w4.heap.size := by omega
  go_wp2_with fail
  go_region_held3 (fun w' => w'.cell? ⟨w.heap.size, 0, none⟩ = some (.int .i64 s) ∧ w'.cell? ⟨w.heap.size, 1, none⟩ = some (.int .i64 l) ∧ w'.cell? ⟨w.heap.size, 2, none⟩ = some (.int .i64 c) ∧ w'.cell? ⟨w.heap.size, 3, none⟩ = some (.int .i64 sh) ∧ w'.cell? ⟨w.heap.size, 4, none⟩ = some (.slice A n cap) ∧
      w'.cell? ⟨w4.heap.size, 0, none⟩ = some (.int .i64 s) ∧ w'.cell? ⟨w4.heap.size, 1, none⟩ = some (.int .i64 l) ∧ w'.cell? ⟨w4.heap.size, 2, none⟩ = some (.int .i64 c) ∧ w'.cell? ⟨w4.heap.size, 3, none⟩ = some (.int .i64 sh) ∧ w'.cell? ⟨w4.heap.size, 4, none⟩ = some (.slice (some ⟨g4, 0, none⟩) n n)) (first | (with_reducible exact K9) | (with_reducible exact K8) | go_keep)
    (first
      | (go_at_call 23; refine (toGroup_any s l c sh A n cap zs _ hm ?_).mono ?_; exact R7; rintro e w8 ⟨g8', hg8', rfl, hrow8, hb8⟩; have F8 := bel_drew' hb8; have hrow78 := (hrow7.below F8 (Nat.le_refl _)).more F8.size; have D8 := D7.later F8 D7.lt; have Y8 := Y7.later F8 Y7.lt; have E8 := bel_trans E7 F8; have K8 := ten D8 Y8)
      | (go_at_call 25; refine (eqGroup_same s l c sh _ _ n n n zs _ hm hrow78 hrow8).mono ?_; rintro e w9 ⟨rfl, hb9⟩; have K9 := ten (D8.later hb9 D8.lt) (Y8.later hb9 Y8.lt)))
  go_wp2
  go_ret
  exact ⟨rfl, bel_trans E8 hb9⟩

theorem exactRight_big (s l c sh : Int) (A : Option Addr) (n cap : Nat) (ck ch ct cq cv x t : Int) (w : World) (hm : 1048576 < n) (hx : n ≤ maxLen) :
    Calls Try.prog 7 #[.agg #[.int .i64 s, .int .i64 l, .int .i64 c, .int .i64 sh, .slice A n cap], .agg #[.int .i64 ck, .int .i64 ch, .int .i64 ct, .int .i64 cq, .int .i64 cv], .agg #[.int .i64 x, .int .i64 t]] w fun e w' => e = .returned (.bool true) ∧ Below w.heap.size w w' := by
  go_enter Try.func7, Try.ntmps7
  go_wp2_with (go_at_call 22; refine (szGroup_gt s l c sh A n cap _ hm hx).mono ?_; rintro e w' ⟨rfl, hb⟩)
  go_ret
  exact ⟨rfl, bel_trans (bel_trans (bel_trans (bel_alloc _ _) (bel_alloc _ _)) (bel_alloc _ _)) hb⟩

set_option maxHeartbeats 2000000 in
theorem exactRight_small (s l c sh : Int) (A : Option Addr) (n cap : Nat) (zs : List Int) (ck ch ct cq cv x t : Int) (w : World) (hm : n ≤ 1048576) (hr : Row w w.heap.size A n zs) :
    Calls Try.prog 7 #[.agg #[.int .i64 s, .int .i64 l, .int .i64 c, .int .i64 sh, .slice A n cap], .agg #[.int .i64 ck, .int .i64 ch, .int .i64 ct, .int .i64 cq, .int .i64 cv], .agg #[.int .i64 x, .int .i64 t]] w fun e w' => e = .returned (.bool true) ∧ Below w.heap.size w w' := by
  have hx : n ≤ maxLen := by unfold maxLen; omega
  have HX := Lib.hid hx
  have HR := Lib.hid hr
  clear hx hr
  have D := ((Box.new w 50 #[.int .i64 s, .int .i64 l, .int .i64 c, .int .i64 sh, .slice A n cap]).alloc (.cells #[.int .i64 ck, .int .i64 ch, .int .i64 ct, .int .i64 cq, .int .i64 cv] 47)).alloc (.cells #[.int .i64 x, .int .i64 t] 56)
  have X := (Box.new (w.alloc (.cells #[.int .i64 s, .int .i64 l, .int .i64 c, .int .i64 sh, .slice A n cap] 50)) 47 #[.int .i64 ck, .int .i64 ch, .int .i64 ct, .int .i64 cq, .int .i64 cv]).alloc (.cells #[.int .i64 x, .int .i64 t] 56)
  have Z := Box.new ((w.alloc (.cells #[.int .i64 s, .int .i64 l, .int .i64 c, .int .i64 sh, .slice A n cap] 50)).alloc (.cells #[.int .i64 ck, .int .i64 ch, .int .i64 ct, .int .i64 cq, .int .i64 cv] 47)) 56 #[.int .i64 x, .int .i64 t]
  have hb0 := bel_trans (bel_trans (bel_alloc w (.cells #[.int .i64 s, .int .i64 l, .int .i64 c, .int .i64 sh, .slice A n cap] 50)) (bel_alloc _ (.cells #[.int .i64 ck, .int .i64 ch, .int .i64 ct, .int .i64 cq, .int .i64 cv] 47))) (bel_alloc _ (.cells #[.int .i64 x, .int .i64 t] 56))
  simp only [World.size_alloc] at X Z
  go_enter Try.func7, Try.ntmps7
  go_wp2_with fail
  generalize (((w.alloc _).alloc _).alloc _ : World) = w0 at D X Z hb0 ⊢
  -- the size
  refine (szGroup_le s l c sh A n cap w0 hm).mono ?_
  rintro e w1 ⟨rfl, hb1⟩
  have D1 := D.later hb1 D.lt
  have X1 := X.later hb1 X.lt
  have Z1 := Z.later hb1 Z.lt
  have E1 := bel_trans hb0 hb1
  have R1 := (HR.out.below E1 (Nat.le_refl _)).more E1.size
  clear D X Z hb0 hb1
  obtain ⟨a0, a1, a2, a3, a4⟩ := D1.five
  obtain ⟨x0, x1, x2, x3, x4⟩ := X1.five
  obtain ⟨z0, z1⟩ := Z1.two
  have hnn : ¬ ((1048576 : Int) - n < 0) := by omega
  go_wp2_with fail
  -- the model, on copies
  go_region_held3 (fun w' => w'.cell? ⟨w.heap.size, 0, none⟩ = some (.int .i64 s) ∧ w'.cell? ⟨w.heap.size, 1, none⟩ = some (.int .i64 l) ∧ w'.cell? ⟨w.heap.size, 2, none⟩ = some (.int .i64 c) ∧ w'.cell? ⟨w.heap.size, 3, none⟩ = some (.int .i64 sh) ∧ w'.cell? ⟨w.heap.size, 4, none⟩ = some (.slice A n cap) ∧
      w'.cell? ⟨w.heap.size + 1, 0, none⟩ = some (.int .i64 ck) ∧ w'.cell? ⟨w.heap.size + 1, 1, none⟩ = some (.int .i64 ch) ∧ w'.cell? ⟨w.heap.size + 1, 2, none⟩ = some (.int .i64 ct) ∧ w'.cell? ⟨w.heap.size + 1, 3, none⟩ = some (.int .i64 cq) ∧ w'.cell? ⟨w.heap.size + 1, 4, none⟩ = some (.int .i64 cv) ∧
      w'.cell? ⟨w.heap.size + 1 + 1, 0, none⟩ = some (.int .i64 x) ∧ w'.cell? ⟨w.heap.size + 1 + 1, 1, none⟩ = some (.int .i64 t))
    (first | (with_reducible exact K5) | (with_reducible exact K4) | (with_reducible exact K3) | (with_reducible exact K2) | go_keep)
    (first
      | (go_at_call 23; refine (toGroup_any s l c sh A n cap zs _ hm ?_).mono ?_; exact R1; rintro e w2 ⟨g2, hg2, rfl, hrow2, hb2⟩; have F2 := bel_drew' hb2; have K2 := twelve (D1.later F2 D1.lt) (X1.later F2 X1.lt) (Z1.later F2 Z1.lt))
      | (go_at_call 21; refine (toClaim_any ck ch ct cq cv _).mono ?_; rintro e w3 ⟨rfl, hb3⟩; have F3 := bel_trans F2 hb3; have hrow3 := (hrow2.below hb3 (Nat.le_refl _)).more hb3.size; have K3 := twelve (D1.later F3 D1.lt) (X1.later F3 X1.lt) (Z1.later F3 Z1.lt))
      | (go_at_call 26; refine (toSeal_any x t _).mono ?_; rintro e w4 ⟨rfl, hb4⟩; have F4 := bel_trans F3 hb4; have hrow4 := (hrow3.below hb4 (Nat.le_refl _)).more hb4.size; have K4 := twelve (D1.later F4 D1.lt) (X1.later F4 X1.lt) (Z1.later F4 Z1.lt))
      | (go_at_call 19; refine (specRight_any s l c sh _ n n zs ck ch ct cq cv x t _ HX.out hrow4).mono ?_; rintro e w5 ⟨rfl, hb5⟩; have F5 := bel_trans F4 hb5; have K5 := twelve (D1.later F5 D1.lt) (X1.later F5 X1.lt) (Z1.later F5 Z1.lt)))
  have D2 := D1.later F5 D1.lt
  have X2 := X1.later F5 X1.lt
  have Z2 := Z1.later F5 Z1.lt
  have E2 := bel_trans E1 F5
  clear D1 X1 Z1 E1 R1 F2 F3 F4 F5 K2 K3 K4 K5 hb2 hb3 hb4 hb5 hrow2 hrow3 hrow4 a0 a1 a2 a3 a4 x0 x1 x2 x3 x4 z0 z1
  obtain ⟨a0, a1, a2, a3, a4⟩ := D2.five
  go_wp2_with fail
  -- the copy that is handed in
  refine (toGroup_any s l c sh A n cap zs w5 hm ((HR.out.below E2 (Nat.le_refl _)).more E2.size)).mono ?_
  rintro e w4 ⟨g4, hg4, rfl, hrow4, hb4⟩
  have D4 := D2.later hb4 D2.lt
  have X4 := X2.later hb4 X2.lt
  have Z4 := Z2.later hb4 Z2.lt
  have E4 := bel_trans E2 hb4
  clear D2 X2 Z2 E2 hb4 a0 a1 a2 a3 a4
  have Y := Box.new w4 29 #[.int .i64 s, .int .i64 l, .int .i64 c, .int .i64 sh, .slice (some ⟨g4, 0, none⟩) n n]
  have hb5 := bel_alloc w4 (.cells #[.int .i64 s, .int .i64 l, .int .i64 c, .int .i64 sh, .slice (some ⟨g4, 0, none⟩) n n] 29)
  go_wp2_with fail
  have D5 := D4.later hb5 D4.lt
  have X5 := X4.later hb5 X4.lt
  have Z5 := Z4.later hb5 Z4.lt
  have E5 := bel_trans E4 hb5
  have hrow5 := (hrow4.below hb5 (Nat.le_refl _)).more hb5.size
  have hg4l : w.heap.size + 1 + 1 < w4.heap.size := Z4.lt
  generalize (w4.alloc _ : World) = w5' at Y hb5 D5 X5 Z5 E5 hrow5 ⊢
  clear D4 X4 Z4 E4 hrow4
  obtain ⟨a0, a1, a2, a3, a4⟩ := Y.five
  obtain ⟨x0, x1, x2, x3, x4⟩ := X5.five
  obtain ⟨z0, z1⟩ := Z5.two
  -- the program
  go_region_held3 (fun w' => w'.cell? ⟨w4.heap.size, 0, none⟩ = some (.int .i64 s) ∧ w'.cell? ⟨w4.heap.size, 1, none⟩ = some (.int .i64 l) ∧ w'.cell? ⟨w4.heap.size, 2, none⟩ = some (.int .i64 c) ∧ w'.cell? ⟨w4.heap.size, 3, none⟩ = some (.int .i64 sh) ∧ w'.cell? ⟨w4.heap.size, 4, none⟩ = some (.slice (some ⟨g4, 0, none⟩) n n) ∧
      w'.cell? ⟨w.heap.size + 1, 0, none⟩ = some (.int .i64 ck) ∧ w'.cell? ⟨w.heap.size + 1, 1, none⟩ = some (.int .i64 ch) ∧ w'.cell? ⟨w.heap.size + 1, 2, none⟩ = some (.int .i64 ct) ∧ w'.cell? ⟨w.heap.size + 1, 3, none⟩ = some (.int .i64 cq) ∧ w'.cell? ⟨w.heap.size + 1, 4, none⟩ = some (.int .i64 cv) ∧
      w'.cell? ⟨w.heap.size + 1 + 1, 0, none⟩ = some (.int .i64 x) ∧ w'.cell? ⟨w.heap.size + 1 + 1, 1, none⟩ = some (.int .i64 t))
    (first | (with_reducible exact K5) | (with_reducible exact K4) | (with_reducible exact K3) | go_keep)
    (first
      | (go_at_call 21; refine (toClaim_any ck ch ct cq cv _).mono ?_; rintro e w3 ⟨rfl, hb3⟩; have F3 := bel_drew' hb3; have K3 := twelve (Y.later F3 Y.lt) (X5.later F3 X5.lt) (Z5.later F3 Z5.lt))
      | (go_at_call 26; refine (toSeal_any x t _).mono ?_; rintro e w6 ⟨rfl, hb6⟩; have F4 := bel_trans F3 hb6; have hrow6 := (hrow5.below F4 (Nat.le_refl _)).more F4.size; have K4 := twelve (Y.later F4 Y.lt) (X5.later F4 X5.lt) (Z5.later F4 Z5.lt))
      | (go_at_call 14; refine (sealRight_any s l c sh _ n n zs ck ch ct cq cv x t _ HX.out hrow6).mono ?_; rintro e wc ⟨rfl, hb7⟩; have F5 := bel_trans F4 hb7; have K5 := twelve (Y.later F5 Y.lt) (X5.later F5 X5.lt) (Z5.later F5 Z5.lt)))
  have D7 := D5.later F5 D5.lt
  have Y7 := Y.later F5 Y.lt
  have E7 := bel_trans E5 F5
  have hrow7 := (hrow5.below F5 (Nat.le_refl _)).more F5.size
  have R7 := (HR.out.below E7 (Nat.le_refl _)).more E7.size
  clear D5 X5 Z5 Y E5 hrow5 F3 F4 F5 K3 K4 K5 hb3 hb6 hb7 hrow6 a0 a1 a2 a3 a4 x0 x1 x2 x3 x4 z0 z1
  have hff : ((riB s l c sh zs ck ch ct cq cv x t) != (riB s l c sh zs ck ch ct cq cv x t)) = false := by simp
  obtain ⟨a0, a1, a2, a3, a4⟩ := D7.five
  obtain ⟨y0, y1, y2, y3, y4⟩ := Y7.five
  have hz1 := D7.lt
  have hz2 := Y7.lt
  have hnew : w.heap.size ≠ w4.heap.size := by omega
  go_wp2_with fail
  go_region_held3 (fun w' => w'.cell? ⟨w.heap.size, 0, none⟩ = some (.int .i64 s) ∧ w'.cell? ⟨w.heap.size, 1, none⟩ = some (.int .i64 l) ∧ w'.cell? ⟨w.heap.size, 2, none⟩ = some (.int .i64 c) ∧ w'.cell? ⟨w.heap.size, 3, none⟩ = some (.int .i64 sh) ∧ w'.cell? ⟨w.heap.size, 4, none⟩ = some (.slice A n cap) ∧
      w'.cell? ⟨w4.heap.size, 0, none⟩ = some (.int .i64 s) ∧ w'.cell? ⟨w4.heap.size, 1, none⟩ = some (.int .i64 l) ∧ w'.cell? ⟨w4.heap.size, 2, none⟩ = some (.int .i64 c) ∧ w'.cell? ⟨w4.heap.size, 3, none⟩ = some (.int .i64 sh) ∧ w'.cell? ⟨w4.heap.size, 4, none⟩ = some (.slice (some ⟨g4, 0, none⟩) n n)) (first | (with_reducible exact K9) | (with_reducible exact K8) | go_keep)
    (first
      | (go_at_call 23; refine (toGroup_any s l c sh A n cap zs _ hm ?_).mono ?_; exact R7; rintro e w8 ⟨g8', hg8', rfl, hrow8, hb8⟩; have F8 := bel_drew' hb8; have hrow78 := (hrow7.below F8 (Nat.le_refl _)).more F8.size; have D8 := D7.later F8 D7.lt; have Y8 := Y7.later F8 Y7.lt; have E8 := bel_trans E7 F8; have K8 := ten D8 Y8)
      | (go_at_call 25; refine (eqGroup_same s l c sh _ _ n n n zs _ hm hrow78 hrow8).mono ?_; rintro e w9 ⟨rfl, hb9⟩; have K9 := ten (D8.later hb9 D8.lt) (Y8.later hb9 Y8.lt)))
  go_wp2
  go_ret
  exact ⟨rfl, bel_trans E8 hb9⟩

end Go.Proofs.Ytcejiellbefojaa
