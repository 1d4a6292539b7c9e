/- The four exact laws of chapter 1 answer true, whatever group and node they are given: walks of each of them. -/
import Derived.Test.YtecjoopmipfilaaCopies
import Derived.Test.YtecjoopmipfilaaGroupMore
namespace Go.Proofs.Ytecjoopmipfilaa
open Go.RowKit

theorem law4_big (s l c sh : Int) (A : Option Addr) (n cap : Nat) (w : World) (hm : 1048576 < n) (hx : n ≤ maxLen) :
    Calls Try.prog 4 #[.agg #[.int .i64 s, .int .i64 l, .int .i64 c, .int .i64 sh, .slice A n cap]] w fun e w' => e = .returned (.bool true) ∧ Below w.heap.size w w' := by
  go_enter Try.func4, Try.ntmps4
  go_wp2_with (go_at_call 18; refine (szGroup_gt s l c sh A n cap _ hm hx).mono ?_; rintro e w' ⟨rfl, hb⟩)
  go_ret
  exact ⟨rfl, bel_trans (bel_alloc _ _) hb⟩

set_option maxHeartbeats 1000000 in
theorem law4_small (s l c sh : Int) (A : Option Addr) (n cap : Nat) (zs : List Int) (w : World) (hm : n ≤ 1048576) (hr : Row w w.heap.size A n zs) :
    Calls Try.prog 4 #[.agg #[.int .i64 s, .int .i64 l, .int .i64 c, .int .i64 sh, .slice A n cap]] w fun e w' => e = .returned (.bool true) ∧ Below w.heap.size w w' := by
  have hx : n ≤ maxLen := by unfold maxLen; omega
  have HX := Lib.hid hx
  have HR := Lib.hid hr
  clear hx hr
  go_enter Try.func4, Try.ntmps4
  have D := Box.new w 35 #[.int .i64 s, .int .i64 l, .int .i64 c, .int .i64 sh, .slice A n cap]
  have hb0 := bel_alloc w (.cells #[.int .i64 s, .int .i64 l, .int .i64 c, .int .i64 sh, .slice A n cap] 35)
  go_wp2_with fail
  generalize (w.alloc _ : World) = w0 at D hb0 ⊢
  -- the size
  refine (szGroup_le s l c sh A n cap w0 hm).mono ?_
  rintro e w1 ⟨rfl, hb1⟩
  have D1 := D.later hb1 D.lt
  have E1 := bel_trans hb0 hb1
  clear D hb0 hb1
  obtain ⟨a0, a1, a2, a3, a4⟩ := D1.five
  have hnn : ¬ ((1048576 : Int) - n < 0) := by omega
  go_wp2_with fail
  -- the first copy, for the model
  refine (toGroup_any s l c sh A n cap zs w1 hm ((HR.out.below E1 (Nat.le_refl _)).more E1.size)).mono ?_
  rintro e w2 ⟨g2, hg2, rfl, hrow2, hb2⟩
  have D2 := D1.later hb2 D1.lt
  have E2 := bel_trans E1 hb2
  clear D1 E1 hb2 a0 a1 a2 a3 a4
  obtain ⟨a0, a1, a2, a3, a4⟩ := D2.five
  go_wp2_with fail
  -- the model
  refine (specGroup_any s l c sh _ n n zs w2 HX.out hrow2).mono ?_
  rintro e w3 ⟨rfl, hb3⟩
  have D3 := D2.later hb3 D2.lt
  have E3 := bel_trans E2 hb3
  clear D2 E2 hb3 a0 a1 a2 a3 a4 hrow2
  obtain ⟨a0, a1, a2, a3, a4⟩ := D3.five
  go_wp2_with fail
  -- the second copy, which is handed in
  refine (toGroup_any s l c sh A n cap zs w3 hm ((HR.out.below E3 (Nat.le_refl _)).more E3.size)).mono ?_
  rintro e w4 ⟨g4, hg4, rfl, hrow4, hb4⟩
  have D4 := D3.later hb4 D3.lt
  have E4 := bel_trans E3 hb4
  clear D3 E3 hb4 a0 a1 a2 a3 a4
  obtain ⟨a0, a1, a2, a3, a4⟩ := D4.five
  go_wp2_with fail
  have X := Box.new w4 26 #[.int .i64 s, .int .i64 l, .int .i64 c, .int .i64 sh, .slice (some ⟨g4, 0, none⟩) n n]
  have hb5 := bel_alloc w4 (.cells #[.int .i64 s, .int .i64 l, .int .i64 c, .int .i64 sh, .slice (some ⟨g4, 0, none⟩) n n] 26)
  generalize (w4.alloc _ : World) = w5 at X hb5 ⊢
  have D5 := D4.later hb5 D4.lt
  have E5 := bel_trans E4 hb5
  have hrow5 := (hrow4.below hb5 (Nat.le_refl _)).more hb5.size
  have hnew : w.heap.size ≠ w4.heap.size := by have := D4.lt; omega
  clear D4 E4 hb5 hrow4 a0 a1 a2 a3 a4
  -- the program
  refine (groupOk_any s l c sh _ n n zs w5 HX.out hrow5).mono ?_
  rintro e w6 ⟨rfl, hb6⟩
  have D6 := D5.later hb6 D5.lt
  have X6 := X.later hb6 X.lt
  have E6 := bel_trans E5 hb6
  have hrow6 := (hrow5.below hb6 (Nat.le_refl _)).more hb6.size
  have hr6 := (HR.out.below E6 (Nat.le_refl _)).more E6.size
  have hz1 := D6.lt
  have hz2 := X6.lt
  clear D5 X E5 hb6 hrow5
  obtain ⟨a0, a1, a2, a3, a4⟩ := D6.five
  obtain ⟨x0, x1, x2, x3, x4⟩ := X6.five
  go_wp2_with fail
  go_region_held3 (fun w' => w'.cell? ⟨w.heap.size, 0, none⟩ = some (.int .i64 s) ∧ w'.cell? ⟨w.heap.size, 1, none⟩ = some (.int .i64 l) ∧ w'.cell? ⟨w.heap.size, 2, none⟩ = some (.int .i64 c) ∧ w'.cell? ⟨w.heap.size, 3, none⟩ = some (.int .i64 sh) ∧ w'.cell? ⟨w.heap.size, 4, none⟩ = some (.slice A n cap) ∧
      w'.cell? ⟨w4.heap.size, 0, none⟩ = some (.int .i64 s) ∧ w'.cell? ⟨w4.heap.size, 1, none⟩ = some (.int .i64 l) ∧ w'.cell? ⟨w4.heap.size, 2, none⟩ = some (.int .i64 c) ∧ w'.cell? ⟨w4.heap.size, 3, none⟩ = some (.int .i64 sh) ∧ w'.cell? ⟨w4.heap.size, 4, none⟩ = some (.slice (some ⟨g4, 0, none⟩) n n)) (first | exact K8 | exact K7 | go_keep)
    (first
      | (go_at_call 19; refine (toGroup_any s l c sh A n cap zs _ hm ?_).mono ?_; exact hr6; rintro e w7 ⟨g7, hg7, rfl, hrow7, hb7⟩; have hrow47 := (hrow6.below (bel_drew' hb7) (Nat.le_refl _)).more (bel_drew' hb7).size; have D7 := D6.later (bel_drew' hb7) D6.lt; have X7 := X6.later (bel_drew' hb7) X6.lt; have E7 := bel_trans E6 (bel_drew' hb7); have K7 := ten D7 X7)
      | (go_at_call 20; refine (eqGroup_same s l c sh _ _ n n n zs _ hm hrow47 hrow7).mono ?_; rintro e w8 ⟨rfl, hb8⟩; have K8 := ten (D7.later hb8 D7.lt) (X7.later hb8 X7.lt)))
  go_wp2
  go_ret
  exact ⟨rfl, bel_trans E7 hb8⟩

theorem law5_big (s l c sh : Int) (A : Option Addr) (n cap : Nat) (w : World) (hm : 1048576 < n) (hx : n ≤ maxLen) :
    Calls Try.prog 5 #[.agg #[.int .i64 s, .int .i64 l, .int .i64 c, .int .i64 sh, .slice A n cap]] w fun e w' => e = .returned (.bool true) ∧ Below w.heap.size w w' := by
  go_enter Try.func5, Try.ntmps5
  go_wp2_with (go_at_call 18; refine (szGroup_gt s l c sh A n cap _ hm hx).mono ?_; rintro e w' ⟨rfl, hb⟩)
  go_ret
  exact ⟨rfl, bel_trans (bel_alloc _ _) hb⟩

set_option maxHeartbeats 1000000 in
theorem law5_small (s l c sh : Int) (A : Option Addr) (n cap : Nat) (zs : List Int) (w : World) (hm : n ≤ 1048576) (hr : Row w w.heap.size A n zs) :
    Calls Try.prog 5 #[.agg #[.int .i64 s, .int .i64 l, .int .i64 c, .int .i64 sh, .slice A n cap]] w fun e w' => e = .returned (.bool true) ∧ Below w.heap.size w w' := by
  have hx : n ≤ maxLen := by unfold maxLen; omega
  have HX := Lib.hid hx
  have HR := Lib.hid hr
  clear hx hr
  go_enter Try.func5, Try.ntmps5
  have D := Box.new w 35 #[.int .i64 s, .int .i64 l, .int .i64 c, .int .i64 sh, .slice A n cap]
  have hb0 := bel_alloc w (.cells #[.int .i64 s, .int .i64 l, .int .i64 c, .int .i64 sh, .slice A n cap] 35)
  go_wp2_with fail
  generalize (w.alloc _ : World) = w0 at D hb0 ⊢
  -- the size
  refine (szGroup_le s l c sh A n cap w0 hm).mono ?_
  rintro e w1 ⟨rfl, hb1⟩
  have D1 := D.later hb1 D.lt
  have E1 := bel_trans hb0 hb1
  clear D hb0 hb1
  obtain ⟨a0, a1, a2, a3, a4⟩ := D1.five
  have hnn : ¬ ((1048576 : Int) - n < 0) := by omega
  go_wp2_with fail
  -- the first copy, for the model
  refine (toGroup_any s l c sh A n cap zs w1 hm ((HR.out.below E1 (Nat.le_refl _)).more E1.size)).mono ?_
  rintro e w2 ⟨g2, hg2, rfl, hrow2, hb2⟩
  have D2 := D1.later hb2 D1.lt
  have E2 := bel_trans E1 hb2
  clear D1 E1 hb2 a0 a1 a2 a3 a4
  obtain ⟨a0, a1, a2, a3, a4⟩ := D2.five
  go_wp2_with fail
  -- the model
  refine (specQuorum_any s l c sh _ n n zs w2 HX.out hrow2).mono ?_
  rintro e w3 ⟨rfl, hb3⟩
  have D3 := D2.later hb3 D2.lt
  have E3 := bel_trans E2 hb3
  clear D2 E2 hb3 a0 a1 a2 a3 a4 hrow2
  obtain ⟨a0, a1, a2, a3, a4⟩ := D3.five
  go_wp2_with fail
  -- the second copy, which is handed in
  refine (toGroup_any s l c sh A n cap zs w3 hm ((HR.out.below E3 (Nat.le_refl _)).more E3.size)).mono ?_
  rintro e w4 ⟨g4, hg4, rfl, hrow4, hb4⟩
  have D4 := D3.later hb4 D3.lt
  have E4 := bel_trans E3 hb4
  clear D3 E3 hb4 a0 a1 a2 a3 a4
  obtain ⟨a0, a1, a2, a3, a4⟩ := D4.five
  go_wp2_with fail
  have X := Box.new w4 26 #[.int .i64 s, .int .i64 l, .int .i64 c, .int .i64 sh, .slice (some ⟨g4, 0, none⟩) n n]
  have hb5 := bel_alloc w4 (.cells #[.int .i64 s, .int .i64 l, .int .i64 c, .int .i64 sh, .slice (some ⟨g4, 0, none⟩) n n] 26)
  generalize (w4.alloc _ : World) = w5 at X hb5 ⊢
  have D5 := D4.later hb5 D4.lt
  have E5 := bel_trans E4 hb5
  have hrow5 := (hrow4.below hb5 (Nat.le_refl _)).more hb5.size
  have hnew : w.heap.size ≠ w4.heap.size := by have := D4.lt; omega
  clear D4 E4 hb5 hrow4 a0 a1 a2 a3 a4
  -- the program
  refine (quorum_any s l c sh _ n n zs w5 HX.out hrow5).mono ?_
  rintro e w6 ⟨rfl, hb6⟩
  have D6 := D5.later hb6 D5.lt
  have X6 := X.later hb6 X.lt
  have E6 := bel_trans E5 hb6
  have hrow6 := (hrow5.below hb6 (Nat.le_refl _)).more hb6.size
  have hr6 := (HR.out.below E6 (Nat.le_refl _)).more E6.size
  have hz1 := D6.lt
  have hz2 := X6.lt
  clear D5 X E5 hb6 hrow5
  obtain ⟨a0, a1, a2, a3, a4⟩ := D6.five
  obtain ⟨x0, x1, x2, x3, x4⟩ := X6.five
  go_wp2_with fail
  go_region_held3 (fun w' => w'.cell? ⟨w.heap.size, 0, none⟩ = some (.int .i64 s) ∧ w'.cell? ⟨w.heap.size, 1, none⟩ = some (.int .i64 l) ∧ w'.cell? ⟨w.heap.size, 2, none⟩ = some (.int .i64 c) ∧ w'.cell? ⟨w.heap.size, 3, none⟩ = some (.int .i64 sh) ∧ w'.cell? ⟨w.heap.size, 4, none⟩ = some (.slice A n cap) ∧
      w'.cell? ⟨w4.heap.size, 0, none⟩ = some (.int .i64 s) ∧ w'.cell? ⟨w4.heap.size, 1, none⟩ = some (.int .i64 l) ∧ w'.cell? ⟨w4.heap.size, 2, none⟩ = some (.int .i64 c) ∧ w'.cell? ⟨w4.heap.size, 3, none⟩ = some (.int .i64 sh) ∧ w'.cell? ⟨w4.heap.size, 4, none⟩ = some (.slice (some ⟨g4, 0, none⟩) n n)) (first | exact K8 | exact K7 | go_keep)
    (first
      | (go_at_call 19; refine (toGroup_any s l c sh A n cap zs _ hm ?_).mono ?_; exact hr6; rintro e w7 ⟨g7, hg7, rfl, hrow7, hb7⟩; have hrow47 := (hrow6.below (bel_drew' hb7) (Nat.le_refl _)).more (bel_drew' hb7).size; have D7 := D6.later (bel_drew' hb7) D6.lt; have X7 := X6.later (bel_drew' hb7) X6.lt; have E7 := bel_trans E6 (bel_drew' hb7); have K7 := ten D7 X7)
      | (go_at_call 20; refine (eqGroup_same s l c sh _ _ n n n zs _ hm hrow47 hrow7).mono ?_; rintro e w8 ⟨rfl, hb8⟩; have K8 := ten (D7.later hb8 D7.lt) (X7.later hb8 X7.lt)))
  go_wp2
  go_ret
  exact ⟨rfl, bel_trans E7 hb8⟩

theorem law6_big (s l c sh : Int) (A : Option Addr) (n cap : Nat) (x : Int) (w : World) (hm : 1048576 < n) (hx : n ≤ maxLen) :
    Calls Try.prog 6 #[.agg #[.int .i64 s, .int .i64 l, .int .i64 c, .int .i64 sh, .slice A n cap], .int .i64 x] w fun e w' => e = .returned (.bool true) ∧ Below w.heap.size w w' := by
  go_enter Try.func6, Try.ntmps6
  go_wp2_with (go_at_call 18; refine (szGroup_gt s l c sh A n cap _ hm hx).mono ?_; rintro e w' ⟨rfl, hb⟩)
  go_ret
  exact ⟨rfl, bel_trans (bel_alloc _ _) hb⟩

set_option maxHeartbeats 1000000 in
theorem law6_small (s l c sh : Int) (A : Option Addr) (n cap : Nat) (zs : List Int) (x : Int) (w : World) (hm : n ≤ 1048576) (hr : Row w w.heap.size A n zs) :
    Calls Try.prog 6 #[.agg #[.int .i64 s, .int .i64 l, .int .i64 c, .int .i64 sh, .slice A n cap], .int .i64 x] w fun e w' => e = .returned (.bool true) ∧ Below w.heap.size w w' := by
  have hx : n ≤ maxLen := by unfold maxLen; omega
  have HX := Lib.hid hx
  have HR := Lib.hid hr
  clear hx hr
  go_enter Try.func6, Try.ntmps6
  have D := Box.new w 35 #[.int .i64 s, .int .i64 l, .int .i64 c, .int .i64 sh, .slice A n cap]
  have hb0 := bel_alloc w (.cells #[.int .i64 s, .int .i64 l, .int .i64 c, .int .i64 sh, .slice A n cap] 35)
  go_wp2_with fail
  generalize (w.alloc _ : World) = w0 at D hb0 ⊢
  -- the size
  refine (szGroup_le s l c sh A n cap w0 hm).mono ?_
  rintro e w1 ⟨rfl, hb1⟩
  have D1 := D.later hb1 D.lt
  have E1 := bel_trans hb0 hb1
  clear D hb0 hb1
  obtain ⟨a0, a1, a2, a3, a4⟩ := D1.five
  have hnn : ¬ ((1048576 : Int) - n < 0) := by omega
  go_wp2_with fail
  -- the first copy, for the model
  refine (toGroup_any s l c sh A n cap zs w1 hm ((HR.out.below E1 (Nat.le_refl _)).more E1.size)).mono ?_
  rintro e w2 ⟨g2, hg2, rfl, hrow2, hb2⟩
  have D2 := D1.later hb2 D1.lt
  have E2 := bel_trans E1 hb2
  clear D1 E1 hb2 a0 a1 a2 a3 a4
  obtain ⟨a0, a1, a2, a3, a4⟩ := D2.five
  go_wp2_with fail
  -- the model
  refine (specServer_any s l c sh _ n n zs x w2 HX.out hrow2).mono ?_
  rintro e w3 ⟨rfl, hb3⟩
  have D3 := D2.later hb3 D2.lt
  have E3 := bel_trans E2 hb3
  clear D2 E2 hb3 a0 a1 a2 a3 a4 hrow2
  obtain ⟨a0, a1, a2, a3, a4⟩ := D3.five
  go_wp2_with fail
  -- the second copy, which is handed in
  refine (toGroup_any s l c sh A n cap zs w3 hm ((HR.out.below E3 (Nat.le_refl _)).more E3.size)).mono ?_
  rintro e w4 ⟨g4, hg4, rfl, hrow4, hb4⟩
  have D4 := D3.later hb4 D3.lt
  have E4 := bel_trans E3 hb4
  clear D3 E3 hb4 a0 a1 a2 a3 a4
  obtain ⟨a0, a1, a2, a3, a4⟩ := D4.five
  go_wp2_with fail
  have X := Box.new w4 26 #[.int .i64 s, .int .i64 l, .int .i64 c, .int .i64 sh, .slice (some ⟨g4, 0, none⟩) n n]
  have hb5 := bel_alloc w4 (.cells #[.int .i64 s, .int .i64 l, .int .i64 c, .int .i64 sh, .slice (some ⟨g4, 0, none⟩) n n] 26)
  generalize (w4.alloc _ : World) = w5 at X hb5 ⊢
  have D5 := D4.later hb5 D4.lt
  have E5 := bel_trans E4 hb5
  have hrow5 := (hrow4.below hb5 (Nat.le_refl _)).more hb5.size
  have hnew : w.heap.size ≠ w4.heap.size := by have := D4.lt; omega
  clear D4 E4 hb5 hrow4 a0 a1 a2 a3 a4
  -- the program
  refine (server_any s l c sh _ n n zs x w5 HX.out hrow5).mono ?_
  rintro e w6 ⟨rfl, hb6⟩
  have D6 := D5.later hb6 D5.lt
  have X6 := X.later hb6 X.lt
  have E6 := bel_trans E5 hb6
  have hrow6 := (hrow5.below hb6 (Nat.le_refl _)).more hb6.size
  have hr6 := (HR.out.below E6 (Nat.le_refl _)).more E6.size
  have hz1 := D6.lt
  have hz2 := X6.lt
  clear D5 X E5 hb6 hrow5
  obtain ⟨a0, a1, a2, a3, a4⟩ := D6.five
  obtain ⟨y0, y1, y2, y3, y4⟩ := X6.five
  go_wp2_with fail
  go_region_held3 (fun w' => w'.cell? ⟨w.heap.size, 0, none⟩ = some (.int .i64 s) ∧ w'.cell? ⟨w.heap.size, 1, none⟩ = some (.int .i64 l) ∧ w'.cell? ⟨w.heap.size, 2, none⟩ = some (.int .i64 c) ∧ w'.cell? ⟨w.heap.size, 3, none⟩ = some (.int .i64 sh) ∧ w'.cell? ⟨w.heap.size, 4, none⟩ = some (.slice A n cap) ∧
      w'.cell? ⟨w4.heap.size, 0, none⟩ = some (.int .i64 s) ∧ w'.cell? ⟨w4.heap.size, 1, none⟩ = some (.int .i64 l) ∧ w'.cell? ⟨w4.heap.size, 2, none⟩ = some (.int .i64 c) ∧ w'.cell? ⟨w4.heap.size, 3, none⟩ = some (.int .i64 sh) ∧ w'.cell? ⟨w4.heap.size, 4, none⟩ = some (.slice (some ⟨g4, 0, none⟩) n n)) (first | exact K8 | exact K7 | go_keep)
    (first
      | (go_at_call 19; refine (toGroup_any s l c sh A n cap zs _ hm ?_).mono ?_; exact hr6; rintro e w7 ⟨g7, hg7, rfl, hrow7, hb7⟩; have hrow47 := (hrow6.below (bel_drew' hb7) (Nat.le_refl _)).more (bel_drew' hb7).size; have D7 := D6.later (bel_drew' hb7) D6.lt; have X7 := X6.later (bel_drew' hb7) X6.lt; have E7 := bel_trans E6 (bel_drew' hb7); have K7 := ten D7 X7)
      | (go_at_call 20; refine (eqGroup_same s l c sh _ _ n n n zs _ hm hrow47 hrow7).mono ?_; rintro e w8 ⟨rfl, hb8⟩; have K8 := ten (D7.later hb8 D7.lt) (X7.later hb8 X7.lt)))
  go_wp2
  go_ret
  exact ⟨rfl, bel_trans E7 hb8⟩

theorem law7_big (s l c sh : Int) (A : Option Addr) (n cap : Nat) (x : Int) (w : World) (hm : 1048576 < n) (hx : n ≤ maxLen) :
    Calls Try.prog 7 #[.agg #[.int .i64 s, .int .i64 l, .int .i64 c, .int .i64 sh, .slice A n cap], .int .i64 x] w fun e w' => e = .returned (.bool true) ∧ Below w.heap.size w w' := by
  go_enter Try.func7, Try.ntmps7
  go_wp2_with (go_at_call 18; refine (szGroup_gt s l c sh A n cap _ hm hx).mono ?_; rintro e w' ⟨rfl, hb⟩)
  go_ret
  exact ⟨rfl, bel_trans (bel_alloc _ _) hb⟩

set_option maxHeartbeats 1000000 in
theorem law7_small (s l c sh : Int) (A : Option Addr) (n cap : Nat) (zs : List Int) (x : Int) (w : World) (hm : n ≤ 1048576) (hr : Row w w.heap.size A n zs) :
    Calls Try.prog 7 #[.agg #[.int .i64 s, .int .i64 l, .int .i64 c, .int .i64 sh, .slice A n cap], .int .i64 x] w fun e w' => e = .returned (.bool true) ∧ Below w.heap.size w w' := by
  have hx : n ≤ maxLen := by unfold maxLen; omega
  have HX := Lib.hid hx
  have HR := Lib.hid hr
  clear hx hr
  go_enter Try.func7, Try.ntmps7
  have D := Box.new w 35 #[.int .i64 s, .int .i64 l, .int .i64 c, .int .i64 sh, .slice A n cap]
  have hb0 := bel_alloc w (.cells #[.int .i64 s, .int .i64 l, .int .i64 c, .int .i64 sh, .slice A n cap] 35)
  go_wp2_with fail
  generalize (w.alloc _ : World) = w0 at D hb0 ⊢
  -- the size
  refine (szGroup_le s l c sh A n cap w0 hm).mono ?_
  rintro e w1 ⟨rfl, hb1⟩
  have D1 := D.later hb1 D.lt
  have E1 := bel_trans hb0 hb1
  clear D hb0 hb1
  obtain ⟨a0, a1, a2, a3, a4⟩ := D1.five
  have hnn : ¬ ((1048576 : Int) - n < 0) := by omega
  go_wp2_with fail
  -- the first copy, for the model
  refine (toGroup_any s l c sh A n cap zs w1 hm ((HR.out.below E1 (Nat.le_refl _)).more E1.size)).mono ?_
  rintro e w2 ⟨g2, hg2, rfl, hrow2, hb2⟩
  have D2 := D1.later hb2 D1.lt
  have E2 := bel_trans E1 hb2
  clear D1 E1 hb2 a0 a1 a2 a3 a4
  obtain ⟨a0, a1, a2, a3, a4⟩ := D2.five
  go_wp2_with fail
  -- the model
  refine (specClient_any s l c sh _ n n zs x w2 HX.out hrow2).mono ?_
  rintro e w3 ⟨rfl, hb3⟩
  have D3 := D2.later hb3 D2.lt
  have E3 := bel_trans E2 hb3
  clear D2 E2 hb3 a0 a1 a2 a3 a4 hrow2
  obtain ⟨a0, a1, a2, a3, a4⟩ := D3.five
  go_wp2_with fail
  -- the second copy, which is handed in
  refine (toGroup_any s l c sh A n cap zs w3 hm ((HR.out.below E3 (Nat.le_refl _)).more E3.size)).mono ?_
  rintro e w4 ⟨g4, hg4, rfl, hrow4, hb4⟩
  have D4 := D3.later hb4 D3.lt
  have E4 := bel_trans E3 hb4
  clear D3 E3 hb4 a0 a1 a2 a3 a4
  obtain ⟨a0, a1, a2, a3, a4⟩ := D4.five
  go_wp2_with fail
  have X := Box.new w4 26 #[.int .i64 s, .int .i64 l, .int .i64 c, .int .i64 sh, .slice (some ⟨g4, 0, none⟩) n n]
  have hb5 := bel_alloc w4 (.cells #[.int .i64 s, .int .i64 l, .int .i64 c, .int .i64 sh, .slice (some ⟨g4, 0, none⟩) n n] 26)
  generalize (w4.alloc _ : World) = w5 at X hb5 ⊢
  have D5 := D4.later hb5 D4.lt
  have E5 := bel_trans E4 hb5
  have hrow5 := (hrow4.below hb5 (Nat.le_refl _)).more hb5.size
  have hnew : w.heap.size ≠ w4.heap.size := by have := D4.lt; omega
  clear D4 E4 hb5 hrow4 a0 a1 a2 a3 a4
  -- the program
  refine (client_any s l c sh _ n n zs x w5 HX.out hrow5).mono ?_
  rintro e w6 ⟨rfl, hb6⟩
  have D6 := D5.later hb6 D5.lt
  have X6 := X.later hb6 X.lt
  have E6 := bel_trans E5 hb6
  have hrow6 := (hrow5.below hb6 (Nat.le_refl _)).more hb6.size
  have hr6 := (HR.out.below E6 (Nat.le_refl _)).more E6.size
  have hz1 := D6.lt
  have hz2 := X6.lt
  clear D5 X E5 hb6 hrow5
  obtain ⟨a0, a1, a2, a3, a4⟩ := D6.five
  obtain ⟨y0, y1, y2, y3, y4⟩ := X6.five
  go_wp2_with fail
  go_region_held3 (fun w' => w'.cell? ⟨w.heap.size, 0, none⟩ = some (.int .i64 s) ∧ w'.cell? ⟨w.heap.size, 1, none⟩ = some (.int .i64 l) ∧ w'.cell? ⟨w.heap.size, 2, none⟩ = some (.int .i64 c) ∧ w'.cell? ⟨w.heap.size, 3, none⟩ = some (.int .i64 sh) ∧ w'.cell? ⟨w.heap.size, 4, none⟩ = some (.slice A n cap) ∧
      w'.cell? ⟨w4.heap.size, 0, none⟩ = some (.int .i64 s) ∧ w'.cell? ⟨w4.heap.size, 1, none⟩ = some (.int .i64 l) ∧ w'.cell? ⟨w4.heap.size, 2, none⟩ = some (.int .i64 c) ∧ w'.cell? ⟨w4.heap.size, 3, none⟩ = some (.int .i64 sh) ∧ w'.cell? ⟨w4.heap.size, 4, none⟩ = some (.slice (some ⟨g4, 0, none⟩) n n)) (first | exact K8 | exact K7 | go_keep)
    (first
      | (go_at_call 19; refine (toGroup_any s l c sh A n cap zs _ hm ?_).mono ?_; exact hr6; rintro e w7 ⟨g7, hg7, rfl, hrow7, hb7⟩; have hrow47 := (hrow6.below (bel_drew' hb7) (Nat.le_refl _)).more (bel_drew' hb7).size; have D7 := D6.later (bel_drew' hb7) D6.lt; have X7 := X6.later (bel_drew' hb7) X6.lt; have E7 := bel_trans E6 (bel_drew' hb7); have K7 := ten D7 X7)
      | (go_at_call 20; refine (eqGroup_same s l c sh _ _ n n n zs _ hm hrow47 hrow7).mono ?_; rintro e w8 ⟨rfl, hb8⟩; have K8 := ten (D7.later hb8 D7.lt) (X7.later hb8 X7.lt)))
  go_wp2
  go_ret
  exact ⟨rfl, bel_trans E7 hb8⟩

end Go.Proofs.Ytecjoopmipfilaa
