/- A group, a shelf and a note as data behind variables: how they read, when they are one's own; no conditions. -/
import Derived.Test.YtjdepjpjjgkmbaaGreatGroup
import Derived.Test.YtjdepjpjjgkmbaaGreatStampBase
import Derived.Deep.CutBlock
import Derived.Laws.Rows
import Derived.Test.YtjdepjpjjgkmbaaGreatBase
import Derived.Laws.Tables
import Derived.Test.YtjdepjpjjgkmbaaGreatSink
import Derived.Deep.QuietTactic
import Derived.BigQuiet
import Derived.Laws.MakeOwn
import Derived.BigRegion
import Derived.Test.YtjdepjpjjgkmbaaGreatChecked
import Derived.WalkKit
import Derived.OwnWalk
import Derived.Outline
import Derived.Deep.RegionHeld3
import Derived.IntWalk
import Derived.Deep.AppendLies
import Derived.Laws.Pointers
import Derived.Deep.RegionLaw
import Derived.RegionTactic
import Derived.Lib.SliceRun
import Derived.Laws.IdiomCopy
import Derived.Lib.AppendZerosOnto
import Derived.Laws.AppendOwnNone

/- What the model of GroupOk answers at every group whose keys can be read: the same as the program. -/
namespace Go.Proofs.YtjdepjpjjgkmbaaGreat
open Go.RowKit

set_option maxHeartbeats 400000 in
theorem specGroup_no1 (s l c sh : Int) (A : Option Addr) (n cap : Nat) (w : World) (h1 : inB s 1 10 = false) :
    Calls Tryz.prog 133 #[(.agg #[.int .i64 s, .int .i64 l, .int .i64 c, .int .i64 sh, .slice A n cap])] w fun e w' => e = .returned (.bool false) ∧ Below w.heap.size w w' := by
  go_enter Tryz.func133, Tryz.ntmps133
  go_wp2_with (go_at_call 174; refine (l1In_any _ _ _ _).mono ?_; rintro e w' ⟨rfl, rfl⟩)
  go_ret
  exact ⟨rfl, bel_alloc _ _⟩

set_option maxHeartbeats 400000 in
theorem specGroup_no2 (s l c sh : Int) (A : Option Addr) (n cap : Nat) (w : World) (h1 : inB s 1 10 = true) (h2 : inB l 0 10 = false) :
    Calls Tryz.prog 133 #[(.agg #[.int .i64 s, .int .i64 l, .int .i64 c, .int .i64 sh, .slice A n cap])] w fun e w' => e = .returned (.bool false) ∧ Below w.heap.size w w' := by
  obtain ⟨b1, b2⟩ := inB_true.1 h1
  go_enter Tryz.func133, Tryz.ntmps133
  go_wp2_with (go_at_call 174; refine (l1In_any _ _ _ _).mono ?_; rintro e w' ⟨rfl, rfl⟩)
  go_ret
  exact ⟨rfl, bel_alloc _ _⟩

set_option maxHeartbeats 400000 in
theorem specGroup_no3 (s l c sh : Int) (A : Option Addr) (n cap : Nat) (w : World) (h1 : inB s 1 10 = true) (h2 : inB l 0 10 = true) (h3 : s < 3 * l + 1) :
    Calls Tryz.prog 133 #[(.agg #[.int .i64 s, .int .i64 l, .int .i64 c, .int .i64 sh, .slice A n cap])] w fun e w' => e = .returned (.bool false) ∧ Below w.heap.size w w' := by
  obtain ⟨b1, b2⟩ := inB_true.1 h1
  obtain ⟨b3, b4⟩ := inB_true.1 h2
  go_enter Tryz.func133, Tryz.ntmps133
  go_wp2_with (go_at_call 174; refine (l1In_any _ _ _ _).mono ?_; rintro e w' ⟨rfl, rfl⟩)
  go_ret
  exact ⟨rfl, bel_alloc _ _⟩

set_option maxHeartbeats 400000 in
theorem specGroup_no4 (s l c sh : Int) (A : Option Addr) (n cap : Nat) (w : World) (h1 : inB s 1 10 = true) (h2 : inB l 0 10 = true) (h3 : ¬ s < 3 * l + 1) (h4 : inB c 1 6 = false) :
    Calls Tryz.prog 133 #[(.agg #[.int .i64 s, .int .i64 l, .int .i64 c, .int .i64 sh, .slice A n cap])] w fun e w' => e = .returned (.bool false) ∧ Below w.heap.size w w' := by
  obtain ⟨b1, b2⟩ := inB_true.1 h1
  obtain ⟨b3, b4⟩ := inB_true.1 h2
  go_enter Tryz.func133, Tryz.ntmps133
  go_wp2_with (go_at_call 174; refine (l1In_any _ _ _ _).mono ?_; rintro e w' ⟨rfl, rfl⟩)
  go_ret
  exact ⟨rfl, bel_alloc _ _⟩

set_option maxHeartbeats 400000 in
theorem specGroup_no5 (s l c sh : Int) (A : Option Addr) (n cap : Nat) (w : World) (h1 : inB s 1 10 = true) (h2 : inB l 0 10 = true) (h3 : ¬ s < 3 * l + 1) (h4 : inB c 1 6 = true) (h5 : inB sh 1 4 = false) :
    Calls Tryz.prog 133 #[(.agg #[.int .i64 s, .int .i64 l, .int .i64 c, .int .i64 sh, .slice A n cap])] w fun e w' => e = .returned (.bool false) ∧ Below w.heap.size w w' := by
  obtain ⟨b1, b2⟩ := inB_true.1 h1
  obtain ⟨b3, b4⟩ := inB_true.1 h2
  obtain ⟨b5, b6⟩ := inB_true.1 h4
  go_enter Tryz.func133, Tryz.ntmps133
  go_wp2_with (go_at_call 174; refine (l1In_any _ _ _ _).mono ?_; rintro e w' ⟨rfl, rfl⟩)
  go_ret
  exact ⟨rfl, bel_alloc _ _⟩

set_option maxHeartbeats 400000 in
theorem specGroup_no6 (s l c sh : Int) (A : Option Addr) (n cap : Nat) (w : World) (h1 : inB s 1 10 = true) (h2 : inB l 0 10 = true) (h3 : ¬ s < 3 * l + 1) (h4 : inB c 1 6 = true) (h5 : inB sh 1 4 = true) (h6 : (n : Int) ≠ s + c) (_hm : n ≤ maxLen) :
    Calls Tryz.prog 133 #[(.agg #[.int .i64 s, .int .i64 l, .int .i64 c, .int .i64 sh, .slice A n cap])] w fun e w' => e = .returned (.bool false) ∧ Below w.heap.size w w' := by
  obtain ⟨b1, b2⟩ := inB_true.1 h1
  obtain ⟨b3, b4⟩ := inB_true.1 h2
  obtain ⟨b5, b6⟩ := inB_true.1 h4
  have hne : ((n : Int) != s + c) = true := by rw [bne_iff_ne]; exact h6
  unfold maxLen at _hm
  go_enter Tryz.func133, Tryz.ntmps133
  go_wp2_with (go_at_call 174; refine (l1In_any _ _ _ _).mono ?_; rintro e w' ⟨rfl, rfl⟩)
  go_ret
  exact ⟨rfl, bel_alloc _ _⟩

set_option maxHeartbeats 1000000 in
theorem specGroup_yes (s l c sh : Int) (A : Option Addr) (n cap : Nat) (zs : List Int) (w : World) (h1 : inB s 1 10 = true) (h2 : inB l 0 10 = true) (h3 : ¬ s < 3 * l + 1) (h4 : inB c 1 6 = true) (h5 : inB sh 1 4 = true) (h6 : (n : Int) = s + c) (hr : Row w w.heap.size A n zs) :
    Calls Tryz.prog 133 #[(.agg #[.int .i64 s, .int .i64 l, .int .i64 c, .int .i64 sh, .slice A n cap])] w fun e w' => e = .returned (.bool (keysB zs)) ∧ Below w.heap.size w w' := by
  obtain ⟨b1, b2⟩ := inB_true.1 h1
  obtain ⟨b3, b4⟩ := inB_true.1 h2
  obtain ⟨b5, b6⟩ := inB_true.1 h4
  have hne : ((n : Int) != s + c) = false := by simp [h6]
  have hn0 : 0 < n := by omega
  have hn16 : n ≤ 16 := by omega
  obtain ⟨hzl, hr⟩ := hr
  obtain ⟨b, o, rfl, hbB, hcell⟩ := hr hn0
  have H6 := Lib.hid h6
  clear h6 hr
  have HZ := Lib.hid hzl
  clear hzl
  have HC := Lib.hid hcell
  clear hcell
  go_enter Tryz.func133, Tryz.ntmps133
  go_wp2_with (go_at_call 174; refine (l1In_any _ _ _ _).mono ?_; rintro e w' ⟨rfl, rfl⟩)
  go_loop [3] (fun i => ∃ k : Nat, k ≤ n ∧ i = .int .i64 k ∧ Hid (∀ j, j < k → inB (nth zs j) 1 1000000 = true)) (fun i => n - (intOf i).toNat)
  case atStart => exact ⟨0, Nat.zero_le _, rfl, fun j hj => absurd hj (by omega)⟩
  case round =>
    obtain ⟨k, hk, rfl, hall⟩ := hrel
    by_cases hlt : k < n
    · have g := HC.out k hlt
      rcases hb : inB (nth zs k) 1 1000000 with _ | _
      · have HF : Hid (keysB zs = false) := keysB_false (by rw [HZ.out]; exact hlt) hb
        go_wp2_with (go_at_call 174; refine (l1In_any _ _ _ _).mono ?_; rintro e w' ⟨rfl, rfl⟩)
        go_ret
        exact ⟨by rw [HF.out]; rfl, bel_alloc _ _⟩
      · have HS : Hid (∀ j, j < k + 1 → inB (nth zs j) 1 1000000 = true) := all_succ (P := fun j => inB (nth zs j) 1 1000000) hall.out hb
        go_wp2_with (go_at_call 174; refine (l1In_any _ _ _ _).mono ?_; rintro e w' ⟨rfl, rfl⟩)
        go_round
        case rel => exact ⟨k + 1, by omega, by go_num, HS⟩
        case measure => simp [intOf]; omega
    · have HT : Hid (keysB zs = true) := keysB_true fun j hj => hall.out j (by have := HZ.out; omega)
      go_wp2
      go_ret
      exact ⟨by rw [HT.out]; rfl, bel_alloc _ _⟩

/-- The model's own rule for Liars says the same. -/
theorem liars_iff {s l : Int} (h1 : 1 ≤ s) (h2 : s ≤ 10) : inB l 0 ((s - 1) / 3) = (inB l 0 10 && !decide (s < 3 * l + 1)) := by
  rw [Bool.eq_iff_iff]
  simp only [inB, Bool.and_eq_true, decide_eq_true_eq, Bool.not_eq_true', decide_eq_false_iff_not]
  omega

theorem specGroup_any (s l c sh : Int) (A : Option Addr) (n cap : Nat) (zs : List Int) (w : World) (hm : n ≤ maxLen) (hr : Row w w.heap.size A n zs) :
    Calls Tryz.prog 133 #[(.agg #[.int .i64 s, .int .i64 l, .int .i64 c, .int .i64 sh, .slice A n cap])] w fun e w' => e = .returned (.bool (okB s l c sh zs)) ∧ Below w.heap.size w w' := by
  have hl := hr.1
  rcases h1 : inB s 1 10 with _ | _
  · rw [show okB s l c sh zs = false by simp [okB, h1]]
    exact specGroup_no1 s l c sh A n cap w h1
  have hs := inB_true.1 h1
  have e := liars_iff (l := l) hs.1 hs.2
  rcases h2 : inB l 0 10 with _ | _
  · rw [show okB s l c sh zs = false by simp [okB, e, h2]]
    exact specGroup_no2 s l c sh A n cap w h1 h2
  by_cases h3 : s < 3 * l + 1
  · rw [show okB s l c sh zs = false by simp [okB, e, h3]]
    exact specGroup_no3 s l c sh A n cap w h1 h2 h3
  rcases h4 : inB c 1 6 with _ | _
  · rw [show okB s l c sh zs = false by simp [okB, h4]]
    exact specGroup_no4 s l c sh A n cap w h1 h2 h3 h4
  rcases h5 : inB sh 1 4 with _ | _
  · rw [show okB s l c sh zs = false by simp [okB, h5]]
    exact specGroup_no5 s l c sh A n cap w h1 h2 h3 h4 h5
  by_cases h6 : (n : Int) = s + c
  · rw [show okB s l c sh zs = keysB zs by simp only [okB, e, h1, h2, h3, h4, h5, hl, h6]; simp]
    exact specGroup_yes s l c sh A n cap zs w h1 h2 h3 h4 h5 h6 hr
  · rw [show okB s l c sh zs = false by simp only [okB, hl, h6]; simp]
    exact specGroup_no6 s l c sh A n cap w h1 h2 h3 h4 h5 h6 hm

end Go.Proofs.YtjdepjpjjgkmbaaGreat

/- What QuorumOf, IsServer and IsClient answer, of the program and of its model: contracts of each of them. -/
namespace Go.Proofs.YtjdepjpjjgkmbaaGreat
open Go.RowKit

set_option maxHeartbeats 400000 in
theorem quorum_any (s l c sh : Int) (A : Option Addr) (n cap : Nat) (zs : List Int) (w : World) (hm : n ≤ maxLen) (hr : Row w w.heap.size A n zs) :
    Calls Tryz.prog 243 #[.agg #[.int .i64 s, .int .i64 l, .int .i64 c, .int .i64 sh, .slice A n cap]] w fun e w' => e = .returned (.int .i64 (quoN s l c sh zs)) ∧ Below w.heap.size w w' := by
  have HR := Lib.hid hr
  have HM := Lib.hid hm
  clear hr hm
  rcases hok : okB s l c sh zs with _ | _
  · have HQ : Hid (quoN s l c sh zs = -1) := by show quoN s l c sh zs = -1; simp [quoN, hok]
    go_enter Tryz.func243, Tryz.ntmps243
    have hb0 := bel_alloc w (.cells #[.int .i64 s, .int .i64 l, .int .i64 c, .int .i64 sh, .slice A n cap] 26)
    go_wp2_with fail
    generalize (w.alloc _ : World) = w0 at hb0 ⊢
    refine (groupOk_any s l c sh A n cap zs w0 HM.out ((HR.out.below hb0 (Nat.le_refl _)).more hb0.size)).mono ?_
    rintro e w1 ⟨rfl, hb1⟩
    go_wp2
    go_ret
    exact ⟨by rw [HQ.out]; rfl, bel_trans hb0 hb1⟩
  · have HQ : Hid (quoN s l c sh zs = (s + l) / 2 + 1) := by show quoN s l c sh zs = _; simp [quoN, hok]
    obtain ⟨b1, b2, b3, b4, b5, b6⟩ := okB_parts hok
    go_enter Tryz.func243, Tryz.ntmps243
    have D := Box.new w 26 #[.int .i64 s, .int .i64 l, .int .i64 c, .int .i64 sh, .slice A n cap]
    have hb0 := bel_alloc w (.cells #[.int .i64 s, .int .i64 l, .int .i64 c, .int .i64 sh, .slice A n cap] 26)
    go_wp2_with fail
    generalize (w.alloc _ : World) = w0 at D hb0 ⊢
    refine (groupOk_any s l c sh A n cap zs w0 HM.out ((HR.out.below hb0 (Nat.le_refl _)).more hb0.size)).mono ?_
    rintro e w1 ⟨rfl, hb1⟩
    obtain ⟨a0, a1, a2, a3, a4⟩ := (D.later hb1 D.lt).five
    go_wp2
    go_ret
    exact ⟨by rw [HQ.out]; rfl, bel_trans hb0 hb1⟩

set_option maxHeartbeats 400000 in
theorem server_any (s l c sh : Int) (A : Option Addr) (n cap : Nat) (zs : List Int) (x : Int) (w : World) (hm : n ≤ maxLen) (hr : Row w w.heap.size A n zs) :
    Calls Tryz.prog 118 #[.agg #[.int .i64 s, .int .i64 l, .int .i64 c, .int .i64 sh, .slice A n cap], .int .i64 x] w fun e w' => e = .returned (.bool (srvB s l c sh zs x)) ∧ Below w.heap.size w w' := by
  have HR := Lib.hid hr
  have HM := Lib.hid hm
  clear hr hm
  rcases hok : okB s l c sh zs with _ | _
  · have HQ : Hid (srvB s l c sh zs x = false) := by show srvB s l c sh zs x = _; simp [srvB, hok]
    go_enter Tryz.func118, Tryz.ntmps118
    have hb0 := bel_alloc w (.cells #[.int .i64 s, .int .i64 l, .int .i64 c, .int .i64 sh, .slice A n cap] 26)
    go_wp2_with fail
    generalize (w.alloc _ : World) = w0 at hb0 ⊢
    refine (groupOk_any s l c sh A n cap zs w0 HM.out ((HR.out.below hb0 (Nat.le_refl _)).more hb0.size)).mono ?_
    rintro e w1 ⟨rfl, hb1⟩
    go_wp2
    go_ret
    exact ⟨by rw [HQ.out]; rfl, bel_trans hb0 hb1⟩
  · have HQ : Hid (srvB s l c sh zs x = inB x 0 (s - 1)) := by show srvB s l c sh zs x = _; simp [srvB, hok]
    obtain ⟨b1, b2, b3, b4, b5, b6⟩ := okB_parts hok
    go_enter Tryz.func118, Tryz.ntmps118
    have D := Box.new w 26 #[.int .i64 s, .int .i64 l, .int .i64 c, .int .i64 sh, .slice A n cap]
    have hb0 := bel_alloc w (.cells #[.int .i64 s, .int .i64 l, .int .i64 c, .int .i64 sh, .slice A n cap] 26)
    go_wp2_with fail
    generalize (w.alloc _ : World) = w0 at D hb0 ⊢
    refine (groupOk_any s l c sh A n cap zs w0 HM.out ((HR.out.below hb0 (Nat.le_refl _)).more hb0.size)).mono ?_
    rintro e w1 ⟨rfl, hb1⟩
    obtain ⟨a0, a1, a2, a3, a4⟩ := (D.later hb1 D.lt).five
    go_wp2_with (go_at_call 143; refine (within_any _ _ _ _).mono ?_; rintro e w' ⟨rfl, rfl⟩)
    go_ret
    exact ⟨by rw [HQ.out]; rfl, bel_trans hb0 hb1⟩

set_option maxHeartbeats 400000 in
theorem client_any (s l c sh : Int) (A : Option Addr) (n cap : Nat) (zs : List Int) (x : Int) (w : World) (hm : n ≤ maxLen) (hr : Row w w.heap.size A n zs) :
    Calls Tryz.prog 224 #[.agg #[.int .i64 s, .int .i64 l, .int .i64 c, .int .i64 sh, .slice A n cap], .int .i64 x] w fun e w' => e = .returned (.bool (cliB s l c sh zs x)) ∧ Below w.heap.size w w' := by
  have HR := Lib.hid hr
  have HM := Lib.hid hm
  clear hr hm
  rcases hok : okB s l c sh zs with _ | _
  · have HQ : Hid (cliB s l c sh zs x = false) := by show cliB s l c sh zs x = _; simp [cliB, hok]
    go_enter Tryz.func224, Tryz.ntmps224
    have D := Box.new w 26 #[.int .i64 s, .int .i64 l, .int .i64 c, .int .i64 sh, .slice A n cap]
    have hb0 := bel_alloc w (.cells #[.int .i64 s, .int .i64 l, .int .i64 c, .int .i64 sh, .slice A n cap] 26)
    go_wp2_with fail
    generalize (w.alloc _ : World) = w0 at D hb0 ⊢
    have hr0 := (HR.out.below hb0 (Nat.le_refl _)).more hb0.size
    obtain ⟨a0, a1, a2, a3, a4⟩ := fiveAfter D
    refine wp_region_after (by kernel_rfl) (by kernel_rfl) ?_
    repeat (first | go_big_quiet_step (exact after_of (groupOk_any s l c sh A n cap zs _ HM.out (rowAfter hr0 _))) | quiet_step (exact after_of (groupOk_any s l c sh A n cap zs _ HM.out (rowAfter hr0 _))))
    refine wpQuiet_nil ?_
    intro p
    go_wp2
    go_ret
    exact ⟨by rw [HQ.out]; rfl, bel_trans hb0 p.bel⟩
  · have HQ : Hid (cliB s l c sh zs x = inB x s (s + c - 1)) := by show cliB s l c sh zs x = _; simp [cliB, hok]
    obtain ⟨b1, b2, b3, b4, b5, b6⟩ := okB_parts hok
    have hwr : IntKind.i64.wrap (s + c - 1) = s + c - 1 := IntWalk.i64_in _ (by omega)
    go_enter Tryz.func224, Tryz.ntmps224
    have D := Box.new w 26 #[.int .i64 s, .int .i64 l, .int .i64 c, .int .i64 sh, .slice A n cap]
    have hb0 := bel_alloc w (.cells #[.int .i64 s, .int .i64 l, .int .i64 c, .int .i64 sh, .slice A n cap] 26)
    go_wp2_with fail
    generalize (w.alloc _ : World) = w0 at D hb0 ⊢
    have hr0 := (HR.out.below hb0 (Nat.le_refl _)).more hb0.size
    obtain ⟨a0, a1, a2, a3, a4⟩ := D.five
    first | (go_region_held3 (fun w' => w'.cell? ⟨w.heap.size, 0, none⟩ = some (.int .i64 s) ∧ w'.cell? ⟨w.heap.size, 1, none⟩ = some (.int .i64 l) ∧ w'.cell? ⟨w.heap.size, 2, none⟩ = some (.int .i64 c) ∧ w'.cell? ⟨w.heap.size, 3, none⟩ = some (.int .i64 sh) ∧ w'.cell? ⟨w.heap.size, 4, none⟩ = some (.slice A n cap)) (first | exact K2 | exact K1 | go_keep)
      (first
        | (go_at_call 175; refine (groupOk_any s l c sh A n cap zs _ HM.out ?_).mono ?_; exact hr0; rintro e w1 ⟨rfl, hb1⟩; have D1 := D.later (bel_drew' hb1) D.lt; have K1 := D1.five)
        | (go_at_call 235; refine (nodes_any s l c sh A n cap _ b1 b2 b3 b4).mono ?_; rintro e w2 ⟨rfl, hb2⟩; have K2 := (D1.later hb2 D1.lt).five)
        | (go_at_call 143; refine (within_any _ _ _ _).mono ?_; rintro e w' ⟨rfl, rfl⟩))) | fail
    all_goals go_wp2
    all_goals go_ret
    all_goals exact ⟨by rw [HQ.out]; rfl, bel_trans hb0 (bel_trans (bel_drew' hb1) hb2)⟩

set_option maxHeartbeats 400000 in
theorem specQuorum_any (s l c sh : Int) (A : Option Addr) (n cap : Nat) (zs : List Int) (w : World) (hm : n ≤ maxLen) (hr : Row w w.heap.size A n zs) :
    Calls Tryz.prog 183 #[.agg #[.int .i64 s, .int .i64 l, .int .i64 c, .int .i64 sh, .slice A n cap]] w fun e w' => e = .returned (.int .i64 (quoN s l c sh zs)) ∧ Below w.heap.size w w' := by
  have HR := Lib.hid hr
  have HM := Lib.hid hm
  clear hr hm
  rcases hok : okB s l c sh zs with _ | _
  · have HQ : Hid (quoN s l c sh zs = -1) := by show quoN s l c sh zs = -1; simp [quoN, hok]
    go_enter Tryz.func183, Tryz.ntmps183
    have hb0 := bel_alloc w (.cells #[.int .i64 s, .int .i64 l, .int .i64 c, .int .i64 sh, .slice A n cap] 26)
    go_wp2_with fail
    generalize (w.alloc _ : World) = w0 at hb0 ⊢
    refine (specGroup_any s l c sh A n cap zs w0 HM.out ((HR.out.below hb0 (Nat.le_refl _)).more hb0.size)).mono ?_
    rintro e w1 ⟨rfl, hb1⟩
    go_wp2
    go_ret
    exact ⟨by rw [HQ.out]; rfl, bel_trans hb0 hb1⟩
  · have HQ : Hid (quoN s l c sh zs = (s + l) / 2 + 1) := by show quoN s l c sh zs = _; simp [quoN, hok]
    obtain ⟨b1, b2, b3, b4, b5, b6⟩ := okB_parts hok
    go_enter Tryz.func183, Tryz.ntmps183
    have D := Box.new w 26 #[.int .i64 s, .int .i64 l, .int .i64 c, .int .i64 sh, .slice A n cap]
    have hb0 := bel_alloc w (.cells #[.int .i64 s, .int .i64 l, .int .i64 c, .int .i64 sh, .slice A n cap] 26)
    go_wp2_with fail
    generalize (w.alloc _ : World) = w0 at D hb0 ⊢
    refine (specGroup_any s l c sh A n cap zs w0 HM.out ((HR.out.below hb0 (Nat.le_refl _)).more hb0.size)).mono ?_
    rintro e w1 ⟨rfl, hb1⟩
    obtain ⟨a0, a1, a2, a3, a4⟩ := (D.later hb1 D.lt).five
    go_wp2
    go_ret
    exact ⟨by rw [HQ.out]; rfl, bel_trans hb0 hb1⟩

set_option maxHeartbeats 400000 in
theorem specServer_any (s l c sh : Int) (A : Option Addr) (n cap : Nat) (zs : List Int) (x : Int) (w : World) (hm : n ≤ maxLen) (hr : Row w w.heap.size A n zs) :
    Calls Tryz.prog 117 #[.agg #[.int .i64 s, .int .i64 l, .int .i64 c, .int .i64 sh, .slice A n cap], .int .i64 x] w fun e w' => e = .returned (.bool (srvB s l c sh zs x)) ∧ Below w.heap.size w w' := by
  have HR := Lib.hid hr
  have HM := Lib.hid hm
  clear hr hm
  rcases hok : okB s l c sh zs with _ | _
  · have HQ : Hid (srvB s l c sh zs x = false) := by show srvB s l c sh zs x = _; simp [srvB, hok]
    go_enter Tryz.func117, Tryz.ntmps117
    have hb0 := bel_alloc w (.cells #[.int .i64 s, .int .i64 l, .int .i64 c, .int .i64 sh, .slice A n cap] 26)
    go_wp2_with fail
    generalize (w.alloc _ : World) = w0 at hb0 ⊢
    refine (specGroup_any s l c sh A n cap zs w0 HM.out ((HR.out.below hb0 (Nat.le_refl _)).more hb0.size)).mono ?_
    rintro e w1 ⟨rfl, hb1⟩
    go_wp2
    go_ret
    exact ⟨by rw [HQ.out]; rfl, bel_trans hb0 hb1⟩
  · have HQ : Hid (srvB s l c sh zs x = inB x 0 (s - 1)) := by show srvB s l c sh zs x = _; simp [srvB, hok]
    obtain ⟨b1, b2, b3, b4, b5, b6⟩ := okB_parts hok
    go_enter Tryz.func117, Tryz.ntmps117
    have D := Box.new w 26 #[.int .i64 s, .int .i64 l, .int .i64 c, .int .i64 sh, .slice A n cap]
    have hb0 := bel_alloc w (.cells #[.int .i64 s, .int .i64 l, .int .i64 c, .int .i64 sh, .slice A n cap] 26)
    go_wp2_with fail
    generalize (w.alloc _ : World) = w0 at D hb0 ⊢
    refine (specGroup_any s l c sh A n cap zs w0 HM.out ((HR.out.below hb0 (Nat.le_refl _)).more hb0.size)).mono ?_
    rintro e w1 ⟨rfl, hb1⟩
    obtain ⟨a0, a1, a2, a3, a4⟩ := (D.later hb1 D.lt).five
    go_wp2_with (go_at_call 174; refine (l1In_any _ _ _ _).mono ?_; rintro e w' ⟨rfl, rfl⟩)
    go_ret
    exact ⟨by rw [HQ.out]; rfl, bel_trans hb0 hb1⟩

set_option maxHeartbeats 400000 in
theorem specClient_any (s l c sh : Int) (A : Option Addr) (n cap : Nat) (zs : List Int) (x : Int) (w : World) (hm : n ≤ maxLen) (hr : Row w w.heap.size A n zs) :
    Calls Tryz.prog 194 #[.agg #[.int .i64 s, .int .i64 l, .int .i64 c, .int .i64 sh, .slice A n cap], .int .i64 x] w fun e w' => e = .returned (.bool (cliB s l c sh zs x)) ∧ Below w.heap.size w w' := by
  have HR := Lib.hid hr
  have HM := Lib.hid hm
  clear hr hm
  rcases hok : okB s l c sh zs with _ | _
  · have HQ : Hid (cliB s l c sh zs x = false) := by show cliB s l c sh zs x = _; simp [cliB, hok]
    go_enter Tryz.func194, Tryz.ntmps194
    have hb0 := bel_alloc w (.cells #[.int .i64 s, .int .i64 l, .int .i64 c, .int .i64 sh, .slice A n cap] 26)
    go_wp2_with fail
    generalize (w.alloc _ : World) = w0 at hb0 ⊢
    refine (specGroup_any s l c sh A n cap zs w0 HM.out ((HR.out.below hb0 (Nat.le_refl _)).more hb0.size)).mono ?_
    rintro e w1 ⟨rfl, hb1⟩
    go_wp2
    go_ret
    exact ⟨by rw [HQ.out]; rfl, bel_trans hb0 hb1⟩
  · have HQ : Hid (cliB s l c sh zs x = inB x s (s + c - 1)) := by show cliB s l c sh zs x = _; simp [cliB, hok]
    obtain ⟨b1, b2, b3, b4, b5, b6⟩ := okB_parts hok
    go_enter Tryz.func194, Tryz.ntmps194
    have D := Box.new w 26 #[.int .i64 s, .int .i64 l, .int .i64 c, .int .i64 sh, .slice A n cap]
    have hb0 := bel_alloc w (.cells #[.int .i64 s, .int .i64 l, .int .i64 c, .int .i64 sh, .slice A n cap] 26)
    go_wp2_with fail
    generalize (w.alloc _ : World) = w0 at D hb0 ⊢
    refine (specGroup_any s l c sh A n cap zs w0 HM.out ((HR.out.below hb0 (Nat.le_refl _)).more hb0.size)).mono ?_
    rintro e w1 ⟨rfl, hb1⟩
    obtain ⟨a0, a1, a2, a3, a4⟩ := (D.later hb1 D.lt).five
    go_wp2_with (go_at_call 174; refine (l1In_any _ _ _ _).mono ?_; rintro e w' ⟨rfl, rfl⟩)
    go_ret
    exact ⟨by rw [HQ.out]; rfl, bel_trans hb0 hb1⟩

end Go.Proofs.YtjdepjpjjgkmbaaGreat

/- Whether a group has such a shelf, a stamp that is zero, the claim to be ready: contracts of the program's and the model's functions of it. -/
namespace Go.Proofs.YtjdepjpjjgkmbaaGreat
open Go.RowKit

theorem groupB_is {s l c sh : Int} {zs : List Int} {b : Bool} (h : okB s l c sh zs = b) (A : Option Addr) (n cap : Nat) (w : World) (hm : n ≤ maxLen) (hr : Row w w.heap.size A n zs) :
    Calls Tryz.prog 175 #[.agg #[.int .i64 s, .int .i64 l, .int .i64 c, .int .i64 sh, .slice A n cap]] w fun e w' => e = .returned (.bool b) ∧ Below w.heap.size w w' := h ▸ groupOk_any s l c sh A n cap zs w hm hr
theorem specGroupB_is {s l c sh : Int} {zs : List Int} {b : Bool} (h : okB s l c sh zs = b) (A : Option Addr) (n cap : Nat) (w : World) (hm : n ≤ maxLen) (hr : Row w w.heap.size A n zs) :
    Calls Tryz.prog 133 #[.agg #[.int .i64 s, .int .i64 l, .int .i64 c, .int .i64 sh, .slice A n cap]] w fun e w' => e = .returned (.bool b) ∧ Below w.heap.size w w' := h ▸ specGroup_any s l c sh A n cap zs w hm hr

/-- Is there such a shelf? -/
def shfB (s l c sh : Int) (zs : List Int) (x : Int) : Bool := okB s l c sh zs && inB x 0 (sh - 1)
theorem okB_sh {s l c sh : Int} {zs : List Int} (h : okB s l c sh zs = true) : 1 ≤ sh ∧ sh ≤ 4 := by
  simp only [okB, Bool.and_eq_true] at h
  exact inB_true.1 h.1.1.1.2
/-- Nothing is written yet. -/
def nilB (ct cq v : Int) : Bool := decide (ct = 0 ∧ cq = 0) && decide (v = 0)
set_option maxHeartbeats 1000000 in
theorem isShelf_is (s l c sh : Int) (A : Option Addr) (n cap : Nat) (zs : List Int) (x : Int) (w : World) (hm : n ≤ maxLen) (hr : Row w w.heap.size A n zs) :
    Calls Tryz.prog 144 #[.agg #[.int .i64 s, .int .i64 l, .int .i64 c, .int .i64 sh, .slice A n cap], .int .i64 x] w fun e w' => e = .returned (.bool (shfB s l c sh zs x)) ∧ Below w.heap.size w w' := by
  have E0 := bel_alloc w (.cells #[.int .i64 s, .int .i64 l, .int .i64 c, .int .i64 sh, .slice A n cap] 26)
  have DG := Box.new w 26 #[.int .i64 s, .int .i64 l, .int .i64 c, .int .i64 sh, .slice A n cap]
  have HR := Lib.hid ((hr.below E0 (Nat.le_refl _)).more E0.size)
  have HM := Lib.hid hm
  clear hr hm
  obtain ⟨d0, d1, d2, d3, d4⟩ := DG.five
  go_enter Tryz.func144, Tryz.ntmps144
  go_wp2_with fail
  generalize (w.alloc _ : World) = w1 at E0 DG HR d0 d1 d2 d3 d4 ⊢
  rcases hok : okB s l c sh zs with _ | _
  · have hs := Lib.hid (show shfB s l c sh zs x = false by simp [shfB, hok])
    have HO := Lib.hid hok
    clear hok
    refine (groupB_is HO.out A n cap w1 HM.out HR.out).mono ?_
    rintro e w2 ⟨rfl, hb2⟩
    have E2 := bel_trans E0 hb2
    go_wp2
    go_ret
    exact ⟨by rw [hs.out]; rfl, E2⟩
  · have hs := Lib.hid (show shfB s l c sh zs x = inB x 0 (sh - 1) by simp [shfB, hok])
    have hsh := okB_sh hok
    have HO := Lib.hid hok
    clear hok
    refine (groupB_is HO.out A n cap w1 HM.out HR.out).mono ?_
    rintro e w2 ⟨rfl, hb2⟩
    have E2 := bel_trans E0 hb2
    have DG2 := DG.later hb2 DG.lt
    clear d0 d1 d2 d3 d4 DG hb2
    obtain ⟨d0, d1, d2, d3, d4⟩ := DG2.five
    go_wp2_with (go_at_call 143; refine (within_any _ _ _ _).mono ?_; rintro e w' ⟨rfl, rfl⟩)
    go_ret
    exact ⟨by rw [hs.out]; rfl, E2⟩
theorem isShelfB_is {s l c sh : Int} {zs : List Int} {x : Int} {b : Bool} (h : shfB s l c sh zs x = b) (A : Option Addr) (n cap : Nat) (w : World) (hm : n ≤ maxLen) (hr : Row w w.heap.size A n zs) :
    Calls Tryz.prog 144 #[.agg #[.int .i64 s, .int .i64 l, .int .i64 c, .int .i64 sh, .slice A n cap], .int .i64 x] w fun e w' => e = .returned (.bool b) ∧ Below w.heap.size w w' := h ▸ isShelf_is s l c sh A n cap zs x w hm hr

theorem nil_cases (ct cq v : Int) : (ct = 0 ∧ cq = 0 ∧ v = 0 ∧ nilB ct cq v = true) ∨ (nilB ct cq v = false ∧ ((ct == 0) = false ∨ ((ct == 0) = true ∧ (cq == 0) = false) ∨ (ct = 0 ∧ cq = 0 ∧ (v == 0) = false))) := by
  unfold nilB
  by_cases h1 : ct = 0
  · by_cases h2 : cq = 0
    · by_cases h3 : v = 0
      · exact .inl ⟨h1, h2, h3, by simp [h1, h2, h3]⟩
      · exact .inr ⟨by simp [h3], .inr (.inr ⟨h1, h2, by simpa using h3⟩)⟩
    · exact .inr ⟨by simp [h2], .inr (.inl ⟨by simpa using h1, by simpa using h2⟩)⟩
  · exact .inr ⟨by simp [h1], .inl (by simpa using h1)⟩

theorem l4Zero_yes (w : World) : Calls Tryz.prog 161 #[.agg #[.int .i64 0, .int .i64 0]] w fun e w' => e = .returned (.bool true) ∧ Below w.heap.size w w' := by
  have hb := bel_alloc w (.cells #[.int .i64 0, .int .i64 0] 39)
  obtain ⟨d0, d1⟩ := (Box.new w 39 #[.int .i64 0, .int .i64 0]).two
  go_enter Tryz.func161, Tryz.ntmps161
  go_wp2
  go_ret
  exact ⟨rfl, hb⟩
theorem l4Zero_no (ct cq : Int) (h : (ct == 0) = false ∨ ((ct == 0) = true ∧ (cq == 0) = false)) (w : World) : Calls Tryz.prog 161 #[.agg #[.int .i64 ct, .int .i64 cq]] w fun e w' => e = .returned (.bool false) ∧ Below w.heap.size w w' := by
  have hb := bel_alloc w (.cells #[.int .i64 ct, .int .i64 cq] 39)
  obtain ⟨d0, d1⟩ := (Box.new w 39 #[.int .i64 ct, .int .i64 cq]).two
  rcases h with h1 | ⟨h1, h2⟩
  · go_enter Tryz.func161, Tryz.ntmps161
    go_wp2
    go_ret
    exact ⟨rfl, hb⟩
  · go_enter Tryz.func161, Tryz.ntmps161
    go_wp2
    go_ret
    exact ⟨rfl, hb⟩
theorem l4Ready_is (x ct cq v : Int) (w : World) : Calls Tryz.prog 137 #[.int .i64 x, .agg #[.int .i64 ct, .int .i64 cq], .int .i64 v] w fun e w' => e = .returned (.agg #[.int .i64 1, .int .i64 x, .int .i64 ct, .int .i64 cq, .int .i64 v]) ∧ Below w.heap.size w w' := by
  have E0 := bel_trans (bel_alloc w (.cells #[.int .i64 ct, .int .i64 cq] 39)) (bel_alloc _ (.cells #[.int .i64 0, .int .i64 0, .int .i64 0, .int .i64 0, .int .i64 0] 180))
  obtain ⟨d0, d1⟩ := ((Box.new w 39 #[.int .i64 ct, .int .i64 cq]).alloc (.cells #[.int .i64 0, .int .i64 0, .int .i64 0, .int .i64 0, .int .i64 0] 180)).two
  have D := Box.new (w.alloc (.cells #[.int .i64 ct, .int .i64 cq] 39)) 180 #[.int .i64 0, .int .i64 0, .int .i64 0, .int .i64 0, .int .i64 0]
  simp only [World.size_alloc] at D


  go_enter Tryz.func137, Tryz.ntmps137
  go_wp2
  exact bodyPost_ret (v := .agg #[.int .i64 1, .int .i64 x, .int .i64 ct, .int .i64 cq, .int .i64 v]) (by simp [results, Tryz.results137, go_sem]) rfl
    ⟨rfl, by first | exact bel_trans (bel_alloc _ _) (bel_alloc _ _) | exact ((((E0.setCell (by simp) _).setCell (by simp) _).setCell (by simp) _).setCell (by simp) _).setCell (by simp) _⟩

end Go.Proofs.YtjdepjpjjgkmbaaGreat

/- Words of chapter 5: what the functions of notes compute; no conditions. -/
namespace Go.Proofs.YtjdepjpjjgkmbaaGreat
open Go.RowKit

/-- A value that is right. -/
def valB (x : Int) : Bool := inB x 0 9999
end Go.Proofs.YtjdepjpjjgkmbaaGreat

/- What a walk over a note and a group keeps: both boxes, the keys, the lists; no conditions. -/
namespace Go.Proofs.YtjdepjpjjgkmbaaGreat
open Go.RowKit

/-- What a walk over a note and a group keeps: both boxes, and the keys. -/
structure NG (w wr : World) (tn tg : TypeId) (nc : Array Value) (gc : Array Value) (A : Option Addr) (n : Nat) (zs : List Int) (N G : Nat) : Prop where
  nb : Box wr N tn nc
  gb : Box wr G tg gc
  row : Row wr wr.heap.size A n zs
  bel : Below w.heap.size w wr
theorem NG.later {w wr w' : World} {tn tg : TypeId} {nc gc : Array Value} {A : Option Addr} {n : Nat} {zs : List Int} {N G : Nat} (h : NG w wr tn tg nc gc A n zs N G) (hb : Below wr.heap.size wr w') : NG w w' tn tg nc gc A n zs N G :=
  ⟨h.nb.later hb h.nb.lt, h.gb.later hb h.gb.lt, (h.row.below hb (Nat.le_refl _)).more hb.size, bel_trans h.bel hb⟩

theorem NG.start (w : World) (tn tg : TypeId) (nc gc : Array Value) (A : Option Addr) (n : Nat) (zs : List Int) (hr : Row w w.heap.size A n zs) :
    NG w ((w.alloc (.cells nc tn)).alloc (.cells gc tg)) tn tg nc gc A n zs w.heap.size (w.heap.size + 1) := by
  have E0 := bel_trans (bel_alloc w (.cells nc tn)) (bel_alloc _ (.cells gc tg))
  have G := Box.new (w.alloc (.cells nc tn)) tg gc
  simp only [World.size_alloc] at G
  exact ⟨(Box.new w _ _).alloc _, G, (hr.below E0 (Nat.le_refl _)).more E0.size, E0⟩

/-- The same, the group first, with the note's lists. -/
structure NGP (w wr : World) (tn tg : TypeId) (nc : Array Value) (gc : Array Value) (A : Option Addr) (n : Nat) (zs : List Int) (P : Option Addr) (p : Nat) (ps : List (Int × Int)) (Q : Option Addr) (q : Nat) (qs : List (Int × Int)) (G N : Nat) : Prop where
  nb : Box wr N tn nc
  gb : Box wr G tg gc
  row : Row wr wr.heap.size A n zs
  prs : Pairs wr wr.heap.size P p ps
  qrs : Pairs wr wr.heap.size Q q qs
  bel : Below w.heap.size w wr
theorem NGP.later {w wr w' : World} {tn tg : TypeId} {nc gc : Array Value} {A : Option Addr} {n : Nat} {zs : List Int} {P : Option Addr} {p : Nat} {ps : List (Int × Int)} {Q : Option Addr} {q : Nat} {qs : List (Int × Int)} {N G : Nat} (h : NGP w wr tn tg nc gc A n zs P p ps Q q qs N G) (hb : Below wr.heap.size wr w') : NGP w w' tn tg nc gc A n zs P p ps Q q qs N G :=
  ⟨h.nb.later hb h.nb.lt, h.gb.later hb h.gb.lt, (h.row.below hb (Nat.le_refl _)).more hb.size, h.prs.later hb, h.qrs.later hb, bel_trans h.bel hb⟩
theorem NGP.start (w : World) (tn tg : TypeId) (nc gc : Array Value) (A : Option Addr) (n : Nat) (zs : List Int) (P : Option Addr) (p : Nat) (ps : List (Int × Int)) (Q : Option Addr) (q : Nat) (qs : List (Int × Int)) (hr : Row w w.heap.size A n zs) (hp : Pairs w w.heap.size P p ps) (hq : Pairs w w.heap.size Q q qs) :
    NGP w ((w.alloc (.cells gc tg)).alloc (.cells nc tn)) tn tg nc gc A n zs P p ps Q q qs w.heap.size (w.heap.size + 1) := by
  have E0 := bel_trans (bel_alloc w (.cells gc tg)) (bel_alloc _ (.cells nc tn))
  have G := Box.new (w.alloc (.cells gc tg)) tn nc
  simp only [World.size_alloc] at G
  exact ⟨G, (Box.new w _ _).alloc _, (hr.below E0 (Nat.le_refl _)).more E0.size, hp.later E0, hq.later E0, E0⟩

end Go.Proofs.YtjdepjpjjgkmbaaGreat

/- A note's cells as one array, kept whole: a load of all of it, its single cells, its size; no conditions. -/
namespace Go.Proofs.YtjdepjpjjgkmbaaGreat
open Go.RowKit

/-- A load of a whole variable whose block is known. -/
theorem wpList_load_box {P : Program} {ops : Array Oper} {rest : List Oper} {o : Oper} {a : Act} {w : World} {Q : Exit → Act → World → Prop} (ty : TypeId) (x : Operand) (ho : o.op = .load ty x)
    (g : Nat) (hx : a.eval x = .pointer (some ⟨g, 0, none⟩)) (t : TypeId) (cs : Array Value) (hg : Box w g t cs) (d : TypeDesc)
    (hu : P.underlying ty = some d) (hd : (match d with | .struct _ | .array _ _ => true | _ => false) = true) (hi : (P.info? ty).map (·.size) = some cs.size)
    (hw : Region.wanted o (yielded ops a.tmps) = true) (h : wpList P ops Q rest (a.put o.dst (.agg cs)) w) : wpList P ops Q (o :: rest) a w := by
  unfold wpList
  rw [if_pos hw]
  exact .inl (wp_load_row ty x ho g hx t cs (0, 0) d hg hu hd hi h)

section
variable {N : Array Value} {k1 k2 k3 k4 k5 t1 t2 v1 o1 o2 v2 : Int} {P : Option Addr} {p pc : Nat} {Q : Option Addr} {q qc : Nat} {l1 l2 v3 : Int}
end

end Go.Proofs.YtjdepjpjjgkmbaaGreat

/- A note's cells as one array: its shape, its parts, a variable written whole; no conditions. -/
namespace Go.Proofs.YtjdepjpjjgkmbaaGreat
open Go.RowKit

theorem size_setRow (w : World) (g : Nat) (cs : Array Value) : (w.setRow g cs).heap.size = w.heap.size := by simp [World.setRow]
theorem Box.setRow {w : World} {g : Nat} {t : TypeId} {old : Array Value} (h : Box w g t old) (cs : Array Value) : Box (w.setRow g cs) g t cs := by
  unfold Box at h ⊢
  simp [World.setRow, Array.getElem?_modify, h]
theorem heap_setRow (w : World) (g : Nat) (cs : Array Value) (k : Nat) (h : k ≠ g) : (w.setRow g cs).heap[k]? = w.heap[k]? := by
  simp [World.setRow, Array.getElem?_modify, show ¬ g = k from fun e => h e.symm]
/-- A note's cells: fourteen numbers, and these two lists. -/
def Shape (N : Array Value) (c m : Value) : Prop := ∃ k1 k2 k3 k4 k5 t1 t2 v1 o1 o2 v2 l1 l2 v3 : Int, N = #[.int .i64 k1, .int .i64 k2, .int .i64 k3, .int .i64 k4, .int .i64 k5, .int .i64 t1, .int .i64 t2, .int .i64 v1, .int .i64 o1, .int .i64 o2, .int .i64 v2, c, m, .int .i64 l1, .int .i64 l2, .int .i64 v3]
/-- A place in a note that is a number. -/
def isNum (i : Nat) : Prop := i = 0 ∨ i = 1 ∨ i = 2 ∨ i = 3 ∨ i = 4 ∨ i = 5 ∨ i = 6 ∨ i = 7 ∨ i = 8 ∨ i = 9 ∨ i = 10 ∨ i = 13 ∨ i = 14 ∨ i = 15
theorem Shape.size {N : Array Value} {c m : Value} (h : Shape N c m) : N.size = 16 := by
  obtain ⟨k1, k2, k3, k4, k5, t1, t2, v1, o1, o2, v2, l1, l2, v3, rfl⟩ := h; rfl
theorem Shape.put {N : Array Value} {c m : Value} (h : Shape N c m) {i : Nat} (hi : isNum i) (z : Int) : Shape (N.setIfInBounds i (.int .i64 z)) c m := by
  obtain ⟨k1, k2, k3, k4, k5, t1, t2, v1, o1, o2, v2, l1, l2, v3, rfl⟩ := h
  rcases hi with rfl | rfl | rfl | rfl | rfl | rfl | rfl | rfl | rfl | rfl | rfl | rfl | rfl | rfl
  · exact ⟨z, k2, k3, k4, k5, t1, t2, v1, o1, o2, v2, l1, l2, v3, rfl⟩
  · exact ⟨k1, z, k3, k4, k5, t1, t2, v1, o1, o2, v2, l1, l2, v3, rfl⟩
  · exact ⟨k1, k2, z, k4, k5, t1, t2, v1, o1, o2, v2, l1, l2, v3, rfl⟩
  · exact ⟨k1, k2, k3, z, k5, t1, t2, v1, o1, o2, v2, l1, l2, v3, rfl⟩
  · exact ⟨k1, k2, k3, k4, z, t1, t2, v1, o1, o2, v2, l1, l2, v3, rfl⟩
  · exact ⟨k1, k2, k3, k4, k5, z, t2, v1, o1, o2, v2, l1, l2, v3, rfl⟩
  · exact ⟨k1, k2, k3, k4, k5, t1, z, v1, o1, o2, v2, l1, l2, v3, rfl⟩
  · exact ⟨k1, k2, k3, k4, k5, t1, t2, z, o1, o2, v2, l1, l2, v3, rfl⟩
  · exact ⟨k1, k2, k3, k4, k5, t1, t2, v1, z, o2, v2, l1, l2, v3, rfl⟩
  · exact ⟨k1, k2, k3, k4, k5, t1, t2, v1, o1, z, v2, l1, l2, v3, rfl⟩
  · exact ⟨k1, k2, k3, k4, k5, t1, t2, v1, o1, o2, z, l1, l2, v3, rfl⟩
  · exact ⟨k1, k2, k3, k4, k5, t1, t2, v1, o1, o2, v2, z, l2, v3, rfl⟩
  · exact ⟨k1, k2, k3, k4, k5, t1, t2, v1, o1, o2, v2, l1, z, v3, rfl⟩
  · exact ⟨k1, k2, k3, k4, k5, t1, t2, v1, o1, o2, v2, l1, l2, z, rfl⟩
theorem Shape.cert {N : Array Value} {c m : Value} (h : Shape N c m) (v : Value) : Shape (N.setIfInBounds 11 v) v m := by
  obtain ⟨k1, k2, k3, k4, k5, t1, t2, v1, o1, o2, v2, l1, l2, v3, rfl⟩ := h
  exact ⟨k1, k2, k3, k4, k5, t1, t2, v1, o1, o2, v2, l1, l2, v3, rfl⟩
theorem Shape.more {N : Array Value} {c m : Value} (h : Shape N c m) (v : Value) : Shape (N.setIfInBounds 12 v) c v := by
  obtain ⟨k1, k2, k3, k4, k5, t1, t2, v1, o1, o2, v2, l1, l2, v3, rfl⟩ := h
  exact ⟨k1, k2, k3, k4, k5, t1, t2, v1, o1, o2, v2, l1, l2, v3, rfl⟩
theorem Shape.one {N : Array Value} {c m : Value} (h : Shape N c m) (hc : c.oneCell' = true) (hm : m.oneCell' = true) : N.all (·.oneCell') = true := by
  obtain ⟨k1, k2, k3, k4, k5, t1, t2, v1, o1, o2, v2, l1, l2, v3, rfl⟩ := h
  rw [Array.all_eq_true_iff_forall_mem]
  intro x hx
  simp only [List.mem_toArray, List.mem_cons, List.not_mem_nil, or_false] at hx
  rcases hx with rfl | rfl | rfl | rfl | rfl | rfl | rfl | rfl | rfl | rfl | rfl | rfl | rfl | rfl | rfl | rfl <;> first | rfl | exact hc | exact hm
end Go.Proofs.YtjdepjpjjgkmbaaGreat

/- Variables kept whole as boxes: loads of them in drawn regions, a step where one of two operations may come up, worlds in which only some blocks turned; no conditions. -/
namespace Go.Proofs.YtjdepjpjjgkmbaaGreat
open Go Go.RowKit

section
variable {P : Program} {ops : Array Oper} {Q : Exit → Act → World → Prop} {md : Region.Mode} {S : World → Prop} {z : Nat}

theorem run_load_box {o : Oper} {a : Act} {w : World} (ty : TypeId) (x : Operand) (ho : o.op = .load ty x) (g : Nat) (hx : a.eval x = .pointer (some ⟨g, 0, none⟩)) (t : TypeId) (cs : Array Value) (hg : Box w g t cs) (d : TypeDesc)
    (hu : P.underlying ty = some d) (hd : (match d with | .struct _ | .array _ _ => true | _ => false) = true) (hi : (P.info? ty).map (·.size) = some cs.size) :
    (execOp a.eval o).run P w = .ok (.value (.agg cs)) w := by
  unfold execOp
  simp only [ho, hx, Instr.loadAt, Instr.sureAddr, Sem.run_bind, Sem.run_pure, Result.andThen_ok, run_loadVar_row w g t ty cs (0, 0) d hg hu hd hi]

/-- A load of a whole variable yields its cells wherever its box stands. -/
theorem yields_box {o : Oper} {a : Act} (ty : TypeId) (x : Operand) (ho : o.op = .load ty x) (g : Nat) (hx : a.eval x = .pointer (some ⟨g, 0, none⟩)) (t : TypeId) (cs : Array Value) (hS : ∀ w, S w → Box w g t cs) (d : TypeDesc)
    (hu : P.underlying ty = some d) (hd : (match d with | .struct _ | .array _ _ => true | _ => false) = true) (hi : (P.info? ty).map (·.size) = some cs.size)
    (hw : Region.wanted o (yielded ops a.tmps) = true) : YieldsIf P ops S o (.agg cs) a :=
  .inl ⟨hw, fun w h => run_load_box ty x ho g hx t cs (hS w h) d hu hd hi⟩

/-- Take number i first, where S holds behind every operation: number z is none of the region's. -/
theorem wpAnyE_firstS {i : Nat} {oi : Oper} {v : Value} (hi : ops[i]? = some oi) (hsel : ∀ (j : Nat) (o : Oper) cs b, ops[j]? = some o → o.op ≠ .select cs b)
    (hQ : ∀ c a w, Q (.panic c) (a.put oi.dst v) w → Q (.panic c) a w) (hz : ops[z]? = none) :
    ∀ (fuel : Nat) (listed : Array Bool) (a : Act) (w : World),
      (∀ j oj, ops[j]? = some oj → j ≠ i → listed.getD j true = false → (∀ e ∈ oj.after, Region.binds md e = true → e.on ≠ i) → oi.apart ops oj = true) →
      i ∈ Region.ready md ops listed → YieldsIf P ops S oi v a → listed.getD z false = false → S w →
      wpAnyE P md ops Q S z fuel (listed.setIfInBounds i true) (a.put oi.dst v) w → wpAnyE P md ops Q S z (fuel + 1) listed a w := by
  have hiz : i ≠ z := fun e => by rw [e, hz] at hi; cases hi
  intro fuel
  induction fuel with
  | zero =>
    intro listed a w _ hr hy _ hS H
    refine ⟨fun h => (by rw [h] at hr; cases hr), fun j hj => ?_⟩
    by_cases hji : j = i
    · subst hji; exact hy.wpOp hi hS ⟨fun _ _ => hS, H⟩
    · have := ready_mono hj hji
      rw [H.1] at this
      cases this
  | succ fuel ih =>
    intro listed a w hfree hr hy hl hS H
    refine ⟨fun h => (by rw [h] at hr; cases hr), fun j hj => ?_⟩
    by_cases hji : j = i
    · subst hji; exact hy.wpOp hi hS ⟨fun _ _ => hS, H⟩
    · have h1 := H.2 j (ready_mono hj hji)
      obtain ⟨hjun, oj, hoj, hall⟩ := mem_ready.1 hj
      have hjz : j ≠ z := fun e => by rw [e, hz] at hoj; cases hoj
      have hun := (mem_ready.1 hr).1
      have hnot : ∀ e ∈ oj.after, Region.binds md e = true → e.on ≠ i := fun e he hb heq => by
        have h1 := hall e he hb
        rw [heq, getD_both hun] at h1
        cases h1
      have hzset : (listed.setIfInBounds i true).getD z false = false := by rw [getD_set_ne false hiz]; exact hl
      have h2 := wpOp_putIf hoj (hfree j oj hoj hji hjun hnot) (fun cs b => hsel i oi cs b hi) (fun cs b => hsel j oj cs b hoj) hQ hy h1
      have hfree' : ∀ k ok, ops[k]? = some ok → k ≠ i → (listed.setIfInBounds j true).getD k true = false →
          (∀ e ∈ ok.after, Region.binds md e = true → e.on ≠ i) → oi.apart ops ok = true := fun k ok hk hki hun hno => by
        refine hfree k ok hk hki ?_ hno
        by_cases hjk : j = k
        · subst hjk; exact hjun
        · rw [getD_set_ne true hjk] at hun; exact hun
      refine wpOp_mono (fun a' w' h3 => ⟨fun hjz' _ => h3.2.1 hjz' hzset, ih (listed.setIfInBounds j true) a' w' hfree' (ready_mono hr (Ne.symm hji)) h3.1 (by rw [getD_set_ne false hjz]; exact hl) (h3.2.1 hjz hzset) ?_⟩) h2
      rw [Array.setIfInBounds_comm _ _ hji]
      exact h3.2.2
theorem wpAnyE_takeS {i : Nat} {oi : Oper} {v : Value} {fuel : Nat} {listed : Array Bool} {a : Act} {w : World} (hi : ops[i]? = some oi)
    (hs : Region.noSelect ops = true) (hf : Region.free md ops listed i = true) (hr : (Region.ready md ops listed).contains i = true)
    (hQ : ∀ c a w, Q (.panic c) (a.put oi.dst v) w → Q (.panic c) a w) (hz : (ops[z]?.isNone && !listed.getD z false) = true) (hy : YieldsIf P ops S oi v a) (hS : S w)
    (h : wpAnyE P md ops Q S z fuel (listed.setIfInBounds i true) (a.put oi.dst v) w) : wpAnyE P md ops Q S z (fuel + 1) listed a w := by
  simp only [Bool.and_eq_true, Bool.not_eq_true', Option.isNone_iff_eq_none] at hz
  exact wpAnyE_firstS hi (Region.noSelect_spec hs) hQ hz.1 fuel listed a w (Region.free_spec hi hf) (by simpa using hr) hy hz.2 hS h
/-- Number i alone can come up, and it is the last one. -/
theorem wpAnyE_end {i : Nat} {o : Oper} {fuel : Nat} {listed : Array Bool} {a : Act} {w : World} (hr : Region.ready md ops listed = [i]) (ho : ops[i]? = some o) (hend : Region.ready md ops (listed.setIfInBounds i true) = [])
    (h : ∀ K' : Act → World → Prop, Shut (∀ a w, S w → Q .normal a w → K' a w) → if Region.wanted o (yielded ops a.tmps) = true then Oper.wp P o a w K' Q else K' (a.put o.dst undef) w) : wpAnyE P md ops Q S z (fuel + 1) listed a w := by
  refine ⟨fun h0 => (by rw [hr] at h0; cases h0), fun j hj => ?_⟩
  rw [hr] at hj
  have e : j = i := by simpa using hj
  subst e
  refine wpOp_step ho (fun K' hK => h K' (fun a w hS hW => hK a w ⟨fun _ _ => hS, ?_⟩))
  cases fuel with
  | zero => exact ⟨hend, hW⟩
  | succ f => exact ⟨fun _ => hW, by rw [hend]; simp⟩

/-- One of two can come up. -/
theorem wpAnyE_two {i j : Nat} {oi oj : Oper} {fuel : Nat} {listed : Array Bool} {a : Act} {w : World} (hr : Region.ready md ops listed = [i, j]) (hoi : ops[i]? = some oi) (hoj : ops[j]? = some oj)
    (hi : ∀ K' : Act → World → Prop, Shut (∀ a w, S w → (S w → wpAnyE P md ops Q S z fuel (listed.setIfInBounds i true) a w) → K' a w) → if Region.wanted oi (yielded ops a.tmps) = true then Oper.wp P oi a w K' Q else K' (a.put oi.dst undef) w)
    (hj : ∀ K' : Act → World → Prop, Shut (∀ a w, S w → (S w → wpAnyE P md ops Q S z fuel (listed.setIfInBounds j true) a w) → K' a w) → if Region.wanted oj (yielded ops a.tmps) = true then Oper.wp P oj a w K' Q else K' (a.put oj.dst undef) w) :
    wpAnyE P md ops Q S z (fuel + 1) listed a w := by
  refine ⟨fun h0 => (by rw [hr] at h0; cases h0), fun k hk => ?_⟩
  rw [hr] at hk
  have e : k = i ∨ k = j := by simpa using hk
  rcases e with rfl | rfl
  · exact wpOp_step hoi (fun K' hK => hi K' (fun a w hS hW => hK a w ⟨fun _ _ => hS, hW hS⟩))
  · exact wpOp_step hoj (fun K' hK => hj K' (fun a w hS hW => hK a w ⟨fun _ _ => hS, hW hS⟩))
end

/-- Only these blocks may have turned. -/
structure Turns (T : Nat → Prop) (w w' : World) : Prop where
  os : w'.os = w.os
  tape : w'.tape = w.tape
  output : w'.output = w.output
  size : w.heap.size ≤ w'.heap.size
  block : ∀ i, i < w.heap.size → ¬ T i → w'.heap[i]? = w.heap[i]?
theorem Turns.of_below {T : Nat → Prop} {a b : World} (h : Below a.heap.size a b) : Turns T a b := ⟨h.os, h.tape, h.output, h.size, fun i hi _ => h.block i hi⟩
theorem Turns.of_grown {g : Nat} {a b : World} (h : a.grownBy b (some g)) : Turns (· = g) a b := ⟨h.os, h.tape, h.output, h.size, fun i hi hb => h.block i hi (by intro e; injection e with e; exact hb e)⟩
theorem Turns.trans {T : Nat → Prop} {a b c : World} (h : Turns T a b) (k : Turns T b c) : Turns T a c :=
  ⟨k.os.trans h.os, k.tape.trans h.tape, k.output.trans h.output, Nat.le_trans h.size k.size, fun i hi hb => (k.block i (Nat.lt_of_lt_of_le hi h.size) hb).trans (h.block i hi hb)⟩
theorem Turns.sub {T T' : Nat → Prop} {a b : World} (h : Turns T a b) (hs : ∀ i, i < a.heap.size → T i → T' i) : Turns T' a b := ⟨h.os, h.tape, h.output, h.size, fun i hi hb => h.block i hi (fun ht => hb (hs i hi ht))⟩
theorem Turns.below {T : Nat → Prop} {w a b : World} (h : Turns T a b) (hb : Below w.heap.size w a) (hT : ∀ i, T i → w.heap.size ≤ i) : Below w.heap.size w b :=
  ⟨h.os.trans hb.os, h.tape.trans hb.tape, h.output.trans hb.output, Nat.le_trans hb.size h.size, fun i hi => (h.block i (Nat.lt_of_lt_of_le hi hb.size) (fun ht => by have := hT i ht; omega)).trans (hb.block i hi)⟩
theorem Turns.cell {T : Nat → Prop} {a b : World} (h : Turns T a b) {g : Nat} (hg : g < a.heap.size) (hb : ¬ T g) (o : Nat) : b.cell? ⟨g, o, none⟩ = a.cell? ⟨g, o, none⟩ := World.cell?_of_block (h.block g hg hb)
theorem Turns.frozen {T : Nat → Prop} {a b : World} (h : Turns T a b) {g : Nat} (hg : g < a.heap.size) (hb : ¬ T g) (o : Nat) : b.frozen? ⟨g, o, none⟩ = a.frozen? ⟨g, o, none⟩ := World.frozen?_of_block (h.block g hg hb)
theorem Box.turn {T : Nat → Prop} {a b : World} {g : Nat} {t : TypeId} {cs : Array Value} (hx : Box a g t cs) (h : Turns T a b) (hb : ¬ T g) : Box b g t cs := (h.block g hx.lt hb).trans hx
theorem turns_setRow (w : World) (g : Nat) (cs : Array Value) : Turns (· = g) w (w.setRow g cs) :=
  ⟨rfl, rfl, rfl, by rw [size_setRow]; exact Nat.le_refl _, fun i _ hne => heap_setRow w g cs i hne⟩

/-- The blocks from lo up to hi. -/
def Iv (lo hi : Nat) : Nat → Prop := fun b => lo ≤ b ∧ b < hi
theorem iv_one {lo hi g : Nat} (h : g < lo ∨ hi ≤ g) : ∀ x, Iv lo hi x → ¬ x = g := fun x h1 h2 => by unfold Iv at h1; omega
theorem iv_sub {lo hi a b : Nat} (h1 : a ≤ lo) (h2 : hi ≤ b) : ∀ x, Iv lo hi x → Iv a b x := fun x h => by unfold Iv at h ⊢; omega

/-- A datum that is kept where none of its blocks turned: P w F v says that v reads as it in w, through blocks of F alone. -/
structure Keeps (P : World → (Nat → Prop) → Value → Prop) : Prop where
  turn : ∀ {T : Nat → Prop} {w w' : World} {F : Nat → Prop} {v : Value}, P w F v → Turns T w w' → (∀ b, F b → ¬ T b) → P w' F v
  sub : ∀ {w : World} {F F' : Nat → Prop} {v : Value}, P w F v → (∀ b, F b → F' b) → P w F' v
theorem Keeps.later {P : World → (Nat → Prop) → Value → Prop} (k : Keeps P) {w w' : World} {F : Nat → Prop} {v : Value} (h : P w F v) (hb : Below w.heap.size w w') : P w' F v := k.turn (T := fun _ => False) h (Turns.of_below hb) (fun _ _ h => h)

/-- The variable at g has these cells, which read as a datum through blocks of F, g not among them. -/
structure VarOf (P : World → (Nat → Prop) → Value → Prop) (t : TypeId) (wr : World) (F : Nat → Prop) (g : Nat) (C : Array Value) : Prop where
  box : Box wr g t C
  far : ¬ F g
  dat : P wr F (.agg C)
theorem VarOf.turn {P : World → (Nat → Prop) → Value → Prop} (k : Keeps P) {t : TypeId} {wr w' : World} {F T : Nat → Prop} {g : Nat} {C : Array Value} (h : VarOf P t wr F g C) (ht : Turns T wr w') (hg : ¬ T g) (hF : ∀ b, F b → ¬ T b) : VarOf P t w' F g C :=
  ⟨h.box.turn ht hg, h.far, k.turn h.dat ht hF⟩
theorem VarOf.later {P : World → (Nat → Prop) → Value → Prop} (k : Keeps P) {t : TypeId} {wr w' : World} {F : Nat → Prop} {g : Nat} {C : Array Value} (h : VarOf P t wr F g C) (hb : Below wr.heap.size wr w') : VarOf P t w' F g C :=
  ⟨h.box.later hb h.box.lt, h.far, k.later h.dat hb⟩
theorem VarOf.new {P : World → (Nat → Prop) → Value → Prop} (k : Keeps P) (t : TypeId) {w : World} {F : Nat → Prop} {C : Array Value} (h : P w F (.agg C)) (hF : ∀ b, F b → b < w.heap.size) : VarOf P t (w.alloc (.cells C t)) F w.heap.size C :=
  ⟨Box.new w t C, fun hf => absurd (hF _ hf) (Nat.lt_irrefl _), k.later h (bel_alloc w _)⟩
/-- A variable that was made ahead is written whole. -/
theorem VarOf.put {P : World → (Nat → Prop) → Value → Prop} (k : Keeps P) {t : TypeId} {w : World} {F : Nat → Prop} {g : Nat} {Z C : Array Value} (hz : Box w g t Z) (h : P w F (.agg C)) (hF : ¬ F g) : VarOf P t (w.setRow g C) F g C :=
  ⟨hz.setRow C, hF, k.turn h (turns_setRow w g C) (fun _ hb e => hF (e ▸ hb))⟩
theorem lt_of_cell {w : World} {b o : Nat} {u : Value} (h : w.cell? ⟨b, o, none⟩ = some u) : b < w.heap.size := by
  rcases Nat.lt_or_ge b w.heap.size with hlt | hge
  · exact hlt
  · simp [World.cell?, Array.getElem?_eq_none hge] at h

end Go.Proofs.YtjdepjpjjgkmbaaGreat

/- What the functions of impl/l02_stamp.go answer at every stamp: contracts of each of them. -/
namespace Go.Proofs.YtjdepjpjjgkmbaaGreat
open Go.RowKit

theorem pairsAfter {w : World} {A : Option Addr} {n : Nat} {ps : List (Int × Int)} (h : Pairs w w.heap.size A n ps) (p : After w) : Pairs p.x p.x.heap.size A n ps := h.later p.bel

theorem stampOk_any (c k : Int) (w : World) :
    Calls Tryz.prog 114 #[.agg #[.int .i64 c, .int .i64 k]] w fun e w' => e = .returned (.bool (stB c k)) ∧ Below w.heap.size w w' := by
  by_cases hc : c = 0
  · subst hc
    by_cases hk : k = 0
    · subst hk
      go_enter Tryz.func114, Tryz.ntmps114
      go_wp2
      go_ret
      exact ⟨rfl, bel_alloc _ _⟩
    · have e : Hid (stB 0 k = false) := by show stB 0 k = false; simp [stB, hk]
      have hk' : (k == 0) = false := by simpa using hk
      go_enter Tryz.func114, Tryz.ntmps114
      go_wp2
      go_ret
      exact ⟨by rw [e.out]; first | rfl | simp [hk], bel_alloc _ _⟩
  · have hc' : (c == 0) = false := by simpa using hc
    have e := Lib.hid (stB_not hc k)
    rcases h1 : inB c 1 100000 with _ | _
    · go_enter Tryz.func114, Tryz.ntmps114
      go_wp2_with (go_at_call 143; refine (within_any _ _ _ _).mono ?_; rintro e w' ⟨rfl, rfl⟩)
      go_ret
      exact ⟨by rw [e.out, h1]; rfl, bel_alloc _ _⟩
    · go_enter Tryz.func114, Tryz.ntmps114
      go_wp2_with (go_at_call 143; refine (within_any _ _ _ _).mono ?_; rintro e w' ⟨rfl, rfl⟩)
      go_ret
      exact ⟨by rw [e.out, h1]; rfl, bel_alloc _ _⟩

theorem isNaN_any (x : Int) (w : World) :
    Calls Tryz.prog 173 #[.int .i64 x] w fun e w' => e = .returned (.bool false) ∧ w = w' := by
  have h : (x != x) = false := by simp
  go_enter Tryz.func173, Tryz.ntmps173
  go_wp2
  go_ret
  exact ⟨by first | rfl | simp, rfl⟩

theorem compare_any (a b : Int) (w : World) :
    Calls Tryz.prog 116 #[.int .i64 a, .int .i64 b] w fun e w' => e = .returned (.int .i64 (sgn a b)) ∧ w = w' := by
  rcases Int.lt_trichotomy a b with h | h | h
  · have e := Lib.hid (sgn_lt h)
    go_enter Tryz.func116, Tryz.ntmps116
    go_wp2_with (go_at_call 173; refine (isNaN_any _ _).mono ?_; rintro e w' ⟨rfl, rfl⟩)
    go_ret
    exact ⟨by rw [e.out]; rfl, rfl⟩
  · subst h
    have e := Lib.hid (sgn_eq a)
    go_enter Tryz.func116, Tryz.ntmps116
    go_wp2_with (go_at_call 173; refine (isNaN_any _ _).mono ?_; rintro e w' ⟨rfl, rfl⟩)
    go_ret
    exact ⟨by rw [e.out]; rfl, rfl⟩
  · have e := Lib.hid (sgn_gt h)
    have h' : ¬ a < b := by omega
    go_enter Tryz.func116, Tryz.ntmps116
    go_wp2_with (go_at_call 173; refine (isNaN_any _ _).mono ?_; rintro e w' ⟨rfl, rfl⟩)
    go_ret
    exact ⟨by rw [e.out]; rfl, rfl⟩

theorem or_any (b : Nat) (x y : Int) (w : World) (h0 : w.cell? ⟨b, 0, none⟩ = some (.int .i64 x)) (h1 : w.cell? ⟨b, 1, none⟩ = some (.int .i64 y)) :
    Calls Tryz.prog 115 #[.slice (some ⟨b, 0, none⟩) 2 2] w fun e w' => e = .returned (.int .i64 (orN x y)) ∧ w = w' := by
  go_enter Tryz.func115, Tryz.ntmps115
  go_wp2
  go_loop [8] (fun i => ∃ k : Nat, k ≤ 2 ∧ i = .int .i64 k ∧ (0 < k → x = 0) ∧ (1 < k → y = 0)) (fun i => 2 - (intOf i).toNat)
  case atStart => exact ⟨0, by omega, rfl, fun h => absurd h (by omega), fun h => absurd h (by omega)⟩
  case round =>
    obtain ⟨k, hk, rfl, hx, hy⟩ := hrel
    have hcase : k = 0 ∨ k = 1 ∨ k = 2 := by omega
    rcases hcase with rfl | rfl | rfl
    · clear hx hy
      by_cases hx : x = 0
      · subst hx
        go_wp2
        go_round
        case rel => exact ⟨1, by omega, by go_num, fun _ => trivial, fun h => absurd h (by omega)⟩
        case measure => simp [intOf]
      · have hx' : (x != 0) = true := by simpa using hx
        have e : Hid (orN x y = x) := by show orN x y = x; simp [orN, hx]
        go_wp2
        go_ret
        exact ⟨by rw [e.out]; rfl, rfl⟩
    · obtain rfl := hx (by omega)
      clear hx hy
      by_cases hy : y = 0
      · subst hy
        go_wp2
        go_round
        case rel => exact ⟨2, by omega, by go_num, fun _ => trivial, fun _ => trivial⟩
        case measure => simp [intOf]
      · have hy' : (y != 0) = true := by simpa using hy
        go_wp2
        go_ret
        exact ⟨rfl, rfl⟩
    · obtain rfl := hx (by omega)
      obtain rfl := hy (by omega)
      go_wp2
      go_ret
      exact ⟨rfl, rfl⟩

set_option maxHeartbeats 400000 in
theorem cmpStamp_any (a b c d : Int) (w : World) :
    Calls Tryz.prog 59 #[.agg #[.int .i64 a, .int .i64 b], .agg #[.int .i64 c, .int .i64 d]] w fun e w' => e = .returned (.int .i64 (cmpN a b c d)) ∧ Below w.heap.size w w' := by
  rcases h1 : stB a b with _ | _
  · have e := Lib.hid (cmpN_no1 h1 c d)
    go_enter Tryz.func59, Tryz.ntmps59
    have hb0 := bel_trans (bel_alloc w (.cells #[.int .i64 a, .int .i64 b] 39)) (bel_alloc _ (.cells #[.int .i64 c, .int .i64 d] 39))
    go_wp2_with fail
    generalize ((w.alloc _).alloc _ : World) = w0 at hb0 ⊢
    refine (stampOk_any a b w0).mono ?_
    rintro e w1 ⟨rfl, hb1⟩
    go_wp2
    go_ret
    exact ⟨by rw [e.out]; rfl, bel_trans hb0 hb1⟩
  · rcases h2 : stB c d with _ | _
    · have e := Lib.hid (cmpN_no2 h2 a b)
      go_enter Tryz.func59, Tryz.ntmps59
      have hb0 := bel_trans (bel_alloc w (.cells #[.int .i64 a, .int .i64 b] 39)) (bel_alloc _ (.cells #[.int .i64 c, .int .i64 d] 39))
      have D := (Box.new w 39 #[.int .i64 a, .int .i64 b]).alloc (.cells #[.int .i64 c, .int .i64 d] 39)
      have X := Box.new (w.alloc (.cells #[.int .i64 a, .int .i64 b] 39)) 39 #[.int .i64 c, .int .i64 d]
      simp only [World.size_alloc] at X
      go_wp2_with fail
      generalize ((w.alloc _).alloc _ : World) = w0 at hb0 D X ⊢
      refine (stampOk_any a b w0).mono ?_
      rintro e w1 ⟨rfl, hb1⟩
      obtain ⟨x0, x1⟩ := (X.later hb1 X.lt).two
      go_wp2_with fail
      refine (stampOk_any c d w1).mono ?_
      rintro e w2 ⟨rfl, hb2⟩
      go_wp2
      go_ret
      exact ⟨by rw [e.out]; rfl, bel_trans (bel_trans hb0 hb1) hb2⟩
    · have e := Lib.hid (cmpN_yes h1 h2)
      go_enter Tryz.func59, Tryz.ntmps59
      have hb0 := bel_trans (bel_alloc w (.cells #[.int .i64 a, .int .i64 b] 39)) (bel_alloc _ (.cells #[.int .i64 c, .int .i64 d] 39))
      have D := (Box.new w 39 #[.int .i64 a, .int .i64 b]).alloc (.cells #[.int .i64 c, .int .i64 d] 39)
      have X := Box.new (w.alloc (.cells #[.int .i64 a, .int .i64 b] 39)) 39 #[.int .i64 c, .int .i64 d]
      simp only [World.size_alloc] at X
      go_wp2_with fail
      generalize ((w.alloc _).alloc _ : World) = w0 at hb0 D X ⊢
      refine (stampOk_any a b w0).mono ?_
      rintro e w1 ⟨rfl, hb1⟩
      have D1 := D.later hb1 D.lt
      have X1 := X.later hb1 X.lt
      have E1 := bel_trans hb0 hb1
      clear D X hb0 hb1
      obtain ⟨x0, x1⟩ := X1.two
      go_wp2_with fail
      refine (stampOk_any c d w1).mono ?_
      rintro e w2 ⟨rfl, hb2⟩
      have D2 := D1.later hb2 D1.lt
      have X2 := X1.later hb2 X1.lt
      have E2 := bel_trans E1 hb2
      clear D1 X1 E1 hb2 x0 x1
      obtain ⟨a0, a1⟩ := D2.two
      obtain ⟨x0, x1⟩ := X2.two
      go_wp2_with fail
      go_region_held3 (fun w' => w'.cell? ⟨w.heap.size, 0, none⟩ = some (.int .i64 a) ∧ w'.cell? ⟨w.heap.size, 1, none⟩ = some (.int .i64 b) ∧ w'.cell? ⟨w.heap.size + 1, 0, none⟩ = some (.int .i64 c) ∧ w'.cell? ⟨w.heap.size + 1, 1, none⟩ = some (.int .i64 d)) (go_keep)
        (first
          | (go_at_call 116; refine (compare_any _ _ _).mono ?_; rintro e w' ⟨rfl, rfl⟩)
          | (go_at_call 115; refine (or_any _ (sgn a c) (sgn b d) _ ?_ ?_).mono ?_; (simp); (simp); rintro e w' ⟨rfl, rfl⟩))
      go_wp2
      go_ret
      exact ⟨by rw [e.out]; rfl, (bel_trans E2 (bel_alloc _ _)).drew⟩

theorem newer_any (a b c d : Int) (w : World) :
    Calls Tryz.prog 210 #[.agg #[.int .i64 a, .int .i64 b], .agg #[.int .i64 c, .int .i64 d]] w fun e w' => e = .returned (.bool (cmpN a b c d == 1)) ∧ Below w.heap.size w w' := by
  have hb0 := bel_trans (bel_alloc w (.cells #[.int .i64 a, .int .i64 b] 39)) (bel_alloc _ (.cells #[.int .i64 c, .int .i64 d] 39))
  go_enter Tryz.func210, Tryz.ntmps210
  go_wp2_with fail
  generalize ((w.alloc _).alloc _ : World) = w0 at hb0 ⊢
  refine (cmpStamp_any a b c d w0).mono ?_
  rintro e w1 ⟨rfl, hb1⟩
  go_wp2
  go_ret
  exact ⟨rfl, bel_trans hb0 hb1⟩

end Go.Proofs.YtjdepjpjjgkmbaaGreat

/- What the model's functions of spec/l02_stamp.go answer at every stamp: contracts of each of them. -/
namespace Go.Proofs.YtjdepjpjjgkmbaaGreat
open Go.RowKit

theorem specStampOk_any (c k : Int) (w : World) :
    Calls Tryz.prog 195 #[.agg #[.int .i64 c, .int .i64 k]] w fun e w' => e = .returned (.bool (stB c k)) ∧ Below w.heap.size w w' := by
  rw [← stB_spec]
  rcases h1 : inB c 0 100000 with _ | _
  · go_enter Tryz.func195, Tryz.ntmps195
    go_wp2_with (go_at_call 174; refine (l1In_any _ _ _ _).mono ?_; rintro e w' ⟨rfl, rfl⟩)
    go_ret
    exact ⟨rfl, bel_alloc _ _⟩
  rcases h2 : inB k 0 15 with _ | _
  · go_enter Tryz.func195, Tryz.ntmps195
    go_wp2_with (go_at_call 174; refine (l1In_any _ _ _ _).mono ?_; rintro e w' ⟨rfl, rfl⟩)
    go_ret
    exact ⟨rfl, bel_alloc _ _⟩
  by_cases h3 : 0 < c
  · have e : Hid (decide (0 < c) = true) := decide_eq_true h3
    go_enter Tryz.func195, Tryz.ntmps195
    go_wp2_with (go_at_call 174; refine (l1In_any _ _ _ _).mono ?_; rintro e w' ⟨rfl, rfl⟩)
    go_ret
    exact ⟨by rw [e.out]; rfl, bel_alloc _ _⟩
  have e : Hid (decide (0 < c) = false) := decide_eq_false h3
  by_cases h4 : k = 0
  · subst h4
    go_enter Tryz.func195, Tryz.ntmps195
    go_wp2_with (go_at_call 174; refine (l1In_any _ _ _ _).mono ?_; rintro e w' ⟨rfl, rfl⟩)
    go_ret
    exact ⟨by rw [e.out]; rfl, bel_alloc _ _⟩
  · have h4' : (k == 0) = false := by simpa using h4
    have e' : Hid (decide (k = 0) = false) := decide_eq_false h4
    go_enter Tryz.func195, Tryz.ntmps195
    go_wp2_with (go_at_call 174; refine (l1In_any _ _ _ _).mono ?_; rintro e w' ⟨rfl, rfl⟩)
    go_ret
    exact ⟨by rw [e.out, e'.out]; rfl, bel_alloc _ _⟩

set_option maxHeartbeats 1000000 in
theorem specCmp_any (a b c d : Int) (w : World) :
    Calls Tryz.prog 200 #[.agg #[.int .i64 a, .int .i64 b], .agg #[.int .i64 c, .int .i64 d]] w fun e w' => e = .returned (.int .i64 (cmpN a b c d)) ∧ Below w.heap.size w w' := by
  have hb0 := bel_trans (bel_alloc w (.cells #[.int .i64 a, .int .i64 b] 39)) (bel_alloc _ (.cells #[.int .i64 c, .int .i64 d] 39))
  have D := (Box.new w 39 #[.int .i64 a, .int .i64 b]).alloc (.cells #[.int .i64 c, .int .i64 d] 39)
  have X := Box.new (w.alloc (.cells #[.int .i64 a, .int .i64 b] 39)) 39 #[.int .i64 c, .int .i64 d]
  simp only [World.size_alloc] at X
  go_enter Tryz.func200, Tryz.ntmps200
  go_wp2_with fail
  generalize ((w.alloc _).alloc _ : World) = w0 at hb0 D X ⊢
  refine (specStampOk_any a b w0).mono ?_
  rintro e w1 ⟨rfl, hb1⟩
  have D1 := D.later hb1 D.lt
  have X1 := X.later hb1 X.lt
  have E1 := bel_trans hb0 hb1
  clear D X hb0 hb1
  obtain ⟨x0, x1⟩ := X1.two
  rcases h1 : stB a b with _ | _
  · have e := Lib.hid (cmpN_no1 h1 c d)
    go_wp2
    go_ret
    exact ⟨by rw [e.out]; rfl, E1⟩
  go_wp2_with fail
  refine (specStampOk_any c d w1).mono ?_
  rintro e w2 ⟨rfl, hb2⟩
  have D2 := D1.later hb2 D1.lt
  have X2 := X1.later hb2 X1.lt
  have E2 := bel_trans E1 hb2
  clear D1 X1 E1 hb2 x0 x1
  obtain ⟨a0, a1⟩ := D2.two
  obtain ⟨x0, x1⟩ := X2.two
  rcases h2 : stB c d with _ | _
  · have e := Lib.hid (cmpN_no2 h2 a b)
    go_wp2
    go_ret
    exact ⟨by rw [e.out]; rfl, E2⟩
  have e := Lib.hid (cmpN_yes h1 h2)
  rcases Int.lt_trichotomy a c with h | h | h
  · have n1 : (a != c) = true := by simp; omega
    have s1 := Lib.hid (sgn_lt h)
    go_wp2
    go_ret
    exact ⟨by rw [e.out, s1.out]; rfl, E2⟩
  · subst h
    have s1 := Lib.hid (sgn_eq a)
    rcases Int.lt_trichotomy b d with k | k | k
    · have n1 : (b != d) = true := by simp; omega
      have s2 := Lib.hid (sgn_lt k)
      go_wp2
      go_ret
      exact ⟨by rw [e.out, s1.out, s2.out]; rfl, E2⟩
    · subst k
      have s2 := Lib.hid (sgn_eq b)
      go_wp2
      go_ret
      exact ⟨by rw [e.out, s1.out, s2.out]; rfl, E2⟩
    · have n1 : (b != d) = true := by simp; omega
      have n2 : ¬ b < d := by omega
      have s2 := Lib.hid (sgn_gt k)
      go_wp2
      go_ret
      exact ⟨by rw [e.out, s1.out, s2.out]; rfl, E2⟩
  · have n1 : (a != c) = true := by simp; omega
    have n2 : ¬ a < c := by omega
    have s1 := Lib.hid (sgn_gt h)
    go_wp2
    go_ret
    exact ⟨by rw [e.out, s1.out]; rfl, E2⟩

end Go.Proofs.YtjdepjpjjgkmbaaGreat

/- The laws' own copies of stamps and of lists of them, their size and the test that two are alike: contracts of each of them. -/
namespace Go.Proofs.YtjdepjpjjgkmbaaGreat
open Go.RowKit

end Go.Proofs.YtjdepjpjjgkmbaaGreat

/- The library's stable sort over a slice of pairs, first part: what a slice of pairs holds, exchanging two of them, exchanging two ranges. -/
namespace Go.Proofs.YtjdepjpjjgkmbaaGreat
open Go.RowKit

/-- The block g holds these pairs, from its beginning. -/
structure Held (w : World) (g : Nat) (d : List (Int × Int)) : Prop where
  lt : g < w.heap.size
  fr : ∀ o, w.frozen? ⟨g, o, none⟩ = false
  at0 : ∀ i, i < d.length → w.cell? ⟨g, i * 2, none⟩ = some (.int .i64 (pth d i).1)
  at1 : ∀ i, i < d.length → w.cell? ⟨g, i * 2 + 1, none⟩ = some (.int .i64 (pth d i).2)
theorem Held.later {w w' : World} {g : Nat} {d : List (Int × Int)} (h : Held w g d) (hb : Below w.heap.size w w') : Held w' g d :=
  ⟨Nat.lt_of_lt_of_le h.lt hb.size, fun o => (hb.frozen (p := ⟨g, o, none⟩) h.lt).trans (h.fr o), fun i hi => (hb.cell (p := ⟨g, i * 2, none⟩) h.lt).trans (h.at0 i hi), fun i hi => (hb.cell (p := ⟨g, i * 2 + 1, none⟩) h.lt).trans (h.at1 i hi)⟩
theorem Held.drew {w : World} {g : Nat} {d : List (Int × Int)} (h : Held w g d) : Held w.drew g d := ⟨h.lt, h.fr, h.at0, h.at1⟩

theorem cell_set1 {w : World} {g i j : Nat} {u v : Value} (h : w.cell? ⟨g, i, none⟩ = some u) : (w.setCell ⟨g, j, none⟩ v).cell? ⟨g, i, none⟩ = some (if i = j then v else u) := by
  by_cases e : i = j
  · subst e
    rw [World.cell?_setCell_same _ _ _ h]
    simp
  · rw [World.cell?_setCell_other _ _ _ _ (fun e' => e (by injection e' with _ e'; exact e'.symm)), h]
    simp [e]

/-- One pair is written. -/
theorem Held.put {w : World} {g : Nat} {d : List (Int × Int)} (h : Held w g d) (i : Nat) (x : Int × Int) :
    Held ((w.setCell ⟨g, i * 2, none⟩ (.int .i64 x.1)).setCell ⟨g, i * 2 + 1, none⟩ (.int .i64 x.2)) g (d.set i x) := by
  refine ⟨by simp only [size_set]; exact h.lt, fun o => by simp [h.fr o], fun k hk => ?_, fun k hk => ?_⟩
  · rw [List.length_set] at hk
    rw [cell_set1 (cell_set1 (h.at0 k hk))]
    have e1 : ¬ k * 2 = i * 2 + 1 := by omega
    rw [if_neg e1]
    by_cases e : k = i
    · subst e; simp [pth, hk]
    · rw [if_neg (by omega)]; simp [pth, show ¬ i = k by omega]
  · rw [List.length_set] at hk
    rw [cell_set1 (cell_set1 (h.at1 k hk))]
    have e1 : ¬ k * 2 + 1 = i * 2 := by omega
    rw [if_neg e1]
    by_cases e : k = i
    · subst e; simp [pth, hk]
    · rw [if_neg (by omega)]; simp [pth, show ¬ i = k by omega]
/-- Two pairs are exchanged. -/
theorem Held.swap {w : World} {g : Nat} {d : List (Int × Int)} (h : Held w g d) (i j : Nat) {x y : Int × Int} (hx : pth d i = x) (hy : pth d j = y) :
    Held ((((w.setCell ⟨g, i * 2, none⟩ (.int .i64 y.1)).setCell ⟨g, i * 2 + 1, none⟩ (.int .i64 y.2)).setCell ⟨g, j * 2, none⟩ (.int .i64 x.1)).setCell ⟨g, j * 2 + 1, none⟩ (.int .i64 x.2)) g (swp d i j) := by
  subst hx hy
  exact (h.put i (pth d j)).put j (pth d i)
theorem grown_swap {a w : World} {g : Nat} (h : a.grownBy w (some g)) (i j k l : Nat) (p q r s : Value) :
    a.grownBy ((((w.setCell ⟨g, i, none⟩ p).setCell ⟨g, j, none⟩ q).setCell ⟨g, k, none⟩ r).setCell ⟨g, l, none⟩ s) (some g) :=
  grown_set (grown_set (grown_set (grown_set h _ _) _ _) _ _) _ _

theorem vint {a b : Int} (h : a = b) : Value.int .i64 a = Value.int .i64 b := by rw [h]
theorem take_more {l : List (Int × Int)} {k : Nat} {x : Int × Int} (h : l.drop k = x :: l.drop (k + 1)) : l.take (k + 1) = l.take k ++ [x] := by
  have hk : k < l.length := by
    rcases Nat.lt_or_ge k l.length with h' | h'
    · exact h'
    · rw [List.drop_of_length_le h'] at h; cases h
  rw [List.take_succ_eq_append_getElem hk]
  rw [List.drop_eq_getElem_cons hk] at h
  injection h with h1 _
  rw [h1]

/-- Nothing is answered; the block holds these now, and no other block is changed. -/
def Does (w : World) (g : Nat) (d : List (Int × Int)) (e : Ending) (w' : World) : Prop := e = .returned (.tuple #[]) ∧ Held w' g d ∧ w.grownBy w' (some g)

set_option maxHeartbeats 400000 in
theorem swapRange_any (g n cap a b m : Nat) (A U M V B : List (Int × Int)) (f : Value) (w : World) (hn : n ≤ 4194304) (hl : (A ++ (U ++ (M ++ (V ++ B)))).length = n)
    (hA : A.length = a) (hb : a + U.length + M.length = b) (hU : U.length = m) (hV : V.length = m) (H : Held w g (A ++ (U ++ (M ++ (V ++ B))))) :
    Calls Tryz.prog 260 #[.slice (some ⟨g, 0, none⟩) n cap, .int .i64 a, .int .i64 b, .int .i64 m, f] w (Does w g (A ++ (V ++ (M ++ (U ++ B))))) := by
  simp only [List.length_append] at hl
  have HH := Lib.hid H
  clear H
  go_enter Tryz.func260, Tryz.ntmps260
  go_wp2_with fail
  go_loopw [10] (fun i wr => ∃ k : Nat, k ≤ m ∧ i = .int .i64 k ∧ Held wr g (A ++ (V.take k ++ (U.drop k ++ (M ++ (U.take k ++ (V.drop k ++ B)))))) ∧ w.grownBy wr (some g)) (fun i _ => m - (intOf i).toNat)
  case atStart => exact ⟨0, Nat.zero_le _, rfl, by simpa using HH.out, grown_refl _ _⟩
  case round =>
    obtain ⟨k, hk, rfl, hh, hg⟩ := hrel
    by_cases hlt : k < m
    · obtain ⟨x, hx⟩ : ∃ x, U.drop k = x :: U.drop (k + 1) := ⟨U[k]'(by omega), List.drop_eq_getElem_cons (by omega)⟩
      obtain ⟨y, hy⟩ : ∃ y, V.drop k = y :: V.drop (k + 1) := ⟨V[k]'(by omega), List.drop_eq_getElem_cons (by omega)⟩
      generalize hd : (A ++ (V.take k ++ (U.drop k ++ (M ++ (U.take k ++ (V.drop k ++ B)))))) = d at hh
      have hdl : d.length = n := by subst hd; simp [List.length_append, List.length_take, List.length_drop]; omega
      have hpx : pth d (a + k) = x := pth_at (P := A ++ V.take k) (Q := U.drop (k + 1) ++ (M ++ (U.take k ++ (V.drop k ++ B)))) (by rw [← hd, hx]; simp) (by simp [List.length_take]; omega)
      have hpy : pth d (b + k) = y := pth_at (P := A ++ (V.take k ++ (U.drop k ++ (M ++ U.take k)))) (Q := V.drop (k + 1) ++ B) (by rw [← hd, hy]; simp) (by simp [List.length_take, List.length_drop]; omega)
      have c0 := hh.at0 (a + k) (by omega)
      have c1 := hh.at1 (a + k) (by omega)
      have c2 := hh.at0 (b + k) (by omega)
      have c3 := hh.at1 (b + k) (by omega)
      rw [hpx] at c0 c1
      rw [hpy] at c2 c3
      have fr := hh.fr
      have HS := Lib.hid (hh.swap (a + k) (b + k) hpx hpy)
      have hlt' : (k : Int) < (m : Int) := by omega
      have ha1 : (a : Int) + (k : Int) < n := by omega
      have ha2 : (b : Int) + (k : Int) < n := by omega
      obtain ⟨x, x'⟩ := x
      obtain ⟨y, y'⟩ := y
      go_wp2
      go_region
      go_wp2
      go_roundw
      case rel =>
        refine ⟨k + 1, by omega, by go_num, ?_, grown_drew (grown_swap hg _ _ _ _ _ _ _ _)⟩
        have hs : swp d (a + k) (b + k) = (A ++ (V.take (k + 1) ++ (U.drop (k + 1) ++ (M ++ (U.take (k + 1) ++ (V.drop (k + 1) ++ B)))))) := by
          refine swp_at (x := (x, x')) (y := (y, y')) (P := A ++ V.take k) (Q := U.drop (k + 1) ++ (M ++ U.take k)) (R := V.drop (k + 1) ++ B) (by rw [← hd, hx, hy]; simp) (by simp [List.length_take]; omega) (by simp [List.length_take, List.length_drop]; omega) ?_
          rw [take_more hx, take_more hy]
          simp
        rw [← hs]
        exact HS.out.drew
      case measure => simp [intOf]; omega
    · have hkm : k = m := by omega
      subst hkm
      go_wp2
      go_end0
      refine ⟨rfl, ?_, hg⟩
      rw [List.take_of_length_le (by omega), List.take_of_length_le (by omega), List.drop_of_length_le (by omega), List.drop_of_length_le (by omega)] at hh
      simpa using hh
/-- The same, the numbers as they come. -/
theorem swapRange_is (g n cap : Nat) (ai bi mi : Int) (A U M V B : List (Int × Int)) (f : Value) (w : World) (hn : n ≤ 4194304) (hl : A.length + U.length + M.length + V.length + B.length = n)
    (hA : ai = (A.length : Int)) (hb : bi = ((A.length + U.length + M.length : Nat) : Int)) (hm : mi = (U.length : Int)) (hV : V.length = U.length) (H : Held w g (A ++ (U ++ (M ++ (V ++ B))))) :
    Calls Tryz.prog 260 #[.slice (some ⟨g, 0, none⟩) n cap, .int .i64 ai, .int .i64 bi, .int .i64 mi, f] w (Does w g (A ++ (V ++ (M ++ (U ++ B))))) := by
  subst hA hb hm
  exact swapRange_any g n cap _ _ _ A U M V B f w hn (by simp only [List.length_append]; omega) rfl rfl rfl hV H

set_option maxRecDepth 100000 in
set_option maxHeartbeats 800000 in
theorem rotate_is (g n cap : Nat) (ai mi bi : Int) (A U V B : List (Int × Int)) (f : Value) (w : World) (hn : n ≤ 4194304) (hl : A.length + U.length + V.length + B.length = n)
    (hA : ai = (A.length : Int)) (hm : mi = ((A.length + U.length : Nat) : Int)) (hb : bi = ((A.length + U.length + V.length : Nat) : Int)) (hU : 0 < U.length) (hV : 0 < V.length) (H : Held w g (A ++ (U ++ (V ++ B)))) :
    Calls Tryz.prog 259 #[.slice (some ⟨g, 0, none⟩) n cap, .int .i64 ai, .int .i64 mi, .int .i64 bi, f] w (Does w g (A ++ (V ++ (U ++ B)))) := by
  have HH := Lib.hid H
  clear H
  generalize hb' : A.length + U.length + V.length = b at hb
  generalize hm' : A.length + U.length = m at hm hb'
  generalize ha' : A.length = a at hA hm' hl
  subst hA hm hb
  go_enter Tryz.func259, Tryz.ntmps259
  go_wp2_with fail
  go_loopw [10, 11] (fun i j wr => ∃ A' U' V' B' : List (Int × Int), 0 < U'.length ∧ 0 < V'.length ∧ A'.length + U'.length = m ∧ A'.length + U'.length + V'.length + B'.length = n ∧ i = .int .i64 U'.length ∧ j = .int .i64 V'.length ∧
      A' ++ (V' ++ (U' ++ B')) = A ++ (V ++ (U ++ B)) ∧ Held wr g (A' ++ (U' ++ (V' ++ B'))) ∧ w.grownBy wr (some g)) (fun i j _ => (intOf i).toNat + (intOf j).toNat)
  case atStart => exact ⟨A, U, V, B, hU, hV, by omega, by omega, vint (by omega), vint (by omega), rfl, HH.out, grown_refl _ _⟩
  case round =>
    obtain ⟨A', U', V', B', hu, hv, hAU, hlen, rfl, rfl, hgoal, hh, hg⟩ := hrel
    generalize hi : U'.length = i at hu hAU hlen
    generalize hj : V'.length = j at hv hlen
    rcases Nat.lt_trichotomy i j with hlt | heq | hgt
    · have hne : ((i : Int) == (j : Int)) = false := by simp; omega
      have hng : ¬ ((j : Int) < (i : Int)) := by omega
      go_wp2_with fail
      refine (swapRange_is g n cap _ _ _ A' U' (V'.take (j - i)) (V'.drop (j - i)) B' _ _ hn (by simp [List.length_take, List.length_drop]; omega) (by omega) (by simp [List.length_take]; omega) (by omega) (by simp [List.length_drop]; omega) (by rw [← List.append_assoc (V'.take _), List.take_append_drop]; exact hh)).mono ?_
      rintro e w1 ⟨rfl, hh1, hg1⟩
      go_wp2
      go_roundw
      case rel =>
        refine ⟨A', V'.drop (j - i), V'.take (j - i), U' ++ B', by simp [List.length_drop]; omega, by simp [List.length_take]; omega, by simp [List.length_drop]; omega, by simp [List.length_take, List.length_drop]; omega, vint (by simp [List.length_drop]; omega), vint (by simp [List.length_take]; omega), ?_, hh1, grown_trans hg hg1⟩
        rw [← hgoal, ← List.append_assoc (V'.take _), List.take_append_drop]
      case measure => simp [intOf]; omega
    · subst heq
      go_wp2_with fail
      refine (swapRange_is g n cap _ _ _ A' U' [] V' B' _ _ hn (by simp; omega) (by omega) (by simp; omega) (by omega) (by omega) (by simpa using hh)).mono ?_
      rintro e w1 ⟨rfl, hh1, hg1⟩
      go_wp2
      go_end0
      refine ⟨rfl, ?_, grown_trans hg hg1⟩
      rw [← hgoal]
      simpa using hh1
    · have hne : ((i : Int) == (j : Int)) = false := by simp; omega
      have hng : ((j : Int) < (i : Int)) := by omega
      go_wp2_with fail
      refine (swapRange_is g n cap _ _ _ A' (U'.take j) (U'.drop j) V' B' _ _ hn (by simp [List.length_take, List.length_drop]; omega) (by omega) (by simp [List.length_take, List.length_drop]; omega) (by simp [List.length_take]; omega) (by simp [List.length_take]; omega) (by rw [← List.append_assoc (U'.take _), List.take_append_drop]; exact hh)).mono ?_
      rintro e w1 ⟨rfl, hh1, hg1⟩
      go_wp2
      go_roundw
      case rel =>
        refine ⟨A' ++ V', U'.drop j, U'.take j, B', by simp [List.length_drop]; omega, by simp [List.length_take]; omega, by simp [List.length_drop]; omega, by simp [List.length_take, List.length_drop]; omega, vint (by simp [List.length_drop]; omega), vint (by simp [List.length_take]; omega), ?_, by simpa using hh1, grown_trans hg hg1⟩
        rw [← hgoal, ← List.append_assoc (U'.take _), List.take_append_drop]
        simp
      case measure => simp [intOf]; omega

end Go.Proofs.YtjdepjpjjgkmbaaGreat

/- The laws' own copies of seals and of lists of them, their size, the test that two are alike, their marks: contracts of each of them. -/
namespace Go.Proofs.YtjdepjpjjgkmbaaGreat
open Go.RowKit

theorem Held.pairs {w : World} {g : Nat} {ps : List (Int × Int)} (h : Held w g ps) : Pairs w w.heap.size (some ⟨g, 0, none⟩) ps.length ps :=
  ⟨rfl, fun _ => ⟨g, 0, rfl, h.lt, fun i hi => ⟨by rw [Nat.zero_add]; exact h.at0 i hi, by rw [Nat.zero_add]; exact h.at1 i hi⟩⟩⟩

end Go.Proofs.YtjdepjpjjgkmbaaGreat

/- What the model's draws of chapter 1 leave: contracts of each function of l01_draw.go that the laws reach. -/
namespace Go.Proofs.YtjdepjpjjgkmbaaGreat
open Go.RowKit

set_option maxHeartbeats 1000000 in
theorem l1Byte_any (g : Nat) (A : Option Addr) (n cap : Nat) (w : World) (hc : Cur w 169 .i64 g A n cap) :
    Calls Tryz.prog 128 #[.pointer (some ⟨g, 0, none⟩)] w (Drawn (fun r => 0 ≤ r ∧ r ≤ 255) 169 .i64 g A n cap w) := by
  obtain ⟨hn, hB, i, h, hi0, hi1, hbox⟩ := hc
  obtain ⟨c0, c1, c2⟩ := hbox.three
  have f1 := hbox.frozen 1
  have f2 := hbox.frozen 2
  go_enter Tryz.func128, Tryz.ntmps128
  go_wp2_with fail
  have hb1 := hbox.set 2 (.int .i64 (wrap64 (wrap64 (h * 6364136223846793005) + 1442695040888963407)))
  have hg1 := grown_set (grown_refl w (some g)) 2 (.int .i64 (wrap64 (wrap64 (h * 6364136223846793005) + 1442695040888963407)))
  generalize wrap64 (wrap64 (h * 6364136223846793005) + 1442695040888963407) = h1 at hb1 hg1 ⊢
  generalize wrap64 (h * 6364136223846793005) = h0
  have hB1 := hB.kept hg1 (Nat.le_of_lt hbox.lt) (fun k hk => by injection hk with hk; omega)
  generalize w.setCell ⟨g, 2, none⟩ (.int .i64 h1) = w1 at hb1 hg1 hB1 ⊢
  have hb1 : Box w1 g 169 #[.slice A n cap, .int .i64 i, .int .i64 h1] := hb1
  clear c0 c1 c2 f1 f2 hbox hB
  obtain ⟨c0, c1, c2⟩ := hb1.three
  have f1 := hb1.frozen 1
  by_cases hlt : i < n
  · obtain ⟨b, o, rfl, hbg, hcell⟩ := hB1 (by omega)
    obtain ⟨j, rfl⟩ := Int.eq_ofNat_of_zero_le hi0
    obtain ⟨z, hz0, hz1, hz⟩ := hcell j (by omega)
    have HB := Lib.hid hB1
    clear hcell hB1
    go_quiet (fail)
    go_wp2_with fail
    have hx := and_255 (bits .xor .i64 (h1 / 8589934592) (h1 / 35184372088832))
    generalize bits .and .i64 (bits .xor .i64 (h1 / 8589934592) (h1 / 35184372088832)) 255 = x at hx ⊢
    generalize bits .xor .i64 (h1 / 8589934592) (h1 / 35184372088832) = x0
    obtain ⟨hx0, hx1⟩ := hx
    go_quiet (fail)
    go_wp2_with fail
    go_quiet (fail)
    go_wp2_with fail
    go_ret
    exact ⟨_, and_255 _, rfl, ⟨hn, (HB.out.drewN _).set _ _, (j : Int) + 1, h1, by omega, by omega, (hb1.drewN _).set 1 _⟩, grown_set (grown_drewN hg1 _) _ _⟩
  · have hd : decide (i < (n : Int)) = false := by simpa using hlt
    have HB := Lib.hid hB1
    clear hB1
    go_quiet (fail)
    go_wp2_with fail
    have hx := and_255 (bits .xor .i64 (h1 / 8589934592) (h1 / 35184372088832))
    generalize bits .and .i64 (bits .xor .i64 (h1 / 8589934592) (h1 / 35184372088832)) 255 = x at hx ⊢
    generalize bits .xor .i64 (h1 / 8589934592) (h1 / 35184372088832) = x0
    go_quiet (fail)
    go_wp2
    go_ret
    exact ⟨x, hx, rfl, ⟨hn, HB.out, i, h1, hi0, hi1, hb1⟩, grown_drewN (grown_drewN hg1 _) _⟩

theorem l1Below_any (g : Nat) (A : Option Addr) (n cap : Nat) (m : Int) (w : World) (hm : 0 < m) (hc : Cur w 169 .i64 g A n cap) :
    Calls Tryz.prog 67 #[.pointer (some ⟨g, 0, none⟩), .int .i64 m] w (Drawn (fun r => 0 ≤ r ∧ r < m) 169 .i64 g A n cap w) := by
  by_cases hs : m ≤ 256
  · go_enter Tryz.func67, Tryz.ntmps67
    go_wp2_with fail
    refine (l1Byte_any g A n cap _ hc).mono ?_
    rintro e w1 ⟨r, ⟨hr0, hr1⟩, rfl, hc1, hg1⟩
    have hmod := Int.emod_nonneg r (by omega : m ≠ 0)
    have hmod' := Int.emod_lt_of_pos r hm
    go_wp2
    go_ret
    exact ⟨_, ⟨hmod, hmod'⟩, rfl, hc1, hg1⟩
  · go_enter Tryz.func67, Tryz.ntmps67
    go_wp2_with fail
    refine (l1Byte_any g A n cap _ hc).mono ?_
    rintro e w1 ⟨x, ⟨hx0, hx1⟩, rfl, hc1, hg1⟩
    go_wp2_with fail
    refine (l1Byte_any g A n cap _ hc1).mono ?_
    rintro e w2 ⟨y, ⟨hy0, hy1⟩, rfl, hc2, hg2⟩
    go_wp2_with fail
    refine (l1Byte_any g A n cap _ hc2).mono ?_
    rintro e w3 ⟨z, ⟨hz0, hz1⟩, rfl, hc3, hg3⟩
    go_wp2_with fail
    refine (l1Byte_any g A n cap _ hc3).mono ?_
    rintro e w4 ⟨u, ⟨hu0, hu1⟩, rfl, hc4, hg4⟩
    have hmod := Int.emod_nonneg (x * 16777216 + y * 65536 + z * 256 + u) (by omega : m ≠ 0)
    have hmod' := Int.emod_lt_of_pos (x * 16777216 + y * 65536 + z * 256 + u) hm
    go_wp2
    go_ret
    exact ⟨_, ⟨hmod, hmod'⟩, rfl, hc4, grown_trans (grown_trans (grown_trans hg1 hg2) hg3) hg4⟩

/-- A draw that answers yes or no. -/
def DrawnB (t : TypeId) (k : IntKind) (g : Nat) (A : Option Addr) (n cap : Nat) (w : World) (e : Ending) (w' : World) : Prop :=
  ∃ b : Bool, e = .returned (.bool b) ∧ Cur w' t k g A n cap ∧ w.grownBy w' (some g)

theorem l1Once_any (g : Nat) (A : Option Addr) (n cap : Nat) (m : Int) (w : World) (hm : 0 < m) (hc : Cur w 169 .i64 g A n cap) :
    Calls Tryz.prog 68 #[.pointer (some ⟨g, 0, none⟩), .int .i64 m] w (DrawnB 169 .i64 g A n cap w) := by
  go_enter Tryz.func68, Tryz.ntmps68
  go_wp2_with fail
  refine (l1Below_any g A n cap m _ hm hc).mono ?_
  rintro e w1 ⟨r, _, rfl, hc1, hg1⟩
  go_wp2
  go_ret
  exact ⟨_, rfl, hc1, hg1⟩

theorem l1Min_any (a b : Int) (w : World) : Calls Tryz.prog 186 #[.int .i64 a, .int .i64 b] w fun e w' => e = .returned (.int .i64 (min a b)) ∧ w = w' := by
  by_cases h : a < b
  · have e : Hid (min a b = a) := by show min a b = a; omega
    go_enter Tryz.func186, Tryz.ntmps186
    go_wp2
    go_ret
    exact ⟨by rw [e.out]; rfl, rfl⟩
  · have e : Hid (min a b = b) := by show min a b = b; omega
    go_enter Tryz.func186, Tryz.ntmps186
    go_wp2
    go_ret
    exact ⟨by rw [e.out]; rfl, rfl⟩

set_option maxHeartbeats 400000 in
theorem l1Odd_any (g : Nat) (A : Option Addr) (n cap : Nat) (w : World) (hc : Cur w 169 .i64 g A n cap) :
    Calls Tryz.prog 185 #[.pointer (some ⟨g, 0, none⟩)] w (Drawn (fun _ => True) 169 .i64 g A n cap w) := by
  go_enter Tryz.func185, Tryz.ntmps185
  have B0 : Box _ w.heap.size 2 ((List.map (Value.int .i64) [-1, 0, 1, 2147483648, -2147483648, 1099511627776, 4611686018427387904, -4611686018427387904, 9223372036854775807, -9223372036854775808]).toArray) :=
    Box.new w 2 #[.int .i64 (-1), .int .i64 0, .int .i64 1, .int .i64 2147483648, .int .i64 (-2147483648), .int .i64 1099511627776, .int .i64 4611686018427387904, .int .i64 (-4611686018427387904), .int .i64 9223372036854775807, .int .i64 (-9223372036854775808)]
  have hg0 := grown_bel (bel_alloc w (.cells #[.int .i64 (-1), .int .i64 0, .int .i64 1, .int .i64 2147483648, .int .i64 (-2147483648), .int .i64 1099511627776, .int .i64 4611686018427387904, .int .i64 (-4611686018427387904), .int .i64 9223372036854775807, .int .i64 (-9223372036854775808)] 2)) (some g)
  have hc0 := hc.kept (grown_bel (bel_alloc w (.cells #[.int .i64 (-1), .int .i64 0, .int .i64 1, .int .i64 2147483648, .int .i64 (-2147483648), .int .i64 1099511627776, .int .i64 4611686018427387904, .int .i64 (-4611686018427387904), .int .i64 9223372036854775807, .int .i64 (-9223372036854775808)] 2)) none) (fun q hq => by cases hq)
  have hlt := hc.lt
  go_wp2_with fail
  generalize (w.alloc _ : World) = w0 at B0 hg0 hc0 ⊢
  refine (l1Below_any g A n cap 10 _ (by omega) hc0).mono ?_
  rintro e w1 ⟨r, ⟨hr0, hr1⟩, rfl, hc1, hg1⟩
  obtain ⟨j, rfl⟩ := Int.eq_ofNat_of_zero_le hr0
  have B1 := B0.kept hg1 (by intro e; injection e with e; omega)
  have hcell := B1.ints (i := j) (by simp; omega)
  generalize nth _ j = z at hcell
  clear B0 B1
  go_wp2
  go_ret
  exact ⟨z, trivial, rfl, hc1, grown_trans hg0 hg1⟩

set_option maxHeartbeats 400000 in
theorem l1Num_any (g : Nat) (A : Option Addr) (n cap : Nat) (m : Int) (w : World) (hm0 : 0 ≤ m) (hm1 : m ≤ 4000000000) (hc : Cur w 169 .i64 g A n cap) :
    Calls Tryz.prog 138 #[.pointer (some ⟨g, 0, none⟩), .int .i64 m] w (Drawn (fun _ => True) 169 .i64 g A n cap w) := by
  go_enter Tryz.func138, Tryz.ntmps138
  go_wp2_with fail
  refine (l1Once_any g A n cap 10 _ (by omega) hc).mono ?_
  rintro e w1 ⟨b, rfl, hc1, hg1⟩
  rcases b with _ | _
  · go_wp2_with fail
    refine (l1Once_any g A n cap 2 _ (by omega) hc1).mono ?_
    rintro e w2 ⟨b, rfl, hc2, hg2⟩
    have hg12 := grown_trans hg1 hg2
    clear hg1 hg2 hc1
    rcases b with _ | _
    · go_wp2_with fail
      refine (l1Below_any g A n cap (m + 1) _ (by omega) hc2).mono ?_
      rintro e w3 ⟨r, _, rfl, hc3, hg3⟩
      go_wp2
      go_ret
      exact ⟨_, trivial, rfl, hc3, grown_trans hg12 hg3⟩
    · go_wp2_with fail
      refine (l1Min_any m 4 _).mono ?_
      rintro e w' ⟨rfl, rfl⟩
      have hmin0 : 0 ≤ min m 4 := by omega
      have hmin1 : min m 4 ≤ 4 := by omega
      generalize min m 4 = q at hmin0 hmin1 ⊢
      go_wp2_with fail
      refine (l1Below_any g A n cap (q + 1) _ (by omega) hc2).mono ?_
      rintro e w3 ⟨r, _, rfl, hc3, hg3⟩
      go_wp2
      go_ret
      exact ⟨_, trivial, rfl, hc3, grown_trans hg12 hg3⟩
  · go_wp2_with fail
    refine (l1Odd_any g A n cap _ hc1).mono ?_
    rintro e w2 ⟨x, _, rfl, hc2, hg2⟩
    have hg12 := grown_trans hg1 hg2
    clear hg1 hg2 hc1
    have B0 : Box _ w2.heap.size 2 ((List.map (Value.int .i64) [-1, m, m + 1, x]).toArray) := Box.new w2 2 #[.int .i64 (-1), .int .i64 m, .int .i64 (m + 1), .int .i64 x]
    have hb0 := bel_alloc w2 (.cells #[.int .i64 (-1), .int .i64 m, .int .i64 (m + 1), .int .i64 x] 2)
    have hlt := hc2.lt
    go_wp2_with fail
    generalize (w2.alloc _ : World) = w0 at B0 hb0 ⊢
    have hc0 := hc2.kept (grown_bel hb0 none) (fun q hq => by cases hq)
    have hg0 := grown_trans hg12 (grown_bel hb0 (some g))
    refine (l1Below_any g A n cap 4 _ (by omega) hc0).mono ?_
    rintro e w3 ⟨r, ⟨hr0, hr1⟩, rfl, hc3, hg3⟩
    obtain ⟨j, rfl⟩ := Int.eq_ofNat_of_zero_le hr0
    have B1 := B0.kept hg3 (by intro e; injection e with e; omega)
    have hcell := B1.ints (i := j) (by simp; omega)
    generalize nth _ j = z at hcell
    clear B0 B1
    go_wp2
    go_ret
    exact ⟨z, trivial, rfl, hc3, grown_trans hg0 hg3⟩

/-- What makes a cursor leaves: a new one, over the same bytes. -/
def MadeCur (t : TypeId) (k : IntKind) (A : Option Addr) (n cap : Nat) (w : World) (e : Ending) (w' : World) : Prop :=
  ∃ g, w.heap.size ≤ g ∧ e = .returned (.pointer (some ⟨g, 0, none⟩)) ∧ Cur w' t k g A n cap ∧ Below w.heap.size w w'

set_option maxHeartbeats 400000 in
theorem l1New_any (A : Option Addr) (n cap : Nat) (w : World) (hn : n ≤ 4096) (hB : Bytes w w.heap.size A n) :
    Calls Tryz.prog 65 #[.slice A n cap] w (MadeCur 169 .i64 A n cap w) := by
  have HB := Lib.hid hB
  clear hB
  go_enter Tryz.func65, Tryz.ntmps65
  go_wp2_with fail
  go_loop [3, 4] (fun h i => ∃ (k : Nat) (x : Int), k ≤ n ∧ i = .int .i64 k ∧ h = .int .i64 x) (fun _ i => n - (intOf i).toNat)
  case atStart => exact ⟨0, _, Nat.zero_le _, rfl, rfl⟩
  case round =>
    obtain ⟨k, x, hk, rfl, rfl⟩ := hrel
    by_cases hlt : k < n
    · obtain ⟨b, o, hA, hbB, hcell⟩ := HB.out (by omega)
      subst hA
      obtain ⟨z, hz0, hz1, hz⟩ := hcell k hlt
      clear hcell
      go_wp2
      go_round
      case rel => exact ⟨k + 1, _, by omega, by go_num, rfl⟩
      case measure => simp [intOf]; omega
    · go_wp2
      go_ret
      exact ⟨_, Nat.le_refl _, rfl, ⟨hn, HB.out.below (bel_alloc _ _) (Nat.le_refl _), 0, x, by omega, by omega, Box.new _ _ _⟩, bel_alloc _ _⟩

end Go.Proofs.YtjdepjpjjgkmbaaGreat

/- What the model's draws of stamps leave: a stamp, two of them, a stamp and a number, a list of stamps; the cursor, or the bytes, can be read. -/
namespace Go.Proofs.YtjdepjpjjgkmbaaGreat
open Go.RowKit

theorem grown2 (w : World) (R : Nat) (v0 v1 : Value) : w.grownBy ((w.setCell ⟨R, 0, none⟩ v0).setCell ⟨R, 1, none⟩ v1) (some R) := grown_set (grown_set (grown_refl w (some R)) 0 v0) 1 v1

theorem l1From_any (g : Nat) (A : Option Addr) (n cap : Nat) (lo hi : Int) (w : World) (h0 : -1000000 ≤ lo) (h1 : lo ≤ hi) (h2 : hi ≤ 1000000) (hc : Cur w 169 .i64 g A n cap) :
    Calls Tryz.prog 139 #[.pointer (some ⟨g, 0, none⟩), .int .i64 lo, .int .i64 hi] w (Drawn (fun r => lo ≤ r ∧ r ≤ hi) 169 .i64 g A n cap w) := by
  go_enter Tryz.func139, Tryz.ntmps139
  go_wp2_with fail
  refine (l1Below_any g A n cap (hi - lo + 1) w (by omega) hc).mono ?_
  rintro e w1 ⟨r, ⟨hr0, hr1⟩, rfl, hc1, hg1⟩
  go_wp2
  go_ret
  exact ⟨lo + r, ⟨by omega, by omega⟩, rfl, hc1, hg1⟩

/-- What the draw of a stamp leaves. -/
def DrawnStamp (t : TypeId) (kd : IntKind) (g : Nat) (A : Option Addr) (n cap : Nat) (w : World) (e : Ending) (w' : World) : Prop :=
  ∃ c k : Int, e = .returned (.agg #[.int .i64 c, .int .i64 k]) ∧ Cur w' t kd g A n cap ∧ w.grownBy w' (some g)

set_option maxHeartbeats 400000 in
theorem l2Draw_any (g : Nat) (A : Option Addr) (n cap : Nat) (w : World) (hc : Cur w 169 .i64 g A n cap) :
    Calls Tryz.prog 187 #[.pointer (some ⟨g, 0, none⟩)] w (DrawnStamp 169 .i64 g A n cap w) := by
  have hlt := hc.lt
  have R0 := Box.new w 39 #[.int .i64 0, .int .i64 0]
  have hb0 := bel_alloc w (.cells #[.int .i64 0, .int .i64 0] 39)
  go_enter Tryz.func187, Tryz.ntmps187
  go_wp2_with fail
  generalize (w.alloc _ : World) = w0 at R0 hb0 ⊢
  have hc0 := hc.kept (grown_bel hb0 none) (fun q hq => by cases hq)
  have hg0 := grown_bel hb0 (some g)
  refine (l1Once_any g A n cap 5 _ (by omega) hc0).mono ?_
  rintro e w1 ⟨b, rfl, hc1, hg1⟩
  have R1 := R0.kept hg1 (by intro e; injection e with e; omega)
  have G1 := grown_trans hg0 hg1
  clear R0 hg0 hg1 hc0 hb0 hc
  rcases b with _ | _
  · go_wp2_with fail
    refine (l1Below_any g A n cap 3 _ (by omega) hc1).mono ?_
    rintro e w2 ⟨c, ⟨hc0, hc2⟩, rfl, hcu2, hg2⟩
    go_wp2_with fail
    refine (l1Below_any g A n cap 6 _ (by omega) hcu2).mono ?_
    rintro e w3 ⟨k, ⟨hk0, hk1⟩, rfl, hcu3, hg3⟩
    have R3 := R1.kept (grown_trans hg2 hg3) (by intro e; injection e with e; omega)
    have G3 := grown_trans (grown_trans G1 hg2) hg3
    obtain ⟨r0, r1⟩ := R3.two
    have fr := R3.frozen
    have HC := Lib.hid (hcu3.kept (grown2 w3 w.heap.size (.int .i64 (1 + c)) (.int .i64 k)) (fun q hq => by injection hq with hq; omega))
    have HG := Lib.hid (grown_far G3 (grown2 w3 w.heap.size (.int .i64 (1 + c)) (.int .i64 k)) (fun q hq => by injection hq with hq; omega))
    go_wp2
    exact bodyPost_ret (v := .agg #[.int .i64 (1 + c), .int .i64 k]) (by simp [results, Tryz.results187, go_sem, r0, r1]) rfl ⟨_, _, rfl, HC.out, HG.out⟩
  · obtain ⟨r0, r1⟩ := R1.two
    have fr := R1.frozen
    have HC := Lib.hid (hc1.kept (grown2 w1 w.heap.size (.int .i64 0) (.int .i64 0)) (fun q hq => by injection hq with hq; omega))
    have HG := Lib.hid (grown_far G1 (grown2 w1 w.heap.size (.int .i64 0) (.int .i64 0)) (fun q hq => by injection hq with hq; omega))
    go_wp2
    exact bodyPost_ret (v := .agg #[.int .i64 0, .int .i64 0]) (by simp [results, Tryz.results187, go_sem, r0, r1]) rfl ⟨_, _, rfl, HC.out, HG.out⟩

set_option maxHeartbeats 1000000 in
theorem l2DrawAny_any (g : Nat) (A : Option Addr) (n cap : Nat) (w : World) (hc : Cur w 169 .i64 g A n cap) :
    Calls Tryz.prog 140 #[.pointer (some ⟨g, 0, none⟩)] w (DrawnStamp 169 .i64 g A n cap w) := by
  have hlt := hc.lt
  have R0 := Box.new w 39 #[.int .i64 0, .int .i64 0]
  have hb0 := bel_alloc w (.cells #[.int .i64 0, .int .i64 0] 39)
  go_enter Tryz.func140, Tryz.ntmps140
  go_wp2_with fail
  generalize (w.alloc _ : World) = w0 at R0 hb0 ⊢
  have hc0 := hc.kept (grown_bel hb0 none) (fun q hq => by cases hq)
  have hg0 := grown_bel hb0 (some g)
  refine (l2Draw_any g A n cap _ hc0).mono ?_
  rintro e w1 ⟨c, k, rfl, hc1, hg1⟩
  have R1 := R0.kept hg1 (by intro e; injection e with e; omega)
  have G1 := grown_trans hg0 hg1
  clear R0 hg0 hg1 hc0 hb0 hc
  have S1 := Box.new w1 39 #[.int .i64 c, .int .i64 k]
  have hb2 := bel_alloc w1 (.cells #[.int .i64 c, .int .i64 k] 39)
  have hR1 := R1.lt
  go_wp2_with fail
  have R2 := R1.later hb2 R1.lt
  have G2 := grown_trans G1 (grown_bel hb2 (some g))
  have hc2 := hc1.kept (grown_bel hb2 none) (fun q hq => by cases hq)
  generalize (w1.alloc _ : World) = w2 at S1 hb2 R2 G2 hc2 ⊢
  generalize w1.heap.size = S at S1 hR1 ⊢
  refine (l1Once_any g A n cap 6 _ (by omega) hc2).mono ?_
  rintro e w3 ⟨b, rfl, hc3, hg3⟩
  have R3 := R2.kept hg3 (by intro e; injection e with e; omega)
  have S3 := S1.kept hg3 (by intro e; injection e with e; omega)
  have G3 := grown_trans G2 hg3
  clear R1 R2 S1 G1 G2 hg3 hc1 hc2 hb2
  have hSR : S ≠ w.heap.size := by omega
  rcases b with _ | _
  · obtain ⟨r0, r1⟩ := R3.two
    obtain ⟨s0, s1⟩ := S3.two
    have fr := R3.frozen
    have HC := Lib.hid (hc3.kept (grown2 w3 w.heap.size (.int .i64 c) (.int .i64 k)) (fun q hq => by injection hq with hq; omega))
    have HG := Lib.hid (grown_far G3 (grown2 w3 w.heap.size (.int .i64 c) (.int .i64 k)) (fun q hq => by injection hq with hq; omega))
    go_wp2
    exact bodyPost_ret (v := .agg #[.int .i64 c, .int .i64 k]) (by simp [results, Tryz.results140, go_sem, r0, r1]) rfl ⟨_, _, rfl, HC.out, HG.out⟩
  · go_wp2_with fail
    refine (l1Once_any g A n cap 2 _ (by omega) hc3).mono ?_
    rintro e w4 ⟨b, rfl, hc4, hg4⟩
    have R4 := R3.kept hg4 (by intro e; injection e with e; omega)
    have S4 := S3.kept hg4 (by intro e; injection e with e; omega)
    have G4 := grown_trans G3 hg4
    clear R3 S3 G3 hg4 hc3
    rcases b with _ | _
    · go_wp2_with fail
      refine (l1Num_any g A n cap 15 _ (by omega) (by omega) hc4).mono ?_
      rintro e w5 ⟨y, _, rfl, hc5, hg5⟩
      have R5 := R4.kept hg5 (by intro e; injection e with e; omega)
      have S5 := S4.kept hg5 (by intro e; injection e with e; omega)
      have G5 := grown_trans G4 hg5
      clear R4 S4 G4 hg5 hc4
      obtain ⟨r0, r1⟩ := R5.two
      obtain ⟨s0, s1⟩ := S5.two
      have fr := R5.frozen
      have fs := S5.frozen
      have hset := grown_set (grown_refl w5 (some S)) 1 (.int .i64 y)
      have hset2 := grown2 (w5.setCell ⟨S, 1, none⟩ (.int .i64 y)) w.heap.size (.int .i64 c) (.int .i64 y)
      have HC := Lib.hid ((hc5.kept hset (fun q hq => by injection hq with hq; omega)).kept hset2 (fun q hq => by injection hq with hq; omega))
      have HG := Lib.hid (grown_far (grown_far G5 hset (fun q hq => by injection hq with hq; omega)) hset2 (fun q hq => by injection hq with hq; omega))
      clear hset hset2
      go_wp2
      exact bodyPost_ret (v := .agg #[.int .i64 c, .int .i64 y]) (by simp [results, Tryz.results140, go_sem, r0, r1]) rfl ⟨_, _, rfl, HC.out, HG.out⟩
    · go_wp2_with fail
      refine (l1Num_any g A n cap 100000 _ (by omega) (by omega) hc4).mono ?_
      rintro e w5 ⟨y, _, rfl, hc5, hg5⟩
      have R5 := R4.kept hg5 (by intro e; injection e with e; omega)
      have S5 := S4.kept hg5 (by intro e; injection e with e; omega)
      have G5 := grown_trans G4 hg5
      clear R4 S4 G4 hg5 hc4
      obtain ⟨r0, r1⟩ := R5.two
      obtain ⟨s0, s1⟩ := S5.two
      have fr := R5.frozen
      have fs := S5.frozen
      have hset := grown_set (grown_refl w5 (some S)) 0 (.int .i64 y)
      have hset2 := grown2 (w5.setCell ⟨S, 0, none⟩ (.int .i64 y)) w.heap.size (.int .i64 y) (.int .i64 k)
      have HC := Lib.hid ((hc5.kept hset (fun q hq => by injection hq with hq; omega)).kept hset2 (fun q hq => by injection hq with hq; omega))
      have HG := Lib.hid (grown_far (grown_far G5 hset (fun q hq => by injection hq with hq; omega)) hset2 (fun q hq => by injection hq with hq; omega))
      clear hset hset2
      go_wp2
      exact bodyPost_ret (v := .agg #[.int .i64 y, .int .i64 k]) (by simp [results, Tryz.results140, go_sem, r0, r1]) rfl ⟨_, _, rfl, HC.out, HG.out⟩

end Go.Proofs.YtjdepjpjjgkmbaaGreat

/- A variable made ahead of a call whose contract speaks of a world: what is known then; no conditions. -/
namespace Go.Proofs.YtjdepjpjjgkmbaaGreat
open Go.RowKit

/-- A variable of two cells, written. -/
theorem Box.put2 {w : World} {g : Nat} {t : TypeId} {a b : Value} (h : Box w g t #[a, b]) (u v : Value) : Box ((w.setCell ⟨g, 0, none⟩ u).setCell ⟨g, 1, none⟩ v) g t #[u, v] := (h.set 0 u).set 1 v
theorem Box.put5 {w : World} {g : Nat} {t : TypeId} {a b c d e : Value} (h : Box w g t #[a, b, c, d, e]) (u0 u1 u2 u3 u4 : Value) : Box (((((w.setCell ⟨g, 0, none⟩ u0).setCell ⟨g, 1, none⟩ u1).setCell ⟨g, 2, none⟩ u2).setCell ⟨g, 3, none⟩ u3).setCell ⟨g, 4, none⟩ u4) g t #[u0, u1, u2, u3, u4] := ((((h.set 0 u0).set 1 u1).set 2 u2).set 3 u3).set 4 u4
theorem Box.far2 {w : World} {g R : Nat} {t : TypeId} {cs : Array Value} (h : Box w g t cs) (hR : R ≠ g) (u v : Value) : Box ((w.setCell ⟨R, 0, none⟩ u).setCell ⟨R, 1, none⟩ v) g t cs :=
  (h.far (p := ⟨R, 0, none⟩) hR u).far (p := ⟨R, 1, none⟩) hR v

end Go.Proofs.YtjdepjpjjgkmbaaGreat

/- What the model's draws of claims leave: a claim, and the cursor further on; the cursor is a right one. -/
namespace Go.Proofs.YtjdepjpjjgkmbaaGreat
open Go.RowKit

end Go.Proofs.YtjdepjpjjgkmbaaGreat

/- What the model's draws out of the code leave, chapter 2: two stamps, a stamp and a client, a list of stamps; the bytes can be read. -/
namespace Go.Proofs.YtjdepjpjjgkmbaaGreat
open Go.RowKit

/-- The cells of a list of pairs. -/
def flatP (ps : List (Int × Int)) : List Value := ps.flatMap fun p => [.int .i64 p.1, .int .i64 p.2]
theorem flatP_len (ps : List (Int × Int)) : (flatP ps).length = ps.length * 2 := by
  induction ps with
  | nil => rfl
  | cons p ps ih => show (flatP ps).length + 1 + 1 = _; rw [ih, List.length_cons]; omega
theorem flatP_snoc (ps : List (Int × Int)) (x y : Int) : flatP (ps ++ [(x, y)]) = flatP ps ++ [.int .i64 x, .int .i64 y] := by simp [flatP]
theorem flatP_at {ps : List (Int × Int)} {i : Nat} (h : i < ps.length) : (flatP ps)[i * 2]? = some (.int .i64 (pth ps i).1) ∧ (flatP ps)[i * 2 + 1]? = some (.int .i64 (pth ps i).2) := by
  induction ps generalizing i with
  | nil => simp at h
  | cons p ps ih =>
    have e : flatP (p :: ps) = .int .i64 p.1 :: .int .i64 p.2 :: flatP ps := rfl
    rcases i with _ | i
    · exact ⟨rfl, rfl⟩
    · have := ih (i := i) (by simpa using h)
      rw [e, show (i + 1) * 2 = i * 2 + 1 + 1 by omega]
      simp only [List.getElem?_cons_succ]
      have ep : pth (p :: ps) (i + 1) = pth ps i := by simp [pth]
      rw [ep]
      exact this
theorem own_pairs {w : World} {base : Nat} {e : TypeId} {q cap : Nat} {ps : List (Int × Int)} (h : w.ownsRow base e 2 (.slice (some ⟨q, 0, none⟩) ps.length cap) ps.length (flatP ps)) : Pairs w w.heap.size (some ⟨q, 0, none⟩) ps.length ps := by
  refine ⟨rfl, fun _ => ⟨q, 0, rfl, (h.lt q rfl).2, fun i hi => ?_⟩⟩
  rw [Nat.zero_add, h.cellAt (i * 2) (by omega), h.cellAt (i * 2 + 1) (by omega)]
  exact flatP_at hi

end Go.Proofs.YtjdepjpjjgkmbaaGreat

/- The cells of a list of pairs, one behind the other; no conditions. -/
namespace Go.Proofs.YtjdepjpjjgkmbaaGreat
open Go.RowKit

theorem Tryz.infoSealI : (Tryz.prog.info? 136).map (fun i => (i.zero, i.size, i.bytes)) = some (some (.agg #[.int .i64 0, .int .i64 0]), 2, 16) := by kernel_rfl

/-- The cells of a slice of pairs. -/
theorem pairs_news {w : World} {B : Nat} {b o n : Nat} {ps : List (Int × Int)} (h : Pairs w B (some ⟨b, o, none⟩) n ps) : ∀ j u, (flatP ps)[j]? = some u → w.cell? ((⟨b, o, none⟩ : Addr).add j) = some u := by
  intro j u hu
  have hj : j < ps.length * 2 := by
    rw [← flatP_len]
    rcases Nat.lt_or_ge j (flatP ps).length with h' | h'
    · exact h'
    · rw [List.getElem?_eq_none h'] at hu; cases hu
  rw [h.1] at hj
  obtain ⟨b', o', hA, _, hc⟩ := h.2 (by omega)
  cases hA
  rw [show (⟨b, o, none⟩ : Addr).add j = ⟨b, o + j, none⟩ by unfold Addr.add; split <;> simp_all]
  have h2 : j % 2 = 0 ∨ j % 2 = 1 := by omega
  rcases h2 with h2 | h2
  · obtain ⟨k, rfl⟩ : ∃ k, j = k * 2 := ⟨j / 2, by omega⟩
    rw [(hc k (by omega)).1]
    rw [(flatP_at (by rw [h.1]; omega)).1] at hu
    exact hu
  · obtain ⟨k, rfl⟩ : ∃ k, j = k * 2 + 1 := ⟨j / 2, by omega⟩
    rw [← Nat.add_assoc, (hc k (by omega)).2]
    rw [(flatP_at (by rw [h.1]; omega)).2] at hu
    exact hu
theorem flatP_one (ps : List (Int × Int)) : ∀ u ∈ flatP ps, u.oneCell' = true := by
  intro u hu
  simp only [flatP, List.mem_flatMap] at hu
  obtain ⟨p, _, hp⟩ := hu
  simp only [List.mem_cons, List.not_mem_nil, or_false] at hp
  rcases hp with rfl | rfl <;> rfl
theorem flatP_app (a b : List (Int × Int)) : flatP (a ++ b) = flatP a ++ flatP b := by simp [flatP]

end Go.Proofs.YtjdepjpjjgkmbaaGreat

/- Words of chapter 7: slices of opens (four numbers each), the open of a client, putting an open to its place; no conditions. -/
namespace Go.Proofs.YtjdepjpjjgkmbaaGreat
open Go.RowKit

/-- An open: its client, its stamp's count and client, its value. -/
abbrev Opn := Int × Int × Int × Int
/-- The open at place i. -/
def oth (os : List Opn) (i : Nat) : Opn := os.getD i (0, 0, 0, 0)
theorem oth_lt {os : List Opn} {i : Nat} (h : i < os.length) : oth os i = os[i] := by simp [oth, h]

/-- The slice of n opens at A holds os, in blocks below B. -/
def Quads (w : World) (B : Nat) (A : Option Addr) (n : Nat) (os : List Opn) : Prop :=
  os.length = n ∧ (0 < n → ∃ b o, A = some ⟨b, o, none⟩ ∧ b < B ∧ ∀ i, i < n → w.cell? ⟨b, o + i * 4, none⟩ = some (.int .i64 (oth os i).1) ∧ w.cell? ⟨b, o + i * 4 + 1, none⟩ = some (.int .i64 (oth os i).2.1) ∧ w.cell? ⟨b, o + i * 4 + 2, none⟩ = some (.int .i64 (oth os i).2.2.1) ∧ w.cell? ⟨b, o + i * 4 + 3, none⟩ = some (.int .i64 (oth os i).2.2.2))
theorem Quads.keep {w w' : World} {B : Nat} {A : Option Addr} {n : Nat} {os : List Opn} (h : Quads w B A n os) (hk : ∀ p : Addr, p.block < B → w'.cell? p = w.cell? p) : Quads w' B A n os := by
  refine ⟨h.1, fun hn => ?_⟩
  obtain ⟨b, o, hA, hb, hc⟩ := h.2 hn
  exact ⟨b, o, hA, hb, fun i hi => ⟨(hk ⟨b, o + i * 4, none⟩ hb).trans (hc i hi).1, (hk ⟨b, o + i * 4 + 1, none⟩ hb).trans (hc i hi).2.1, (hk ⟨b, o + i * 4 + 2, none⟩ hb).trans (hc i hi).2.2.1, (hk ⟨b, o + i * 4 + 3, none⟩ hb).trans (hc i hi).2.2.2⟩⟩
theorem Quads.below {w w' : World} {B C : Nat} {A : Option Addr} {n : Nat} {os : List Opn} (h : Quads w B A n os) (hb : Below C w w') (hBC : B ≤ C) : Quads w' B A n os :=
  h.keep fun _ hp => hb.cell (Nat.lt_of_lt_of_le hp hBC)
theorem Quads.more {w : World} {B C : Nat} {A : Option Addr} {n : Nat} {os : List Opn} (h : Quads w B A n os) (hBC : B ≤ C) : Quads w C A n os := by
  refine ⟨h.1, fun hn => ?_⟩
  obtain ⟨b, o, hA, hb, hc⟩ := h.2 hn
  exact ⟨b, o, hA, by omega, hc⟩
theorem Quads.later {w w' : World} {A : Option Addr} {n : Nat} {os : List Opn} (h : Quads w w.heap.size A n os) (hb : Below w.heap.size w w') : Quads w' w'.heap.size A n os :=
  (h.below hb (Nat.le_refl _)).more hb.size
theorem quads_nil (w : World) (B : Nat) (A : Option Addr) : Quads w B A 0 [] := ⟨rfl, fun h => absurd h (by omega)⟩

theorem Box.four {w : World} {g : Nat} {t : TypeId} {v0 v1 v2 v3 : Value} (h : Box w g t #[v0, v1, v2, v3]) :
    w.cell? ⟨g, 0, none⟩ = some v0 ∧ w.cell? ⟨g, 1, none⟩ = some v1 ∧ w.cell? ⟨g, 2, none⟩ = some v2 ∧ w.cell? ⟨g, 3, none⟩ = some v3 := ⟨h.cell 0, h.cell 1, h.cell 2, h.cell 3⟩

/-- The cells of opens. -/
def flatO (os : List Opn) : List Value := os.flatMap fun o => [.int .i64 o.1, .int .i64 o.2.1, .int .i64 o.2.2.1, .int .i64 o.2.2.2]
theorem flatO_len (os : List Opn) : (flatO os).length = os.length * 4 := by
  induction os with
  | nil => rfl
  | cons o os ih => show (flatO os).length + 1 + 1 + 1 + 1 = _; rw [ih, List.length_cons]; omega
theorem flatO_snoc (os : List Opn) (a b c d : Int) : flatO (os ++ [(a, b, c, d)]) = flatO os ++ [.int .i64 a, .int .i64 b, .int .i64 c, .int .i64 d] := by simp [flatO]
theorem flatO_app (a b : List Opn) : flatO (a ++ b) = flatO a ++ flatO b := by simp [flatO]
theorem flatO_at {os : List Opn} {i : Nat} (h : i < os.length) : (flatO os)[i * 4]? = some (.int .i64 (oth os i).1) ∧ (flatO os)[i * 4 + 1]? = some (.int .i64 (oth os i).2.1) ∧ (flatO os)[i * 4 + 2]? = some (.int .i64 (oth os i).2.2.1) ∧ (flatO os)[i * 4 + 3]? = some (.int .i64 (oth os i).2.2.2) := by
  induction os generalizing i with
  | nil => simp at h
  | cons p os ih =>
    have e : flatO (p :: os) = .int .i64 p.1 :: .int .i64 p.2.1 :: .int .i64 p.2.2.1 :: .int .i64 p.2.2.2 :: flatO os := rfl
    rcases i with _ | i
    · exact ⟨rfl, rfl, rfl, rfl⟩
    · have := ih (i := i) (by simpa using h)
      rw [e, show (i + 1) * 4 = i * 4 + 1 + 1 + 1 + 1 by omega, show i * 4 + 1 + 1 + 1 + 1 + 1 = (i * 4 + 1) + 1 + 1 + 1 + 1 by omega, show i * 4 + 1 + 1 + 1 + 1 + 2 = (i * 4 + 2) + 1 + 1 + 1 + 1 by omega, show i * 4 + 1 + 1 + 1 + 1 + 3 = (i * 4 + 3) + 1 + 1 + 1 + 1 by omega]
      simp only [List.getElem?_cons_succ]
      have ep : oth (p :: os) (i + 1) = oth os i := by simp [oth]
      rw [ep]
      exact this
theorem flatO_one (os : List Opn) : ∀ u ∈ flatO os, u.oneCell' = true := by
  intro u hu
  unfold flatO at hu
  rw [List.mem_flatMap] at hu
  obtain ⟨p, _, hp⟩ := hu
  simp only [List.mem_cons, List.mem_nil_iff, or_false] at hp
  rcases hp with rfl | rfl | rfl | rfl <;> rfl
theorem quads_news {w : World} {B : Nat} {b o n : Nat} {os : List Opn} (h : Quads w B (some ⟨b, o, none⟩) n os) : ∀ j u, (flatO os)[j]? = some u → w.cell? ((⟨b, o, none⟩ : Addr).add j) = some u := by
  intro j u hu
  have hj : j < os.length * 4 := by
    rw [← flatO_len]
    exact (List.getElem?_eq_some_iff.1 hu).1
  have hi : j / 4 < os.length := by omega
  obtain ⟨b', o', hA, _, hc⟩ := h.2 (by have := h.1; omega)
  cases hA
  obtain ⟨c0, c1, c2, c3⟩ := hc (j / 4) (by have := h.1; omega)
  obtain ⟨f0, f1, f2, f3⟩ := flatO_at hi
  rw [show (⟨b, o, none⟩ : Addr).add j = ⟨b, o + j, none⟩ by unfold Addr.add; split <;> simp_all]
  have hcase : j = j / 4 * 4 ∨ j = j / 4 * 4 + 1 ∨ j = j / 4 * 4 + 2 ∨ j = j / 4 * 4 + 3 := by omega
  generalize hq : j / 4 = q at *
  rcases hcase with e | e | e | e
  · rw [e] at hu ⊢; rw [c0, ← f0, hu]
  · rw [e] at hu ⊢; rw [← Nat.add_assoc, c1, ← f1, hu]
  · rw [e] at hu ⊢; rw [← Nat.add_assoc, c2, ← f2, hu]
  · rw [e] at hu ⊢; rw [← Nat.add_assoc, c3, ← f3, hu]
theorem own_quads {w : World} {base : Nat} {e : TypeId} {q cap : Nat} {os : List Opn} (h : w.ownsRow base e 4 (.slice (some ⟨q, 0, none⟩) os.length cap) os.length (flatO os)) : Quads w w.heap.size (some ⟨q, 0, none⟩) os.length os := by
  refine ⟨rfl, fun _ => ⟨q, 0, rfl, (h.lt q rfl).2, fun i hi => ?_⟩⟩
  rw [Nat.zero_add, h.cellAt (i * 4) (by omega), h.cellAt (i * 4 + 1) (by omega), h.cellAt (i * 4 + 2) (by omega), h.cellAt (i * 4 + 3) (by omega)]
  exact flatO_at hi

/-- The block g holds these opens, from its beginning, and can be written. -/
structure HeldQ (w : World) (g : Nat) (d : List Opn) : Prop where
  lt : g < w.heap.size
  fr : ∀ o, w.frozen? ⟨g, o, none⟩ = false
  cs : ∀ i, i < d.length → w.cell? ⟨g, i * 4, none⟩ = some (.int .i64 (oth d i).1) ∧ w.cell? ⟨g, i * 4 + 1, none⟩ = some (.int .i64 (oth d i).2.1) ∧ w.cell? ⟨g, i * 4 + 2, none⟩ = some (.int .i64 (oth d i).2.2.1) ∧ w.cell? ⟨g, i * 4 + 3, none⟩ = some (.int .i64 (oth d i).2.2.2)
theorem HeldQ.keep {w w' : World} {g : Nat} {d : List Opn} (h : HeldQ w g d) (hl : g < w'.heap.size) (hf : ∀ o, w'.frozen? ⟨g, o, none⟩ = w.frozen? ⟨g, o, none⟩) (hc : ∀ o, w'.cell? ⟨g, o, none⟩ = w.cell? ⟨g, o, none⟩) : HeldQ w' g d :=
  ⟨hl, fun o => (hf o).trans (h.fr o), fun i hi => ⟨(hc _).trans (h.cs i hi).1, (hc _).trans (h.cs i hi).2.1, (hc _).trans (h.cs i hi).2.2.1, (hc _).trans (h.cs i hi).2.2.2⟩⟩
theorem HeldQ.later {w w' : World} {g : Nat} {d : List Opn} (h : HeldQ w g d) (hb : Below w.heap.size w w') : HeldQ w' g d :=
  h.keep (Nat.lt_of_lt_of_le h.lt hb.size) (fun o => hb.frozen (p := ⟨g, o, none⟩) h.lt) (fun o => hb.cell (p := ⟨g, o, none⟩) h.lt)
theorem HeldQ.kept {w w' : World} {g : Nat} {d : List Opn} {r : Option Nat} (h : HeldQ w g d) (hg : w.grownBy w' r) (hne : r ≠ some g) : HeldQ w' g d :=
  h.keep (Nat.lt_of_lt_of_le h.lt hg.size) (fun o => hg.frozen_far ⟨g, o, none⟩ h.lt (fun e => hne e.symm)) (fun o => hg.cell_far ⟨g, o, none⟩ h.lt (fun e => hne e.symm))
theorem HeldQ.quads {w : World} {g : Nat} {os : List Opn} (h : HeldQ w g os) : Quads w w.heap.size (some ⟨g, 0, none⟩) os.length os :=
  ⟨rfl, fun _ => ⟨g, 0, rfl, h.lt, fun i hi => by rw [Nat.zero_add]; exact h.cs i hi⟩⟩
theorem own_heldQ {w : World} {base : Nat} {e : TypeId} {q cap : Nat} {os : List Opn} (h : w.ownsRow base e 4 (.slice (some ⟨q, 0, none⟩) os.length cap) os.length (flatO os)) : HeldQ w q os := by
  refine ⟨(h.lt q rfl).2, fun o => ?_, fun i hi => ?_⟩
  · rcases h.2 with ⟨h', _⟩ | ⟨g', cap', cur, h', _, hg, _⟩
    · simp at h'
    · simp only [Value.slice.injEq, Option.some.injEq, Addr.mk.injEq, and_true, true_and] at h'
      obtain ⟨rfl, rfl⟩ := h'
      simp [World.frozen?, hg]
  · rw [h.cellAt (i * 4) (by omega), h.cellAt (i * 4 + 1) (by omega), h.cellAt (i * 4 + 2) (by omega), h.cellAt (i * 4 + 3) (by omega)]
    exact flatO_at hi
theorem HeldQ.put {w : World} {g : Nat} {d : List Opn} (h : HeldQ w g d) (i : Nat) (x : Opn) :
    HeldQ ((((w.setCell ⟨g, i * 4, none⟩ (.int .i64 x.1)).setCell ⟨g, i * 4 + 1, none⟩ (.int .i64 x.2.1)).setCell ⟨g, i * 4 + 2, none⟩ (.int .i64 x.2.2.1)).setCell ⟨g, i * 4 + 3, none⟩ (.int .i64 x.2.2.2)) g (d.set i x) := by
  refine ⟨by simp only [size_set]; exact h.lt, fun o => by simp only [World.frozen?_setCell]; exact h.fr o, fun j hj => ?_⟩
  rw [List.length_set] at hj
  obtain ⟨c0, c1, c2, c3⟩ := h.cs j hj
  by_cases e : j = i
  · subst e
    have ex : oth (d.set j x) j = x := by simp [oth, hj]
    rw [ex]
    refine ⟨?_, ?_, ?_, ?_⟩
    · rw [cell_set1 (cell_set1 (cell_set1 (cell_set1 c0)))]; simp
    · rw [cell_set1 (cell_set1 (cell_set1 (cell_set1 c1)))]; simp
    · rw [cell_set1 (cell_set1 (cell_set1 (cell_set1 c2)))]; simp
    · rw [cell_set1 (cell_set1 (cell_set1 (cell_set1 c3)))]; simp
  · have ex : oth (d.set i x) j = oth d j := by simp [oth, show ¬ i = j from fun h => e h.symm]
    rw [ex]
    refine ⟨?_, ?_, ?_, ?_⟩
    · rw [cell_set1 (cell_set1 (cell_set1 (cell_set1 c0))), if_neg (by omega), if_neg (by omega), if_neg (by omega), if_neg (by omega)]
    · rw [cell_set1 (cell_set1 (cell_set1 (cell_set1 c1))), if_neg (by omega), if_neg (by omega), if_neg (by omega), if_neg (by omega)]
    · rw [cell_set1 (cell_set1 (cell_set1 (cell_set1 c2))), if_neg (by omega), if_neg (by omega), if_neg (by omega), if_neg (by omega)]
    · rw [cell_set1 (cell_set1 (cell_set1 (cell_set1 c3))), if_neg (by omega), if_neg (by omega), if_neg (by omega), if_neg (by omega)]

/-- A part of a slice of opens. -/
theorem Quads.take {w : World} {B : Nat} {b o n k : Nat} {os : List Opn} (h : Quads w B (some ⟨b, o, none⟩) n os) (hk : k ≤ n) : Quads w B (some ⟨b, o, none⟩) k (os.take k) := by
  refine ⟨by rw [List.length_take, h.1]; omega, fun hpos => ?_⟩
  obtain ⟨b', o', hA, hb, hc⟩ := h.2 (by omega)
  cases hA
  refine ⟨b, o, rfl, hb, fun i hi => ?_⟩
  have e : oth (os.take k) i = oth os i := by simp [oth, hi]
  rw [e]
  exact hc i (by omega)
theorem Quads.drop {w : World} {B : Nat} {b o n k : Nat} {os : List Opn} (h : Quads w B (some ⟨b, o, none⟩) n os) (hk : k ≤ n) : Quads w B (some ⟨b, o + k * 4, none⟩) (n - k) (os.drop k) := by
  refine ⟨by rw [List.length_drop, h.1], fun hpos => ?_⟩
  obtain ⟨b', o', hA, hb, hc⟩ := h.2 (by omega)
  cases hA
  refine ⟨b, o + k * 4, rfl, hb, fun i hi => ?_⟩
  have e : oth (os.drop k) i = oth os (k + i) := by simp [oth, List.getElem?_drop]
  rw [e]
  have := hc (k + i) (by omega)
  rw [show o + (k + i) * 4 = o + k * 4 + i * 4 by omega] at this
  exact this

/-- The place behind the last open of a lesser client. -/
def behS (c : Int) (s : Nat × Nat) (o : Opn) : Nat × Nat := (s.1 + 1, if o.1 < c then s.1 + 1 else s.2)
def behN (c : Int) (os : List Opn) : Nat := (os.foldl (behS c) (0, 0)).2
theorem beh_fst (c : Int) (os : List Opn) (s : Nat × Nat) : (os.foldl (behS c) s).1 = s.1 + os.length := by
  induction os generalizing s with
  | nil => rfl
  | cons o os ih => rw [List.foldl_cons, ih, List.length_cons]; simp only [behS]; omega
theorem behN_snoc {c : Int} {os : List Opn} {k : Nat} (h : k < os.length) : behN c (os.take (k + 1)) = if (oth os k).1 < c then k + 1 else behN c (os.take k) := by
  rw [List.take_succ_eq_append_getElem h, ← oth_lt h]
  unfold behN
  rw [List.foldl_append, List.foldl_cons, List.foldl_nil]
  have := beh_fst c (os.take k) (0, 0)
  simp only [behS, this, List.length_take]
  split
  · omega
  · rfl
theorem behN_le (c : Int) (os : List Opn) : behN c os ≤ os.length := by
  have key : ∀ k, k ≤ os.length → behN c (os.take k) ≤ k := by
    intro k
    induction k with
    | zero => intro _; rw [List.take_zero]; exact Nat.le_refl _
    | succ k ih =>
      intro hk
      rw [behN_snoc (by omega)]
      split
      · omega
      · have := ih (by omega); omega
  have := key os.length (Nat.le_refl _)
  rwa [List.take_length] at this
/-- Where the first open of a client stands, or that there is none. -/
def firstAt (c : Int) (os : List Opn) (i : Nat) : Prop := i < os.length ∧ (oth os i).1 = c ∧ ∀ j, j < i → (oth os j).1 ≠ c
def noneAt (c : Int) (os : List Opn) : Prop := ∀ j, j < os.length → (oth os j).1 ≠ c
/-- The opens with one more, in its place. -/
def putO (os : List Opn) (i j : Nat) (o : Opn) : List Opn := os.take i ++ [o] ++ os.drop j
theorem putO_len {os : List Opn} {i j : Nat} {o : Opn} (hi : i ≤ os.length) (hj : j ≤ os.length) : (putO os i j o).length = i + 1 + (os.length - j) := by
  simp [putO]; omega
theorem first_cases (c : Int) (os : List Opn) : (∃ i, firstAt c os i) ∨ noneAt c os := by
  by_cases h : ∃ j, j < os.length ∧ (oth os j).1 = c
  · left
    have hf : ∀ n, (∃ j, j < n ∧ j < os.length ∧ (oth os j).1 = c) → ∃ i, firstAt c os i := by
      intro n
      induction n with
      | zero => rintro ⟨j, hj, _⟩; omega
      | succ n ih =>
        rintro ⟨j, hj, h1, h2⟩
        by_cases hn : ∃ j, j < n ∧ j < os.length ∧ (oth os j).1 = c
        · exact ih hn
        · by_cases e : j = n
          · subst e
            exact ⟨j, h1, h2, fun m hm hc => hn ⟨m, hm, by omega, hc⟩⟩
          · exact absurd ⟨j, by omega, h1, h2⟩ hn
    obtain ⟨j, h1, h2⟩ := h
    exact hf (j + 1) ⟨j, by omega, h1, h2⟩
  · right
    intro j hj hc
    exact h ⟨j, hj, hc⟩
/-- What WithOpen puts together. -/
def withO (os : List Opn) (o : Opn) : List Opn :=
  match os.findIdx? (fun x => x.1 == o.1) with
  | some i => putO os i (i + 1) o
  | none => putO os (behN o.1 os) (behN o.1 os) o
theorem withO_first {os : List Opn} {o : Opn} {i : Nat} (h : firstAt o.1 os i) : withO os o = putO os i (i + 1) o := by
  have e : os.findIdx? (fun x => x.1 == o.1) = some i := by
    rw [List.findIdx?_eq_some_iff_getElem]
    refine ⟨h.1, by have := h.2.1; rw [oth_lt h.1] at this; simp [this], fun j hj => ?_⟩
    have hj' : j < os.length := Nat.lt_trans hj h.1
    have := h.2.2 j hj
    rw [oth_lt hj'] at this
    simpa using this
  unfold withO
  rw [e]
theorem withO_none {os : List Opn} {o : Opn} (h : noneAt o.1 os) : withO os o = putO os (behN o.1 os) (behN o.1 os) o := by
  have e : os.findIdx? (fun x => x.1 == o.1) = none := by
    rw [List.findIdx?_eq_none_iff]
    intro x hx
    obtain ⟨j, hj, rfl⟩ := List.getElem_of_mem hx
    have := h j hj
    rw [oth_lt hj] at this
    simpa using this
  unfold withO
  rw [e]
theorem withO_len (os : List Opn) (o : Opn) : (withO os o).length ≤ os.length + 1 ∧ 1 ≤ (withO os o).length := by
  rcases first_cases o.1 os with ⟨i, h⟩ | h
  · rw [withO_first h, putO_len (by have := h.1; omega) (by have := h.1; omega)]; have := h.1; omega
  · rw [withO_none h, putO_len (behN_le _ _) (behN_le _ _)]; have := behN_le o.1 os; omega

end Go.Proofs.YtjdepjpjjgkmbaaGreat

/- The opens of a shelf: where the one of a client stands, and which it is (the program's and the model's): contracts of each of them. -/
namespace Go.Proofs.YtjdepjpjjgkmbaaGreat
open Go.RowKit

/-- What placeOf answers. -/
def Place (c : Int) (os : List Opn) (w : World) (e : Ending) (w' : World) : Prop :=
  Below w.heap.size w w' ∧ ((∃ i : Nat, firstAt c os i ∧ e = .returned (.tuple #[.int .i64 (i : Int), .int .i64 ((i : Int) + 1)])) ∨ (noneAt c os ∧ e = .returned (.tuple #[.int .i64 (behN c os : Int), .int .i64 (behN c os : Int)])))

set_option maxHeartbeats 1000000 in
theorem placeOf_is (A : Option Addr) (n cap : Nat) (os : List Opn) (c : Int) (w : World) (hm : n ≤ 4194304) (hr : Quads w w.heap.size A n os) :
    Calls Tryz.prog 113 #[.slice A n cap, .int .i64 c] w (Place c os w) := by
  have HR := Lib.hid hr
  have HL := Lib.hid hr.1
  clear hr
  go_enter Tryz.func113, Tryz.ntmps113
  go_wp2_with fail
  go_loopw [6, 11] (fun bv iv wr => ∃ k b : Nat, k ≤ n ∧ b ≤ k ∧ iv = .int .i64 k ∧ bv = .int .i64 b ∧ behN c (os.take k) = b ∧ (∀ j, j < k → (oth os j).1 ≠ c) ∧ Below w.heap.size w wr) (fun _ i _ => n - (intOf i).toNat)
  case atStart => exact ⟨0, 0, Nat.zero_le _, Nat.le_refl _, rfl, rfl, rfl, fun j hj => absurd hj (by omega), Below.refl _ _⟩
  case round =>
    obtain ⟨k, bb, hk, hbk, rfl, rfl, hbe, hne, hb⟩ := hrel
    by_cases hlt : k < n
    · obtain ⟨b, o, hA, hbB, hcell⟩ := HR.out.2 (by omega)
      subst hA
      obtain ⟨g0, g1, g2, g3⟩ := hcell k hlt
      have g0 := (hb.cell (p := ⟨b, o + k * 4, none⟩) hbB).trans g0
      have g1 := (hb.cell (p := ⟨b, o + k * 4 + 1, none⟩) hbB).trans g1
      have g2 := (hb.cell (p := ⟨b, o + k * 4 + 2, none⟩) hbB).trans g2
      have g3 := (hb.cell (p := ⟨b, o + k * 4 + 3, none⟩) hbB).trans g3
      have hsn := behN_snoc (c := c) (os := os) (k := k) (by rw [HL.out]; exact hlt)
      generalize hx : oth os k = x at g0 g1 g2 g3 hsn
      obtain ⟨x, y, z, u⟩ := x
      have HX := Lib.hid hx
      have hlt' : (k : Int) < (n : Int) := by omega
      rw [hbe] at hsn
      replace hbe := Lib.hid hbe
      replace hne := Lib.hid hne
      have E2 := bel_trans hb (bel_alloc wr (.cells #[.int .i64 x, .int .i64 y, .int .i64 z, .int .i64 u] 97))
      clear hx hcell
      by_cases he : x = c
      · subst he
        clear hsn
        go_wp2
        go_ret2
        exact ⟨E2, .inl ⟨k, ⟨by rw [HL.out]; exact hlt, by rw [HX.out], hne.out⟩, rfl⟩⟩
      · have he' : (x == c) = false := by simpa using he
        have hne2 := Lib.hid (show ∀ j, j < k + 1 → (oth os j).1 ≠ c from fun j hj => by
          by_cases ej : j = k
          · subst ej; rw [HX.out]; exact he
          · exact hne.out j (by omega))
        by_cases hl : x < c
        · simp only [hl, if_true] at hsn
          replace hsn := Lib.hid hsn
          go_wp2
          go_roundw
          case rel => exact ⟨k + 1, k + 1, by omega, by omega, by go_num, by go_num, hsn.out, hne2.out, E2⟩
          case measure => simp [intOf]; omega
        · simp only [hl, if_false] at hsn
          replace hsn := Lib.hid hsn
          go_wp2
          go_roundw
          case rel => exact ⟨k + 1, bb, by omega, by omega, by go_num, rfl, hsn.out, hne2.out, E2⟩
          case measure => simp [intOf]; omega
    · obtain rfl : k = n := by omega
      rw [← HL.out, List.take_length] at hbe
      replace hbe := Lib.hid hbe
      replace hne := Lib.hid hne
      go_wp2
      go_ret2
      exact ⟨hb, .inr ⟨fun j hj => hne.out j (by rw [← HL.out]; exact hj), by rw [hbe.out]; rfl⟩⟩

end Go.Proofs.YtjdepjpjjgkmbaaGreat

/- The laws' own copies of opens and shelves, their size, the test that two are alike, their marks: contracts of each of them. -/
namespace Go.Proofs.YtjdepjpjjgkmbaaGreat
open Go.RowKit

theorem Tryz.infoOpen : (Tryz.prog.info? 97).map (fun i => (i.zero, i.size, i.bytes)) = some (some (.agg #[.int .i64 0, .int .i64 0, .int .i64 0, .int .i64 0]), 4, 32) := by kernel_rfl

theorem HeldK.far {w : World} {g : Nat} {d : List (Int × Int)} (h : Held w g d) {b : Nat} (hb : b ≠ g) (o : Nat) (v : Value) : Held (w.setCell ⟨b, o, none⟩ v) g d :=
  ⟨by rw [size_set]; exact h.lt, fun j => by simp [h.fr j], fun i hi => by rw [World.cell?_setCell_other _ _ _ _ (fun e => hb (by injection e))]; exact h.at0 i hi, fun i hi => by rw [World.cell?_setCell_other _ _ _ _ (fun e => hb (by injection e))]; exact h.at1 i hi⟩
theorem HeldQ.far {w : World} {g : Nat} {d : List Opn} (h : HeldQ w g d) {b : Nat} (hb : b ≠ g) (o : Nat) (v : Value) : HeldQ (w.setCell ⟨b, o, none⟩ v) g d :=
  h.keep (by rw [size_set]; exact h.lt) (fun j => by simp) (fun j => World.cell?_setCell_other _ _ _ _ (fun e => hb (by injection e)))

end Go.Proofs.YtjdepjpjjgkmbaaGreat

/- The library's stable sort over a slice of pairs, second part: comparing two pairs, sorting by insertion. -/
namespace Go.Proofs.YtjdepjpjjgkmbaaGreat
open Go.RowKit

/-- Two seals are compared by their first numbers. -/
theorem cmpSeal_any (a b c d : Int) (w : World) :
    Calls Tryz.prog 250 #[.agg #[.int .i64 a, .int .i64 b], .agg #[.int .i64 c, .int .i64 d]] w fun e w' => e = .returned (.int .i64 (sgn a c)) ∧ Below w.heap.size w w' := by
  have hb := bel_trans (bel_alloc w (.cells #[.int .i64 a, .int .i64 b] 136)) (bel_alloc _ (.cells #[.int .i64 c, .int .i64 d] 136))
  have D := ((Box.new w 136 #[.int .i64 a, .int .i64 b]).alloc (.cells #[.int .i64 c, .int .i64 d] 136)).two
  have X := (Box.new (w.alloc (.cells #[.int .i64 a, .int .i64 b] 136)) 136 #[.int .i64 c, .int .i64 d]).two
  simp only [World.size_alloc] at X
  obtain ⟨d0, _⟩ := D
  obtain ⟨x0, _⟩ := X
  go_enter Tryz.func250, Tryz.ntmps250
  go_wp2_with fail
  generalize ((w.alloc _).alloc _ : World) = w0 at hb d0 x0 ⊢
  refine (compare_any a c w0).mono ?_
  rintro e w' ⟨rfl, rfl⟩
  go_wp2
  go_ret
  exact ⟨rfl, hb⟩

theorem cmpSeal_is {a c s : Int} (h : sgn a c = s) (b d : Int) (w : World) :
    Calls Tryz.prog 250 #[.agg #[.int .i64 a, .int .i64 b], .agg #[.int .i64 c, .int .i64 d]] w fun e w' => e = .returned (.int .i64 s) ∧ Below w.heap.size w w' := by
  rw [← h]
  exact cmpSeal_any a b c d w

/-- Not smaller: 0 or 1. -/
theorem sgn_ge {a c : Int} (h : ¬ a < c) : sgn a c = if c < a then 1 else 0 := by simp [sgn, h]

theorem Srt.mid {Z1 Z2 : List (Int × Int)} {y : Int × Int} (h : Srt (Z1 ++ Z2)) (h1 : ∀ p ∈ Z1, p.1 ≤ y.1) (h2 : ∀ p ∈ Z2, y.1 < p.1) : Srt (Z1 ++ y :: Z2) := by
  have h' := List.pairwise_append.1 h
  refine List.pairwise_append.2 ⟨h'.1, List.pairwise_cons.2 ⟨fun p hp => Int.le_of_lt (h2 p hp), h'.2.1⟩, fun p hp q hq => ?_⟩
  rcases List.mem_cons.1 hq with e | e
  · rw [e]; exact h1 p hp
  · exact h'.2.2 p hp q e
theorem Same.mid {Z1 Z2 X1 : List (Int × Int)} {y : Int × Int} (h : Same (Z1 ++ Z2) X1) (h2 : ∀ p ∈ Z2, y.1 < p.1) : Same (Z1 ++ y :: Z2) (X1 ++ [y]) := by
  have e : Same (Z1 ++ ([y] ++ Z2)) (Z1 ++ (Z2 ++ [y])) := (Same.refl Z1).app (Same.swap fun p hp q hq => by
    simp only [List.mem_singleton] at hq
    have := h2 p hp
    rw [hq]
    omega)
  refine Same.trans e ?_
  rw [← List.append_assoc]
  exact h.app (Same.refl _)
theorem Srt.last {Z : List (Int × Int)} {z : Int × Int} (h : Srt (Z ++ [z])) : ∀ p ∈ Z ++ [z], p.1 ≤ z.1 := by
  have h' := List.pairwise_append.1 h
  intro p hp
  rcases List.mem_append.1 hp with e | e
  · exact h'.2.2 p e z (by simp)
  · simp only [List.mem_singleton] at e
    rw [e]
    exact Int.le_refl _

/-- What sorting leaves. -/
def Sorts (w : World) (g : Nat) (A X B : List (Int × Int)) (e : Ending) (w' : World) : Prop :=
  ∃ Z : List (Int × Int), Z.length = X.length ∧ Srt Z ∧ Same Z X ∧ Does w g (A ++ (Z ++ B)) e w'

set_option maxRecDepth 100000 in
set_option maxHeartbeats 800000 in
theorem insSort_is (g n cap : Nat) (ai bi : Int) (A X B : List (Int × Int)) (w : World) (hn : n ≤ 4194304) (hl : A.length + X.length + B.length = n)
    (hA : ai = (A.length : Int)) (hb : bi = ((A.length + X.length : Nat) : Int)) (H : Held w g (A ++ (X ++ B))) :
    Calls Tryz.prog 257 #[.slice (some ⟨g, 0, none⟩) n cap, .int .i64 ai, .int .i64 bi, (.func (Fn.func 250) #[] #[])] w (Sorts w g A X B) := by
  generalize hb' : A.length + X.length = b at hb
  generalize ha' : A.length = a at hA hb' hl
  subst hA hb
  rcases X with _ | ⟨x0, X0⟩
  · have hab : a = b := by simpa using hb'
    subst hab
    go_enter Tryz.func257, Tryz.ntmps257
    go_wp2_with fail
    go_loopw [8] (fun i wr => i = .int .i64 ((a : Int) + 1) ∧ wr = w) (fun i _ => 0)
    case atStart => exact ⟨rfl, rfl⟩
    case round =>
      obtain ⟨rfl, rfl⟩ := hrel
      go_wp2
      go_end0
      exact ⟨[], rfl, by simp [Srt], Same.refl _, rfl, H, grown_refl _ _⟩
  · have HH := Lib.hid H
    clear H
    go_enter Tryz.func257, Tryz.ntmps257
    go_wp2_with fail
    go_loopw [8] (fun i wr => ∃ (Z Y X1 : List (Int × Int)) (k : Nat), X1 ++ Y = x0 :: X0 ∧ Z.length = X1.length ∧ a + Z.length = k ∧ i = .int .i64 k ∧ Srt Z ∧ Same Z X1 ∧ Held wr g (A ++ (Z ++ (Y ++ B))) ∧ w.grownBy wr (some g)) (fun i _ => b - (intOf i).toNat)
    case atStart => exact ⟨[x0], X0, [x0], a + 1, rfl, rfl, rfl, by go_num, by simp [Srt], Same.refl _, HH.out, grown_refl _ _⟩
    case round =>
      obtain ⟨Z, Y, X1, k, hX, hZl, hk, rfl, hsrt, hsame, hh, hg⟩ := hrel
      have hXl := congrArg List.length hX
      simp only [List.length_append, List.length_cons] at hXl hb' hl
      rcases Y with _ | ⟨y, Y⟩
      · simp only [List.length_nil] at hXl
        have hkb : k = b := by omega
        subst hkb
        go_wp2
        go_end0
        refine ⟨Z, ?_, hsrt, ?_, rfl, ?_, hg⟩
        · simp; omega
        · rw [← hX]; simpa using hsame
        · simpa using hh
      · simp only [List.length_cons] at hXl
        have hkb : k < b := by omega
        have hkb' : (k : Int) < (b : Int) := by omega
        go_wp2_with fail
        go_loopw [9] (fun j wr => ∃ (Z1 Z2 : List (Int × Int)) (q : Nat), Z1 ++ Z2 = Z ∧ a + Z1.length = q ∧ j = .int .i64 q ∧ (∀ p ∈ Z2, y.1 < p.1) ∧ Held wr g (A ++ (Z1 ++ (y :: (Z2 ++ (Y ++ B))))) ∧ w.grownBy wr (some g)) (fun j _ => (intOf j).toNat)
        case atStart => exact ⟨Z, [], k, by simp, hk, rfl, by simp, by simpa using hh, hg⟩
        case round =>
          obtain ⟨Z1, Z2, q, hZ, hq, rfl, hZ2, hh2, hg2⟩ := hrel
          have hlen := congrArg List.length hZ
          simp only [List.length_append] at hlen
          rcases Z1.eq_nil_or_concat with rfl | ⟨Z3, z, rfl⟩
          · have hqa : q = a := by simpa using hq.symm
            subst hqa
            go_wp2_with fail
            refine wp_region_after (by kernel_rfl) (by kernel_rfl) ?_
            repeat (first | go_big_quiet_step (fail) | quiet_step (fail))
            refine wpQuiet_nil ?_
            intro pw
            go_wp2
            go_roundw
            case rel => exact ⟨y :: Z2, Y, X1 ++ [y], k + 1, by simpa using hX, by simp; omega, by simp; omega, by go_num, Srt.mid (Z1 := []) (by rw [hZ]; exact hsrt) (by simp) hZ2, Same.mid (Z1 := []) (by rw [hZ]; exact hsame) hZ2, by simpa using hh2.later pw.bel, grown_trans hg2 (grown_bel pw.bel _)⟩
            case measure => simp [intOf]; omega
          · rw [List.concat_eq_append] at hZ hq hh2 hlen
            simp only [List.length_append, List.length_singleton] at hq hlen
            obtain ⟨r, rfl⟩ : ∃ r, q = r + 1 := ⟨q - 1, by omega⟩
            generalize hd : (A ++ ((Z3 ++ [z]) ++ (y :: (Z2 ++ (Y ++ B))))) = d at hh2
            have hdl : d.length = n := by subst hd; simp only [List.length_append, List.length_cons, List.length_nil]; omega
            have hpz : pth d r = z := pth_at (P := A ++ Z3) (Q := y :: (Z2 ++ (Y ++ B))) (by rw [← hd]; simp) (by simp; omega)
            have hpy : pth d (r + 1) = y := pth_at (P := A ++ (Z3 ++ [z])) (Q := Z2 ++ (Y ++ B)) (by rw [← hd]; simp) (by simp; omega)
            have hrn : (r : Int) + 1 < n := by omega
            have hrn' : (r : Int) < n := by omega
            have har : (a : Int) < (r : Int) + 1 := by omega
            have c0 := hh2.at0 (r + 1) (by omega)
            have c1 := hh2.at1 (r + 1) (by omega)
            have c2 := hh2.at0 r (by omega)
            have c3 := hh2.at1 r (by omega)
            rw [hpy] at c0 c1
            rw [hpz] at c2 c3
            have g0 := After.cell (by exact hh2.lt) c0
            have g1 := After.cell (by exact hh2.lt) c1
            have g2 := After.cell (by exact hh2.lt) c2
            have g3 := After.cell (by exact hh2.lt) c3
            have HS := Lib.hid (fun (W : World) (h : Held W g d) => h.swap (r + 1) r hpy hpz)
            have HH2 := Lib.hid hh2
            have HG2 := Lib.hid hg2
            clear hh2 hg2
            obtain ⟨y, y'⟩ := y
            obtain ⟨z, z'⟩ := z
            by_cases hyz : y < z
            · have hs : sgn y z = -1 := sgn_lt hyz
              go_wp2_with fail
              refine wp_region_after (by kernel_rfl) (by kernel_rfl) ?_
              repeat (first | go_big_quiet_step ((go_at_call 250; exact after_of (cmpSeal_is hs y' z' _))) | quiet_step ((go_at_call 250; exact after_of (cmpSeal_is hs y' z' _))))
              refine wpQuiet_nil ?_
              intro pw
              have hh3 := HH2.out.later pw.bel
              have hg3 := grown_trans HG2.out (grown_bel pw.bel (some g))
              have HS3 := Lib.hid (HS.out _ hh3)
              have d0 := g0 pw
              have d1 := g1 pw
              have d2 := g2 pw
              have d3 := g3 pw
              have fr := hh3.fr
              clear g0 g1 g2 g3 hh3
              go_wp2
              go_region
              go_wp2
              go_roundw
              case rel =>
                refine ⟨Z3, (z, z') :: Z2, r, by rw [← hZ]; simp, by omega, by go_num, ?_, ?_, grown_drew (grown_swap hg3 _ _ _ _ _ _ _ _)⟩
                · intro p hp
                  rcases List.mem_cons.1 hp with e | e
                  · rw [e]; exact hyz
                  · exact hZ2 p e
                · have hs' : swp d (r + 1) r = A ++ (Z3 ++ ((y, y') :: (((z, z') :: Z2) ++ (Y ++ B)))) := by
                    rw [swp_comm _ _ _ (by omega)]
                    exact swp_at (x := (z, z')) (y := (y, y')) (P := A ++ Z3) (Q := []) (R := Z2 ++ (Y ++ B)) (by rw [← hd]; simp) (by simp; omega) (by simp; omega) (by simp)
                  rw [← hs']
                  exact HS3.out.drew
              case measure => simp [intOf]
            · have hs := sgn_ge hyz
              go_wp2_with fail
              refine wp_region_after (by kernel_rfl) (by kernel_rfl) ?_
              repeat (first | go_big_quiet_step ((go_at_call 250; exact after_of (cmpSeal_is hs y' z' _))) | quiet_step ((go_at_call 250; exact after_of (cmpSeal_is hs y' z' _))))
              refine wpQuiet_nil ?_
              intro pw
              have hh3 := HH2.out.later pw.bel
              have hg3 := grown_trans HG2.out (grown_bel pw.bel (some g))
              have hsr : Srt ((Z3 ++ [(z, z')]) ++ Z2) := by rw [hZ]; exact hsrt
              have hz3 := Srt.last (List.pairwise_append.1 hsr).1
              go_wp2
              go_roundw
              case rel => exact ⟨(Z3 ++ [(z, z')]) ++ (y, y') :: Z2, Y, X1 ++ [(y, y')], k + 1, by simpa using hX, by simp; omega, by simp; omega, by go_num, Srt.mid hsr (fun p hp => by have := hz3 p hp; simp only at this ⊢; omega) hZ2, Same.mid (by rw [hZ]; exact hsame) hZ2, by rw [← hd] at hh3; simpa using hh3, hg3⟩
              case measure => simp [intOf]; omega

end Go.Proofs.YtjdepjpjjgkmbaaGreat

/- The library's stable sort over a slice of pairs, third part: merging where one side is a single pair. -/
namespace Go.Proofs.YtjdepjpjjgkmbaaGreat
open Go.RowKit

/-- Smaller ones ahead, none smaller behind. -/
theorem Srt.mid2 {Z1 Z2 : List (Int × Int)} {y : Int × Int} (h : Srt (Z1 ++ Z2)) (h1 : ∀ p ∈ Z1, p.1 ≤ y.1) (h2 : ∀ p ∈ Z2, y.1 ≤ p.1) : Srt (Z1 ++ y :: Z2) := by
  have h' := List.pairwise_append.1 h
  refine List.pairwise_append.2 ⟨h'.1, List.pairwise_cons.2 ⟨fun p hp => h2 p hp, h'.2.1⟩, fun p hp q hq => ?_⟩
  rcases List.mem_cons.1 hq with e | e
  · rw [e]; exact h1 p hp
  · exact h'.2.2 p hp q e
theorem sgn_nn {a c : Int} (h : ¬ a < c) : ∃ s : Int, sgn a c = s ∧ 0 ≤ s ∧ s ≤ 1 ∧ decide (s < 0) = false := by
  have := sgn_ge h
  refine ⟨_, rfl, ?_, ?_, ?_⟩ <;> rw [this] <;> split <;> simp
theorem mem_pth {l : List (Int × Int)} {p : Int × Int} (h : p ∈ l) : ∃ i, i < l.length ∧ p = pth l i := by
  obtain ⟨i, hi, rfl⟩ := List.getElem_of_mem h
  exact ⟨i, hi, (pth_lt hi).symm⟩
theorem pth_right (P Q : List (Int × Int)) (i : Nat) : pth (P ++ Q) (P.length + i) = pth Q i := by
  simp [pth, List.getElem?_append_right]
theorem pth_left {P : List (Int × Int)} {i : Nat} (h : i < P.length) (Q : List (Int × Int)) : pth (P ++ Q) i = pth P i := by
  simp [pth, List.getElem?_append_left h]
theorem pth_take {l : List (Int × Int)} {i k : Nat} (h : i < k) : pth (l.take k) i = pth l i := by simp [pth, h]
theorem pth_drop (l : List (Int × Int)) (i k : Nat) : pth (l.drop k) i = pth l (k + i) := by simp [pth, List.getElem?_drop]

theorem pth_seg {d P Y Q : List (Int × Int)} {h m : Nat} (hd : d = P ++ (Y ++ Q)) (hm : m = P.length) (h1 : m ≤ h) (h2 : h < m + Y.length) : pth d h = pth Y (h - m) := by
  subst hd hm
  obtain ⟨t, rfl⟩ : ∃ t, h = P.length + t := ⟨h - P.length, by omega⟩
  rw [pth_right, pth_left (by omega), show P.length + t - P.length = t by omega]

set_option maxRecDepth 100000 in
set_option maxHeartbeats 800000 in
/-- One pair goes into a range in order behind it. -/
theorem symOne_is (g n cap : Nat) (ai mi bi : Int) (A Y B : List (Int × Int)) (x : Int × Int) (w : World) (hn : n ≤ 4194304) (hl : A.length + 1 + Y.length + B.length = n)
    (hA : ai = (A.length : Int)) (hm : mi = ((A.length + 1 : Nat) : Int)) (hb : bi = ((A.length + 1 + Y.length : Nat) : Int)) (hY : Srt Y) (H : Held w g (A ++ (x :: (Y ++ B)))) :
    Calls Tryz.prog 258 #[.slice (some ⟨g, 0, none⟩) n cap, .int .i64 ai, .int .i64 mi, .int .i64 bi, (.func (Fn.func 250) #[] #[])] w (Sorts w g A ([x] ++ Y) B) := by
  generalize hb' : A.length + 1 + Y.length = b at hb
  generalize hm' : A.length + 1 = m at hm hb' hl
  generalize ha' : A.length = a at hA hm'
  subst hA hm hb
  generalize hd : A ++ (x :: (Y ++ B)) = d at H
  have HH := Lib.hid H
  have hY0 := Lib.hid hY
  have hd := Lib.hid hd
  clear H hY
  have hma : ((m : Int) - (a : Int) == 1) = true := by simp; omega
  go_enter Tryz.func258, Tryz.ntmps258
  go_wp2_with fail
  go_loopw [10, 11] (fun iv jv wr => ∃ i j : Nat, iv = .int .i64 i ∧ jv = .int .i64 j ∧ m ≤ i ∧ i ≤ j ∧ j ≤ b ∧ (m < i → (pth Y (i - 1 - m)).1 < x.1) ∧ (j < b → x.1 ≤ (pth Y (j - m)).1) ∧ Below w.heap.size w wr) (fun i j _ => (intOf j).toNat - (intOf i).toNat)
  case atStart => exact ⟨m, b, rfl, rfl, Nat.le_refl _, by omega, Nat.le_refl _, by omega, by omega, Below.refl _ _⟩
  case round =>
    obtain ⟨i, j, rfl, rfl, h1, h2, h3, h4, h5, hbel⟩ := hrel
    have hh := HH.out.later hbel
    have hlen : d.length = n := by rw [← hd.out]; simp only [List.length_append, List.length_cons]; omega
    have hpx : pth d a = x := pth_at (P := A) (Q := Y ++ B) hd.out.symm ha'.symm
    by_cases hij : i < j
    · have hij' : (i : Int) < (j : Int) := by omega
      obtain ⟨h, hmid, hi1, hi2⟩ : ∃ h : Nat, ((i : Int) + (j : Int)) / 2 = (h : Int) ∧ i ≤ h ∧ h < j := ⟨(i + j) / 2, by omega, by omega, by omega⟩
      have hph : pth d h = pth Y (h - m) := pth_seg (P := A ++ [x]) (Q := B) (by rw [← hd.out]; simp) (by simp; omega) (by omega) (by omega)
      have c0 := hh.at0 h (by omega)
      have c1 := hh.at1 h (by omega)
      have c2 := hh.at0 a (by omega)
      have c3 := hh.at1 a (by omega)
      rw [hph] at c0 c1
      rw [hpx] at c2 c3
      have h4 := Lib.hid h4
      have h5 := Lib.hid h5
      generalize hp : pth Y (h - m) = p at c0 c1
      have hp := Lib.hid hp
      have g0 := After.cell (by exact hh.lt) c0
      have g1 := After.cell (by exact hh.lt) c1
      have g2 := After.cell (by exact hh.lt) c2
      have g3 := After.cell (by exact hh.lt) c3
      have hhn : (h : Int) < n := by omega
      have han : (a : Int) < n := by omega
      clear hlen hph hpx hh
      rename_i h4' h5' hp'
      clear h4' h5' hp'
      obtain ⟨x, x'⟩ := x
      obtain ⟨p, p'⟩ := p
      by_cases hlt : p < x
      · have hs : sgn p x = -1 := sgn_lt hlt
        go_wp2_with fail
        refine wp_region_after (by kernel_rfl) (by kernel_rfl) ?_
        repeat (first | go_big_quiet_step ((go_at_call 250; exact after_of (cmpSeal_is hs p' x' _))) | quiet_step ((go_at_call 250; exact after_of (cmpSeal_is hs p' x' _))))
        refine wpQuiet_nil ?_
        intro pw
        go_wp2
        go_roundw
        case rel => exact ⟨h + 1, j, by go_num, rfl, by omega, by omega, h3, fun _ => by rw [show h + 1 - 1 - m = h - m by omega, hp.out]; exact hlt, h5.out, bel_trans hbel pw.bel⟩
        case measure => simp [intOf]; omega
      · have hs := sgn_ge hlt
        go_wp2_with fail
        refine wp_region_after (by kernel_rfl) (by kernel_rfl) ?_
        repeat (first | go_big_quiet_step ((go_at_call 250; exact after_of (cmpSeal_is hs p' x' _))) | quiet_step ((go_at_call 250; exact after_of (cmpSeal_is hs p' x' _))))
        refine wpQuiet_nil ?_
        intro pw
        go_wp2
        go_roundw
        case rel => exact ⟨i, h, rfl, rfl, h1, hi1, by omega, h4.out, fun _ => by rw [hp.out]; simp only; omega, bel_trans hbel pw.bel⟩
        case measure => simp [intOf]; omega
    · obtain rfl : i = j := by omega
      have hi : i - m ≤ Y.length := by omega
      have hY1 : ∀ p ∈ Y.take (i - m), p.1 < x.1 := by
        intro p hp
        obtain ⟨t, ht, rfl⟩ := mem_pth hp
        rw [List.length_take] at ht
        rw [pth_take (by omega)]
        have := h4 (by omega)
        have h6 := srt_at hY0.out (i := t) (j := i - 1 - m) (by omega) (by omega)
        omega
      have hY2 : ∀ p ∈ Y.drop (i - m), x.1 ≤ p.1 := by
        intro p hp
        obtain ⟨t, ht, rfl⟩ := mem_pth hp
        rw [List.length_drop] at ht
        rw [pth_drop]
        have := h5 (by omega)
        have h6 := srt_at hY0.out (i := i - m) (j := i - m + t) (by omega) (by omega)
        omega
      have hY1l : (Y.take (i - m)).length = i - m := by rw [List.length_take]; omega
      have hY12 : Y.take (i - m) ++ Y.drop (i - m) = Y := List.take_append_drop _ _
      generalize Y.take (i - m) = Y1 at hY1 hY1l hY12
      generalize Y.drop (i - m) = Y2 at hY2 hY12
      have hY12 := Lib.hid hY12
      have hY1 := Lib.hid hY1
      have hY2 := Lib.hid hY2
      have h4 := 0
      have h5 := 0
      rename_i q1 q2 q3 q4 q5
      clear h4 h5 q1 q2 q3 q4 q5
      have hh' : Held wr g (A ++ (x :: (Y1 ++ (Y2 ++ B)))) := by rw [← List.append_assoc Y1, hY12.out, hd.out]; exact hh
      have hh := Lib.hid hh'
      clear hh' hpx hlen
      go_wp2_with fail
      go_loopw [13] (fun kv wr => ∃ k : Nat, kv = .int .i64 k ∧ a ≤ k ∧ k + 1 ≤ i ∧ Held wr g (A ++ (Y1.take (k - a) ++ (x :: (Y1.drop (k - a) ++ (Y2 ++ B))))) ∧ w.grownBy wr (some g)) (fun k _ => i - (intOf k).toNat)
      case atStart => exact ⟨a, rfl, Nat.le_refl _, by omega, by simpa using hh.out, grown_bel hbel _⟩
      case round =>
        obtain ⟨k, rfl, hk1, hk2, hhk, hgk⟩ := hrel
        by_cases hki : k + 1 < i
        · obtain ⟨y, hy⟩ : ∃ y, Y1.drop (k - a) = y :: Y1.drop (k - a + 1) := ⟨Y1[k - a]'(by omega), List.drop_eq_getElem_cons (by omega)⟩
          have hYl : Y1.length + Y2.length = Y.length := by rw [← hY12.out]; simp
          generalize hd' : (A ++ (Y1.take (k - a) ++ (x :: (Y1.drop (k - a) ++ (Y2 ++ B))))) = d' at hhk
          have hdl : d'.length = n := by rw [← hd']; simp only [List.length_append, List.length_cons, List.length_take, List.length_drop]; omega
          have hpx : pth d' k = x := pth_at (P := A ++ Y1.take (k - a)) (Q := Y1.drop (k - a) ++ (Y2 ++ B)) (by rw [← hd']; simp) (by simp [List.length_take]; omega)
          have hpy : pth d' (k + 1) = y := pth_at (P := A ++ (Y1.take (k - a) ++ [x])) (Q := Y1.drop (k - a + 1) ++ (Y2 ++ B)) (by rw [← hd', hy]; simp) (by simp [List.length_take]; omega)
          have c0 := hhk.at0 k (by omega)
          have c1 := hhk.at1 k (by omega)
          have c2 := hhk.at0 (k + 1) (by omega)
          have c3 := hhk.at1 (k + 1) (by omega)
          rw [hpx] at c0 c1
          rw [hpy] at c2 c3
          have fr := hhk.fr
          have HS := Lib.hid (hhk.swap k (k + 1) hpx hpy)
          have hki' : (k : Int) < (i : Int) - 1 := by omega
          have hkn : (k : Int) < n := by omega
          have hkn' : (k : Int) + 1 < n := by omega
          have hy := Lib.hid hy
          have hd' := Lib.hid hd'
          rename_i q1 q2
          clear q1 q2 hpx hpy hdl hYl
          obtain ⟨x, x'⟩ := x
          obtain ⟨y, y'⟩ := y
          go_wp2
          go_region
          go_wp2
          go_roundw
          case rel =>
            refine ⟨k + 1, by go_num, by omega, by omega, ?_, grown_drew (grown_swap hgk _ _ _ _ _ _ _ _)⟩
            have hs' : swp d' k (k + 1) = A ++ (Y1.take (k + 1 - a) ++ ((x, x') :: (Y1.drop (k + 1 - a) ++ (Y2 ++ B)))) := by
              rw [show k + 1 - a = k - a + 1 by omega, take_more hy.out]
              exact swp_at (x := (x, x')) (y := (y, y')) (P := A ++ Y1.take (k - a)) (Q := []) (R := Y1.drop (k - a + 1) ++ (Y2 ++ B)) (by rw [← hd'.out, hy.out]; simp) (by simp [List.length_take]; omega) (by simp [List.length_take]; omega) (by simp)
            rw [← hs']
            exact HS.out.drew
          case measure => simp [intOf]; omega
        · have hki' : ¬ (k : Int) < (i : Int) - 1 := by omega
          rw [List.take_of_length_le (by omega), List.drop_of_length_le (by omega)] at hhk
          go_wp2
          first | go_end0 | go_ret
          refine ⟨Y1 ++ x :: Y2, ?_, ?_, ?_, rfl, by simpa using hhk, hgk⟩
          · rw [← hY12.out]; simp; omega
          · exact Srt.mid2 (by rw [hY12.out]; exact hY0.out) (fun p hp => Int.le_of_lt (hY1.out p hp)) hY2.out
          · rw [← hY12.out]
            have e : Same ((Y1 ++ [x]) ++ Y2) (([x] ++ Y1) ++ Y2) := (Same.swap (a := [x]) (b := Y1) fun p hp q hq => by
              simp only [List.mem_singleton] at hp
              have := hY1.out q hq
              rw [hp]
              omega).app (Same.refl _)
            simpa using e

end Go.Proofs.YtjdepjpjjgkmbaaGreat

/- The library's stable sort over a slice of pairs, fourth part: merging where the other side is a single pair. -/
namespace Go.Proofs.YtjdepjpjjgkmbaaGreat
open Go.RowKit

set_option maxRecDepth 100000 in
set_option maxHeartbeats 800000 in
/-- One pair goes into a range in order ahead of it. -/
theorem symLast_is (g n cap : Nat) (ai mi bi : Int) (A X B : List (Int × Int)) (y : Int × Int) (w : World) (hn : n ≤ 4194304) (hl : A.length + X.length + 1 + B.length = n)
    (hA : ai = (A.length : Int)) (hm : mi = ((A.length + X.length : Nat) : Int)) (hb : bi = ((A.length + X.length + 1 : Nat) : Int)) (hX2 : 2 ≤ X.length) (hX : Srt X) (H : Held w g (A ++ (X ++ (y :: B)))) :
    Calls Tryz.prog 258 #[.slice (some ⟨g, 0, none⟩) n cap, .int .i64 ai, .int .i64 mi, .int .i64 bi, (.func (Fn.func 250) #[] #[])] w (Sorts w g A (X ++ [y]) B) := by
  generalize hb' : A.length + X.length + 1 = b at hb hl
  generalize hm' : A.length + X.length = m at hm hb'
  generalize ha' : A.length = a at hA hm'
  subst hA hm hb
  generalize hd : A ++ (X ++ (y :: B)) = d at H
  have HH := Lib.hid H
  have hX0 := Lib.hid hX
  have hd := Lib.hid hd
  clear H hX
  have hma : ((m : Int) - (a : Int) == 1) = false := by simp; omega
  have hbm : ((b : Int) - (m : Int) == 1) = true := by simp; omega
  go_enter Tryz.func258, Tryz.ntmps258
  go_wp2_with fail
  go_loopw [14, 15] (fun iv jv wr => ∃ i j : Nat, iv = .int .i64 i ∧ jv = .int .i64 j ∧ a ≤ i ∧ i ≤ j ∧ j ≤ m ∧ (a < i → (pth X (i - 1 - a)).1 ≤ y.1) ∧ (j < m → y.1 < (pth X (j - a)).1) ∧ Below w.heap.size w wr) (fun i j _ => (intOf j).toNat - (intOf i).toNat)
  case atStart => exact ⟨a, m, rfl, rfl, Nat.le_refl _, by omega, Nat.le_refl _, by omega, by omega, Below.refl _ _⟩
  case round =>
    obtain ⟨i, j, rfl, rfl, h1, h2, h3, h4, h5, hbel⟩ := hrel
    have hh := HH.out.later hbel
    have hlen : d.length = n := by rw [← hd.out]; simp only [List.length_append, List.length_cons]; omega
    have hpy : pth d m = y := pth_at (P := A ++ X) (Q := B) (by rw [← hd.out]; simp) (by simp; omega)
    by_cases hij : i < j
    · have hij' : (i : Int) < (j : Int) := by omega
      obtain ⟨h, hmid, hi1, hi2⟩ : ∃ h : Nat, ((i : Int) + (j : Int)) / 2 = (h : Int) ∧ i ≤ h ∧ h < j := ⟨(i + j) / 2, by omega, by omega, by omega⟩
      have hph : pth d h = pth X (h - a) := pth_seg (P := A) (Q := y :: B) hd.out.symm ha'.symm (by omega) (by omega)
      have c0 := hh.at0 h (by omega)
      have c1 := hh.at1 h (by omega)
      have c2 := hh.at0 m (by omega)
      have c3 := hh.at1 m (by omega)
      rw [hph] at c0 c1
      rw [hpy] at c2 c3
      have h4 := Lib.hid h4
      have h5 := Lib.hid h5
      generalize hp : pth X (h - a) = p at c0 c1
      have hp := Lib.hid hp
      have g0 := After.cell (by exact hh.lt) c0
      have g1 := After.cell (by exact hh.lt) c1
      have g2 := After.cell (by exact hh.lt) c2
      have g3 := After.cell (by exact hh.lt) c3
      have hhn : (h : Int) < n := by omega
      have han : (m : Int) < n := by omega
      clear hlen hph hpy hh
      rename_i h4' h5' hp'
      clear h4' h5' hp'
      obtain ⟨y, y'⟩ := y
      obtain ⟨p, p'⟩ := p
      by_cases hlt : y < p
      · have hs : sgn y p = -1 := sgn_lt hlt
        go_wp2_with fail
        refine wp_region_after (by kernel_rfl) (by kernel_rfl) ?_
        repeat (first | go_big_quiet_step ((go_at_call 250; exact after_of (cmpSeal_is hs y' p' _))) | quiet_step ((go_at_call 250; exact after_of (cmpSeal_is hs y' p' _))))
        refine wpQuiet_nil ?_
        intro pw
        go_wp2
        go_roundw
        case rel => exact ⟨i, h, rfl, rfl, h1, hi1, by omega, h4.out, fun _ => by rw [hp.out]; exact hlt, bel_trans hbel pw.bel⟩
        case measure => simp [intOf]; omega
      · obtain ⟨s, hs, hs0, hs1, hsd⟩ := sgn_nn hlt
        go_wp2_with fail
        refine wp_region_after (by kernel_rfl) (by kernel_rfl) ?_
        repeat (first | go_big_quiet_step ((go_at_call 250; exact after_of (cmpSeal_is hs y' p' _))) | quiet_step ((go_at_call 250; exact after_of (cmpSeal_is hs y' p' _))))
        refine wpQuiet_nil ?_
        intro pw
        go_wp2
        go_roundw
        case rel => exact ⟨h + 1, j, by go_num, rfl, by omega, by omega, h3, fun _ => by rw [show h + 1 - 1 - a = h - a by omega, hp.out]; simp only; omega, h5.out, bel_trans hbel pw.bel⟩
        case measure => simp [intOf]; omega
    · obtain rfl : i = j := by omega
      have hi : i - a ≤ X.length := by omega
      have hX1 : ∀ p ∈ X.take (i - a), p.1 ≤ y.1 := by
        intro p hp
        obtain ⟨t, ht, rfl⟩ := mem_pth hp
        rw [List.length_take] at ht
        rw [pth_take (by omega)]
        have := h4 (by omega)
        have h6 := srt_at hX0.out (i := t) (j := i - 1 - a) (by omega) (by omega)
        omega
      have hX2 : ∀ p ∈ X.drop (i - a), y.1 < p.1 := by
        intro p hp
        obtain ⟨t, ht, rfl⟩ := mem_pth hp
        rw [List.length_drop] at ht
        rw [pth_drop]
        have := h5 (by omega)
        have h6 := srt_at hX0.out (i := i - a) (j := i - a + t) (by omega) (by omega)
        omega
      have hX1l : (X.take (i - a)).length = i - a := by rw [List.length_take]; omega
      have hX12 : X.take (i - a) ++ X.drop (i - a) = X := List.take_append_drop _ _
      generalize X.take (i - a) = X1 at hX1 hX1l hX12
      generalize X.drop (i - a) = X2 at hX2 hX12
      have hXl : X1.length + X2.length = X.length := by rw [← hX12]; simp
      have hX12 := Lib.hid hX12
      have hX1 := Lib.hid hX1
      have hX2 := Lib.hid hX2
      rename_i q0 q1 q2 q3
      clear h4 h5 q1 q2 q3
      have hh' : Held wr g (A ++ (X1 ++ (X2 ++ (y :: B)))) := by rw [← List.append_assoc X1, hX12.out, hd.out]; exact hh
      have hh := Lib.hid hh'
      clear hh' hpy hlen
      go_wp2_with fail
      go_loopw [17] (fun kv wr => ∃ k : Nat, kv = .int .i64 k ∧ i ≤ k ∧ k ≤ m ∧ Held wr g (A ++ (X1 ++ (X2.take (k - i) ++ (y :: (X2.drop (k - i) ++ B))))) ∧ w.grownBy wr (some g)) (fun k _ => (intOf k).toNat)
      case atStart =>
        refine ⟨m, rfl, h3, Nat.le_refl _, ?_, grown_bel hbel _⟩
        rw [List.take_of_length_le (by omega), List.drop_of_length_le (by omega)]
        simpa using hh.out
      case round =>
        obtain ⟨k, rfl, hk1, hk2, hhk, hgk⟩ := hrel
        by_cases hki : i < k
        · obtain ⟨r, rfl⟩ : ∃ r, k = r + 1 := ⟨k - 1, by omega⟩
          obtain ⟨z, hz⟩ : ∃ z, X2.drop (r - i) = z :: X2.drop (r - i + 1) := ⟨X2[r - i]'(by omega), List.drop_eq_getElem_cons (by omega)⟩
          have hz' := take_more hz
          rw [show r + 1 - i = r - i + 1 by omega, hz'] at hhk
          generalize hd' : (A ++ (X1 ++ (X2.take (r - i) ++ [z] ++ (y :: (X2.drop (r - i + 1) ++ B))))) = d' at hhk
          have hdl : d'.length = n := by rw [← hd']; simp only [List.length_append, List.length_cons, List.length_take, List.length_drop, List.length_nil]; omega
          have hpz : pth d' r = z := pth_at (P := A ++ (X1 ++ X2.take (r - i))) (Q := y :: (X2.drop (r - i + 1) ++ B)) (by rw [← hd']; simp) (by simp [List.length_take]; omega)
          have hpy : pth d' (r + 1) = y := pth_at (P := A ++ (X1 ++ (X2.take (r - i) ++ [z]))) (Q := X2.drop (r - i + 1) ++ B) (by rw [← hd']; simp) (by simp [List.length_take]; omega)
          have c0 := hhk.at0 (r + 1) (by omega)
          have c1 := hhk.at1 (r + 1) (by omega)
          have c2 := hhk.at0 r (by omega)
          have c3 := hhk.at1 r (by omega)
          rw [hpy] at c0 c1
          rw [hpz] at c2 c3
          have fr := hhk.fr
          have HS := Lib.hid (hhk.swap (r + 1) r hpy hpz)
          have hki' : (i : Int) < (r : Int) + 1 := by omega
          have hkn : (r : Int) < n := by omega
          have hkn' : (r : Int) + 1 < n := by omega
          have hz := Lib.hid hz
          have hd' := Lib.hid hd'
          rename_i q1 q2
          clear q1 q2 hpz hpy hdl hz'
          obtain ⟨y, y'⟩ := y
          obtain ⟨z, z'⟩ := z
          go_wp2
          go_region
          go_wp2
          go_roundw
          case rel =>
            refine ⟨r, by go_num, by omega, by omega, ?_, grown_drew (grown_swap hgk _ _ _ _ _ _ _ _)⟩
            have hs' : swp d' (r + 1) r = A ++ (X1 ++ (X2.take (r - i) ++ ((y, y') :: (X2.drop (r - i) ++ B)))) := by
              rw [swp_comm _ _ _ (by omega), hz.out]
              exact swp_at (x := (z, z')) (y := (y, y')) (P := A ++ (X1 ++ X2.take (r - i))) (Q := []) (R := X2.drop (r - i + 1) ++ B) (by rw [← hd'.out]; simp) (by simp [List.length_take]; omega) (by simp [List.length_take]; omega) (by simp)
            rw [← hs']
            exact HS.out.drew
          case measure => simp [intOf]
        · obtain rfl : k = i := by omega
          rw [Nat.sub_self] at hhk
          go_wp2
          first | go_end0 | go_ret
          refine ⟨X1 ++ y :: X2, ?_, ?_, ?_, rfl, by simpa using hhk, hgk⟩
          · rw [← hX12.out]; simp
          · exact Srt.mid (by rw [hX12.out]; exact hX0.out) hX1.out hX2.out
          · rw [← hX12.out]
            exact Same.mid (Same.refl _) hX2.out

end Go.Proofs.YtjdepjpjjgkmbaaGreat

/- The library's stable sort over a slice of pairs, fifth part: merging two ranges in order. -/
namespace Go.Proofs.YtjdepjpjjgkmbaaGreat
open Go.RowKit

/-- Two merged parts, none of the first larger than one of the second, are the whole merged. -/
theorem merge_parts {X1 X2 Y1 Y2 Z1 Z2 : List (Int × Int)} (hX : Srt (X1 ++ X2)) (hY : Srt (Y1 ++ Y2)) (h12 : ∀ p ∈ X1, ∀ q ∈ Y2, p.1 ≤ q.1) (h21 : ∀ p ∈ Y1, ∀ q ∈ X2, p.1 < q.1)
    (s1 : Srt Z1) (e1 : Same Z1 (X1 ++ Y1)) (s2 : Srt Z2) (e2 : Same Z2 (X2 ++ Y2)) : Srt (Z1 ++ Z2) ∧ Same (Z1 ++ Z2) ((X1 ++ X2) ++ (Y1 ++ Y2)) := by
  have hX' := (List.pairwise_append.1 hX).2.2
  have hY' := (List.pairwise_append.1 hY).2.2
  refine ⟨List.pairwise_append.2 ⟨s1, s2, fun p hp q hq => ?_⟩, ?_⟩
  · rcases List.mem_append.1 (e1.mem.1 hp) with hp | hp <;> rcases List.mem_append.1 (e2.mem.1 hq) with hq | hq
    · exact hX' p hp q hq
    · exact h12 p hp q hq
    · exact Int.le_of_lt (h21 p hp q hq)
    · exact hY' p hp q hq
  · refine (e1.app e2).trans ?_
    have e : Same (X1 ++ ((Y1 ++ X2) ++ Y2)) (X1 ++ ((X2 ++ Y1) ++ Y2)) := (Same.refl X1).app ((Same.swap fun p hp q hq => by
      have := h21 q hq p hp
      omega).app (Same.refl Y2))
    simpa using e

/-- Where the two ranges are parted. -/
theorem part_at {X Y : List (Int × Int)} {a m b mid N s e s0 r0 : Nat} (hX : Srt X) (hY : Srt Y) (hXl : a + X.length = m) (hYl : m + Y.length = b) (hmid : mid = (a + b) / 2) (hN : mid + m = N) (he : s + e = N)
    (C : (m ≤ mid ∧ s0 = a ∧ r0 = m) ∨ (mid < m ∧ s0 + b = N ∧ r0 = mid)) (h1 : s0 ≤ s) (h2 : s ≤ r0)
    (F1 : s0 < s → (pth X (s - 1 - a)).1 ≤ (pth Y (e - m)).1) (F2 : s < r0 → (pth Y (e - 1 - m)).1 < (pth X (s - a)).1) :
    (∀ p ∈ X.take (s - a), ∀ q ∈ Y.drop (e - m), p.1 ≤ q.1) ∧ (∀ p ∈ Y.take (e - m), ∀ q ∈ X.drop (s - a), p.1 < q.1) := by
  constructor
  · intro p hp q hq
    obtain ⟨t, ht, rfl⟩ := mem_pth hp
    obtain ⟨u, hu, rfl⟩ := mem_pth hq
    rw [List.length_take] at ht
    rw [List.length_drop] at hu
    rw [pth_take (by omega), pth_drop]
    have h3 := F1 (by omega)
    have h4 := srt_at hX (i := t) (j := s - 1 - a) (by omega) (by omega)
    have h5 := srt_at hY (i := e - m) (j := e - m + u) (by omega) (by omega)
    omega
  · intro p hp q hq
    obtain ⟨t, ht, rfl⟩ := mem_pth hp
    obtain ⟨u, hu, rfl⟩ := mem_pth hq
    rw [List.length_take] at ht
    rw [List.length_drop] at hu
    rw [pth_take (by omega), pth_drop]
    have h3 := F2 (by omega)
    have h4 := srt_at hY (i := t) (j := e - 1 - m) (by omega) (by omega)
    have h5 := srt_at hX (i := s - a) (j := s - a + u) (by omega) (by omega)
    omega

set_option maxRecDepth 100000 in
set_option maxHeartbeats 2000000 in
/-- Two ranges of two or more, where smaller ones are merged rightly. -/
theorem symBig_is (g n cap : Nat) (ai mi bi : Int) (A X Y B : List (Int × Int)) (w : World) (hn : n ≤ 4194304) (hl : A.length + X.length + Y.length + B.length = n)
    (hA : ai = (A.length : Int)) (hm : mi = ((A.length + X.length : Nat) : Int)) (hb : bi = ((A.length + X.length + Y.length : Nat) : Int)) (hX2 : 2 ≤ X.length) (hY2 : 2 ≤ Y.length) (hX : Srt X) (hY : Srt Y) (H : Held w g (A ++ (X ++ (Y ++ B))))
    (ih : ∀ (ai mi bi : Int) (A' X' Y' B' : List (Int × Int)) (w : World), X'.length + Y'.length < X.length + Y.length → A'.length + X'.length + Y'.length + B'.length = n →
      ai = (A'.length : Int) → mi = ((A'.length + X'.length : Nat) : Int) → bi = ((A'.length + X'.length + Y'.length : Nat) : Int) → 0 < X'.length → 0 < Y'.length → Srt X' → Srt Y' → Held w g (A' ++ (X' ++ (Y' ++ B'))) →
      Calls Tryz.prog 258 #[.slice (some ⟨g, 0, none⟩) n cap, .int .i64 ai, .int .i64 mi, .int .i64 bi, (.func (Fn.func 250) #[] #[])] w (Sorts w g A' (X' ++ Y') B')) :
    Calls Tryz.prog 258 #[.slice (some ⟨g, 0, none⟩) n cap, .int .i64 ai, .int .i64 mi, .int .i64 bi, (.func (Fn.func 250) #[] #[])] w (Sorts w g A (X ++ Y) B) := by
  have ih := Lib.hid ih
  rename_i ih'
  clear ih'
  generalize hb' : A.length + X.length + Y.length = b at hb
  generalize hm' : A.length + X.length = m at hm hb' hl
  generalize ha' : A.length = a at hA hm'
  subst hA hm hb
  generalize hd : A ++ (X ++ (Y ++ B)) = d at H
  have hlen : d.length = n := by rw [← hd]; simp only [List.length_append]; omega
  have hlen := Lib.hid hlen
  have HH := Lib.hid H
  have hX0 := Lib.hid hX
  have hY0 := Lib.hid hY
  have hd := Lib.hid hd
  rename_i q1 q2
  clear H hX hY q1 q2
  have hma : ((m : Int) - (a : Int) == 1) = false := by simp; omega
  have hbm : ((b : Int) - (m : Int) == 1) = false := by simp; omega
  obtain ⟨mid, hmid, hmidN⟩ : ∃ mid : Nat, ((a : Int) + (b : Int)) / 2 = (mid : Int) ∧ mid = (a + b) / 2 := ⟨(a + b) / 2, by omega, rfl⟩
  have hmidN := Lib.hid hmidN
  obtain ⟨N, hN, hNN⟩ : ∃ N : Nat, (mid : Int) + (m : Int) = (N : Int) ∧ mid + m = N := ⟨mid + m, by omega, rfl⟩
  have hNN := Lib.hid hNN
  obtain ⟨P, hP, hPN⟩ : ∃ P : Nat, (N : Int) - 1 = (P : Int) ∧ P + 1 = N := ⟨N - 1, by have := hNN.out; omega, by have := hNN.out; omega⟩
  have hPN := Lib.hid hPN
  rename_i q1 q2 q3
  clear q1 q2 q3
  obtain ⟨s0, r0, C⟩ : ∃ s0 r0 : Nat, (m ≤ mid ∧ s0 = a ∧ r0 = m) ∨ (mid < m ∧ s0 + b = N ∧ r0 = mid) := by
    have := hNN.out
    have := hmidN.out
    rcases Nat.lt_or_ge mid m with h | h
    · exact ⟨N - b, mid, .inr ⟨h, by omega, rfl⟩⟩
    · exact ⟨a, m, .inl ⟨h, rfl, rfl⟩⟩
  have C := Lib.hid C
  rename_i q1
  clear q1
  go_enter Tryz.func258, Tryz.ntmps258
  go_upto_if 140 with fail
  go_cut [20, 21] (fun sv rv wr => sv = .int .i64 s0 ∧ rv = .int .i64 r0 ∧ wr = w)
  case first => as_aux_lemma =>
    rcases C.out with ⟨h, e1, e2⟩ | ⟨h, e1, e2⟩
    · have h' : ¬ (mid : Int) < (m : Int) := by omega
      have e1 := Lib.hid e1
      have e2 := Lib.hid e2
      rename_i q1 q2
      clear q1 q2
      go_wp2_with fail
      go_meet
      exact ⟨vint (by have := e1.out; omega), vint (by have := e2.out; omega), rfl⟩
    · have h' : (mid : Int) < (m : Int) := by omega
      have e2 := Lib.hid e2
      have e1 := Lib.hid e1
      rename_i q1 q2
      clear q1 q2
      go_wp2_with fail
      go_meet
      exact ⟨vint (by have := e1.out; omega), vint (by have := e2.out; omega), rfl⟩
  case rest =>
  obtain ⟨rfl, rfl, rfl⟩ := hcut
  obtain ⟨w0, rfl⟩ : ∃ w0, w0 = wc := ⟨_, rfl⟩
  go_wp2_with fail
  have hbd : a ≤ s0 ∧ r0 ≤ m ∧ r0 ≤ mid ∧ s0 ≤ r0 ∧ N ≤ s0 + b ∧ mid ≤ b ∧ a ≤ mid := by
    have := hNN.out
    have := hmidN.out
    rcases C.out with h | h <;> omega
  go_loopw [20, 21] (fun sv rv wr => ∃ s r : Nat, sv = .int .i64 s ∧ rv = .int .i64 r ∧ s0 ≤ s ∧ s ≤ r ∧ r ≤ r0 ∧ (s0 < s → (pth d (s - 1)).1 ≤ (pth d (N - s)).1) ∧ (r < r0 → (pth d (N - 1 - r)).1 < (pth d r).1) ∧ Below w0.heap.size w0 wr) (fun s r _ => (intOf r).toNat - (intOf s).toNat)
  case atStart => exact ⟨s0, r0, rfl, rfl, Nat.le_refl _, hbd.2.2.2.1, Nat.le_refl _, by omega, by omega, Below.refl _ _⟩
  case round =>
    obtain ⟨s, r, rfl, rfl, h1, h2, h3, h4, h5, hbel⟩ := hrel
    have hh := HH.out.later hbel
    by_cases hij : s < r
    · have hij' : (s : Int) < (r : Int) := by omega
      obtain ⟨c, hc, hi1, hi2⟩ : ∃ c : Nat, ((s : Int) + (r : Int)) / 2 = (c : Int) ∧ s ≤ c ∧ c < r := ⟨(s + r) / 2, by omega, by omega, by omega⟩
      have hPN0 := hPN.out
      have hl0 := hlen.out
      have hNN0 := hNN.out
      obtain ⟨q, hq, hq'⟩ : ∃ q : Nat, (P : Int) - (c : Int) = (q : Int) ∧ q + c = P := ⟨P - c, by omega, by omega⟩
      have c0 := hh.at0 q (by omega)
      have c1 := hh.at1 q (by omega)
      have c2 := hh.at0 c (by omega)
      have c3 := hh.at1 c (by omega)
      have hqn : (q : Int) < n := by omega
      have hcn : (c : Int) < n := by omega
      generalize hu : pth d q = u at c0 c1
      generalize hv : pth d c = v at c2 c3
      have hu := Lib.hid hu
      have hv := Lib.hid hv
      have h4 := Lib.hid h4
      have h5 := Lib.hid h5
      have hq' := Lib.hid hq'
      have g0 := After.cell (by exact hh.lt) c0
      have g1 := After.cell (by exact hh.lt) c1
      have g2 := After.cell (by exact hh.lt) c2
      have g3 := After.cell (by exact hh.lt) c3
      rename_i q1 q2 q3 q4 q5
      clear q1 q2 q3 q4 q5 hPN0 hl0 hNN0 hh
      obtain ⟨u, u'⟩ := u
      obtain ⟨v, v'⟩ := v
      by_cases hlt : u < v
      · as_aux_lemma =>
        have hs : sgn u v = -1 := sgn_lt hlt
        go_wp2_with fail
        refine wp_region_after (by kernel_rfl) (by kernel_rfl) ?_
        repeat (first | go_big_quiet_step ((go_at_call 250; exact after_of (cmpSeal_is hs u' v' _))) | quiet_step ((go_at_call 250; exact after_of (cmpSeal_is hs u' v' _))))
        refine wpQuiet_nil ?_
        intro pw
        go_wp2
        go_roundw
        case rel => exact ⟨s, c, rfl, rfl, h1, hi1, by omega, h4.out, fun _ => by rw [show N - 1 - c = q by have := hq'.out; have := hPN.out; omega, hu.out, hv.out]; exact hlt, bel_trans hbel pw.bel⟩
        case measure => simp [intOf]; omega
      · as_aux_lemma =>
        obtain ⟨t, hs, hs0, hs1, hsd⟩ := sgn_nn hlt
        go_wp2_with fail
        refine wp_region_after (by kernel_rfl) (by kernel_rfl) ?_
        repeat (first | go_big_quiet_step ((go_at_call 250; exact after_of (cmpSeal_is hs u' v' _))) | quiet_step ((go_at_call 250; exact after_of (cmpSeal_is hs u' v' _))))
        refine wpQuiet_nil ?_
        intro pw
        go_wp2
        go_roundw
        case rel => exact ⟨c + 1, r, by go_num, rfl, by omega, by omega, h3, fun _ => by rw [show N - (c + 1) = q by have := hq'.out; have := hPN.out; omega, show c + 1 - 1 = c from rfl, hu.out, hv.out]; simp only; omega, h5.out, bel_trans hbel pw.bel⟩
        case measure => simp [intOf]; omega
    · obtain rfl : s = r := by omega
      obtain ⟨e, he, he'⟩ : ∃ e : Nat, (N : Int) - (s : Int) = (e : Int) ∧ s + e = N := ⟨N - s, by have := hNN.out; omega, by have := hNN.out; omega⟩
      have heb : m ≤ e ∧ e ≤ b ∧ mid ≤ e ∧ e - m = mid - s ∧ e - mid = m - s := by
        have := hNN.out
        omega
      have hdX : ∀ i, a ≤ i → i < m → pth d i = pth X (i - a) := fun i h h' => pth_seg (P := A) (Q := Y ++ B) hd.out.symm ha'.symm h (by omega)
      have hdY : ∀ i, m ≤ i → i < b → pth d i = pth Y (i - m) := fun i h h' => pth_seg (P := A ++ X) (Q := B) (by rw [← hd.out]; simp) (by simp; omega) h (by omega)
      obtain ⟨hp1, hp2⟩ := part_at hX0.out hY0.out (by omega) (by omega) hmidN.out hNN.out he' C.out h1 h3 (fun h => by
        have := h4 h
        rw [hdX (s - 1) (by omega) (by omega), hdY (N - s) (by omega) (by omega)] at this
        rw [show N - s = e by omega] at this
        exact this) (fun h => by
        have := h5 h
        rw [hdX s (by omega) (by omega), hdY (N - 1 - s) (by have := hNN.out; omega) (by omega)] at this
        rw [show N - 1 - s = e - 1 by omega] at this
        exact this)
      have he' := Lib.hid he'
      have hp1 := Lib.hid hp1
      have hp2 := Lib.hid hp2
      have heb := Lib.hid heb
      rename_i q1 q2 q3 q4
      clear q1 q2 q3 q4 hdX hdY h4 h5
      have hX12 : X.take (s - a) ++ X.drop (s - a) = X := List.take_append_drop _ _
      have hY12 : Y.take (e - m) ++ Y.drop (e - m) = Y := List.take_append_drop _ _
      have hlX1 : (X.take (s - a)).length = s - a := by rw [List.length_take]; omega
      have hlX2 : (X.drop (s - a)).length = m - s := by rw [List.length_drop]; omega
      have hlY1 : (Y.take (e - m)).length = mid - s := by rw [List.length_take]; have := heb.out; omega
      have hlY2 : (Y.drop (e - m)).length = b - e := by rw [List.length_drop]; have := heb.out; omega
      generalize X.take (s - a) = X1 at hp1 hX12 hlX1
      generalize X.drop (s - a) = X2 at hp2 hX12 hlX2
      generalize Y.take (e - m) = Y1 at hp2 hY12 hlY1
      generalize Y.drop (e - m) = Y2 at hp1 hY12 hlY2
      have hXY := Lib.hid (And.intro hX12 hY12)
      have hlX := Lib.hid (And.intro hlX1 hlX2)
      have hlY := Lib.hid (And.intro hlY1 hlY2)
      have hh' : Held wr g (A ++ (X1 ++ (X2 ++ (Y1 ++ (Y2 ++ B))))) := by
        rw [← List.append_assoc X1, hX12, ← List.append_assoc Y1, hY12, hd.out]
        exact hh
      have hh1 := Lib.hid hh'
      have hg1 := Lib.hid (grown_bel hbel (some g))
      clear hX12 hY12 hlX1 hlX2 hlY1 hlY2 hh' hh hbel
      have hse : s ≤ m ∧ a ≤ s ∧ s ≤ mid := by omega
      go_upto_region 39 with fail
      go_cut [185] (fun v wr' => v = .bool (decide (s < m ∧ m < e)) ∧ wr' = wr)
      case first => as_aux_lemma =>
        by_cases t1 : s < m
        · have t1' : (s : Int) < (m : Int) := by omega
          by_cases t2 : m < e
          · have t2' : (m : Int) < (e : Int) := by omega
            go_wp2_with fail
            go_meet
            exact ⟨by simp [t1, t2], rfl⟩
          · have t2' : ¬ (m : Int) < (e : Int) := by omega
            go_wp2_with fail
            go_meet
            exact ⟨by simp [t2], rfl⟩
        · have t1' : ¬ (s : Int) < (m : Int) := by omega
          go_wp2_with fail
          go_meet
          exact ⟨by simp [t1], rfl⟩
      case rest =>
      obtain ⟨rfl, rfl⟩ := hcut
      obtain ⟨w1, rfl⟩ : ∃ w1, w1 = wc := ⟨_, rfl⟩
      go_upto_if 185 with fail
      go_cut [191] (fun _ wr' => Held wr' g (A ++ (X1 ++ (Y1 ++ (X2 ++ (Y2 ++ B))))) ∧ w0.grownBy wr' (some g))
      case first => as_aux_lemma =>
        by_cases t : s < m ∧ m < e
        · have td : decide (s < m ∧ m < e) = true := by simp [t]
          have e1 := hlX.out
          have e2 := hlY.out
          have e3 := heb.out
          go_wp2_with fail
          refine (rotate_is g n cap _ _ _ (A ++ X1) X2 Y1 (Y2 ++ B) _ _ hn (by simp; omega) (by simp; omega) (by simp; omega) (by simp; omega) (by omega) (by omega) (by simpa using hh1.out)).mono ?_
          rintro e' w2 ⟨rfl, hh2, hg2⟩
          go_wp2_with fail
          go_meet
          exact ⟨by simpa using hh2, grown_trans hg1.out hg2⟩
        · have td : decide (s < m ∧ m < e) = false := by simp only [decide_eq_false_iff_not]; exact t
          have e1 := hlX.out
          have e2 := hlY.out
          have e3 := heb.out
          have hz : X2.length = 0 ∨ Y1.length = 0 := by omega
          go_wp2_with fail
          go_meet
          refine ⟨?_, hg1.out⟩
          have := hh1.out
          rcases hz with hz | hz
          · rw [List.length_eq_zero_iff.1 hz] at this ⊢; simpa using this
          · rw [List.length_eq_zero_iff.1 hz] at this ⊢; simpa using this
      case rest =>
      obtain ⟨hh2, hg2⟩ := hcut
      obtain ⟨w2, rfl⟩ : ∃ w2, w2 = wc := ⟨_, rfl⟩
      have hh2 := Lib.hid hh2
      have hg2 := Lib.hid hg2
      clear hh1 hg1
      go_upto_region 41 with fail
      go_cut [199] (fun v wr' => v = .bool (decide (a < s ∧ s < mid)) ∧ wr' = w2)
      case first => as_aux_lemma =>
        by_cases t1 : a < s
        · have t1' : (a : Int) < (s : Int) := by omega
          by_cases t2 : s < mid
          · have t2' : (s : Int) < (mid : Int) := by omega
            go_wp2_with fail
            go_meet
            exact ⟨by simp [t1, t2], rfl⟩
          · have t2' : ¬ (s : Int) < (mid : Int) := by omega
            go_wp2_with fail
            go_meet
            exact ⟨by simp [t2], rfl⟩
        · have t1' : ¬ (a : Int) < (s : Int) := by omega
          go_wp2_with fail
          go_meet
          exact ⟨by simp [t1], rfl⟩
      case rest =>
      obtain ⟨rfl, rfl⟩ := hcut
      obtain ⟨w2, rfl⟩ : ∃ w2, w2 = wc := ⟨_, rfl⟩
      have hXs : Srt X1 ∧ Srt X2 := by
        have := List.pairwise_append.1 (by rw [hXY.out.1]; exact hX0.out : Srt (X1 ++ X2))
        exact ⟨this.1, this.2.1⟩
      have hYs : Srt Y1 ∧ Srt Y2 := by
        have := List.pairwise_append.1 (by rw [hXY.out.2]; exact hY0.out : Srt (Y1 ++ Y2))
        exact ⟨this.1, this.2.1⟩
      go_upto_if 199 with fail
      go_cut [205] (fun _ wr' => ∃ Z1 : List (Int × Int), Z1.length = X1.length + Y1.length ∧ Srt Z1 ∧ Same Z1 (X1 ++ Y1) ∧ Held wr' g (A ++ (Z1 ++ (X2 ++ (Y2 ++ B)))) ∧ w0.grownBy wr' (some g))
      case first => as_aux_lemma =>
        by_cases t : a < s ∧ s < mid
        · have td : decide (a < s ∧ s < mid) = true := by simp [t]
          have e1 := hlX.out
          have e2 := hlY.out
          have e3 := heb.out
          go_wp2_with fail
          refine (ih.out _ _ _ A X1 Y1 (X2 ++ (Y2 ++ B)) _ (by omega) (by simp; omega) (by omega) (by omega) (by omega) (by omega) (by omega) hXs.1 hYs.1 (by simpa using hh2.out)).mono ?_
          rintro e' w3 ⟨Z1, hz1, hz2, hz3, rfl, hh3, hg3⟩
          go_wp2_with fail
          go_meet
          exact ⟨Z1, by simpa using hz1, hz2, hz3, hh3, grown_trans hg2.out hg3⟩
        · have td : decide (a < s ∧ s < mid) = false := by simp only [decide_eq_false_iff_not]; exact t
          have e1 := hlX.out
          have e2 := hlY.out
          have hz : X1.length = 0 ∨ Y1.length = 0 := by omega
          go_wp2_with fail
          go_meet
          have := hh2.out
          rcases hz with hz | hz
          · rw [List.length_eq_zero_iff.1 hz] at this ⊢
            exact ⟨Y1, by simp, hYs.1, Same.refl _, by simpa using this, hg2.out⟩
          · rw [List.length_eq_zero_iff.1 hz] at this ⊢
            exact ⟨X1, by simp, hXs.1, by simpa using Same.refl X1, by simpa using this, hg2.out⟩
      case rest =>
      obtain ⟨Z1, hz1, hz2, hz3, hh3, hg3⟩ := hcut
      obtain ⟨w3, rfl⟩ : ∃ w3, w3 = wc := ⟨_, rfl⟩
      have hh3 := Lib.hid hh3
      have hg3 := Lib.hid hg3
      have hz1 := Lib.hid hz1
      clear hh2 hg2
      rename_i q1
      clear q1
      go_upto_region 43 with fail
      go_cut [213] (fun v wr' => v = .bool (decide (mid < e ∧ e < b)) ∧ wr' = w3)
      case first => as_aux_lemma =>
        by_cases t1 : mid < e
        · have t1' : (mid : Int) < (e : Int) := by omega
          by_cases t2 : e < b
          · have t2' : (e : Int) < (b : Int) := by omega
            go_wp2_with fail
            go_meet
            exact ⟨by simp [t1, t2], rfl⟩
          · have t2' : ¬ (e : Int) < (b : Int) := by omega
            go_wp2_with fail
            go_meet
            exact ⟨by simp [t2], rfl⟩
        · have t1' : ¬ (mid : Int) < (e : Int) := by omega
          go_wp2_with fail
          go_meet
          exact ⟨by simp [t1], rfl⟩
      case rest =>
      obtain ⟨rfl, rfl⟩ := hcut
      obtain ⟨w3, rfl⟩ : ∃ w3, w3 = wc := ⟨_, rfl⟩
      have hfin : ∀ Z2 : List (Int × Int), Srt Z2 → Same Z2 (X2 ++ Y2) → Srt (Z1 ++ Z2) ∧ Same (Z1 ++ Z2) (X ++ Y) := fun Z2 z1 z2 => by
        have := merge_parts (by rw [hXY.out.1]; exact hX0.out) (by rw [hXY.out.2]; exact hY0.out) hp1.out hp2.out hz2 hz3 z1 z2
        rwa [hXY.out.1, hXY.out.2] at this
      have hfin := Lib.hid hfin
      rename_i q1
      clear q1
      by_cases t : mid < e ∧ e < b
      · as_aux_lemma =>
        have td : decide (mid < e ∧ e < b) = true := by simp [t]
        have e1 := hlX.out
        have e2 := hlY.out
        have e3 := heb.out
        have e4 := hz1.out
        go_wp2_with fail
        refine (ih.out _ _ _ (A ++ Z1) X2 Y2 B _ (by omega) (by simp; omega) (by simp; omega) (by simp; omega) (by simp; omega) (by omega) (by omega) hXs.2 hYs.2 (by simpa using hh3.out)).mono ?_
        rintro e' w4 ⟨Z2, hy1, hy2, hy3, rfl, hh4, hg4⟩
        simp only [List.length_append] at hy1
        go_wp2
        go_end0
        obtain ⟨f1, f2⟩ := hfin.out Z2 hy2 hy3
        exact ⟨Z1 ++ Z2, by simp; omega, f1, f2, rfl, by simpa using hh4, grown_trans hg3.out hg4⟩
      · as_aux_lemma =>
        have td : decide (mid < e ∧ e < b) = false := by simp only [decide_eq_false_iff_not]; exact t
        have e1 := hlX.out
        have e2 := hlY.out
        have e3 := heb.out
        have e4 := hz1.out
        have hz : X2.length = 0 ∨ Y2.length = 0 := by omega
        go_wp2
        go_end0
        have := hh3.out
        rcases hz with hz | hz
        · have hx := List.length_eq_zero_iff.1 hz
          obtain ⟨f1, f2⟩ := hfin.out Y2 hYs.2 (by rw [hx]; exact Same.refl _)
          rw [hx] at this
          exact ⟨Z1 ++ Y2, by simp; omega, f1, f2, rfl, by simpa using this, hg3.out⟩
        · have hx := List.length_eq_zero_iff.1 hz
          obtain ⟨f1, f2⟩ := hfin.out X2 hXs.2 (by rw [hx]; simpa using Same.refl X2)
          rw [hx] at this
          exact ⟨Z1 ++ X2, by simp; omega, f1, f2, rfl, by simpa using this, hg3.out⟩

/-- Two ranges in order are merged. -/
theorem symMerge_is (g n cap : Nat) (hn : n ≤ 4194304) : ∀ (k : Nat) (ai mi bi : Int) (A X Y B : List (Int × Int)) (w : World), X.length + Y.length < k → A.length + X.length + Y.length + B.length = n →
      ai = (A.length : Int) → mi = ((A.length + X.length : Nat) : Int) → bi = ((A.length + X.length + Y.length : Nat) : Int) → 0 < X.length → 0 < Y.length → Srt X → Srt Y → Held w g (A ++ (X ++ (Y ++ B))) →
      Calls Tryz.prog 258 #[.slice (some ⟨g, 0, none⟩) n cap, .int .i64 ai, .int .i64 mi, .int .i64 bi, (.func (Fn.func 250) #[] #[])] w (Sorts w g A (X ++ Y) B)
  | 0, _, _, _, _, _, _, _, _, h, _, _, _, _, _, _, _, _, _ => by omega
  | k + 1, ai, mi, bi, A, X, Y, B, w, hk, hl, hA, hm, hb, h1, h2, hX, hY, H => by
    rcases Nat.lt_or_ge X.length 2 with hx | hx
    · match X, h1, hx with
      | [x], _, _ => exact symOne_is g n cap ai mi bi A Y B x w hn (by simpa using hl) hA (by simpa using hm) (by simpa using hb) hY (by simpa using H)
    · rcases Nat.lt_or_ge Y.length 2 with hy | hy
      · match Y, h2, hy with
        | [y], _, _ => exact symLast_is g n cap ai mi bi A X B y w hn (by simpa using hl) hA hm (by simpa using hb) hx hX (by simpa using H)
      · exact symBig_is g n cap ai mi bi A X Y B w hn hl hA hm hb hx hy hX hY H fun ai mi bi A' X' Y' B' w' hlt hl' hA' hm' hb' h1' h2' hX' hY' H' =>
          symMerge_is g n cap hn k ai mi bi A' X' Y' B' w' (by omega) hl' hA' hm' hb' h1' h2' hX' hY' H'

end Go.Proofs.YtjdepjpjjgkmbaaGreat

/- Words of the library's stable sort: a list that is made of runs in order; no conditions. -/
namespace Go.Proofs.YtjdepjpjjgkmbaaGreat
open Go.RowKit

/-- Runs in order, each of k, the last one of k or fewer. -/
inductive Runs (k : Nat) : List (Int × Int) → Prop
  | last {l : List (Int × Int)} : l.length ≤ k → Srt l → Runs k l
  | cons {x l : List (Int × Int)} : x.length = k → Srt x → Runs k l → Runs k (x ++ l)
/-- Runs in order, each of k. -/
inductive Full (k : Nat) : List (Int × Int) → Prop
  | nil : Full k []
  | snoc {l x : List (Int × Int)} : Full k l → x.length = k → Srt x → Full k (l ++ x)
theorem Runs.nil (k : Nat) : Runs k [] := .last (Nat.zero_le _) (by simp [Srt])
theorem Full.runs {k : Nat} {l r : List (Int × Int)} (h : Full k l) (hr : Runs k r) : Runs k (l ++ r) := by
  induction h generalizing r with
  | nil => exact hr
  | snoc _ hx hs ih => rw [List.append_assoc]; exact ih (.cons hx hs hr)
theorem Runs.small {k : Nat} {l : List (Int × Int)} (h : Runs k l) (hl : l.length ≤ k) : Srt l := by
  cases h with
  | last _ hs => exact hs
  | cons hx hs hr =>
    rename_i x r
    rw [List.length_append] at hl
    rw [List.length_eq_zero_iff.1 (by omega : r.length = 0), List.append_nil]
    exact hs
theorem Runs.split {k : Nat} {l : List (Int × Int)} (h : Runs k l) (hl : k < l.length) : ∃ x r, l = x ++ r ∧ x.length = k ∧ Srt x ∧ Runs k r := by
  cases h with
  | last hk _ => omega
  | cons hx hs hr => exact ⟨_, _, rfl, hx, hs, hr⟩
/-- The first two runs. -/
theorem Runs.two {k : Nat} {l : List (Int × Int)} (h0 : 0 < k) (h : Runs k l) (hl : k * 2 ≤ l.length) : ∃ x y r, l = x ++ (y ++ r) ∧ x.length = k ∧ y.length = k ∧ Srt x ∧ Srt y ∧ Runs k r := by
  obtain ⟨x, r, rfl, hx, hs, hr⟩ := h.split (by omega)
  rw [List.length_append] at hl
  rcases Nat.lt_or_ge k r.length with h | h
  · obtain ⟨y, r', rfl, hy, hs', hr'⟩ := hr.split h
    exact ⟨x, y, r', rfl, hx, hy, hs, hs', hr'⟩
  · exact ⟨x, r, [], by simp, hx, by omega, hs, hr.small h, Runs.nil k⟩

end Go.Proofs.YtjdepjpjjgkmbaaGreat

/- The library's stable sort over a slice of pairs: what was there is in order then, alike ones in the order that they had. -/
namespace Go.Proofs.YtjdepjpjjgkmbaaGreat
open Go.RowKit

/-- What a stable sort of all leaves. -/
def Stable (w : World) (g : Nat) (L : List (Int × Int)) (e : Ending) (w' : World) : Prop :=
  ∃ S : List (Int × Int), S.length = L.length ∧ Srt S ∧ Same S L ∧ Does w g S e w'

set_option maxRecDepth 100000 in
set_option maxHeartbeats 2000000 in
theorem stable_is (g n cap : Nat) (L : List (Int × Int)) (w : World) (hn : n ≤ 4194304) (hl : L.length = n) (H : Held w g L) :
    Calls Tryz.prog 256 #[.slice (some ⟨g, 0, none⟩) n cap, .int .i64 n, (.func (Fn.func 250) #[] #[])] w (Stable w g L) := by
  have HH := Lib.hid H
  have hl := Lib.hid hl
  rename_i q
  clear H q
  go_enter Tryz.func256, Tryz.ntmps256
  go_wp2_with fail
  go_loopw [7, 8] (fun av bv wr => ∃ (a b : Nat) (D R : List (Int × Int)), av = .int .i64 a ∧ bv = .int .i64 b ∧ a + 20 = b ∧ a ≤ n ∧ D.length = a ∧ a + R.length = n ∧ Full 20 D ∧ Same (D ++ R) L ∧ Held wr g (D ++ R) ∧ w.grownBy wr (some g)) (fun a _ _ => n - (intOf a).toNat)
  case atStart => exact ⟨0, 20, [], L, rfl, rfl, rfl, Nat.zero_le _, rfl, by rw [hl.out]; omega, .nil, Same.refl _, HH.out, grown_refl _ _⟩
  case round =>
    obtain ⟨a, b, D, R, rfl, rfl, hab, han, hD, hR, hF, hS, hh, hg⟩ := hrel
    by_cases hbn : b ≤ n
    · have hbn' : (b : Int) ≤ (n : Int) := by omega
      obtain ⟨c, hc, hc'⟩ : ∃ c : Nat, (b : Int) + 20 = (c : Int) ∧ b + 20 = c := ⟨b + 20, by omega, rfl⟩
      have hc' := Lib.hid hc'
      have hab := Lib.hid hab
      have hD := Lib.hid hD
      have hR := Lib.hid hR
      rename_i q1 q2 q3 q4
      clear q1 q2 q3 q4
      go_wp2_with fail
      refine (insSort_is g n cap _ _ D (R.take 20) (R.drop 20) _ hn (by have := hab.out; have := hD.out; have := hR.out; simp; omega) (by have := hD.out; omega) (by have := hab.out; have := hD.out; have := hR.out; simp; omega) (by rw [List.take_append_drop]; exact hh)).mono ?_
      rintro e w1 ⟨Z, hz1, hz2, hz3, rfl, hh1, hg1⟩
      have hz1 := Lib.hid hz1
      rename_i q1
      clear q1
      go_wp2
      go_roundw
      case rel =>
        have e1 := hab.out
        have e2 := hD.out
        have e3 := hR.out
        have e4 := hz1.out
        have e5 := hc'.out
        rw [List.length_take] at e4
        refine ⟨b, c, D ++ Z, R.drop 20, rfl, rfl, e5, hbn, by simp; omega, by simp; omega, .snoc hF (by omega) hz2, ?_, by simpa using hh1, grown_trans hg hg1⟩
        refine Same.trans ?_ hS
        rw [List.append_assoc]
        refine (Same.refl D).app ?_
        have := hz3.app (Same.refl (R.drop 20))
        rwa [List.take_append_drop] at this
      case measure => have := hab.out; simp [intOf]; omega
    · have hbn' : ¬ (b : Int) ≤ (n : Int) := by omega
      have hD := Lib.hid hD
      have hR := Lib.hid hR
      have hab := Lib.hid hab
      rename_i q1 q2 q3
      clear q1 q2 q3
      go_wp2_with fail
      refine (insSort_is g n cap _ _ D R [] _ hn (by have := hD.out; have := hR.out; simp; omega) (by have := hD.out; omega) (by have := hD.out; have := hR.out; omega) (by simpa using hh)).mono ?_
      rintro e w1 ⟨Z, hz1, hz2, hz3, rfl, hh1, hg1⟩
      have hstart : ∃ E : List (Int × Int), E.length = n ∧ Runs 20 E ∧ Same E L ∧ Held w1 g E := by
        have e1 := hab.out
        have e2 := hD.out
        have e3 := hR.out
        exact ⟨D ++ Z, by simp; omega, hF.runs (.last (by omega) hz2), ((Same.refl D).app hz3).trans hS, by simpa using hh1⟩
      have hgs := grown_trans hg hg1
      have hstart := Lib.hid hstart
      rename_i q1
      clear q1 hz1 hz2 hz3 hh1 hg1 hg hh hS hF hR hD hab
      go_wp2_with fail
      go_loopw [6] (fun kv wr => ∃ (k : Nat) (E : List (Int × Int)), kv = .int .i64 k ∧ 0 < k ∧ k ≤ 8388608 ∧ E.length = n ∧ Runs k E ∧ Same E L ∧ Held wr g E ∧ w.grownBy wr (some g)) (fun k _ => n - (intOf k).toNat)
      case atStart =>
        obtain ⟨E, h1, h2, h3, h4⟩ := hstart.out
        exact ⟨20, E, rfl, by omega, by omega, h1, h2, h3, h4, hgs⟩
      case round =>
        obtain ⟨k, E, rfl, hk0, hk1, hE, hruns, hS, hh, hg⟩ := hrel
        have hE := Lib.hid hE
        rename_i q1
        clear q1
        by_cases hkn : k < n
        · have hkn' : (k : Int) < (n : Int) := by omega
          obtain ⟨k2, hk2, hk2'⟩ : ∃ k2 : Nat, 2 * (k : Int) = (k2 : Int) ∧ k * 2 = k2 := ⟨k * 2, by omega, rfl⟩
          have hk3 : (k : Int) * 2 = (k2 : Int) := by omega
          have hk2' := Lib.hid hk2'
          rename_i q1
          clear q1
          have hk4 : k2 ≤ 8388608 := by have := hk2'.out; omega
          go_wp2_with fail
          go_loopw [7, 8] (fun av bv wr => ∃ (a b : Nat) (D R : List (Int × Int)), av = .int .i64 a ∧ bv = .int .i64 b ∧ a + k2 = b ∧ a ≤ n ∧ D.length = a ∧ a + R.length = n ∧ Full k2 D ∧ Runs k R ∧ Same (D ++ R) L ∧ Held wr g (D ++ R) ∧ w.grownBy wr (some g)) (fun a _ _ => n - (intOf a).toNat)
          case atStart => exact ⟨0, k2, [], E, rfl, rfl, by omega, Nat.zero_le _, rfl, by rw [hE.out]; omega, .nil, hruns, hS, hh, hg⟩
          case round =>
            obtain ⟨a, b, D, R, rfl, rfl, hab, han, hD, hR, hF, hruns, hS, hh, hg⟩ := hrel
            have hab := Lib.hid hab
            have hD := Lib.hid hD
            have hR := Lib.hid hR
            rename_i q1 q2 q3
            clear q1 q2 q3
            by_cases hbn : b ≤ n
            · have hbn' : (b : Int) ≤ (n : Int) := by omega
              obtain ⟨c, hc, hc'⟩ : ∃ c : Nat, (b : Int) + (k2 : Int) = (c : Int) ∧ b + k2 = c := ⟨b + k2, by omega, rfl⟩
              have hc' := Lib.hid hc'
              rename_i q1
              clear q1
              obtain ⟨x, y, r, hxy, hx, hy, hsx, hsy, hrr⟩ := hruns.two hk0 (by have := hab.out; have := hR.out; have := hk2'.out; omega)
              subst hxy
              have hR' := hR.out
              simp only [List.length_append] at hR'
              have hR' := Lib.hid hR'
              have hx := Lib.hid hx
              have hy := Lib.hid hy
              rename_i q1 q2 q3
              clear q1 q2 q3
              go_wp2_with fail
              refine (symMerge_is g n cap hn (x.length + y.length + 1) _ _ _ D x y r _ (by omega) (by have := hD.out; have := hR'.out; omega) (by have := hD.out; omega) (by have := hD.out; have := hx.out; omega) (by have := hab.out; have := hD.out; have := hx.out; have := hy.out; have := hk2'.out; omega) (by have := hx.out; omega) (by have := hy.out; omega) hsx hsy hh).mono ?_
              rintro e w1 ⟨Z, hz1, hz2, hz3, rfl, hh1, hg1⟩
              have hz1 := Lib.hid hz1
              rename_i q1
              clear q1
              go_wp2
              go_roundw
              case rel =>
                have e1 := hab.out
                have e2 := hD.out
                have e3 := hR'.out
                have e4 := hz1.out
                have e5 := hc'.out
                have e6 := hx.out
                have e7 := hy.out
                have e8 := hk2'.out
                rw [List.length_append] at e4
                refine ⟨b, c, D ++ Z, r, rfl, rfl, e5, hbn, by simp; omega, by omega, .snoc hF (by omega) hz2, hrr, ?_, by simpa using hh1, grown_trans hg hg1⟩
                refine Same.trans ?_ hS
                rw [List.append_assoc]
                refine (Same.refl D).app ?_
                have := hz3.app (Same.refl r)
                rwa [List.append_assoc x] at this
              case measure => have := hab.out; simp [intOf]; omega
            · have hbn' : ¬ (b : Int) ≤ (n : Int) := by omega
              obtain ⟨m, hm, hm'⟩ : ∃ m : Nat, (a : Int) + (k : Int) = (m : Int) ∧ a + k = m := ⟨a + k, by omega, rfl⟩
              have hm' := Lib.hid hm'
              rename_i q1
              clear q1
              by_cases hmn : m < n
              · have hmn' : (m : Int) < (n : Int) := by omega
                obtain ⟨x, y, hxy, hx, hsx, hry⟩ := hruns.split (by have := hR.out; have := hm'.out; omega)
                subst hxy
                have hR' := hR.out
                simp only [List.length_append] at hR'
                have hsy := hry.small (by have := hab.out; have := hk2'.out; omega)
                have hR' := Lib.hid hR'
                have hx := Lib.hid hx
                rename_i q1 q2
                clear q1 q2
                go_wp2_with fail
                refine (symMerge_is g n cap hn (x.length + y.length + 1) _ _ _ D x y [] _ (by omega) (by have := hD.out; have := hR'.out; simp; omega) (by have := hD.out; omega) (by have := hD.out; have := hx.out; have := hm'.out; omega) (by have := hD.out; have := hR'.out; omega) (by have := hx.out; omega) (by have := hR'.out; have := hx.out; have := hm'.out; omega) hsx hsy (by simpa using hh)).mono ?_
                rintro e w1 ⟨Z, hz1, hz2, hz3, rfl, hh1, hg1⟩
                have hz1 := Lib.hid hz1
                rename_i q1
                clear q1
                go_wp2
                go_roundw
                case rel =>
                  have e1 := hab.out
                  have e2 := hD.out
                  have e3 := hR'.out
                  have e4 := hz1.out
                  have e6 := hx.out
                  have e8 := hk2'.out
                  rw [List.length_append] at e4
                  exact ⟨k2, D ++ Z, rfl, by omega, hk4, by simp; omega, hF.runs (.last (by omega) hz2), ((Same.refl D).app hz3).trans hS, by simpa using hh1, grown_trans hg hg1⟩
                case measure => have := hk2'.out; simp [intOf]; omega
              · have hmn' : ¬ (m : Int) < (n : Int) := by omega
                have hsr := hruns.small (by have := hR.out; have := hm'.out; omega)
                go_wp2
                go_roundw
                case rel =>
                  have e2 := hD.out
                  have e3 := hR.out
                  have e5 := hm'.out
                  have e8 := hk2'.out
                  exact ⟨k2, D ++ R, rfl, by omega, hk4, by simp; omega, hF.runs (.last (by omega) hsr), hS, hh, hg⟩
                case measure => have := hk2'.out; simp [intOf]; omega
        · have hkn' : ¬ (k : Int) < (n : Int) := by omega
          go_wp2
          go_end0
          exact ⟨E, by rw [hE.out, hl.out], hruns.small (by rw [hE.out]; omega), hS, rfl, hh, hg⟩

end Go.Proofs.YtjdepjpjjgkmbaaGreat

/- The library's CompactFunc over a slice of pairs: of those with one first number side by side the first stays. -/
namespace Go.Proofs.YtjdepjpjjgkmbaaGreat
open Go.RowKit

theorem eqWho_any (a b c d : Int) (w : World) :
    Calls Tryz.prog 252 #[.agg #[.int .i64 a, .int .i64 b], .agg #[.int .i64 c, .int .i64 d]] w fun e w' => e = .returned (.bool (a == c)) ∧ Below w.heap.size w w' := by
  have hb := bel_trans (bel_alloc w (.cells #[.int .i64 a, .int .i64 b] 136)) (bel_alloc _ (.cells #[.int .i64 c, .int .i64 d] 136))
  have D := ((Box.new w 136 #[.int .i64 a, .int .i64 b]).alloc (.cells #[.int .i64 c, .int .i64 d] 136)).two
  have X := (Box.new (w.alloc (.cells #[.int .i64 a, .int .i64 b] 136)) 136 #[.int .i64 c, .int .i64 d]).two
  simp only [World.size_alloc] at X
  obtain ⟨d0, _⟩ := D
  obtain ⟨x0, _⟩ := X
  go_enter Tryz.func252, Tryz.ntmps252
  go_wp2
  go_ret
  exact ⟨rfl, hb⟩
theorem eqWho_is {a c : Int} {t : Bool} (h : (a == c) = t) (b d : Int) (w : World) :
    Calls Tryz.prog 252 #[.agg #[.int .i64 a, .int .i64 b], .agg #[.int .i64 c, .int .i64 d]] w fun e w' => e = .returned (.bool t) ∧ Below w.heap.size w w' := by
  rw [← h]
  exact eqWho_any a b c d w

/-- Pairs are cleared: the cells ahead of them stay. -/
theorem clear_pairs (w : World) (ty : TypeId) (g i m c : Nat) (d : List (Int × Int)) (hm : 0 < m) (hd : i + m ≤ d.length) (H : Held w g d) :
    ∃ vs : List Value, (Builtin.clear_ #[40] ty #[.slice (some ⟨g, i * 2, none⟩) m c]).run Tryz.prog w = .ok (.tuple #[]) (w.setCells g (i * 2) vs) := by
  have hz : (Value.agg #[.int .i64 0, .int .i64 0]).cells = #[.int .i64 0, .int .i64 0] := by rfl
  have hall : ∀ v ∈ (Builtin.zeroCells #[.int .i64 0, .int .i64 0] m).toList, v.oneCell' = true := by
    intro v hv
    simp only [Builtin.zeroCells, Array.toList_map, List.mem_map] at hv
    obtain ⟨j, _, rfl⟩ := hv
    have hj : j % 2 = 0 ∨ j % 2 = 1 := by omega
    rcases hj with hj | hj <;> simp [hj, Value.oneCell']
  have hlen : (Builtin.zeroCells #[.int .i64 0, .int .i64 0] m).toList.length = m * 2 := by simp [Builtin.zeroCells]
  have hst := run_storeCells_cells (P := Tryz.prog) g (i * 2) (Builtin.zeroCells #[.int .i64 0, .int .i64 0] m).toList 0 w (fun j hj => by
    rw [hlen] at hj
    have h2 : j % 2 = 0 ∨ j % 2 = 1 := by omega
    rcases h2 with h2 | h2
    · rw [show i * 2 + 0 + j = (i + j / 2) * 2 by omega, H.at0 _ (by omega)]; rfl
    · rw [show i * 2 + 0 + j = (i + j / 2) * 2 + 1 by omega, H.at1 _ (by omega)]; rfl) (fun j _ => H.fr _) hall
  simp only [Nat.add_zero] at hst
  refine ⟨(Builtin.zeroCells #[.int .i64 0, .int .i64 0] m).toList, ?_⟩
  obtain ⟨k, rfl⟩ : ∃ k, m = k + 1 := ⟨m - 1, by omega⟩
  simp [Builtin.clear_, run_underlying Tryz.underlying40, hz, hst]
theorem size_setCells (w : World) (g o : Nat) (vs : List Value) : (w.setCells g o vs).heap.size = w.heap.size := by
  induction vs generalizing w o with
  | nil => rfl
  | cons v vs ih => rw [World.setCells, ih, size_set]
theorem Held.cut {w : World} {g i : Nat} {d c : List (Int × Int)} (H : Held w g d) (hi : d.take i = c) (hl : c.length = i) (vs : List Value) : Held (w.setCells g (i * 2) vs) g c := by
  subst hi
  rw [List.length_take] at hl
  refine ⟨by rw [size_setCells]; exact H.lt, fun o => by rw [World.frozen?_setCells]; exact H.fr o, fun k hk => ?_, fun k hk => ?_⟩
  · rw [List.length_take] at hk
    rw [World.cell?_setCells_out g vs _ _ _ (fun _ _ => .inl (by simp; omega)), H.at0 k (by omega), pth_take (by omega)]
  · rw [List.length_take] at hk
    rw [World.cell?_setCells_out g vs _ _ _ (fun _ _ => .inl (by simp; omega)), H.at1 k (by omega), pth_take (by omega)]
theorem grown_setCells {a b : World} {g : Nat} (h : a.grownBy b (some g)) (o : Nat) (vs : List Value) : a.grownBy (b.setCells g o vs) (some g) := by
  induction vs generalizing b o with
  | nil => exact h
  | cons v vs ih => rw [World.setCells]; exact ih (grown_set h _ _) _
theorem Held.take {w : World} {g : Nat} {d : List (Int × Int)} (H : Held w g d) (i : Nat) : Held w g (d.take i) := by
  refine ⟨H.lt, H.fr, fun k hk => ?_, fun k hk => ?_⟩
  · rw [List.length_take] at hk
    rw [H.at0 k (by omega), pth_take (by omega)]
  · rw [List.length_take] at hk
    rw [H.at1 k (by omega), pth_take (by omega)]

/-- What is left in the slice. -/
def Kept (w : World) (g cap : Nat) (C : List (Int × Int)) (e : Ending) (w' : World) : Prop :=
  e = .returned (.slice (some ⟨g, 0, none⟩) C.length cap) ∧ Held w' g C ∧ w.grownBy w' (some g)
/-- As far as the place j: i are kept, at the front. -/
def CompAt (S d : List (Int × Int)) (i j : Nat) : Prop :=
  d.length = S.length ∧ (cmpct (S.take j)).length = i ∧ d.take i = cmpct (S.take j) ∧ i < j ∧ ∀ q, j ≤ q + 1 → pth d q = pth S q
theorem CompAt.skip {S d : List (Int × Int)} {i j : Nat} (h : CompAt S d i j) (h0 : 0 < j) (hj : j < S.length) (he : (pth S j).1 = (pth S (j - 1)).1) : CompAt S d i (j + 1) := by
  obtain ⟨h1, h2, h3, h4, h5⟩ := h
  have := cmpct_take h0 hj
  rw [if_pos he, List.append_nil] at this
  exact ⟨h1, by rw [this]; exact h2, by rw [this]; exact h3, by omega, fun q hq => h5 q (by omega)⟩
theorem CompAt.keep {S d : List (Int × Int)} {i j : Nat} (h : CompAt S d i j) (h0 : 0 < j) (hj : j < S.length) (he : (pth S j).1 ≠ (pth S (j - 1)).1) : CompAt S (d.set i (pth S j)) (i + 1) (j + 1) := by
  obtain ⟨h1, h2, h3, h4, h5⟩ := h
  have := cmpct_take h0 hj
  rw [if_neg he] at this
  refine ⟨by simpa using h1, by rw [this]; simp [h2], ?_, by omega, fun q hq => ?_⟩
  · rw [this, ← h3, List.take_succ_eq_append_getElem (by simp; omega)]
    simp [List.take_set_of_le]
  · rw [← h5 q (by omega)]
    simp [pth, show ¬ i = q by omega]

set_option maxRecDepth 100000 in
set_option maxHeartbeats 1000000 in
theorem compact_is (g n cap : Nat) (S : List (Int × Int)) (w : World) (hn : n ≤ 4194304) (hnc : n ≤ cap) (hcm : cap ≤ maxLen) (hl : S.length = n) (H : Held w g S) :
    Calls Tryz.prog 251 #[.slice (some ⟨g, 0, none⟩) n cap, (.func (Fn.func 252) #[] #[])] w (Kept w g cap (cmpct S)) := by
  unfold maxLen at hcm
  have HH := Lib.hid H
  have hl := Lib.hid hl
  rename_i q
  clear H q
  by_cases hn2 : n < 2
  · have hn2' : (n : Int) < 2 := by omega
    go_enter Tryz.func251, Tryz.ntmps251
    go_wp2
    go_ret
    have e : cmpct S = S := by
      match S, hl.out with
      | [], _ => rfl
      | [x], _ => rfl
      | x :: y :: S, h => simp only [List.length_cons] at h; omega
    rw [e]
    exact ⟨by rw [hl.out]; rfl, HH.out, grown_refl _ _⟩
  · have hn2' : ¬ (n : Int) < 2 := by omega
    go_enter Tryz.func251, Tryz.ntmps251
    go_wp2_with fail
    go_loopw [5] (fun iv wr => ∃ i : Nat, iv = .int .i64 i ∧ 0 < i ∧ i ≤ n ∧ cmpct (S.take i) = S.take i ∧ Below w.heap.size w wr) (fun i _ => n - (intOf i).toNat)
    case atStart =>
      refine ⟨1, rfl, by omega, by omega, ?_, Below.refl _ _⟩
      match S with
      | [] => rfl
      | x :: S => simp [cmpct, cfrom]
    case round =>
      obtain ⟨i, rfl, hi0, hin, hcmp, hbel⟩ := hrel
      have hcmp := Lib.hid hcmp
      rename_i q
      clear q
      by_cases hlt : i < n
      · have hlt' : (i : Int) < (n : Int) := by omega
        obtain ⟨p, hp, hp'⟩ : ∃ p : Nat, (i : Int) - 1 = (p : Int) ∧ p + 1 = i := ⟨i - 1, by omega, by omega⟩
        have hpn : (p : Int) < (n : Int) := by omega
        have hh := HH.out.later hbel
        have c0 := hh.at0 i (by rw [hl.out]; exact hlt)
        have c1 := hh.at1 i (by rw [hl.out]; exact hlt)
        have c2 := hh.at0 p (by rw [hl.out]; omega)
        have c3 := hh.at1 p (by rw [hl.out]; omega)
        have g0 := After.cell (by exact hh.lt) c0
        have g1 := After.cell (by exact hh.lt) c1
        have g2 := After.cell (by exact hh.lt) c2
        have g3 := After.cell (by exact hh.lt) c3
        have hstep := Lib.hid (cmpct_take hi0 (by rw [hl.out]; exact hlt : i < S.length))
        have hp' := Lib.hid hp'
        rename_i q
        clear q c0 c1 c2 c3 hh
        rw [show i - 1 = p by have := hp'.out; omega] at hstep
        generalize hu : pth S i = u at g0 g1 hstep
        generalize hv : pth S p = v at g2 g3 hstep
        have hu := Lib.hid hu
        have hv := Lib.hid hv
        rename_i q1 q2
        clear q1 q2
        obtain ⟨u, u'⟩ := u
        obtain ⟨v, v'⟩ := v
        by_cases huv : u = v
        · subst huv
          have hs : (u == u) = true := by simp
          have K0 : CompAt S S i (i + 1) := by
            have e1 := hstep.out
            rw [if_pos rfl, List.append_nil, hcmp.out] at e1
            exact ⟨rfl, by rw [e1, List.length_take, hl.out]; omega, e1.symm, by omega, fun q _ => rfl⟩
          have K0 := Lib.hid K0
          rename_i q
          clear q
          go_wp2_with fail
          refine wp_region_after (by kernel_rfl) (by kernel_rfl) ?_
          repeat (first | go_big_quiet_step ((go_at_call 252; exact after_of (eqWho_is hs u' v' _))) | quiet_step ((go_at_call 252; exact after_of (eqWho_is hs u' v' _))))
          refine wpQuiet_nil ?_
          intro pw
          have E := bel_trans hbel pw.bel
          clear g0 g1 g2 g3
          go_wp2_with fail
          go_loopw [5, 7] (fun iv kv wr => ∃ (i' k : Nat) (d : List (Int × Int)), iv = .int .i64 i' ∧ kv = .int .i64 k ∧ 0 < k ∧ i + k ≤ n ∧ CompAt S d i' (i + k) ∧ Held wr g d ∧ w.grownBy wr (some g)) (fun _ k _ => n - (intOf k).toNat)
          case atStart => exact ⟨i, 1, S, rfl, rfl, by omega, by omega, K0.out, HH.out.later E, grown_bel E _⟩
          case round =>
            obtain ⟨i', k, d, rfl, rfl, hk0, hkn, hK, hh, hg⟩ := hrel
            have hK4 := hK.2.2.2.1
            have hK1 := hK.1
            by_cases hlt2 : i + k < n
            · have hlt2' : (k : Int) < ((n - i : Nat) : Int) := by omega
              obtain ⟨r, hr, hr'⟩ : ∃ r : Nat, (k : Int) - 1 = (r : Int) ∧ r + 1 = k := ⟨k - 1, by omega, by omega⟩
              have hrn : (r : Int) < ((n - i : Nat) : Int) := by omega
              have c0 := hh.at0 (i + k) (by rw [hK1, hl.out]; exact hlt2)
              have c1 := hh.at1 (i + k) (by rw [hK1, hl.out]; exact hlt2)
              have c2 := hh.at0 (i + r) (by rw [hK1, hl.out]; omega)
              have c3 := hh.at1 (i + r) (by rw [hK1, hl.out]; omega)
              have c4 := hh.at0 i' (by rw [hK1, hl.out]; omega)
              have c5 := hh.at1 i' (by rw [hK1, hl.out]; omega)
              rw [hK.2.2.2.2 (i + k) (by omega)] at c0 c1
              rw [hK.2.2.2.2 (i + r) (by omega)] at c2 c3
              have hskip := Lib.hid (hK.skip (by omega) (by rw [hl.out]; exact hlt2))
              have hkeep := Lib.hid (hK.keep (by omega) (by rw [hl.out]; exact hlt2))
              rw [show i + k - 1 = i + r by omega] at hskip hkeep
              generalize hx : pth S (i + k) = x at c0 c1 hskip hkeep
              generalize hy : pth S (i + r) = y at c2 c3 hskip hkeep
              have HS := Lib.hid (fun (W : World) (h : Held W g d) => h.put i' x)
              have hx := Lib.hid hx
              have hy := Lib.hid hy
              have hK1 := Lib.hid hK1
              have hr' := Lib.hid hr'
              rw [show (i + k) * 2 = i * 2 + k * 2 by omega] at c0 c1
              rw [show (i + r) * 2 = i * 2 + r * 2 by omega] at c2 c3
              have g0 := After.cell (by exact hh.lt) c0
              have g1 := After.cell (by exact hh.lt) c1
              have g2 := After.cell (by exact hh.lt) c2
              have g3 := After.cell (by exact hh.lt) c3
              have g4 := After.cell (by exact hh.lt) c4
              have g5 := After.cell (by exact hh.lt) c5
              have hin' : (i' : Int) < (n : Int) := by omega
              have hk8 : (k : Int) ≤ 4194304 := by omega
              rename_i q1 q2 q3 q4
              clear q1 q2 q3 q4 c0 c1 c2 c3 c4 c5 hK
              have hh := Lib.hid hh
              rename_i q1
              clear q1
              obtain ⟨x, x'⟩ := x
              obtain ⟨y, y'⟩ := y
              by_cases hxy : x = y
              · have K1 := Lib.hid (hskip.out hxy)
                subst hxy
                have hs : (x == x) = true := by simp
                go_wp2_with fail
                refine wp_region_after (by kernel_rfl) (by kernel_rfl) ?_
                repeat (first | go_big_quiet_step ((go_at_call 252; exact after_of (eqWho_is hs x' y' _))) | quiet_step ((go_at_call 252; exact after_of (eqWho_is hs x' y' _))))
                refine wpQuiet_nil ?_
                intro pw
                have hh3 := hh.out.later pw.bel
                have hg3 := grown_trans hg (grown_bel pw.bel (some g))
                clear g0 g1 g2 g3 g4 g5
                go_wp2
                go_roundw
                case rel => exact ⟨i', k + 1, d, rfl, by go_num, by omega, by omega, K1.out, hh3, hg3⟩
                case measure => simp [intOf]; omega
              · have K1 := Lib.hid (hkeep.out hxy)
                have hs : (x == y) = false := by simp [hxy]
                have hxy := Lib.hid hxy
                rename_i q1
                clear q1
                go_wp2_with fail
                refine wp_region_after (by kernel_rfl) (by kernel_rfl) ?_
                repeat (first | go_big_quiet_step ((go_at_call 252; exact after_of (eqWho_is hs x' y' _))) | quiet_step ((go_at_call 252; exact after_of (eqWho_is hs x' y' _))))
                refine wpQuiet_nil ?_
                intro pw
                have hh3 := hh.out.later pw.bel
                have hg3 := grown_trans hg (grown_bel pw.bel (some g))
                have d0 := g0 pw
                have d1 := g1 pw
                have d4 := g4 pw
                have d5 := g5 pw
                have fr := hh3.fr
                have HP := Lib.hid (hh3.put i' (x, x'))
                clear g0 g1 g2 g3 g4 g5 hh3
                go_wp2
                go_roundw
                case rel => exact ⟨i' + 1, k + 1, d.set i' (x, x'), by go_num, by go_num, by omega, by omega, K1.out, HP.out, grown_set (grown_set hg3 _ _) _ _⟩
                case measure => simp [intOf]; omega
            · have hend : i + k = n := by omega
              have hK' : (cmpct S).length = i' ∧ d.take i' = cmpct S := by
                have h2 := hK.2.1
                have h3 := hK.2.2.1
                rw [hend, ← hl.out, List.take_length] at h2 h3
                exact ⟨h2, h3⟩
              have hend := Lib.hid hend
              obtain ⟨vs, hvs⟩ := clear_pairs wr 0 g i' (n - i') (cap - i') d (by omega) (by rw [hK1, hl.out]; omega) hh
              have hcl : ∀ ty, (Builtin.clear_ #[40] ty #[.slice (some ⟨g, i' * 2, none⟩) (n - i') (cap - i')]).run Tryz.prog wr = .ok (.tuple #[]) (wr.setCells g (i' * 2) vs) := fun ty => hvs
              have hlt2' : ¬ (k : Int) < ((n - i : Nat) : Int) := by omega
              have hK3 := Lib.hid hK'
              have hh := Lib.hid hh
              rename_i q1 q2
              clear q1 q2 hK hK' hvs hK1
              go_wp2
              go_ret
              rw [show i' = (cmpct S).length from hK3.out.1.symm]
              exact ⟨rfl, by rw [hK3.out.1]; exact hh.out.cut hK3.out.2 hK3.out.1 vs, grown_setCells hg _ vs⟩
        · have hs : (u == v) = false := by simp [huv]
          have K1 : cmpct (S.take (i + 1)) = S.take (i + 1) := by
            have e1 := hstep.out
            rw [if_neg huv, hcmp.out] at e1
            rw [e1, List.take_succ_eq_append_getElem (by rw [hl.out]; exact hlt), ← pth_lt (by rw [hl.out]; exact hlt), hu.out]
          have K1 := Lib.hid K1
          have huv := Lib.hid huv
          rename_i q1 q2
          clear q1 q2
          go_wp2_with fail
          refine wp_region_after (by kernel_rfl) (by kernel_rfl) ?_
          repeat (first | go_big_quiet_step ((go_at_call 252; exact after_of (eqWho_is hs u' v' _))) | quiet_step ((go_at_call 252; exact after_of (eqWho_is hs u' v' _))))
          refine wpQuiet_nil ?_
          intro pw
          have E := bel_trans hbel pw.bel
          clear g0 g1 g2 g3
          go_wp2
          go_roundw
          case rel => exact ⟨i + 1, by go_num, by omega, by omega, K1.out, E⟩
          case measure => simp [intOf]; omega
      · obtain rfl : i = n := by omega
        go_wp2
        go_ret
        have e := hcmp.out
        rw [← hl.out, List.take_length] at e
        rw [e]
        exact ⟨by rw [hl.out]; rfl, HH.out.later hbel, grown_bel hbel _⟩

end Go.Proofs.YtjdepjpjjgkmbaaGreat

/- The library's Grow and Concat over slices of pairs: two of them, one behind the other, in memory of their own. -/
namespace Go.Proofs.YtjdepjpjjgkmbaaGreat
open Go.RowKit

set_option maxRecDepth 100000 in
set_option maxHeartbeats 1000000 in
/-- Room for n pairs, none of them there yet. -/
theorem grow_is (n : Nat) (w : World) (hn : n ≤ 4194304) :
    Calls Tryz.prog 255 #[.slice none 0 0, .int .i64 n] w fun e w' => ∃ v, e = .returned v ∧ w'.ownsRow w.heap.size 136 2 v 0 [] ∧ Below w.heap.size w w' := by
  obtain ⟨i0, hi0, hz0, hz1, hz2⟩ := info_parts Tryz.infoSealI
  rcases Nat.eq_zero_or_pos n with rfl | hpos
  · go_enter Tryz.func255, Tryz.ntmps255
    go_wp2
    go_ret
    exact ⟨_, rfl, World.ownsRow_nil w _ _ _, Below.refl _ _⟩
  · have hrz : ∀ ty, (Builtin.append_ #[40, 3] ty #[.slice none 0 0, .int .i64 (n : Int)]).run Tryz.prog w =
        .ok (.slice (some ⟨w.heap.size, 0, none⟩) n (grownCap w n 0 136)) (w.drew.alloc (.cells (#[] ++ Builtin.zeroCells (Value.agg #[.int .i64 0, .int .i64 0]).cells n ++ Builtin.zeroCells (Value.agg #[.int .i64 0, .int .i64 0]).cells (grownCap w n 0 136 - n)) 136)) := fun ty => by
      have h := Lib.run_append_grow_zeros w 40 3 ty 136 i0 _ .i64 .i64 Tryz.underlying40 Tryz.underlying3 hi0 hz0 none 0 0 [] (run_firstCells_none w.drew i0.size 0 0 0) n (by omega) (by omega) (by omega) (by omega)
        (by rw [hz2]; omega) (by rw [Nat.zero_add]; exact growslice_fits hpos (by rw [hz2]; omega))
      simpa using h
    have hGn := grownCap_ge w n 0 136
    have hGm := grownCap_le_maxLen w n 0 136 (by unfold maxLen; omega)
    generalize grownCap w n 0 136 = G at hrz hGn hGm
    have hG := Lib.hid hGm
    unfold maxLen at hGm
    have hp : (0 : Int) < (n : Int) := by omega
    go_enter Tryz.func255, Tryz.ntmps255
    go_wp2_with (at_builtin; refine Lib.wpList_append_run _ rfl _ _ _ _ rfl _ _ rfl rfl _ _ (hrz _) ?_)
    go_ret
    refine ⟨_, rfl, ?_, ((Below.refl _ _).drew).alloc (Nat.le_refl _) _⟩
    exact World.ownsRow_made w.drew _ G (Nat.le_refl _) hG.out (by simp [size_zeroCells]; show n * 2 + (G - n) * 2 = G * 2; omega)

/-- A slice of pairs: nil, or somewhere. -/
def Slc (w : World) (v : Value) (ps : List (Int × Int)) : Prop :=
  (v = .slice none 0 0 ∧ ps = []) ∨ ∃ b o n cap, v = .slice (some ⟨b, o, none⟩) n cap ∧ Pairs w w.heap.size (some ⟨b, o, none⟩) n ps
theorem Slc.later {w w' : World} {v : Value} {ps : List (Int × Int)} (h : Slc w v ps) (hb : Below w.heap.size w w') : Slc w' v ps := by
  rcases h with h | ⟨b, o, n, cap, rfl, hp⟩
  · exact .inl h
  · exact .inr ⟨b, o, n, cap, rfl, hp.later hb⟩

set_option maxRecDepth 100000 in
set_option maxHeartbeats 1000000 in
theorem concat_is (q : Nat) (v v' : Value) (ps ps' : List (Int × Int)) (w : World) (hn : ps.length + ps'.length ≤ 4194304) (Q : Box w q 40 #[v, v']) (h : Slc w v ps) (h' : Slc w v' ps') :
    Calls Tryz.prog 248 #[.slice (some ⟨q, 0, none⟩) 2 2] w fun e w' => ∃ u, e = .returned u ∧ w'.ownsRow w.heap.size 136 2 u (ps.length + ps'.length) (flatP (ps ++ ps')) ∧ Below w.heap.size w w' := by
  obtain ⟨i0, hi0, hz0, hz1, hz2⟩ := info_parts Tryz.infoSealI
  have hq := Q.lt
  obtain ⟨A, n, cap, hv, hpn⟩ : ∃ (A : Option Addr) (n cap : Nat), v = .slice A n cap ∧ ps.length = n := by
    rcases h with ⟨rfl, rfl⟩ | ⟨b, o, n, cap, rfl, hp⟩
    · exact ⟨_, _, _, rfl, rfl⟩
    · exact ⟨_, _, _, rfl, hp.1⟩
  obtain ⟨A', n', cap', hv', hpn'⟩ : ∃ (A : Option Addr) (n cap : Nat), v' = .slice A n cap ∧ ps'.length = n := by
    rcases h' with ⟨rfl, rfl⟩ | ⟨b, o, n, cap, rfl, hp⟩
    · exact ⟨_, _, _, rfl, rfl⟩
    · exact ⟨_, _, _, rfl, hp.1⟩
  subst hv hv'
  rw [hpn, hpn'] at hn ⊢
  have HQ := Lib.hid Q
  have HS := Lib.hid h
  have HS' := Lib.hid h'
  have hpn := Lib.hid hpn
  have hpn' := Lib.hid hpn'
  rename_i q1 q2
  clear Q h h' q1 q2
  obtain ⟨s, hs, hs'⟩ : ∃ s : Nat, (n : Int) + (n' : Int) = (s : Int) ∧ n + n' = s := ⟨n + n', by omega, rfl⟩
  have hs' := Lib.hid hs'
  rename_i q1
  clear q1
  go_enter Tryz.func248, Tryz.ntmps248
  go_wp2_with fail
  go_loopw [3, 11] (fun sv iv wr => wr = w ∧ ((sv = .int .i64 0 ∧ iv = .int .i64 0) ∨ (sv = .int .i64 n ∧ iv = .int .i64 1) ∨ (sv = .int .i64 s ∧ iv = .int .i64 2))) (fun _ i _ => 2 - (intOf i).toNat)
  case atStart => exact ⟨rfl, .inl ⟨rfl, rfl⟩⟩
  case round =>
    obtain ⟨rfl, ⟨rfl, rfl⟩ | ⟨rfl, rfl⟩ | ⟨rfl, rfl⟩⟩ := hrel
    · obtain ⟨c0, c1⟩ := HQ.out.two
      go_wp2
      go_roundw
      case rel => exact ⟨trivial, .inr (.inl ⟨by go_num, rfl⟩)⟩
      case measure => simp [intOf]
    · obtain ⟨c0, c1⟩ := HQ.out.two
      go_wp2
      go_roundw
      case rel => exact ⟨trivial, .inr (.inr ⟨rfl, rfl⟩)⟩
      case measure => simp [intOf]
    · go_wp2_with fail
      refine (grow_is s _ (by have := hs'.out; omega)).mono ?_
      rintro e w1 ⟨u, rfl, hown, hb⟩
      have hown1 := Lib.hid hown
      clear hown
      obtain ⟨w0, rfl⟩ : ∃ w0, w0 = wr := ⟨_, rfl⟩
      go_wp2_with fail
      go_loopw [6, 27] (fun uv iv wr => Below w0.heap.size w0 wr ∧ ((iv = .int .i64 0 ∧ wr.ownsRow w0.heap.size 136 2 uv 0 []) ∨ (iv = .int .i64 1 ∧ wr.ownsRow w0.heap.size 136 2 uv n (flatP ps)) ∨ (iv = .int .i64 2 ∧ wr.ownsRow w0.heap.size 136 2 uv s (flatP (ps ++ ps'))))) (fun _ i _ => 2 - (intOf i).toNat)
      case atStart => exact ⟨hb, .inl ⟨rfl, hown1.out⟩⟩
      case round =>
        obtain ⟨hbel, ⟨rfl, hown⟩ | ⟨rfl, hown⟩ | ⟨rfl, hown⟩⟩ := hrel
        · have hc := (HQ.out.later hbel HQ.out.lt |>.two)
          rcases HS.out with ⟨hv, hps⟩ | ⟨b, o, m, c, hv, hp⟩
          · injection hv with e1 e2 e3
            subst e1 e2 e3
            have hps := Lib.hid hps
            rename_i q1
            clear q1
            go_wp2_with (at_builtin; refine wpList_append_own_none rfl _ _ _ rfl w0.heap.size 136 i0 2 Tryz.underlying40 hi0 u6 0 [] rfl hown rfl ?_)
            go_roundw
            case rel => exact ⟨hbel, .inr (.inl ⟨rfl, by rw [hps.out]; exact hown⟩)⟩
            case measure => simp [intOf]
          · injection hv with e1 e2 e3
            subst e1 e2 e3
            have hp := Lib.hid (hp.later hbel)
            rename_i q1
            clear q1
            have hbs := hbel.size
            have hoL := Lib.hid hown
            go_wp2_with (at_builtin; refine wpList_append_own _ rfl _ _ _ rfl w0.heap.size 136 i0 _ 2 16 Tryz.underlying40 hi0 hz0 hz1 hz2 rfl (by omega) u6 0 [] rfl hown ⟨b, o, none⟩ n cap (flatP ps) rfl (by rw [flatP_len, hpn.out]) (pairs_news hp.out) (flatP_one ps) (by unfold maxLen; omega) (by omega) hbs ?_; intro u1 w2 hown2 hgrow2 _)
            have E2 := hbel.grown hgrow2 hbs (fun k hk => (hoL.out.lt k hk).1)
            have hown3 := Lib.hid hown2
            clear hown2
            go_roundw
            case rel => exact ⟨E2, .inr (.inl ⟨rfl, by simpa using hown3.out⟩)⟩
            case measure => simp [intOf]
        · have hc := (HQ.out.later hbel HQ.out.lt |>.two)
          rcases HS'.out with ⟨hv, hps⟩ | ⟨b, o, m, c, hv, hp⟩
          · injection hv with e1 e2 e3
            subst e1 e2 e3
            have hps := Lib.hid hps
            rename_i q1
            clear q1
            go_wp2_with (at_builtin; refine wpList_append_own_none rfl _ _ _ rfl w0.heap.size 136 i0 2 Tryz.underlying40 hi0 u6 n (flatP ps) rfl hown rfl ?_)
            go_roundw
            case rel => exact ⟨hbel, .inr (.inr ⟨rfl, by rw [hps.out, List.append_nil, ← hs'.out]; exact hown⟩)⟩
            case measure => simp [intOf]
          · injection hv with e1 e2 e3
            subst e1 e2 e3
            have hp := Lib.hid (hp.later hbel)
            rename_i q1
            clear q1
            have hbs := hbel.size
            have hoL := Lib.hid hown
            go_wp2_with (at_builtin; refine wpList_append_own _ rfl _ _ _ rfl w0.heap.size 136 i0 _ 2 16 Tryz.underlying40 hi0 hz0 hz1 hz2 rfl (by omega) u6 n (flatP ps) rfl hown ⟨b, o, none⟩ n' cap' (flatP ps') rfl (by rw [flatP_len, hpn'.out]) (pairs_news hp.out) (flatP_one ps') (by unfold maxLen; omega) (by omega) hbs ?_; intro u1 w2 hown2 hgrow2 _)
            have E2 := hbel.grown hgrow2 hbs (fun k hk => (hoL.out.lt k hk).1)
            have hown3 := Lib.hid hown2
            clear hown2
            go_roundw
            case rel => exact ⟨E2, .inr (.inr ⟨rfl, by rw [flatP_app, ← hs'.out]; exact hown3.out⟩)⟩
            case measure => simp [intOf]
        · have hown2 := Lib.hid hown
          clear hown
          go_wp2
          go_ret
          exact ⟨_, rfl, by rw [hs'.out]; exact hown2.out, hbel⟩

end Go.Proofs.YtjdepjpjjgkmbaaGreat

/- JoinSeals: what it answers is what its model puts together, in memory of its own; up to some four million seals. -/
namespace Go.Proofs.YtjdepjpjjgkmbaaGreat
open Go.RowKit

set_option maxRecDepth 100000 in
theorem insSort_nil (w : World) : Calls Tryz.prog 257 #[.slice none 0 0, .int .i64 0, .int .i64 0, (.func (Fn.func 250) #[] #[])] w fun e w' => e = .returned (.tuple #[]) ∧ w = w' := by
  go_enter Tryz.func257, Tryz.ntmps257
  go_wp2_with fail
  go_loopw [8] (fun i wr => i = .int .i64 1 ∧ w = wr) (fun i _ => 0)
  case atStart => exact ⟨rfl, rfl⟩
  case round =>
    obtain ⟨rfl, rfl⟩ := hrel
    go_wp2
    go_end0
    exact ⟨rfl, rfl⟩
set_option maxRecDepth 100000 in
theorem stable_nil (w : World) : Calls Tryz.prog 256 #[.slice none 0 0, .int .i64 0, (.func (Fn.func 250) #[] #[])] w fun e w' => e = .returned (.tuple #[]) ∧ w = w' := by
  go_enter Tryz.func256, Tryz.ntmps256
  go_wp2_with fail
  go_loopw [7, 8] (fun a b wr => a = .int .i64 0 ∧ b = .int .i64 20 ∧ w = wr) (fun _ _ _ => 0)
  case atStart => exact ⟨rfl, rfl, rfl⟩
  case round =>
    obtain ⟨rfl, rfl, rfl⟩ := hrel
    go_wp2_with fail
    refine (insSort_nil w).mono ?_
    rintro e w1 ⟨rfl, rfl⟩
    go_wp2_with fail
    go_loopw [6] (fun k wr => k = .int .i64 20 ∧ w = wr) (fun _ _ => 0)
    case atStart => exact ⟨rfl, rfl⟩
    case round =>
      obtain ⟨rfl, rfl⟩ := hrel
      go_wp2
      go_end0
      exact ⟨rfl, rfl⟩
theorem sortStable_nil (w : World) : Calls Tryz.prog 249 #[.slice none 0 0, (.func (Fn.func 250) #[] #[])] w fun e w' => e = .returned (.tuple #[]) ∧ w = w' := by
  go_enter Tryz.func249, Tryz.ntmps249
  go_wp2_with fail
  refine (stable_nil w).mono ?_
  rintro e w1 ⟨rfl, rfl⟩
  go_wp2
  go_end0
  exact ⟨rfl, rfl⟩
theorem compact_nil (w : World) : Calls Tryz.prog 251 #[.slice none 0 0, (.func (Fn.func 252) #[] #[])] w fun e w' => e = .returned (.slice none 0 0) ∧ w = w' := by
  go_enter Tryz.func251, Tryz.ntmps251
  go_wp2
  go_ret
  exact ⟨rfl, rfl⟩
theorem sortStable_is (g n cap : Nat) (L : List (Int × Int)) (w : World) (hn : n ≤ 4194304) (hl : L.length = n) (H : Held w g L) :
    Calls Tryz.prog 249 #[.slice (some ⟨g, 0, none⟩) n cap, (.func (Fn.func 250) #[] #[])] w (Stable w g L) := by
  go_enter Tryz.func249, Tryz.ntmps249
  go_wp2_with fail
  refine (stable_is g n cap L w hn hl H).mono ?_
  rintro e w1 ⟨S, h1, h2, h3, rfl, h4, h5⟩
  go_wp2
  go_end0
  exact ⟨S, h1, h2, h3, rfl, h4, h5⟩

theorem own_held {w : World} {base : Nat} {e : TypeId} {q cap : Nat} {ps : List (Int × Int)} (h : w.ownsRow base e 2 (.slice (some ⟨q, 0, none⟩) ps.length cap) ps.length (flatP ps)) : Held w q ps := by
  refine ⟨(h.lt q rfl).2, fun o => ?_, fun i hi => ?_, fun i hi => ?_⟩
  · rcases h.2 with ⟨h', _⟩ | ⟨g', cap', cur, h', _, hg, _⟩
    · simp at h'
    · simp only [Value.slice.injEq, Option.some.injEq, Addr.mk.injEq, and_true, true_and] at h'
      obtain ⟨rfl, rfl⟩ := h'
      simp [World.frozen?, hg]
  · rw [h.cellAt (i * 2) (by omega)]; exact (flatP_at hi).1
  · rw [h.cellAt (i * 2 + 1) (by omega)]; exact (flatP_at hi).2

/-- A list of pairs of the call's own: nil, or a new block from its beginning. -/
def Own (w : World) (v : Value) (ps : List (Int × Int)) (w' : World) : Prop :=
  ((v = .slice none 0 0 ∧ ps = []) ∨ ∃ g cap, w.heap.size ≤ g ∧ v = .slice (some ⟨g, 0, none⟩) ps.length cap ∧ ps.length ≤ cap ∧ cap ≤ maxLen ∧ Held w' g ps) ∧ Below w.heap.size w w'
theorem Own.slc {w w' : World} {v : Value} {ps : List (Int × Int)} (h : Own w v ps w') : Slc w' v ps := by
  rcases h.1 with h | ⟨g, cap, _, rfl, _, _, hh⟩
  · exact .inl h
  · exact .inr ⟨g, 0, _, cap, rfl, hh.pairs⟩
theorem Own.later {w w1 w' : World} {v : Value} {ps : List (Int × Int)} (h : Own w v ps w1) (hb : Below w1.heap.size w1 w') : Own w v ps w' := by
  refine ⟨?_, bel_trans h.2 hb⟩
  rcases h.1 with h | ⟨g, cap, hg, rfl, h1, h2, hh⟩
  · exact .inl h
  · exact .inr ⟨g, cap, hg, rfl, h1, h2, hh.later hb⟩

set_option maxRecDepth 100000 in
set_option maxHeartbeats 1000000 in
theorem join_is (v v' : Value) (ps ps' : List (Int × Int)) (w : World) (hn : ps.length + ps'.length ≤ 4194304) (h : Slc w v ps) (h' : Slc w v' ps') :
    Calls Tryz.prog 245 #[v, v'] w fun e w' => ∃ u, e = .returned u ∧ Own w u (puts (ps ++ ps')) w' := by
  have hb := bel_alloc w (.cells #[v, v'] 40)
  have Q := Box.new w 40 #[v, v']
  have H := Lib.hid (h.later hb)
  have H' := Lib.hid (h'.later hb)
  have hall : ∃ L, L = ps ++ ps' := ⟨_, rfl⟩
  obtain ⟨L, hL⟩ := hall
  rw [← hL]
  have hLl : ps.length + ps'.length = L.length := by rw [hL, List.length_append]
  have hL := Lib.hid hL
  have hLl := Lib.hid hLl
  obtain ⟨A, n, cap, rfl⟩ : ∃ A n cap, v = .slice A n cap := by
    rcases h with ⟨rfl, _⟩ | ⟨b, o, n, cap, rfl, _⟩ <;> exact ⟨_, _, _, rfl⟩
  obtain ⟨A', n', cap', rfl⟩ : ∃ A n cap, v' = .slice A n cap := by
    rcases h' with ⟨rfl, _⟩ | ⟨b, o, n, cap, rfl, _⟩ <;> exact ⟨_, _, _, rfl⟩
  rename_i q1 q2
  clear h h' q1 q2
  go_enter Tryz.func245, Tryz.ntmps245
  go_wp2_with fail
  generalize (w.alloc _ : World) = w0 at hb Q H H' ⊢
  refine (concat_is _ _ _ ps ps' w0 hn Q H.out H'.out).mono ?_
  rintro e w1 ⟨u, rfl, hown, hb1⟩
  rw [hLl.out, ← hL.out] at hown
  have E1 := bel_trans hb hb1
  have hw0 := hb.size
  rcases hown.2 with ⟨rfl, hz⟩ | ⟨g, cap, cur, rfl, hbg, hg, hnc, hcm, _, _⟩
  · have hLn : L = [] := List.length_eq_zero_iff.1 hz
    have hLn := Lib.hid hLn
    rename_i q1
    clear q1 hz hown Q
    go_wp2_with fail
    refine (sortStable_nil w1).mono ?_
    rintro e w2 ⟨rfl, rfl⟩
    go_wp2_with fail
    refine (compact_nil w1).mono ?_
    rintro e w2 ⟨rfl, rfl⟩
    go_wp2
    go_ret
    exact ⟨_, rfl, .inl ⟨rfl, by rw [hLn.out]; rfl⟩, E1⟩
  · have hh := own_held hown
    have hcm := Lib.hid hcm
    have hn' : L.length ≤ 4194304 := by rw [← hLl.out]; exact hn
    have hgg : w.heap.size ≤ g := Nat.le_trans hw0 hbg
    rename_i q1
    clear q1 hg hown Q
    go_wp2_with fail
    refine (sortStable_is g L.length cap L w1 hn' rfl hh).mono ?_
    rintro e w2 ⟨S, hs1, hs2, hs3, rfl, hh2, hg2⟩
    have hs1 := Lib.hid hs1
    have hcp := Lib.hid (cmpct_puts hs2 hs3)
    have hle := cmpct_len_le S
    rename_i q1
    clear q1
    go_wp2_with fail
    refine (compact_is g L.length cap S w2 hn' hnc hcm.out hs1.out hh2).mono ?_
    rintro e w3 ⟨rfl, hh3, hg3⟩
    go_wp2
    go_ret
    refine ⟨_, rfl, .inr ⟨g, cap, hgg, ?_, ?_, hcm.out, ?_⟩, bel_grown (bel_grown E1 hg2 hgg) hg3 hgg⟩
    · rw [← hcp.out]; rfl
    · rw [← hcp.out]; have := hs1.out; omega
    · rw [← hcp.out]; exact hh3

end Go.Proofs.YtjdepjpjjgkmbaaGreat

/- Copies of lists in memory of their own (the library's Clone, Grow and Concat), and a shelf as a board and back: contracts of each of them. -/
namespace Go.Proofs.YtjdepjpjjgkmbaaGreat
open Go.RowKit

/-- A slice of opens: nil, or somewhere. -/
def SlcQ (w : World) (v : Value) (os : List Opn) : Prop :=
  (v = .slice none 0 0 ∧ os = []) ∨ ∃ b o n cap, v = .slice (some ⟨b, o, none⟩) n cap ∧ n ≤ cap ∧ cap ≤ maxLen ∧ Quads w w.heap.size (some ⟨b, o, none⟩) n os
theorem SlcQ.later {w w' : World} {v : Value} {os : List Opn} (h : SlcQ w v os) (hb : Below w.heap.size w w') : SlcQ w' v os := by
  rcases h with h | ⟨b, o, n, cap, rfl, h1, h2, hp⟩
  · exact .inl h
  · exact .inr ⟨b, o, n, cap, rfl, h1, h2, hp.later hb⟩
/-- A list of opens of the call's own: nil, or a new block from its beginning. -/
def OwnQ (w : World) (v : Value) (os : List Opn) (w' : World) : Prop :=
  ((v = .slice none 0 0 ∧ os = []) ∨ ∃ g cap, w.heap.size ≤ g ∧ v = .slice (some ⟨g, 0, none⟩) os.length cap ∧ os.length ≤ cap ∧ cap ≤ maxLen ∧ HeldQ w' g os) ∧ Below w.heap.size w w'
theorem OwnQ.later {w w1 w' : World} {v : Value} {os : List Opn} (h : OwnQ w v os w1) (hb : Below w1.heap.size w1 w') : OwnQ w v os w' := by
  refine ⟨?_, bel_trans h.2 hb⟩
  rcases h.1 with h | ⟨g, cap, hg, rfl, h1, h2, hh⟩
  · exact .inl h
  · exact .inr ⟨g, cap, hg, rfl, h1, h2, hh.later hb⟩
theorem OwnQ.slc {w w' : World} {v : Value} {os : List Opn} (h : OwnQ w v os w') : SlcQ w' v os := by
  rcases h.1 with h | ⟨g, cap, _, rfl, h1, h2, hh⟩
  · exact .inl h
  · exact .inr ⟨g, 0, _, cap, rfl, h1, h2, hh.quads⟩
theorem ownQ_of {w w' : World} {t : TypeId} {u : Value} {os : List Opn} (h : w'.ownsRow w.heap.size t 4 u os.length (flatO os)) (hb : Below w.heap.size w w') : OwnQ w u os w' := by
  refine ⟨?_, hb⟩
  have h0 := h
  rcases h.2 with ⟨rfl, hz⟩ | ⟨g, cap, cur, rfl, hbg, hg, hnc, hcm, _, _⟩
  · exact .inl ⟨rfl, List.length_eq_zero_iff.1 hz⟩
  · exact .inr ⟨g, cap, hbg, rfl, hnc, hcm, own_heldQ h0⟩
theorem own_of {w w' : World} {t : TypeId} {u : Value} {ps : List (Int × Int)} (h : w'.ownsRow w.heap.size t 2 u ps.length (flatP ps)) (hb : Below w.heap.size w w') : Own w u ps w' := by
  refine ⟨?_, hb⟩
  have h0 := h
  rcases h.2 with ⟨rfl, hz⟩ | ⟨g, cap, cur, rfl, hbg, hg, hnc, hcm, _, _⟩
  · exact .inl ⟨rfl, List.length_eq_zero_iff.1 hz⟩
  · exact .inr ⟨g, cap, hbg, rfl, hnc, hcm, own_held h0⟩
theorem own_new (w : World) (t : TypeId) (z : Nat) : (w.alloc (.cells #[] t)).ownsRow w.heap.size t z (.slice (some ⟨w.heap.size, 0, none⟩) 0 0) 0 [] :=
  ⟨by simp, .inr ⟨w.heap.size, 0, #[], rfl, Nat.le_refl _, Box.new w t #[], Nat.le_refl _, Nat.zero_le _, by simp, by simp⟩⟩

set_option maxRecDepth 100000 in
set_option maxHeartbeats 1000000 in
theorem cloneSeals_is (v : Value) (ps : List (Int × Int)) (w : World) (hn : ps.length ≤ 4194304) (h : Slc w v ps) :
    Calls Tryz.prog 129 #[v] w fun e w' => ∃ u, e = .returned u ∧ Own w u ps w' := by
  obtain ⟨i0, hi0, hz0, hz1, hz2⟩ := info_parts Tryz.infoSealI
  have qT : ∀ (w : World) (a : Option Addr) (n c n' c' : Nat), (binOp .eql 40 (.slice a n c) (.slice none n' c')).run Tryz.prog w = .ok (.bool a.isNone) w := fun w a n c n' c' => Lib.run_eql_slice_nil w _ _ a n c n' c' Tryz.underlying40
  rcases h with ⟨rfl, rfl⟩ | ⟨b, o, n, cap, rfl, hp⟩
  · go_enter Tryz.func129, Tryz.ntmps129
    go_wp2
    go_ret
    exact ⟨_, rfl, .inl ⟨rfl, rfl⟩, Below.refl _ _⟩
  · have hl := Lib.hid hp.1
    have hb0 := bel_alloc w (.cells #[] 136)
    have HP := Lib.hid (hp.later hb0)
    have hn' : n ≤ 4194304 := by rw [← hp.1]; exact hn
    have hown := own_new w 136 2
    have HO := Lib.hid hown
    have hbs := hb0.size
    clear hp
    go_enter Tryz.func129, Tryz.ntmps129
    go_wp2_with (at_builtin; refine wpList_append_own _ rfl _ _ _ rfl w.heap.size 136 i0 _ 2 16 Tryz.underlying40 hi0 hz0 hz1 hz2 rfl (by omega) (.slice (some ⟨w.heap.size, 0, none⟩) 0 0) 0 [] rfl hown ⟨b, o, none⟩ n cap (flatP ps) rfl (by rw [flatP_len, hl.out]) (pairs_news HP.out) (flatP_one ps) (by unfold maxLen; omega) (by omega) hbs ?_; intro u1 w2 hown2 hgrow2 _; have E2 := hb0.grown hgrow2 hbs (fun k hk => (HO.out.lt k hk).1); have HOW := Lib.hid hown2; clear hown2)
    go_ret
    refine ⟨_, rfl, own_of (t := 136) ?_ E2⟩
    have := HOW.out
    rw [Nat.zero_add, List.nil_append] at this
    rw [hl.out]
    exact this

set_option maxRecDepth 100000 in
set_option maxHeartbeats 1000000 in
theorem cloneOpens_is (v : Value) (ps : List Opn) (w : World) (hn : ps.length ≤ 4194304) (h : SlcQ w v ps) :
    Calls Tryz.prog 202 #[v] w fun e w' => ∃ u, e = .returned u ∧ OwnQ w u ps w' := by
  obtain ⟨i0, hi0, hz0, hz1, hz2⟩ := info_parts Tryz.infoOpen
  have qT : ∀ (w : World) (a : Option Addr) (n c n' c' : Nat), (binOp .eql 78 (.slice a n c) (.slice none n' c')).run Tryz.prog w = .ok (.bool a.isNone) w := fun w a n c n' c' => Lib.run_eql_slice_nil w _ _ a n c n' c' Tryz.underlying78
  rcases h with ⟨rfl, rfl⟩ | ⟨b, o, n, cap, rfl, _, _, hp⟩
  · go_enter Tryz.func202, Tryz.ntmps202
    go_wp2
    go_ret
    exact ⟨_, rfl, .inl ⟨rfl, rfl⟩, Below.refl _ _⟩
  · have hl := Lib.hid hp.1
    have hb0 := bel_alloc w (.cells #[] 97)
    have HP := Lib.hid (hp.later hb0)
    have hn' : n ≤ 4194304 := by rw [← hp.1]; exact hn
    have hown := own_new w 97 4
    have HO := Lib.hid hown
    have hbs := hb0.size
    clear hp
    go_enter Tryz.func202, Tryz.ntmps202
    go_wp2_with (at_builtin; refine wpList_append_own _ rfl _ _ _ rfl w.heap.size 97 i0 _ 4 32 Tryz.underlying78 hi0 hz0 hz1 hz2 rfl (by omega) (.slice (some ⟨w.heap.size, 0, none⟩) 0 0) 0 [] rfl hown ⟨b, o, none⟩ n cap (flatO ps) rfl (by rw [flatO_len, hl.out]) (quads_news HP.out) (flatO_one ps) (by unfold maxLen; omega) (by omega) hbs ?_; intro u1 w2 hown2 hgrow2 _; have E2 := hb0.grown hgrow2 hbs (fun k hk => (HO.out.lt k hk).1); have HOW := Lib.hid hown2; clear hown2)
    go_ret
    refine ⟨_, rfl, ownQ_of (t := 97) ?_ E2⟩
    have := HOW.out
    rw [Nat.zero_add, List.nil_append] at this
    rw [hl.out]
    exact this

set_option maxRecDepth 100000 in
set_option maxHeartbeats 1000000 in
/-- Room for n opens, none of them there yet. -/
theorem growOpens_is (n : Nat) (w : World) (hn : n ≤ 4194304) :
    Calls Tryz.prog 203 #[.slice none 0 0, .int .i64 n] w fun e w' => ∃ v, e = .returned v ∧ w'.ownsRow w.heap.size 97 4 v 0 [] ∧ Below w.heap.size w w' := by
  obtain ⟨i0, hi0, hz0, hz1, hz2⟩ := info_parts Tryz.infoOpen
  rcases Nat.eq_zero_or_pos n with rfl | hpos
  · go_enter Tryz.func203, Tryz.ntmps203
    go_wp2
    go_ret
    exact ⟨_, rfl, World.ownsRow_nil w _ _ _, Below.refl _ _⟩
  · have hrz : ∀ ty, (Builtin.append_ #[78, 3] ty #[.slice none 0 0, .int .i64 (n : Int)]).run Tryz.prog w =
        .ok (.slice (some ⟨w.heap.size, 0, none⟩) n (grownCap w n 0 97)) (w.drew.alloc (.cells (#[] ++ Builtin.zeroCells (Value.agg #[.int .i64 0, .int .i64 0, .int .i64 0, .int .i64 0]).cells n ++ Builtin.zeroCells (Value.agg #[.int .i64 0, .int .i64 0, .int .i64 0, .int .i64 0]).cells (grownCap w n 0 97 - n)) 97)) := fun ty => by
      have h := Lib.run_append_grow_zeros w 78 3 ty 97 i0 _ .i64 .i64 Tryz.underlying78 Tryz.underlying3 hi0 hz0 none 0 0 [] (run_firstCells_none w.drew i0.size 0 0 0) n (by omega) (by omega) (by omega) (by omega)
        (by rw [hz2]; omega) (by rw [Nat.zero_add]; exact growslice_fits hpos (by rw [hz2]; omega))
      simpa using h
    have hGn := grownCap_ge w n 0 97
    have hGm := grownCap_le_maxLen w n 0 97 (by unfold maxLen; omega)
    generalize grownCap w n 0 97 = G at hrz hGn hGm
    have hG := Lib.hid hGm
    unfold maxLen at hGm
    have hp : (0 : Int) < (n : Int) := by omega
    go_enter Tryz.func203, Tryz.ntmps203
    go_wp2_with (at_builtin; refine Lib.wpList_append_run _ rfl _ _ _ _ rfl _ _ rfl rfl _ _ (hrz _) ?_)
    go_ret
    refine ⟨_, rfl, ?_, ((Below.refl _ _).drew).alloc (Nat.le_refl _) _⟩
    exact World.ownsRow_made w.drew _ G (Nat.le_refl _) hG.out (by simp [size_zeroCells]; show n * 4 + (G - n) * 4 = G * 4; omega)

theorem SlcQ.form {w : World} {v : Value} {os : List Opn} (h : SlcQ w v os) : ∃ (A : Option Addr) (n cap : Nat), v = .slice A n cap ∧ os.length = n := by
  rcases h with ⟨rfl, rfl⟩ | ⟨b, o, n, cap, rfl, _, _, hp⟩
  · exact ⟨_, _, _, rfl, rfl⟩
  · exact ⟨_, _, _, rfl, hp.1⟩

set_option maxRecDepth 100000 in
set_option maxHeartbeats 4000000 in
theorem concatOpens_is (q : Nat) (v0 v1 v2 : Value) (o0 o1 o2 : List Opn) (w : World) (hn : o0.length + o1.length + o2.length ≤ 4194304) (Q : Box w q 78 #[v0, v1, v2]) (h0 : SlcQ w v0 o0) (h1 : SlcQ w v1 o1) (h2 : SlcQ w v2 o2) :
    Calls Tryz.prog 158 #[.slice (some ⟨q, 0, none⟩) 3 3] w fun e w' => ∃ u, e = .returned u ∧ OwnQ w u (o0 ++ o1 ++ o2) w' := by
  obtain ⟨i0, hi0, hz0, hz1, hz2⟩ := info_parts Tryz.infoOpen
  have hq := Q.lt
  obtain ⟨A0, n0, c0, hv0, hp0⟩ := h0.form
  obtain ⟨A1, n1, c1, hv1, hp1⟩ := h1.form
  obtain ⟨A2, n2, c2, hv2, hp2⟩ := h2.form
  subst hv0 hv1 hv2
  rw [hp0, hp1, hp2] at hn
  have HQ := Lib.hid Q
  have HS0 := Lib.hid h0
  have HS1 := Lib.hid h1
  have HS2 := Lib.hid h2
  replace hp0 := Lib.hid hp0
  replace hp1 := Lib.hid hp1
  replace hp2 := Lib.hid hp2
  clear Q h0 h1 h2
  obtain ⟨s, hs, hs'⟩ : ∃ s : Nat, (n0 : Int) + (n1 : Int) = (s : Int) ∧ n0 + n1 = s := ⟨n0 + n1, by omega, rfl⟩
  obtain ⟨t, ht, ht'⟩ : ∃ t : Nat, (s : Int) + (n2 : Int) = (t : Int) ∧ s + n2 = t := ⟨s + n2, by omega, rfl⟩
  have hsn : s + n2 ≤ 4194304 := by omega
  replace hs' := Lib.hid hs'
  replace ht' := Lib.hid ht'
  go_enter Tryz.func158, Tryz.ntmps158
  go_wp2_with fail
  go_loopw [3, 11] (fun sv iv wr => wr = w ∧ ((sv = .int .i64 0 ∧ iv = .int .i64 0) ∨ (sv = .int .i64 n0 ∧ iv = .int .i64 1) ∨ (sv = .int .i64 s ∧ iv = .int .i64 2) ∨ (sv = .int .i64 t ∧ iv = .int .i64 3))) (fun _ i _ => 3 - (intOf i).toNat)
  case atStart => exact ⟨rfl, .inl ⟨rfl, rfl⟩⟩
  case round =>
    obtain ⟨rfl, ⟨rfl, rfl⟩ | ⟨rfl, rfl⟩ | ⟨rfl, rfl⟩ | ⟨rfl, rfl⟩⟩ := hrel
    · obtain ⟨d0, d1, d2⟩ := HQ.out.three
      go_wp2
      go_roundw
      case rel => exact ⟨trivial, .inr (.inl ⟨by go_num, rfl⟩)⟩
      case measure => simp [intOf]
    · obtain ⟨d0, d1, d2⟩ := HQ.out.three
      go_wp2
      go_roundw
      case rel => exact ⟨trivial, .inr (.inr (.inl ⟨rfl, rfl⟩))⟩
      case measure => simp [intOf]
    · obtain ⟨d0, d1, d2⟩ := HQ.out.three
      go_wp2
      go_roundw
      case rel => exact ⟨trivial, .inr (.inr (.inr ⟨rfl, rfl⟩))⟩
      case measure => simp [intOf]
    · go_wp2_with fail
      refine (growOpens_is t _ (by have := ht'.out; omega)).mono ?_
      rintro e w1 ⟨u, rfl, hown, hb⟩
      have hown1 := Lib.hid hown
      clear hown
      obtain ⟨w0, rfl⟩ : ∃ w0, w0 = wr := ⟨_, rfl⟩
      go_wp2_with fail
      go_loopw [6, 27] (fun uv iv wr => Below w0.heap.size w0 wr ∧ ((iv = .int .i64 0 ∧ wr.ownsRow w0.heap.size 97 4 uv 0 []) ∨ (iv = .int .i64 1 ∧ wr.ownsRow w0.heap.size 97 4 uv n0 (flatO o0)) ∨ (iv = .int .i64 2 ∧ wr.ownsRow w0.heap.size 97 4 uv s (flatO (o0 ++ o1))) ∨ (iv = .int .i64 3 ∧ wr.ownsRow w0.heap.size 97 4 uv t (flatO (o0 ++ o1 ++ o2))))) (fun _ i _ => 3 - (intOf i).toNat)
      case atStart => exact ⟨hb, .inl ⟨rfl, hown1.out⟩⟩
      case round =>
        obtain ⟨hbel, ⟨rfl, hown⟩ | ⟨rfl, hown⟩ | ⟨rfl, hown⟩ | ⟨rfl, hown⟩⟩ := hrel
        · have hc := (HQ.out.later hbel HQ.out.lt |>.three)
          rcases HS0.out with ⟨hv, hps⟩ | ⟨b, o, m, cc, hv, hcl, hcm, hp⟩
          · injection hv with e1 e2 e3
            subst e1 e2 e3
            replace hps := Lib.hid hps
            go_wp2_with (at_builtin; refine wpList_append_own_none rfl _ _ _ rfl w0.heap.size 97 i0 4 Tryz.underlying78 hi0 u6 0 ([]) rfl hown rfl ?_)
            go_roundw
            case rel => exact ⟨hbel, .inr (.inl ⟨rfl, by rw [hps.out]; exact hown⟩)⟩
            case measure => simp [intOf]
          · injection hv with e1 e2 e3
            subst e1 e2 e3
            replace hp := Lib.hid (hp.later hbel)
            replace hcm := Lib.hid hcm
            have hbs := hbel.size
            have hoL := Lib.hid hown
            go_wp2_with (at_builtin; refine wpList_append_own _ rfl _ _ _ rfl w0.heap.size 97 i0 _ 4 32 Tryz.underlying78 hi0 hz0 hz1 hz2 rfl (by omega) u6 0 ([]) rfl hown ⟨b, o, none⟩ n0 c0 (flatO o0) rfl (by rw [flatO_len, hp0.out]) (quads_news hp.out) (flatO_one o0) (by unfold maxLen; omega) (by omega) hbs ?_; intro u1 w2 hown2 hgrow2 _)
            have E2 := hbel.grown hgrow2 hbs (fun k hk => (hoL.out.lt k hk).1)
            have hown3 := Lib.hid hown2
            clear hown2
            go_roundw
            case rel => exact ⟨E2, .inr (.inl ⟨rfl, by simpa using hown3.out⟩)⟩
            case measure => simp [intOf]
        · have hc := (HQ.out.later hbel HQ.out.lt |>.three)
          rcases HS1.out with ⟨hv, hps⟩ | ⟨b, o, m, cc, hv, hcl, hcm, hp⟩
          · injection hv with e1 e2 e3
            subst e1 e2 e3
            replace hps := Lib.hid hps
            go_wp2_with (at_builtin; refine wpList_append_own_none rfl _ _ _ rfl w0.heap.size 97 i0 4 Tryz.underlying78 hi0 u6 n0 (flatO o0) rfl hown rfl ?_)
            go_roundw
            case rel => exact ⟨hbel, .inr (.inr (.inl ⟨rfl, by rw [hps.out, List.append_nil, ← hs'.out]; exact hown⟩))⟩
            case measure => simp [intOf]
          · injection hv with e1 e2 e3
            subst e1 e2 e3
            replace hp := Lib.hid (hp.later hbel)
            replace hcm := Lib.hid hcm
            have hbs := hbel.size
            have hoL := Lib.hid hown
            go_wp2_with (at_builtin; refine wpList_append_own _ rfl _ _ _ rfl w0.heap.size 97 i0 _ 4 32 Tryz.underlying78 hi0 hz0 hz1 hz2 rfl (by omega) u6 n0 (flatO o0) rfl hown ⟨b, o, none⟩ n1 c1 (flatO o1) rfl (by rw [flatO_len, hp1.out]) (quads_news hp.out) (flatO_one o1) (by unfold maxLen; omega) (by omega) hbs ?_; intro u1 w2 hown2 hgrow2 _)
            have E2 := hbel.grown hgrow2 hbs (fun k hk => (hoL.out.lt k hk).1)
            have hown3 := Lib.hid hown2
            clear hown2
            go_roundw
            case rel => exact ⟨E2, .inr (.inr (.inl ⟨rfl, by rw [flatO_app, ← hs'.out]; exact hown3.out⟩))⟩
            case measure => simp [intOf]
        · have hc := (HQ.out.later hbel HQ.out.lt |>.three)
          rcases HS2.out with ⟨hv, hps⟩ | ⟨b, o, m, cc, hv, hcl, hcm, hp⟩
          · injection hv with e1 e2 e3
            subst e1 e2 e3
            replace hps := Lib.hid hps
            go_wp2_with (at_builtin; refine wpList_append_own_none rfl _ _ _ rfl w0.heap.size 97 i0 4 Tryz.underlying78 hi0 u6 s (flatO (o0 ++ o1)) rfl hown rfl ?_)
            go_roundw
            case rel => exact ⟨hbel, .inr (.inr (.inr ⟨rfl, by rw [hps.out, List.append_nil, ← ht'.out]; exact hown⟩))⟩
            case measure => simp [intOf]
          · injection hv with e1 e2 e3
            subst e1 e2 e3
            replace hp := Lib.hid (hp.later hbel)
            replace hcm := Lib.hid hcm
            have hbs := hbel.size
            have hoL := Lib.hid hown
            go_wp2_with (at_builtin; refine wpList_append_own _ rfl _ _ _ rfl w0.heap.size 97 i0 _ 4 32 Tryz.underlying78 hi0 hz0 hz1 hz2 rfl (by omega) u6 s (flatO (o0 ++ o1)) rfl hown ⟨b, o, none⟩ n2 c2 (flatO o2) rfl (by rw [flatO_len, hp2.out]) (quads_news hp.out) (flatO_one o2) (by unfold maxLen; omega) (by omega) hbs ?_; intro u1 w2 hown2 hgrow2 _)
            have E2 := hbel.grown hgrow2 hbs (fun k hk => (hoL.out.lt k hk).1)
            have hown3 := Lib.hid hown2
            clear hown2
            go_roundw
            case rel => exact ⟨E2, .inr (.inr (.inr ⟨rfl, by rw [flatO_app (o0 ++ o1), ← ht'.out]; exact hown3.out⟩))⟩
            case measure => simp [intOf]
        · have hown2 := Lib.hid hown
          clear hown
          go_wp2
          go_ret
          refine ⟨_, rfl, ownQ_of (t := 97) ?_ hbel⟩
          have e : (o0 ++ o1 ++ o2).length = t := by rw [List.length_append, List.length_append, hp0.out, hp1.out, hp2.out, hs'.out, ht'.out]
          rw [e]
          exact hown2.out

end Go.Proofs.YtjdepjpjjgkmbaaGreat

/- A shelf as a board and back, an open put to its place: contracts of the program's functions. -/
namespace Go.Proofs.YtjdepjpjjgkmbaaGreat
open Go.RowKit

/-- A list of seals in a block of its own from lo to hi, or nil. -/
def ResP (wr : World) (lo hi : Nat) (u : Value) (D : List (Int × Int)) : Prop :=
  (u = .slice none 0 0 ∧ D = []) ∨ ∃ g cap, lo ≤ g ∧ g < hi ∧ u = .slice (some ⟨g, 0, none⟩) D.length cap ∧ D.length ≤ cap ∧ cap ≤ maxLen ∧ Held wr g D
/-- A list of opens in a block of its own from lo on, or nil. -/
def ResO (wr : World) (lo : Nat) (v : Value) (D : List Opn) : Prop :=
  (v = .slice none 0 0 ∧ D = []) ∨ ∃ g cap, lo ≤ g ∧ v = .slice (some ⟨g, 0, none⟩) D.length cap ∧ D.length ≤ cap ∧ cap ≤ maxLen ∧ HeldQ wr g D
theorem ResP.later {wr w' : World} {lo hi : Nat} {u : Value} {D : List (Int × Int)} (h : ResP wr lo hi u D) (hb : Below wr.heap.size wr w') : ResP w' lo hi u D := by
  rcases h with h | ⟨g, cap, h1, h2, h3, h4, h5, h6⟩
  · exact .inl h
  · exact .inr ⟨g, cap, h1, h2, h3, h4, h5, h6.later hb⟩
theorem ResO.later {wr w' : World} {lo : Nat} {v : Value} {D : List Opn} (h : ResO wr lo v D) (hb : Below wr.heap.size wr w') : ResO w' lo v D := by
  rcases h with h | ⟨g, cap, h1, h3, h4, h5, h6⟩
  · exact .inl h
  · exact .inr ⟨g, cap, h1, h3, h4, h5, h6.later hb⟩
theorem ResP.far {w : World} {lo hi : Nat} {u : Value} {D : List (Int × Int)} (h : ResP w lo hi u D) {b : Nat} (hb : b < lo) (o : Nat) (x : Value) : ResP (w.setCell ⟨b, o, none⟩ x) lo hi u D := by
  rcases h with h | ⟨g, cap, h1, h2, h3, h4, h5, h6⟩
  · exact .inl h
  · exact .inr ⟨g, cap, h1, h2, h3, h4, h5, HeldK.far h6 (by omega) o x⟩
theorem ResO.far {w : World} {lo : Nat} {v : Value} {D : List Opn} (h : ResO w lo v D) {b : Nat} (hb : b < lo) (o : Nat) (x : Value) : ResO (w.setCell ⟨b, o, none⟩ x) lo v D := by
  rcases h with h | ⟨g, cap, h1, h3, h4, h5, h6⟩
  · exact .inl h
  · exact .inr ⟨g, cap, h1, h3, h4, h5, h6.far (by omega) o x⟩
theorem ResP.form {wr : World} {lo hi : Nat} {u : Value} {D : List (Int × Int)} (h : ResP wr lo hi u D) : ∃ (A : Option Addr) (cap : Nat), u = .slice A D.length cap ∧ D.length ≤ cap ∧ cap ≤ maxLen ∧ Pairs wr wr.heap.size A D.length D ∧ Slc wr u D := by
  rcases h with ⟨rfl, rfl⟩ | ⟨g, cap, h1, h2, rfl, h4, h5, h6⟩
  · exact ⟨none, 0, rfl, Nat.le_refl _, Nat.zero_le _, ⟨rfl, fun h => absurd h (by simp)⟩, .inl ⟨rfl, rfl⟩⟩
  · exact ⟨_, cap, rfl, h4, h5, h6.pairs, .inr ⟨g, 0, _, cap, rfl, h6.pairs⟩⟩
theorem ResO.form {wr : World} {lo : Nat} {v : Value} {D : List Opn} (h : ResO wr lo v D) : ∃ (A : Option Addr) (cap : Nat), v = .slice A D.length cap ∧ D.length ≤ cap ∧ cap ≤ maxLen ∧ Quads wr wr.heap.size A D.length D ∧ SlcQ wr v D := by
  rcases h with ⟨rfl, rfl⟩ | ⟨g, cap, h1, rfl, h4, h5, h6⟩
  · exact ⟨none, 0, rfl, Nat.le_refl _, Nat.zero_le _, quads_nil _ _ _, .inl ⟨rfl, rfl⟩⟩
  · exact ⟨_, cap, rfl, h4, h5, h6.quads, .inr ⟨g, 0, _, cap, rfl, h4, h5, h6.quads⟩⟩
theorem Own.res {w w' : World} {u : Value} {ps : List (Int × Int)} {lo : Nat} (h : Own w u ps w') (hl : lo ≤ w.heap.size) : ResP w' lo w'.heap.size u ps := by
  rcases h.1 with h | ⟨g, cap, h1, rfl, h3, h4, hh⟩
  · exact .inl h
  · exact .inr ⟨g, cap, by omega, hh.lt, rfl, h3, h4, hh⟩
theorem OwnQ.res {w w' : World} {v : Value} {os : List Opn} {lo : Nat} (h : OwnQ w v os w') (hl : lo ≤ w.heap.size) : ResO w' lo v os := by
  rcases h.1 with h | ⟨g, cap, h1, rfl, h3, h4, hh⟩
  · exact .inl h
  · exact .inr ⟨g, cap, by omega, rfl, h3, h4, hh⟩
theorem ResP.slc {wr : World} {lo hi : Nat} {u : Value} {D : List (Int × Int)} (h : ResP wr lo hi u D) : Slc wr u D := by
  obtain ⟨_, _, _, _, _, _, hs⟩ := h.form
  exact hs
theorem ResO.slc {wr : World} {lo : Nat} {v : Value} {D : List Opn} (h : ResO wr lo v D) : SlcQ wr v D := by
  obtain ⟨_, _, _, _, _, _, hs⟩ := h.form
  exact hs

theorem ResP.wide {wr : World} {lo lo' hi hi' : Nat} {u : Value} {D : List (Int × Int)} (h : ResP wr lo hi u D) (h1 : lo' ≤ lo) (h2 : hi ≤ hi') : ResP wr lo' hi' u D := by
  rcases h with h | ⟨g, cap, a, b, c⟩
  · exact .inl h
  · exact .inr ⟨g, cap, by omega, by omega, c⟩
theorem ResO.wide {wr : World} {lo lo' : Nat} {v : Value} {D : List Opn} (h : ResO wr lo v D) (h1 : lo' ≤ lo) : ResO wr lo' v D := by
  rcases h with h | ⟨g, cap, a, c⟩
  · exact .inl h
  · exact .inr ⟨g, cap, by omega, c⟩
theorem ResP.far5 {w : World} {lo hi : Nat} {u : Value} {D : List (Int × Int)} (h : ResP w lo hi u D) {b : Nat} (hb : b < lo) (x0 x1 x2 x3 x4 : Value) : ResP (((((w.setCell ⟨b, 0, none⟩ x0).setCell ⟨b, 1, none⟩ x1).setCell ⟨b, 2, none⟩ x2).setCell ⟨b, 3, none⟩ x3).setCell ⟨b, 4, none⟩ x4) lo hi u D :=
  ((((h.far hb 0 x0).far hb 1 x1).far hb 2 x2).far hb 3 x3).far hb 4 x4
theorem ResO.far5 {w : World} {lo : Nat} {u : Value} {D : List Opn} (h : ResO w lo u D) {b : Nat} (hb : b < lo) (x0 x1 x2 x3 x4 : Value) : ResO (((((w.setCell ⟨b, 0, none⟩ x0).setCell ⟨b, 1, none⟩ x1).setCell ⟨b, 2, none⟩ x2).setCell ⟨b, 3, none⟩ x3).setCell ⟨b, 4, none⟩ x4) lo u D :=
  ((((h.far hb 0 x0).far hb 1 x1).far hb 2 x2).far hb 3 x3).far hb 4 x4
theorem bel_five {w0 w : World} {b : Nat} (h : Below w0.heap.size w0 w) (hb : w0.heap.size ≤ b) (x0 x1 x2 x3 x4 : Value) : Below w0.heap.size w0 (((((w.setCell ⟨b, 0, none⟩ x0).setCell ⟨b, 1, none⟩ x1).setCell ⟨b, 2, none⟩ x2).setCell ⟨b, 3, none⟩ x3).setCell ⟨b, 4, none⟩ x4) :=
  ((((h.setCell hb x0).setCell hb x1).setCell hb x2).setCell hb x3).setCell hb x4
theorem slc_form {w : World} {v : Value} {ps : List (Int × Int)} (h : Slc w v ps) : ∃ (A : Option Addr) (n cap : Nat), v = .slice A n cap := by
  rcases h with ⟨rfl, _⟩ | ⟨b, o, n, cap, rfl, _⟩ <;> exact ⟨_, _, _, rfl⟩
theorem slcQ_form {w : World} {v : Value} {os : List Opn} (h : SlcQ w v os) : ∃ (A : Option Addr) (n cap : Nat), v = .slice A n cap := by
  rcases h with ⟨rfl, _⟩ | ⟨b, o, n, cap, rfl, _⟩ <;> exact ⟨_, _, _, rfl⟩
/-- A shelf that is answered: its lists lie in blocks of their own. -/
def RegR (w : World) (rt rq rv : Int) (ps : List (Int × Int)) (os : List Opn) (e : Ending) (w' : World) : Prop :=
  ∃ (B : Nat) (u v : Value), w.heap.size ≤ B ∧ B ≤ w'.heap.size ∧ e = .returned (.agg #[.int .i64 rt, .int .i64 rq, .int .i64 rv, u, v]) ∧ ResP w' w.heap.size B u ps ∧ ResO w' B v os ∧ Below w.heap.size w w'

theorem boardOf_is (rt rq rv : Int) (P : Option Addr) (p pc : Nat) (Q : Option Addr) (q qc : Nat) (w : World) :
    Calls Tryz.prog 156 #[.agg #[.int .i64 rt, .int .i64 rq, .int .i64 rv, .slice P p pc, .slice Q q qc]] w fun e w' => e = .returned (.agg #[.int .i64 rt, .int .i64 rq, .int .i64 rv, .slice P p pc, .slice Q q qc]) ∧ Below w.heap.size w w' := by
  go_enter Tryz.func156, Tryz.ntmps156
  go_wp2
  exact bodyPost_ret (v := .agg #[.int .i64 rt, .int .i64 rq, .int .i64 rv, .slice P p pc, .slice Q q qc]) (by simp [results, Tryz.results156, go_sem]) rfl ⟨rfl, by
    first
    | exact bel_trans (bel_alloc _ _) (bel_alloc _ _)
    | (repeat (first | (with_reducible exact bel_trans (bel_alloc _ _) (bel_alloc _ _)) | refine Below.setCell ?_ (by simp; try omega) _))⟩

set_option maxRecDepth 100000 in
set_option maxHeartbeats 2000000 in
theorem reg_is (rt rq rv : Int) (P : Option Addr) (p pc : Nat) (Q : Option Addr) (q qc : Nat) (ps : List (Int × Int)) (os : List Opn) (w : World) (hp : ps.length ≤ 4194304) (hq : os.length ≤ 4194304) (h1 : Slc w (.slice P p pc) ps) (h2 : SlcQ w (.slice Q q qc) os) :
    Calls Tryz.prog 157 #[.agg #[.int .i64 rt, .int .i64 rq, .int .i64 rv, .slice P p pc, .slice Q q qc]] w (RegR w rt rq rv ps os) := by
  have D := (Box.new w 201 #[.int .i64 rt, .int .i64 rq, .int .i64 rv, .slice P p pc, .slice Q q qc]).alloc (.cells #[.int .i64 0, .int .i64 0, .int .i64 0, .slice none 0 0, .slice none 0 0] 80)
  have X := Box.new (w.alloc (.cells #[.int .i64 rt, .int .i64 rq, .int .i64 rv, .slice P p pc, .slice Q q qc] 201)) 80 #[.int .i64 0, .int .i64 0, .int .i64 0, .slice none 0 0, .slice none 0 0]
  have hb0 := bel_trans (bel_alloc w (.cells #[.int .i64 rt, .int .i64 rq, .int .i64 rv, .slice P p pc, .slice Q q qc] 201)) (bel_alloc _ (.cells #[.int .i64 0, .int .i64 0, .int .i64 0, .slice none 0 0, .slice none 0 0] 80))
  simp only [World.size_alloc] at X
  have H1 := h1.later hb0
  have H2 := Lib.hid (h2.later hb0)
  clear h1 h2
  go_enter Tryz.func157, Tryz.ntmps157
  go_wp2_with fail
  generalize ((w.alloc _).alloc _ : World) = w0 at hb0 D X H1 H2 ⊢
  obtain ⟨d0, d1, d2, d3, d4⟩ := D.five
  have hXl := X.lt
  have hnn : w.heap.size + 1 ≠ w.heap.size := by omega
  go_region_held3 (fun w' => w'.cell? ⟨w.heap.size, 0, none⟩ = some (.int .i64 rt) ∧ w'.cell? ⟨w.heap.size, 1, none⟩ = some (.int .i64 rq) ∧ w'.cell? ⟨w.heap.size, 2, none⟩ = some (.int .i64 rv) ∧ w'.cell? ⟨w.heap.size, 3, none⟩ = some (.slice P p pc) ∧ w'.cell? ⟨w.heap.size, 4, none⟩ = some (.slice Q q qc))
    (first | (with_reducible exact K2) | (with_reducible exact K1) | go_keep)
    (first
      | (go_at_call 129; refine (cloneSeals_is _ ps _ hp ?_).mono ?_; exact H1; rintro e w1 ⟨u, rfl, hO1⟩; obtain ⟨A1, m1, c1, rfl⟩ := slc_form hO1.slc; have F1 := bel_drew' hO1.2; have K1 := (D.later F1 D.lt).five)
      | (go_at_call 202; refine (cloneOpens_is _ os _ hq (H2.out.later F1)).mono ?_; rintro e w2 ⟨v, rfl, hO2⟩; obtain ⟨A2, m2, c2, rfl⟩ := slcQ_form hO2.slc; have F2 := bel_trans F1 hO2.2; have K2 := (D.later F2 D.lt).five; have X2 := X.later F2 X.lt; obtain ⟨y0, y1, y2, y3, y4⟩ := X2.five; have fy := X2.frozen))
  have R1 := ((hO1.res (lo := w0.heap.size) (Nat.le_refl _)).later hO2.2).far5 (b := w.heap.size + 1) hXl (.int .i64 rt) (.int .i64 rq) (.int .i64 rv) (.slice A1 m1 c1) (.slice A2 m2 c2)
  have R2 := (hO2.res (lo := w1.heap.size) (Nat.le_refl _)).far5 (b := w.heap.size + 1) (Nat.lt_of_lt_of_le hXl F1.size) (.int .i64 rt) (.int .i64 rq) (.int .i64 rv) (.slice A1 m1 c1) (.slice A2 m2 c2)
  have E2 := bel_five (bel_trans hb0 F2) (b := w.heap.size + 1) (by omega) (.int .i64 rt) (.int .i64 rq) (.int .i64 rv) (.slice A1 m1 c1) (.slice A2 m2 c2)
  have hB1 : w.heap.size ≤ w1.heap.size := Nat.le_trans hb0.size F1.size
  have hB2 : w1.heap.size ≤ w2.heap.size := hO2.2.size
  replace R1 := Lib.hid R1
  replace R2 := Lib.hid R2
  replace E2 := Lib.hid E2
  clear K1 K2 hO1 hO2 F1 F2
  go_wp2
  exact bodyPost_ret (v := .agg #[.int .i64 rt, .int .i64 rq, .int .i64 rv, .slice A1 m1 c1, .slice A2 m2 c2]) (by simp [results, Tryz.results157, go_sem, y0, y1, y2, y3, y4]) rfl ⟨w1.heap.size, _, _, hB1, by simp only [size_set]; exact hB2, rfl, R1.out.wide hb0.size (Nat.le_refl _), R2.out, E2.out⟩


theorem place_put {os : List Opn} {o : Opn} {w w' : World} {e : Ending} (h : Place o.1 os w e w') : Below w.heap.size w w' ∧ ∃ i j : Nat, i ≤ os.length ∧ j ≤ os.length ∧ e = .returned (.tuple #[.int .i64 (i : Int), .int .i64 (j : Int)]) ∧ withO os o = putO os i j o := by
  obtain ⟨hb, ⟨i, hi, rfl⟩ | ⟨hn, rfl⟩⟩ := h
  · exact ⟨hb, i, i + 1, by have := hi.1; omega, hi.1, by rw [show ((i + 1 : Nat) : Int) = (i : Int) + 1 by omega], withO_first hi⟩
  · exact ⟨hb, _, _, behN_le _ _, behN_le _ _, rfl, withO_none hn⟩

theorem slcQ_take {w : World} {bb oo q qc i : Nat} {os : List Opn} (h : Quads w w.heap.size (some ⟨bb, oo, none⟩) q os) (hi : i ≤ q) (hc : q ≤ qc) (hm : qc ≤ maxLen) : SlcQ w (.slice (some ⟨bb, oo, none⟩) i qc) (os.take i) :=
  .inr ⟨bb, oo, i, qc, rfl, by omega, hm, h.take hi⟩
theorem slcQ_one {w : World} {g : Nat} {t : TypeId} {a b c d : Int} (h : Box w g t #[.int .i64 a, .int .i64 b, .int .i64 c, .int .i64 d]) : SlcQ w (.slice (some ⟨g, 0, none⟩) 1 1) [(a, b, c, d)] :=
  .inr ⟨g, 0, 1, 1, rfl, Nat.le_refl _, by unfold maxLen; omega, rfl, fun _ => ⟨g, 0, rfl, h.lt, fun i hi => by
    obtain rfl : i = 0 := by omega
    exact ⟨h.cell 0, h.cell 1, h.cell 2, h.cell 3⟩⟩⟩
theorem slcQ_drop {w : World} {bb oo q qc j : Nat} {os : List Opn} (h : Quads w w.heap.size (some ⟨bb, oo, none⟩) q os) (hj : j ≤ q) (hc : q ≤ qc) (hm : qc ≤ maxLen) : SlcQ w (.slice (if qc = j then some ⟨bb, oo, none⟩ else some ⟨bb, oo + j * 4, none⟩) (q - j) (qc - j)) (os.drop j) := by
  by_cases e : qc = j
  · rw [if_pos e]
    have e0 : q - j = 0 := by omega
    have e1 : os.drop j = [] := List.drop_of_length_le (by have := h.1; omega)
    rw [e0, e1]
    exact .inr ⟨bb, oo, 0, qc - j, rfl, by omega, by omega, quads_nil _ _ _⟩
  · rw [if_neg e]
    exact .inr ⟨bb, oo + j * 4, q - j, qc - j, rfl, by omega, by omega, h.drop hj⟩

/-- What WithOpen keeps, behind its list put together. -/
def WithAt (w wr : World) (S : Nat) (rt rq rv : Int) (P : Option Addr) (p pc : Nat) (os : List Opn) : Prop :=
  ∃ (A4 : Option Addr) (m4 c4 : Nat), Box wr (w.heap.size + 1 + 1) 80 #[.int .i64 0, .int .i64 0, .int .i64 0, .slice none 0 0, .slice none 0 0] ∧ Box wr S 201 #[.int .i64 rt, .int .i64 rq, .int .i64 rv, .slice P p pc, .slice A4 m4 c4] ∧ SlcQ wr (.slice A4 m4 c4) os ∧ Below w.heap.size w wr
theorem with_mk {w wr : World} {S : Nat} {rt rq rv : Int} {P : Option Addr} {p pc : Nat} {Q : Value} {A4 : Option Addr} {m4 c4 lo : Nat} {os : List Opn} (hX : Box wr (w.heap.size + 1 + 1) 80 #[.int .i64 0, .int .i64 0, .int .i64 0, .slice none 0 0, .slice none 0 0]) (hY : Box wr S 201 #[.int .i64 rt, .int .i64 rq, .int .i64 rv, .slice P p pc, Q]) (hb : Below w.heap.size w wr) (hS : w.heap.size + 1 + 1 < S) (hO : ResO wr lo (.slice A4 m4 c4) os) (hlo : S < lo) :
    WithAt w (wr.setCell ⟨S, 4, none⟩ (.slice A4 m4 c4)) S rt rq rv P p pc os :=
  ⟨A4, m4, c4, hX.far (p := ⟨S, 4, none⟩) (by show S ≠ _; omega) _, hY.set 4 _, (hO.far hlo 4 _).slc, hb.setCell (p := ⟨S, 4, none⟩) (by show _ ≤ S; omega) _⟩


set_option maxRecDepth 100000 in
/-- WithOpen's last step, of which the walk speaks twice. -/
theorem regr_put {w wc w' : World} {rt rq rv : Int} {ps : List (Int × Int)} {os : List Opn} {B R : Nat} {u v : Value} (E : Below w.heap.size w wc) (hR0 : w.heap.size ≤ R) (hR : R < wc.heap.size) (hB : wc.heap.size ≤ B) (hB' : B ≤ w'.heap.size) (h1 : ResP w' wc.heap.size B u ps) (h2 : ResO w' B v os) (hb : Below wc.heap.size wc w') (x0 x1 x2 x3 x4 : Value) :
    RegR w rt rq rv ps os (.returned (.agg #[.int .i64 rt, .int .i64 rq, .int .i64 rv, u, v])) (((((w'.setCell ⟨R, 0, none⟩ x0).setCell ⟨R, 1, none⟩ x1).setCell ⟨R, 2, none⟩ x2).setCell ⟨R, 3, none⟩ x3).setCell ⟨R, 4, none⟩ x4) :=
  ⟨B, u, v, Nat.le_trans E.size hB, by simp only [size_set]; exact hB', rfl, (h1.far5 hR x0 x1 x2 x3 x4).wide E.size (Nat.le_refl _), h2.far5 (by omega) x0 x1 x2 x3 x4, bel_five (bel_trans E hb) hR0 x0 x1 x2 x3 x4⟩

set_option maxRecDepth 100000 in
set_option maxHeartbeats 2000000 in
theorem withOpen_is (rt rq rv : Int) (P : Option Addr) (p pc : Nat) (Q : Option Addr) (q qc : Nat) (a b c d : Int) (ps : List (Int × Int)) (os : List Opn) (w : World) (hp : ps.length ≤ 2000000) (hq : os.length ≤ 2000000) (h1 : Slc w (.slice P p pc) ps) (h2 : SlcQ w (.slice Q q qc) os) :
    Calls Tryz.prog 102 #[.agg #[.int .i64 rt, .int .i64 rq, .int .i64 rv, .slice P p pc, .slice Q q qc], .agg #[.int .i64 a, .int .i64 b, .int .i64 c, .int .i64 d]] w (RegR w rt rq rv ps (withO os (a, b, c, d))) := by
  have D := ((Box.new w 80 #[.int .i64 rt, .int .i64 rq, .int .i64 rv, .slice P p pc, .slice Q q qc]).alloc (.cells #[.int .i64 a, .int .i64 b, .int .i64 c, .int .i64 d] 97)).alloc (.cells #[.int .i64 0, .int .i64 0, .int .i64 0, .slice none 0 0, .slice none 0 0] 80)
  have O := (Box.new (w.alloc (.cells #[.int .i64 rt, .int .i64 rq, .int .i64 rv, .slice P p pc, .slice Q q qc] 80)) 97 #[.int .i64 a, .int .i64 b, .int .i64 c, .int .i64 d]).alloc (.cells #[.int .i64 0, .int .i64 0, .int .i64 0, .slice none 0 0, .slice none 0 0] 80)
  have X := Box.new ((w.alloc (.cells #[.int .i64 rt, .int .i64 rq, .int .i64 rv, .slice P p pc, .slice Q q qc] 80)).alloc (.cells #[.int .i64 a, .int .i64 b, .int .i64 c, .int .i64 d] 97)) 80 #[.int .i64 0, .int .i64 0, .int .i64 0, .slice none 0 0, .slice none 0 0]
  have hb0 := bel_trans (bel_trans (bel_alloc w (.cells #[.int .i64 rt, .int .i64 rq, .int .i64 rv, .slice P p pc, .slice Q q qc] 80)) (bel_alloc _ (.cells #[.int .i64 a, .int .i64 b, .int .i64 c, .int .i64 d] 97))) (bel_alloc _ (.cells #[.int .i64 0, .int .i64 0, .int .i64 0, .slice none 0 0, .slice none 0 0] 80))
  simp only [World.size_alloc] at X O
  have H1w := Lib.hid h1
  have H2 := Lib.hid (h2.later hb0)
  clear h1 h2
  go_enter Tryz.func102, Tryz.ntmps102
  go_wp2_with fail
  generalize (((w.alloc _).alloc _).alloc _ : World) = w0 at hb0 D O X H2 ⊢
  refine (boardOf_is rt rq rv P p pc Q q qc w0).mono ?_
  rintro e w1 ⟨rfl, hb1⟩
  have O1 := O.later hb1 O.lt
  have X1 := X.later hb1 X.lt
  have E1 := bel_trans hb0 hb1
  have H21 := Lib.hid (H2.out.later hb1)
  clear D O X hb0 hb1 H2
  have Y := Box.new w1 201 #[.int .i64 rt, .int .i64 rq, .int .i64 rv, .slice P p pc, .slice Q q qc]
  have hb2 := bel_alloc w1 (.cells #[.int .i64 rt, .int .i64 rq, .int .i64 rv, .slice P p pc, .slice Q q qc] 201)
  obtain ⟨o0, o1, o2, o3⟩ := O1.four
  have hO1 := O1.lt
  have hX1 := X1.lt
  go_wp2_with fail
  have O2 := O1.later hb2 O1.lt
  have X2 := X1.later hb2 X1.lt
  have E2 := bel_trans E1 hb2
  have H22 := Lib.hid (H21.out.later hb2)
  generalize (w1.alloc _ : World) = w2 at Y hb2 O2 X2 E2 H22 ⊢
  generalize w1.heap.size = S at Y hO1 hX1 ⊢
  clear O1 X1 E1 H21 hb2 o0 o1 o2 o3
  have HQ22 : Hid (∃ A n c, Quads w2 w2.heap.size A n os ∧ Value.slice Q q qc = .slice A n c) := by
    rcases H22.out with ⟨hv, rfl⟩ | ⟨bb, oo, n, cap, hv, _, _, hq⟩
    · exact ⟨none, 0, 0, quads_nil _ _ _, hv⟩
    · exact ⟨_, n, cap, hq, hv⟩
  obtain ⟨A', n', c', hQ, hv⟩ := HQ22.out
  injection hv with e1 e2 e3
  subst e1 e2 e3
  have hql := Lib.hid hQ.1
  have hq' : q ≤ 2000000 := by rw [← hQ.1]; exact hq
  refine (placeOf_is Q q qc os a w2 (by omega) hQ).mono ?_
  intro e w3 hpl
  obtain ⟨hb3, i, j, hi, hj, rfl, hwO⟩ := place_put (o := (a, b, c, d)) hpl
  rw [hwO]
  have O3 := O2.later hb3 O2.lt
  have X3 := X2.later hb3 X2.lt
  have Y3 := Y.later hb3 Y.lt
  have E3 := bel_trans E2 hb3
  have H23 := H22.out.later hb3
  rw [hql.out] at hi hj
  replace hwO := Lib.hid hwO
  clear O2 X2 Y E2 H22 HQ22 hQ hpl hb3
  obtain ⟨o0, o1, o2, o3⟩ := O3.four
  obtain ⟨y0, y1, y2, y3, y4⟩ := Y3.five
  rcases H23 with ⟨hv, hos⟩ | ⟨bb, oo, n, cap, hv, hnc, hcm, hQ⟩
  · injection hv with e1 e2 e3
    subst e1 e2 e3
    obtain rfl : i = 0 := by omega
    obtain rfl : j = 0 := by omega
    subst hos
    have hb4 := bel_trans (bel_alloc w3 (.cells #[.int .i64 a, .int .i64 b, .int .i64 c, .int .i64 d] 97)) (bel_alloc _ (.cells #[.slice none 0 0, .slice (some ⟨w3.heap.size, 0, none⟩) 1 1, .slice none 0 0] 78))
    have BQ := Box.new (w3.alloc (.cells #[.int .i64 a, .int .i64 b, .int .i64 c, .int .i64 d] 97)) 78 #[.slice none 0 0, .slice (some ⟨w3.heap.size, 0, none⟩) 1 1, .slice none 0 0]
    have BO := (Box.new w3 97 #[.int .i64 a, .int .i64 b, .int .i64 c, .int .i64 d]).alloc (.cells #[.slice none 0 0, .slice (some ⟨w3.heap.size, 0, none⟩) 1 1, .slice none 0 0] 78)
    simp only [World.size_alloc] at BQ
    have T1 := slcQ_one BO
    replace T1 := Lib.hid T1
    replace BQ := Lib.hid BQ
    have hS3 := Y3.lt
    have hO3 := O3.lt
    have hX3 := X3.lt
    have fy := Y3.frozen
    have hnl : ([] : List Opn).length + [(a, b, c, d)].length + ([] : List Opn).length ≤ 4194304 := by simp
    clear BO
    go_upto_region 3 with fail
    go_cut [29] (fun _ wr => WithAt w wr S rt rq rv P p pc (putO [] 0 0 (a, b, c, d)))
    case first =>
      go_region_law (first
        | (go_simp; go_at_call 158; refine (concatOpens_is (w3.heap.size + 1) (.slice none 0 0) (.slice (some ⟨w3.heap.size, 0, none⟩) 1 1) (.slice none 0 0) [] [(a, b, c, d)] [] _ hnl ?_ ?_ ?_ ?_).mono ?_; exact BQ.out; exact .inl ⟨rfl, rfl⟩; exact T1.out; exact .inl ⟨rfl, rfl⟩; rintro e w4 ⟨u, rfl, hO4⟩; obtain ⟨A4, m4, c4, rfl⟩ := slcQ_form hO4.slc; have F4 := bel_trans hb4 (bel_drew' hO4.2); have Y4 := Y3.later F4 Y3.lt; have z4 := Y4.cell 4; have fz := Y4.frozen))
      all_goals
        have HW := Lib.hid (with_mk (os := putO [] 0 0 (a, b, c, d)) (X3.later F4 X3.lt) Y4 (bel_trans E3 F4) (by omega) (hO4.res (lo := w3.heap.size) (by simp; omega)) hS3)
        clear z4 fz Y4 F4 hO4
        go_wp2_with fail
        go_meet
        exact HW.out
    case rest =>
    obtain ⟨A4, m4, c4, X4, Y4, hS4, E4⟩ := hcut
    have HS4 := Lib.hid hS4
    clear hS4 BQ T1 hb4 hnl o0 o1 o2 o3 y0 y1 y2 y3 y4 fy O3 X3 Y3 E3
    obtain ⟨y0, y1, y2, y3, y4⟩ := Y4.five
    have hlen : (putO [] 0 0 (a, b, c, d)).length ≤ 4194304 := by rw [putO_len (by simp) (by simp)]; simp
    replace hlen := Lib.hid hlen
    have hX4 := X4.lt
    go_wp2_with fail
    refine (reg_is rt rq rv P p pc A4 m4 c4 ps _ wc (by omega) hlen.out (H1w.out.later E4) HS4.out).mono ?_
    rintro e w5 ⟨B, u, v, hB, hB', rfl, hR1, hR2, hb5⟩
    obtain ⟨A5, c5, rfl, _, _, _, _⟩ := hR1.form
    obtain ⟨A6, c6, rfl, _, _, _, _⟩ := hR2.form
    have X5 := X4.later hb5 X4.lt
    obtain ⟨x0, x1, x2, x3, x4⟩ := X5.five
    have fx := X5.frozen
    have HP := Lib.hid (regr_put (rt := rt) (rq := rq) (rv := rv) (R := w.heap.size + 1 + 1) E4 (by omega) hX4 hB hB' hR1 hR2 hb5)
    rw [← hwO.out] at HP hR2 ⊢
    clear hR1 hR2 y0 y1 y2 y3 y4
    go_wp2
    exact bodyPost_ret (v := .agg #[.int .i64 rt, .int .i64 rq, .int .i64 rv, .slice A5 ps.length c5, .slice A6 (withO [] (a, b, c, d)).length c6]) (by simp [results, Tryz.results102, go_sem, x0, x1, x2, x3, x4]) rfl (HP.out _ _ _ _ _)

  · injection hv with e1 e2 e3
    subst e1 e2 e3
    unfold maxLen at hcm
    have hi0 : (0 : Int) ≤ (i : Int) := by omega
    have hi1 : (i : Int) ≤ (qc : Int) := by omega
    have hj0 : (0 : Int) ≤ (j : Int) := by omega
    have hj1 : (j : Int) ≤ (q : Int) := by omega
    have hj2 : (q : Int) ≤ (qc : Int) := by omega
    obtain ⟨Z, hZ⟩ : ∃ Z : Option Addr, (if qc = j then some ⟨bb, oo, none⟩ else some ⟨bb, oo + j * 4, none⟩) = Z := ⟨_, rfl⟩
    have hb4 := bel_trans (bel_alloc w3 (.cells #[.int .i64 a, .int .i64 b, .int .i64 c, .int .i64 d] 97)) (bel_alloc _ (.cells #[.slice (some ⟨bb, oo, none⟩) i qc, .slice (some ⟨w3.heap.size, 0, none⟩) 1 1, .slice Z (q - j) (qc - j)] 78))
    have BQ := Box.new (w3.alloc (.cells #[.int .i64 a, .int .i64 b, .int .i64 c, .int .i64 d] 97)) 78 #[.slice (some ⟨bb, oo, none⟩) i qc, .slice (some ⟨w3.heap.size, 0, none⟩) 1 1, .slice Z (q - j) (qc - j)]
    have BO := (Box.new w3 97 #[.int .i64 a, .int .i64 b, .int .i64 c, .int .i64 d]).alloc (.cells #[.slice (some ⟨bb, oo, none⟩) i qc, .slice (some ⟨w3.heap.size, 0, none⟩) 1 1, .slice Z (q - j) (qc - j)] 78)
    simp only [World.size_alloc] at BQ
    have T0 := slcQ_take (hQ.later hb4) hi hnc (show qc ≤ maxLen by unfold maxLen; omega)
    have T1 := slcQ_one BO
    have T2 := slcQ_drop (hQ.later hb4) hj hnc (show qc ≤ maxLen by unfold maxLen; omega)
    have hnl : (os.take i).length + [(a, b, c, d)].length + (os.drop j).length ≤ 4194304 := by rw [List.length_take, List.length_drop, List.length_singleton, hql.out]; omega
    rw [hZ] at T2
    replace T0 := Lib.hid T0
    replace T1 := Lib.hid T1
    replace T2 := Lib.hid T2
    replace BQ := Lib.hid BQ
    have hS3 := Y3.lt
    have hO3 := O3.lt
    have hX3 := X3.lt
    have fy := Y3.frozen
    clear hQ BO
    go_upto_region 3 with fail
    go_cut [29] (fun _ wr => WithAt w wr S rt rq rv P p pc (putO os i j (a, b, c, d)))
    case first =>
      go_region_law (first
        | (go_simp; go_at_call 158; refine (concatOpens_is (w3.heap.size + 1) (.slice (some ⟨bb, oo, none⟩) i qc) (.slice (some ⟨w3.heap.size, 0, none⟩) 1 1) (.slice Z (q - j) (qc - j)) (os.take i) [(a, b, c, d)] (os.drop j) _ hnl ?_ ?_ ?_ ?_).mono ?_; exact BQ.out; exact T0.out; exact T1.out; exact T2.out; rintro e w4 ⟨u, rfl, hO4⟩; obtain ⟨A4, m4, c4, rfl⟩ := slcQ_form hO4.slc; have F4 := bel_trans hb4 (bel_drew' hO4.2); have Y4 := Y3.later F4 Y3.lt; have z4 := Y4.cell 4; have fz := Y4.frozen))
      all_goals
        have HW := Lib.hid (with_mk (os := putO os i j (a, b, c, d)) (X3.later F4 X3.lt) Y4 (bel_trans E3 F4) (by omega) (hO4.res (lo := w3.heap.size) (by simp; omega)) hS3)
        clear z4 fz Y4 F4 hO4
        go_wp2_with fail
        go_meet
        exact HW.out
    case rest =>
    obtain ⟨A4, m4, c4, X4, Y4, hS4, E4⟩ := hcut
    have HS4 := Lib.hid hS4
    clear hS4 BQ T0 T1 T2 hb4 hnl hZ o0 o1 o2 o3 y0 y1 y2 y3 y4 fy O3 X3 Y3 E3
    obtain ⟨y0, y1, y2, y3, y4⟩ := Y4.five
    have hlen : (putO os i j (a, b, c, d)).length ≤ 4194304 := by rw [putO_len (by rw [hql.out]; exact hi) (by rw [hql.out]; exact hj), hql.out]; omega
    replace hlen := Lib.hid hlen
    have hX4 := X4.lt
    go_wp2_with fail
    refine (reg_is rt rq rv P p pc A4 m4 c4 ps _ wc (by omega) hlen.out (H1w.out.later E4) HS4.out).mono ?_
    rintro e w5 ⟨B, u, v, hB, hB', rfl, hR1, hR2, hb5⟩
    obtain ⟨A5, c5, rfl, _, _, _, _⟩ := hR1.form
    obtain ⟨A6, c6, rfl, _, _, _, _⟩ := hR2.form
    have X5 := X4.later hb5 X4.lt
    obtain ⟨x0, x1, x2, x3, x4⟩ := X5.five
    have fx := X5.frozen
    have HP := Lib.hid (regr_put (rt := rt) (rq := rq) (rv := rv) (R := w.heap.size + 1 + 1) E4 (by omega) hX4 hB hB' hR1 hR2 hb5)
    rw [← hwO.out] at HP hR2 ⊢
    clear hR1 hR2 y0 y1 y2 y3 y4
    go_wp2
    exact bodyPost_ret (v := .agg #[.int .i64 rt, .int .i64 rq, .int .i64 rv, .slice A5 ps.length c5, .slice A6 (withO os (a, b, c, d)).length c6]) (by simp [results, Tryz.results102, go_sem, x0, x1, x2, x3, x4]) rfl (HP.out _ _ _ _ _)

end Go.Proofs.YtjdepjpjjgkmbaaGreat

/- The marks of opens and of shelves: what is written, what is found again, and what stays: contracts of each of them. -/
namespace Go.Proofs.YtjdepjpjjgkmbaaGreat
open Go.RowKit

/-- Only blocks from lo up to hi may have been written. -/
structure Band (lo hi : Nat) (w w' : World) : Prop where
  os : w'.os = w.os
  tape : w'.tape = w.tape
  output : w'.output = w.output
  size : w.heap.size ≤ w'.heap.size
  block : ∀ i, i < w.heap.size → (i < lo ∨ hi ≤ i) → w'.heap[i]? = w.heap[i]?
theorem Band.refl (lo hi : Nat) (w : World) : Band lo hi w w := ⟨rfl, rfl, rfl, Nat.le_refl _, fun _ _ _ => rfl⟩
theorem Band.trans {lo hi : Nat} {a b c : World} (h : Band lo hi a b) (k : Band lo hi b c) : Band lo hi a c :=
  ⟨k.os.trans h.os, k.tape.trans h.tape, k.output.trans h.output, Nat.le_trans h.size k.size, fun i hi' hb => (k.block i (Nat.lt_of_lt_of_le hi' h.size) hb).trans (h.block i hi' hb)⟩
theorem Band.of_below {lo hi : Nat} {a b : World} (h : Below a.heap.size a b) : Band lo hi a b := ⟨h.os, h.tape, h.output, h.size, fun i hi' _ => h.block i hi'⟩
theorem Band.of_grown {lo hi g : Nat} {a b : World} (h : a.grownBy b (some g)) (h1 : lo ≤ g) (h2 : g < hi) : Band lo hi a b :=
  ⟨h.os, h.tape, h.output, h.size, fun i hi' hb => h.block i hi' (by intro e; injection e with e; omega)⟩
theorem Band.below {lo hi : Nat} {w a b : World} (h : Band lo hi a b) (hb : Below w.heap.size w a) (hl : w.heap.size ≤ lo) : Below w.heap.size w b :=
  ⟨h.os.trans hb.os, h.tape.trans hb.tape, h.output.trans hb.output, Nat.le_trans hb.size h.size, fun i hi' => (h.block i (Nat.lt_of_lt_of_le hi' hb.size) (.inl (by omega))).trans (hb.block i hi')⟩
theorem Band.cell {lo hi : Nat} {a b : World} (h : Band lo hi a b) {g : Nat} (hg : g < a.heap.size) (hb : g < lo ∨ hi ≤ g) (o : Nat) : b.cell? ⟨g, o, none⟩ = a.cell? ⟨g, o, none⟩ := World.cell?_of_block (h.block g hg hb)
theorem Band.frozen {lo hi : Nat} {a b : World} (h : Band lo hi a b) {g : Nat} (hg : g < a.heap.size) (hb : g < lo ∨ hi ≤ g) (o : Nat) : b.frozen? ⟨g, o, none⟩ = a.frozen? ⟨g, o, none⟩ := World.frozen?_of_block (h.block g hg hb)
/-- A list of opens in a block of its own from lo to hi, or nil. -/
def ResQ (wr : World) (lo hi : Nat) (v : Value) (D : List Opn) : Prop :=
  (v = .slice none 0 0 ∧ D = []) ∨ ∃ g cap, lo ≤ g ∧ g < hi ∧ v = .slice (some ⟨g, 0, none⟩) D.length cap ∧ D.length ≤ cap ∧ cap ≤ maxLen ∧ HeldQ wr g D
theorem ResO.resQ {wr : World} {lo : Nat} {v : Value} {D : List Opn} (h : ResO wr lo v D) : ResQ wr lo wr.heap.size v D := by
  rcases h with h | ⟨g, cap, h1, h2, h3, h4, h5⟩
  · exact .inl h
  · exact .inr ⟨g, cap, h1, h5.lt, h2, h3, h4, h5⟩
theorem ResQ.resO {wr : World} {lo hi : Nat} {v : Value} {D : List Opn} (h : ResQ wr lo hi v D) : ResO wr lo v D := by
  rcases h with h | ⟨g, cap, h1, _, h2, h3, h4, h5⟩
  · exact .inl h
  · exact .inr ⟨g, cap, h1, h2, h3, h4, h5⟩
theorem ResQ.later {wr w' : World} {lo hi : Nat} {v : Value} {D : List Opn} (h : ResQ wr lo hi v D) (hb : Below wr.heap.size wr w') : ResQ w' lo hi v D := by
  rcases h with h | ⟨g, cap, h1, h2, h3, h4, h5, h6⟩
  · exact .inl h
  · exact .inr ⟨g, cap, h1, h2, h3, h4, h5, h6.later hb⟩
end Go.Proofs.YtjdepjpjjgkmbaaGreat

/- A variable that holds a shelf, with its lists in blocks of their own, all within a stretch of blocks: what keeps it, its marks, two of them compared. -/
namespace Go.Proofs.YtjdepjpjjgkmbaaGreat
open Go.RowKit

/-- The variable at g holds a shelf with lists ps and os; it and they lie in blocks from lo up to hi. -/
structure Var (wr : World) (lo hi g : Nat) (A : Option Addr) (n c : Nat) (A' : Option Addr) (n' c' : Nat) (rt rq rv : Int) (ps : List (Int × Int)) (os : List Opn) : Prop where
  box : Box wr g 80 #[.int .i64 rt, .int .i64 rq, .int .i64 rv, .slice A n c, .slice A' n' c']
  g0 : lo ≤ g
  g1 : g < hi
  hw : hi ≤ wr.heap.size
  lists : ∃ l B h, lo ≤ l ∧ l ≤ B ∧ B ≤ h ∧ h ≤ hi ∧ (g < l ∨ h ≤ g) ∧ ResP wr l B (.slice A n c) ps ∧ ResQ wr B h (.slice A' n' c') os
theorem Var.later {wr w' : World} {lo hi g : Nat} {A : Option Addr} {n c : Nat} {A' : Option Addr} {n' c' : Nat} {rt rq rv : Int} {ps : List (Int × Int)} {os : List Opn} (h : Var wr lo hi g A n c A' n' c' rt rq rv ps os) (hb : Below wr.heap.size wr w') : Var w' lo hi g A n c A' n' c' rt rq rv ps os := by
  obtain ⟨l, B, hh, h1, h2, h3, h4, h5, h6, h7⟩ := h.lists
  exact ⟨h.box.later hb h.box.lt, h.g0, h.g1, Nat.le_trans h.hw hb.size, l, B, hh, h1, h2, h3, h4, h5, h6.later hb, h7.later hb⟩
theorem Var.pairs {wr : World} {lo hi g : Nat} {A : Option Addr} {n c : Nat} {A' : Option Addr} {n' c' : Nat} {rt rq rv : Int} {ps : List (Int × Int)} {os : List Opn} (h : Var wr lo hi g A n c A' n' c' rt rq rv ps os) : ps.length = n ∧ Pairs wr wr.heap.size A n ps ∧ os.length = n' ∧ Quads wr wr.heap.size A' n' os ∧ n ≤ c ∧ c ≤ maxLen ∧ n' ≤ c' ∧ c' ≤ maxLen ∧ Slc wr (.slice A n c) ps ∧ SlcQ wr (.slice A' n' c') os := by
  obtain ⟨l, B, hh, h1, h2, h3, h4, h5, h6, h7⟩ := h.lists
  obtain ⟨A1, c1, e1, ha, hb, hc, hd⟩ := h6.form
  obtain ⟨A2, c2, e2, ha2, hb2, hc2, hd2⟩ := h7.resO.form
  injection e1 with e1 e1' e1''
  injection e2 with e2 e2' e2''
  subst e1 e1' e1'' e2 e2' e2''
  exact ⟨rfl, hc, rfl, hc2, ha, hb, ha2, hb2, hd, hd2⟩

theorem ResQ.far {w : World} {lo hi : Nat} {u : Value} {D : List Opn} (h : ResQ w lo hi u D) {b : Nat} (hb : b < lo) (o : Nat) (x : Value) : ResQ (w.setCell ⟨b, o, none⟩ x) lo hi u D := by
  rcases h with h | ⟨g, cap, h1, h2, h3, h4, h5, h6⟩
  · exact .inl h
  · exact .inr ⟨g, cap, h1, h2, h3, h4, h5, h6.far (by omega) o x⟩
end Go.Proofs.YtjdepjpjjgkmbaaGreat

namespace Go.Proofs.YtjdepjpjjgkmbaaGreat
open Go.RowKit

/-- Rows, pairs and opens that are read through blocks of F alone. -/
def RowF (w : World) (F : Nat → Prop) (A : Option Addr) (n : Nat) (zs : List Int) : Prop := Row w w.heap.size A n zs ∧ (0 < n → ∀ b o, A = some ⟨b, o, none⟩ → F b)
def PairsF (w : World) (F : Nat → Prop) (A : Option Addr) (n : Nat) (ps : List (Int × Int)) : Prop := Pairs w w.heap.size A n ps ∧ (0 < n → ∀ b o, A = some ⟨b, o, none⟩ → F b)
def QuadsF (w : World) (F : Nat → Prop) (A : Option Addr) (n : Nat) (os : List Opn) : Prop := Quads w w.heap.size A n os ∧ (0 < n → ∀ b o, A = some ⟨b, o, none⟩ → F b)
theorem RowF.turn {T : Nat → Prop} {w w' : World} {F : Nat → Prop} {A : Option Addr} {n : Nat} {zs : List Int} (h : RowF w F A n zs) (ht : Turns T w w') (hd : ∀ b, F b → ¬ T b) : RowF w' F A n zs := by
  refine ⟨⟨h.1.1, fun hn => ?_⟩, h.2⟩
  obtain ⟨b, o, hA, hb, hc⟩ := h.1.2 hn
  exact ⟨b, o, hA, Nat.lt_of_lt_of_le hb ht.size, fun i hi => (ht.cell hb (hd b (h.2 hn b o hA)) _).trans (hc i hi)⟩
theorem PairsF.turn {T : Nat → Prop} {w w' : World} {F : Nat → Prop} {A : Option Addr} {n : Nat} {ps : List (Int × Int)} (h : PairsF w F A n ps) (ht : Turns T w w') (hd : ∀ b, F b → ¬ T b) : PairsF w' F A n ps := by
  refine ⟨⟨h.1.1, fun hn => ?_⟩, h.2⟩
  obtain ⟨b, o, hA, hb, hc⟩ := h.1.2 hn
  have hx := hd b (h.2 hn b o hA)
  exact ⟨b, o, hA, Nat.lt_of_lt_of_le hb ht.size, fun i hi => ⟨(ht.cell hb hx _).trans (hc i hi).1, (ht.cell hb hx _).trans (hc i hi).2⟩⟩
theorem QuadsF.turn {T : Nat → Prop} {w w' : World} {F : Nat → Prop} {A : Option Addr} {n : Nat} {os : List Opn} (h : QuadsF w F A n os) (ht : Turns T w w') (hd : ∀ b, F b → ¬ T b) : QuadsF w' F A n os := by
  refine ⟨⟨h.1.1, fun hn => ?_⟩, h.2⟩
  obtain ⟨b, o, hA, hb, hc⟩ := h.1.2 hn
  have hx := hd b (h.2 hn b o hA)
  exact ⟨b, o, hA, Nat.lt_of_lt_of_le hb ht.size, fun i hi => ⟨(ht.cell hb hx _).trans (hc i hi).1, (ht.cell hb hx _).trans (hc i hi).2.1, (ht.cell hb hx _).trans (hc i hi).2.2.1, (ht.cell hb hx _).trans (hc i hi).2.2.2⟩⟩
theorem Pairs.all {w : World} {B : Nat} {A : Option Addr} {n : Nat} {ps : List (Int × Int)} (h : Pairs w B A n ps) : PairsF w (· < B) A n ps := by
  refine ⟨⟨h.1, fun hn => ?_⟩, fun hn b o e => ?_⟩
  · obtain ⟨b, o, hA, hb, hc⟩ := h.2 hn
    exact ⟨b, o, hA, lt_of_cell (hc 0 hn).1, hc⟩
  · obtain ⟨b', o', hA, hb, hc⟩ := h.2 hn
    rw [e] at hA
    injection hA with hA
    injection hA with hA
    subst hA
    exact hb
theorem Quads.all {w : World} {B : Nat} {A : Option Addr} {n : Nat} {os : List Opn} (h : Quads w B A n os) : QuadsF w (· < B) A n os := by
  refine ⟨⟨h.1, fun hn => ?_⟩, fun hn b o e => ?_⟩
  · obtain ⟨b, o, hA, hb, hc⟩ := h.2 hn
    exact ⟨b, o, hA, lt_of_cell (hc 0 hn).1, hc⟩
  · obtain ⟨b', o', hA, hb, hc⟩ := h.2 hn
    rw [e] at hA
    injection hA with hA
    injection hA with hA
    subst hA
    exact hb
theorem Row.all {w : World} {B : Nat} {A : Option Addr} {n : Nat} {zs : List Int} (h : Row w B A n zs) : RowF w (· < B) A n zs := by
  refine ⟨⟨h.1, fun hn => ?_⟩, fun hn b o e => ?_⟩
  · obtain ⟨b, o, hA, hb, hc⟩ := h.2 hn
    exact ⟨b, o, hA, lt_of_cell (hc 0 hn), hc⟩
  · obtain ⟨b', o', hA, hb, hc⟩ := h.2 hn
    rw [e] at hA
    injection hA with hA
    injection hA with hA
    subst hA
    exact hb

/-- A group's numbers; a shelf's; a note's. -/
structure GrpD where
  s : Int
  l : Int
  c : Int
  sh : Int
  zs : List Int
structure RegD where
  t : Int
  q : Int
  v : Int
  ps : List (Int × Int)
  os : List Opn
structure NoteD where
  k1 : Int
  k2 : Int
  k3 : Int
  k4 : Int
  k5 : Int
  t1 : Int
  t2 : Int
  v1 : Int
  o1 : Int
  o2 : Int
  v2 : Int
  l1 : Int
  l2 : Int
  v3 : Int
  cs : List (Int × Int)
  ms : List (Int × Int)
def GrpD.sz (d : GrpD) : Nat := d.zs.length
def RegD.sz (d : RegD) : Nat := d.ps.length + d.os.length
def NoteD.sz (d : NoteD) : Nat := d.cs.length + d.ms.length
/-- A value reads as a group; as a shelf; as a note. -/
def AtG (d : GrpD) (w : World) (F : Nat → Prop) (v : Value) : Prop :=
  ∃ (A : Option Addr) (n cap : Nat), v = .agg #[.int .i64 d.s, .int .i64 d.l, .int .i64 d.c, .int .i64 d.sh, .slice A n cap] ∧ n ≤ maxLen ∧ RowF w F A n d.zs
def AtR (d : RegD) (w : World) (F : Nat → Prop) (v : Value) : Prop :=
  ∃ (A : Option Addr) (n cap : Nat) (A' : Option Addr) (n' cap' : Nat), v = .agg #[.int .i64 d.t, .int .i64 d.q, .int .i64 d.v, .slice A n cap, .slice A' n' cap'] ∧ n ≤ maxLen ∧ n' ≤ maxLen ∧ PairsF w F A n d.ps ∧ QuadsF w F A' n' d.os
def NoteD.cells (d : NoteD) (P : Option Addr) (p pc : Nat) (Q : Option Addr) (q qc : Nat) : Array Value :=
  #[.int .i64 d.k1, .int .i64 d.k2, .int .i64 d.k3, .int .i64 d.k4, .int .i64 d.k5, .int .i64 d.t1, .int .i64 d.t2, .int .i64 d.v1, .int .i64 d.o1, .int .i64 d.o2, .int .i64 d.v2, .slice P p pc, .slice Q q qc, .int .i64 d.l1, .int .i64 d.l2, .int .i64 d.v3]
def AtN (d : NoteD) (w : World) (F : Nat → Prop) (v : Value) : Prop :=
  ∃ (A : Option Addr) (n cap : Nat) (A' : Option Addr) (n' cap' : Nat), v = .agg (d.cells A n cap A' n' cap') ∧ n ≤ maxLen ∧ n' ≤ maxLen ∧ PairsF w F A n d.cs ∧ PairsF w F A' n' d.ms
theorem keepsG (d : GrpD) : Keeps (AtG d) := ⟨fun ⟨A, n, c, e, h1, h2⟩ ht hd => ⟨A, n, c, e, h1, h2.turn ht hd⟩, fun ⟨A, n, c, e, h1, h2⟩ hs => ⟨A, n, c, e, h1, h2.1, fun hn b o e => hs b (h2.2 hn b o e)⟩⟩
/-- Keys, pairs and opens of one's own, in a block of F. -/
def OwnZ (w : World) (F : Nat → Prop) (v : Value) (zs : List Int) : Prop := ∃ g n cap, v = .slice (some ⟨g, 0, none⟩) n cap ∧ n ≤ cap ∧ cap ≤ maxLen ∧ F g ∧ g < w.heap.size ∧ (∀ i, w.frozen? ⟨g, i, none⟩ = false) ∧ Row w w.heap.size (some ⟨g, 0, none⟩) n zs
def OwnP (w : World) (F : Nat → Prop) (v : Value) (ps : List (Int × Int)) : Prop := (v = .slice none 0 0 ∧ ps = []) ∨ ∃ g cap, F g ∧ v = .slice (some ⟨g, 0, none⟩) ps.length cap ∧ ps.length ≤ cap ∧ cap ≤ maxLen ∧ Held w g ps
def OwnO (w : World) (F : Nat → Prop) (v : Value) (os : List Opn) : Prop := (v = .slice none 0 0 ∧ os = []) ∨ ∃ g cap, F g ∧ v = .slice (some ⟨g, 0, none⟩) os.length cap ∧ os.length ≤ cap ∧ cap ≤ maxLen ∧ HeldQ w g os
theorem Held.turn {T : Nat → Prop} {a b : World} {g : Nat} {d : List (Int × Int)} (hx : Held a g d) (h : Turns T a b) (hb : ¬ T g) : Held b g d :=
  ⟨Nat.lt_of_lt_of_le hx.lt h.size, fun o => (h.frozen hx.lt hb o).trans (hx.fr o), fun i hi' => (h.cell hx.lt hb _).trans (hx.at0 i hi'), fun i hi' => (h.cell hx.lt hb _).trans (hx.at1 i hi')⟩
theorem HeldQ.turn {T : Nat → Prop} {a b : World} {g : Nat} {d : List Opn} (hx : HeldQ a g d) (h : Turns T a b) (hb : ¬ T g) : HeldQ b g d :=
  hx.keep (Nat.lt_of_lt_of_le hx.lt h.size) (fun o => h.frozen hx.lt hb o) (fun o => h.cell hx.lt hb o)
theorem OwnP.turn {T : Nat → Prop} {w w' : World} {F : Nat → Prop} {v : Value} {ps : List (Int × Int)} (h : OwnP w F v ps) (ht : Turns T w w') (hd : ∀ b, F b → ¬ T b) : OwnP w' F v ps := by
  rcases h with h | ⟨g, cap, hF, h1, h2, h3, h4⟩
  · exact .inl h
  · exact .inr ⟨g, cap, hF, h1, h2, h3, h4.turn ht (hd g hF)⟩
theorem OwnO.turn {T : Nat → Prop} {w w' : World} {F : Nat → Prop} {v : Value} {os : List Opn} (h : OwnO w F v os) (ht : Turns T w w') (hd : ∀ b, F b → ¬ T b) : OwnO w' F v os := by
  rcases h with h | ⟨g, cap, hF, h1, h2, h3, h4⟩
  · exact .inl h
  · exact .inr ⟨g, cap, hF, h1, h2, h3, h4.turn ht (hd g hF)⟩
theorem OwnZ.turn {T : Nat → Prop} {w w' : World} {F : Nat → Prop} {v : Value} {zs : List Int} (h : OwnZ w F v zs) (ht : Turns T w w') (hd : ∀ b, F b → ¬ T b) : OwnZ w' F v zs := by
  obtain ⟨g, n, cap, e, h1, h2, hF, hl, hf, hr⟩ := h
  refine ⟨g, n, cap, e, h1, h2, hF, Nat.lt_of_lt_of_le hl ht.size, fun i => (ht.frozen hl (hd g hF) i).trans (hf i), hr.1, fun hn => ?_⟩
  obtain ⟨b, o, hA, hb, hc⟩ := hr.2 hn
  cases hA
  exact ⟨_, _, rfl, Nat.lt_of_lt_of_le hl ht.size, fun i hi => (ht.cell hl (hd _ hF) _).trans (hc i hi)⟩
theorem OwnP.sub {w : World} {F F' : Nat → Prop} {v : Value} {ps : List (Int × Int)} (h : OwnP w F v ps) (hs : ∀ b, F b → F' b) : OwnP w F' v ps := by
  rcases h with h | ⟨g, cap, hF, h1⟩
  · exact .inl h
  · exact .inr ⟨g, cap, hs g hF, h1⟩
theorem OwnO.sub {w : World} {F F' : Nat → Prop} {v : Value} {os : List Opn} (h : OwnO w F v os) (hs : ∀ b, F b → F' b) : OwnO w F' v os := by
  rcases h with h | ⟨g, cap, hF, h1⟩
  · exact .inl h
  · exact .inr ⟨g, cap, hs g hF, h1⟩
theorem OwnZ.sub {w : World} {F F' : Nat → Prop} {v : Value} {zs : List Int} (h : OwnZ w F v zs) (hs : ∀ b, F b → F' b) : OwnZ w F' v zs := by
  obtain ⟨g, n, cap, e, h1, h2, hF, h3⟩ := h
  exact ⟨g, n, cap, e, h1, h2, hs g hF, h3⟩
theorem OwnP.at {w : World} {F : Nat → Prop} {v : Value} {ps : List (Int × Int)} (h : OwnP w F v ps) : ∃ A cap, v = .slice A ps.length cap ∧ ps.length ≤ maxLen ∧ PairsF w F A ps.length ps ∧ Slc w v ps := by
  rcases h with ⟨rfl, rfl⟩ | ⟨g, cap, hF, rfl, h1, h2, h3⟩
  · exact ⟨none, 0, rfl, Nat.zero_le _, ⟨⟨rfl, fun h => absurd h (by simp)⟩, fun h => absurd h (by simp)⟩, .inl ⟨rfl, rfl⟩⟩
  · exact ⟨_, cap, rfl, Nat.le_trans h1 h2, ⟨h3.pairs, fun _ b o e => by injection e with e; injection e with e; exact e ▸ hF⟩, .inr ⟨g, 0, _, cap, rfl, h3.pairs⟩⟩
theorem OwnO.at {w : World} {F : Nat → Prop} {v : Value} {os : List Opn} (h : OwnO w F v os) : ∃ A cap, v = .slice A os.length cap ∧ os.length ≤ maxLen ∧ QuadsF w F A os.length os ∧ SlcQ w v os := by
  rcases h with ⟨rfl, rfl⟩ | ⟨g, cap, hF, rfl, h1, h2, h3⟩
  · exact ⟨none, 0, rfl, Nat.zero_le _, ⟨⟨rfl, fun h => absurd h (by simp)⟩, fun h => absurd h (by simp)⟩, .inl ⟨rfl, rfl⟩⟩
  · exact ⟨_, cap, rfl, Nat.le_trans h1 h2, ⟨h3.quads, fun _ b o e => by injection e with e; injection e with e; exact e ▸ hF⟩, .inr ⟨g, 0, _, cap, rfl, h1, h2, h3.quads⟩⟩

/-- A group, a shelf, a note of one's own: the lists lie in blocks of F, apart from one another. -/
def LieG (d : GrpD) (w : World) (F : Nat → Prop) (v : Value) : Prop := ∃ u, v = .agg #[.int .i64 d.s, .int .i64 d.l, .int .i64 d.c, .int .i64 d.sh, u] ∧ OwnZ w F u d.zs
def LieR (d : RegD) (w : World) (F : Nat → Prop) (v : Value) : Prop := ∃ (A : Option Addr) (n c : Nat) (A' : Option Addr) (n' c' lo B hi : Nat), v = .agg #[.int .i64 d.t, .int .i64 d.q, .int .i64 d.v, .slice A n c, .slice A' n' c'] ∧ ResP w lo B (.slice A n c) d.ps ∧ ResQ w B hi (.slice A' n' c') d.os ∧ lo ≤ B ∧ B ≤ hi ∧ hi ≤ w.heap.size ∧ ∀ b, Iv lo hi b → F b
def LieN (d : NoteD) (w : World) (F : Nat → Prop) (v : Value) : Prop := ∃ (g n c g' n' c' : Nat), v = .agg (d.cells (some ⟨g, 0, none⟩) n c (some ⟨g', 0, none⟩) n' c') ∧ d.cs.length = n ∧ d.ms.length = n' ∧ n ≤ maxLen ∧ n' ≤ maxLen ∧ Held w g d.cs ∧ Held w g' d.ms ∧ F g ∧ F g' ∧ g ≠ g'
theorem ResP.turn {T : Nat → Prop} {w w' : World} {lo hi : Nat} {v : Value} {ps : List (Int × Int)} (h : ResP w lo hi v ps) (ht : Turns T w w') (hd : ∀ b, Iv lo hi b → ¬ T b) : ResP w' lo hi v ps := by
  rcases h with h | ⟨g, cap, h0, h0', h1, h2, h3, h4⟩
  · exact .inl h
  · exact .inr ⟨g, cap, h0, h0', h1, h2, h3, h4.turn ht (hd g ⟨h0, h0'⟩)⟩
theorem ResQ.turn {T : Nat → Prop} {w w' : World} {lo hi : Nat} {v : Value} {os : List Opn} (h : ResQ w lo hi v os) (ht : Turns T w w') (hd : ∀ b, Iv lo hi b → ¬ T b) : ResQ w' lo hi v os := by
  rcases h with h | ⟨g, cap, h0, h0', h1, h2, h3, h4⟩
  · exact .inl h
  · exact .inr ⟨g, cap, h0, h0', h1, h2, h3, h4.turn ht (hd g ⟨h0, h0'⟩)⟩
theorem ResP.own {w : World} {lo hi : Nat} {v : Value} {ps : List (Int × Int)} (h : ResP w lo hi v ps) : OwnP w (Iv lo hi) v ps := by
  rcases h with h | ⟨g, cap, h0, h0', h1, h2, h3, h4⟩
  · exact .inl h
  · exact .inr ⟨g, cap, ⟨h0, h0'⟩, h1, h2, h3, h4⟩
theorem ResQ.own {w : World} {lo hi : Nat} {v : Value} {os : List Opn} (h : ResQ w lo hi v os) : OwnO w (Iv lo hi) v os := by
  rcases h with h | ⟨g, cap, h0, h0', h1, h2, h3, h4⟩
  · exact .inl h
  · exact .inr ⟨g, cap, ⟨h0, h0'⟩, h1, h2, h3, h4⟩
theorem keepsLR (d : RegD) : Keeps (LieR d) :=
  ⟨fun ⟨A, n, c, A', n', c', lo, B, hi, e, h1, h2, o1, o2, o3, hF⟩ ht hd => ⟨A, n, c, A', n', c', lo, B, hi, e, h1.turn ht (fun b hb => hd b (hF b (iv_sub (Nat.le_refl _) o2 b hb))), h2.turn ht (fun b hb => hd b (hF b (iv_sub o1 (Nat.le_refl _) b hb))), o1, o2, Nat.le_trans o3 ht.size, hF⟩,
   fun ⟨A, n, c, A', n', c', lo, B, hi, e, h1, h2, o1, o2, o3, hF⟩ hs => ⟨A, n, c, A', n', c', lo, B, hi, e, h1, h2, o1, o2, o3, fun b hb => hs b (hF b hb)⟩⟩
theorem LieG.at {d : GrpD} {w : World} {F : Nat → Prop} {v : Value} (h : LieG d w F v) : AtG d w F v := by
  obtain ⟨u, e, g, n, cap, rfl, h1, h2, hF, hl, hf, hr⟩ := h
  exact ⟨_, n, cap, e, Nat.le_trans h1 h2, hr, fun _ b o e => by injection e with e; injection e with e; exact e ▸ hF⟩
theorem LieR.at {d : RegD} {w : World} {F : Nat → Prop} {v : Value} (h : LieR d w F v) : AtR d w F v := by
  obtain ⟨A, n, c, A', n', c', lo, B, hi, e, h1, h2, o1, o2, o3, hF⟩ := h
  obtain ⟨A1, c1, e1, m, p, _⟩ := h1.own.at
  obtain ⟨A2, c2, e2, m', p', _⟩ := h2.own.at
  injection e1 with e1 e1' e1''
  injection e2 with e2 e2' e2''
  subst e1 e1' e1'' e2 e2' e2''
  exact ⟨A, _, c, A', _, c', e, m, m', ⟨p.1, fun hn b o e => hF b (iv_sub (Nat.le_refl _) o2 b (p.2 hn b o e))⟩, ⟨p'.1, fun hn b o e => hF b (iv_sub o1 (Nat.le_refl _) b (p'.2 hn b o e))⟩⟩
theorem LieR.slc {d : RegD} {w : World} {F : Nat → Prop} {v : Value} (h : LieR d w F v) : ∃ (A : Option Addr) (n c : Nat) (A' : Option Addr) (n' c' : Nat), v = .agg #[.int .i64 d.t, .int .i64 d.q, .int .i64 d.v, .slice A n c, .slice A' n' c'] ∧ Slc w (.slice A n c) d.ps ∧ SlcQ w (.slice A' n' c') d.os ∧ d.ps.length = n ∧ d.os.length = n' := by
  obtain ⟨A, n, c, A', n', c', lo, B, hi, e, h1, h2, o1, o2, o3, hF⟩ := h
  obtain ⟨A1, c1, e1, m, p, s1⟩ := h1.own.at
  obtain ⟨A2, c2, e2, m', p', s2⟩ := h2.own.at
  injection e1 with e1 e1' e1''
  injection e2 with e2 e2' e2''
  subst e1 e1' e1'' e2 e2' e2''
  exact ⟨A, _, c, A', _, c', e, s1, s2, rfl, rfl⟩
theorem LieN.at {d : NoteD} {w : World} {F : Nat → Prop} {v : Value} (h : LieN d w F v) : AtN d w F v := by
  obtain ⟨g, n, c, g', n', c', e, rfl, rfl, m1, m2, h1, h2, f1, f2, hne⟩ := h
  exact ⟨_, _, c, _, _, c', e, m1, m2, ⟨h1.pairs, fun _ b o e => by injection e with e; injection e with e; exact e ▸ f1⟩, ⟨h2.pairs, fun _ b o e => by injection e with e; injection e with e; exact e ▸ f2⟩⟩

theorem sizeG {d : GrpD} {w : World} {F : Nat → Prop} {C : Array Value} (h : AtG d w F (.agg C)) : (Tryz.prog.info? 47).map (·.size) = some C.size ∧ (Tryz.prog.info? 26).map (·.size) = some C.size := by
  obtain ⟨A, n, cap, e, _⟩ := h
  injection e with e
  subst e
  exact ⟨by kernel_rfl, by kernel_rfl⟩
theorem oneR {d : RegD} {w : World} {F : Nat → Prop} {C : Array Value} (h : AtR d w F (.agg C)) : C.size = 5 ∧ C.all (·.oneCell') = true := by
  obtain ⟨A, n, cap, A', n', cap', e, _⟩ := h
  injection e with e
  subst e
  exact ⟨rfl, by simp [Value.oneCell']⟩
/-- A fresh variable that was written whole at once. -/
theorem bel_new_row (w : World) (Z : Array Value) (t : TypeId) (C : Array Value) : Below w.heap.size w ((w.alloc (.cells Z t)).setRow w.heap.size C) :=
  (turns_setRow (w.alloc (.cells Z t)) w.heap.size C).below (bel_alloc w _) (fun i hi => by omega)
theorem var_new_row {P : World → (Nat → Prop) → Value → Prop} (k : Keeps P) {Z C : Array Value} (t : TypeId) {w : World} {F : Nat → Prop} (h : P w F (.agg C)) (hF : ∀ b, F b → b < w.heap.size) : VarOf P t ((w.alloc (.cells Z t)).setRow w.heap.size C) F w.heap.size C :=
  VarOf.put k (Box.new w t Z) (k.later h (bel_alloc w _)) (fun hf => absurd (hF _ hf) (Nat.lt_irrefl _))

end Go.Proofs.YtjdepjpjjgkmbaaGreat
