/- What the model of GroupOk answers at every group whose keys can be read: the same as the program. -/
import Derived.Test.YtjdepjpjjgkmbaaGreatGroup
namespace Go.Proofs.YtjdepjpjjgkmbaaGreat
open Go.RowKit

set_option maxHeartbeats 400000 in
theorem specGroup_no1 (s l c sh : Int) (A : Option Addr) (n cap : Nat) (w : World) (h1 : inB s 1 10 = false) :
    Calls Tryz.prog 133 #[(.agg #[.int .i64 s, .int .i64 l, .int .i64 c, .int .i64 sh, .slice A n cap])] w fun e w' => e = .returned (.bool false) ∧ Below w.heap.size w w' := by
  go_enter Tryz.func133, Tryz.ntmps133
  go_wp2_with (go_at_call 174; refine (l1In_any _ _ _ _).mono ?_; rintro e w' ⟨rfl, rfl⟩)
  go_ret
  exact ⟨rfl, bel_alloc _ _⟩

set_option maxHeartbeats 400000 in
theorem specGroup_no2 (s l c sh : Int) (A : Option Addr) (n cap : Nat) (w : World) (h1 : inB s 1 10 = true) (h2 : inB l 0 10 = false) :
    Calls Tryz.prog 133 #[(.agg #[.int .i64 s, .int .i64 l, .int .i64 c, .int .i64 sh, .slice A n cap])] w fun e w' => e = .returned (.bool false) ∧ Below w.heap.size w w' := by
  obtain ⟨b1, b2⟩ := inB_true.1 h1
  go_enter Tryz.func133, Tryz.ntmps133
  go_wp2_with (go_at_call 174; refine (l1In_any _ _ _ _).mono ?_; rintro e w' ⟨rfl, rfl⟩)
  go_ret
  exact ⟨rfl, bel_alloc _ _⟩

set_option maxHeartbeats 400000 in
theorem specGroup_no3 (s l c sh : Int) (A : Option Addr) (n cap : Nat) (w : World) (h1 : inB s 1 10 = true) (h2 : inB l 0 10 = true) (h3 : s < 3 * l + 1) :
    Calls Tryz.prog 133 #[(.agg #[.int .i64 s, .int .i64 l, .int .i64 c, .int .i64 sh, .slice A n cap])] w fun e w' => e = .returned (.bool false) ∧ Below w.heap.size w w' := by
  obtain ⟨b1, b2⟩ := inB_true.1 h1
  obtain ⟨b3, b4⟩ := inB_true.1 h2
  go_enter Tryz.func133, Tryz.ntmps133
  go_wp2_with (go_at_call 174; refine (l1In_any _ _ _ _).mono ?_; rintro e w' ⟨rfl, rfl⟩)
  go_ret
  exact ⟨rfl, bel_alloc _ _⟩

set_option maxHeartbeats 400000 in
theorem specGroup_no4 (s l c sh : Int) (A : Option Addr) (n cap : Nat) (w : World) (h1 : inB s 1 10 = true) (h2 : inB l 0 10 = true) (h3 : ¬ s < 3 * l + 1) (h4 : inB c 1 6 = false) :
    Calls Tryz.prog 133 #[(.agg #[.int .i64 s, .int .i64 l, .int .i64 c, .int .i64 sh, .slice A n cap])] w fun e w' => e = .returned (.bool false) ∧ Below w.heap.size w w' := by
  obtain ⟨b1, b2⟩ := inB_true.1 h1
  obtain ⟨b3, b4⟩ := inB_true.1 h2
  go_enter Tryz.func133, Tryz.ntmps133
  go_wp2_with (go_at_call 174; refine (l1In_any _ _ _ _).mono ?_; rintro e w' ⟨rfl, rfl⟩)
  go_ret
  exact ⟨rfl, bel_alloc _ _⟩

set_option maxHeartbeats 400000 in
theorem specGroup_no5 (s l c sh : Int) (A : Option Addr) (n cap : Nat) (w : World) (h1 : inB s 1 10 = true) (h2 : inB l 0 10 = true) (h3 : ¬ s < 3 * l + 1) (h4 : inB c 1 6 = true) (h5 : inB sh 1 4 = false) :
    Calls Tryz.prog 133 #[(.agg #[.int .i64 s, .int .i64 l, .int .i64 c, .int .i64 sh, .slice A n cap])] w fun e w' => e = .returned (.bool false) ∧ Below w.heap.size w w' := by
  obtain ⟨b1, b2⟩ := inB_true.1 h1
  obtain ⟨b3, b4⟩ := inB_true.1 h2
  obtain ⟨b5, b6⟩ := inB_true.1 h4
  go_enter Tryz.func133, Tryz.ntmps133
  go_wp2_with (go_at_call 174; refine (l1In_any _ _ _ _).mono ?_; rintro e w' ⟨rfl, rfl⟩)
  go_ret
  exact ⟨rfl, bel_alloc _ _⟩

set_option maxHeartbeats 400000 in
theorem specGroup_no6 (s l c sh : Int) (A : Option Addr) (n cap : Nat) (w : World) (h1 : inB s 1 10 = true) (h2 : inB l 0 10 = true) (h3 : ¬ s < 3 * l + 1) (h4 : inB c 1 6 = true) (h5 : inB sh 1 4 = true) (h6 : (n : Int) ≠ s + c) (_hm : n ≤ maxLen) :
    Calls Tryz.prog 133 #[(.agg #[.int .i64 s, .int .i64 l, .int .i64 c, .int .i64 sh, .slice A n cap])] w fun e w' => e = .returned (.bool false) ∧ Below w.heap.size w w' := by
  obtain ⟨b1, b2⟩ := inB_true.1 h1
  obtain ⟨b3, b4⟩ := inB_true.1 h2
  obtain ⟨b5, b6⟩ := inB_true.1 h4
  have hne : ((n : Int) != s + c) = true := by rw [bne_iff_ne]; exact h6
  unfold maxLen at _hm
  go_enter Tryz.func133, Tryz.ntmps133
  go_wp2_with (go_at_call 174; refine (l1In_any _ _ _ _).mono ?_; rintro e w' ⟨rfl, rfl⟩)
  go_ret
  exact ⟨rfl, bel_alloc _ _⟩

set_option maxHeartbeats 1000000 in
theorem specGroup_yes (s l c sh : Int) (A : Option Addr) (n cap : Nat) (zs : List Int) (w : World) (h1 : inB s 1 10 = true) (h2 : inB l 0 10 = true) (h3 : ¬ s < 3 * l + 1) (h4 : inB c 1 6 = true) (h5 : inB sh 1 4 = true) (h6 : (n : Int) = s + c) (hr : Row w w.heap.size A n zs) :
    Calls Tryz.prog 133 #[(.agg #[.int .i64 s, .int .i64 l, .int .i64 c, .int .i64 sh, .slice A n cap])] w fun e w' => e = .returned (.bool (keysB zs)) ∧ Below w.heap.size w w' := by
  obtain ⟨b1, b2⟩ := inB_true.1 h1
  obtain ⟨b3, b4⟩ := inB_true.1 h2
  obtain ⟨b5, b6⟩ := inB_true.1 h4
  have hne : ((n : Int) != s + c) = false := by simp [h6]
  have hn0 : 0 < n := by omega
  have hn16 : n ≤ 16 := by omega
  obtain ⟨hzl, hr⟩ := hr
  obtain ⟨b, o, rfl, hbB, hcell⟩ := hr hn0
  have H6 := Lib.hid h6
  clear h6 hr
  have HZ := Lib.hid hzl
  clear hzl
  have HC := Lib.hid hcell
  clear hcell
  go_enter Tryz.func133, Tryz.ntmps133
  go_wp2_with (go_at_call 174; refine (l1In_any _ _ _ _).mono ?_; rintro e w' ⟨rfl, rfl⟩)
  go_loop [3] (fun i => ∃ k : Nat, k ≤ n ∧ i = .int .i64 k ∧ Hid (∀ j, j < k → inB (nth zs j) 1 1000000 = true)) (fun i => n - (intOf i).toNat)
  case atStart => exact ⟨0, Nat.zero_le _, rfl, fun j hj => absurd hj (by omega)⟩
  case round =>
    obtain ⟨k, hk, rfl, hall⟩ := hrel
    by_cases hlt : k < n
    · have g := HC.out k hlt
      rcases hb : inB (nth zs k) 1 1000000 with _ | _
      · have HF : Hid (keysB zs = false) := keysB_false (by rw [HZ.out]; exact hlt) hb
        go_wp2_with (go_at_call 174; refine (l1In_any _ _ _ _).mono ?_; rintro e w' ⟨rfl, rfl⟩)
        go_ret
        exact ⟨by rw [HF.out]; rfl, bel_alloc _ _⟩
      · have HS : Hid (∀ j, j < k + 1 → inB (nth zs j) 1 1000000 = true) := all_succ (P := fun j => inB (nth zs j) 1 1000000) hall.out hb
        go_wp2_with (go_at_call 174; refine (l1In_any _ _ _ _).mono ?_; rintro e w' ⟨rfl, rfl⟩)
        go_round
        case rel => exact ⟨k + 1, by omega, by go_num, HS⟩
        case measure => simp [intOf]; omega
    · have HT : Hid (keysB zs = true) := keysB_true fun j hj => hall.out j (by have := HZ.out; omega)
      go_wp2
      go_ret
      exact ⟨by rw [HT.out]; rfl, bel_alloc _ _⟩

/-- The model's own rule for Liars says the same. -/
theorem liars_iff {s l : Int} (h1 : 1 ≤ s) (h2 : s ≤ 10) : inB l 0 ((s - 1) / 3) = (inB l 0 10 && !decide (s < 3 * l + 1)) := by
  rw [Bool.eq_iff_iff]
  simp only [inB, Bool.and_eq_true, decide_eq_true_eq, Bool.not_eq_true', decide_eq_false_iff_not]
  omega

theorem specGroup_any (s l c sh : Int) (A : Option Addr) (n cap : Nat) (zs : List Int) (w : World) (hm : n ≤ maxLen) (hr : Row w w.heap.size A n zs) :
    Calls Tryz.prog 133 #[(.agg #[.int .i64 s, .int .i64 l, .int .i64 c, .int .i64 sh, .slice A n cap])] w fun e w' => e = .returned (.bool (okB s l c sh zs)) ∧ Below w.heap.size w w' := by
  have hl := hr.1
  rcases h1 : inB s 1 10 with _ | _
  · rw [show okB s l c sh zs = false by simp [okB, h1]]
    exact specGroup_no1 s l c sh A n cap w h1
  have hs := inB_true.1 h1
  have e := liars_iff (l := l) hs.1 hs.2
  rcases h2 : inB l 0 10 with _ | _
  · rw [show okB s l c sh zs = false by simp [okB, e, h2]]
    exact specGroup_no2 s l c sh A n cap w h1 h2
  by_cases h3 : s < 3 * l + 1
  · rw [show okB s l c sh zs = false by simp [okB, e, h3]]
    exact specGroup_no3 s l c sh A n cap w h1 h2 h3
  rcases h4 : inB c 1 6 with _ | _
  · rw [show okB s l c sh zs = false by simp [okB, h4]]
    exact specGroup_no4 s l c sh A n cap w h1 h2 h3 h4
  rcases h5 : inB sh 1 4 with _ | _
  · rw [show okB s l c sh zs = false by simp [okB, h5]]
    exact specGroup_no5 s l c sh A n cap w h1 h2 h3 h4 h5
  by_cases h6 : (n : Int) = s + c
  · rw [show okB s l c sh zs = keysB zs by simp only [okB, e, h1, h2, h3, h4, h5, hl, h6]; simp]
    exact specGroup_yes s l c sh A n cap zs w h1 h2 h3 h4 h5 h6 hr
  · rw [show okB s l c sh zs = false by simp only [okB, hl, h6]; simp]
    exact specGroup_no6 s l c sh A n cap w h1 h2 h3 h4 h5 h6 hm

end Go.Proofs.YtjdepjpjjgkmbaaGreat

/- What QuorumOf, IsServer and IsClient answer, of the program and of its model: contracts of each of them. -/
namespace Go.Proofs.YtjdepjpjjgkmbaaGreat
open Go.RowKit

set_option maxHeartbeats 400000 in
theorem quorum_any (s l c sh : Int) (A : Option Addr) (n cap : Nat) (zs : List Int) (w : World) (hm : n ≤ maxLen) (hr : Row w w.heap.size A n zs) :
    Calls Tryz.prog 243 #[.agg #[.int .i64 s, .int .i64 l, .int .i64 c, .int .i64 sh, .slice A n cap]] w fun e w' => e = .returned (.int .i64 (quoN s l c sh zs)) ∧ Below w.heap.size w w' := by
  have HR := Lib.hid hr
  have HM := Lib.hid hm
  clear hr hm
  rcases hok : okB s l c sh zs with _ | _
  · have HQ : Hid (quoN s l c sh zs = -1) := by show quoN s l c sh zs = -1; simp [quoN, hok]
    go_enter Tryz.func243, Tryz.ntmps243
    have hb0 := bel_alloc w (.cells #[.int .i64 s, .int .i64 l, .int .i64 c, .int .i64 sh, .slice A n cap] 26)
    go_wp2_with fail
    generalize (w.alloc _ : World) = w0 at hb0 ⊢
    refine (groupOk_any s l c sh A n cap zs w0 HM.out ((HR.out.below hb0 (Nat.le_refl _)).more hb0.size)).mono ?_
    rintro e w1 ⟨rfl, hb1⟩
    go_wp2
    go_ret
    exact ⟨by rw [HQ.out]; rfl, bel_trans hb0 hb1⟩
  · have HQ : Hid (quoN s l c sh zs = (s + l) / 2 + 1) := by show quoN s l c sh zs = _; simp [quoN, hok]
    obtain ⟨b1, b2, b3, b4, b5, b6⟩ := okB_parts hok
    go_enter Tryz.func243, Tryz.ntmps243
    have D := Box.new w 26 #[.int .i64 s, .int .i64 l, .int .i64 c, .int .i64 sh, .slice A n cap]
    have hb0 := bel_alloc w (.cells #[.int .i64 s, .int .i64 l, .int .i64 c, .int .i64 sh, .slice A n cap] 26)
    go_wp2_with fail
    generalize (w.alloc _ : World) = w0 at D hb0 ⊢
    refine (groupOk_any s l c sh A n cap zs w0 HM.out ((HR.out.below hb0 (Nat.le_refl _)).more hb0.size)).mono ?_
    rintro e w1 ⟨rfl, hb1⟩
    obtain ⟨a0, a1, a2, a3, a4⟩ := (D.later hb1 D.lt).five
    go_wp2
    go_ret
    exact ⟨by rw [HQ.out]; rfl, bel_trans hb0 hb1⟩

set_option maxHeartbeats 400000 in
theorem server_any (s l c sh : Int) (A : Option Addr) (n cap : Nat) (zs : List Int) (x : Int) (w : World) (hm : n ≤ maxLen) (hr : Row w w.heap.size A n zs) :
    Calls Tryz.prog 118 #[.agg #[.int .i64 s, .int .i64 l, .int .i64 c, .int .i64 sh, .slice A n cap], .int .i64 x] w fun e w' => e = .returned (.bool (srvB s l c sh zs x)) ∧ Below w.heap.size w w' := by
  have HR := Lib.hid hr
  have HM := Lib.hid hm
  clear hr hm
  rcases hok : okB s l c sh zs with _ | _
  · have HQ : Hid (srvB s l c sh zs x = false) := by show srvB s l c sh zs x = _; simp [srvB, hok]
    go_enter Tryz.func118, Tryz.ntmps118
    have hb0 := bel_alloc w (.cells #[.int .i64 s, .int .i64 l, .int .i64 c, .int .i64 sh, .slice A n cap] 26)
    go_wp2_with fail
    generalize (w.alloc _ : World) = w0 at hb0 ⊢
    refine (groupOk_any s l c sh A n cap zs w0 HM.out ((HR.out.below hb0 (Nat.le_refl _)).more hb0.size)).mono ?_
    rintro e w1 ⟨rfl, hb1⟩
    go_wp2
    go_ret
    exact ⟨by rw [HQ.out]; rfl, bel_trans hb0 hb1⟩
  · have HQ : Hid (srvB s l c sh zs x = inB x 0 (s - 1)) := by show srvB s l c sh zs x = _; simp [srvB, hok]
    obtain ⟨b1, b2, b3, b4, b5, b6⟩ := okB_parts hok
    go_enter Tryz.func118, Tryz.ntmps118
    have D := Box.new w 26 #[.int .i64 s, .int .i64 l, .int .i64 c, .int .i64 sh, .slice A n cap]
    have hb0 := bel_alloc w (.cells #[.int .i64 s, .int .i64 l, .int .i64 c, .int .i64 sh, .slice A n cap] 26)
    go_wp2_with fail
    generalize (w.alloc _ : World) = w0 at D hb0 ⊢
    refine (groupOk_any s l c sh A n cap zs w0 HM.out ((HR.out.below hb0 (Nat.le_refl _)).more hb0.size)).mono ?_
    rintro e w1 ⟨rfl, hb1⟩
    obtain ⟨a0, a1, a2, a3, a4⟩ := (D.later hb1 D.lt).five
    go_wp2_with (go_at_call 143; refine (within_any _ _ _ _).mono ?_; rintro e w' ⟨rfl, rfl⟩)
    go_ret
    exact ⟨by rw [HQ.out]; rfl, bel_trans hb0 hb1⟩

set_option maxHeartbeats 400000 in
theorem client_any (s l c sh : Int) (A : Option Addr) (n cap : Nat) (zs : List Int) (x : Int) (w : World) (hm : n ≤ maxLen) (hr : Row w w.heap.size A n zs) :
    Calls Tryz.prog 224 #[.agg #[.int .i64 s, .int .i64 l, .int .i64 c, .int .i64 sh, .slice A n cap], .int .i64 x] w fun e w' => e = .returned (.bool (cliB s l c sh zs x)) ∧ Below w.heap.size w w' := by
  have HR := Lib.hid hr
  have HM := Lib.hid hm
  clear hr hm
  rcases hok : okB s l c sh zs with _ | _
  · have HQ : Hid (cliB s l c sh zs x = false) := by show cliB s l c sh zs x = _; simp [cliB, hok]
    go_enter Tryz.func224, Tryz.ntmps224
    have D := Box.new w 26 #[.int .i64 s, .int .i64 l, .int .i64 c, .int .i64 sh, .slice A n cap]
    have hb0 := bel_alloc w (.cells #[.int .i64 s, .int .i64 l, .int .i64 c, .int .i64 sh, .slice A n cap] 26)
    go_wp2_with fail
    generalize (w.alloc _ : World) = w0 at D hb0 ⊢
    have hr0 := (HR.out.below hb0 (Nat.le_refl _)).more hb0.size
    obtain ⟨a0, a1, a2, a3, a4⟩ := fiveAfter D
    refine wp_region_after (by kernel_rfl) (by kernel_rfl) ?_
    repeat (first | go_big_quiet_step (exact after_of (groupOk_any s l c sh A n cap zs _ HM.out (rowAfter hr0 _))) | quiet_step (exact after_of (groupOk_any s l c sh A n cap zs _ HM.out (rowAfter hr0 _))))
    refine wpQuiet_nil ?_
    intro p
    go_wp2
    go_ret
    exact ⟨by rw [HQ.out]; rfl, bel_trans hb0 p.bel⟩
  · have HQ : Hid (cliB s l c sh zs x = inB x s (s + c - 1)) := by show cliB s l c sh zs x = _; simp [cliB, hok]
    obtain ⟨b1, b2, b3, b4, b5, b6⟩ := okB_parts hok
    have hwr : IntKind.i64.wrap (s + c - 1) = s + c - 1 := IntWalk.i64_in _ (by omega)
    go_enter Tryz.func224, Tryz.ntmps224
    have D := Box.new w 26 #[.int .i64 s, .int .i64 l, .int .i64 c, .int .i64 sh, .slice A n cap]
    have hb0 := bel_alloc w (.cells #[.int .i64 s, .int .i64 l, .int .i64 c, .int .i64 sh, .slice A n cap] 26)
    go_wp2_with fail
    generalize (w.alloc _ : World) = w0 at D hb0 ⊢
    have hr0 := (HR.out.below hb0 (Nat.le_refl _)).more hb0.size
    obtain ⟨a0, a1, a2, a3, a4⟩ := D.five
    first | (go_region_held3 (fun w' => w'.cell? ⟨w.heap.size, 0, none⟩ = some (.int .i64 s) ∧ w'.cell? ⟨w.heap.size, 1, none⟩ = some (.int .i64 l) ∧ w'.cell? ⟨w.heap.size, 2, none⟩ = some (.int .i64 c) ∧ w'.cell? ⟨w.heap.size, 3, none⟩ = some (.int .i64 sh) ∧ w'.cell? ⟨w.heap.size, 4, none⟩ = some (.slice A n cap)) (first | exact K2 | exact K1 | go_keep)
      (first
        | (go_at_call 175; refine (groupOk_any s l c sh A n cap zs _ HM.out ?_).mono ?_; exact hr0; rintro e w1 ⟨rfl, hb1⟩; have D1 := D.later (bel_drew' hb1) D.lt; have K1 := D1.five)
        | (go_at_call 235; refine (nodes_any s l c sh A n cap _ b1 b2 b3 b4).mono ?_; rintro e w2 ⟨rfl, hb2⟩; have K2 := (D1.later hb2 D1.lt).five)
        | (go_at_call 143; refine (within_any _ _ _ _).mono ?_; rintro e w' ⟨rfl, rfl⟩))) | fail
    all_goals go_wp2
    all_goals go_ret
    all_goals exact ⟨by rw [HQ.out]; rfl, bel_trans hb0 (bel_trans (bel_drew' hb1) hb2)⟩

set_option maxHeartbeats 400000 in
theorem specQuorum_any (s l c sh : Int) (A : Option Addr) (n cap : Nat) (zs : List Int) (w : World) (hm : n ≤ maxLen) (hr : Row w w.heap.size A n zs) :
    Calls Tryz.prog 183 #[.agg #[.int .i64 s, .int .i64 l, .int .i64 c, .int .i64 sh, .slice A n cap]] w fun e w' => e = .returned (.int .i64 (quoN s l c sh zs)) ∧ Below w.heap.size w w' := by
  have HR := Lib.hid hr
  have HM := Lib.hid hm
  clear hr hm
  rcases hok : okB s l c sh zs with _ | _
  · have HQ : Hid (quoN s l c sh zs = -1) := by show quoN s l c sh zs = -1; simp [quoN, hok]
    go_enter Tryz.func183, Tryz.ntmps183
    have hb0 := bel_alloc w (.cells #[.int .i64 s, .int .i64 l, .int .i64 c, .int .i64 sh, .slice A n cap] 26)
    go_wp2_with fail
    generalize (w.alloc _ : World) = w0 at hb0 ⊢
    refine (specGroup_any s l c sh A n cap zs w0 HM.out ((HR.out.below hb0 (Nat.le_refl _)).more hb0.size)).mono ?_
    rintro e w1 ⟨rfl, hb1⟩
    go_wp2
    go_ret
    exact ⟨by rw [HQ.out]; rfl, bel_trans hb0 hb1⟩
  · have HQ : Hid (quoN s l c sh zs = (s + l) / 2 + 1) := by show quoN s l c sh zs = _; simp [quoN, hok]
    obtain ⟨b1, b2, b3, b4, b5, b6⟩ := okB_parts hok
    go_enter Tryz.func183, Tryz.ntmps183
    have D := Box.new w 26 #[.int .i64 s, .int .i64 l, .int .i64 c, .int .i64 sh, .slice A n cap]
    have hb0 := bel_alloc w (.cells #[.int .i64 s, .int .i64 l, .int .i64 c, .int .i64 sh, .slice A n cap] 26)
    go_wp2_with fail
    generalize (w.alloc _ : World) = w0 at D hb0 ⊢
    refine (specGroup_any s l c sh A n cap zs w0 HM.out ((HR.out.below hb0 (Nat.le_refl _)).more hb0.size)).mono ?_
    rintro e w1 ⟨rfl, hb1⟩
    obtain ⟨a0, a1, a2, a3, a4⟩ := (D.later hb1 D.lt).five
    go_wp2
    go_ret
    exact ⟨by rw [HQ.out]; rfl, bel_trans hb0 hb1⟩

set_option maxHeartbeats 400000 in
theorem specServer_any (s l c sh : Int) (A : Option Addr) (n cap : Nat) (zs : List Int) (x : Int) (w : World) (hm : n ≤ maxLen) (hr : Row w w.heap.size A n zs) :
    Calls Tryz.prog 117 #[.agg #[.int .i64 s, .int .i64 l, .int .i64 c, .int .i64 sh, .slice A n cap], .int .i64 x] w fun e w' => e = .returned (.bool (srvB s l c sh zs x)) ∧ Below w.heap.size w w' := by
  have HR := Lib.hid hr
  have HM := Lib.hid hm
  clear hr hm
  rcases hok : okB s l c sh zs with _ | _
  · have HQ : Hid (srvB s l c sh zs x = false) := by show srvB s l c sh zs x = _; simp [srvB, hok]
    go_enter Tryz.func117, Tryz.ntmps117
    have hb0 := bel_alloc w (.cells #[.int .i64 s, .int .i64 l, .int .i64 c, .int .i64 sh, .slice A n cap] 26)
    go_wp2_with fail
    generalize (w.alloc _ : World) = w0 at hb0 ⊢
    refine (specGroup_any s l c sh A n cap zs w0 HM.out ((HR.out.below hb0 (Nat.le_refl _)).more hb0.size)).mono ?_
    rintro e w1 ⟨rfl, hb1⟩
    go_wp2
    go_ret
    exact ⟨by rw [HQ.out]; rfl, bel_trans hb0 hb1⟩
  · have HQ : Hid (srvB s l c sh zs x = inB x 0 (s - 1)) := by show srvB s l c sh zs x = _; simp [srvB, hok]
    obtain ⟨b1, b2, b3, b4, b5, b6⟩ := okB_parts hok
    go_enter Tryz.func117, Tryz.ntmps117
    have D := Box.new w 26 #[.int .i64 s, .int .i64 l, .int .i64 c, .int .i64 sh, .slice A n cap]
    have hb0 := bel_alloc w (.cells #[.int .i64 s, .int .i64 l, .int .i64 c, .int .i64 sh, .slice A n cap] 26)
    go_wp2_with fail
    generalize (w.alloc _ : World) = w0 at D hb0 ⊢
    refine (specGroup_any s l c sh A n cap zs w0 HM.out ((HR.out.below hb0 (Nat.le_refl _)).more hb0.size)).mono ?_
    rintro e w1 ⟨rfl, hb1⟩
    obtain ⟨a0, a1, a2, a3, a4⟩ := (D.later hb1 D.lt).five
    go_wp2_with (go_at_call 174; refine (l1In_any _ _ _ _).mono ?_; rintro e w' ⟨rfl, rfl⟩)
    go_ret
    exact ⟨by rw [HQ.out]; rfl, bel_trans hb0 hb1⟩

set_option maxHeartbeats 400000 in
theorem specClient_any (s l c sh : Int) (A : Option Addr) (n cap : Nat) (zs : List Int) (x : Int) (w : World) (hm : n ≤ maxLen) (hr : Row w w.heap.size A n zs) :
    Calls Tryz.prog 194 #[.agg #[.int .i64 s, .int .i64 l, .int .i64 c, .int .i64 sh, .slice A n cap], .int .i64 x] w fun e w' => e = .returned (.bool (cliB s l c sh zs x)) ∧ Below w.heap.size w w' := by
  have HR := Lib.hid hr
  have HM := Lib.hid hm
  clear hr hm
  rcases hok : okB s l c sh zs with _ | _
  · have HQ : Hid (cliB s l c sh zs x = false) := by show cliB s l c sh zs x = _; simp [cliB, hok]
    go_enter Tryz.func194, Tryz.ntmps194
    have hb0 := bel_alloc w (.cells #[.int .i64 s, .int .i64 l, .int .i64 c, .int .i64 sh, .slice A n cap] 26)
    go_wp2_with fail
    generalize (w.alloc _ : World) = w0 at hb0 ⊢
    refine (specGroup_any s l c sh A n cap zs w0 HM.out ((HR.out.below hb0 (Nat.le_refl _)).more hb0.size)).mono ?_
    rintro e w1 ⟨rfl, hb1⟩
    go_wp2
    go_ret
    exact ⟨by rw [HQ.out]; rfl, bel_trans hb0 hb1⟩
  · have HQ : Hid (cliB s l c sh zs x = inB x s (s + c - 1)) := by show cliB s l c sh zs x = _; simp [cliB, hok]
    obtain ⟨b1, b2, b3, b4, b5, b6⟩ := okB_parts hok
    go_enter Tryz.func194, Tryz.ntmps194
    have D := Box.new w 26 #[.int .i64 s, .int .i64 l, .int .i64 c, .int .i64 sh, .slice A n cap]
    have hb0 := bel_alloc w (.cells #[.int .i64 s, .int .i64 l, .int .i64 c, .int .i64 sh, .slice A n cap] 26)
    go_wp2_with fail
    generalize (w.alloc _ : World) = w0 at D hb0 ⊢
    refine (specGroup_any s l c sh A n cap zs w0 HM.out ((HR.out.below hb0 (Nat.le_refl _)).more hb0.size)).mono ?_
    rintro e w1 ⟨rfl, hb1⟩
    obtain ⟨a0, a1, a2, a3, a4⟩ := (D.later hb1 D.lt).five
    go_wp2_with (go_at_call 174; refine (l1In_any _ _ _ _).mono ?_; rintro e w' ⟨rfl, rfl⟩)
    go_ret
    exact ⟨by rw [HQ.out]; rfl, bel_trans hb0 hb1⟩

end Go.Proofs.YtjdepjpjjgkmbaaGreat
