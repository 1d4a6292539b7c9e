/- What QuorumOf, IsServer and IsClient answer, of the program and of its model: contracts of each of them. -/
import Derived.Test.YtgjbebfcbpfngaaDoorSpecGroup
namespace Go.Proofs.YtgjbebfcbpfngaaDoor
open Go.RowKit

set_option maxHeartbeats 400000 in
theorem server_any (s l c sh : Int) (A : Option Addr) (n cap : Nat) (zs : List Int) (x : Int) (w : World) (hm : n ≤ maxLen) (hr : Row w w.heap.size A n zs) :
    Calls Tryd.prog 75 #[.agg #[.int .i64 s, .int .i64 l, .int .i64 c, .int .i64 sh, .slice A n cap], .int .i64 x] w fun e w' => e = .returned (.bool (srvB s l c sh zs x)) ∧ Below w.heap.size w w' := by
  have HR := Lib.hid hr
  have HM := Lib.hid hm
  clear hr hm
  rcases hok : okB s l c sh zs with _ | _
  · have HQ : Hid (srvB s l c sh zs x = false) := by show srvB s l c sh zs x = _; simp [srvB, hok]
    go_enter Tryd.func75, Tryd.ntmps75
    have hb0 := bel_alloc w (.cells #[.int .i64 s, .int .i64 l, .int .i64 c, .int .i64 sh, .slice A n cap] 26)
    go_wp2_with fail
    generalize (w.alloc _ : World) = w0 at hb0 ⊢
    refine (groupOk_any s l c sh A n cap zs w0 HM.out ((HR.out.below hb0 (Nat.le_refl _)).more hb0.size)).mono ?_
    rintro e w1 ⟨rfl, hb1⟩
    go_wp2
    go_ret
    exact ⟨by rw [HQ.out]; rfl, bel_trans hb0 hb1⟩
  · have HQ : Hid (srvB s l c sh zs x = inB x 0 (s - 1)) := by show srvB s l c sh zs x = _; simp [srvB, hok]
    obtain ⟨b1, b2, b3, b4, b5, b6⟩ := okB_parts hok
    go_enter Tryd.func75, Tryd.ntmps75
    have D := Box.new w 26 #[.int .i64 s, .int .i64 l, .int .i64 c, .int .i64 sh, .slice A n cap]
    have hb0 := bel_alloc w (.cells #[.int .i64 s, .int .i64 l, .int .i64 c, .int .i64 sh, .slice A n cap] 26)
    go_wp2_with fail
    generalize (w.alloc _ : World) = w0 at D hb0 ⊢
    refine (groupOk_any s l c sh A n cap zs w0 HM.out ((HR.out.below hb0 (Nat.le_refl _)).more hb0.size)).mono ?_
    rintro e w1 ⟨rfl, hb1⟩
    obtain ⟨a0, a1, a2, a3, a4⟩ := (D.later hb1 D.lt).five
    go_wp2_with (go_at_call 38; refine (within_any _ _ _ _).mono ?_; rintro e w' ⟨rfl, rfl⟩)
    go_ret
    exact ⟨by rw [HQ.out]; rfl, bel_trans hb0 hb1⟩

set_option maxHeartbeats 400000 in
theorem client_any (s l c sh : Int) (A : Option Addr) (n cap : Nat) (zs : List Int) (x : Int) (w : World) (hm : n ≤ maxLen) (hr : Row w w.heap.size A n zs) :
    Calls Tryd.prog 74 #[.agg #[.int .i64 s, .int .i64 l, .int .i64 c, .int .i64 sh, .slice A n cap], .int .i64 x] w fun e w' => e = .returned (.bool (cliB s l c sh zs x)) ∧ Below w.heap.size w w' := by
  have HR := Lib.hid hr
  have HM := Lib.hid hm
  clear hr hm
  rcases hok : okB s l c sh zs with _ | _
  · have HQ : Hid (cliB s l c sh zs x = false) := by show cliB s l c sh zs x = _; simp [cliB, hok]
    go_enter Tryd.func74, Tryd.ntmps74
    have D := Box.new w 26 #[.int .i64 s, .int .i64 l, .int .i64 c, .int .i64 sh, .slice A n cap]
    have hb0 := bel_alloc w (.cells #[.int .i64 s, .int .i64 l, .int .i64 c, .int .i64 sh, .slice A n cap] 26)
    go_wp2_with fail
    generalize (w.alloc _ : World) = w0 at D hb0 ⊢
    have hr0 := (HR.out.below hb0 (Nat.le_refl _)).more hb0.size
    obtain ⟨a0, a1, a2, a3, a4⟩ := fiveAfter D
    refine wp_region_after (by kernel_rfl) (by kernel_rfl) ?_
    repeat (first | go_big_quiet_step (exact after_of (groupOk_any s l c sh A n cap zs _ HM.out (rowAfter hr0 _))) | quiet_step (exact after_of (groupOk_any s l c sh A n cap zs _ HM.out (rowAfter hr0 _))))
    refine wpQuiet_nil ?_
    intro p
    go_wp2
    go_ret
    exact ⟨by rw [HQ.out]; rfl, bel_trans hb0 p.bel⟩
  · have HQ : Hid (cliB s l c sh zs x = inB x s (s + c - 1)) := by show cliB s l c sh zs x = _; simp [cliB, hok]
    obtain ⟨b1, b2, b3, b4, b5, b6⟩ := okB_parts hok
    have hwr : IntKind.i64.wrap (s + c - 1) = s + c - 1 := IntWalk.i64_in _ (by omega)
    go_enter Tryd.func74, Tryd.ntmps74
    have D := Box.new w 26 #[.int .i64 s, .int .i64 l, .int .i64 c, .int .i64 sh, .slice A n cap]
    have hb0 := bel_alloc w (.cells #[.int .i64 s, .int .i64 l, .int .i64 c, .int .i64 sh, .slice A n cap] 26)
    go_wp2_with fail
    generalize (w.alloc _ : World) = w0 at D hb0 ⊢
    have hr0 := (HR.out.below hb0 (Nat.le_refl _)).more hb0.size
    obtain ⟨a0, a1, a2, a3, a4⟩ := D.five
    first | (go_region_held3 (fun w' => w'.cell? ⟨w.heap.size, 0, none⟩ = some (.int .i64 s) ∧ w'.cell? ⟨w.heap.size, 1, none⟩ = some (.int .i64 l) ∧ w'.cell? ⟨w.heap.size, 2, none⟩ = some (.int .i64 c) ∧ w'.cell? ⟨w.heap.size, 3, none⟩ = some (.int .i64 sh) ∧ w'.cell? ⟨w.heap.size, 4, none⟩ = some (.slice A n cap)) (first | exact K2 | exact K1 | go_keep)
      (first
        | (go_at_call 69; refine (groupOk_any s l c sh A n cap zs _ HM.out ?_).mono ?_; exact hr0; rintro e w1 ⟨rfl, hb1⟩; have D1 := D.later (bel_drew' hb1) D.lt; have K1 := D1.five)
        | (go_at_call 97; refine (nodes_any s l c sh A n cap _ b1 b2 b3 b4).mono ?_; rintro e w2 ⟨rfl, hb2⟩; have K2 := (D1.later hb2 D1.lt).five)
        | (go_at_call 38; refine (within_any _ _ _ _).mono ?_; rintro e w' ⟨rfl, rfl⟩))) | fail
    all_goals go_wp2
    all_goals go_ret
    all_goals exact ⟨by rw [HQ.out]; rfl, bel_trans hb0 (bel_trans (bel_drew' hb1) hb2)⟩

set_option maxHeartbeats 400000 in
theorem specServer_any (s l c sh : Int) (A : Option Addr) (n cap : Nat) (zs : List Int) (x : Int) (w : World) (hm : n ≤ maxLen) (hr : Row w w.heap.size A n zs) :
    Calls Tryd.prog 33 #[.agg #[.int .i64 s, .int .i64 l, .int .i64 c, .int .i64 sh, .slice A n cap], .int .i64 x] w fun e w' => e = .returned (.bool (srvB s l c sh zs x)) ∧ Below w.heap.size w w' := by
  have HR := Lib.hid hr
  have HM := Lib.hid hm
  clear hr hm
  rcases hok : okB s l c sh zs with _ | _
  · have HQ : Hid (srvB s l c sh zs x = false) := by show srvB s l c sh zs x = _; simp [srvB, hok]
    go_enter Tryd.func33, Tryd.ntmps33
    have hb0 := bel_alloc w (.cells #[.int .i64 s, .int .i64 l, .int .i64 c, .int .i64 sh, .slice A n cap] 26)
    go_wp2_with fail
    generalize (w.alloc _ : World) = w0 at hb0 ⊢
    refine (specGroup_any s l c sh A n cap zs w0 HM.out ((HR.out.below hb0 (Nat.le_refl _)).more hb0.size)).mono ?_
    rintro e w1 ⟨rfl, hb1⟩
    go_wp2
    go_ret
    exact ⟨by rw [HQ.out]; rfl, bel_trans hb0 hb1⟩
  · have HQ : Hid (srvB s l c sh zs x = inB x 0 (s - 1)) := by show srvB s l c sh zs x = _; simp [srvB, hok]
    obtain ⟨b1, b2, b3, b4, b5, b6⟩ := okB_parts hok
    go_enter Tryd.func33, Tryd.ntmps33
    have D := Box.new w 26 #[.int .i64 s, .int .i64 l, .int .i64 c, .int .i64 sh, .slice A n cap]
    have hb0 := bel_alloc w (.cells #[.int .i64 s, .int .i64 l, .int .i64 c, .int .i64 sh, .slice A n cap] 26)
    go_wp2_with fail
    generalize (w.alloc _ : World) = w0 at D hb0 ⊢
    refine (specGroup_any s l c sh A n cap zs w0 HM.out ((HR.out.below hb0 (Nat.le_refl _)).more hb0.size)).mono ?_
    rintro e w1 ⟨rfl, hb1⟩
    obtain ⟨a0, a1, a2, a3, a4⟩ := (D.later hb1 D.lt).five
    go_wp2_with (go_at_call 30; refine (l1In_any _ _ _ _).mono ?_; rintro e w' ⟨rfl, rfl⟩)
    go_ret
    exact ⟨by rw [HQ.out]; rfl, bel_trans hb0 hb1⟩

set_option maxHeartbeats 400000 in
theorem specClient_any (s l c sh : Int) (A : Option Addr) (n cap : Nat) (zs : List Int) (x : Int) (w : World) (hm : n ≤ maxLen) (hr : Row w w.heap.size A n zs) :
    Calls Tryd.prog 32 #[.agg #[.int .i64 s, .int .i64 l, .int .i64 c, .int .i64 sh, .slice A n cap], .int .i64 x] w fun e w' => e = .returned (.bool (cliB s l c sh zs x)) ∧ Below w.heap.size w w' := by
  have HR := Lib.hid hr
  have HM := Lib.hid hm
  clear hr hm
  rcases hok : okB s l c sh zs with _ | _
  · have HQ : Hid (cliB s l c sh zs x = false) := by show cliB s l c sh zs x = _; simp [cliB, hok]
    go_enter Tryd.func32, Tryd.ntmps32
    have hb0 := bel_alloc w (.cells #[.int .i64 s, .int .i64 l, .int .i64 c, .int .i64 sh, .slice A n cap] 26)
    go_wp2_with fail
    generalize (w.alloc _ : World) = w0 at hb0 ⊢
    refine (specGroup_any s l c sh A n cap zs w0 HM.out ((HR.out.below hb0 (Nat.le_refl _)).more hb0.size)).mono ?_
    rintro e w1 ⟨rfl, hb1⟩
    go_wp2
    go_ret
    exact ⟨by rw [HQ.out]; rfl, bel_trans hb0 hb1⟩
  · have HQ : Hid (cliB s l c sh zs x = inB x s (s + c - 1)) := by show cliB s l c sh zs x = _; simp [cliB, hok]
    obtain ⟨b1, b2, b3, b4, b5, b6⟩ := okB_parts hok
    go_enter Tryd.func32, Tryd.ntmps32
    have D := Box.new w 26 #[.int .i64 s, .int .i64 l, .int .i64 c, .int .i64 sh, .slice A n cap]
    have hb0 := bel_alloc w (.cells #[.int .i64 s, .int .i64 l, .int .i64 c, .int .i64 sh, .slice A n cap] 26)
    go_wp2_with fail
    generalize (w.alloc _ : World) = w0 at D hb0 ⊢
    refine (specGroup_any s l c sh A n cap zs w0 HM.out ((HR.out.below hb0 (Nat.le_refl _)).more hb0.size)).mono ?_
    rintro e w1 ⟨rfl, hb1⟩
    obtain ⟨a0, a1, a2, a3, a4⟩ := (D.later hb1 D.lt).five
    go_wp2_with (go_at_call 30; refine (l1In_any _ _ _ _).mono ?_; rintro e w' ⟨rfl, rfl⟩)
    go_ret
    exact ⟨by rw [HQ.out]; rfl, bel_trans hb0 hb1⟩

end Go.Proofs.YtgjbebfcbpfngaaDoor
