/- What QuorumOf, IsServer and IsClient answer, of the program and of its model: contracts of each of them. -/
import Derived.Test.YtdabmnhbmdaodaaSpecGroup
namespace Go.Proofs.Ytdabmnhbmdaodaa
open Go.RowKit

set_option maxHeartbeats 400000 in
theorem quorum_any (s l c sh : Int) (A : Option Addr) (n cap : Nat) (zs : List Int) (w : World) (hm : n ≤ maxLen) (hr : Row w w.heap.size A n zs) :
    Calls Try.prog 53 #[.agg #[.int .i64 s, .int .i64 l, .int .i64 c, .int .i64 sh, .slice A n cap]] w fun e w' => e = .returned (.int .i64 (quoN s l c sh zs)) ∧ Below w.heap.size w w' := by
  have HR := Lib.hid hr
  have HM := Lib.hid hm
  clear hr hm
  rcases hok : okB s l c sh zs with _ | _
  · have HQ : Hid (quoN s l c sh zs = -1) := by show quoN s l c sh zs = -1; simp [quoN, hok]
    go_enter Try.func53, Try.ntmps53
    have hb0 := bel_alloc w (.cells #[.int .i64 s, .int .i64 l, .int .i64 c, .int .i64 sh, .slice A n cap] 33)
    go_wp2_with fail
    generalize (w.alloc _ : World) = w0 at hb0 ⊢
    refine (groupOk_any s l c sh A n cap zs w0 HM.out ((HR.out.below hb0 (Nat.le_refl _)).more hb0.size)).mono ?_
    rintro e w1 ⟨rfl, hb1⟩
    go_wp2
    go_ret
    exact ⟨by rw [HQ.out]; rfl, bel_trans hb0 hb1⟩
  · have HQ : Hid (quoN s l c sh zs = (s + l) / 2 + 1) := by show quoN s l c sh zs = _; simp [quoN, hok]
    obtain ⟨b1, b2, b3, b4, b5, b6⟩ := okB_parts hok
    go_enter Try.func53, Try.ntmps53
    have D := Box.new w 33 #[.int .i64 s, .int .i64 l, .int .i64 c, .int .i64 sh, .slice A n cap]
    have hb0 := bel_alloc w (.cells #[.int .i64 s, .int .i64 l, .int .i64 c, .int .i64 sh, .slice A n cap] 33)
    go_wp2_with fail
    generalize (w.alloc _ : World) = w0 at D hb0 ⊢
    refine (groupOk_any s l c sh A n cap zs w0 HM.out ((HR.out.below hb0 (Nat.le_refl _)).more hb0.size)).mono ?_
    rintro e w1 ⟨rfl, hb1⟩
    obtain ⟨a0, a1, a2, a3, a4⟩ := (D.later hb1 D.lt).five
    go_wp2
    go_ret
    exact ⟨by rw [HQ.out]; rfl, bel_trans hb0 hb1⟩

set_option maxHeartbeats 400000 in
theorem server_any (s l c sh : Int) (A : Option Addr) (n cap : Nat) (zs : List Int) (x : Int) (w : World) (hm : n ≤ maxLen) (hr : Row w w.heap.size A n zs) :
    Calls Try.prog 95 #[.agg #[.int .i64 s, .int .i64 l, .int .i64 c, .int .i64 sh, .slice A n cap], .int .i64 x] w fun e w' => e = .returned (.bool (srvB s l c sh zs x)) ∧ Below w.heap.size w w' := by
  have HR := Lib.hid hr
  have HM := Lib.hid hm
  clear hr hm
  rcases hok : okB s l c sh zs with _ | _
  · have HQ : Hid (srvB s l c sh zs x = false) := by show srvB s l c sh zs x = _; simp [srvB, hok]
    go_enter Try.func95, Try.ntmps95
    have hb0 := bel_alloc w (.cells #[.int .i64 s, .int .i64 l, .int .i64 c, .int .i64 sh, .slice A n cap] 33)
    go_wp2_with fail
    generalize (w.alloc _ : World) = w0 at hb0 ⊢
    refine (groupOk_any s l c sh A n cap zs w0 HM.out ((HR.out.below hb0 (Nat.le_refl _)).more hb0.size)).mono ?_
    rintro e w1 ⟨rfl, hb1⟩
    go_wp2
    go_ret
    exact ⟨by rw [HQ.out]; rfl, bel_trans hb0 hb1⟩
  · have HQ : Hid (srvB s l c sh zs x = inB x 0 (s - 1)) := by show srvB s l c sh zs x = _; simp [srvB, hok]
    obtain ⟨b1, b2, b3, b4, b5, b6⟩ := okB_parts hok
    go_enter Try.func95, Try.ntmps95
    have D := Box.new w 33 #[.int .i64 s, .int .i64 l, .int .i64 c, .int .i64 sh, .slice A n cap]
    have hb0 := bel_alloc w (.cells #[.int .i64 s, .int .i64 l, .int .i64 c, .int .i64 sh, .slice A n cap] 33)
    go_wp2_with fail
    generalize (w.alloc _ : World) = w0 at D hb0 ⊢
    refine (groupOk_any s l c sh A n cap zs w0 HM.out ((HR.out.below hb0 (Nat.le_refl _)).more hb0.size)).mono ?_
    rintro e w1 ⟨rfl, hb1⟩
    obtain ⟨a0, a1, a2, a3, a4⟩ := (D.later hb1 D.lt).five
    go_wp2_with (go_at_call 86; refine (within_any _ _ _ _).mono ?_; rintro e w' ⟨rfl, rfl⟩)
    go_ret
    exact ⟨by rw [HQ.out]; rfl, bel_trans hb0 hb1⟩

set_option maxHeartbeats 400000 in
theorem specQuorum_any (s l c sh : Int) (A : Option Addr) (n cap : Nat) (zs : List Int) (w : World) (hm : n ≤ maxLen) (hr : Row w w.heap.size A n zs) :
    Calls Try.prog 55 #[.agg #[.int .i64 s, .int .i64 l, .int .i64 c, .int .i64 sh, .slice A n cap]] w fun e w' => e = .returned (.int .i64 (quoN s l c sh zs)) ∧ Below w.heap.size w w' := by
  have HR := Lib.hid hr
  have HM := Lib.hid hm
  clear hr hm
  rcases hok : okB s l c sh zs with _ | _
  · have HQ : Hid (quoN s l c sh zs = -1) := by show quoN s l c sh zs = -1; simp [quoN, hok]
    go_enter Try.func55, Try.ntmps55
    have hb0 := bel_alloc w (.cells #[.int .i64 s, .int .i64 l, .int .i64 c, .int .i64 sh, .slice A n cap] 33)
    go_wp2_with fail
    generalize (w.alloc _ : World) = w0 at hb0 ⊢
    refine (specGroup_any s l c sh A n cap zs w0 HM.out ((HR.out.below hb0 (Nat.le_refl _)).more hb0.size)).mono ?_
    rintro e w1 ⟨rfl, hb1⟩
    go_wp2
    go_ret
    exact ⟨by rw [HQ.out]; rfl, bel_trans hb0 hb1⟩
  · have HQ : Hid (quoN s l c sh zs = (s + l) / 2 + 1) := by show quoN s l c sh zs = _; simp [quoN, hok]
    obtain ⟨b1, b2, b3, b4, b5, b6⟩ := okB_parts hok
    go_enter Try.func55, Try.ntmps55
    have D := Box.new w 33 #[.int .i64 s, .int .i64 l, .int .i64 c, .int .i64 sh, .slice A n cap]
    have hb0 := bel_alloc w (.cells #[.int .i64 s, .int .i64 l, .int .i64 c, .int .i64 sh, .slice A n cap] 33)
    go_wp2_with fail
    generalize (w.alloc _ : World) = w0 at D hb0 ⊢
    refine (specGroup_any s l c sh A n cap zs w0 HM.out ((HR.out.below hb0 (Nat.le_refl _)).more hb0.size)).mono ?_
    rintro e w1 ⟨rfl, hb1⟩
    obtain ⟨a0, a1, a2, a3, a4⟩ := (D.later hb1 D.lt).five
    go_wp2
    go_ret
    exact ⟨by rw [HQ.out]; rfl, bel_trans hb0 hb1⟩

set_option maxHeartbeats 400000 in
theorem specServer_any (s l c sh : Int) (A : Option Addr) (n cap : Nat) (zs : List Int) (x : Int) (w : World) (hm : n ≤ maxLen) (hr : Row w w.heap.size A n zs) :
    Calls Try.prog 88 #[.agg #[.int .i64 s, .int .i64 l, .int .i64 c, .int .i64 sh, .slice A n cap], .int .i64 x] w fun e w' => e = .returned (.bool (srvB s l c sh zs x)) ∧ Below w.heap.size w w' := by
  have HR := Lib.hid hr
  have HM := Lib.hid hm
  clear hr hm
  rcases hok : okB s l c sh zs with _ | _
  · have HQ : Hid (srvB s l c sh zs x = false) := by show srvB s l c sh zs x = _; simp [srvB, hok]
    go_enter Try.func88, Try.ntmps88
    have hb0 := bel_alloc w (.cells #[.int .i64 s, .int .i64 l, .int .i64 c, .int .i64 sh, .slice A n cap] 33)
    go_wp2_with fail
    generalize (w.alloc _ : World) = w0 at hb0 ⊢
    refine (specGroup_any s l c sh A n cap zs w0 HM.out ((HR.out.below hb0 (Nat.le_refl _)).more hb0.size)).mono ?_
    rintro e w1 ⟨rfl, hb1⟩
    go_wp2
    go_ret
    exact ⟨by rw [HQ.out]; rfl, bel_trans hb0 hb1⟩
  · have HQ : Hid (srvB s l c sh zs x = inB x 0 (s - 1)) := by show srvB s l c sh zs x = _; simp [srvB, hok]
    obtain ⟨b1, b2, b3, b4, b5, b6⟩ := okB_parts hok
    go_enter Try.func88, Try.ntmps88
    have D := Box.new w 33 #[.int .i64 s, .int .i64 l, .int .i64 c, .int .i64 sh, .slice A n cap]
    have hb0 := bel_alloc w (.cells #[.int .i64 s, .int .i64 l, .int .i64 c, .int .i64 sh, .slice A n cap] 33)
    go_wp2_with fail
    generalize (w.alloc _ : World) = w0 at D hb0 ⊢
    refine (specGroup_any s l c sh A n cap zs w0 HM.out ((HR.out.below hb0 (Nat.le_refl _)).more hb0.size)).mono ?_
    rintro e w1 ⟨rfl, hb1⟩
    obtain ⟨a0, a1, a2, a3, a4⟩ := (D.later hb1 D.lt).five
    go_wp2_with (go_at_call 61; refine (l1In_any _ _ _ _).mono ?_; rintro e w' ⟨rfl, rfl⟩)
    go_ret
    exact ⟨by rw [HQ.out]; rfl, bel_trans hb0 hb1⟩

end Go.Proofs.Ytdabmnhbmdaodaa
