/- The four exact laws of chapter 2 answer true, whatever stamps they are given: walks of each of them. -/
import Derived.Test.YtpjmghkhbhhmcaaCopiesStamp
namespace Go.Proofs.Ytpjmghkhbhhmcaa
open Go.RowKit

theorem exactStampOk_walk (c k : Int) (w : World) :
    Calls Try.prog 5 #[.agg #[.int .i64 c, .int .i64 k]] w fun e w' => e = .returned (.bool true) ∧ Below w.heap.size w w' := by
  have D := Box.new w 37 #[.int .i64 c, .int .i64 k]
  have hb0 := bel_alloc w (.cells #[.int .i64 c, .int .i64 k] 37)
  go_enter Try.func5, Try.ntmps5
  go_wp2_with fail
  generalize (w.alloc _ : World) = w0 at D hb0 ⊢
  refine (toStamp_any c k w0).mono ?_
  rintro e w1 ⟨rfl, hb1⟩
  have D1 := D.later hb1 D.lt
  have E1 := bel_trans hb0 hb1
  go_wp2_with fail
  refine (specStampOk_any c k w1).mono ?_
  rintro e w2 ⟨rfl, hb2⟩
  have D2 := D1.later hb2 D1.lt
  have E2 := bel_trans E1 hb2
  obtain ⟨a0, a1⟩ := D2.two
  go_wp2_with fail
  refine (toStamp_any c k w2).mono ?_
  rintro e w3 ⟨rfl, hb3⟩
  have E3 := bel_trans E2 hb3
  go_wp2_with fail
  refine (stampOk_any c k w3).mono ?_
  rintro e w4 ⟨rfl, hb4⟩
  have E4 := bel_trans E3 hb4
  generalize stB c k = v
  cases v <;>
  · go_wp2
    go_ret
    exact ⟨rfl, E4⟩

set_option maxHeartbeats 400000 in
theorem exactCmp_walk (a b c d : Int) (w : World) :
    Calls Try.prog 6 #[.agg #[.int .i64 a, .int .i64 b], .agg #[.int .i64 c, .int .i64 d]] w fun e w' => e = .returned (.bool true) ∧ Below w.heap.size w w' := by
  have hb0 := bel_trans (bel_alloc w (.cells #[.int .i64 a, .int .i64 b] 37)) (bel_alloc _ (.cells #[.int .i64 c, .int .i64 d] 37))
  have D := (Box.new w 37 #[.int .i64 a, .int .i64 b]).alloc (.cells #[.int .i64 c, .int .i64 d] 37)
  have X := Box.new (w.alloc (.cells #[.int .i64 a, .int .i64 b] 37)) 37 #[.int .i64 c, .int .i64 d]
  simp only [World.size_alloc] at X
  go_enter Try.func6, Try.ntmps6
  go_wp2_with fail
  generalize ((w.alloc _).alloc _ : World) = w0 at hb0 D X ⊢
  obtain ⟨d0, d1⟩ := twoAfter D
  obtain ⟨x0, x1⟩ := twoAfter X
  refine wp_region_after (by kernel_rfl) (by kernel_rfl) ?_
  repeat (first | go_big_quiet_step (first | (go_at_call 21; exact after_of (toStamp_any _ _ _)) | (go_at_call 12; exact after_of (specCmp_any a b c d _))) | quiet_step (first | (go_at_call 21; exact after_of (toStamp_any _ _ _)) | (go_at_call 12; exact after_of (specCmp_any a b c d _))))
  refine wpQuiet_nil ?_
  intro p
  have D1 := D.later p.bel D.lt
  have X1 := X.later p.bel X.lt
  have E1 := bel_trans hb0 p.bel
  obtain ⟨w1, hw1⟩ : ∃ w1, p.x = w1 := ⟨_, rfl⟩
  rw [hw1] at D1 X1 E1 ⊢
  clear hw1 p d0 d1 x0 x1 D X hb0
  obtain ⟨d0, d1⟩ := twoAfter D1
  obtain ⟨x0, x1⟩ := twoAfter X1
  go_wp2_with fail
  refine wp_region_after (by kernel_rfl) (by kernel_rfl) ?_
  repeat (first | go_big_quiet_step (first | (go_at_call 21; exact after_of (toStamp_any _ _ _)) | (go_at_call 11; exact after_of (cmpStamp_any a b c d _))) | quiet_step (first | (go_at_call 21; exact after_of (toStamp_any _ _ _)) | (go_at_call 11; exact after_of (cmpStamp_any a b c d _))))
  refine wpQuiet_nil ?_
  intro p
  have E2 := bel_trans E1 p.bel
  generalize cmpN a b c d = v
  go_wp2
  go_ret
  exact ⟨rfl, E2⟩

set_option maxHeartbeats 400000 in
theorem exactNext_walk (c k x : Int) (w : World) :
    Calls Try.prog 7 #[.agg #[.int .i64 c, .int .i64 k], .int .i64 x] w fun e w' => e = .returned (.bool true) ∧ Below w.heap.size w w' := by
  have D := Box.new w 37 #[.int .i64 c, .int .i64 k]
  have hb0 := bel_alloc w (.cells #[.int .i64 c, .int .i64 k] 37)
  go_enter Try.func7, Try.ntmps7
  go_wp2_with fail
  generalize (w.alloc _ : World) = w0 at D hb0 ⊢
  refine (toStamp_any c k w0).mono ?_
  rintro e w1 ⟨rfl, hb1⟩
  have D1 := D.later hb1 D.lt
  have E1 := bel_trans hb0 hb1
  go_wp2_with fail
  refine (specNext_any c k x w1).mono ?_
  rintro e w2 ⟨rfl, hb2⟩
  have D2 := D1.later hb2 D1.lt
  have E2 := bel_trans E1 hb2
  clear D D1 hb0 hb1 hb2 E1
  obtain ⟨y, z, v, hv⟩ : ∃ (y z : Int) (v : Bool), nxV c k x = .tuple #[.agg #[.int .i64 y, .int .i64 z], .bool v] := ⟨_, _, _, rfl⟩
  rw [hv]
  have HV := Lib.hid hv
  clear hv
  have Y := Box.new w2 25 #[.int .i64 y, .int .i64 z]
  have hb3 := bel_alloc w2 (.cells #[.int .i64 y, .int .i64 z] 25)
  have hz := D2.lt
  obtain ⟨a0, a1⟩ := D2.two
  go_wp2_with fail
  have E3 := bel_trans E2 hb3
  generalize (w2.alloc _ : World) = w3 at Y hb3 E3 ⊢
  refine (toStamp_any c k w3).mono ?_
  rintro e w4 ⟨rfl, hb4⟩
  have Y4 := Y.later hb4 Y.lt
  have E4 := bel_trans E3 hb4
  clear Y E3 hb3 hb4 D2 a0 a1
  go_wp2_with fail
  refine (nextStamp_any c k x w4).mono ?_
  rintro e w5 ⟨rfl, hb5⟩
  have Y5 := Y4.later hb5 Y4.lt
  have E5 := bel_trans E4 hb5
  clear Y4 E4 hb5
  rw [HV.out]
  have Z := Box.new w5 25 #[.int .i64 y, .int .i64 z]
  have hb6 := bel_alloc w5 (.cells #[.int .i64 y, .int .i64 z] 25)
  have hz5 := Y5.lt
  obtain ⟨y0, y1⟩ := Y5.two
  go_wp2_with fail
  have E6 := bel_trans E5 hb6
  generalize (w5.alloc _ : World) = w6 at Z hb6 E6 ⊢
  refine (eqStamp_same y z w6).mono ?_
  rintro e w7 ⟨rfl, hb7⟩
  have E7 := bel_trans E6 hb7
  cases v <;>
  · go_wp2
    go_ret
    exact ⟨rfl, E7⟩

theorem exactNewest_big (A : Option Addr) (n cap : Nat) (w : World) (hm : 1048576 < n) (hx : n ≤ maxLen) :
    Calls Try.prog 8 #[.slice A n cap] w fun e w' => e = .returned (.bool true) ∧ Below w.heap.size w w' := by
  go_enter Try.func8, Try.ntmps8
  go_wp2_with (go_at_call 23; refine (szStamps_gt A n cap _ hm hx).mono ?_; rintro e w' ⟨rfl, rfl⟩)
  go_ret
  exact ⟨rfl, Below.refl _ _⟩

set_option maxHeartbeats 400000 in
theorem exactNewest_small (A : Option Addr) (n cap : Nat) (ps : List (Int × Int)) (w : World) (hm : n ≤ 1048576) (hr : Pairs w w.heap.size A n ps) :
    Calls Try.prog 8 #[.slice A n cap] w fun e w' => e = .returned (.bool true) ∧ Below w.heap.size w w' := by
  have HX : Hid (n ≤ maxLen) := by show n ≤ maxLen; unfold maxLen; omega
  have HR := Lib.hid hr
  clear hr
  have hnn : ¬ ((1048576 : Int) - n < 0) := by omega
  go_enter Try.func8, Try.ntmps8
  go_wp2_with fail
  refine (szStamps_le A n cap _ hm).mono ?_
  rintro e w' ⟨rfl, rfl⟩
  go_wp2_with fail
  refine (toStamps_any A n cap ps w hm HR.out).mono ?_
  rintro e w1 ⟨g1, hg1, rfl, hp1, E1⟩
  go_wp2_with fail
  refine (specNewest_any _ n n ps w1 HX.out hp1).mono ?_
  rintro e w2 ⟨rfl, hb2⟩
  have E2 := bel_trans E1 hb2
  clear hp1 E1 hb2
  generalize hbp : bestP ps = p
  have HP := Lib.hid hbp
  clear hbp
  obtain ⟨p, q⟩ := p
  have Y := Box.new w2 25 #[.int .i64 p, .int .i64 q]
  have hb3 := bel_alloc w2 (.cells #[.int .i64 p, .int .i64 q] 25)
  go_wp2_with fail
  have E3 := bel_trans E2 hb3
  generalize (w2.alloc _ : World) = w3 at Y hb3 E3 ⊢
  refine (toStamps_any A n cap ps w3 hm (HR.out.later E3)).mono ?_
  rintro e w4 ⟨g4, hg4, rfl, hp4, hb4⟩
  have Y4 := Y.later hb4 Y.lt
  have E4 := bel_trans E3 hb4
  clear Y E3 hb3 hb4 E2
  go_wp2_with fail
  refine (newestOf_any _ n n ps w4 HX.out hp4).mono ?_
  rintro e w5 ⟨rfl, hb5⟩
  have Y5 := Y4.later hb5 Y4.lt
  have E5 := bel_trans E4 hb5
  have hp5 := hp4.later hb5
  clear Y4 E4 hb5 hp4
  rw [HP.out]
  have Z := Box.new w5 25 #[.int .i64 p, .int .i64 q]
  have hb6 := bel_alloc w5 (.cells #[.int .i64 p, .int .i64 q] 25)
  have hz5 := Y5.lt
  obtain ⟨y0, y1⟩ := Y5.two
  go_wp2_with fail
  have E6 := bel_trans E5 hb6
  have hp6 := hp5.later hb6
  generalize (w5.alloc _ : World) = w6 at Z hb6 E6 hp6 ⊢
  refine (eqStamp_same p q w6).mono ?_
  rintro e w7 ⟨rfl, hb7⟩
  have E7 := bel_trans E6 hb7
  have hp7 := hp6.later hb7
  clear Y5 E5 hb6 hb7 y0 y1 hp5 hp6 Z E6
  go_wp2_with fail
  refine (toStamps_any A n cap ps w7 hm (HR.out.later E7)).mono ?_
  rintro e w8 ⟨g8, hg8, rfl, hp8, hb8⟩
  have E8 := bel_trans E7 hb8
  have hp78 := hp7.later hb8
  go_wp2_with fail
  refine (eqStamps_same _ _ n n n ps w8 hm hp78 hp8).mono ?_
  rintro e w9 ⟨rfl, hb9⟩
  have E9 := bel_trans E8 hb9
  go_wp2
  go_ret
  exact ⟨rfl, E9⟩

end Go.Proofs.Ytpjmghkhbhhmcaa
