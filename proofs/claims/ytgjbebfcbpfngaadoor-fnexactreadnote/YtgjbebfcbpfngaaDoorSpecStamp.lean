/- What the model's functions of spec/l02_stamp.go answer at every stamp: contracts of each of them. -/
import Derived.Test.YtgjbebfcbpfngaaDoorStamp
import Derived.Deep.QuietTactic
import Derived.BigQuiet
namespace Go.Proofs.YtgjbebfcbpfngaaDoor
open Go.RowKit

theorem specStampOk_any (c k : Int) (w : World) :
    Calls Tryd.prog 34 #[.agg #[.int .i64 c, .int .i64 k]] w fun e w' => e = .returned (.bool (stB c k)) ∧ Below w.heap.size w w' := by
  rw [← stB_spec]
  rcases h1 : inB c 0 100000 with _ | _
  · go_enter Tryd.func34, Tryd.ntmps34
    go_wp2_with (go_at_call 30; refine (l1In_any _ _ _ _).mono ?_; rintro e w' ⟨rfl, rfl⟩)
    go_ret
    exact ⟨rfl, bel_alloc _ _⟩
  rcases h2 : inB k 0 15 with _ | _
  · go_enter Tryd.func34, Tryd.ntmps34
    go_wp2_with (go_at_call 30; refine (l1In_any _ _ _ _).mono ?_; rintro e w' ⟨rfl, rfl⟩)
    go_ret
    exact ⟨rfl, bel_alloc _ _⟩
  by_cases h3 : 0 < c
  · have e : Hid (decide (0 < c) = true) := decide_eq_true h3
    go_enter Tryd.func34, Tryd.ntmps34
    go_wp2_with (go_at_call 30; refine (l1In_any _ _ _ _).mono ?_; rintro e w' ⟨rfl, rfl⟩)
    go_ret
    exact ⟨by rw [e.out]; rfl, bel_alloc _ _⟩
  have e : Hid (decide (0 < c) = false) := decide_eq_false h3
  by_cases h4 : k = 0
  · subst h4
    go_enter Tryd.func34, Tryd.ntmps34
    go_wp2_with (go_at_call 30; refine (l1In_any _ _ _ _).mono ?_; rintro e w' ⟨rfl, rfl⟩)
    go_ret
    exact ⟨by rw [e.out]; rfl, bel_alloc _ _⟩
  · have h4' : (k == 0) = false := by simpa using h4
    have e' : Hid (decide (k = 0) = false) := decide_eq_false h4
    go_enter Tryd.func34, Tryd.ntmps34
    go_wp2_with (go_at_call 30; refine (l1In_any _ _ _ _).mono ?_; rintro e w' ⟨rfl, rfl⟩)
    go_ret
    exact ⟨by rw [e.out, e'.out]; rfl, bel_alloc _ _⟩

set_option maxHeartbeats 400000 in
theorem specNext_any (c k x : Int) (w : World) :
    Calls Tryd.prog 86 #[.agg #[.int .i64 c, .int .i64 k], .int .i64 x] w fun e w' => e = .returned (nxV c k x) ∧ Below w.heap.size w w' := by
  have hy : ∃ y : Int, wrap64 (c + 1) = y ∧ (stB c k = true → y = c + 1) := by
    refine ⟨_, rfl, fun h => ?_⟩
    have := stB_bd h
    unfold wrap64
    omega
  obtain ⟨y, hy1, hy2⟩ := hy
  have H2 := Lib.hid hy2
  clear hy2
  have hb0 := bel_trans (bel_trans (bel_alloc w (.cells #[.int .i64 c, .int .i64 k] 28)) (bel_alloc _ (.cells #[.int .i64 0, .int .i64 0] 28))) (bel_alloc _ (.cells #[.int .i64 y, .int .i64 x] 28))
  have X := (Box.new (w.alloc (.cells #[.int .i64 c, .int .i64 k] 28)) 28 #[.int .i64 0, .int .i64 0]).alloc (.cells #[.int .i64 y, .int .i64 x] 28)
  have Y := Box.new ((w.alloc (.cells #[.int .i64 c, .int .i64 k] 28)).alloc (.cells #[.int .i64 0, .int .i64 0] 28)) 28 #[.int .i64 y, .int .i64 x]
  simp only [World.size_alloc] at X Y
  go_enter Tryd.func86, Tryd.ntmps86
  go_wp2_with fail
  generalize (((w.alloc _).alloc _).alloc _ : World) = w0 at hb0 X Y ⊢
  refine (specStampOk_any c k w0).mono ?_
  rintro e w1 ⟨rfl, hb1⟩
  have X1 := X.later hb1 X.lt
  have Y1 := Y.later hb1 Y.lt
  have E1 := bel_trans hb0 hb1
  clear X Y hb0 hb1
  obtain ⟨x0, x1⟩ := X1.two
  obtain ⟨y0, y1⟩ := Y1.two
  have fx := X1.frozen
  rcases h1 : stB c k with _ | _
  · have H := Lib.hid (nxV_no (nxB_1 h1 x))
    go_wp2
    exact bodyPost_ret (v := .tuple #[.agg #[.int .i64 0, .int .i64 0], .bool false]) (by simp [results, Tryd.results86, go_sem, x0, x1]) rfl ⟨by rw [H.out], (E1.setCell (by simp) _).setCell (by simp) _⟩
  · have e1 := H2.out h1
    subst e1
    clear hy1 H2
    go_wp2_with fail
    refine (specStampOk_any (c + 1) x w1).mono ?_
    rintro e w3 ⟨rfl, hb3⟩
    have Y3 := Y1.later hb3 Y1.lt
    have X3 := X1.later hb3 X1.lt
    have E3 := bel_trans E1 hb3
    clear x0 x1 y0 y1 fx
    obtain ⟨y0, y1⟩ := Y3.two
    obtain ⟨x0, x1⟩ := X3.two
    have fx := X3.frozen
    rcases h2 : stB (c + 1) x with _ | _
    · have H := Lib.hid (nxV_no (nxB_2 h2 k))
      go_wp2
      exact bodyPost_ret (v := .tuple #[.agg #[.int .i64 0, .int .i64 0], .bool false]) (by simp [results, Tryd.results86, go_sem, x0, x1]) rfl ⟨by rw [H.out], (E3.setCell (by simp) _).setCell (by simp) _⟩
    · have H := Lib.hid (nxV_yes (nxB_3 h1 h2))
      go_wp2
      exact bodyPost_ret (v := .tuple #[.agg #[.int .i64 (c + 1), .int .i64 x], .bool true]) (by simp [results, Tryd.results86, go_sem, x0, x1]) rfl ⟨by rw [H.out], (E3.setCell (by simp) _).setCell (by simp) _⟩

end Go.Proofs.YtgjbebfcbpfngaaDoor
