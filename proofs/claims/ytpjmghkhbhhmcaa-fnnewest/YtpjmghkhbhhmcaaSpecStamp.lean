/- What the model's functions of spec/l02_stamp.go answer at every stamp: contracts of each of them. -/
import Derived.Test.YtpjmghkhbhhmcaaStamp
import Derived.Deep.QuietTactic
import Derived.BigQuiet
namespace Go.Proofs.Ytpjmghkhbhhmcaa
open Go.RowKit

theorem specStampOk_any (c k : Int) (w : World) :
    Calls Try.prog 14 #[.agg #[.int .i64 c, .int .i64 k]] w fun e w' => e = .returned (.bool (stB c k)) ∧ Below w.heap.size w w' := by
  rw [← stB_spec]
  rcases h1 : inB c 0 100000 with _ | _
  · go_enter Try.func14, Try.ntmps14
    go_wp2_with (go_at_call 32; refine (l1In_any _ _ _ _).mono ?_; rintro e w' ⟨rfl, rfl⟩)
    go_ret
    exact ⟨rfl, bel_alloc _ _⟩
  rcases h2 : inB k 0 15 with _ | _
  · go_enter Try.func14, Try.ntmps14
    go_wp2_with (go_at_call 32; refine (l1In_any _ _ _ _).mono ?_; rintro e w' ⟨rfl, rfl⟩)
    go_ret
    exact ⟨rfl, bel_alloc _ _⟩
  by_cases h3 : 0 < c
  · have e : Hid (decide (0 < c) = true) := decide_eq_true h3
    go_enter Try.func14, Try.ntmps14
    go_wp2_with (go_at_call 32; refine (l1In_any _ _ _ _).mono ?_; rintro e w' ⟨rfl, rfl⟩)
    go_ret
    exact ⟨by rw [e.out]; rfl, bel_alloc _ _⟩
  have e : Hid (decide (0 < c) = false) := decide_eq_false h3
  by_cases h4 : k = 0
  · subst h4
    go_enter Try.func14, Try.ntmps14
    go_wp2_with (go_at_call 32; refine (l1In_any _ _ _ _).mono ?_; rintro e w' ⟨rfl, rfl⟩)
    go_ret
    exact ⟨by rw [e.out]; rfl, bel_alloc _ _⟩
  · have h4' : (k == 0) = false := by simpa using h4
    have e' : Hid (decide (k = 0) = false) := decide_eq_false h4
    go_enter Try.func14, Try.ntmps14
    go_wp2_with (go_at_call 32; refine (l1In_any _ _ _ _).mono ?_; rintro e w' ⟨rfl, rfl⟩)
    go_ret
    exact ⟨by rw [e.out, e'.out]; rfl, bel_alloc _ _⟩

set_option maxHeartbeats 1000000 in
theorem specCmp_any (a b c d : Int) (w : World) :
    Calls Try.prog 12 #[.agg #[.int .i64 a, .int .i64 b], .agg #[.int .i64 c, .int .i64 d]] w fun e w' => e = .returned (.int .i64 (cmpN a b c d)) ∧ Below w.heap.size w w' := by
  have hb0 := bel_trans (bel_alloc w (.cells #[.int .i64 a, .int .i64 b] 25)) (bel_alloc _ (.cells #[.int .i64 c, .int .i64 d] 25))
  have D := (Box.new w 25 #[.int .i64 a, .int .i64 b]).alloc (.cells #[.int .i64 c, .int .i64 d] 25)
  have X := Box.new (w.alloc (.cells #[.int .i64 a, .int .i64 b] 25)) 25 #[.int .i64 c, .int .i64 d]
  simp only [World.size_alloc] at X
  go_enter Try.func12, Try.ntmps12
  go_wp2_with fail
  generalize ((w.alloc _).alloc _ : World) = w0 at hb0 D X ⊢
  refine (specStampOk_any a b w0).mono ?_
  rintro e w1 ⟨rfl, hb1⟩
  have D1 := D.later hb1 D.lt
  have X1 := X.later hb1 X.lt
  have E1 := bel_trans hb0 hb1
  clear D X hb0 hb1
  obtain ⟨x0, x1⟩ := X1.two
  rcases h1 : stB a b with _ | _
  · have e := Lib.hid (cmpN_no1 h1 c d)
    go_wp2
    go_ret
    exact ⟨by rw [e.out]; rfl, E1⟩
  go_wp2_with fail
  refine (specStampOk_any c d w1).mono ?_
  rintro e w2 ⟨rfl, hb2⟩
  have D2 := D1.later hb2 D1.lt
  have X2 := X1.later hb2 X1.lt
  have E2 := bel_trans E1 hb2
  clear D1 X1 E1 hb2 x0 x1
  obtain ⟨a0, a1⟩ := D2.two
  obtain ⟨x0, x1⟩ := X2.two
  rcases h2 : stB c d with _ | _
  · have e := Lib.hid (cmpN_no2 h2 a b)
    go_wp2
    go_ret
    exact ⟨by rw [e.out]; rfl, E2⟩
  have e := Lib.hid (cmpN_yes h1 h2)
  rcases Int.lt_trichotomy a c with h | h | h
  · have n1 : (a != c) = true := by simp; omega
    have s1 := Lib.hid (sgn_lt h)
    go_wp2
    go_ret
    exact ⟨by rw [e.out, s1.out]; rfl, E2⟩
  · subst h
    have s1 := Lib.hid (sgn_eq a)
    rcases Int.lt_trichotomy b d with k | k | k
    · have n1 : (b != d) = true := by simp; omega
      have s2 := Lib.hid (sgn_lt k)
      go_wp2
      go_ret
      exact ⟨by rw [e.out, s1.out, s2.out]; rfl, E2⟩
    · subst k
      have s2 := Lib.hid (sgn_eq b)
      go_wp2
      go_ret
      exact ⟨by rw [e.out, s1.out, s2.out]; rfl, E2⟩
    · have n1 : (b != d) = true := by simp; omega
      have n2 : ¬ b < d := by omega
      have s2 := Lib.hid (sgn_gt k)
      go_wp2
      go_ret
      exact ⟨by rw [e.out, s1.out, s2.out]; rfl, E2⟩
  · have n1 : (a != c) = true := by simp; omega
    have n2 : ¬ a < c := by omega
    have s1 := Lib.hid (sgn_gt h)
    go_wp2
    go_ret
    exact ⟨by rw [e.out, s1.out]; rfl, E2⟩

set_option maxHeartbeats 400000 in
theorem specNext_any (c k x : Int) (w : World) :
    Calls Try.prog 17 #[.agg #[.int .i64 c, .int .i64 k], .int .i64 x] w fun e w' => e = .returned (nxV c k x) ∧ Below w.heap.size w w' := by
  have hy : ∃ y : Int, wrap64 (c + 1) = y ∧ (stB c k = true → y = c + 1) := by
    refine ⟨_, rfl, fun h => ?_⟩
    have := stB_bd h
    unfold wrap64
    omega
  obtain ⟨y, hy1, hy2⟩ := hy
  have H2 := Lib.hid hy2
  clear hy2
  have hb0 := bel_trans (bel_trans (bel_alloc w (.cells #[.int .i64 c, .int .i64 k] 25)) (bel_alloc _ (.cells #[.int .i64 0, .int .i64 0] 25))) (bel_alloc _ (.cells #[.int .i64 y, .int .i64 x] 25))
  have X := (Box.new (w.alloc (.cells #[.int .i64 c, .int .i64 k] 25)) 25 #[.int .i64 0, .int .i64 0]).alloc (.cells #[.int .i64 y, .int .i64 x] 25)
  have Y := Box.new ((w.alloc (.cells #[.int .i64 c, .int .i64 k] 25)).alloc (.cells #[.int .i64 0, .int .i64 0] 25)) 25 #[.int .i64 y, .int .i64 x]
  simp only [World.size_alloc] at X Y
  go_enter Try.func17, Try.ntmps17
  go_wp2_with fail
  generalize (((w.alloc _).alloc _).alloc _ : World) = w0 at hb0 X Y ⊢
  refine (specStampOk_any c k w0).mono ?_
  rintro e w1 ⟨rfl, hb1⟩
  have X1 := X.later hb1 X.lt
  have Y1 := Y.later hb1 Y.lt
  have E1 := bel_trans hb0 hb1
  clear X Y hb0 hb1
  obtain ⟨x0, x1⟩ := X1.two
  obtain ⟨y0, y1⟩ := Y1.two
  have fx := X1.frozen
  rcases h1 : stB c k with _ | _
  · have H := Lib.hid (nxV_no (nxB_1 h1 x))
    go_wp2
    exact bodyPost_ret (v := .tuple #[.agg #[.int .i64 0, .int .i64 0], .bool false]) (by simp [results, Try.results17, go_sem, x0, x1]) rfl ⟨by rw [H.out], (E1.setCell (by simp) _).setCell (by simp) _⟩
  · have e1 := H2.out h1
    subst e1
    clear hy1 H2
    go_wp2_with fail
    refine (specStampOk_any (c + 1) x w1).mono ?_
    rintro e w3 ⟨rfl, hb3⟩
    have Y3 := Y1.later hb3 Y1.lt
    have X3 := X1.later hb3 X1.lt
    have E3 := bel_trans E1 hb3
    clear x0 x1 y0 y1 fx
    obtain ⟨y0, y1⟩ := Y3.two
    obtain ⟨x0, x1⟩ := X3.two
    have fx := X3.frozen
    rcases h2 : stB (c + 1) x with _ | _
    · have H := Lib.hid (nxV_no (nxB_2 h2 k))
      go_wp2
      exact bodyPost_ret (v := .tuple #[.agg #[.int .i64 0, .int .i64 0], .bool false]) (by simp [results, Try.results17, go_sem, x0, x1]) rfl ⟨by rw [H.out], (E3.setCell (by simp) _).setCell (by simp) _⟩
    · have H := Lib.hid (nxV_yes (nxB_3 h1 h2))
      go_wp2
      exact bodyPost_ret (v := .tuple #[.agg #[.int .i64 (c + 1), .int .i64 x], .bool true]) (by simp [results, Try.results17, go_sem, x0, x1]) rfl ⟨by rw [H.out], (E3.setCell (by simp) _).setCell (by simp) _⟩

set_option maxHeartbeats 1000000 in
theorem specNewest_any (A : Option Addr) (n cap : Nat) (ps : List (Int × Int)) (w : World) (hm : n ≤ maxLen) (hr : Pairs w w.heap.size A n ps) :
    Calls Try.prog 20 #[.slice A n cap] w fun e w' => e = .returned (.agg #[.int .i64 (bestP ps).1, .int .i64 (bestP ps).2]) ∧ Below w.heap.size w w' := by
  unfold maxLen at hm
  have HR := Lib.hid hr
  clear hr
  go_enter Try.func20, Try.ntmps20
  go_wp2_with fail
  go_loopw [4] (fun i wr => ∃ (k : Nat) (p : Int × Int), k ≤ n ∧ i = .int .i64 k ∧ Hid (bestP (ps.take k) = p) ∧ Below w.heap.size w wr ∧ Box wr w.heap.size 25 #[.int .i64 0, .int .i64 0] ∧ Box wr (w.heap.size + 1) 25 #[.int .i64 p.1, .int .i64 p.2]) (fun i _ => n - (intOf i).toNat)
  case atStart =>
    refine ⟨0, (0, 0), by omega, rfl, rfl, bel_trans (bel_alloc _ _) (bel_alloc _ _), ?_, ?_⟩
    · exact (Box.new w 25 #[.int .i64 0, .int .i64 0]).alloc (.cells #[.int .i64 0, .int .i64 0] 25)
    · have X := Box.new (w.alloc (.cells #[.int .i64 0, .int .i64 0] 25)) 25 #[.int .i64 0, .int .i64 0]
      simpa only [World.size_alloc] using X
  case round =>
    obtain ⟨k, ⟨p, q⟩, hk, rfl, hp, hb, R, P⟩ := hrel
    by_cases hlt : k < n
    · obtain ⟨b, o, hA, hbB, hcell⟩ := HR.out.2 (by omega)
      subst hA
      obtain ⟨g0, g1⟩ := hcell k hlt
      have hbr : b < wr.heap.size := Nat.lt_of_lt_of_le hbB hb.size
      have g0 := (hb.cell (p := ⟨b, o + k * 2, none⟩) hbB).trans g0
      have g1 := (hb.cell (p := ⟨b, o + k * 2 + 1, none⟩) hbB).trans g1
      generalize hx : pth ps k = x at g0 g1
      obtain ⟨x, y⟩ := x
      have a0 := After.cell hbr g0
      have a1 := After.cell hbr g1
      obtain ⟨p0, p1⟩ := twoAfter P
      have HX := Lib.hid hx
      have hlt' : (k : Int) < (n : Int) := by omega
      clear hx hcell
      go_wp2_with fail
      refine wp_region_after (by kernel_rfl) (by kernel_rfl) ?_
      repeat (first | go_big_quiet_step ((go_at_call 12; exact after_of (specCmp_any x y p q _))) | quiet_step ((go_at_call 12; exact after_of (specCmp_any x y p q _))))
      refine wpQuiet_nil ?_
      intro pw
      have P3 := P.later pw.bel P.lt
      have R3 := R.later pw.bel R.lt
      have E3 := bel_trans hb pw.bel
      have g0 := a0 pw
      have g1 := a1 pw
      obtain ⟨w3, hw3⟩ : ∃ w3, pw.x = w3 := ⟨_, rfl⟩
      rw [hw3] at P3 R3 E3 g0 g1 ⊢
      clear hw3 pw a0 a1 p0 p1 P R hb
      obtain ⟨p0, p1⟩ := P3.two
      have fp := P3.frozen
      have HS : Hid (bestP (ps.take (k + 1)) = pickP (p, q) (x, y)) := by show _ = _; rw [best_snoc (by rw [HR.out.1]; exact hlt), hp.out, HX.out]
      rcases hc : cmpN x y p q == 1 with _ | _
      · have HP : Hid (pickP (p, q) (x, y) = (p, q)) := by show _ = _; unfold pickP; rw [if_neg]; simpa using hc
        go_wp2
        go_roundw
        case rel => exact ⟨k + 1, (p, q), by omega, by go_num, HS.out.trans HP.out, E3, R3, P3⟩
        case measure => simp [intOf]; omega
      · have HP : Hid (pickP (p, q) (x, y) = (x, y)) := by show _ = _; unfold pickP; rw [if_pos]; simpa using hc
        have hne : w.heap.size + 1 ≠ w.heap.size := by omega
        have P4 := Lib.hid ((P3.set 0 (.int .i64 x)).set 1 (.int .i64 y))
        have R4 := Lib.hid ((R3.far (p := ⟨w.heap.size + 1, 0, none⟩) hne (.int .i64 x)).far (p := ⟨w.heap.size + 1, 1, none⟩) hne (.int .i64 y))
        have E4 := Lib.hid ((E3.setCell (p := ⟨w.heap.size + 1, 0, none⟩) (by simp) (.int .i64 x)).setCell (p := ⟨w.heap.size + 1, 1, none⟩) (by simp) (.int .i64 y))
        go_wp2
        go_roundw
        case rel => exact ⟨k + 1, (x, y), by omega, by go_num, HS.out.trans HP.out, E4.out, R4.out, P4.out⟩
        case measure => simp [intOf]; omega
    · obtain ⟨p0, p1⟩ := P.two
      obtain ⟨r0, r1⟩ := R.two
      have fr := R.frozen
      have hz := HR.out.1
      have HE : Hid (bestP ps = (p, q)) := by show _ = _; rw [← hp.out, List.take_of_length_le (by omega)]
      clear hz
      go_wp2
      exact bodyPost_ret (v := .agg #[.int .i64 p, .int .i64 q]) (by simp [results, Try.results20, go_sem, r0, r1]) rfl ⟨by rw [HE.out], (hb.setCell (by simp) _).setCell (by simp) _⟩

end Go.Proofs.Ytpjmghkhbhhmcaa
