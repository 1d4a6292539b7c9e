/- What the functions of impl/l02_stamp.go answer at every stamp: contracts of each of them. -/
import Derived.Test.YtjdepjpjjgkmbaaGreatBase
import Derived.Test.YtjdepjpjjgkmbaaGreatStampBase
import Derived.Deep.QuietTactic
import Derived.BigQuiet
import Derived.Laws.MakeOwn
import Derived.BigRegion
namespace Go.Proofs.YtjdepjpjjgkmbaaGreat
open Go.RowKit

theorem twoAfter {w : World} {g : Nat} {t : TypeId} {v0 v1 : Value} (h : Box w g t #[v0, v1]) : (∀ p : After w, p.x.cell? ⟨g, 0, none⟩ = some v0) ∧ (∀ p : After w, p.x.cell? ⟨g, 1, none⟩ = some v1) :=
  ⟨After.cell h.lt (h.cell 0), After.cell h.lt (h.cell 1)⟩
theorem pairsAfter {w : World} {A : Option Addr} {n : Nat} {ps : List (Int × Int)} (h : Pairs w w.heap.size A n ps) (p : After w) : Pairs p.x p.x.heap.size A n ps := h.later p.bel

theorem stampOk_any (c k : Int) (w : World) :
    Calls Tryz.prog 114 #[.agg #[.int .i64 c, .int .i64 k]] w fun e w' => e = .returned (.bool (stB c k)) ∧ Below w.heap.size w w' := by
  by_cases hc : c = 0
  · subst hc
    by_cases hk : k = 0
    · subst hk
      go_enter Tryz.func114, Tryz.ntmps114
      go_wp2
      go_ret
      exact ⟨rfl, bel_alloc _ _⟩
    · have e : Hid (stB 0 k = false) := by show stB 0 k = false; simp [stB, hk]
      have hk' : (k == 0) = false := by simpa using hk
      go_enter Tryz.func114, Tryz.ntmps114
      go_wp2
      go_ret
      exact ⟨by rw [e.out]; first | rfl | simp [hk], bel_alloc _ _⟩
  · have hc' : (c == 0) = false := by simpa using hc
    have e := Lib.hid (stB_not hc k)
    rcases h1 : inB c 1 100000 with _ | _
    · go_enter Tryz.func114, Tryz.ntmps114
      go_wp2_with (go_at_call 143; refine (within_any _ _ _ _).mono ?_; rintro e w' ⟨rfl, rfl⟩)
      go_ret
      exact ⟨by rw [e.out, h1]; rfl, bel_alloc _ _⟩
    · go_enter Tryz.func114, Tryz.ntmps114
      go_wp2_with (go_at_call 143; refine (within_any _ _ _ _).mono ?_; rintro e w' ⟨rfl, rfl⟩)
      go_ret
      exact ⟨by rw [e.out, h1]; rfl, bel_alloc _ _⟩

theorem isNaN_any (x : Int) (w : World) :
    Calls Tryz.prog 173 #[.int .i64 x] w fun e w' => e = .returned (.bool false) ∧ w = w' := by
  have h : (x != x) = false := by simp
  go_enter Tryz.func173, Tryz.ntmps173
  go_wp2
  go_ret
  exact ⟨by first | rfl | simp, rfl⟩

theorem compare_any (a b : Int) (w : World) :
    Calls Tryz.prog 116 #[.int .i64 a, .int .i64 b] w fun e w' => e = .returned (.int .i64 (sgn a b)) ∧ w = w' := by
  rcases Int.lt_trichotomy a b with h | h | h
  · have e := Lib.hid (sgn_lt h)
    go_enter Tryz.func116, Tryz.ntmps116
    go_wp2_with (go_at_call 173; refine (isNaN_any _ _).mono ?_; rintro e w' ⟨rfl, rfl⟩)
    go_ret
    exact ⟨by rw [e.out]; rfl, rfl⟩
  · subst h
    have e := Lib.hid (sgn_eq a)
    go_enter Tryz.func116, Tryz.ntmps116
    go_wp2_with (go_at_call 173; refine (isNaN_any _ _).mono ?_; rintro e w' ⟨rfl, rfl⟩)
    go_ret
    exact ⟨by rw [e.out]; rfl, rfl⟩
  · have e := Lib.hid (sgn_gt h)
    have h' : ¬ a < b := by omega
    go_enter Tryz.func116, Tryz.ntmps116
    go_wp2_with (go_at_call 173; refine (isNaN_any _ _).mono ?_; rintro e w' ⟨rfl, rfl⟩)
    go_ret
    exact ⟨by rw [e.out]; rfl, rfl⟩

theorem or_any (b : Nat) (x y : Int) (w : World) (h0 : w.cell? ⟨b, 0, none⟩ = some (.int .i64 x)) (h1 : w.cell? ⟨b, 1, none⟩ = some (.int .i64 y)) :
    Calls Tryz.prog 115 #[.slice (some ⟨b, 0, none⟩) 2 2] w fun e w' => e = .returned (.int .i64 (orN x y)) ∧ w = w' := by
  go_enter Tryz.func115, Tryz.ntmps115
  go_wp2
  go_loop [8] (fun i => ∃ k : Nat, k ≤ 2 ∧ i = .int .i64 k ∧ (0 < k → x = 0) ∧ (1 < k → y = 0)) (fun i => 2 - (intOf i).toNat)
  case atStart => exact ⟨0, by omega, rfl, fun h => absurd h (by omega), fun h => absurd h (by omega)⟩
  case round =>
    obtain ⟨k, hk, rfl, hx, hy⟩ := hrel
    have hcase : k = 0 ∨ k = 1 ∨ k = 2 := by omega
    rcases hcase with rfl | rfl | rfl
    · clear hx hy
      by_cases hx : x = 0
      · subst hx
        go_wp2
        go_round
        case rel => exact ⟨1, by omega, by go_num, fun _ => trivial, fun h => absurd h (by omega)⟩
        case measure => simp [intOf]
      · have hx' : (x != 0) = true := by simpa using hx
        have e : Hid (orN x y = x) := by show orN x y = x; simp [orN, hx]
        go_wp2
        go_ret
        exact ⟨by rw [e.out]; rfl, rfl⟩
    · obtain rfl := hx (by omega)
      clear hx hy
      by_cases hy : y = 0
      · subst hy
        go_wp2
        go_round
        case rel => exact ⟨2, by omega, by go_num, fun _ => trivial, fun _ => trivial⟩
        case measure => simp [intOf]
      · have hy' : (y != 0) = true := by simpa using hy
        go_wp2
        go_ret
        exact ⟨rfl, rfl⟩
    · obtain rfl := hx (by omega)
      obtain rfl := hy (by omega)
      go_wp2
      go_ret
      exact ⟨rfl, rfl⟩

set_option maxHeartbeats 400000 in
theorem cmpStamp_any (a b c d : Int) (w : World) :
    Calls Tryz.prog 59 #[.agg #[.int .i64 a, .int .i64 b], .agg #[.int .i64 c, .int .i64 d]] w fun e w' => e = .returned (.int .i64 (cmpN a b c d)) ∧ Below w.heap.size w w' := by
  rcases h1 : stB a b with _ | _
  · have e := Lib.hid (cmpN_no1 h1 c d)
    go_enter Tryz.func59, Tryz.ntmps59
    have hb0 := bel_trans (bel_alloc w (.cells #[.int .i64 a, .int .i64 b] 39)) (bel_alloc _ (.cells #[.int .i64 c, .int .i64 d] 39))
    go_wp2_with fail
    generalize ((w.alloc _).alloc _ : World) = w0 at hb0 ⊢
    refine (stampOk_any a b w0).mono ?_
    rintro e w1 ⟨rfl, hb1⟩
    go_wp2
    go_ret
    exact ⟨by rw [e.out]; rfl, bel_trans hb0 hb1⟩
  · rcases h2 : stB c d with _ | _
    · have e := Lib.hid (cmpN_no2 h2 a b)
      go_enter Tryz.func59, Tryz.ntmps59
      have hb0 := bel_trans (bel_alloc w (.cells #[.int .i64 a, .int .i64 b] 39)) (bel_alloc _ (.cells #[.int .i64 c, .int .i64 d] 39))
      have D := (Box.new w 39 #[.int .i64 a, .int .i64 b]).alloc (.cells #[.int .i64 c, .int .i64 d] 39)
      have X := Box.new (w.alloc (.cells #[.int .i64 a, .int .i64 b] 39)) 39 #[.int .i64 c, .int .i64 d]
      simp only [World.size_alloc] at X
      go_wp2_with fail
      generalize ((w.alloc _).alloc _ : World) = w0 at hb0 D X ⊢
      refine (stampOk_any a b w0).mono ?_
      rintro e w1 ⟨rfl, hb1⟩
      obtain ⟨x0, x1⟩ := (X.later hb1 X.lt).two
      go_wp2_with fail
      refine (stampOk_any c d w1).mono ?_
      rintro e w2 ⟨rfl, hb2⟩
      go_wp2
      go_ret
      exact ⟨by rw [e.out]; rfl, bel_trans (bel_trans hb0 hb1) hb2⟩
    · have e := Lib.hid (cmpN_yes h1 h2)
      go_enter Tryz.func59, Tryz.ntmps59
      have hb0 := bel_trans (bel_alloc w (.cells #[.int .i64 a, .int .i64 b] 39)) (bel_alloc _ (.cells #[.int .i64 c, .int .i64 d] 39))
      have D := (Box.new w 39 #[.int .i64 a, .int .i64 b]).alloc (.cells #[.int .i64 c, .int .i64 d] 39)
      have X := Box.new (w.alloc (.cells #[.int .i64 a, .int .i64 b] 39)) 39 #[.int .i64 c, .int .i64 d]
      simp only [World.size_alloc] at X
      go_wp2_with fail
      generalize ((w.alloc _).alloc _ : World) = w0 at hb0 D X ⊢
      refine (stampOk_any a b w0).mono ?_
      rintro e w1 ⟨rfl, hb1⟩
      have D1 := D.later hb1 D.lt
      have X1 := X.later hb1 X.lt
      have E1 := bel_trans hb0 hb1
      clear D X hb0 hb1
      obtain ⟨x0, x1⟩ := X1.two
      go_wp2_with fail
      refine (stampOk_any c d w1).mono ?_
      rintro e w2 ⟨rfl, hb2⟩
      have D2 := D1.later hb2 D1.lt
      have X2 := X1.later hb2 X1.lt
      have E2 := bel_trans E1 hb2
      clear D1 X1 E1 hb2 x0 x1
      obtain ⟨a0, a1⟩ := D2.two
      obtain ⟨x0, x1⟩ := X2.two
      go_wp2_with fail
      go_region_held3 (fun w' => w'.cell? ⟨w.heap.size, 0, none⟩ = some (.int .i64 a) ∧ w'.cell? ⟨w.heap.size, 1, none⟩ = some (.int .i64 b) ∧ w'.cell? ⟨w.heap.size + 1, 0, none⟩ = some (.int .i64 c) ∧ w'.cell? ⟨w.heap.size + 1, 1, none⟩ = some (.int .i64 d)) (go_keep)
        (first
          | (go_at_call 116; refine (compare_any _ _ _).mono ?_; rintro e w' ⟨rfl, rfl⟩)
          | (go_at_call 115; refine (or_any _ (sgn a c) (sgn b d) _ ?_ ?_).mono ?_; (simp); (simp); rintro e w' ⟨rfl, rfl⟩))
      go_wp2
      go_ret
      exact ⟨by rw [e.out]; rfl, (bel_trans E2 (bel_alloc _ _)).drew⟩

set_option maxHeartbeats 400000 in
theorem nextStamp_any (c k x : Int) (w : World) :
    Calls Tryz.prog 208 #[.agg #[.int .i64 c, .int .i64 k], .int .i64 x] w fun e w' => e = .returned (nxV c k x) ∧ Below w.heap.size w w' := by
  have hb0 := bel_trans (bel_alloc w (.cells #[.int .i64 c, .int .i64 k] 39)) (bel_alloc _ (.cells #[.int .i64 0, .int .i64 0] 39))
  have D := (Box.new w 39 #[.int .i64 c, .int .i64 k]).alloc (.cells #[.int .i64 0, .int .i64 0] 39)
  have X := Box.new (w.alloc (.cells #[.int .i64 c, .int .i64 k] 39)) 39 #[.int .i64 0, .int .i64 0]
  simp only [World.size_alloc] at X
  go_enter Tryz.func208, Tryz.ntmps208
  go_wp2_with fail
  generalize ((w.alloc _).alloc _ : World) = w0 at hb0 D X ⊢
  refine (stampOk_any c k w0).mono ?_
  rintro e w1 ⟨rfl, hb1⟩
  have D1 := D.later hb1 D.lt
  have X1 := X.later hb1 X.lt
  have E1 := bel_trans hb0 hb1
  clear D X hb0 hb1
  obtain ⟨a0, a1⟩ := D1.two
  obtain ⟨x0, x1⟩ := X1.two
  have fx := X1.frozen
  rcases h1 : stB c k with _ | _
  · have H := Lib.hid (nxV_no (nxB_1 h1 x))
    go_wp2
    exact bodyPost_ret (v := .tuple #[.agg #[.int .i64 0, .int .i64 0], .bool false]) (by simp [results, Tryz.results208, go_sem, x0, x1]) rfl ⟨by rw [H.out], (E1.setCell (by simp) _).setCell (by simp) _⟩
  · have hbd := stB_bd h1
    obtain ⟨hc0, hc1, hk0, hk1⟩ := hbd
    have Y := Box.new w1 39 #[.int .i64 (c + 1), .int .i64 x]
    have hb2 := bel_alloc w1 (.cells #[.int .i64 (c + 1), .int .i64 x] 39)
    have hs1 := D1.lt
    have hs2 := X1.lt
    go_wp2_with fail
    have X2 := X1.later hb2 X1.lt
    have E2 := bel_trans E1 hb2
    generalize (w1.alloc _ : World) = w2 at Y hb2 X2 E2 ⊢
    clear D1 X1 E1 a0 a1 x0 x1 fx
    refine (stampOk_any (c + 1) x w2).mono ?_
    rintro e w3 ⟨rfl, hb3⟩
    have Y3 := Y.later hb3 Y.lt
    have X3 := X2.later hb3 X2.lt
    have E3 := bel_trans E2 hb3
    obtain ⟨y0, y1⟩ := Y3.two
    obtain ⟨x0, x1⟩ := X3.two
    have fx := X3.frozen
    rcases h2 : stB (c + 1) x with _ | _
    · have H := Lib.hid (nxV_no (nxB_2 h2 k))
      go_wp2
      exact bodyPost_ret (v := .tuple #[.agg #[.int .i64 0, .int .i64 0], .bool false]) (by simp [results, Tryz.results208, go_sem, x0, x1]) rfl ⟨by rw [H.out], (E3.setCell (by simp) _).setCell (by simp) _⟩
    · have H := Lib.hid (nxV_yes (nxB_3 h1 h2))
      go_wp2
      exact bodyPost_ret (v := .tuple #[.agg #[.int .i64 (c + 1), .int .i64 x], .bool true]) (by simp [results, Tryz.results208, go_sem, x0, x1]) rfl ⟨by rw [H.out], (E3.setCell (by simp) _).setCell (by simp) _⟩

theorem newer_any (a b c d : Int) (w : World) :
    Calls Tryz.prog 210 #[.agg #[.int .i64 a, .int .i64 b], .agg #[.int .i64 c, .int .i64 d]] w fun e w' => e = .returned (.bool (cmpN a b c d == 1)) ∧ Below w.heap.size w w' := by
  have hb0 := bel_trans (bel_alloc w (.cells #[.int .i64 a, .int .i64 b] 39)) (bel_alloc _ (.cells #[.int .i64 c, .int .i64 d] 39))
  go_enter Tryz.func210, Tryz.ntmps210
  go_wp2_with fail
  generalize ((w.alloc _).alloc _ : World) = w0 at hb0 ⊢
  refine (cmpStamp_any a b c d w0).mono ?_
  rintro e w1 ⟨rfl, hb1⟩
  go_wp2
  go_ret
  exact ⟨rfl, bel_trans hb0 hb1⟩

end Go.Proofs.YtjdepjpjjgkmbaaGreat

/- What the model's functions of spec/l02_stamp.go answer at every stamp: contracts of each of them. -/
namespace Go.Proofs.YtjdepjpjjgkmbaaGreat
open Go.RowKit

theorem specStampOk_any (c k : Int) (w : World) :
    Calls Tryz.prog 195 #[.agg #[.int .i64 c, .int .i64 k]] w fun e w' => e = .returned (.bool (stB c k)) ∧ Below w.heap.size w w' := by
  rw [← stB_spec]
  rcases h1 : inB c 0 100000 with _ | _
  · go_enter Tryz.func195, Tryz.ntmps195
    go_wp2_with (go_at_call 174; refine (l1In_any _ _ _ _).mono ?_; rintro e w' ⟨rfl, rfl⟩)
    go_ret
    exact ⟨rfl, bel_alloc _ _⟩
  rcases h2 : inB k 0 15 with _ | _
  · go_enter Tryz.func195, Tryz.ntmps195
    go_wp2_with (go_at_call 174; refine (l1In_any _ _ _ _).mono ?_; rintro e w' ⟨rfl, rfl⟩)
    go_ret
    exact ⟨rfl, bel_alloc _ _⟩
  by_cases h3 : 0 < c
  · have e : Hid (decide (0 < c) = true) := decide_eq_true h3
    go_enter Tryz.func195, Tryz.ntmps195
    go_wp2_with (go_at_call 174; refine (l1In_any _ _ _ _).mono ?_; rintro e w' ⟨rfl, rfl⟩)
    go_ret
    exact ⟨by rw [e.out]; rfl, bel_alloc _ _⟩
  have e : Hid (decide (0 < c) = false) := decide_eq_false h3
  by_cases h4 : k = 0
  · subst h4
    go_enter Tryz.func195, Tryz.ntmps195
    go_wp2_with (go_at_call 174; refine (l1In_any _ _ _ _).mono ?_; rintro e w' ⟨rfl, rfl⟩)
    go_ret
    exact ⟨by rw [e.out]; rfl, bel_alloc _ _⟩
  · have h4' : (k == 0) = false := by simpa using h4
    have e' : Hid (decide (k = 0) = false) := decide_eq_false h4
    go_enter Tryz.func195, Tryz.ntmps195
    go_wp2_with (go_at_call 174; refine (l1In_any _ _ _ _).mono ?_; rintro e w' ⟨rfl, rfl⟩)
    go_ret
    exact ⟨by rw [e.out, e'.out]; rfl, bel_alloc _ _⟩

set_option maxHeartbeats 1000000 in
theorem specCmp_any (a b c d : Int) (w : World) :
    Calls Tryz.prog 200 #[.agg #[.int .i64 a, .int .i64 b], .agg #[.int .i64 c, .int .i64 d]] w fun e w' => e = .returned (.int .i64 (cmpN a b c d)) ∧ Below w.heap.size w w' := by
  have hb0 := bel_trans (bel_alloc w (.cells #[.int .i64 a, .int .i64 b] 39)) (bel_alloc _ (.cells #[.int .i64 c, .int .i64 d] 39))
  have D := (Box.new w 39 #[.int .i64 a, .int .i64 b]).alloc (.cells #[.int .i64 c, .int .i64 d] 39)
  have X := Box.new (w.alloc (.cells #[.int .i64 a, .int .i64 b] 39)) 39 #[.int .i64 c, .int .i64 d]
  simp only [World.size_alloc] at X
  go_enter Tryz.func200, Tryz.ntmps200
  go_wp2_with fail
  generalize ((w.alloc _).alloc _ : World) = w0 at hb0 D X ⊢
  refine (specStampOk_any a b w0).mono ?_
  rintro e w1 ⟨rfl, hb1⟩
  have D1 := D.later hb1 D.lt
  have X1 := X.later hb1 X.lt
  have E1 := bel_trans hb0 hb1
  clear D X hb0 hb1
  obtain ⟨x0, x1⟩ := X1.two
  rcases h1 : stB a b with _ | _
  · have e := Lib.hid (cmpN_no1 h1 c d)
    go_wp2
    go_ret
    exact ⟨by rw [e.out]; rfl, E1⟩
  go_wp2_with fail
  refine (specStampOk_any c d w1).mono ?_
  rintro e w2 ⟨rfl, hb2⟩
  have D2 := D1.later hb2 D1.lt
  have X2 := X1.later hb2 X1.lt
  have E2 := bel_trans E1 hb2
  clear D1 X1 E1 hb2 x0 x1
  obtain ⟨a0, a1⟩ := D2.two
  obtain ⟨x0, x1⟩ := X2.two
  rcases h2 : stB c d with _ | _
  · have e := Lib.hid (cmpN_no2 h2 a b)
    go_wp2
    go_ret
    exact ⟨by rw [e.out]; rfl, E2⟩
  have e := Lib.hid (cmpN_yes h1 h2)
  rcases Int.lt_trichotomy a c with h | h | h
  · have n1 : (a != c) = true := by simp; omega
    have s1 := Lib.hid (sgn_lt h)
    go_wp2
    go_ret
    exact ⟨by rw [e.out, s1.out]; rfl, E2⟩
  · subst h
    have s1 := Lib.hid (sgn_eq a)
    rcases Int.lt_trichotomy b d with k | k | k
    · have n1 : (b != d) = true := by simp; omega
      have s2 := Lib.hid (sgn_lt k)
      go_wp2
      go_ret
      exact ⟨by rw [e.out, s1.out, s2.out]; rfl, E2⟩
    · subst k
      have s2 := Lib.hid (sgn_eq b)
      go_wp2
      go_ret
      exact ⟨by rw [e.out, s1.out, s2.out]; rfl, E2⟩
    · have n1 : (b != d) = true := by simp; omega
      have n2 : ¬ b < d := by omega
      have s2 := Lib.hid (sgn_gt k)
      go_wp2
      go_ret
      exact ⟨by rw [e.out, s1.out, s2.out]; rfl, E2⟩
  · have n1 : (a != c) = true := by simp; omega
    have n2 : ¬ a < c := by omega
    have s1 := Lib.hid (sgn_gt h)
    go_wp2
    go_ret
    exact ⟨by rw [e.out, s1.out]; rfl, E2⟩

set_option maxHeartbeats 400000 in
theorem specNext_any (c k x : Int) (w : World) :
    Calls Tryz.prog 151 #[.agg #[.int .i64 c, .int .i64 k], .int .i64 x] w fun e w' => e = .returned (nxV c k x) ∧ Below w.heap.size w w' := by
  have hy : ∃ y : Int, wrap64 (c + 1) = y ∧ (stB c k = true → y = c + 1) := by
    refine ⟨_, rfl, fun h => ?_⟩
    have := stB_bd h
    unfold wrap64
    omega
  obtain ⟨y, hy1, hy2⟩ := hy
  have H2 := Lib.hid hy2
  clear hy2
  have hb0 := bel_trans (bel_trans (bel_alloc w (.cells #[.int .i64 c, .int .i64 k] 39)) (bel_alloc _ (.cells #[.int .i64 0, .int .i64 0] 39))) (bel_alloc _ (.cells #[.int .i64 y, .int .i64 x] 39))
  have X := (Box.new (w.alloc (.cells #[.int .i64 c, .int .i64 k] 39)) 39 #[.int .i64 0, .int .i64 0]).alloc (.cells #[.int .i64 y, .int .i64 x] 39)
  have Y := Box.new ((w.alloc (.cells #[.int .i64 c, .int .i64 k] 39)).alloc (.cells #[.int .i64 0, .int .i64 0] 39)) 39 #[.int .i64 y, .int .i64 x]
  simp only [World.size_alloc] at X Y
  go_enter Tryz.func151, Tryz.ntmps151
  go_wp2_with fail
  generalize (((w.alloc _).alloc _).alloc _ : World) = w0 at hb0 X Y ⊢
  refine (specStampOk_any c k w0).mono ?_
  rintro e w1 ⟨rfl, hb1⟩
  have X1 := X.later hb1 X.lt
  have Y1 := Y.later hb1 Y.lt
  have E1 := bel_trans hb0 hb1
  clear X Y hb0 hb1
  obtain ⟨x0, x1⟩ := X1.two
  obtain ⟨y0, y1⟩ := Y1.two
  have fx := X1.frozen
  rcases h1 : stB c k with _ | _
  · have H := Lib.hid (nxV_no (nxB_1 h1 x))
    go_wp2
    exact bodyPost_ret (v := .tuple #[.agg #[.int .i64 0, .int .i64 0], .bool false]) (by simp [results, Tryz.results151, go_sem, x0, x1]) rfl ⟨by rw [H.out], (E1.setCell (by simp) _).setCell (by simp) _⟩
  · have e1 := H2.out h1
    subst e1
    clear hy1 H2
    go_wp2_with fail
    refine (specStampOk_any (c + 1) x w1).mono ?_
    rintro e w3 ⟨rfl, hb3⟩
    have Y3 := Y1.later hb3 Y1.lt
    have X3 := X1.later hb3 X1.lt
    have E3 := bel_trans E1 hb3
    clear x0 x1 y0 y1 fx
    obtain ⟨y0, y1⟩ := Y3.two
    obtain ⟨x0, x1⟩ := X3.two
    have fx := X3.frozen
    rcases h2 : stB (c + 1) x with _ | _
    · have H := Lib.hid (nxV_no (nxB_2 h2 k))
      go_wp2
      exact bodyPost_ret (v := .tuple #[.agg #[.int .i64 0, .int .i64 0], .bool false]) (by simp [results, Tryz.results151, go_sem, x0, x1]) rfl ⟨by rw [H.out], (E3.setCell (by simp) _).setCell (by simp) _⟩
    · have H := Lib.hid (nxV_yes (nxB_3 h1 h2))
      go_wp2
      exact bodyPost_ret (v := .tuple #[.agg #[.int .i64 (c + 1), .int .i64 x], .bool true]) (by simp [results, Tryz.results151, go_sem, x0, x1]) rfl ⟨by rw [H.out], (E3.setCell (by simp) _).setCell (by simp) _⟩

end Go.Proofs.YtjdepjpjjgkmbaaGreat

/- The laws' own copies of stamps and of lists of them, their size and the test that two are alike: contracts of each of them. -/
namespace Go.Proofs.YtjdepjpjjgkmbaaGreat
open Go.RowKit

theorem toStamp_any (c k : Int) (w : World) :
    Calls Tryz.prog 31 #[.agg #[.int .i64 c, .int .i64 k]] w fun e w' => e = .returned (.agg #[.int .i64 c, .int .i64 k]) ∧ Below w.heap.size w w' := by
  go_enter Tryz.func31, Tryz.ntmps31
  go_wp2
  exact bodyPost_ret (v := .agg #[.int .i64 c, .int .i64 k]) (by simp [results, Tryz.results31, go_sem]) rfl ⟨rfl, by
    first
    | exact bel_trans (bel_trans (bel_alloc _ _) (bel_alloc _ _)) (bel_alloc _ _)
    | exact (((((bel_trans (bel_trans (bel_alloc _ _) (bel_alloc _ _)) (bel_alloc _ _)).setCell (by simp) _).setCell (by simp) _).setCell (by simp) _).setCell (by simp) _)⟩

theorem eqStamp_same (c k : Int) (w : World) :
    Calls Tryz.prog 104 #[.agg #[.int .i64 c, .int .i64 k], .agg #[.int .i64 c, .int .i64 k]] w fun e w' => e = .returned (.bool true) ∧ Below w.heap.size w w' := by
  go_enter Tryz.func104, Tryz.ntmps104
  go_wp2
  go_ret
  exact ⟨rfl, bel_trans (bel_alloc _ _) (bel_alloc _ _)⟩

theorem Tryz.infoStamp : (Tryz.prog.info? 39).map (fun i => (i.zero, i.size, i.bytes)) = some (some (.agg #[.int .i64 0, .int .i64 0]), 2, 16) := by kernel_rfl

/-- n pairs of noughts are made. -/
theorem run_make_pairs {P : Program} (t e : TypeId) (ht : P.underlying t = some (.slice e)) (hinfo : (P.info? e).map (fun i => (i.zero, i.size, i.bytes)) = some (some (.agg #[.int .i64 0, .int .i64 0]), 2, 16))
    (n : Nat) (hn : n ≤ 1048576) (w : World) :
    (Instr.makeSlice t (.int .i64 (n : Int)) (.int .i64 (n : Int))).run P w = .ok (.slice (some ⟨w.heap.size, 0, none⟩) n n) (w.alloc (.cells (madeCells #[.int .i64 0, .int .i64 0] (n * 2)) e)) := by
  obtain ⟨i, hi, hzz⟩ := Option.map_eq_some_iff.1 hinfo
  simp only [Prod.mk.injEq] at hzz
  obtain ⟨hz, hs, hb⟩ := hzz
  have hr := run_make (P := P) w t e i _ ht hi hz .i64 .i64 n n (by omega) (Int.le_refl _) (by rw [hb]; omega) (by omega)
  simp only [Int.toNat_natCast, hs] at hr
  exact hr
theorem made_pairs (w : World) (n : Nat) (t : TypeId) : (w.alloc (.cells (madeCells #[.int .i64 0, .int .i64 0] (n * 2)) t)).rowIs w.heap.size t (n * 2) (fun _ => .int .i64 0) :=
  ⟨madeCells #[.int .i64 0, .int .i64 0] (n * 2), heap_alloc_new w _, size_madeCells _ _, fun i hi => by
    have h : i % 2 = 0 ∨ i % 2 = 1 := by omega
    rcases h with h | h <;> simp [madeCells, hi, h]⟩

/-- What a copy of n pairs leaves: a new row that holds them. -/
def MadePairs (w : World) (n : Nat) (ps : List (Int × Int)) (e : Ending) (w' : World) : Prop :=
  ∃ g, w.heap.size ≤ g ∧ e = .returned (.slice (some ⟨g, 0, none⟩) n n) ∧ Pairs w' w'.heap.size (some ⟨g, 0, none⟩) n ps ∧ Below w.heap.size w w'

/-- The first k pairs are copied. -/
def uptoP (ps : List (Int × Int)) (k j : Nat) : Value := if j < k * 2 then (if j % 2 = 0 then .int .i64 (pth ps (j / 2)).1 else .int .i64 (pth ps (j / 2)).2) else .int .i64 0
theorem uptoP_zero (ps : List (Int × Int)) (j : Nat) : uptoP ps 0 j = .int .i64 0 := by simp [uptoP]
theorem uptoP_succ {w : World} {b n k : Nat} {t : TypeId} {ps : List (Int × Int)} {x y : Int} (h : w.rowIs b t n (uptoP ps k)) (hx : pth ps k = (x, y)) :
    ((w.setCell ⟨b, k * 2, none⟩ (.int .i64 x)).setCell ⟨b, k * 2 + 1, none⟩ (.int .i64 y)).rowIs b t n (uptoP ps (k + 1)) :=
  ((h.set (k * 2) _).set (k * 2 + 1) _).congr fun i _ => by
    unfold uptoP
    by_cases e : i = k * 2 + 1
    · subst e
      have h1 : (k * 2 + 1) % 2 = 1 := by omega
      have h2 : (k * 2 + 1) / 2 = k := by omega
      have h3 : k * 2 + 1 < (k + 1) * 2 := by omega
      simp [h1, h2, h3, hx]
    · by_cases f : i = k * 2
      · subst f
        have h1 : (k * 2) % 2 = 0 := by omega
        have h2 : (k * 2) / 2 = k := by omega
        have h3 : k * 2 < (k + 1) * 2 := by omega
        simp [h2, h3, hx]
      · by_cases g : i < k * 2
        · simp [e, f, g, show i < (k + 1) * 2 by omega]
        · simp [e, f, g, show ¬ i < (k + 1) * 2 by omega]
theorem uptoP_all {w : World} {b n : Nat} {t : TypeId} {ps : List (Int × Int)} (h : w.rowIs b t (n * 2) (uptoP ps n)) (hl : ps.length = n) : Pairs w w.heap.size (some ⟨b, 0, none⟩) n ps := by
  refine ⟨hl, fun _ => ⟨b, 0, rfl, h.lt, fun i hi => ⟨?_, ?_⟩⟩⟩
  · have h1 : (i * 2) % 2 = 0 := by omega
    have h2 : (i * 2) / 2 = i := by omega
    rw [Nat.zero_add, h.cell (i := i * 2) (by omega)]
    simp [uptoP, h2, show i * 2 < n * 2 by omega]
  · have h1 : (i * 2 + 1) % 2 = 1 := by omega
    have h2 : (i * 2 + 1) / 2 = i := by omega
    rw [Nat.zero_add, h.cell (i := i * 2 + 1) (by omega)]
    simp [uptoP, h1, h2, show i * 2 + 1 < n * 2 by omega]

end Go.Proofs.YtjdepjpjjgkmbaaGreat

/- The library's stable sort over a slice of pairs, first part: what a slice of pairs holds, exchanging two of them, exchanging two ranges. -/
namespace Go.Proofs.YtjdepjpjjgkmbaaGreat
open Go.RowKit

/-- The block g holds these pairs, from its beginning. -/
structure Held (w : World) (g : Nat) (d : List (Int × Int)) : Prop where
  lt : g < w.heap.size
  fr : ∀ o, w.frozen? ⟨g, o, none⟩ = false
  at0 : ∀ i, i < d.length → w.cell? ⟨g, i * 2, none⟩ = some (.int .i64 (pth d i).1)
  at1 : ∀ i, i < d.length → w.cell? ⟨g, i * 2 + 1, none⟩ = some (.int .i64 (pth d i).2)
theorem Held.later {w w' : World} {g : Nat} {d : List (Int × Int)} (h : Held w g d) (hb : Below w.heap.size w w') : Held w' g d :=
  ⟨Nat.lt_of_lt_of_le h.lt hb.size, fun o => (hb.frozen (p := ⟨g, o, none⟩) h.lt).trans (h.fr o), fun i hi => (hb.cell (p := ⟨g, i * 2, none⟩) h.lt).trans (h.at0 i hi), fun i hi => (hb.cell (p := ⟨g, i * 2 + 1, none⟩) h.lt).trans (h.at1 i hi)⟩
theorem Held.drew {w : World} {g : Nat} {d : List (Int × Int)} (h : Held w g d) : Held w.drew g d := ⟨h.lt, h.fr, h.at0, h.at1⟩

theorem cell_set1 {w : World} {g i j : Nat} {u v : Value} (h : w.cell? ⟨g, i, none⟩ = some u) : (w.setCell ⟨g, j, none⟩ v).cell? ⟨g, i, none⟩ = some (if i = j then v else u) := by
  by_cases e : i = j
  · subst e
    rw [World.cell?_setCell_same _ _ _ h]
    simp
  · rw [World.cell?_setCell_other _ _ _ _ (fun e' => e (by injection e' with _ e'; exact e'.symm)), h]
    simp [e]

/-- One pair is written. -/
theorem Held.put {w : World} {g : Nat} {d : List (Int × Int)} (h : Held w g d) (i : Nat) (x : Int × Int) :
    Held ((w.setCell ⟨g, i * 2, none⟩ (.int .i64 x.1)).setCell ⟨g, i * 2 + 1, none⟩ (.int .i64 x.2)) g (d.set i x) := by
  refine ⟨by simp only [size_set]; exact h.lt, fun o => by simp [h.fr o], fun k hk => ?_, fun k hk => ?_⟩
  · rw [List.length_set] at hk
    rw [cell_set1 (cell_set1 (h.at0 k hk))]
    have e1 : ¬ k * 2 = i * 2 + 1 := by omega
    rw [if_neg e1]
    by_cases e : k = i
    · subst e; simp [pth, hk]
    · rw [if_neg (by omega)]; simp [pth, show ¬ i = k by omega]
  · rw [List.length_set] at hk
    rw [cell_set1 (cell_set1 (h.at1 k hk))]
    have e1 : ¬ k * 2 + 1 = i * 2 := by omega
    rw [if_neg e1]
    by_cases e : k = i
    · subst e; simp [pth, hk]
    · rw [if_neg (by omega)]; simp [pth, show ¬ i = k by omega]
/-- Two pairs are exchanged. -/
theorem Held.swap {w : World} {g : Nat} {d : List (Int × Int)} (h : Held w g d) (i j : Nat) {x y : Int × Int} (hx : pth d i = x) (hy : pth d j = y) :
    Held ((((w.setCell ⟨g, i * 2, none⟩ (.int .i64 y.1)).setCell ⟨g, i * 2 + 1, none⟩ (.int .i64 y.2)).setCell ⟨g, j * 2, none⟩ (.int .i64 x.1)).setCell ⟨g, j * 2 + 1, none⟩ (.int .i64 x.2)) g (swp d i j) := by
  subst hx hy
  exact (h.put i (pth d j)).put j (pth d i)
theorem grown_swap {a w : World} {g : Nat} (h : a.grownBy w (some g)) (i j k l : Nat) (p q r s : Value) :
    a.grownBy ((((w.setCell ⟨g, i, none⟩ p).setCell ⟨g, j, none⟩ q).setCell ⟨g, k, none⟩ r).setCell ⟨g, l, none⟩ s) (some g) :=
  grown_set (grown_set (grown_set (grown_set h _ _) _ _) _ _) _ _

theorem vint {a b : Int} (h : a = b) : Value.int .i64 a = Value.int .i64 b := by rw [h]
theorem take_more {l : List (Int × Int)} {k : Nat} {x : Int × Int} (h : l.drop k = x :: l.drop (k + 1)) : l.take (k + 1) = l.take k ++ [x] := by
  have hk : k < l.length := by
    rcases Nat.lt_or_ge k l.length with h' | h'
    · exact h'
    · rw [List.drop_of_length_le h'] at h; cases h
  rw [List.take_succ_eq_append_getElem hk]
  rw [List.drop_eq_getElem_cons hk] at h
  injection h with h1 _
  rw [h1]

/-- Nothing is answered; the block holds these now, and no other block is changed. -/
def Does (w : World) (g : Nat) (d : List (Int × Int)) (e : Ending) (w' : World) : Prop := e = .returned (.tuple #[]) ∧ Held w' g d ∧ w.grownBy w' (some g)

set_option maxHeartbeats 400000 in
theorem swapRange_any (g n cap a b m : Nat) (A U M V B : List (Int × Int)) (f : Value) (w : World) (hn : n ≤ 4194304) (hl : (A ++ (U ++ (M ++ (V ++ B)))).length = n)
    (hA : A.length = a) (hb : a + U.length + M.length = b) (hU : U.length = m) (hV : V.length = m) (H : Held w g (A ++ (U ++ (M ++ (V ++ B))))) :
    Calls Tryz.prog 260 #[.slice (some ⟨g, 0, none⟩) n cap, .int .i64 a, .int .i64 b, .int .i64 m, f] w (Does w g (A ++ (V ++ (M ++ (U ++ B))))) := by
  simp only [List.length_append] at hl
  have HH := Lib.hid H
  clear H
  go_enter Tryz.func260, Tryz.ntmps260
  go_wp2_with fail
  go_loopw [10] (fun i wr => ∃ k : Nat, k ≤ m ∧ i = .int .i64 k ∧ Held wr g (A ++ (V.take k ++ (U.drop k ++ (M ++ (U.take k ++ (V.drop k ++ B)))))) ∧ w.grownBy wr (some g)) (fun i _ => m - (intOf i).toNat)
  case atStart => exact ⟨0, Nat.zero_le _, rfl, by simpa using HH.out, grown_refl _ _⟩
  case round =>
    obtain ⟨k, hk, rfl, hh, hg⟩ := hrel
    by_cases hlt : k < m
    · obtain ⟨x, hx⟩ : ∃ x, U.drop k = x :: U.drop (k + 1) := ⟨U[k]'(by omega), List.drop_eq_getElem_cons (by omega)⟩
      obtain ⟨y, hy⟩ : ∃ y, V.drop k = y :: V.drop (k + 1) := ⟨V[k]'(by omega), List.drop_eq_getElem_cons (by omega)⟩
      generalize hd : (A ++ (V.take k ++ (U.drop k ++ (M ++ (U.take k ++ (V.drop k ++ B)))))) = d at hh
      have hdl : d.length = n := by subst hd; simp [List.length_append, List.length_take, List.length_drop]; omega
      have hpx : pth d (a + k) = x := pth_at (P := A ++ V.take k) (Q := U.drop (k + 1) ++ (M ++ (U.take k ++ (V.drop k ++ B)))) (by rw [← hd, hx]; simp) (by simp [List.length_take]; omega)
      have hpy : pth d (b + k) = y := pth_at (P := A ++ (V.take k ++ (U.drop k ++ (M ++ U.take k)))) (Q := V.drop (k + 1) ++ B) (by rw [← hd, hy]; simp) (by simp [List.length_take, List.length_drop]; omega)
      have c0 := hh.at0 (a + k) (by omega)
      have c1 := hh.at1 (a + k) (by omega)
      have c2 := hh.at0 (b + k) (by omega)
      have c3 := hh.at1 (b + k) (by omega)
      rw [hpx] at c0 c1
      rw [hpy] at c2 c3
      have fr := hh.fr
      have HS := Lib.hid (hh.swap (a + k) (b + k) hpx hpy)
      have hlt' : (k : Int) < (m : Int) := by omega
      have ha1 : (a : Int) + (k : Int) < n := by omega
      have ha2 : (b : Int) + (k : Int) < n := by omega
      obtain ⟨x, x'⟩ := x
      obtain ⟨y, y'⟩ := y
      go_wp2
      go_region
      go_wp2
      go_roundw
      case rel =>
        refine ⟨k + 1, by omega, by go_num, ?_, grown_drew (grown_swap hg _ _ _ _ _ _ _ _)⟩
        have hs : swp d (a + k) (b + k) = (A ++ (V.take (k + 1) ++ (U.drop (k + 1) ++ (M ++ (U.take (k + 1) ++ (V.drop (k + 1) ++ B)))))) := by
          refine swp_at (x := (x, x')) (y := (y, y')) (P := A ++ V.take k) (Q := U.drop (k + 1) ++ (M ++ U.take k)) (R := V.drop (k + 1) ++ B) (by rw [← hd, hx, hy]; simp) (by simp [List.length_take]; omega) (by simp [List.length_take, List.length_drop]; omega) ?_
          rw [take_more hx, take_more hy]
          simp
        rw [← hs]
        exact HS.out.drew
      case measure => simp [intOf]; omega
    · have hkm : k = m := by omega
      subst hkm
      go_wp2
      go_end0
      refine ⟨rfl, ?_, hg⟩
      rw [List.take_of_length_le (by omega), List.take_of_length_le (by omega), List.drop_of_length_le (by omega), List.drop_of_length_le (by omega)] at hh
      simpa using hh
/-- The same, the numbers as they come. -/
theorem swapRange_is (g n cap : Nat) (ai bi mi : Int) (A U M V B : List (Int × Int)) (f : Value) (w : World) (hn : n ≤ 4194304) (hl : A.length + U.length + M.length + V.length + B.length = n)
    (hA : ai = (A.length : Int)) (hb : bi = ((A.length + U.length + M.length : Nat) : Int)) (hm : mi = (U.length : Int)) (hV : V.length = U.length) (H : Held w g (A ++ (U ++ (M ++ (V ++ B))))) :
    Calls Tryz.prog 260 #[.slice (some ⟨g, 0, none⟩) n cap, .int .i64 ai, .int .i64 bi, .int .i64 mi, f] w (Does w g (A ++ (V ++ (M ++ (U ++ B))))) := by
  subst hA hb hm
  exact swapRange_any g n cap _ _ _ A U M V B f w hn (by simp only [List.length_append]; omega) rfl rfl rfl hV H

set_option maxRecDepth 100000 in
set_option maxHeartbeats 800000 in
theorem rotate_is (g n cap : Nat) (ai mi bi : Int) (A U V B : List (Int × Int)) (f : Value) (w : World) (hn : n ≤ 4194304) (hl : A.length + U.length + V.length + B.length = n)
    (hA : ai = (A.length : Int)) (hm : mi = ((A.length + U.length : Nat) : Int)) (hb : bi = ((A.length + U.length + V.length : Nat) : Int)) (hU : 0 < U.length) (hV : 0 < V.length) (H : Held w g (A ++ (U ++ (V ++ B)))) :
    Calls Tryz.prog 259 #[.slice (some ⟨g, 0, none⟩) n cap, .int .i64 ai, .int .i64 mi, .int .i64 bi, f] w (Does w g (A ++ (V ++ (U ++ B)))) := by
  have HH := Lib.hid H
  clear H
  generalize hb' : A.length + U.length + V.length = b at hb
  generalize hm' : A.length + U.length = m at hm hb'
  generalize ha' : A.length = a at hA hm' hl
  subst hA hm hb
  go_enter Tryz.func259, Tryz.ntmps259
  go_wp2_with fail
  go_loopw [10, 11] (fun i j wr => ∃ A' U' V' B' : List (Int × Int), 0 < U'.length ∧ 0 < V'.length ∧ A'.length + U'.length = m ∧ A'.length + U'.length + V'.length + B'.length = n ∧ i = .int .i64 U'.length ∧ j = .int .i64 V'.length ∧
      A' ++ (V' ++ (U' ++ B')) = A ++ (V ++ (U ++ B)) ∧ Held wr g (A' ++ (U' ++ (V' ++ B'))) ∧ w.grownBy wr (some g)) (fun i j _ => (intOf i).toNat + (intOf j).toNat)
  case atStart => exact ⟨A, U, V, B, hU, hV, by omega, by omega, vint (by omega), vint (by omega), rfl, HH.out, grown_refl _ _⟩
  case round =>
    obtain ⟨A', U', V', B', hu, hv, hAU, hlen, rfl, rfl, hgoal, hh, hg⟩ := hrel
    generalize hi : U'.length = i at hu hAU hlen
    generalize hj : V'.length = j at hv hlen
    rcases Nat.lt_trichotomy i j with hlt | heq | hgt
    · have hne : ((i : Int) == (j : Int)) = false := by simp; omega
      have hng : ¬ ((j : Int) < (i : Int)) := by omega
      go_wp2_with fail
      refine (swapRange_is g n cap _ _ _ A' U' (V'.take (j - i)) (V'.drop (j - i)) B' _ _ hn (by simp [List.length_take, List.length_drop]; omega) (by omega) (by simp [List.length_take]; omega) (by omega) (by simp [List.length_drop]; omega) (by rw [← List.append_assoc (V'.take _), List.take_append_drop]; exact hh)).mono ?_
      rintro e w1 ⟨rfl, hh1, hg1⟩
      go_wp2
      go_roundw
      case rel =>
        refine ⟨A', V'.drop (j - i), V'.take (j - i), U' ++ B', by simp [List.length_drop]; omega, by simp [List.length_take]; omega, by simp [List.length_drop]; omega, by simp [List.length_take, List.length_drop]; omega, vint (by simp [List.length_drop]; omega), vint (by simp [List.length_take]; omega), ?_, hh1, grown_trans hg hg1⟩
        rw [← hgoal, ← List.append_assoc (V'.take _), List.take_append_drop]
      case measure => simp [intOf]; omega
    · subst heq
      go_wp2_with fail
      refine (swapRange_is g n cap _ _ _ A' U' [] V' B' _ _ hn (by simp; omega) (by omega) (by simp; omega) (by omega) (by omega) (by simpa using hh)).mono ?_
      rintro e w1 ⟨rfl, hh1, hg1⟩
      go_wp2
      go_end0
      refine ⟨rfl, ?_, grown_trans hg hg1⟩
      rw [← hgoal]
      simpa using hh1
    · have hne : ((i : Int) == (j : Int)) = false := by simp; omega
      have hng : ((j : Int) < (i : Int)) := by omega
      go_wp2_with fail
      refine (swapRange_is g n cap _ _ _ A' (U'.take j) (U'.drop j) V' B' _ _ hn (by simp [List.length_take, List.length_drop]; omega) (by omega) (by simp [List.length_take, List.length_drop]; omega) (by simp [List.length_take]; omega) (by simp [List.length_take]; omega) (by rw [← List.append_assoc (U'.take _), List.take_append_drop]; exact hh)).mono ?_
      rintro e w1 ⟨rfl, hh1, hg1⟩
      go_wp2
      go_roundw
      case rel =>
        refine ⟨A' ++ V', U'.drop j, U'.take j, B', by simp [List.length_drop]; omega, by simp [List.length_take]; omega, by simp [List.length_drop]; omega, by simp [List.length_take, List.length_drop]; omega, vint (by simp [List.length_drop]; omega), vint (by simp [List.length_take]; omega), ?_, by simpa using hh1, grown_trans hg hg1⟩
        rw [← hgoal, ← List.append_assoc (U'.take _), List.take_append_drop]
        simp
      case measure => simp [intOf]; omega

end Go.Proofs.YtjdepjpjjgkmbaaGreat

/- The laws' own copies of seals and of lists of them, their size, the test that two are alike, their marks: contracts of each of them. -/
namespace Go.Proofs.YtjdepjpjjgkmbaaGreat
open Go.RowKit

theorem toSealP_any (c k : Int) (w : World) :
    Calls Tryz.prog 89 #[.agg #[.int .i64 c, .int .i64 k]] w fun e w' => e = .returned (.agg #[.int .i64 c, .int .i64 k]) ∧ Below w.heap.size w w' := by
  go_enter Tryz.func89, Tryz.ntmps89
  go_wp2
  exact bodyPost_ret (v := .agg #[.int .i64 c, .int .i64 k]) (by simp [results, Tryz.results89, go_sem]) rfl ⟨rfl, by
    first
    | exact bel_trans (bel_trans (bel_alloc _ _) (bel_alloc _ _)) (bel_alloc _ _)
    | exact (((((bel_trans (bel_trans (bel_alloc _ _) (bel_alloc _ _)) (bel_alloc _ _)).setCell (by simp) _).setCell (by simp) _).setCell (by simp) _).setCell (by simp) _)⟩

theorem eqSealP_same (c k : Int) (w : World) :
    Calls Tryz.prog 90 #[.agg #[.int .i64 c, .int .i64 k], .agg #[.int .i64 c, .int .i64 k]] w fun e w' => e = .returned (.bool true) ∧ Below w.heap.size w w' := by
  go_enter Tryz.func90, Tryz.ntmps90
  go_wp2
  go_ret
  exact ⟨rfl, bel_trans (bel_alloc _ _) (bel_alloc _ _)⟩

theorem szSeals_le (A : Option Addr) (n cap : Nat) (L : Int) (w : World) (h1 : L ≤ 1048576) (hm : (n : Int) ≤ L) :
    Calls Tryz.prog 30 #[.slice A n cap, .int .i64 L] w fun e w' => e = .returned (.int .i64 (L - n)) ∧ w = w' := by
  have h : ¬ (L : Int) - n < 0 := by omega
  go_enter Tryz.func30, Tryz.ntmps30
  go_wp2
  go_ret
  exact ⟨rfl, rfl⟩
theorem szSeals_gt (A : Option Addr) (n cap : Nat) (L : Int) (w : World) (h0 : 0 ≤ L) (h1 : L ≤ 1048576) (hm : L < n) (hx : n ≤ maxLen) :
    Calls Tryz.prog 30 #[.slice A n cap, .int .i64 L] w fun e w' => e = .returned (.int .i64 (-1)) ∧ w = w' := by
  unfold maxLen at hx
  have h : (L : Int) - n < 0 := by omega
  go_enter Tryz.func30, Tryz.ntmps30
  go_wp2
  go_ret
  exact ⟨rfl, rfl⟩

theorem Tryz.infoSeal : (Tryz.prog.info? 136).map (fun i => (i.zero, i.size, i.bytes)) = some (some (.agg #[.int .i64 0, .int .i64 0]), 2, 16) := by kernel_rfl

/-- What a copy of n pairs leaves: a new block that holds them. -/
def MadeHeld (w : World) (n : Nat) (ps : List (Int × Int)) (e : Ending) (w' : World) : Prop :=
  ∃ g, w.heap.size ≤ g ∧ e = .returned (.slice (some ⟨g, 0, none⟩) n n) ∧ ps.length = n ∧ Held w' g ps ∧ Below w.heap.size w w'
theorem upto_held {w : World} {b n : Nat} {t : TypeId} {ps : List (Int × Int)} (h : w.rowIs b t (n * 2) (uptoP ps n)) (hl : ps.length = n) : Held w b ps := by
  have hp := uptoP_all h hl
  refine ⟨h.lt, fun o => h.frozen o, fun i hi => ?_, fun i hi => ?_⟩
  · obtain ⟨b', o, hA, _, hc⟩ := hp.2 (by omega)
    cases hA
    have := (hc i (by omega)).1
    rwa [Nat.zero_add] at this
  · obtain ⟨b', o, hA, _, hc⟩ := hp.2 (by omega)
    cases hA
    have := (hc i (by omega)).2
    rwa [Nat.zero_add] at this

set_option maxHeartbeats 400000 in
theorem toSeals_any (A : Option Addr) (n cap : Nat) (ps : List (Int × Int)) (w : World) (hm : n ≤ 1048576) (hr : Pairs w w.heap.size A n ps) :
    Calls Tryz.prog 32 #[.slice A n cap] w (MadeHeld w n ps) := by
  have hmk := fun W => run_make_pairs (P := Tryz.prog) 40 136 Tryz.underlying40 Tryz.infoSeal n hm W
  have HR := Lib.hid hr
  clear hr
  go_enter Tryz.func32, Tryz.ntmps32
  go_wp2_with fail
  go_loopw [4] (fun i wr => ∃ k : Nat, k ≤ n ∧ i = .int .i64 k ∧ wr.rowIs w.heap.size 136 (n * 2) (uptoP ps k) ∧ Below w.heap.size w wr) (fun i _ => n - (intOf i).toNat)
  case atStart => exact ⟨0, Nat.zero_le _, rfl, (made_pairs w n 136).congr (fun i _ => (uptoP_zero ps i).symm), bel_alloc _ _⟩
  case round =>
    obtain ⟨k, hk, rfl, hrow, hb⟩ := hrel
    clear hmk
    by_cases hlt : k < n
    · obtain ⟨b, o, hA, hbB, hcell⟩ := HR.out.2 (by omega)
      subst hA
      obtain ⟨g0, g1⟩ := hcell k hlt
      have g0 := (hb.cell (p := ⟨b, o + k * 2, none⟩) hbB).trans g0
      have g1 := (hb.cell (p := ⟨b, o + k * 2 + 1, none⟩) hbB).trans g1
      generalize hx : pth ps k = x at g0 g1
      obtain ⟨x, y⟩ := x
      have HX := Lib.hid hx
      clear hx hcell
      go_wp2_with fail
      refine (toSealP_any x y _).mono ?_
      rintro e w1 ⟨rfl, hb1⟩
      have hrow1 := hrow.of_block (hb1.block _ hrow.lt)
      have E1 := bel_trans hb hb1
      clear hrow hb g0 g1
      have c0 := hrow1.cell (i := k * 2) (by omega)
      have c1 := hrow1.cell (i := k * 2 + 1) (by omega)
      have fr := hrow1.frozen
      have HS := Lib.hid (uptoP_succ hrow1 HX.out)
      have HB := Lib.hid ((E1.setCell (p := ⟨w.heap.size, k * 2, none⟩) (Nat.le_refl _) (.int .i64 x)).setCell (p := ⟨w.heap.size, k * 2 + 1, none⟩) (Nat.le_refl _) (.int .i64 y))
      have hlt' : (k : Int) < (n : Int) := by omega
      go_wp2
      go_roundw
      case rel => exact ⟨k + 1, by omega, by go_num, HS.out, HB.out⟩
      case measure => simp [intOf]; omega
    · have hkn : k = n := by omega
      subst hkn
      have hz := HR.out.1
      go_wp2
      go_ret
      exact ⟨_, Nat.le_refl _, rfl, hz, upto_held hrow hz, hb⟩

set_option maxHeartbeats 400000 in
theorem eqSeals_same (A A' : Option Addr) (n cap cap' : Nat) (ps : List (Int × Int)) (w : World) (hm : n ≤ 1048576) (hr : Pairs w w.heap.size A n ps) (hr' : Pairs w w.heap.size A' n ps) :
    Calls Tryz.prog 33 #[.slice A n cap, .slice A' n cap'] w fun e w' => e = .returned (.bool true) ∧ Below w.heap.size w w' := by
  have HR := Lib.hid hr
  have HR' := Lib.hid hr'
  clear hr hr'
  go_enter Tryz.func33, Tryz.ntmps33
  go_wp2_with fail
  go_loopw [5] (fun i wr => ∃ k : Nat, k ≤ n ∧ i = .int .i64 k ∧ Below w.heap.size w wr) (fun i _ => n - (intOf i).toNat)
  case atStart => exact ⟨0, Nat.zero_le _, rfl, Below.refl _ _⟩
  case round =>
    obtain ⟨k, hk, rfl, hb⟩ := hrel
    by_cases hlt : k < n
    · obtain ⟨b, o, hA, hbB, hcell⟩ := HR.out.2 (by omega)
      obtain ⟨b', o', hA', hbB', hcell'⟩ := HR'.out.2 (by omega)
      subst hA hA'
      obtain ⟨g0, g1⟩ := hcell k hlt
      obtain ⟨h0, h1⟩ := hcell' k hlt
      have hz := hb.size
      have g0 := After.cell (w := wr) (a := ⟨b, o + k * 2, none⟩) (by simp; omega) ((hb.cell (p := ⟨b, o + k * 2, none⟩) hbB).trans g0)
      have g1 := After.cell (w := wr) (a := ⟨b, o + k * 2 + 1, none⟩) (by simp; omega) ((hb.cell (p := ⟨b, o + k * 2 + 1, none⟩) hbB).trans g1)
      have h0 := After.cell (w := wr) (a := ⟨b', o' + k * 2, none⟩) (by simp; omega) ((hb.cell (p := ⟨b', o' + k * 2, none⟩) hbB').trans h0)
      have h1 := After.cell (w := wr) (a := ⟨b', o' + k * 2 + 1, none⟩) (by simp; omega) ((hb.cell (p := ⟨b', o' + k * 2 + 1, none⟩) hbB').trans h1)
      generalize pth ps k = x at g0 g1 h0 h1
      obtain ⟨x, y⟩ := x
      have hlt' : (k : Int) < (n : Int) := by omega
      clear hcell hcell'
      go_wp2_with fail
      refine wp_region_after (by kernel_rfl) (by kernel_rfl) ?_
      repeat (first | go_big_quiet_step ((go_at_call 90; exact after_of (eqSealP_same x y _))) | quiet_step ((go_at_call 90; exact after_of (eqSealP_same x y _))))
      refine wpQuiet_nil ?_
      intro pw
      have E3 := bel_trans hb pw.bel
      go_wp2
      go_roundw
      case rel => exact ⟨k + 1, by omega, by go_num, E3⟩
      case measure => simp [intOf]; omega
    · go_wp2
      go_ret
      exact ⟨rfl, hb⟩

theorem Held.pairs {w : World} {g : Nat} {ps : List (Int × Int)} (h : Held w g ps) : Pairs w w.heap.size (some ⟨g, 0, none⟩) ps.length ps :=
  ⟨rfl, fun _ => ⟨g, 0, rfl, h.lt, fun i hi => ⟨by rw [Nat.zero_add]; exact h.at0 i hi, by rw [Nat.zero_add]; exact h.at1 i hi⟩⟩⟩

/-- Marked from k on. -/
def Marked (k : Int) (d : List (Int × Int)) : Prop := ∀ j, j < d.length → pth d j = (k + 2 * j, k + 2 * j + 1)

set_option maxHeartbeats 1000000 in
theorem mark_is (g n cap : Nat) (k : Int) (d : List (Int × Int)) (w : World) (hn : n ≤ 4194304) (hk0 : 0 ≤ k) (hk1 : k ≤ 100000000) (hl : d.length = n) (H : Held w g d) :
    Calls Tryz.prog 36 #[.slice (some ⟨g, 0, none⟩) n cap, .int .i64 k] w fun e w' => e = .returned (.int .i64 (k + 2 * n)) ∧ ∃ d', d'.length = n ∧ Marked k d' ∧ Held w' g d' ∧ w.grownBy w' (some g) := by
  have HH := Lib.hid H
  replace hl := Lib.hid hl
  clear H
  go_enter Tryz.func36, Tryz.ntmps36
  go_wp2_with fail
  go_loopw [1, 5] (fun kv iv wr => ∃ (i : Nat) (k' : Int) (d' : List (Int × Int)), i ≤ n ∧ k + 2 * i = k' ∧ iv = .int .i64 i ∧ kv = .int .i64 k' ∧ d'.length = n ∧ (∀ j, j < i → pth d' j = (k + 2 * j, k + 2 * j + 1)) ∧ Held wr g d' ∧ w.grownBy wr (some g)) (fun _ i _ => n - (intOf i).toNat)
  case atStart => exact ⟨0, k, d, Nat.zero_le _, by omega, rfl, rfl, hl.out, by omega, HH.out, grown_refl _ _⟩
  case round =>
    obtain ⟨i, k', d', hi, hk', rfl, rfl, hl', hm, hh, hg⟩ := hrel
    have hb : k' ≤ 200000000 := by omega
    have hb0 : 0 ≤ k' := by omega
    by_cases hlt : i < n
    · have hlt' : (i : Int) < (n : Int) := by omega
      have c0 := hh.at0 i (by omega)
      have c1 := hh.at1 i (by omega)
      have fr := hh.fr
      have HP := Lib.hid (hh.put i (k', k' + 1))
      have HG := Lib.hid (grown_set (grown_set hg (i * 2) (.int .i64 k')) (i * 2 + 1) (.int .i64 (k' + 1)))
      replace hl' := Lib.hid hl'
      replace hm := Lib.hid hm
      replace hk' := Lib.hid hk'
      clear hg hh
      go_wp2
      go_roundw
      case rel =>
        have e := hk'.out
        refine ⟨i + 1, k' + 1 + 1, d'.set i (k', k' + 1), by omega, by omega, by go_num, rfl, by simpa using hl'.out, fun j hj => ?_, HP.out, HG.out⟩
        by_cases e' : j = i
        · subst e'
          have : j < d'.length := by rw [hl'.out]; exact hlt
          simp [pth, this]
          omega
        · have := hm.out j (by omega)
          rw [← this]
          simp [pth, show ¬ i = j by omega]
      case measure => simp [intOf]; omega
    · obtain rfl : i = n := by omega
      replace hl' := Lib.hid hl'
      replace hm := Lib.hid hm
      replace hk' := Lib.hid hk'
      go_wp2
      go_ret
      exact ⟨by rw [hk'.out]; rfl, d', hl'.out, fun j hj => hm.out j (by rw [← hl'.out]; exact hj), hh, hg⟩
set_option maxHeartbeats 1000000 in
theorem held_is (g n cap : Nat) (k : Int) (d : List (Int × Int)) (w : World) (hn : n ≤ 4194304) (hk0 : 0 ≤ k) (hk1 : k ≤ 100000000) (hl : d.length = n) (hM : Marked k d) (H : Held w g d) :
    Calls Tryz.prog 107 #[.slice (some ⟨g, 0, none⟩) n cap, .int .i64 k] w fun e w' => e = .returned (.int .i64 (k + 2 * n)) ∧ w = w' := by
  have HH := Lib.hid H
  have HMK := Lib.hid hM
  replace hl := Lib.hid hl
  clear H hM
  go_enter Tryz.func107, Tryz.ntmps107
  go_wp2_with fail
  go_loopw [1, 5] (fun kv iv wr => ∃ (i : Nat) (k' : Int), i ≤ n ∧ k + 2 * i = k' ∧ iv = .int .i64 i ∧ kv = .int .i64 k' ∧ w = wr) (fun _ i _ => n - (intOf i).toNat)
  case atStart => exact ⟨0, k, Nat.zero_le _, by omega, rfl, rfl, rfl⟩
  case round =>
    obtain ⟨i, k', hi, hk', rfl, rfl, rfl⟩ := hrel
    have hb : k' ≤ 200000000 := by omega
    have hb0 : 0 ≤ k' := by omega
    by_cases hlt : i < n
    · have hlt' : (i : Int) < (n : Int) := by omega
      have c0 := HH.out.at0 i (by rw [hl.out]; exact hlt)
      have c1 := HH.out.at1 i (by rw [hl.out]; exact hlt)
      rw [HMK.out i (by rw [hl.out]; exact hlt)] at c0 c1
      simp only [hk'] at c0 c1
      replace hk' := Lib.hid hk'
      go_wp2
      go_roundw
      case rel => exact ⟨i + 1, k' + 1 + 1, by omega, by have := hk'.out; omega, by go_num, rfl, trivial⟩
      case measure => simp [intOf]; omega
    · obtain rfl : i = n := by omega
      replace hk' := Lib.hid hk'
      go_wp2
      go_ret
      exact ⟨by rw [hk'.out]; rfl, rfl⟩
theorem mark_nil (k : Int) (w : World) : Calls Tryz.prog 36 #[.slice none 0 0, .int .i64 k] w fun e w' => e = .returned (.int .i64 k) ∧ w = w' := by
  go_enter Tryz.func36, Tryz.ntmps36
  go_wp2_with fail
  go_loopw [1, 5] (fun kv iv wr => iv = .int .i64 0 ∧ kv = .int .i64 k ∧ w = wr) (fun _ _ _ => 0)
  case atStart => exact ⟨rfl, rfl, rfl⟩
  case round =>
    obtain ⟨rfl, rfl, rfl⟩ := hrel
    go_wp2
    go_ret
    exact ⟨rfl, rfl⟩
theorem held_nil (k : Int) (w : World) : Calls Tryz.prog 107 #[.slice none 0 0, .int .i64 k] w fun e w' => e = .returned (.int .i64 k) ∧ w = w' := by
  go_enter Tryz.func107, Tryz.ntmps107
  go_wp2_with fail
  go_loopw [1, 5] (fun kv iv wr => iv = .int .i64 0 ∧ kv = .int .i64 k ∧ w = wr) (fun _ _ _ => 0)
  case atStart => exact ⟨rfl, rfl, rfl⟩
  case round =>
    obtain ⟨rfl, rfl, rfl⟩ := hrel
    go_wp2
    go_ret
    exact ⟨rfl, rfl⟩

end Go.Proofs.YtjdepjpjjgkmbaaGreat
