/- What the functions of impl/l02_stamp.go answer at every stamp: contracts of each of them. -/
import Derived.Test.YtpjmghkhbhhmcaaWithin
import Derived.Test.YtpjmghkhbhhmcaaStampBase
namespace Go.Proofs.Ytpjmghkhbhhmcaa
open Go.RowKit

theorem twoAfter {w : World} {g : Nat} {t : TypeId} {v0 v1 : Value} (h : Box w g t #[v0, v1]) : (∀ p : After w, p.x.cell? ⟨g, 0, none⟩ = some v0) ∧ (∀ p : After w, p.x.cell? ⟨g, 1, none⟩ = some v1) :=
  ⟨After.cell h.lt (h.cell 0), After.cell h.lt (h.cell 1)⟩
theorem pairsAfter {w : World} {A : Option Addr} {n : Nat} {ps : List (Int × Int)} (h : Pairs w w.heap.size A n ps) (p : After w) : Pairs p.x p.x.heap.size A n ps := h.later p.bel

theorem stampOk_any (c k : Int) (w : World) :
    Calls Try.prog 13 #[.agg #[.int .i64 c, .int .i64 k]] w fun e w' => e = .returned (.bool (stB c k)) ∧ Below w.heap.size w w' := by
  by_cases hc : c = 0
  · subst hc
    by_cases hk : k = 0
    · subst hk
      go_enter Try.func13, Try.ntmps13
      go_wp2
      go_ret
      exact ⟨rfl, bel_alloc _ _⟩
    · have e : Hid (stB 0 k = false) := by show stB 0 k = false; simp [stB, hk]
      have hk' : (k == 0) = false := by simpa using hk
      go_enter Try.func13, Try.ntmps13
      go_wp2
      go_ret
      exact ⟨by rw [e.out]; first | rfl | simp [hk], bel_alloc _ _⟩
  · have hc' : (c == 0) = false := by simpa using hc
    have e := Lib.hid (stB_not hc k)
    rcases h1 : inB c 1 100000 with _ | _
    · go_enter Try.func13, Try.ntmps13
      go_wp2_with (go_at_call 31; refine (within_any _ _ _ _).mono ?_; rintro e w' ⟨rfl, rfl⟩)
      go_ret
      exact ⟨by rw [e.out, h1]; rfl, bel_alloc _ _⟩
    · go_enter Try.func13, Try.ntmps13
      go_wp2_with (go_at_call 31; refine (within_any _ _ _ _).mono ?_; rintro e w' ⟨rfl, rfl⟩)
      go_ret
      exact ⟨by rw [e.out, h1]; rfl, bel_alloc _ _⟩

theorem isNaN_any (x : Int) (w : World) :
    Calls Try.prog 39 #[.int .i64 x] w fun e w' => e = .returned (.bool false) ∧ w = w' := by
  have h : (x != x) = false := by simp
  go_enter Try.func39, Try.ntmps39
  go_wp2
  go_ret
  exact ⟨by first | rfl | simp, rfl⟩

theorem compare_any (a b : Int) (w : World) :
    Calls Try.prog 30 #[.int .i64 a, .int .i64 b] w fun e w' => e = .returned (.int .i64 (sgn a b)) ∧ w = w' := by
  rcases Int.lt_trichotomy a b with h | h | h
  · have e := Lib.hid (sgn_lt h)
    go_enter Try.func30, Try.ntmps30
    go_wp2_with (go_at_call 39; refine (isNaN_any _ _).mono ?_; rintro e w' ⟨rfl, rfl⟩)
    go_ret
    exact ⟨by rw [e.out]; rfl, rfl⟩
  · subst h
    have e := Lib.hid (sgn_eq a)
    go_enter Try.func30, Try.ntmps30
    go_wp2_with (go_at_call 39; refine (isNaN_any _ _).mono ?_; rintro e w' ⟨rfl, rfl⟩)
    go_ret
    exact ⟨by rw [e.out]; rfl, rfl⟩
  · have e := Lib.hid (sgn_gt h)
    have h' : ¬ a < b := by omega
    go_enter Try.func30, Try.ntmps30
    go_wp2_with (go_at_call 39; refine (isNaN_any _ _).mono ?_; rintro e w' ⟨rfl, rfl⟩)
    go_ret
    exact ⟨by rw [e.out]; rfl, rfl⟩

theorem or_any (b : Nat) (x y : Int) (w : World) (h0 : w.cell? ⟨b, 0, none⟩ = some (.int .i64 x)) (h1 : w.cell? ⟨b, 1, none⟩ = some (.int .i64 y)) :
    Calls Try.prog 29 #[.slice (some ⟨b, 0, none⟩) 2 2] w fun e w' => e = .returned (.int .i64 (orN x y)) ∧ w = w' := by
  go_enter Try.func29, Try.ntmps29
  go_wp2
  go_loop [8] (fun i => ∃ k : Nat, k ≤ 2 ∧ i = .int .i64 k ∧ (0 < k → x = 0) ∧ (1 < k → y = 0)) (fun i => 2 - (intOf i).toNat)
  case atStart => exact ⟨0, by omega, rfl, fun h => absurd h (by omega), fun h => absurd h (by omega)⟩
  case round =>
    obtain ⟨k, hk, rfl, hx, hy⟩ := hrel
    have hcase : k = 0 ∨ k = 1 ∨ k = 2 := by omega
    rcases hcase with rfl | rfl | rfl
    · clear hx hy
      by_cases hx : x = 0
      · subst hx
        go_wp2
        go_round
        case rel => exact ⟨1, by omega, by go_num, fun _ => trivial, fun h => absurd h (by omega)⟩
        case measure => simp [intOf]
      · have hx' : (x != 0) = true := by simpa using hx
        have e : Hid (orN x y = x) := by show orN x y = x; simp [orN, hx]
        go_wp2
        go_ret
        exact ⟨by rw [e.out]; rfl, rfl⟩
    · obtain rfl := hx (by omega)
      clear hx hy
      by_cases hy : y = 0
      · subst hy
        go_wp2
        go_round
        case rel => exact ⟨2, by omega, by go_num, fun _ => trivial, fun _ => trivial⟩
        case measure => simp [intOf]
      · have hy' : (y != 0) = true := by simpa using hy
        go_wp2
        go_ret
        exact ⟨rfl, rfl⟩
    · obtain rfl := hx (by omega)
      obtain rfl := hy (by omega)
      go_wp2
      go_ret
      exact ⟨rfl, rfl⟩

set_option maxHeartbeats 400000 in
theorem cmpStamp_any (a b c d : Int) (w : World) :
    Calls Try.prog 11 #[.agg #[.int .i64 a, .int .i64 b], .agg #[.int .i64 c, .int .i64 d]] w fun e w' => e = .returned (.int .i64 (cmpN a b c d)) ∧ Below w.heap.size w w' := by
  rcases h1 : stB a b with _ | _
  · have e := Lib.hid (cmpN_no1 h1 c d)
    go_enter Try.func11, Try.ntmps11
    have hb0 := bel_trans (bel_alloc w (.cells #[.int .i64 a, .int .i64 b] 25)) (bel_alloc _ (.cells #[.int .i64 c, .int .i64 d] 25))
    go_wp2_with fail
    generalize ((w.alloc _).alloc _ : World) = w0 at hb0 ⊢
    refine (stampOk_any a b w0).mono ?_
    rintro e w1 ⟨rfl, hb1⟩
    go_wp2
    go_ret
    exact ⟨by rw [e.out]; rfl, bel_trans hb0 hb1⟩
  · rcases h2 : stB c d with _ | _
    · have e := Lib.hid (cmpN_no2 h2 a b)
      go_enter Try.func11, Try.ntmps11
      have hb0 := bel_trans (bel_alloc w (.cells #[.int .i64 a, .int .i64 b] 25)) (bel_alloc _ (.cells #[.int .i64 c, .int .i64 d] 25))
      have D := (Box.new w 25 #[.int .i64 a, .int .i64 b]).alloc (.cells #[.int .i64 c, .int .i64 d] 25)
      have X := Box.new (w.alloc (.cells #[.int .i64 a, .int .i64 b] 25)) 25 #[.int .i64 c, .int .i64 d]
      simp only [World.size_alloc] at X
      go_wp2_with fail
      generalize ((w.alloc _).alloc _ : World) = w0 at hb0 D X ⊢
      refine (stampOk_any a b w0).mono ?_
      rintro e w1 ⟨rfl, hb1⟩
      obtain ⟨x0, x1⟩ := (X.later hb1 X.lt).two
      go_wp2_with fail
      refine (stampOk_any c d w1).mono ?_
      rintro e w2 ⟨rfl, hb2⟩
      go_wp2
      go_ret
      exact ⟨by rw [e.out]; rfl, bel_trans (bel_trans hb0 hb1) hb2⟩
    · have e := Lib.hid (cmpN_yes h1 h2)
      go_enter Try.func11, Try.ntmps11
      have hb0 := bel_trans (bel_alloc w (.cells #[.int .i64 a, .int .i64 b] 25)) (bel_alloc _ (.cells #[.int .i64 c, .int .i64 d] 25))
      have D := (Box.new w 25 #[.int .i64 a, .int .i64 b]).alloc (.cells #[.int .i64 c, .int .i64 d] 25)
      have X := Box.new (w.alloc (.cells #[.int .i64 a, .int .i64 b] 25)) 25 #[.int .i64 c, .int .i64 d]
      simp only [World.size_alloc] at X
      go_wp2_with fail
      generalize ((w.alloc _).alloc _ : World) = w0 at hb0 D X ⊢
      refine (stampOk_any a b w0).mono ?_
      rintro e w1 ⟨rfl, hb1⟩
      have D1 := D.later hb1 D.lt
      have X1 := X.later hb1 X.lt
      have E1 := bel_trans hb0 hb1
      clear D X hb0 hb1
      obtain ⟨x0, x1⟩ := X1.two
      go_wp2_with fail
      refine (stampOk_any c d w1).mono ?_
      rintro e w2 ⟨rfl, hb2⟩
      have D2 := D1.later hb2 D1.lt
      have X2 := X1.later hb2 X1.lt
      have E2 := bel_trans E1 hb2
      clear D1 X1 E1 hb2 x0 x1
      obtain ⟨a0, a1⟩ := D2.two
      obtain ⟨x0, x1⟩ := X2.two
      go_wp2_with fail
      go_region_held3 (fun w' => w'.cell? ⟨w.heap.size, 0, none⟩ = some (.int .i64 a) ∧ w'.cell? ⟨w.heap.size, 1, none⟩ = some (.int .i64 b) ∧ w'.cell? ⟨w.heap.size + 1, 0, none⟩ = some (.int .i64 c) ∧ w'.cell? ⟨w.heap.size + 1, 1, none⟩ = some (.int .i64 d)) (go_keep)
        (first
          | (go_at_call 30; refine (compare_any _ _ _).mono ?_; rintro e w' ⟨rfl, rfl⟩)
          | (go_at_call 29; refine (or_any _ (sgn a c) (sgn b d) _ ?_ ?_).mono ?_; (simp); (simp); rintro e w' ⟨rfl, rfl⟩))
      go_wp2
      go_ret
      exact ⟨by rw [e.out]; rfl, (bel_trans E2 (bel_alloc _ _)).drew⟩

set_option maxHeartbeats 400000 in
theorem nextStamp_any (c k x : Int) (w : World) :
    Calls Try.prog 16 #[.agg #[.int .i64 c, .int .i64 k], .int .i64 x] w fun e w' => e = .returned (nxV c k x) ∧ Below w.heap.size w w' := by
  have hb0 := bel_trans (bel_alloc w (.cells #[.int .i64 c, .int .i64 k] 25)) (bel_alloc _ (.cells #[.int .i64 0, .int .i64 0] 25))
  have D := (Box.new w 25 #[.int .i64 c, .int .i64 k]).alloc (.cells #[.int .i64 0, .int .i64 0] 25)
  have X := Box.new (w.alloc (.cells #[.int .i64 c, .int .i64 k] 25)) 25 #[.int .i64 0, .int .i64 0]
  simp only [World.size_alloc] at X
  go_enter Try.func16, Try.ntmps16
  go_wp2_with fail
  generalize ((w.alloc _).alloc _ : World) = w0 at hb0 D X ⊢
  refine (stampOk_any c k w0).mono ?_
  rintro e w1 ⟨rfl, hb1⟩
  have D1 := D.later hb1 D.lt
  have X1 := X.later hb1 X.lt
  have E1 := bel_trans hb0 hb1
  clear D X hb0 hb1
  obtain ⟨a0, a1⟩ := D1.two
  obtain ⟨x0, x1⟩ := X1.two
  have fx := X1.frozen
  rcases h1 : stB c k with _ | _
  · have H := Lib.hid (nxV_no (nxB_1 h1 x))
    go_wp2
    exact bodyPost_ret (v := .tuple #[.agg #[.int .i64 0, .int .i64 0], .bool false]) (by simp [results, Try.results16, go_sem, x0, x1]) rfl ⟨by rw [H.out], (E1.setCell (by simp) _).setCell (by simp) _⟩
  · have hbd := stB_bd h1
    obtain ⟨hc0, hc1, hk0, hk1⟩ := hbd
    have Y := Box.new w1 25 #[.int .i64 (c + 1), .int .i64 x]
    have hb2 := bel_alloc w1 (.cells #[.int .i64 (c + 1), .int .i64 x] 25)
    have hs1 := D1.lt
    have hs2 := X1.lt
    go_wp2_with fail
    have X2 := X1.later hb2 X1.lt
    have E2 := bel_trans E1 hb2
    generalize (w1.alloc _ : World) = w2 at Y hb2 X2 E2 ⊢
    clear D1 X1 E1 a0 a1 x0 x1 fx
    refine (stampOk_any (c + 1) x w2).mono ?_
    rintro e w3 ⟨rfl, hb3⟩
    have Y3 := Y.later hb3 Y.lt
    have X3 := X2.later hb3 X2.lt
    have E3 := bel_trans E2 hb3
    obtain ⟨y0, y1⟩ := Y3.two
    obtain ⟨x0, x1⟩ := X3.two
    have fx := X3.frozen
    rcases h2 : stB (c + 1) x with _ | _
    · have H := Lib.hid (nxV_no (nxB_2 h2 k))
      go_wp2
      exact bodyPost_ret (v := .tuple #[.agg #[.int .i64 0, .int .i64 0], .bool false]) (by simp [results, Try.results16, go_sem, x0, x1]) rfl ⟨by rw [H.out], (E3.setCell (by simp) _).setCell (by simp) _⟩
    · have H := Lib.hid (nxV_yes (nxB_3 h1 h2))
      go_wp2
      exact bodyPost_ret (v := .tuple #[.agg #[.int .i64 (c + 1), .int .i64 x], .bool true]) (by simp [results, Try.results16, go_sem, x0, x1]) rfl ⟨by rw [H.out], (E3.setCell (by simp) _).setCell (by simp) _⟩

theorem newer_any (a b c d : Int) (w : World) :
    Calls Try.prog 36 #[.agg #[.int .i64 a, .int .i64 b], .agg #[.int .i64 c, .int .i64 d]] w fun e w' => e = .returned (.bool (cmpN a b c d == 1)) ∧ Below w.heap.size w w' := by
  have hb0 := bel_trans (bel_alloc w (.cells #[.int .i64 a, .int .i64 b] 25)) (bel_alloc _ (.cells #[.int .i64 c, .int .i64 d] 25))
  go_enter Try.func36, Try.ntmps36
  go_wp2_with fail
  generalize ((w.alloc _).alloc _ : World) = w0 at hb0 ⊢
  refine (cmpStamp_any a b c d w0).mono ?_
  rintro e w1 ⟨rfl, hb1⟩
  go_wp2
  go_ret
  exact ⟨rfl, bel_trans hb0 hb1⟩

set_option maxHeartbeats 400000 in
theorem greatest_any (A : Option Addr) (n cap : Nat) (ps : List (Int × Int)) (w : World) (hm : n ≤ maxLen) (hr : Pairs w w.heap.size A n ps) :
    Calls Try.prog 35 #[.func (Fn.func 36) #[] #[], .agg #[.int .i64 0, .int .i64 0], .slice A n cap] w fun e w' => e = .returned (.agg #[.int .i64 (bestP ps).1, .int .i64 (bestP ps).2]) ∧ Below w.heap.size w w' := by
  unfold maxLen at hm
  have HR := Lib.hid hr
  clear hr
  go_enter Try.func35, Try.ntmps35
  go_wp2_with fail
  go_loopw [13] (fun i wr => ∃ (k : Nat) (p : Int × Int), k ≤ n ∧ i = .int .i64 k ∧ Hid (bestP (ps.take k) = p) ∧ Below w.heap.size w wr ∧ Box wr (w.heap.size + 1) 25 #[.int .i64 0, .int .i64 0] ∧ Box wr (w.heap.size + 1 + 1) 25 #[.int .i64 p.1, .int .i64 p.2]) (fun i _ => n - (intOf i).toNat)
  case atStart =>
    refine ⟨0, (0, 0), by omega, rfl, rfl, bel_trans (bel_trans (bel_alloc _ _) (bel_alloc _ _)) (bel_alloc _ _), ?_, ?_⟩
    · have X := (Box.new (w.alloc (.cells #[.int .i64 0, .int .i64 0] 25)) 25 #[.int .i64 0, .int .i64 0]).alloc (.cells #[.int .i64 0, .int .i64 0] 25)
      simpa only [World.size_alloc] using X
    · have X := Box.new ((w.alloc (.cells #[.int .i64 0, .int .i64 0] 25)).alloc (.cells #[.int .i64 0, .int .i64 0] 25)) 25 #[.int .i64 0, .int .i64 0]
      simpa only [World.size_alloc] using X
  case round =>
    obtain ⟨k, ⟨p, q⟩, hk, rfl, hp, hb, R, P⟩ := hrel
    by_cases hlt : k < n
    · obtain ⟨b, o, hA, hbB, hcell⟩ := HR.out.2 (by omega)
      subst hA
      obtain ⟨g0, g1⟩ := hcell k hlt
      have g0 := (hb.cell (p := ⟨b, o + k * 2, none⟩) hbB).trans g0
      have g1 := (hb.cell (p := ⟨b, o + k * 2 + 1, none⟩) hbB).trans g1
      generalize hx : pth ps k = x at g0 g1
      obtain ⟨x, y⟩ := x
      obtain ⟨p0, p1⟩ := P.two
      have HX := Lib.hid hx
      have hPl := P.lt
      clear hx hcell
      have Y := Box.new wr 25 #[.int .i64 x, .int .i64 y]
      have hb2 := bel_alloc wr (.cells #[.int .i64 x, .int .i64 y] 25)
      go_wp2_with fail
      have P2 := P.later hb2 P.lt
      have R2 := R.later hb2 R.lt
      have E2 := bel_trans hb hb2
      generalize (wr.alloc _ : World) = w2 at Y hb2 P2 R2 E2 ⊢
      clear hb P R p0 p1 g0 g1
      refine (newer_any x y p q w2).mono ?_
      rintro e w3 ⟨rfl, hb3⟩
      have Y3 := Y.later hb3 Y.lt
      have P3 := P2.later hb3 P2.lt
      have R3 := R2.later hb3 R2.lt
      have E3 := bel_trans E2 hb3
      clear Y P2 R2 E2 hb2 hb3
      obtain ⟨y0, y1⟩ := Y3.two
      obtain ⟨p0, p1⟩ := P3.two
      have fp := P3.frozen
      have HS : Hid (bestP (ps.take (k + 1)) = pickP (p, q) (x, y)) := by show _ = _; rw [best_snoc (by rw [HR.out.1]; exact hlt), hp.out, HX.out]
      rcases hc : cmpN x y p q == 1 with _ | _
      · have HP : Hid (pickP (p, q) (x, y) = (p, q)) := by show _ = _; unfold pickP; rw [if_neg]; simpa using hc
        go_wp2
        go_roundw
        case rel => exact ⟨k + 1, (p, q), by omega, by go_num, HS.out.trans HP.out, E3, R3, P3⟩
        case measure => simp [intOf]; omega
      · have HP : Hid (pickP (p, q) (x, y) = (x, y)) := by show _ = _; unfold pickP; rw [if_pos]; simpa using hc
        have hne : w.heap.size + 1 + 1 ≠ w.heap.size + 1 := by omega
        have P4 := Lib.hid ((P3.set 0 (.int .i64 x)).set 1 (.int .i64 y))
        have R4 := Lib.hid ((R3.far (p := ⟨w.heap.size + 1 + 1, 0, none⟩) hne (.int .i64 x)).far (p := ⟨w.heap.size + 1 + 1, 1, none⟩) hne (.int .i64 y))
        have E4 := Lib.hid ((E3.setCell (p := ⟨w.heap.size + 1 + 1, 0, none⟩) (by simp; omega) (.int .i64 x)).setCell (p := ⟨w.heap.size + 1 + 1, 1, none⟩) (by simp; omega) (.int .i64 y))
        go_wp2
        go_roundw
        case rel => exact ⟨k + 1, (x, y), by omega, by go_num, HS.out.trans HP.out, E4.out, R4.out, P4.out⟩
        case measure => simp [intOf]; omega
    · obtain ⟨p0, p1⟩ := P.two
      obtain ⟨r0, r1⟩ := R.two
      have fr := R.frozen
      have hz := HR.out.1
      have HE : Hid (bestP ps = (p, q)) := by show _ = _; rw [← hp.out, List.take_of_length_le (by omega)]
      clear hz
      go_wp2
      exact bodyPost_ret (v := .agg #[.int .i64 p, .int .i64 q]) (by simp [results, Try.results35, go_sem, r0, r1]) rfl ⟨by rw [HE.out], (hb.setCell (by simp) _).setCell (by simp) _⟩

theorem newestOf_any (A : Option Addr) (n cap : Nat) (ps : List (Int × Int)) (w : World) (hm : n ≤ maxLen) (hr : Pairs w w.heap.size A n ps) :
    Calls Try.prog 19 #[.slice A n cap] w fun e w' => e = .returned (.agg #[.int .i64 (bestP ps).1, .int .i64 (bestP ps).2]) ∧ Below w.heap.size w w' := by
  have R := Box.new w 25 #[.int .i64 0, .int .i64 0]
  have hb0 := bel_alloc w (.cells #[.int .i64 0, .int .i64 0] 25)
  go_enter Try.func19, Try.ntmps19
  go_wp2_with fail
  generalize (w.alloc _ : World) = w0 at R hb0 ⊢
  refine (greatest_any A n cap ps w0 hm (hr.later hb0)).mono ?_
  rintro e w1 ⟨rfl, hb1⟩
  have R1 := R.later hb1 R.lt
  have E1 := bel_trans hb0 hb1
  obtain ⟨r0, r1⟩ := R1.two
  have fr := R1.frozen
  generalize hp : bestP ps = p
  have HP := Lib.hid hp
  clear hp
  obtain ⟨p, q⟩ := p
  go_wp2
  exact bodyPost_ret (v := .agg #[.int .i64 p, .int .i64 q]) (by simp [results, Try.results19, go_sem, r0, r1]) rfl ⟨by rw [HP.out], (E1.setCell (by simp) _).setCell (by simp) _⟩

end Go.Proofs.Ytpjmghkhbhhmcaa
