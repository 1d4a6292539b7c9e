/- The law FnQuorums answers true, whatever bytes it is given: its walk; conditions: the bytes can be read. -/
import Derived.Test.YtecjoopmipfilaaDiceGroup
import Derived.Test.YtecjoopmipfilaaGroupMore
namespace Go.Proofs.Ytecjoopmipfilaa
open Go.RowKit

theorem big_any (A : Option Addr) (n cap : Nat) (w : World) (_hm : n ≤ maxLen) :
    Calls Try.prog 8 #[.slice A n cap] w fun e w' => e = .returned (.bool (decide (4096 < n))) ∧ w = w' := by
  unfold maxLen at _hm
  by_cases h : 4096 < n
  · have e : Hid (decide (4096 < n) = true) := by show decide (4096 < n) = true; simpa using h
    go_enter Try.func8, Try.ntmps8
    go_wp2
    go_ret
    exact ⟨by rw [e.out]; simp; omega, rfl⟩
  · have e : Hid (decide (4096 < n) = false) := by show decide (4096 < n) = false; simpa using h
    go_enter Try.func8, Try.ntmps8
    go_wp2
    go_ret
    exact ⟨by rw [e.out]; simp; omega, rfl⟩

theorem quorums_big (A : Option Addr) (n cap : Nat) (w : World) (hm : n ≤ maxLen) (hb : 4096 < n) :
    Calls Try.prog 3 #[.slice A n cap] w fun e w' => e = .returned (.bool true) ∧ Below w.heap.size w w' := by
  have hd : decide (4096 < n) = true := by simpa using hb
  go_enter Try.func3, Try.ntmps3
  go_wp2_with (go_at_call 8; refine (big_any A n cap _ hm).mono ?_; rintro e w' ⟨rfl, rfl⟩)
  go_ret
  exact ⟨rfl, Below.refl _ _⟩

set_option maxHeartbeats 2000000 in
theorem quorums_small (A : Option Addr) (n cap : Nat) (w : World) (hn : n ≤ 4096) (hB : Bytes w w.heap.size A n) :
    Calls Try.prog 3 #[.slice A n cap] w fun e w' => e = .returned (.bool true) ∧ Below w.heap.size w w' := by
  have hd : decide (4096 < n) = false := by simpa using hn
  have HM : Hid (n ≤ maxLen) := by show n ≤ maxLen; unfold maxLen; omega
  have HB := Lib.hid hB
  clear hB
  go_enter Try.func3, Try.ntmps3
  go_wp2_with fail
  refine (big_any A n cap _ HM.out).mono ?_
  rintro e w' ⟨rfl, rfl⟩
  go_wp2_with fail
  refine (roll_any A n cap 2 w hn HB.out).mono ?_
  rintro e w1 ⟨g, hg, rfl, hc1, hb1⟩
  go_wp2_with fail
  refine (group_any g A n cap w1 hc1).mono ?_
  rintro e w2 ⟨s, l, c, sh, q, cap', zs, rfl, hown, hok, hs6, hc3, hc2, hg2⟩
  have hrow := own_row hown
  have E2 := bel_grown hb1 hg2 hg
  have hzl : zs.length ≤ 20 := by
    have h := hok
    simp only [okB, Bool.and_eq_true, decide_eq_true_eq] at h
    have := h.1.2
    omega
  clear hown hc1 hc2 hg2 hb1
  go_wp2_with fail
  have D := Box.new w2 26 #[.int .i64 s, .int .i64 l, .int .i64 c, .int .i64 sh, .slice (some ⟨q, 0, none⟩) zs.length cap']
  have hb3 := bel_alloc w2 (.cells #[.int .i64 s, .int .i64 l, .int .i64 c, .int .i64 sh, .slice (some ⟨q, 0, none⟩) zs.length cap'] 26)
  generalize (w2.alloc _ : World) = w3 at D hb3 ⊢
  have hrow3 := (hrow.below hb3 (Nat.le_refl _)).more hb3.size
  have E3 := bel_trans E2 hb3
  have HML : Hid (zs.length ≤ maxLen) := by show zs.length ≤ maxLen; unfold maxLen; omega
  clear hrow E2 hb3
  generalize w2.heap.size = G at D ⊢
  refine (quorum_any s l c sh _ zs.length cap' zs w3 HML.out hrow3).mono ?_
  rintro e w4 ⟨rfl, hb4⟩
  have D4 := D.later hb4 D.lt
  have hrow4 := (hrow3.below hb4 (Nat.le_refl _)).more hb4.size
  have E4 := bel_trans E3 hb4
  clear D hrow3 E3 hb4
  go_wp2_with fail
  refine (drawGroupOk_any A n cap w4 hn ((HB.out.below E4 (Nat.le_refl _)).more E4.size)).mono ?_
  rintro e w5 ⟨s', l', c', sh', q', o', m', cap'', zs', hq', rfl, hrowx, hmx, hb5⟩
  have D5 := D4.later hb5 D4.lt
  have hrow5 := (hrow4.below hb5 (Nat.le_refl _)).more hb5.size
  have E5 := bel_trans E4 hb5
  clear D4 hrow4 E4 hb5
  go_wp2_with fail
  have X := Box.new w5 26 #[.int .i64 s', .int .i64 l', .int .i64 c', .int .i64 sh', .slice (some ⟨q', o', none⟩) m' cap'']
  have hb6 := bel_alloc w5 (.cells #[.int .i64 s', .int .i64 l', .int .i64 c', .int .i64 sh', .slice (some ⟨q', o', none⟩) m' cap''] 26)
  generalize (w5.alloc _ : World) = w6 at X hb6 ⊢
  have D6 := D5.later hb6 D5.lt
  have hrow6 := (hrow5.below hb6 (Nat.le_refl _)).more hb6.size
  have hrowx6 := (hrowx.below hb6 (Nat.le_refl _)).more hb6.size
  have E6 := bel_trans E5 hb6
  have HMX : Hid (m' ≤ maxLen) := by show m' ≤ maxLen; unfold maxLen; omega
  clear D5 hrow5 hrowx E5 hb6
  obtain ⟨x0, x1, x2, x3, x4⟩ := fiveAfter X
  refine wp_region_after (by kernel_rfl) (by kernel_rfl) ?_
  repeat (first | go_big_quiet_step (first | (go_at_call 13; exact after_of (groupOk_any s' l' c' sh' _ m' cap'' zs' _ HMX.out (rowAfter hrowx6 _))) | (go_at_call 14; exact after_of (specGroup_any s' l' c' sh' _ m' cap'' zs' _ HMX.out (rowAfter hrowx6 _))) | (go_at_call 11; exact after_of (quorum_any s' l' c' sh' _ m' cap'' zs' _ HMX.out (rowAfter hrowx6 _))) | (go_at_call 15; exact after_of (specQuorum_any s' l' c' sh' _ m' cap'' zs' _ HMX.out (rowAfter hrowx6 _)))))
  refine wpQuiet_nil ?_
  intro p
  have D7 := D6.later p.bel D6.lt
  have hrow7 := rowAfter hrow6 p
  have E7 := bel_trans E6 p.bel
  obtain ⟨w7, hw7⟩ : ∃ w7, p.x = w7 := ⟨_, rfl⟩
  rw [hw7] at D7 hrow7 E7 ⊢
  clear hw7 p x0 x1 x2 x3 x4 X hrowx6 D6 hrow6 E6
  obtain ⟨b1, b2, b3, b4, b5, b6⟩ := okB_parts hok
  have HQ : Hid (quoN s l c sh zs = (s + l) / 2 + 1) := by show quoN s l c sh zs = _; simp [quoN, hok]
  generalize quoN s l c sh zs = qn at HQ ⊢
  obtain ⟨a0, a1, a2, a3, a4⟩ := D7.five
  go_wp2_with fail
  go_loopw [6] (fun v wr => ∃ i : Int, -1 ≤ i ∧ i ≤ s + c + 1 ∧ v = .int .i64 i ∧ Below w7.heap.size w7 wr) (fun v _ => (s + c + 1 - intOf v).toNat)
  case atStart => exact ⟨-1, by omega, by omega, rfl, Below.refl _ _⟩
  case round =>
    obtain ⟨i, hi0, hi1, rfl, hbr⟩ := hrel
    have Dr := D7.later hbr D7.lt
    have hrowr := (hrow7.below hbr (Nat.le_refl _)).more hbr.size
    clear a0 a1 a2 a3 a4
    by_cases hle : i ≤ s + c
    · obtain ⟨a0, a1, a2, a3, a4⟩ := Dr.five
      obtain ⟨y0, y1, y2, y3, y4⟩ := fiveAfter Dr
      by_cases h0 : i < 0
      · have hx0 : decide (0 ≤ i) = false := by simp; omega
        have hx2 : decide (s ≤ i) = false := by simp; omega
        have hsv : srvB s l c sh zs i = false := by simp only [srvB, hok, Bool.true_and]; exact inB_false.2 (by omega)
        have hcv : cliB s l c sh zs i = false := by simp only [cliB, hok, Bool.true_and]; exact inB_false.2 (by omega)
        go_wp2_with fail
        refine wp_region_after (by kernel_rfl) (by kernel_rfl) ?_
        repeat (first | go_big_quiet_step (first | (go_at_call 16; exact after_of (server_any s l c sh _ zs.length cap' zs i _ HML.out (rowAfter hrowr _))) | (go_at_call 17; exact after_of (client_any s l c sh _ zs.length cap' zs i _ HML.out (rowAfter hrowr _)))) | quiet_step (first | (go_at_call 16; exact after_of (server_any s l c sh _ zs.length cap' zs i _ HML.out (rowAfter hrowr _))) | (go_at_call 17; exact after_of (client_any s l c sh _ zs.length cap' zs i _ HML.out (rowAfter hrowr _)))))
        refine wpQuiet_nil ?_
        intro p
        go_wp2
        go_roundw
        case rel => exact ⟨i + 1, by omega, by omega, rfl, bel_trans hbr p.bel⟩
        case measure => simp [intOf]; omega
      by_cases h1 : i < s
      · have hx0 : decide (0 ≤ i) = true := by simp; omega
        have hx1 : decide (i < s) = true := by simp; omega
        have hx2 : decide (s ≤ i) = false := by simp; omega
        have hsv : srvB s l c sh zs i = true := by simp only [srvB, hok, Bool.true_and]; exact inB_true.2 (by omega)
        have hcv : cliB s l c sh zs i = false := by simp only [cliB, hok, Bool.true_and]; exact inB_false.2 (by omega)
        go_wp2_with fail
        refine wp_region_after (by kernel_rfl) (by kernel_rfl) ?_
        repeat (first | go_big_quiet_step (first | (go_at_call 16; exact after_of (server_any s l c sh _ zs.length cap' zs i _ HML.out (rowAfter hrowr _))) | (go_at_call 17; exact after_of (client_any s l c sh _ zs.length cap' zs i _ HML.out (rowAfter hrowr _)))) | quiet_step (first | (go_at_call 16; exact after_of (server_any s l c sh _ zs.length cap' zs i _ HML.out (rowAfter hrowr _))) | (go_at_call 17; exact after_of (client_any s l c sh _ zs.length cap' zs i _ HML.out (rowAfter hrowr _)))))
        refine wpQuiet_nil ?_
        intro p
        go_wp2
        go_roundw
        case rel => exact ⟨i + 1, by omega, by omega, rfl, bel_trans hbr p.bel⟩
        case measure => simp [intOf]; omega
      by_cases h2 : i < s + c
      · have hx0 : decide (0 ≤ i) = true := by simp; omega
        have hx1 : decide (i < s) = false := by simp; omega
        have hx2 : decide (s ≤ i) = true := by simp; omega
        have hx3 : decide (i < s + c) = true := by simp; omega
        have hsv : srvB s l c sh zs i = false := by simp only [srvB, hok, Bool.true_and]; exact inB_false.2 (by omega)
        have hcv : cliB s l c sh zs i = true := by simp only [cliB, hok, Bool.true_and]; exact inB_true.2 (by omega)
        go_wp2_with fail
        refine wp_region_after (by kernel_rfl) (by kernel_rfl) ?_
        repeat (first | go_big_quiet_step (first | (go_at_call 16; exact after_of (server_any s l c sh _ zs.length cap' zs i _ HML.out (rowAfter hrowr _))) | (go_at_call 17; exact after_of (client_any s l c sh _ zs.length cap' zs i _ HML.out (rowAfter hrowr _)))) | quiet_step (first | (go_at_call 16; exact after_of (server_any s l c sh _ zs.length cap' zs i _ HML.out (rowAfter hrowr _))) | (go_at_call 17; exact after_of (client_any s l c sh _ zs.length cap' zs i _ HML.out (rowAfter hrowr _)))))
        refine wpQuiet_nil ?_
        intro p
        go_wp2
        go_roundw
        case rel => exact ⟨i + 1, by omega, by omega, rfl, bel_trans hbr p.bel⟩
        case measure => simp [intOf]; omega
      have hx0 : decide (0 ≤ i) = true := by simp; omega
      have hx1 : decide (i < s) = false := by simp; omega
      have hx2 : decide (s ≤ i) = true := by simp; omega
      have hx3 : decide (i < s + c) = false := by simp; omega
      have hsv : srvB s l c sh zs i = false := by simp only [srvB, hok, Bool.true_and]; exact inB_false.2 (by omega)
      have hcv : cliB s l c sh zs i = false := by simp only [cliB, hok, Bool.true_and]; exact inB_false.2 (by omega)
      go_wp2_with fail
      refine wp_region_after (by kernel_rfl) (by kernel_rfl) ?_
      repeat (first | go_big_quiet_step (first | (go_at_call 16; exact after_of (server_any s l c sh _ zs.length cap' zs i _ HML.out (rowAfter hrowr _))) | (go_at_call 17; exact after_of (client_any s l c sh _ zs.length cap' zs i _ HML.out (rowAfter hrowr _)))) | quiet_step (first | (go_at_call 16; exact after_of (server_any s l c sh _ zs.length cap' zs i _ HML.out (rowAfter hrowr _))) | (go_at_call 17; exact after_of (client_any s l c sh _ zs.length cap' zs i _ HML.out (rowAfter hrowr _)))))
      refine wpQuiet_nil ?_
      intro p
      go_wp2
      go_roundw
      case rel => exact ⟨i + 1, by omega, by omega, rfl, bel_trans hbr p.bel⟩
      case measure => simp [intOf]; omega
    · obtain ⟨a0, a1, a2, a3, a4⟩ := Dr.five
      have hq := HQ.out
      have hq1 : l < 2 * qn - s := by omega
      have hq2 : qn ≤ s - l := by omega
      have hq3 : 0 ≤ qn := by omega
      have hq4 : qn ≤ 20 := by omega
      clear hq
      go_wp2_with fail
      refine (groupOk_any s l c sh _ zs.length cap' zs wr HML.out hrowr).mono ?_
      rintro e w8 ⟨rfl, hb8⟩
      go_wp2
      go_ret
      exact ⟨rfl, bel_trans (bel_trans E7 hbr) hb8⟩

end Go.Proofs.Ytecjoopmipfilaa
