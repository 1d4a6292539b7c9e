/- The law FnStamps answers true, whatever bytes it is given: its walk; conditions: the bytes can be read. -/
import Derived.Test.YtpjmghkhbhhmcaaDrawStamps
import Derived.Test.YtpjmghkhbhhmcaaSpecStamp
import Derived.Test.YtpjmghkhbhhmcaaBig
namespace Go.Proofs.Ytpjmghkhbhhmcaa
open Go.RowKit

theorem stamps_big (A : Option Addr) (n cap : Nat) (w : World) (hm : n ≤ maxLen) (hb : 4096 < n) :
    Calls Try.prog 3 #[.slice A n cap] w fun e w' => e = .returned (.bool true) ∧ Below w.heap.size w w' := by
  have hd : decide (4096 < n) = true := by simpa using hb
  go_enter Try.func3, Try.ntmps3
  go_wp2_with (go_at_call 9; refine (big_any A n cap _ hm).mono ?_; rintro e w' ⟨rfl, rfl⟩)
  go_ret
  exact ⟨rfl, Below.refl _ _⟩

theorem cmp_is {a b c d K : Int} (h : cmpN a b c d = K) (w : World) :
    Calls Try.prog 11 #[.agg #[.int .i64 a, .int .i64 b], .agg #[.int .i64 c, .int .i64 d]] w fun e w' => e = .returned (.int .i64 K) ∧ Below w.heap.size w w' := h ▸ cmpStamp_any a b c d w
theorem specCmp_is {a b c d K : Int} (h : cmpN a b c d = K) (w : World) :
    Calls Try.prog 12 #[.agg #[.int .i64 a, .int .i64 b], .agg #[.int .i64 c, .int .i64 d]] w fun e w' => e = .returned (.int .i64 K) ∧ Below w.heap.size w w' := h ▸ specCmp_any a b c d w

set_option maxRecDepth 100000 in
set_option maxHeartbeats 2000000 in
theorem stamps_small (A : Option Addr) (n cap : Nat) (w : World) (hn : n ≤ 4096) (hB : Bytes w w.heap.size A n) :
    Calls Try.prog 3 #[.slice A n cap] w fun e w' => e = .returned (.bool true) ∧ Below w.heap.size w w' := by
  have hd : decide (4096 < n) = false := by simpa using hn
  have HM : Hid (n ≤ maxLen) := by show n ≤ maxLen; unfold maxLen; omega
  have HB := Lib.hid hB
  clear hB
  go_enter Try.func3, Try.ntmps3
  go_wp2_with fail
  refine (big_any A n cap _ HM.out).mono ?_
  rintro e w' ⟨rfl, rfl⟩
  go_wp2_with fail
  refine (drawCmp_any A n cap w hn HB.out).mono ?_
  rintro e w1 ⟨a, b, c, d, rfl, E1⟩
  have hb2 := bel_trans (bel_alloc w1 (.cells #[.int .i64 a, .int .i64 b] 25)) (bel_alloc _ (.cells #[.int .i64 c, .int .i64 d] 25))
  have D := (Box.new w1 25 #[.int .i64 a, .int .i64 b]).alloc (.cells #[.int .i64 c, .int .i64 d] 25)
  have X := Box.new (w1.alloc (.cells #[.int .i64 a, .int .i64 b] 25)) 25 #[.int .i64 c, .int .i64 d]
  simp only [World.size_alloc] at X
  go_wp2_with fail
  have E2 := bel_trans E1 hb2
  generalize ((w1.alloc _).alloc _ : World) = w2 at hb2 D X E2 ⊢
  generalize w1.heap.size = S at D X ⊢
  clear hb2 E1
  obtain ⟨K, hK⟩ : ∃ K, cmpN a b c d = K := ⟨_, rfl⟩
  refine (cmp_is hK w2).mono ?_
  rintro e w3 ⟨rfl, hb3⟩
  have D3 := D.later hb3 D.lt
  have X3 := X.later hb3 X.lt
  have E3 := bel_trans E2 hb3
  clear D X E2 hb3
  obtain ⟨d0, d1⟩ := twoAfter D3
  obtain ⟨x0, x1⟩ := twoAfter X3
  have HK := Lib.hid hK
  clear hK
  go_upto_region 5 with fail
  go_cut [53] (fun v wr => v = .bool false ∧ Below w3.heap.size w3 wr)
  case first =>
    rcases cmp_cases a b c d with h | ⟨h, h', hne⟩ | ⟨h, rfl, rfl⟩ | ⟨h, h', hne⟩
    · obtain rfl : K = 2 := HK.out.symm.trans h
      have HH := Lib.hid h
      clear h
      refine wp_region_after (by kernel_rfl) (by kernel_rfl) ?_
      repeat (first | go_big_quiet_step (first | (go_at_call 11; exact after_of (cmp_is HH.out _)) | (go_at_call 12; exact after_of (specCmp_is HH.out _)) | (go_at_call 13; exact after_of (stampOk_any _ _ _)) | (go_at_call 14; exact after_of (specStampOk_any _ _ _))) | quiet_step (first | (go_at_call 11; exact after_of (cmp_is HH.out _)) | (go_at_call 12; exact after_of (specCmp_is HH.out _)) | (go_at_call 13; exact after_of (stampOk_any _ _ _)) | (go_at_call 14; exact after_of (specStampOk_any _ _ _))))
      refine wpQuiet_nil ?_
      intro p
      go_wp2_with fail
      go_meet
      exact ⟨by simp, p.bel⟩
    · obtain rfl : K = -1 := HK.out.symm.trans h
      have HH := Lib.hid h
      have HH' := Lib.hid h'
      clear h h'
      by_cases hac : a = c
      · subst hac
        have hbd : (b == d) = false := by simp; omega
        have hbd' : b ≠ d := by omega
        clear hne
        refine wp_region_after (by kernel_rfl) (by kernel_rfl) ?_
        repeat (first | go_big_quiet_step (first | (go_at_call 11; exact after_of (cmp_is HH'.out _)) | (go_at_call 12; exact after_of (specCmp_is HH.out _)) | (go_at_call 13; exact after_of (stampOk_any _ _ _)) | (go_at_call 14; exact after_of (specStampOk_any _ _ _))) | quiet_step (first | (go_at_call 11; exact after_of (cmp_is HH'.out _)) | (go_at_call 12; exact after_of (specCmp_is HH.out _)) | (go_at_call 13; exact after_of (stampOk_any _ _ _)) | (go_at_call 14; exact after_of (specStampOk_any _ _ _))))
        refine wpQuiet_nil ?_
        intro p
        go_wp2_with fail
        go_meet
        exact ⟨by simp, p.bel⟩
      · have hac' : (a == c) = false := by simp; omega
        clear hne
        refine wp_region_after (by kernel_rfl) (by kernel_rfl) ?_
        repeat (first | go_big_quiet_step (first | (go_at_call 11; exact after_of (cmp_is HH'.out _)) | (go_at_call 12; exact after_of (specCmp_is HH.out _)) | (go_at_call 13; exact after_of (stampOk_any _ _ _)) | (go_at_call 14; exact after_of (specStampOk_any _ _ _))) | quiet_step (first | (go_at_call 11; exact after_of (cmp_is HH'.out _)) | (go_at_call 12; exact after_of (specCmp_is HH.out _)) | (go_at_call 13; exact after_of (stampOk_any _ _ _)) | (go_at_call 14; exact after_of (specStampOk_any _ _ _))))
        refine wpQuiet_nil ?_
        intro p
        go_wp2_with fail
        go_meet
        exact ⟨by simp, p.bel⟩
    · obtain rfl : K = 0 := HK.out.symm.trans h
      have HH := Lib.hid h
      clear h
      refine wp_region_after (by kernel_rfl) (by kernel_rfl) ?_
      repeat (first | go_big_quiet_step (first | (go_at_call 11; exact after_of (cmp_is HH.out _)) | (go_at_call 12; exact after_of (specCmp_is HH.out _)) | (go_at_call 13; exact after_of (stampOk_any _ _ _)) | (go_at_call 14; exact after_of (specStampOk_any _ _ _))) | quiet_step (first | (go_at_call 11; exact after_of (cmp_is HH.out _)) | (go_at_call 12; exact after_of (specCmp_is HH.out _)) | (go_at_call 13; exact after_of (stampOk_any _ _ _)) | (go_at_call 14; exact after_of (specStampOk_any _ _ _))))
      refine wpQuiet_nil ?_
      intro p
      go_wp2_with fail
      go_meet
      exact ⟨by simp, p.bel⟩
    · obtain rfl : K = 1 := HK.out.symm.trans h
      have HH := Lib.hid h
      have HH' := Lib.hid h'
      clear h h'
      by_cases hac : a = c
      · subst hac
        have hbd : (b == d) = false := by simp; omega
        have hbd' : b ≠ d := by omega
        clear hne
        refine wp_region_after (by kernel_rfl) (by kernel_rfl) ?_
        repeat (first | go_big_quiet_step (first | (go_at_call 11; exact after_of (cmp_is HH'.out _)) | (go_at_call 12; exact after_of (specCmp_is HH.out _)) | (go_at_call 13; exact after_of (stampOk_any _ _ _)) | (go_at_call 14; exact after_of (specStampOk_any _ _ _))) | quiet_step (first | (go_at_call 11; exact after_of (cmp_is HH'.out _)) | (go_at_call 12; exact after_of (specCmp_is HH.out _)) | (go_at_call 13; exact after_of (stampOk_any _ _ _)) | (go_at_call 14; exact after_of (specStampOk_any _ _ _))))
        refine wpQuiet_nil ?_
        intro p
        go_wp2_with fail
        go_meet
        exact ⟨by simp, p.bel⟩
      · have hac' : (a == c) = false := by simp; omega
        clear hne
        refine wp_region_after (by kernel_rfl) (by kernel_rfl) ?_
        repeat (first | go_big_quiet_step (first | (go_at_call 11; exact after_of (cmp_is HH'.out _)) | (go_at_call 12; exact after_of (specCmp_is HH.out _)) | (go_at_call 13; exact after_of (stampOk_any _ _ _)) | (go_at_call 14; exact after_of (specStampOk_any _ _ _))) | quiet_step (first | (go_at_call 11; exact after_of (cmp_is HH'.out _)) | (go_at_call 12; exact after_of (specCmp_is HH.out _)) | (go_at_call 13; exact after_of (stampOk_any _ _ _)) | (go_at_call 14; exact after_of (specStampOk_any _ _ _))))
        refine wpQuiet_nil ?_
        intro p
        go_wp2_with fail
        go_meet
        exact ⟨by simp, p.bel⟩
  case rest =>
    obtain ⟨rfl, hbc⟩ := hcut
    have E4 := bel_trans E3 hbc
    clear E3 hbc D3 X3 d0 d1 x0 x1 HK
    go_wp2_with fail
    refine (drawNext_any A n cap wc hn ((HB.out.below E4 (Nat.le_refl _)).more E4.size)).mono ?_
    rintro e w5 ⟨s, k, x, rfl, hb5⟩
    have E5 := bel_trans E4 hb5
    have D := Box.new w5 25 #[.int .i64 s, .int .i64 k]
    have hb6 := bel_alloc w5 (.cells #[.int .i64 s, .int .i64 k] 25)
    go_wp2_with fail
    have E6 := bel_trans E5 hb6
    generalize (w5.alloc _ : World) = w6 at D hb6 E6 ⊢
    generalize w5.heap.size = G at D ⊢
    clear E4 hb5 E5 hb6
    refine (nextStamp_any s k x w6).mono ?_
    rintro e w7 ⟨rfl, hb7⟩
    have D7 := D.later hb7 D.lt
    have E7 := bel_trans E6 hb7
    have hG : G < w7.heap.size := D7.lt
    clear D E6 hb7
    obtain ⟨d0, d1⟩ := D7.two
    rcases hv : nxB s k x with _ | _
    · have HV := Lib.hid (nxV_no hv)
      rw [HV.out]
      have Y := Box.new w7 25 #[.int .i64 0, .int .i64 0]
      have hb8 := bel_alloc w7 (.cells #[.int .i64 0, .int .i64 0] 25)
      go_wp2_with fail
      have E8 := bel_trans E7 hb8
      generalize (w7.alloc _ : World) = w8 at Y hb8 E8 ⊢
      generalize w7.heap.size = F at Y hG ⊢
      refine (specNext_any s k x w8).mono ?_
      rintro e w9 ⟨rfl, hb9⟩
      have Y9 := Y.later hb9 Y.lt
      have E9 := bel_trans E8 hb9
      rw [HV.out]
      have hF := Y9.lt
      obtain ⟨y0, y1⟩ := Y9.two
      go_wp2
      go_ret
      exact ⟨rfl, bel_trans E9 (bel_alloc _ _)⟩
    · have HV := Lib.hid (nxV_yes hv)
      have hbd := hv
      simp only [nxB, Bool.and_eq_true] at hbd
      obtain ⟨b1, b2, _, _⟩ := stB_bd hbd.1
      clear hbd
      rw [HV.out]
      have Y := Box.new w7 25 #[.int .i64 (s + 1), .int .i64 x]
      have hb8 := bel_alloc w7 (.cells #[.int .i64 (s + 1), .int .i64 x] 25)
      go_wp2_with fail
      have E8 := bel_trans E7 hb8
      have D8 := D7.later hb8 D7.lt
      generalize (w7.alloc _ : World) = w8 at Y hb8 E8 D8 ⊢
      generalize w7.heap.size = F at Y hG ⊢
      clear d0 d1 D7
      refine (specNext_any s k x w8).mono ?_
      rintro e w9 ⟨rfl, hb9⟩
      have Y9 := Y.later hb9 Y.lt
      have D9 := D8.later hb9 D8.lt
      have E9 := bel_trans E8 hb9
      rw [HV.out]
      have hF := Y9.lt
      have hG' := D9.lt
      have hb10 := bel_alloc w9 (.cells #[.int .i64 (s + 1), .int .i64 x] 25)
      obtain ⟨y0, y1⟩ := Y9.two
      obtain ⟨d0, d1⟩ := D9.two
      go_wp2_with fail
      have Y10 := Y9.later hb10 Y9.lt
      have E10 := bel_trans E9 hb10
      generalize (w9.alloc _ : World) = w10 at hb10 E10 Y10 ⊢
      clear y0 y1 d0 d1 hb10 Y9 D9 Y
      have HC := Lib.hid (cmp_next hv)
      refine (cmp_is HC.out w10).mono ?_
      rintro e w11 ⟨rfl, hb11⟩
      obtain ⟨y0, y1⟩ := (Y10.later hb11 Y10.lt).two
      have E11 := bel_trans E10 hb11
      go_wp2
      go_ret
      exact ⟨rfl, E11⟩

end Go.Proofs.Ytpjmghkhbhhmcaa
