/- The law FnNewest answers true, whatever bytes it is given: its walk; conditions: the bytes can be read. -/
import Derived.Test.YtpjmghkhbhhmcaaDrawStamps
import Derived.Test.YtpjmghkhbhhmcaaSpecStamp
import Derived.Test.YtpjmghkhbhhmcaaNewestBase
import Derived.Test.YtpjmghkhbhhmcaaBig
namespace Go.Proofs.Ytpjmghkhbhhmcaa
open Go.RowKit

theorem newest_big (A : Option Addr) (n cap : Nat) (w : World) (hm : n ≤ maxLen) (hb : 4096 < n) :
    Calls Try.prog 4 #[.slice A n cap] w fun e w' => e = .returned (.bool true) ∧ Below w.heap.size w w' := by
  have hd : decide (4096 < n) = true := by simpa using hb
  go_enter Try.func4, Try.ntmps4
  go_wp2_with (go_at_call 9; refine (big_any A n cap _ hm).mono ?_; rintro e w' ⟨rfl, rfl⟩)
  go_ret
  exact ⟨rfl, Below.refl _ _⟩

theorem newest_is {A : Option Addr} {n cap : Nat} {ps : List (Int × Int)} {p q : Int} (h : bestP ps = (p, q)) (w : World) (hm : n ≤ maxLen) (hr : Pairs w w.heap.size A n ps) :
    Calls Try.prog 19 #[.slice A n cap] w fun e w' => e = .returned (.agg #[.int .i64 p, .int .i64 q]) ∧ Below w.heap.size w w' := by
  have := newestOf_any A n cap ps w hm hr
  rwa [h] at this
theorem specNewest_is {A : Option Addr} {n cap : Nat} {ps : List (Int × Int)} {p q : Int} (h : bestP ps = (p, q)) (w : World) (hm : n ≤ maxLen) (hr : Pairs w w.heap.size A n ps) :
    Calls Try.prog 20 #[.slice A n cap] w fun e w' => e = .returned (.agg #[.int .i64 p, .int .i64 q]) ∧ Below w.heap.size w w' := by
  have := specNewest_any A n cap ps w hm hr
  rwa [h] at this
theorem stampOk_is {c k : Int} {v : Bool} (h : stB c k = v) (w : World) :
    Calls Try.prog 13 #[.agg #[.int .i64 c, .int .i64 k]] w fun e w' => e = .returned (.bool v) ∧ Below w.heap.size w w' := h ▸ stampOk_any c k w

set_option maxRecDepth 100000 in
set_option maxHeartbeats 2000000 in
theorem newest_small (A : Option Addr) (n cap : Nat) (w : World) (hn : n ≤ 4096) (hB : Bytes w w.heap.size A n) :
    Calls Try.prog 4 #[.slice A n cap] w fun e w' => e = .returned (.bool true) ∧ Below w.heap.size w w' := by
  have hd : decide (4096 < n) = false := by simpa using hn
  have HM : Hid (n ≤ maxLen) := by show n ≤ maxLen; unfold maxLen; omega
  have HB := Lib.hid hB
  clear hB
  go_enter Try.func4, Try.ntmps4
  go_wp2_with fail
  refine (big_any A n cap _ HM.out).mono ?_
  rintro e w' ⟨rfl, rfl⟩
  go_wp2_with fail
  refine (drawNewest_any A n cap w hn HB.out).mono ?_
  rintro e w1 ⟨g, cap', ps, rfl, hp1, hlen, E1⟩
  have HML : Hid (ps.length ≤ maxLen) := by show ps.length ≤ maxLen; unfold maxLen; omega
  obtain ⟨⟨p, q⟩, hbest⟩ : ∃ r, bestP ps = r := ⟨_, rfl⟩
  have HP := Lib.hid hbest
  clear hbest
  go_wp2_with fail
  refine (newest_is HP.out w1 HML.out hp1).mono ?_
  rintro e w2 ⟨rfl, hb2⟩
  have hp2 := hp1.later hb2
  have E2 := bel_trans E1 hb2
  have D := Box.new w2 25 #[.int .i64 p, .int .i64 q]
  have hb3 := bel_alloc w2 (.cells #[.int .i64 p, .int .i64 q] 25)
  go_upto_region 5 with fail
  have E3 := bel_trans E2 hb3
  have hp3 := hp2.later hb3
  generalize (w2.alloc _ : World) = w3 at D hb3 E3 hp3 ⊢
  generalize w2.heap.size = G at D ⊢
  clear hp1 hp2 hb2 hb3 E1 E2
  go_cut [5] (fun v wr => ∃ b : Bool, v = .bool b ∧ Hid (inK ps (p, q) 0 = true → b = true) ∧ Below w3.heap.size w3 wr)
  case first =>
    obtain ⟨d0, d1⟩ := D.two
    by_cases h0 : p = 0
    · subst h0
      by_cases h1 : q = 0
      · subst h1
        go_wp2_with fail
        go_meet
        exact ⟨true, rfl, fun _ => rfl, Below.refl _ _⟩
      · have h1' : (q == 0) = false := by simpa using h1
        go_wp2_with fail
        go_meet
        exact ⟨false, rfl, fun h => absurd (of_decide_eq_true h) (by simp [h1]), Below.refl _ _⟩
    · have h0' : (p == 0) = false := by simpa using h0
      go_wp2_with fail
      go_meet
      exact ⟨false, rfl, fun h => absurd (of_decide_eq_true h) (by simp [h0]), Below.refl _ _⟩
  case rest =>
  obtain ⟨b0, rfl, hin0, hb0⟩ := hcut
  have D0 := D.later hb0 D.lt
  have hp0 := hp3.later hb0
  have E0 := bel_trans E3 hb0
  clear D hp3 E3 hb0
  have HP3 := Lib.hid hp0
  clear hp0
  go_wp2_with fail
  go_loopw [5, 6] (fun v i wr => ∃ (k : Nat) (b : Bool), k ≤ ps.length ∧ i = .int .i64 k ∧ v = .bool b ∧ Hid (inK ps (p, q) k = true → b = true) ∧ Below wc.heap.size wc wr) (fun _ i _ => ps.length - (intOf i).toNat)
  case atStart => exact ⟨0, b0, Nat.zero_le _, rfl, rfl, hin0, Below.refl _ _⟩
  case round =>
    obtain ⟨k, b, hk, rfl, rfl, hin, hb⟩ := hrel
    clear hin0
    have Dr := D0.later hb D0.lt
    have HPr := Lib.hid (HP3.out.later hb)
    have Er := bel_trans E0 hb
    by_cases hlt : k < ps.length
    · have hlt' : (k : Int) < (ps.length : Int) := by omega
      obtain ⟨b', o', hA, hbB, hcell⟩ := HPr.out.2 (by omega)
      obtain ⟨g0, g1⟩ := hcell k hlt
      cases hA
      have HMX := Lib.hid ((best_all ps HP.out).2.2 k hlt)
      obtain ⟨⟨x, y⟩, hx⟩ : ∃ r, pth ps k = r := ⟨_, rfl⟩
      rw [hx] at g0 g1
      have HX := Lib.hid hx
      have hK : cmpN x y p q ≠ 1 := by have := HMX.out; rw [HX.out] at this; exact this
      have hK' : (cmpN x y p q == 1) = false := by simpa using hK
      clear hx hcell HMX hK
      have HIN : Hid (inK ps (p, q) (k + 1) = (inK ps (p, q) k || decide ((x, y) = (p, q)))) := by show _ = _; rw [← HX.out]; rfl
      go_upto_region 9 with fail
      obtain ⟨d0, d1⟩ := twoAfter Dr
      have g0 := After.cell (w := wr) (a := ⟨g, 0 + k * 2, none⟩) hbB g0
      have g1 := After.cell (w := wr) (a := ⟨g, 0 + k * 2 + 1, none⟩) hbB g1
      simp only [Nat.zero_add] at g0 g1
      go_cut [5] from 16 to 37 (fun v wx => ∃ b1 : Bool, v = .bool b1 ∧ Hid (inK ps (p, q) (k + 1) = true → b1 = true) ∧ Below wr.heap.size wr wx)
      case first =>
        rcases b with _ | _
        · have HF : Hid (inK ps (p, q) k = false) := by
            show _ = _
            rcases h : inK ps (p, q) k with _ | _
            · rfl
            · exact absurd (hin.out h) (by simp)
          by_cases h0 : x = p
          · subst h0
            by_cases h1 : y = q
            · subst h1
              refine wp_region_after (by kernel_rfl) (by kernel_rfl) ?_
              repeat (first | go_big_quiet_step (fail) | quiet_step (fail))
              refine wpQuiet_nil ?_
              intro pw
              go_wp2_with fail
              go_meet
              exact ⟨true, rfl, fun _ => rfl, pw.bel⟩
            · have h1' : (y == q) = false := by simpa using h1
              refine wp_region_after (by kernel_rfl) (by kernel_rfl) ?_
              repeat (first | go_big_quiet_step (fail) | quiet_step (fail))
              refine wpQuiet_nil ?_
              intro pw
              go_wp2_with fail
              go_meet
              exact ⟨false, rfl, fun h => absurd h (by rw [HIN.out, HF.out]; simp [h1]), pw.bel⟩
          · have h0' : (x == p) = false := by simpa using h0
            refine wp_region_after (by kernel_rfl) (by kernel_rfl) ?_
            repeat (first | go_big_quiet_step (fail) | quiet_step (fail))
            refine wpQuiet_nil ?_
            intro pw
            go_wp2_with fail
            go_meet
            exact ⟨false, rfl, fun h => absurd h (by rw [HIN.out, HF.out]; simp [h0]), pw.bel⟩
        · refine wp_region_after (by kernel_rfl) (by kernel_rfl) ?_
          repeat (first | go_big_quiet_step (fail) | quiet_step (fail))
          refine wpQuiet_nil ?_
          intro pw
          go_wp2_with fail
          go_meet
          exact ⟨true, rfl, fun _ => rfl, pw.bel⟩
      case rest =>
      obtain ⟨b1, rfl, hin1, hb1⟩ := hcut
      have Dc := Dr.later hb1 Dr.lt
      have E4 := bel_trans hb hb1
      have g0 := g0 ⟨wc, hb1⟩
      have g1 := g1 ⟨wc, hb1⟩
      have hgc : g < wc.heap.size := Nat.lt_of_lt_of_le hbB hb1.size
      have g0 := After.cell (w := wc) (a := ⟨g, k * 2, none⟩) hgc g0
      have g1 := After.cell (w := wc) (a := ⟨g, k * 2 + 1, none⟩) hgc g1
      clear d0 d1
      obtain ⟨d0, d1⟩ := twoAfter Dc
      go_wp2_with fail
      refine wp_region_after (by kernel_rfl) (by kernel_rfl) ?_
      repeat (first | go_big_quiet_step ((go_at_call 11; exact after_of (cmpStamp_any x y p q _))) | quiet_step ((go_at_call 11; exact after_of (cmpStamp_any x y p q _))))
      refine wpQuiet_nil ?_
      intro pw
      have E5 := bel_trans E4 pw.bel
      go_wp2
      go_roundw
      case rel => exact ⟨k + 1, b1, by omega, by go_num, rfl, hin1, E5⟩
      case measure => simp [intOf]; omega
    · have hkn : k = ps.length := by omega
      subst hkn
      obtain rfl : b = true := hin.out (inK_all HP.out)
      have HO := Lib.hid (best_all ps HP.out).1
      obtain ⟨d0, d1⟩ := twoAfter Dr
      go_wp2_with fail
      refine wp_region_after (by kernel_rfl) (by kernel_rfl) ?_
      repeat (first | go_big_quiet_step (first | (go_at_call 20; exact after_of (specNewest_is HP.out _ HML.out (pairsAfter HPr.out _))) | (go_at_call 13; exact after_of (stampOk_is HO.out _))) | quiet_step (first | (go_at_call 20; exact after_of (specNewest_is HP.out _ HML.out (pairsAfter HPr.out _))) | (go_at_call 13; exact after_of (stampOk_is HO.out _))))
      refine wpQuiet_nil ?_
      intro pw
      go_wp2
      go_ret
      exact ⟨rfl, bel_trans Er pw.bel⟩

end Go.Proofs.Ytpjmghkhbhhmcaa
