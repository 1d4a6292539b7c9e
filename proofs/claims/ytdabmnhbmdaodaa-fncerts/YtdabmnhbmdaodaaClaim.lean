/- What the functions of impl/l03_claim.go answer at every claim: contracts of each of them. -/
import Derived.Test.YtdabmnhbmdaodaaStamp
import Derived.Test.YtdabmnhbmdaodaaGroupMore
import Derived.Test.YtdabmnhbmdaodaaClaimBase
namespace Go.Proofs.Ytdabmnhbmdaodaa
open Go.RowKit

set_option maxHeartbeats 400000 in
theorem claimOk_any (ck ch ct cq cv : Int) (w : World) :
    Calls Try.prog 94 #[.agg #[.int .i64 ck, .int .i64 ch, .int .i64 ct, .int .i64 cq, .int .i64 cv]] w fun e w' => e = .returned (.bool (clB ck ch ct cq cv)) ∧ Below w.heap.size w w' := by
  have D := Box.new w 37 #[.int .i64 ck, .int .i64 ch, .int .i64 ct, .int .i64 cq, .int .i64 cv]
  have hb0 := bel_alloc w (.cells #[.int .i64 ck, .int .i64 ch, .int .i64 ct, .int .i64 cq, .int .i64 cv] 37)
  rcases h1 : inB ck 1 2 with _ | _
  · have e := Lib.hid (clB_1 h1 ch ct cq cv)
    go_enter Try.func94, Try.ntmps94
    go_wp2_with (go_at_call 86; refine (within_any _ _ _ _).mono ?_; rintro e w' ⟨rfl, rfl⟩)
    go_ret
    exact ⟨by rw [e.out]; rfl, hb0⟩
  rcases h2 : inB ch 0 3 with _ | _
  · have e := Lib.hid (clB_2 h2 ck ct cq cv)
    go_enter Try.func94, Try.ntmps94
    go_wp2_with (go_at_call 86; refine (within_any _ _ _ _).mono ?_; rintro e w' ⟨rfl, rfl⟩)
    go_ret
    exact ⟨by rw [e.out]; rfl, hb0⟩
  rcases h3 : stB ct cq with _ | _
  · have e := Lib.hid (clB_3 h3 ck ch cv)
    go_enter Try.func94, Try.ntmps94
    go_wp2_with (first | (go_at_call 86; refine (within_any _ _ _ _).mono ?_; rintro e w' ⟨rfl, rfl⟩) | (go_at_call 103; refine (stampOk_any ct cq _).mono ?_; rintro e w1 ⟨rfl, hb1⟩))
    go_ret
    exact ⟨by rw [e.out]; rfl, bel_trans hb0 hb1⟩
  · have e := Lib.hid (clB_4 h1 h2 h3 cv)
    go_enter Try.func94, Try.ntmps94
    go_wp2_with (first | (go_at_call 86; refine (within_any _ _ _ _).mono ?_; rintro e w' ⟨rfl, rfl⟩) | (go_at_call 103; refine (stampOk_any ct cq _).mono ?_; rintro e w1 ⟨rfl, hb1⟩; obtain ⟨d0, d1, d2, d3, d4⟩ := (D.later hb1 D.lt).five))
    go_ret
    exact ⟨by rw [e.out]; rfl, bel_trans hb0 hb1⟩

/-- A mixer is made: a new variable that has 7. -/
theorem mixer_any (w : World) :
    Calls Try.prog 96 #[] w fun e w' => e = .returned (.func (.func 104) #[] #[.pointer (some ⟨w.heap.size, 0, none⟩)]) ∧ Box w' w.heap.size 2 #[.int .i64 7] ∧ Below w.heap.size w w' := by
  have D := Box.new w 2 #[.int .i64 7]
  go_enter Try.func96, Try.ntmps96
  go_wp2
  go_ret
  exact ⟨rfl, D, bel_alloc _ _⟩

set_option maxHeartbeats 400000 in
/-- Numbers are mixed into what a mixer has. -/
theorem mixIn_any (g b n : Nat) (zs : List Int) (x : Int) (w : World) (hx0 : 0 ≤ x) (hx1 : x ≤ 2147483646) (hz : mixable zs) (hl : zs.length = n) (hn : n ≤ 16)
    (hB : Box w g 2 #[.int .i64 x]) (hr : Box w b 2 (zs.map (Value.int .i64)).toArray) (hne : b ≠ g) :
    Calls Try.prog 104 #[.slice (some ⟨b, 0, none⟩) n n, .pointer (some ⟨g, 0, none⟩)] w fun e w' => e = .returned (.int .i64 (mixN x zs)) ∧ w.grownBy w' (some g) := by
  have HZ := Lib.hid hz
  have HL := Lib.hid hl
  have HX := Lib.hid (And.intro hx0 hx1)
  have HR := Lib.hid hr
  clear hz hl hr hx0 hx1
  go_enter Try.func104, Try.ntmps104
  go_wp2_with fail
  go_loopw [8] (fun i wr => ∃ (k : Nat) (y : Int), k ≤ n ∧ i = .int .i64 k ∧ Hid (mixN x (zs.take k) = y) ∧ Box wr g 2 #[.int .i64 y] ∧ w.grownBy wr (some g)) (fun i _ => n - (intOf i).toNat)
  case atStart => exact ⟨0, x, by omega, rfl, rfl, hB, grown_refl _ _⟩
  case round =>
    obtain ⟨k, y, hk, rfl, hy, Y, G⟩ := hrel
    have y0 := Y.cell 0
    have fy := Y.frozen
    by_cases hlt : k < n
    · have hr := (HR.out.kept G (by intro e; injection e with e; exact hne e.symm)).ints (i := k) (by rw [HL.out]; exact hlt)
      have hzk := HZ.out k (by rw [HL.out]; exact hlt)
      have HS : Hid (mixN x (zs.take (k + 1)) = mix1 y (nth zs k)) := by show _ = _; rw [mixN_snoc (by rw [HL.out]; exact hlt), hy.out]
      obtain ⟨hy0, hy1⟩ : 0 ≤ y ∧ y ≤ 2147483646 := by rw [← hy.out]; exact mixN_bd _ _ HX.out.1 HX.out.2
      generalize nth zs k = z at hr hzk HS
      obtain ⟨hz0, hz1⟩ := hzk
      go_wp2
      go_roundw
      case rel => exact ⟨k + 1, _, by omega, by go_num, HS.out, Y.set 0 (.int .i64 (mix1 y z)), grown_set G 0 _⟩
      case measure => simp [intOf]; omega
    · have hz := HL.out
      have HE : Hid (mixN x zs = y) := by show _ = _; rw [← hy.out, List.take_of_length_le (by omega)]
      clear hz
      go_wp2
      go_ret
      exact ⟨by rw [HE.out]; rfl, G⟩

set_option maxHeartbeats 400000 in
theorem digest_any (ck ch ct cq cv : Int) (w : World) :
    Calls Try.prog 97 #[.agg #[.int .i64 ck, .int .i64 ch, .int .i64 ct, .int .i64 cq, .int .i64 cv]] w fun e w' => e = .returned (.int .i64 (digN ck ch ct cq cv)) ∧ Below w.heap.size w w' := by
  have D := Box.new w 37 #[.int .i64 ck, .int .i64 ch, .int .i64 ct, .int .i64 cq, .int .i64 cv]
  have hb0 := bel_alloc w (.cells #[.int .i64 ck, .int .i64 ch, .int .i64 ct, .int .i64 cq, .int .i64 cv] 37)
  go_enter Try.func97, Try.ntmps97
  go_wp2_with fail
  generalize (w.alloc _ : World) = w0 at hb0 D ⊢
  refine (claimOk_any ck ch ct cq cv w0).mono ?_
  rintro e w1 ⟨rfl, hb1⟩
  have D1 := D.later hb1 D.lt
  have E1 := bel_trans hb0 hb1
  clear D hb0 hb1
  rcases h1 : clB ck ch ct cq cv with _ | _
  · have e := Lib.hid (digN_no h1)
    go_wp2
    go_ret
    exact ⟨by rw [e.out]; rfl, E1⟩
  have e := Lib.hid (digN_yes h1)
  have H1 := Lib.hid (mixable_claim h1)
  go_wp2_with fail
  refine (mixer_any w1).mono ?_
  rintro e w2 ⟨rfl, M, hb2⟩
  have D2 := D1.later hb2 D1.lt
  have E2 := bel_trans E1 hb2
  have hs := E1.size
  clear D1 hb2 E1
  obtain ⟨d0, d1, d2, d3, d4⟩ := D2.five
  have R := Box.new w2 2 #[.int .i64 ck, .int .i64 ch, .int .i64 ct, .int .i64 cq, .int .i64 cv]
  have M3 := M.alloc (.cells #[.int .i64 ck, .int .i64 ch, .int .i64 ct, .int .i64 cq, .int .i64 cv] 2)
  have E3 := bel_trans E2 (bel_alloc w2 (.cells #[.int .i64 ck, .int .i64 ch, .int .i64 ct, .int .i64 cq, .int .i64 cv] 2))
  have hne := Nat.ne_of_gt M.lt
  go_wp2_with fail
  generalize (w2.alloc _ : World) = w3 at R M3 E3 ⊢
  refine (mixIn_any w1.heap.size w2.heap.size 5 [ck, ch, ct, cq, cv] 7 w3 (by omega) (by omega) H1.out rfl (by omega) M3 R hne).mono ?_
  rintro e w4 ⟨rfl, G⟩
  go_wp2
  go_ret
  exact ⟨by rw [e.out]; rfl, bel_grown E3 G hs⟩

end Go.Proofs.Ytdabmnhbmdaodaa
