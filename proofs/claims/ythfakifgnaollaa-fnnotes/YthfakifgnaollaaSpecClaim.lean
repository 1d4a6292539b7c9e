/- What the model's functions of spec/l03_claim.go answer at every claim: contracts of each of them. -/
import Derived.Test.YthfakifgnaollaaSpecStamp
import Derived.Test.YthfakifgnaollaaGroupMore
import Derived.Test.YthfakifgnaollaaClaimBase
namespace Go.Proofs.Ythfakifgnaollaa
open Go.RowKit

theorem l3M_any (w : World) : Calls Try.prog 50 #[] w fun e w' => e = .returned (.int .i64 2147483647) ∧ w = w' := by
  go_enter Try.func50, Try.ntmps50
  go_wp2
  go_ret
  exact ⟨rfl, rfl⟩

theorem l3Value_any (x : Int) (w : World) : Calls Try.prog 31 #[.int .i64 x] w fun e w' => e = .returned (.bool (inB x 0 9999)) ∧ w = w' := by
  go_enter Try.func31, Try.ntmps31
  go_wp2_with (go_at_call 26; refine (l1In_any _ _ _ _).mono ?_; rintro e w' ⟨rfl, rfl⟩)
  go_ret
  exact ⟨rfl, rfl⟩

set_option maxHeartbeats 400000 in
theorem specClaim_any (ck ch ct cq cv : Int) (w : World) :
    Calls Try.prog 77 #[.agg #[.int .i64 ck, .int .i64 ch, .int .i64 ct, .int .i64 cq, .int .i64 cv]] w fun e w' => e = .returned (.bool (clB ck ch ct cq cv)) ∧ Below w.heap.size w w' := by
  have D := Box.new w 83 #[.int .i64 ck, .int .i64 ch, .int .i64 ct, .int .i64 cq, .int .i64 cv]
  have hb0 := bel_alloc w (.cells #[.int .i64 ck, .int .i64 ch, .int .i64 ct, .int .i64 cq, .int .i64 cv] 83)
  rcases h1 : inB ck 1 2 with _ | _
  · have e := Lib.hid (clB_1 h1 ch ct cq cv)
    go_enter Try.func77, Try.ntmps77
    go_wp2_with (go_at_call 26; refine (l1In_any _ _ _ _).mono ?_; rintro e w' ⟨rfl, rfl⟩)
    go_ret
    exact ⟨by rw [e.out]; rfl, hb0⟩
  rcases h2 : inB ch 0 3 with _ | _
  · have e := Lib.hid (clB_2 h2 ck ct cq cv)
    go_enter Try.func77, Try.ntmps77
    go_wp2_with (go_at_call 26; refine (l1In_any _ _ _ _).mono ?_; rintro e w' ⟨rfl, rfl⟩)
    go_ret
    exact ⟨by rw [e.out]; rfl, hb0⟩
  rcases h3 : stB ct cq with _ | _
  · have e := Lib.hid (clB_3 h3 ck ch cv)
    go_enter Try.func77, Try.ntmps77
    go_wp2_with (first | (go_at_call 26; refine (l1In_any _ _ _ _).mono ?_; rintro e w' ⟨rfl, rfl⟩) | (go_at_call 30; refine (specStampOk_any ct cq _).mono ?_; rintro e w1 ⟨rfl, hb1⟩))
    go_ret
    exact ⟨by rw [e.out]; rfl, bel_trans hb0 hb1⟩
  · have e := Lib.hid (clB_4 h1 h2 h3 cv)
    go_enter Try.func77, Try.ntmps77
    go_wp2_with (first | (go_at_call 26; refine (l1In_any _ _ _ _).mono ?_; rintro e w' ⟨rfl, rfl⟩) | (go_at_call 31; refine (l3Value_any _ _).mono ?_; rintro e w' ⟨rfl, rfl⟩) | (go_at_call 30; refine (specStampOk_any ct cq _).mono ?_; rintro e w1 ⟨rfl, hb1⟩; obtain ⟨d0, d1, d2, d3, d4⟩ := (D.later hb1 D.lt).five))
    go_ret
    exact ⟨by rw [e.out]; rfl, bel_trans hb0 hb1⟩

set_option maxHeartbeats 400000 in
theorem l3Mix_any (b n : Nat) (zs : List Int) (w : World) (hz : mixable zs) (hl : zs.length = n) (hn : n ≤ 16) (hr : Box w b 2 (zs.map (Value.int .i64)).toArray) :
    Calls Try.prog 78 #[.slice (some ⟨b, 0, none⟩) n n] w fun e w' => e = .returned (.int .i64 (mixN 7 zs)) ∧ Below w.heap.size w w' := by
  have HZ := Lib.hid hz
  have HL := Lib.hid hl
  have HR := Lib.hid hr
  clear hz hl hr
  go_enter Try.func78, Try.ntmps78
  go_wp2_with fail
  go_loopw [3, 4] (fun a i wr => ∃ (k : Nat) (y : Int), k ≤ n ∧ i = .int .i64 k ∧ a = .int .i64 y ∧ Hid (mixN 7 (zs.take k) = y) ∧ Below w.heap.size w wr) (fun _ i _ => n - (intOf i).toNat)
  case atStart => exact ⟨0, 7, by omega, rfl, rfl, rfl, Below.refl _ _⟩
  case round =>
    obtain ⟨k, y, hk, rfl, rfl, hy, E⟩ := hrel
    by_cases hlt : k < n
    · have R := HR.out.later E HR.out.lt
      have hr := After.cell (a := ⟨b, k, none⟩) R.lt (R.ints (i := k) (by rw [HL.out]; exact hlt))
      have hzk := HZ.out k (by rw [HL.out]; exact hlt)
      have HS : Hid (mixN 7 (zs.take (k + 1)) = mix1 y (nth zs k)) := by show _ = _; rw [mixN_snoc (by rw [HL.out]; exact hlt), hy.out]
      obtain ⟨hy0, hy1⟩ : 0 ≤ y ∧ y ≤ 2147483646 := by rw [← hy.out]; exact mixN_bd _ _ (by omega) (by omega)
      generalize nth zs k = z at hr hzk HS
      obtain ⟨hz0, hz1⟩ := hzk
      have hlt' : (k : Int) < (n : Int) := by omega
      have i1 : IntKind.i64.wrap (48271 * y) = 48271 * y := IntWalk.i64_in _ (by omega)
      have i2 : IntKind.i64.wrap (48271 * y + z) = 48271 * y + z := IntWalk.i64_in _ (by omega)
      have i3 : IntKind.i64.wrap (48271 * y + z + 1) = 48271 * y + z + 1 := IntWalk.i64_in _ (by omega)
      have ht := mix1_tmod hy0 hz0
      have i4 : IntKind.i64.wrap (mix1 y z) = mix1 y z := IntWalk.i64_in _ (by have := mix1_bd y z; omega)
      clear R
      go_wp2_with fail
      refine wp_region_after (by kernel_rfl) (by kernel_rfl) ?_
      repeat (first | go_big_quiet_step ((go_at_call 50; exact after_same (l3M_any _))) | quiet_step ((go_at_call 50; exact after_same (l3M_any _))))
      refine wpQuiet_nil ?_
      intro p
      clear i1 i2 i3 i4 ht
      go_wp2
      go_roundw
      case rel => exact ⟨k + 1, mix1 y z, by omega, by go_num, rfl, HS.out, bel_trans E p.bel⟩
      case measure => simp [intOf]; omega
    · have hz := HL.out
      have HE : Hid (mixN 7 zs = y) := by show _ = _; rw [← hy.out, List.take_of_length_le (by omega)]
      clear hz
      go_wp2
      go_ret
      exact ⟨by rw [HE.out]; rfl, E⟩

set_option maxHeartbeats 400000 in
theorem specDigest_any (ck ch ct cq cv : Int) (w : World) :
    Calls Try.prog 79 #[.agg #[.int .i64 ck, .int .i64 ch, .int .i64 ct, .int .i64 cq, .int .i64 cv]] w fun e w' => e = .returned (.int .i64 (digN ck ch ct cq cv)) ∧ Below w.heap.size w w' := by
  have D := Box.new w 83 #[.int .i64 ck, .int .i64 ch, .int .i64 ct, .int .i64 cq, .int .i64 cv]
  have hb0 := bel_alloc w (.cells #[.int .i64 ck, .int .i64 ch, .int .i64 ct, .int .i64 cq, .int .i64 cv] 83)
  go_enter Try.func79, Try.ntmps79
  go_wp2_with fail
  generalize (w.alloc _ : World) = w0 at hb0 D ⊢
  refine (specClaim_any ck ch ct cq cv w0).mono ?_
  rintro e w1 ⟨rfl, hb1⟩
  have D1 := D.later hb1 D.lt
  have E1 := bel_trans hb0 hb1
  clear D hb0 hb1
  rcases h1 : clB ck ch ct cq cv with _ | _
  · have e := Lib.hid (digN_no h1)
    go_wp2
    go_ret
    exact ⟨by rw [e.out]; rfl, E1⟩
  have e := Lib.hid (digN_yes h1)
  have H1 := Lib.hid (mixable_claim h1)
  obtain ⟨d0, d1, d2, d3, d4⟩ := D1.five
  have R := Box.new w1 2 #[.int .i64 ck, .int .i64 ch, .int .i64 ct, .int .i64 cq, .int .i64 cv]
  have E3 := bel_trans E1 (bel_alloc w1 (.cells #[.int .i64 ck, .int .i64 ch, .int .i64 ct, .int .i64 cq, .int .i64 cv] 2))
  go_wp2_with fail
  generalize (w1.alloc _ : World) = w3 at R E3 ⊢
  refine (l3Mix_any w1.heap.size 5 [ck, ch, ct, cq, cv] w3 H1.out rfl (by omega) R).mono ?_
  rintro e w4 ⟨rfl, G⟩
  go_wp2
  go_ret
  exact ⟨by rw [e.out]; rfl, bel_trans E3 G⟩

end Go.Proofs.Ythfakifgnaollaa
