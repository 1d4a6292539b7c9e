/- The law FnJoined answers true, whatever bytes it is given: its walk; conditions: the bytes can be read. -/
import Derived.Test.YtdabmnhbmdaodaaDrawJoin
import Derived.Test.YtdabmnhbmdaodaaJoin
import Derived.Test.YtdabmnhbmdaodaaSpecCert
import Derived.Test.YtdabmnhbmdaodaaBig
namespace Go.Proofs.Ytdabmnhbmdaodaa
open Go.RowKit

theorem puts_again {J : List (Int × Int)} (h : SSrt J) (a : List (Int × Int)) (ha : ∀ k, of k J = [] → of k a = []) : puts (J ++ a) = J := by
  refine same_eq (puts_srt _).srt h.srt fun k => ?_
  rw [puts_of, of_app]
  have hl := ssrt_of h k
  match hm : of k J, hl with
  | [], _ => rw [ha k hm]; rfl
  | [x], _ => rfl
theorem puts_self (l : List (Int × Int)) : puts (puts l ++ puts l) = puts l := puts_again (puts_srt l) _ (fun _ h => h)
theorem puts_part (a b : List (Int × Int)) : puts (puts (a ++ b) ++ a) = puts (a ++ b) := by
  refine puts_again (puts_srt _) a (fun k h => ?_)
  rw [puts_of, of_app] at h
  match hm : of k a with
  | [] => rfl
  | x :: l => rw [hm] at h; simp at h

/-- The answered list as a slice: at A0, of capacity c0. -/
theorem Own.form {w w' : World} {u : Value} {J : List (Int × Int)} (h : Own w u J w') : ∃ A0 c0, u = .slice A0 J.length c0 ∧ Pairs w' w'.heap.size A0 J.length J ∧ Slc w' (.slice A0 J.length c0) J := by
  rcases h.1 with ⟨rfl, h2⟩ | ⟨g, cap, _, rfl, _, _, h3⟩
  · subst h2
    exact ⟨none, 0, rfl, ⟨rfl, fun h => absurd h (by simp)⟩, .inl ⟨rfl, rfl⟩⟩
  · exact ⟨_, _, rfl, h3.pairs, .inr ⟨g, 0, _, cap, rfl, h3.pairs⟩⟩

set_option maxHeartbeats 1000000 in
theorem like_is (A A' : Option Addr) (n cap cap' : Nat) (ps : List (Int × Int)) (w : World) (hm : n ≤ 1048576) (hr : Pairs w w.heap.size A n ps) (hr' : Pairs w w.heap.size A' n ps) :
    Calls Try.prog 13 #[.slice A n cap, .slice A' n cap'] w fun e w' => e = .returned (.bool true) ∧ Below w.heap.size w w' := by
  have HR := Lib.hid hr
  have HR' := Lib.hid hr'
  clear hr hr'
  go_enter Try.func13, Try.ntmps13
  go_wp2_with fail
  go_loopw [5] (fun i wr => ∃ k : Nat, k ≤ n ∧ i = .int .i64 k ∧ Below w.heap.size w wr) (fun i _ => n - (intOf i).toNat)
  case atStart => exact ⟨0, Nat.zero_le _, rfl, Below.refl _ _⟩
  case round =>
    obtain ⟨k, hk, rfl, hb⟩ := hrel
    by_cases hlt : k < n
    · obtain ⟨b, o, hA, hbB, hcell⟩ := HR.out.2 (by omega)
      obtain ⟨b', o', hA', hbB', hcell'⟩ := HR'.out.2 (by omega)
      subst hA hA'
      obtain ⟨g0, g1⟩ := hcell k hlt
      obtain ⟨h0, h1⟩ := hcell' k hlt
      have hz := hb.size
      have g0 := After.cell (w := wr) (a := ⟨b, o + k * 2, none⟩) (by simp; omega) ((hb.cell (p := ⟨b, o + k * 2, none⟩) hbB).trans g0)
      have g1 := After.cell (w := wr) (a := ⟨b, o + k * 2 + 1, none⟩) (by simp; omega) ((hb.cell (p := ⟨b, o + k * 2 + 1, none⟩) hbB).trans g1)
      have h0 := After.cell (w := wr) (a := ⟨b', o' + k * 2, none⟩) (by simp; omega) ((hb.cell (p := ⟨b', o' + k * 2, none⟩) hbB').trans h0)
      have h1 := After.cell (w := wr) (a := ⟨b', o' + k * 2 + 1, none⟩) (by simp; omega) ((hb.cell (p := ⟨b', o' + k * 2 + 1, none⟩) hbB').trans h1)
      generalize pth ps k = x at g0 g1 h0 h1
      obtain ⟨x, y⟩ := x
      have hlt' : (k : Int) < (n : Int) := by omega
      clear hcell hcell'
      go_wp2_with fail
      refine wp_region_after (by kernel_rfl) (by kernel_rfl) ?_
      repeat (first | go_big_quiet_step (fail) | quiet_step (fail))
      refine wpQuiet_nil ?_
      intro pw
      have E3 := bel_trans hb pw.bel
      go_wp2
      go_roundw
      case rel => exact ⟨k + 1, by omega, by go_num, E3⟩
      case measure => simp [intOf]; omega
    · go_wp2
      go_ret
      exact ⟨rfl, hb⟩

theorem joined_big (A : Option Addr) (n cap : Nat) (w : World) (hm : n ≤ maxLen) (hb : 4096 < n) :
    Calls Try.prog 3 #[.slice A n cap] w fun e w' => e = .returned (.bool true) ∧ Below w.heap.size w w' := by
  have hd : decide (4096 < n) = true := by simpa using hb
  go_enter Try.func3, Try.ntmps3
  go_wp2_with (go_at_call 10; refine (big_any A n cap _ hm).mono ?_; rintro e w' ⟨rfl, rfl⟩)
  go_ret
  exact ⟨rfl, Below.refl _ _⟩

set_option maxRecDepth 100000 in
set_option maxHeartbeats 4000000 in
theorem joined_small (A : Option Addr) (n cap : Nat) (w : World) (hn : n ≤ 4096) (hB : Bytes w w.heap.size A n) :
    Calls Try.prog 3 #[.slice A n cap] w fun e w' => e = .returned (.bool true) ∧ Below w.heap.size w w' := by
  have hd : decide (4096 < n) = false := by simpa using hn
  have HM : Hid (n ≤ maxLen) := by show n ≤ maxLen; unfold maxLen; omega
  have HB := Lib.hid hB
  clear hB
  go_enter Try.func3, Try.ntmps3
  go_wp2_with fail
  refine (big_any A n cap _ HM.out).mono ?_
  rintro e w' ⟨rfl, rfl⟩
  go_wp2_with fail
  refine (drawJoin_any A n cap w hn HB.out).mono ?_
  rintro e w1 ⟨p, pc, a, p', pc', b, rfl, La, Lb, E1⟩
  have hal := La.len
  have hbl := Lb.len
  have Pa := La.pairs
  have Pb := Lb.pairs
  obtain ⟨J, hJ⟩ : ∃ J, puts (a ++ b) = J := ⟨_, rfl⟩
  have hJl : J.length ≤ a.length + b.length := by
    rw [← hJ]
    have := puts_le (a ++ b)
    rwa [List.length_append] at this
  have hSS : SSrt J := hJ ▸ puts_srt _
  have h1 := Lib.hid (show puts (J ++ J) = J by rw [← hJ]; exact puts_self _)
  have h2 := Lib.hid (show puts (J ++ a) = J by rw [← hJ]; exact puts_part a b)
  replace hJ := Lib.hid hJ
  clear La Lb
  go_wp2_with fail
  refine (join_is _ _ a b w1 (by omega) (.inr ⟨p, 0, _, pc, rfl, Pa⟩) (.inr ⟨p', 0, _, pc', rfl, Pb⟩)).mono ?_
  rintro e w2 ⟨u, rfl, hown⟩
  rw [hJ.out] at hown
  obtain ⟨A0, c0, rfl, PJ, SJ⟩ := hown.form
  have E2 := bel_trans E1 hown.2
  replace Pa := Pa.later hown.2
  replace Pb := Pb.later hown.2
  clear hown E1
  go_wp2_with fail
  refine (specJoin_is _ _ _ _ pc pc' a b w2 (by omega) Pa Pb).mono ?_
  rintro e w3 ⟨q, c, rfl, hw0, hb3⟩
  rw [hJ.out] at hw0 ⊢
  have E3 := bel_trans E2 hb3
  replace Pa := Pa.later hb3
  replace PJ := PJ.later hb3
  replace SJ := SJ.later hb3
  clear Pb E2 hb3
  go_wp2_with fail
  refine (like_is A0 _ J.length c0 c J w3 (by omega) PJ hw0).mono ?_
  rintro e w4 ⟨rfl, hb4⟩
  have E4 := bel_trans E3 hb4
  replace Pa := Pa.later hb4
  replace PJ := PJ.later hb4
  replace SJ := SJ.later hb4
  clear E3 hb4 hw0
  go_wp2_with fail
  refine (join_is _ _ J J w4 (by omega) SJ SJ).mono ?_
  rintro e w5 ⟨u, rfl, hown⟩
  rw [h1.out] at hown
  obtain ⟨A1, c1, rfl, P1, _⟩ := hown.form
  have E5 := bel_trans E4 hown.2
  replace Pa := Pa.later hown.2
  replace PJ := PJ.later hown.2
  replace SJ := SJ.later hown.2
  clear E4 hown
  go_wp2_with fail
  refine (like_is A1 A0 J.length c1 c0 J w5 (by omega) P1 PJ).mono ?_
  rintro e w6 ⟨rfl, hb6⟩
  have E6 := bel_trans E5 hb6
  replace Pa := Pa.later hb6
  replace PJ := PJ.later hb6
  replace SJ := SJ.later hb6
  clear E5 hb6 P1
  go_wp2_with fail
  refine (join_is _ _ J a w6 (by omega) SJ (.inr ⟨p, 0, _, pc, rfl, Pa⟩)).mono ?_
  rintro e w7 ⟨u, rfl, hown⟩
  rw [h2.out] at hown
  obtain ⟨A2, c2, rfl, P2, _⟩ := hown.form
  have E7 := bel_trans E6 hown.2
  replace PJ := PJ.later hown.2
  clear E6 hown Pa SJ
  go_wp2_with fail
  refine (like_is A2 A0 J.length c2 c0 J w7 (by omega) P2 PJ).mono ?_
  rintro e w8 ⟨rfl, hb8⟩
  have E8 := bel_trans E7 hb8
  have HPJ := Lib.hid (PJ.later hb8)
  replace hSS := Lib.hid hSS
  clear E7 hb8 P2 PJ
  go_wp2_with fail
  go_loopw [6] (fun iv wr => ∃ k : Nat, 0 < k ∧ iv = .int .i64 k ∧ Below w8.heap.size w8 wr) (fun i _ => J.length - (intOf i).toNat)
  case atStart => exact ⟨1, by omega, rfl, Below.refl _ _⟩
  case round =>
    obtain ⟨k, hk, rfl, hb⟩ := hrel
    by_cases hlt : k < J.length
    · have hlt' : (k : Int) < (J.length : Int) := by omega
      obtain ⟨r, hr, hr'⟩ : ∃ r : Nat, (k : Int) - 1 = (r : Int) ∧ r + 1 = k := ⟨k - 1, by omega, by omega⟩
      have hrl : (r : Int) < (J.length : Int) := by omega
      obtain ⟨bb, o, hA, hbB, hcell⟩ := HPJ.out.2 (by omega)
      subst hA
      have c3 := (hb.cell (p := ⟨bb, o + k * 2, none⟩) hbB).trans (hcell k hlt).1
      have c4 := (hb.cell (p := ⟨bb, o + r * 2, none⟩) hbB).trans (hcell r (by omega)).1
      have hz := hb.size
      have g3 := After.cell (w := wr) (a := ⟨bb, o + k * 2, none⟩) (by simp; omega) c3
      have g4 := After.cell (w := wr) (a := ⟨bb, o + r * 2, none⟩) (by simp; omega) c4
      have hord : (pth J r).1 < (pth J k).1 := by
        rw [pth_lt (by omega : r < J.length), pth_lt hlt]
        exact List.pairwise_iff_getElem.1 hSS.out r k (by omega) hlt (by omega)
      generalize (pth J r).1 = y at g4 hord
      generalize (pth J k).1 = x at g3 hord
      have hno : ¬ (x ≤ y) := by omega
      replace hr' := Lib.hid hr'
      clear hcell c3 c4
      go_wp2_with fail
      refine wp_region_after (by kernel_rfl) (by kernel_rfl) ?_
      repeat (first | go_big_quiet_step (fail) | quiet_step (fail))
      refine wpQuiet_nil ?_
      intro pw
      have E9 := bel_trans hb pw.bel
      go_wp2
      go_roundw
      case rel => exact ⟨k + 1, by omega, by go_num, E9⟩
      case measure => simp [intOf]; omega
    · have hge : ¬ (k : Int) < (J.length : Int) := by omega
      have hle : (J.length : Int) ≤ (a.length : Int) + (b.length : Int) := by omega
      go_wp2
      go_ret
      exact ⟨rfl, bel_trans E8 hb⟩

end Go.Proofs.Ytdabmnhbmdaodaa
