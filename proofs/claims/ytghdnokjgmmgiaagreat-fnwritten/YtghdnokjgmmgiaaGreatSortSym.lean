/- The library's stable sort over a slice of pairs, third part: merging where one side is a single pair. -/
import Derived.Test.YtghdnokjgmmgiaaGreatSortIns
namespace Go.Proofs.YtghdnokjgmmgiaaGreat
open Go.RowKit

/-- Smaller ones ahead, none smaller behind. -/
theorem Srt.mid2 {Z1 Z2 : List (Int × Int)} {y : Int × Int} (h : Srt (Z1 ++ Z2)) (h1 : ∀ p ∈ Z1, p.1 ≤ y.1) (h2 : ∀ p ∈ Z2, y.1 ≤ p.1) : Srt (Z1 ++ y :: Z2) := by
  have h' := List.pairwise_append.1 h
  refine List.pairwise_append.2 ⟨h'.1, List.pairwise_cons.2 ⟨fun p hp => h2 p hp, h'.2.1⟩, fun p hp q hq => ?_⟩
  rcases List.mem_cons.1 hq with e | e
  · rw [e]; exact h1 p hp
  · exact h'.2.2 p hp q e
theorem sgn_nn {a c : Int} (h : ¬ a < c) : ∃ s : Int, sgn a c = s ∧ 0 ≤ s ∧ s ≤ 1 ∧ decide (s < 0) = false := by
  have := sgn_ge h
  refine ⟨_, rfl, ?_, ?_, ?_⟩ <;> rw [this] <;> split <;> simp
theorem mem_pth {l : List (Int × Int)} {p : Int × Int} (h : p ∈ l) : ∃ i, i < l.length ∧ p = pth l i := by
  obtain ⟨i, hi, rfl⟩ := List.getElem_of_mem h
  exact ⟨i, hi, (pth_lt hi).symm⟩
theorem pth_right (P Q : List (Int × Int)) (i : Nat) : pth (P ++ Q) (P.length + i) = pth Q i := by
  simp [pth, List.getElem?_append_right]
theorem pth_left {P : List (Int × Int)} {i : Nat} (h : i < P.length) (Q : List (Int × Int)) : pth (P ++ Q) i = pth P i := by
  simp [pth, List.getElem?_append_left h]
theorem pth_take {l : List (Int × Int)} {i k : Nat} (h : i < k) : pth (l.take k) i = pth l i := by simp [pth, h]
theorem pth_drop (l : List (Int × Int)) (i k : Nat) : pth (l.drop k) i = pth l (k + i) := by simp [pth, List.getElem?_drop]

theorem pth_seg {d P Y Q : List (Int × Int)} {h m : Nat} (hd : d = P ++ (Y ++ Q)) (hm : m = P.length) (h1 : m ≤ h) (h2 : h < m + Y.length) : pth d h = pth Y (h - m) := by
  subst hd hm
  obtain ⟨t, rfl⟩ : ∃ t, h = P.length + t := ⟨h - P.length, by omega⟩
  rw [pth_right, pth_left (by omega), show P.length + t - P.length = t by omega]

set_option maxRecDepth 100000 in
set_option maxHeartbeats 800000 in
/-- One pair goes into a range in order behind it. -/
theorem symOne_is (g n cap : Nat) (ai mi bi : Int) (A Y B : List (Int × Int)) (x : Int × Int) (w : World) (hn : n ≤ 4194304) (hl : A.length + 1 + Y.length + B.length = n)
    (hA : ai = (A.length : Int)) (hm : mi = ((A.length + 1 : Nat) : Int)) (hb : bi = ((A.length + 1 + Y.length : Nat) : Int)) (hY : Srt Y) (H : Held w g (A ++ (x :: (Y ++ B)))) :
    Calls Tryz.prog 134 #[.slice (some ⟨g, 0, none⟩) n cap, .int .i64 ai, .int .i64 mi, .int .i64 bi, (.func (Fn.func 115) #[] #[])] w (Sorts w g A ([x] ++ Y) B) := by
  generalize hb' : A.length + 1 + Y.length = b at hb
  generalize hm' : A.length + 1 = m at hm hb' hl
  generalize ha' : A.length = a at hA hm'
  subst hA hm hb
  generalize hd : A ++ (x :: (Y ++ B)) = d at H
  have HH := Lib.hid H
  have hY0 := Lib.hid hY
  have hd := Lib.hid hd
  clear H hY
  have hma : ((m : Int) - (a : Int) == 1) = true := by simp; omega
  go_enter Tryz.func134, Tryz.ntmps134
  go_wp2_with fail
  go_loopw [10, 11] (fun iv jv wr => ∃ i j : Nat, iv = .int .i64 i ∧ jv = .int .i64 j ∧ m ≤ i ∧ i ≤ j ∧ j ≤ b ∧ (m < i → (pth Y (i - 1 - m)).1 < x.1) ∧ (j < b → x.1 ≤ (pth Y (j - m)).1) ∧ Below w.heap.size w wr) (fun i j _ => (intOf j).toNat - (intOf i).toNat)
  case atStart => exact ⟨m, b, rfl, rfl, Nat.le_refl _, by omega, Nat.le_refl _, by omega, by omega, Below.refl _ _⟩
  case round =>
    obtain ⟨i, j, rfl, rfl, h1, h2, h3, h4, h5, hbel⟩ := hrel
    have hh := HH.out.later hbel
    have hlen : d.length = n := by rw [← hd.out]; simp only [List.length_append, List.length_cons]; omega
    have hpx : pth d a = x := pth_at (P := A) (Q := Y ++ B) hd.out.symm ha'.symm
    by_cases hij : i < j
    · have hij' : (i : Int) < (j : Int) := by omega
      obtain ⟨h, hmid, hi1, hi2⟩ : ∃ h : Nat, ((i : Int) + (j : Int)) / 2 = (h : Int) ∧ i ≤ h ∧ h < j := ⟨(i + j) / 2, by omega, by omega, by omega⟩
      have hph : pth d h = pth Y (h - m) := pth_seg (P := A ++ [x]) (Q := B) (by rw [← hd.out]; simp) (by simp; omega) (by omega) (by omega)
      have c0 := hh.at0 h (by omega)
      have c1 := hh.at1 h (by omega)
      have c2 := hh.at0 a (by omega)
      have c3 := hh.at1 a (by omega)
      rw [hph] at c0 c1
      rw [hpx] at c2 c3
      have h4 := Lib.hid h4
      have h5 := Lib.hid h5
      generalize hp : pth Y (h - m) = p at c0 c1
      have hp := Lib.hid hp
      have g0 := After.cell (by exact hh.lt) c0
      have g1 := After.cell (by exact hh.lt) c1
      have g2 := After.cell (by exact hh.lt) c2
      have g3 := After.cell (by exact hh.lt) c3
      have hhn : (h : Int) < n := by omega
      have han : (a : Int) < n := by omega
      clear hlen hph hpx hh
      rename_i h4' h5' hp'
      clear h4' h5' hp'
      obtain ⟨x, x'⟩ := x
      obtain ⟨p, p'⟩ := p
      by_cases hlt : p < x
      · have hs : sgn p x = -1 := sgn_lt hlt
        go_wp2_with fail
        refine wp_region_after (by kernel_rfl) (by kernel_rfl) ?_
        repeat (first | go_big_quiet_step ((go_at_call 115; exact after_of (cmpSeal_is hs p' x' _))) | quiet_step ((go_at_call 115; exact after_of (cmpSeal_is hs p' x' _))))
        refine wpQuiet_nil ?_
        intro pw
        go_wp2
        go_roundw
        case rel => exact ⟨h + 1, j, by go_num, rfl, by omega, by omega, h3, fun _ => by rw [show h + 1 - 1 - m = h - m by omega, hp.out]; exact hlt, h5.out, bel_trans hbel pw.bel⟩
        case measure => simp [intOf]; omega
      · have hs := sgn_ge hlt
        go_wp2_with fail
        refine wp_region_after (by kernel_rfl) (by kernel_rfl) ?_
        repeat (first | go_big_quiet_step ((go_at_call 115; exact after_of (cmpSeal_is hs p' x' _))) | quiet_step ((go_at_call 115; exact after_of (cmpSeal_is hs p' x' _))))
        refine wpQuiet_nil ?_
        intro pw
        go_wp2
        go_roundw
        case rel => exact ⟨i, h, rfl, rfl, h1, hi1, by omega, h4.out, fun _ => by rw [hp.out]; simp only; omega, bel_trans hbel pw.bel⟩
        case measure => simp [intOf]; omega
    · obtain rfl : i = j := by omega
      have hi : i - m ≤ Y.length := by omega
      have hY1 : ∀ p ∈ Y.take (i - m), p.1 < x.1 := by
        intro p hp
        obtain ⟨t, ht, rfl⟩ := mem_pth hp
        rw [List.length_take] at ht
        rw [pth_take (by omega)]
        have := h4 (by omega)
        have h6 := srt_at hY0.out (i := t) (j := i - 1 - m) (by omega) (by omega)
        omega
      have hY2 : ∀ p ∈ Y.drop (i - m), x.1 ≤ p.1 := by
        intro p hp
        obtain ⟨t, ht, rfl⟩ := mem_pth hp
        rw [List.length_drop] at ht
        rw [pth_drop]
        have := h5 (by omega)
        have h6 := srt_at hY0.out (i := i - m) (j := i - m + t) (by omega) (by omega)
        omega
      have hY1l : (Y.take (i - m)).length = i - m := by rw [List.length_take]; omega
      have hY12 : Y.take (i - m) ++ Y.drop (i - m) = Y := List.take_append_drop _ _
      generalize Y.take (i - m) = Y1 at hY1 hY1l hY12
      generalize Y.drop (i - m) = Y2 at hY2 hY12
      have hY12 := Lib.hid hY12
      have hY1 := Lib.hid hY1
      have hY2 := Lib.hid hY2
      have h4 := 0
      have h5 := 0
      rename_i q1 q2 q3 q4 q5
      clear h4 h5 q1 q2 q3 q4 q5
      have hh' : Held wr g (A ++ (x :: (Y1 ++ (Y2 ++ B)))) := by rw [← List.append_assoc Y1, hY12.out, hd.out]; exact hh
      have hh := Lib.hid hh'
      clear hh' hpx hlen
      go_wp2_with fail
      go_loopw [13] (fun kv wr => ∃ k : Nat, kv = .int .i64 k ∧ a ≤ k ∧ k + 1 ≤ i ∧ Held wr g (A ++ (Y1.take (k - a) ++ (x :: (Y1.drop (k - a) ++ (Y2 ++ B))))) ∧ w.grownBy wr (some g)) (fun k _ => i - (intOf k).toNat)
      case atStart => exact ⟨a, rfl, Nat.le_refl _, by omega, by simpa using hh.out, grown_bel hbel _⟩
      case round =>
        obtain ⟨k, rfl, hk1, hk2, hhk, hgk⟩ := hrel
        by_cases hki : k + 1 < i
        · obtain ⟨y, hy⟩ : ∃ y, Y1.drop (k - a) = y :: Y1.drop (k - a + 1) := ⟨Y1[k - a]'(by omega), List.drop_eq_getElem_cons (by omega)⟩
          have hYl : Y1.length + Y2.length = Y.length := by rw [← hY12.out]; simp
          generalize hd' : (A ++ (Y1.take (k - a) ++ (x :: (Y1.drop (k - a) ++ (Y2 ++ B))))) = d' at hhk
          have hdl : d'.length = n := by rw [← hd']; simp only [List.length_append, List.length_cons, List.length_take, List.length_drop]; omega
          have hpx : pth d' k = x := pth_at (P := A ++ Y1.take (k - a)) (Q := Y1.drop (k - a) ++ (Y2 ++ B)) (by rw [← hd']; simp) (by simp [List.length_take]; omega)
          have hpy : pth d' (k + 1) = y := pth_at (P := A ++ (Y1.take (k - a) ++ [x])) (Q := Y1.drop (k - a + 1) ++ (Y2 ++ B)) (by rw [← hd', hy]; simp) (by simp [List.length_take]; omega)
          have c0 := hhk.at0 k (by omega)
          have c1 := hhk.at1 k (by omega)
          have c2 := hhk.at0 (k + 1) (by omega)
          have c3 := hhk.at1 (k + 1) (by omega)
          rw [hpx] at c0 c1
          rw [hpy] at c2 c3
          have fr := hhk.fr
          have HS := Lib.hid (hhk.swap k (k + 1) hpx hpy)
          have hki' : (k : Int) < (i : Int) - 1 := by omega
          have hkn : (k : Int) < n := by omega
          have hkn' : (k : Int) + 1 < n := by omega
          have hy := Lib.hid hy
          have hd' := Lib.hid hd'
          rename_i q1 q2
          clear q1 q2 hpx hpy hdl hYl
          obtain ⟨x, x'⟩ := x
          obtain ⟨y, y'⟩ := y
          go_wp2
          go_region
          go_wp2
          go_roundw
          case rel =>
            refine ⟨k + 1, by go_num, by omega, by omega, ?_, grown_drew (grown_swap hgk _ _ _ _ _ _ _ _)⟩
            have hs' : swp d' k (k + 1) = A ++ (Y1.take (k + 1 - a) ++ ((x, x') :: (Y1.drop (k + 1 - a) ++ (Y2 ++ B)))) := by
              rw [show k + 1 - a = k - a + 1 by omega, take_more hy.out]
              exact swp_at (x := (x, x')) (y := (y, y')) (P := A ++ Y1.take (k - a)) (Q := []) (R := Y1.drop (k - a + 1) ++ (Y2 ++ B)) (by rw [← hd'.out, hy.out]; simp) (by simp [List.length_take]; omega) (by simp [List.length_take]; omega) (by simp)
            rw [← hs']
            exact HS.out.drew
          case measure => simp [intOf]; omega
        · have hki' : ¬ (k : Int) < (i : Int) - 1 := by omega
          rw [List.take_of_length_le (by omega), List.drop_of_length_le (by omega)] at hhk
          go_wp2
          first | go_end0 | go_ret
          refine ⟨Y1 ++ x :: Y2, ?_, ?_, ?_, rfl, by simpa using hhk, hgk⟩
          · rw [← hY12.out]; simp; omega
          · exact Srt.mid2 (by rw [hY12.out]; exact hY0.out) (fun p hp => Int.le_of_lt (hY1.out p hp)) hY2.out
          · rw [← hY12.out]
            have e : Same ((Y1 ++ [x]) ++ Y2) (([x] ++ Y1) ++ Y2) := (Same.swap (a := [x]) (b := Y1) fun p hp q hq => by
              simp only [List.mem_singleton] at hp
              have := hY1.out q hq
              rw [hp]
              omega).app (Same.refl _)
            simpa using e

end Go.Proofs.YtghdnokjgmmgiaaGreat
