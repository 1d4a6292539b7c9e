/- The library's stable sort over a slice of pairs, fourth part: merging where the other side is a single pair. -/
import Derived.Test.YtghdnokjgmmgiaaGreatSortSym
namespace Go.Proofs.YtghdnokjgmmgiaaGreat
open Go.RowKit

set_option maxRecDepth 100000 in
set_option maxHeartbeats 800000 in
/-- One pair goes into a range in order ahead of it. -/
theorem symLast_is (g n cap : Nat) (ai mi bi : Int) (A X B : List (Int × Int)) (y : Int × Int) (w : World) (hn : n ≤ 4194304) (hl : A.length + X.length + 1 + B.length = n)
    (hA : ai = (A.length : Int)) (hm : mi = ((A.length + X.length : Nat) : Int)) (hb : bi = ((A.length + X.length + 1 : Nat) : Int)) (hX2 : 2 ≤ X.length) (hX : Srt X) (H : Held w g (A ++ (X ++ (y :: B)))) :
    Calls Tryz.prog 134 #[.slice (some ⟨g, 0, none⟩) n cap, .int .i64 ai, .int .i64 mi, .int .i64 bi, (.func (Fn.func 115) #[] #[])] w (Sorts w g A (X ++ [y]) B) := by
  generalize hb' : A.length + X.length + 1 = b at hb hl
  generalize hm' : A.length + X.length = m at hm hb'
  generalize ha' : A.length = a at hA hm'
  subst hA hm hb
  generalize hd : A ++ (X ++ (y :: B)) = d at H
  have HH := Lib.hid H
  have hX0 := Lib.hid hX
  have hd := Lib.hid hd
  clear H hX
  have hma : ((m : Int) - (a : Int) == 1) = false := by simp; omega
  have hbm : ((b : Int) - (m : Int) == 1) = true := by simp; omega
  go_enter Tryz.func134, Tryz.ntmps134
  go_wp2_with fail
  go_loopw [14, 15] (fun iv jv wr => ∃ i j : Nat, iv = .int .i64 i ∧ jv = .int .i64 j ∧ a ≤ i ∧ i ≤ j ∧ j ≤ m ∧ (a < i → (pth X (i - 1 - a)).1 ≤ y.1) ∧ (j < m → y.1 < (pth X (j - a)).1) ∧ Below w.heap.size w wr) (fun i j _ => (intOf j).toNat - (intOf i).toNat)
  case atStart => exact ⟨a, m, rfl, rfl, Nat.le_refl _, by omega, Nat.le_refl _, by omega, by omega, Below.refl _ _⟩
  case round =>
    obtain ⟨i, j, rfl, rfl, h1, h2, h3, h4, h5, hbel⟩ := hrel
    have hh := HH.out.later hbel
    have hlen : d.length = n := by rw [← hd.out]; simp only [List.length_append, List.length_cons]; omega
    have hpy : pth d m = y := pth_at (P := A ++ X) (Q := B) (by rw [← hd.out]; simp) (by simp; omega)
    by_cases hij : i < j
    · have hij' : (i : Int) < (j : Int) := by omega
      obtain ⟨h, hmid, hi1, hi2⟩ : ∃ h : Nat, ((i : Int) + (j : Int)) / 2 = (h : Int) ∧ i ≤ h ∧ h < j := ⟨(i + j) / 2, by omega, by omega, by omega⟩
      have hph : pth d h = pth X (h - a) := pth_seg (P := A) (Q := y :: B) hd.out.symm ha'.symm (by omega) (by omega)
      have c0 := hh.at0 h (by omega)
      have c1 := hh.at1 h (by omega)
      have c2 := hh.at0 m (by omega)
      have c3 := hh.at1 m (by omega)
      rw [hph] at c0 c1
      rw [hpy] at c2 c3
      have h4 := Lib.hid h4
      have h5 := Lib.hid h5
      generalize hp : pth X (h - a) = p at c0 c1
      have hp := Lib.hid hp
      have g0 := After.cell (by exact hh.lt) c0
      have g1 := After.cell (by exact hh.lt) c1
      have g2 := After.cell (by exact hh.lt) c2
      have g3 := After.cell (by exact hh.lt) c3
      have hhn : (h : Int) < n := by omega
      have han : (m : Int) < n := by omega
      clear hlen hph hpy hh
      rename_i h4' h5' hp'
      clear h4' h5' hp'
      obtain ⟨y, y'⟩ := y
      obtain ⟨p, p'⟩ := p
      by_cases hlt : y < p
      · have hs : sgn y p = -1 := sgn_lt hlt
        go_wp2_with fail
        refine wp_region_after (by kernel_rfl) (by kernel_rfl) ?_
        repeat (first | go_big_quiet_step ((go_at_call 115; exact after_of (cmpSeal_is hs y' p' _))) | quiet_step ((go_at_call 115; exact after_of (cmpSeal_is hs y' p' _))))
        refine wpQuiet_nil ?_
        intro pw
        go_wp2
        go_roundw
        case rel => exact ⟨i, h, rfl, rfl, h1, hi1, by omega, h4.out, fun _ => by rw [hp.out]; exact hlt, bel_trans hbel pw.bel⟩
        case measure => simp [intOf]; omega
      · obtain ⟨s, hs, hs0, hs1, hsd⟩ := sgn_nn hlt
        go_wp2_with fail
        refine wp_region_after (by kernel_rfl) (by kernel_rfl) ?_
        repeat (first | go_big_quiet_step ((go_at_call 115; exact after_of (cmpSeal_is hs y' p' _))) | quiet_step ((go_at_call 115; exact after_of (cmpSeal_is hs y' p' _))))
        refine wpQuiet_nil ?_
        intro pw
        go_wp2
        go_roundw
        case rel => exact ⟨h + 1, j, by go_num, rfl, by omega, by omega, h3, fun _ => by rw [show h + 1 - 1 - a = h - a by omega, hp.out]; simp only; omega, h5.out, bel_trans hbel pw.bel⟩
        case measure => simp [intOf]; omega
    · obtain rfl : i = j := by omega
      have hi : i - a ≤ X.length := by omega
      have hX1 : ∀ p ∈ X.take (i - a), p.1 ≤ y.1 := by
        intro p hp
        obtain ⟨t, ht, rfl⟩ := mem_pth hp
        rw [List.length_take] at ht
        rw [pth_take (by omega)]
        have := h4 (by omega)
        have h6 := srt_at hX0.out (i := t) (j := i - 1 - a) (by omega) (by omega)
        omega
      have hX2 : ∀ p ∈ X.drop (i - a), y.1 < p.1 := by
        intro p hp
        obtain ⟨t, ht, rfl⟩ := mem_pth hp
        rw [List.length_drop] at ht
        rw [pth_drop]
        have := h5 (by omega)
        have h6 := srt_at hX0.out (i := i - a) (j := i - a + t) (by omega) (by omega)
        omega
      have hX1l : (X.take (i - a)).length = i - a := by rw [List.length_take]; omega
      have hX12 : X.take (i - a) ++ X.drop (i - a) = X := List.take_append_drop _ _
      generalize X.take (i - a) = X1 at hX1 hX1l hX12
      generalize X.drop (i - a) = X2 at hX2 hX12
      have hXl : X1.length + X2.length = X.length := by rw [← hX12]; simp
      have hX12 := Lib.hid hX12
      have hX1 := Lib.hid hX1
      have hX2 := Lib.hid hX2
      rename_i q0 q1 q2 q3
      clear h4 h5 q1 q2 q3
      have hh' : Held wr g (A ++ (X1 ++ (X2 ++ (y :: B)))) := by rw [← List.append_assoc X1, hX12.out, hd.out]; exact hh
      have hh := Lib.hid hh'
      clear hh' hpy hlen
      go_wp2_with fail
      go_loopw [17] (fun kv wr => ∃ k : Nat, kv = .int .i64 k ∧ i ≤ k ∧ k ≤ m ∧ Held wr g (A ++ (X1 ++ (X2.take (k - i) ++ (y :: (X2.drop (k - i) ++ B))))) ∧ w.grownBy wr (some g)) (fun k _ => (intOf k).toNat)
      case atStart =>
        refine ⟨m, rfl, h3, Nat.le_refl _, ?_, grown_bel hbel _⟩
        rw [List.take_of_length_le (by omega), List.drop_of_length_le (by omega)]
        simpa using hh.out
      case round =>
        obtain ⟨k, rfl, hk1, hk2, hhk, hgk⟩ := hrel
        by_cases hki : i < k
        · obtain ⟨r, rfl⟩ : ∃ r, k = r + 1 := ⟨k - 1, by omega⟩
          obtain ⟨z, hz⟩ : ∃ z, X2.drop (r - i) = z :: X2.drop (r - i + 1) := ⟨X2[r - i]'(by omega), List.drop_eq_getElem_cons (by omega)⟩
          have hz' := take_more hz
          rw [show r + 1 - i = r - i + 1 by omega, hz'] at hhk
          generalize hd' : (A ++ (X1 ++ (X2.take (r - i) ++ [z] ++ (y :: (X2.drop (r - i + 1) ++ B))))) = d' at hhk
          have hdl : d'.length = n := by rw [← hd']; simp only [List.length_append, List.length_cons, List.length_take, List.length_drop, List.length_nil]; omega
          have hpz : pth d' r = z := pth_at (P := A ++ (X1 ++ X2.take (r - i))) (Q := y :: (X2.drop (r - i + 1) ++ B)) (by rw [← hd']; simp) (by simp [List.length_take]; omega)
          have hpy : pth d' (r + 1) = y := pth_at (P := A ++ (X1 ++ (X2.take (r - i) ++ [z]))) (Q := X2.drop (r - i + 1) ++ B) (by rw [← hd']; simp) (by simp [List.length_take]; omega)
          have c0 := hhk.at0 (r + 1) (by omega)
          have c1 := hhk.at1 (r + 1) (by omega)
          have c2 := hhk.at0 r (by omega)
          have c3 := hhk.at1 r (by omega)
          rw [hpy] at c0 c1
          rw [hpz] at c2 c3
          have fr := hhk.fr
          have HS := Lib.hid (hhk.swap (r + 1) r hpy hpz)
          have hki' : (i : Int) < (r : Int) + 1 := by omega
          have hkn : (r : Int) < n := by omega
          have hkn' : (r : Int) + 1 < n := by omega
          have hz := Lib.hid hz
          have hd' := Lib.hid hd'
          rename_i q1 q2
          clear q1 q2 hpz hpy hdl hz'
          obtain ⟨y, y'⟩ := y
          obtain ⟨z, z'⟩ := z
          go_wp2
          go_region
          go_wp2
          go_roundw
          case rel =>
            refine ⟨r, by go_num, by omega, by omega, ?_, grown_drew (grown_swap hgk _ _ _ _ _ _ _ _)⟩
            have hs' : swp d' (r + 1) r = A ++ (X1 ++ (X2.take (r - i) ++ ((y, y') :: (X2.drop (r - i) ++ B)))) := by
              rw [swp_comm _ _ _ (by omega), hz.out]
              exact swp_at (x := (z, z')) (y := (y, y')) (P := A ++ (X1 ++ X2.take (r - i))) (Q := []) (R := X2.drop (r - i + 1) ++ B) (by rw [← hd'.out]; simp) (by simp [List.length_take]; omega) (by simp [List.length_take]; omega) (by simp)
            rw [← hs']
            exact HS.out.drew
          case measure => simp [intOf]
        · obtain rfl : k = i := by omega
          rw [Nat.sub_self] at hhk
          go_wp2
          first | go_end0 | go_ret
          refine ⟨X1 ++ y :: X2, ?_, ?_, ?_, rfl, by simpa using hhk, hgk⟩
          · rw [← hX12.out]; simp
          · exact Srt.mid (by rw [hX12.out]; exact hX0.out) hX1.out hX2.out
          · rw [← hX12.out]
            exact Same.mid (Same.refl _) hX2.out

end Go.Proofs.YtghdnokjgmmgiaaGreat
