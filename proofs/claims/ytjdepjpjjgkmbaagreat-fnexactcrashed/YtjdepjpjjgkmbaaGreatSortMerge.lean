/- The library's stable sort over a slice of pairs, fifth part: merging two ranges in order. -/
import Derived.Test.YtjdepjpjjgkmbaaGreatSortSym
import Derived.Deep.CutBlock
namespace Go.Proofs.YtjdepjpjjgkmbaaGreat
open Go.RowKit

/-- Two merged parts, none of the first larger than one of the second, are the whole merged. -/
theorem merge_parts {X1 X2 Y1 Y2 Z1 Z2 : List (Int × Int)} (hX : Srt (X1 ++ X2)) (hY : Srt (Y1 ++ Y2)) (h12 : ∀ p ∈ X1, ∀ q ∈ Y2, p.1 ≤ q.1) (h21 : ∀ p ∈ Y1, ∀ q ∈ X2, p.1 < q.1)
    (s1 : Srt Z1) (e1 : Same Z1 (X1 ++ Y1)) (s2 : Srt Z2) (e2 : Same Z2 (X2 ++ Y2)) : Srt (Z1 ++ Z2) ∧ Same (Z1 ++ Z2) ((X1 ++ X2) ++ (Y1 ++ Y2)) := by
  have hX' := (List.pairwise_append.1 hX).2.2
  have hY' := (List.pairwise_append.1 hY).2.2
  refine ⟨List.pairwise_append.2 ⟨s1, s2, fun p hp q hq => ?_⟩, ?_⟩
  · rcases List.mem_append.1 (e1.mem.1 hp) with hp | hp <;> rcases List.mem_append.1 (e2.mem.1 hq) with hq | hq
    · exact hX' p hp q hq
    · exact h12 p hp q hq
    · exact Int.le_of_lt (h21 p hp q hq)
    · exact hY' p hp q hq
  · refine (e1.app e2).trans ?_
    have e : Same (X1 ++ ((Y1 ++ X2) ++ Y2)) (X1 ++ ((X2 ++ Y1) ++ Y2)) := (Same.refl X1).app ((Same.swap fun p hp q hq => by
      have := h21 q hq p hp
      omega).app (Same.refl Y2))
    simpa using e

/-- Where the two ranges are parted. -/
theorem part_at {X Y : List (Int × Int)} {a m b mid N s e s0 r0 : Nat} (hX : Srt X) (hY : Srt Y) (hXl : a + X.length = m) (hYl : m + Y.length = b) (hmid : mid = (a + b) / 2) (hN : mid + m = N) (he : s + e = N)
    (C : (m ≤ mid ∧ s0 = a ∧ r0 = m) ∨ (mid < m ∧ s0 + b = N ∧ r0 = mid)) (h1 : s0 ≤ s) (h2 : s ≤ r0)
    (F1 : s0 < s → (pth X (s - 1 - a)).1 ≤ (pth Y (e - m)).1) (F2 : s < r0 → (pth Y (e - 1 - m)).1 < (pth X (s - a)).1) :
    (∀ p ∈ X.take (s - a), ∀ q ∈ Y.drop (e - m), p.1 ≤ q.1) ∧ (∀ p ∈ Y.take (e - m), ∀ q ∈ X.drop (s - a), p.1 < q.1) := by
  constructor
  · intro p hp q hq
    obtain ⟨t, ht, rfl⟩ := mem_pth hp
    obtain ⟨u, hu, rfl⟩ := mem_pth hq
    rw [List.length_take] at ht
    rw [List.length_drop] at hu
    rw [pth_take (by omega), pth_drop]
    have h3 := F1 (by omega)
    have h4 := srt_at hX (i := t) (j := s - 1 - a) (by omega) (by omega)
    have h5 := srt_at hY (i := e - m) (j := e - m + u) (by omega) (by omega)
    omega
  · intro p hp q hq
    obtain ⟨t, ht, rfl⟩ := mem_pth hp
    obtain ⟨u, hu, rfl⟩ := mem_pth hq
    rw [List.length_take] at ht
    rw [List.length_drop] at hu
    rw [pth_take (by omega), pth_drop]
    have h3 := F2 (by omega)
    have h4 := srt_at hY (i := t) (j := e - 1 - m) (by omega) (by omega)
    have h5 := srt_at hX (i := s - a) (j := s - a + u) (by omega) (by omega)
    omega

set_option maxRecDepth 100000 in
set_option maxHeartbeats 2000000 in
/-- Two ranges of two or more, where smaller ones are merged rightly. -/
theorem symBig_is (g n cap : Nat) (ai mi bi : Int) (A X Y B : List (Int × Int)) (w : World) (hn : n ≤ 4194304) (hl : A.length + X.length + Y.length + B.length = n)
    (hA : ai = (A.length : Int)) (hm : mi = ((A.length + X.length : Nat) : Int)) (hb : bi = ((A.length + X.length + Y.length : Nat) : Int)) (hX2 : 2 ≤ X.length) (hY2 : 2 ≤ Y.length) (hX : Srt X) (hY : Srt Y) (H : Held w g (A ++ (X ++ (Y ++ B))))
    (ih : ∀ (ai mi bi : Int) (A' X' Y' B' : List (Int × Int)) (w : World), X'.length + Y'.length < X.length + Y.length → A'.length + X'.length + Y'.length + B'.length = n →
      ai = (A'.length : Int) → mi = ((A'.length + X'.length : Nat) : Int) → bi = ((A'.length + X'.length + Y'.length : Nat) : Int) → 0 < X'.length → 0 < Y'.length → Srt X' → Srt Y' → Held w g (A' ++ (X' ++ (Y' ++ B'))) →
      Calls Tryz.prog 258 #[.slice (some ⟨g, 0, none⟩) n cap, .int .i64 ai, .int .i64 mi, .int .i64 bi, (.func (Fn.func 250) #[] #[])] w (Sorts w g A' (X' ++ Y') B')) :
    Calls Tryz.prog 258 #[.slice (some ⟨g, 0, none⟩) n cap, .int .i64 ai, .int .i64 mi, .int .i64 bi, (.func (Fn.func 250) #[] #[])] w (Sorts w g A (X ++ Y) B) := by
  have ih := Lib.hid ih
  rename_i ih'
  clear ih'
  generalize hb' : A.length + X.length + Y.length = b at hb
  generalize hm' : A.length + X.length = m at hm hb' hl
  generalize ha' : A.length = a at hA hm'
  subst hA hm hb
  generalize hd : A ++ (X ++ (Y ++ B)) = d at H
  have hlen : d.length = n := by rw [← hd]; simp only [List.length_append]; omega
  have hlen := Lib.hid hlen
  have HH := Lib.hid H
  have hX0 := Lib.hid hX
  have hY0 := Lib.hid hY
  have hd := Lib.hid hd
  rename_i q1 q2
  clear H hX hY q1 q2
  have hma : ((m : Int) - (a : Int) == 1) = false := by simp; omega
  have hbm : ((b : Int) - (m : Int) == 1) = false := by simp; omega
  obtain ⟨mid, hmid, hmidN⟩ : ∃ mid : Nat, ((a : Int) + (b : Int)) / 2 = (mid : Int) ∧ mid = (a + b) / 2 := ⟨(a + b) / 2, by omega, rfl⟩
  have hmidN := Lib.hid hmidN
  obtain ⟨N, hN, hNN⟩ : ∃ N : Nat, (mid : Int) + (m : Int) = (N : Int) ∧ mid + m = N := ⟨mid + m, by omega, rfl⟩
  have hNN := Lib.hid hNN
  obtain ⟨P, hP, hPN⟩ : ∃ P : Nat, (N : Int) - 1 = (P : Int) ∧ P + 1 = N := ⟨N - 1, by have := hNN.out; omega, by have := hNN.out; omega⟩
  have hPN := Lib.hid hPN
  rename_i q1 q2 q3
  clear q1 q2 q3
  obtain ⟨s0, r0, C⟩ : ∃ s0 r0 : Nat, (m ≤ mid ∧ s0 = a ∧ r0 = m) ∨ (mid < m ∧ s0 + b = N ∧ r0 = mid) := by
    have := hNN.out
    have := hmidN.out
    rcases Nat.lt_or_ge mid m with h | h
    · exact ⟨N - b, mid, .inr ⟨h, by omega, rfl⟩⟩
    · exact ⟨a, m, .inl ⟨h, rfl, rfl⟩⟩
  have C := Lib.hid C
  rename_i q1
  clear q1
  go_enter Tryz.func258, Tryz.ntmps258
  go_upto_if 140 with fail
  go_cut [20, 21] (fun sv rv wr => sv = .int .i64 s0 ∧ rv = .int .i64 r0 ∧ wr = w)
  case first => as_aux_lemma =>
    rcases C.out with ⟨h, e1, e2⟩ | ⟨h, e1, e2⟩
    · have h' : ¬ (mid : Int) < (m : Int) := by omega
      have e1 := Lib.hid e1
      have e2 := Lib.hid e2
      rename_i q1 q2
      clear q1 q2
      go_wp2_with fail
      go_meet
      exact ⟨vint (by have := e1.out; omega), vint (by have := e2.out; omega), rfl⟩
    · have h' : (mid : Int) < (m : Int) := by omega
      have e2 := Lib.hid e2
      have e1 := Lib.hid e1
      rename_i q1 q2
      clear q1 q2
      go_wp2_with fail
      go_meet
      exact ⟨vint (by have := e1.out; omega), vint (by have := e2.out; omega), rfl⟩
  case rest =>
  obtain ⟨rfl, rfl, rfl⟩ := hcut
  obtain ⟨w0, rfl⟩ : ∃ w0, w0 = wc := ⟨_, rfl⟩
  go_wp2_with fail
  have hbd : a ≤ s0 ∧ r0 ≤ m ∧ r0 ≤ mid ∧ s0 ≤ r0 ∧ N ≤ s0 + b ∧ mid ≤ b ∧ a ≤ mid := by
    have := hNN.out
    have := hmidN.out
    rcases C.out with h | h <;> omega
  go_loopw [20, 21] (fun sv rv wr => ∃ s r : Nat, sv = .int .i64 s ∧ rv = .int .i64 r ∧ s0 ≤ s ∧ s ≤ r ∧ r ≤ r0 ∧ (s0 < s → (pth d (s - 1)).1 ≤ (pth d (N - s)).1) ∧ (r < r0 → (pth d (N - 1 - r)).1 < (pth d r).1) ∧ Below w0.heap.size w0 wr) (fun s r _ => (intOf r).toNat - (intOf s).toNat)
  case atStart => exact ⟨s0, r0, rfl, rfl, Nat.le_refl _, hbd.2.2.2.1, Nat.le_refl _, by omega, by omega, Below.refl _ _⟩
  case round =>
    obtain ⟨s, r, rfl, rfl, h1, h2, h3, h4, h5, hbel⟩ := hrel
    have hh := HH.out.later hbel
    by_cases hij : s < r
    · have hij' : (s : Int) < (r : Int) := by omega
      obtain ⟨c, hc, hi1, hi2⟩ : ∃ c : Nat, ((s : Int) + (r : Int)) / 2 = (c : Int) ∧ s ≤ c ∧ c < r := ⟨(s + r) / 2, by omega, by omega, by omega⟩
      have hPN0 := hPN.out
      have hl0 := hlen.out
      have hNN0 := hNN.out
      obtain ⟨q, hq, hq'⟩ : ∃ q : Nat, (P : Int) - (c : Int) = (q : Int) ∧ q + c = P := ⟨P - c, by omega, by omega⟩
      have c0 := hh.at0 q (by omega)
      have c1 := hh.at1 q (by omega)
      have c2 := hh.at0 c (by omega)
      have c3 := hh.at1 c (by omega)
      have hqn : (q : Int) < n := by omega
      have hcn : (c : Int) < n := by omega
      generalize hu : pth d q = u at c0 c1
      generalize hv : pth d c = v at c2 c3
      have hu := Lib.hid hu
      have hv := Lib.hid hv
      have h4 := Lib.hid h4
      have h5 := Lib.hid h5
      have hq' := Lib.hid hq'
      have g0 := After.cell (by exact hh.lt) c0
      have g1 := After.cell (by exact hh.lt) c1
      have g2 := After.cell (by exact hh.lt) c2
      have g3 := After.cell (by exact hh.lt) c3
      rename_i q1 q2 q3 q4 q5
      clear q1 q2 q3 q4 q5 hPN0 hl0 hNN0 hh
      obtain ⟨u, u'⟩ := u
      obtain ⟨v, v'⟩ := v
      by_cases hlt : u < v
      · as_aux_lemma =>
        have hs : sgn u v = -1 := sgn_lt hlt
        go_wp2_with fail
        refine wp_region_after (by kernel_rfl) (by kernel_rfl) ?_
        repeat (first | go_big_quiet_step ((go_at_call 250; exact after_of (cmpSeal_is hs u' v' _))) | quiet_step ((go_at_call 250; exact after_of (cmpSeal_is hs u' v' _))))
        refine wpQuiet_nil ?_
        intro pw
        go_wp2
        go_roundw
        case rel => exact ⟨s, c, rfl, rfl, h1, hi1, by omega, h4.out, fun _ => by rw [show N - 1 - c = q by have := hq'.out; have := hPN.out; omega, hu.out, hv.out]; exact hlt, bel_trans hbel pw.bel⟩
        case measure => simp [intOf]; omega
      · as_aux_lemma =>
        obtain ⟨t, hs, hs0, hs1, hsd⟩ := sgn_nn hlt
        go_wp2_with fail
        refine wp_region_after (by kernel_rfl) (by kernel_rfl) ?_
        repeat (first | go_big_quiet_step ((go_at_call 250; exact after_of (cmpSeal_is hs u' v' _))) | quiet_step ((go_at_call 250; exact after_of (cmpSeal_is hs u' v' _))))
        refine wpQuiet_nil ?_
        intro pw
        go_wp2
        go_roundw
        case rel => exact ⟨c + 1, r, by go_num, rfl, by omega, by omega, h3, fun _ => by rw [show N - (c + 1) = q by have := hq'.out; have := hPN.out; omega, show c + 1 - 1 = c from rfl, hu.out, hv.out]; simp only; omega, h5.out, bel_trans hbel pw.bel⟩
        case measure => simp [intOf]; omega
    · obtain rfl : s = r := by omega
      obtain ⟨e, he, he'⟩ : ∃ e : Nat, (N : Int) - (s : Int) = (e : Int) ∧ s + e = N := ⟨N - s, by have := hNN.out; omega, by have := hNN.out; omega⟩
      have heb : m ≤ e ∧ e ≤ b ∧ mid ≤ e ∧ e - m = mid - s ∧ e - mid = m - s := by
        have := hNN.out
        omega
      have hdX : ∀ i, a ≤ i → i < m → pth d i = pth X (i - a) := fun i h h' => pth_seg (P := A) (Q := Y ++ B) hd.out.symm ha'.symm h (by omega)
      have hdY : ∀ i, m ≤ i → i < b → pth d i = pth Y (i - m) := fun i h h' => pth_seg (P := A ++ X) (Q := B) (by rw [← hd.out]; simp) (by simp; omega) h (by omega)
      obtain ⟨hp1, hp2⟩ := part_at hX0.out hY0.out (by omega) (by omega) hmidN.out hNN.out he' C.out h1 h3 (fun h => by
        have := h4 h
        rw [hdX (s - 1) (by omega) (by omega), hdY (N - s) (by omega) (by omega)] at this
        rw [show N - s = e by omega] at this
        exact this) (fun h => by
        have := h5 h
        rw [hdX s (by omega) (by omega), hdY (N - 1 - s) (by have := hNN.out; omega) (by omega)] at this
        rw [show N - 1 - s = e - 1 by omega] at this
        exact this)
      have he' := Lib.hid he'
      have hp1 := Lib.hid hp1
      have hp2 := Lib.hid hp2
      have heb := Lib.hid heb
      rename_i q1 q2 q3 q4
      clear q1 q2 q3 q4 hdX hdY h4 h5
      have hX12 : X.take (s - a) ++ X.drop (s - a) = X := List.take_append_drop _ _
      have hY12 : Y.take (e - m) ++ Y.drop (e - m) = Y := List.take_append_drop _ _
      have hlX1 : (X.take (s - a)).length = s - a := by rw [List.length_take]; omega
      have hlX2 : (X.drop (s - a)).length = m - s := by rw [List.length_drop]; omega
      have hlY1 : (Y.take (e - m)).length = mid - s := by rw [List.length_take]; have := heb.out; omega
      have hlY2 : (Y.drop (e - m)).length = b - e := by rw [List.length_drop]; have := heb.out; omega
      generalize X.take (s - a) = X1 at hp1 hX12 hlX1
      generalize X.drop (s - a) = X2 at hp2 hX12 hlX2
      generalize Y.take (e - m) = Y1 at hp2 hY12 hlY1
      generalize Y.drop (e - m) = Y2 at hp1 hY12 hlY2
      have hXY := Lib.hid (And.intro hX12 hY12)
      have hlX := Lib.hid (And.intro hlX1 hlX2)
      have hlY := Lib.hid (And.intro hlY1 hlY2)
      have hh' : Held wr g (A ++ (X1 ++ (X2 ++ (Y1 ++ (Y2 ++ B))))) := by
        rw [← List.append_assoc X1, hX12, ← List.append_assoc Y1, hY12, hd.out]
        exact hh
      have hh1 := Lib.hid hh'
      have hg1 := Lib.hid (grown_bel hbel (some g))
      clear hX12 hY12 hlX1 hlX2 hlY1 hlY2 hh' hh hbel
      have hse : s ≤ m ∧ a ≤ s ∧ s ≤ mid := by omega
      go_upto_region 39 with fail
      go_cut [185] (fun v wr' => v = .bool (decide (s < m ∧ m < e)) ∧ wr' = wr)
      case first => as_aux_lemma =>
        by_cases t1 : s < m
        · have t1' : (s : Int) < (m : Int) := by omega
          by_cases t2 : m < e
          · have t2' : (m : Int) < (e : Int) := by omega
            go_wp2_with fail
            go_meet
            exact ⟨by simp [t1, t2], rfl⟩
          · have t2' : ¬ (m : Int) < (e : Int) := by omega
            go_wp2_with fail
            go_meet
            exact ⟨by simp [t2], rfl⟩
        · have t1' : ¬ (s : Int) < (m : Int) := by omega
          go_wp2_with fail
          go_meet
          exact ⟨by simp [t1], rfl⟩
      case rest =>
      obtain ⟨rfl, rfl⟩ := hcut
      obtain ⟨w1, rfl⟩ : ∃ w1, w1 = wc := ⟨_, rfl⟩
      go_upto_if 185 with fail
      go_cut [191] (fun _ wr' => Held wr' g (A ++ (X1 ++ (Y1 ++ (X2 ++ (Y2 ++ B))))) ∧ w0.grownBy wr' (some g))
      case first => as_aux_lemma =>
        by_cases t : s < m ∧ m < e
        · have td : decide (s < m ∧ m < e) = true := by simp [t]
          have e1 := hlX.out
          have e2 := hlY.out
          have e3 := heb.out
          go_wp2_with fail
          refine (rotate_is g n cap _ _ _ (A ++ X1) X2 Y1 (Y2 ++ B) _ _ hn (by simp; omega) (by simp; omega) (by simp; omega) (by simp; omega) (by omega) (by omega) (by simpa using hh1.out)).mono ?_
          rintro e' w2 ⟨rfl, hh2, hg2⟩
          go_wp2_with fail
          go_meet
          exact ⟨by simpa using hh2, grown_trans hg1.out hg2⟩
        · have td : decide (s < m ∧ m < e) = false := by simp only [decide_eq_false_iff_not]; exact t
          have e1 := hlX.out
          have e2 := hlY.out
          have e3 := heb.out
          have hz : X2.length = 0 ∨ Y1.length = 0 := by omega
          go_wp2_with fail
          go_meet
          refine ⟨?_, hg1.out⟩
          have := hh1.out
          rcases hz with hz | hz
          · rw [List.length_eq_zero_iff.1 hz] at this ⊢; simpa using this
          · rw [List.length_eq_zero_iff.1 hz] at this ⊢; simpa using this
      case rest =>
      obtain ⟨hh2, hg2⟩ := hcut
      obtain ⟨w2, rfl⟩ : ∃ w2, w2 = wc := ⟨_, rfl⟩
      have hh2 := Lib.hid hh2
      have hg2 := Lib.hid hg2
      clear hh1 hg1
      go_upto_region 41 with fail
      go_cut [199] (fun v wr' => v = .bool (decide (a < s ∧ s < mid)) ∧ wr' = w2)
      case first => as_aux_lemma =>
        by_cases t1 : a < s
        · have t1' : (a : Int) < (s : Int) := by omega
          by_cases t2 : s < mid
          · have t2' : (s : Int) < (mid : Int) := by omega
            go_wp2_with fail
            go_meet
            exact ⟨by simp [t1, t2], rfl⟩
          · have t2' : ¬ (s : Int) < (mid : Int) := by omega
            go_wp2_with fail
            go_meet
            exact ⟨by simp [t2], rfl⟩
        · have t1' : ¬ (a : Int) < (s : Int) := by omega
          go_wp2_with fail
          go_meet
          exact ⟨by simp [t1], rfl⟩
      case rest =>
      obtain ⟨rfl, rfl⟩ := hcut
      obtain ⟨w2, rfl⟩ : ∃ w2, w2 = wc := ⟨_, rfl⟩
      have hXs : Srt X1 ∧ Srt X2 := by
        have := List.pairwise_append.1 (by rw [hXY.out.1]; exact hX0.out : Srt (X1 ++ X2))
        exact ⟨this.1, this.2.1⟩
      have hYs : Srt Y1 ∧ Srt Y2 := by
        have := List.pairwise_append.1 (by rw [hXY.out.2]; exact hY0.out : Srt (Y1 ++ Y2))
        exact ⟨this.1, this.2.1⟩
      go_upto_if 199 with fail
      go_cut [205] (fun _ wr' => ∃ Z1 : List (Int × Int), Z1.length = X1.length + Y1.length ∧ Srt Z1 ∧ Same Z1 (X1 ++ Y1) ∧ Held wr' g (A ++ (Z1 ++ (X2 ++ (Y2 ++ B)))) ∧ w0.grownBy wr' (some g))
      case first => as_aux_lemma =>
        by_cases t : a < s ∧ s < mid
        · have td : decide (a < s ∧ s < mid) = true := by simp [t]
          have e1 := hlX.out
          have e2 := hlY.out
          have e3 := heb.out
          go_wp2_with fail
          refine (ih.out _ _ _ A X1 Y1 (X2 ++ (Y2 ++ B)) _ (by omega) (by simp; omega) (by omega) (by omega) (by omega) (by omega) (by omega) hXs.1 hYs.1 (by simpa using hh2.out)).mono ?_
          rintro e' w3 ⟨Z1, hz1, hz2, hz3, rfl, hh3, hg3⟩
          go_wp2_with fail
          go_meet
          exact ⟨Z1, by simpa using hz1, hz2, hz3, hh3, grown_trans hg2.out hg3⟩
        · have td : decide (a < s ∧ s < mid) = false := by simp only [decide_eq_false_iff_not]; exact t
          have e1 := hlX.out
          have e2 := hlY.out
          have hz : X1.length = 0 ∨ Y1.length = 0 := by omega
          go_wp2_with fail
          go_meet
          have := hh2.out
          rcases hz with hz | hz
          · rw [List.length_eq_zero_iff.1 hz] at this ⊢
            exact ⟨Y1, by simp, hYs.1, Same.refl _, by simpa using this, hg2.out⟩
          · rw [List.length_eq_zero_iff.1 hz] at this ⊢
            exact ⟨X1, by simp, hXs.1, by simpa using Same.refl X1, by simpa using this, hg2.out⟩
      case rest =>
      obtain ⟨Z1, hz1, hz2, hz3, hh3, hg3⟩ := hcut
      obtain ⟨w3, rfl⟩ : ∃ w3, w3 = wc := ⟨_, rfl⟩
      have hh3 := Lib.hid hh3
      have hg3 := Lib.hid hg3
      have hz1 := Lib.hid hz1
      clear hh2 hg2
      rename_i q1
      clear q1
      go_upto_region 43 with fail
      go_cut [213] (fun v wr' => v = .bool (decide (mid < e ∧ e < b)) ∧ wr' = w3)
      case first => as_aux_lemma =>
        by_cases t1 : mid < e
        · have t1' : (mid : Int) < (e : Int) := by omega
          by_cases t2 : e < b
          · have t2' : (e : Int) < (b : Int) := by omega
            go_wp2_with fail
            go_meet
            exact ⟨by simp [t1, t2], rfl⟩
          · have t2' : ¬ (e : Int) < (b : Int) := by omega
            go_wp2_with fail
            go_meet
            exact ⟨by simp [t2], rfl⟩
        · have t1' : ¬ (mid : Int) < (e : Int) := by omega
          go_wp2_with fail
          go_meet
          exact ⟨by simp [t1], rfl⟩
      case rest =>
      obtain ⟨rfl, rfl⟩ := hcut
      obtain ⟨w3, rfl⟩ : ∃ w3, w3 = wc := ⟨_, rfl⟩
      have hfin : ∀ Z2 : List (Int × Int), Srt Z2 → Same Z2 (X2 ++ Y2) → Srt (Z1 ++ Z2) ∧ Same (Z1 ++ Z2) (X ++ Y) := fun Z2 z1 z2 => by
        have := merge_parts (by rw [hXY.out.1]; exact hX0.out) (by rw [hXY.out.2]; exact hY0.out) hp1.out hp2.out hz2 hz3 z1 z2
        rwa [hXY.out.1, hXY.out.2] at this
      have hfin := Lib.hid hfin
      rename_i q1
      clear q1
      by_cases t : mid < e ∧ e < b
      · as_aux_lemma =>
        have td : decide (mid < e ∧ e < b) = true := by simp [t]
        have e1 := hlX.out
        have e2 := hlY.out
        have e3 := heb.out
        have e4 := hz1.out
        go_wp2_with fail
        refine (ih.out _ _ _ (A ++ Z1) X2 Y2 B _ (by omega) (by simp; omega) (by simp; omega) (by simp; omega) (by simp; omega) (by omega) (by omega) hXs.2 hYs.2 (by simpa using hh3.out)).mono ?_
        rintro e' w4 ⟨Z2, hy1, hy2, hy3, rfl, hh4, hg4⟩
        simp only [List.length_append] at hy1
        go_wp2
        go_end0
        obtain ⟨f1, f2⟩ := hfin.out Z2 hy2 hy3
        exact ⟨Z1 ++ Z2, by simp; omega, f1, f2, rfl, by simpa using hh4, grown_trans hg3.out hg4⟩
      · as_aux_lemma =>
        have td : decide (mid < e ∧ e < b) = false := by simp only [decide_eq_false_iff_not]; exact t
        have e1 := hlX.out
        have e2 := hlY.out
        have e3 := heb.out
        have e4 := hz1.out
        have hz : X2.length = 0 ∨ Y2.length = 0 := by omega
        go_wp2
        go_end0
        have := hh3.out
        rcases hz with hz | hz
        · have hx := List.length_eq_zero_iff.1 hz
          obtain ⟨f1, f2⟩ := hfin.out Y2 hYs.2 (by rw [hx]; exact Same.refl _)
          rw [hx] at this
          exact ⟨Z1 ++ Y2, by simp; omega, f1, f2, rfl, by simpa using this, hg3.out⟩
        · have hx := List.length_eq_zero_iff.1 hz
          obtain ⟨f1, f2⟩ := hfin.out X2 hXs.2 (by rw [hx]; simpa using Same.refl X2)
          rw [hx] at this
          exact ⟨Z1 ++ X2, by simp; omega, f1, f2, rfl, by simpa using this, hg3.out⟩

/-- Two ranges in order are merged. -/
theorem symMerge_is (g n cap : Nat) (hn : n ≤ 4194304) : ∀ (k : Nat) (ai mi bi : Int) (A X Y B : List (Int × Int)) (w : World), X.length + Y.length < k → A.length + X.length + Y.length + B.length = n →
      ai = (A.length : Int) → mi = ((A.length + X.length : Nat) : Int) → bi = ((A.length + X.length + Y.length : Nat) : Int) → 0 < X.length → 0 < Y.length → Srt X → Srt Y → Held w g (A ++ (X ++ (Y ++ B))) →
      Calls Tryz.prog 258 #[.slice (some ⟨g, 0, none⟩) n cap, .int .i64 ai, .int .i64 mi, .int .i64 bi, (.func (Fn.func 250) #[] #[])] w (Sorts w g A (X ++ Y) B)
  | 0, _, _, _, _, _, _, _, _, h, _, _, _, _, _, _, _, _, _ => by omega
  | k + 1, ai, mi, bi, A, X, Y, B, w, hk, hl, hA, hm, hb, h1, h2, hX, hY, H => by
    rcases Nat.lt_or_ge X.length 2 with hx | hx
    · match X, h1, hx with
      | [x], _, _ => exact symOne_is g n cap ai mi bi A Y B x w hn (by simpa using hl) hA (by simpa using hm) (by simpa using hb) hY (by simpa using H)
    · rcases Nat.lt_or_ge Y.length 2 with hy | hy
      · match Y, h2, hy with
        | [y], _, _ => exact symLast_is g n cap ai mi bi A X B y w hn (by simpa using hl) hA hm (by simpa using hb) hx hX (by simpa using H)
      · exact symBig_is g n cap ai mi bi A X Y B w hn hl hA hm hb hx hy hX hY H fun ai mi bi A' X' Y' B' w' hlt hl' hA' hm' hb' h1' h2' hX' hY' H' =>
          symMerge_is g n cap hn k ai mi bi A' X' Y' B' w' (by omega) hl' hA' hm' hb' h1' h2' hX' hY' H'

end Go.Proofs.YtjdepjpjjgkmbaaGreat
