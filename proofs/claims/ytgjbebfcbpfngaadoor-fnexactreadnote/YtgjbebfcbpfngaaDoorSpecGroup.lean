/- What the model of GroupOk answers at every group whose keys can be read: the same as the program. -/
import Derived.Test.YtgjbebfcbpfngaaDoorGroup
namespace Go.Proofs.YtgjbebfcbpfngaaDoor
open Go.RowKit

set_option maxHeartbeats 400000 in
theorem specGroup_no1 (s l c sh : Int) (A : Option Addr) (n cap : Nat) (w : World) (h1 : inB s 1 10 = false) :
    Calls Tryd.prog 31 #[(.agg #[.int .i64 s, .int .i64 l, .int .i64 c, .int .i64 sh, .slice A n cap])] w fun e w' => e = .returned (.bool false) ∧ Below w.heap.size w w' := by
  go_enter Tryd.func31, Tryd.ntmps31
  go_wp2_with (go_at_call 30; refine (l1In_any _ _ _ _).mono ?_; rintro e w' ⟨rfl, rfl⟩)
  go_ret
  exact ⟨rfl, bel_alloc _ _⟩

set_option maxHeartbeats 400000 in
theorem specGroup_no2 (s l c sh : Int) (A : Option Addr) (n cap : Nat) (w : World) (h1 : inB s 1 10 = true) (h2 : inB l 0 10 = false) :
    Calls Tryd.prog 31 #[(.agg #[.int .i64 s, .int .i64 l, .int .i64 c, .int .i64 sh, .slice A n cap])] w fun e w' => e = .returned (.bool false) ∧ Below w.heap.size w w' := by
  obtain ⟨b1, b2⟩ := inB_true.1 h1
  go_enter Tryd.func31, Tryd.ntmps31
  go_wp2_with (go_at_call 30; refine (l1In_any _ _ _ _).mono ?_; rintro e w' ⟨rfl, rfl⟩)
  go_ret
  exact ⟨rfl, bel_alloc _ _⟩

set_option maxHeartbeats 400000 in
theorem specGroup_no3 (s l c sh : Int) (A : Option Addr) (n cap : Nat) (w : World) (h1 : inB s 1 10 = true) (h2 : inB l 0 10 = true) (h3 : s < 3 * l + 1) :
    Calls Tryd.prog 31 #[(.agg #[.int .i64 s, .int .i64 l, .int .i64 c, .int .i64 sh, .slice A n cap])] w fun e w' => e = .returned (.bool false) ∧ Below w.heap.size w w' := by
  obtain ⟨b1, b2⟩ := inB_true.1 h1
  obtain ⟨b3, b4⟩ := inB_true.1 h2
  go_enter Tryd.func31, Tryd.ntmps31
  go_wp2_with (go_at_call 30; refine (l1In_any _ _ _ _).mono ?_; rintro e w' ⟨rfl, rfl⟩)
  go_ret
  exact ⟨rfl, bel_alloc _ _⟩

set_option maxHeartbeats 400000 in
theorem specGroup_no4 (s l c sh : Int) (A : Option Addr) (n cap : Nat) (w : World) (h1 : inB s 1 10 = true) (h2 : inB l 0 10 = true) (h3 : ¬ s < 3 * l + 1) (h4 : inB c 1 6 = false) :
    Calls Tryd.prog 31 #[(.agg #[.int .i64 s, .int .i64 l, .int .i64 c, .int .i64 sh, .slice A n cap])] w fun e w' => e = .returned (.bool false) ∧ Below w.heap.size w w' := by
  obtain ⟨b1, b2⟩ := inB_true.1 h1
  obtain ⟨b3, b4⟩ := inB_true.1 h2
  go_enter Tryd.func31, Tryd.ntmps31
  go_wp2_with (go_at_call 30; refine (l1In_any _ _ _ _).mono ?_; rintro e w' ⟨rfl, rfl⟩)
  go_ret
  exact ⟨rfl, bel_alloc _ _⟩

set_option maxHeartbeats 400000 in
theorem specGroup_no5 (s l c sh : Int) (A : Option Addr) (n cap : Nat) (w : World) (h1 : inB s 1 10 = true) (h2 : inB l 0 10 = true) (h3 : ¬ s < 3 * l + 1) (h4 : inB c 1 6 = true) (h5 : inB sh 1 4 = false) :
    Calls Tryd.prog 31 #[(.agg #[.int .i64 s, .int .i64 l, .int .i64 c, .int .i64 sh, .slice A n cap])] w fun e w' => e = .returned (.bool false) ∧ Below w.heap.size w w' := by
  obtain ⟨b1, b2⟩ := inB_true.1 h1
  obtain ⟨b3, b4⟩ := inB_true.1 h2
  obtain ⟨b5, b6⟩ := inB_true.1 h4
  go_enter Tryd.func31, Tryd.ntmps31
  go_wp2_with (go_at_call 30; refine (l1In_any _ _ _ _).mono ?_; rintro e w' ⟨rfl, rfl⟩)
  go_ret
  exact ⟨rfl, bel_alloc _ _⟩

set_option maxHeartbeats 400000 in
theorem specGroup_no6 (s l c sh : Int) (A : Option Addr) (n cap : Nat) (w : World) (h1 : inB s 1 10 = true) (h2 : inB l 0 10 = true) (h3 : ¬ s < 3 * l + 1) (h4 : inB c 1 6 = true) (h5 : inB sh 1 4 = true) (h6 : (n : Int) ≠ s + c) (_hm : n ≤ maxLen) :
    Calls Tryd.prog 31 #[(.agg #[.int .i64 s, .int .i64 l, .int .i64 c, .int .i64 sh, .slice A n cap])] w fun e w' => e = .returned (.bool false) ∧ Below w.heap.size w w' := by
  obtain ⟨b1, b2⟩ := inB_true.1 h1
  obtain ⟨b3, b4⟩ := inB_true.1 h2
  obtain ⟨b5, b6⟩ := inB_true.1 h4
  have hne : ((n : Int) != s + c) = true := by rw [bne_iff_ne]; exact h6
  unfold maxLen at _hm
  go_enter Tryd.func31, Tryd.ntmps31
  go_wp2_with (go_at_call 30; refine (l1In_any _ _ _ _).mono ?_; rintro e w' ⟨rfl, rfl⟩)
  go_ret
  exact ⟨rfl, bel_alloc _ _⟩

set_option maxHeartbeats 1000000 in
theorem specGroup_yes (s l c sh : Int) (A : Option Addr) (n cap : Nat) (zs : List Int) (w : World) (h1 : inB s 1 10 = true) (h2 : inB l 0 10 = true) (h3 : ¬ s < 3 * l + 1) (h4 : inB c 1 6 = true) (h5 : inB sh 1 4 = true) (h6 : (n : Int) = s + c) (hr : Row w w.heap.size A n zs) :
    Calls Tryd.prog 31 #[(.agg #[.int .i64 s, .int .i64 l, .int .i64 c, .int .i64 sh, .slice A n cap])] w fun e w' => e = .returned (.bool (keysB zs)) ∧ Below w.heap.size w w' := by
  obtain ⟨b1, b2⟩ := inB_true.1 h1
  obtain ⟨b3, b4⟩ := inB_true.1 h2
  obtain ⟨b5, b6⟩ := inB_true.1 h4
  have hne : ((n : Int) != s + c) = false := by simp [h6]
  have hn0 : 0 < n := by omega
  have hn16 : n ≤ 16 := by omega
  obtain ⟨hzl, hr⟩ := hr
  obtain ⟨b, o, rfl, hbB, hcell⟩ := hr hn0
  have H6 := Lib.hid h6
  clear h6 hr
  have HZ := Lib.hid hzl
  clear hzl
  have HC := Lib.hid hcell
  clear hcell
  go_enter Tryd.func31, Tryd.ntmps31
  go_wp2_with (go_at_call 30; refine (l1In_any _ _ _ _).mono ?_; rintro e w' ⟨rfl, rfl⟩)
  go_loop [3] (fun i => ∃ k : Nat, k ≤ n ∧ i = .int .i64 k ∧ Hid (∀ j, j < k → inB (nth zs j) 1 1000000 = true)) (fun i => n - (intOf i).toNat)
  case atStart => exact ⟨0, Nat.zero_le _, rfl, fun j hj => absurd hj (by omega)⟩
  case round =>
    obtain ⟨k, hk, rfl, hall⟩ := hrel
    by_cases hlt : k < n
    · have g := HC.out k hlt
      rcases hb : inB (nth zs k) 1 1000000 with _ | _
      · have HF : Hid (keysB zs = false) := keysB_false (by rw [HZ.out]; exact hlt) hb
        go_wp2_with (go_at_call 30; refine (l1In_any _ _ _ _).mono ?_; rintro e w' ⟨rfl, rfl⟩)
        go_ret
        exact ⟨by rw [HF.out]; rfl, bel_alloc _ _⟩
      · have HS : Hid (∀ j, j < k + 1 → inB (nth zs j) 1 1000000 = true) := all_succ (P := fun j => inB (nth zs j) 1 1000000) hall.out hb
        go_wp2_with (go_at_call 30; refine (l1In_any _ _ _ _).mono ?_; rintro e w' ⟨rfl, rfl⟩)
        go_round
        case rel => exact ⟨k + 1, by omega, by go_num, HS⟩
        case measure => simp [intOf]; omega
    · have HT : Hid (keysB zs = true) := keysB_true fun j hj => hall.out j (by have := HZ.out; omega)
      go_wp2
      go_ret
      exact ⟨by rw [HT.out]; rfl, bel_alloc _ _⟩

/-- The model's own rule for Liars says the same. -/
theorem liars_iff {s l : Int} (h1 : 1 ≤ s) (h2 : s ≤ 10) : inB l 0 ((s - 1) / 3) = (inB l 0 10 && !decide (s < 3 * l + 1)) := by
  rw [Bool.eq_iff_iff]
  simp only [inB, Bool.and_eq_true, decide_eq_true_eq, Bool.not_eq_true', decide_eq_false_iff_not]
  omega

theorem specGroup_any (s l c sh : Int) (A : Option Addr) (n cap : Nat) (zs : List Int) (w : World) (hm : n ≤ maxLen) (hr : Row w w.heap.size A n zs) :
    Calls Tryd.prog 31 #[(.agg #[.int .i64 s, .int .i64 l, .int .i64 c, .int .i64 sh, .slice A n cap])] w fun e w' => e = .returned (.bool (okB s l c sh zs)) ∧ Below w.heap.size w w' := by
  have hl := hr.1
  rcases h1 : inB s 1 10 with _ | _
  · rw [show okB s l c sh zs = false by simp [okB, h1]]
    exact specGroup_no1 s l c sh A n cap w h1
  have hs := inB_true.1 h1
  have e := liars_iff (l := l) hs.1 hs.2
  rcases h2 : inB l 0 10 with _ | _
  · rw [show okB s l c sh zs = false by simp [okB, e, h2]]
    exact specGroup_no2 s l c sh A n cap w h1 h2
  by_cases h3 : s < 3 * l + 1
  · rw [show okB s l c sh zs = false by simp [okB, e, h3]]
    exact specGroup_no3 s l c sh A n cap w h1 h2 h3
  rcases h4 : inB c 1 6 with _ | _
  · rw [show okB s l c sh zs = false by simp [okB, h4]]
    exact specGroup_no4 s l c sh A n cap w h1 h2 h3 h4
  rcases h5 : inB sh 1 4 with _ | _
  · rw [show okB s l c sh zs = false by simp [okB, h5]]
    exact specGroup_no5 s l c sh A n cap w h1 h2 h3 h4 h5
  by_cases h6 : (n : Int) = s + c
  · rw [show okB s l c sh zs = keysB zs by simp only [okB, e, h1, h2, h3, h4, h5, hl, h6]; simp]
    exact specGroup_yes s l c sh A n cap zs w h1 h2 h3 h4 h5 h6 hr
  · rw [show okB s l c sh zs = false by simp only [okB, hl, h6]; simp]
    exact specGroup_no6 s l c sh A n cap w h1 h2 h3 h4 h5 h6 hm

end Go.Proofs.YtgjbebfcbpfngaaDoor
