/- RecOk of the program at every group and record; conditions: the lists' sizes are such as memory holds. -/
import Derived.Test.YtjdepjpjjgkmbaaGreatRegOk2
import Derived.Test.YtjdepjpjjgkmbaaGreatNoteShape
import Derived.Test.YtjdepjpjjgkmbaaGreatRecKind
import Derived.Test.YtjdepjpjjgkmbaaGreatSum9
namespace Go.Proofs.YtjdepjpjjgkmbaaGreat
open Go Go.RowKit

/-- What a record asks by its kind; what RecOk answers. -/
def kndB (s l c sh : Int) (zs : List Int) (r2 r3 r4 r5 r6 r7 : Int) (ps : List (Int × Int)) : Bool :=
  if r2 = 1 then decide (ps = []) && opnB s l c sh zs (r4, r5, r6, r7)
  else if r2 = 2 then decide (r4 = 0) && !decide (r5 = 0 ∧ r6 = 0) && lefB s l c sh zs r3 r5 r6 r7 ps
  else false
def rokB (s l c sh : Int) (zs : List Int) (r1 r2 r3 r4 r5 r6 r7 : Int) (ps : List (Int × Int)) (r8 : Int) : Bool :=
  inB r1 1 400 && shfB s l c sh zs r3 && kndB s l c sh zs r2 r3 r4 r5 r6 r7 ps && (r8 == sumN r1 r2 r3 r4 r5 r6 r7 ps)

theorem sumOfB_is {r1 r2 r3 r4 r5 r6 r7 : Int} {ps : List (Int × Int)} {z : Int} (hz : sumN r1 r2 r3 r4 r5 r6 r7 ps = z) (L : Option Addr) (m mc : Nat) (r8 : Int) (w : World) (hm : m ≤ 4194304) (hr : Pairs w w.heap.size L m ps) :
    Calls Tryz.prog 142 #[.agg #[.int .i64 r1, .int .i64 r2, .int .i64 r3, .int .i64 r4, .int .i64 r5, .int .i64 r6, .int .i64 r7, .slice L m mc, .int .i64 r8]] w fun e w' => e = .returned (.int .i64 z) ∧ Below w.heap.size w w' := hz ▸ sumOf_is r1 r2 r3 r4 r5 r6 r7 L m mc r8 ps w hm hr

theorem withinR_is {x lo hi : Int} {b : Bool} (h : inB x lo hi = b) (w : World) : Calls Tryz.prog 143 #[.int .i64 x, .int .i64 lo, .int .i64 hi] w fun e w' => e = .returned (.bool b) ∧ w = w' := h ▸ within_any x lo hi w
theorem recOpen_is (r1 r2 r3 r4 r5 r6 r7 : Int) (L : Option Addr) (m mc : Nat) (r8 : Int) (w : World) :
    Calls Tryz.prog 190 #[.agg #[.int .i64 r1, .int .i64 r2, .int .i64 r3, .int .i64 r4, .int .i64 r5, .int .i64 r6, .int .i64 r7, .slice L m mc, .int .i64 r8]] w fun e w' => e = .returned (.agg #[.int .i64 r4, .int .i64 r5, .int .i64 r6, .int .i64 r7]) ∧ Below w.heap.size w w' := by
  go_enter Tryz.func190, Tryz.ntmps190
  go_wp2
  exact bodyPost_ret (v := .agg #[.int .i64 r4, .int .i64 r5, .int .i64 r6, .int .i64 r7]) (by simp [results, Tryz.results190, go_sem]) rfl ⟨rfl, by
    repeat (first | (with_reducible exact bel_trans (bel_alloc _ _) (bel_alloc _ _)) | refine Below.setCell ?_ (by simp; try omega) _)⟩
theorem recNewest_is (r1 r2 r3 r4 r5 r6 r7 : Int) (L : Option Addr) (m mc : Nat) (r8 : Int) (w : World) :
    Calls Tryz.prog 192 #[.agg #[.int .i64 r1, .int .i64 r2, .int .i64 r3, .int .i64 r4, .int .i64 r5, .int .i64 r6, .int .i64 r7, .slice L m mc, .int .i64 r8]] w fun e w' => e = .returned (.agg #[.int .i64 r5, .int .i64 r6, .int .i64 r7, .slice L m mc]) ∧ Below w.heap.size w w' := by
  go_enter Tryz.func192, Tryz.ntmps192
  go_wp2
  exact bodyPost_ret (v := .agg #[.int .i64 r5, .int .i64 r6, .int .i64 r7, .slice L m mc]) (by simp [results, Tryz.results192, go_sem]) rfl ⟨rfl, by
    repeat (first | (with_reducible exact bel_trans (bel_alloc _ _) (bel_alloc _ _)) | refine Below.setCell ?_ (by simp; try omega) _)⟩

set_option maxRecDepth 100000 in
set_option maxHeartbeats 4000000 in
theorem kindOk_is {s l c sh : Int} {zs : List Int} {r2 r3 r4 r5 r6 r7 : Int} {ps : List (Int × Int)} {b : Bool} (hb : kndB s l c sh zs r2 r3 r4 r5 r6 r7 ps = b) (A : Option Addr) (n cap : Nat) (r1 : Int) (L : Option Addr) (m mc : Nat) (r8 : Int) (w : World) (hn : n ≤ maxLen) (hr : Row w w.heap.size A n zs) (hm : m ≤ 4194304) (hp : Pairs w w.heap.size L m ps) :
    Calls Tryz.prog 145 #[.agg #[.int .i64 r1, .int .i64 r2, .int .i64 r3, .int .i64 r4, .int .i64 r5, .int .i64 r6, .int .i64 r7, .slice L m mc, .int .i64 r8], .agg #[.int .i64 s, .int .i64 l, .int .i64 c, .int .i64 sh, .slice A n cap]] w fun e w' => e = .returned (.bool b) ∧ Below w.heap.size w w' := by
  have D := (Box.new w 46 #[.int .i64 r1, .int .i64 r2, .int .i64 r3, .int .i64 r4, .int .i64 r5, .int .i64 r6, .int .i64 r7, .slice L m mc, .int .i64 r8]).alloc (.cells #[.int .i64 s, .int .i64 l, .int .i64 c, .int .i64 sh, .slice A n cap] 26)
  have G := Box.new (w.alloc (.cells #[.int .i64 r1, .int .i64 r2, .int .i64 r3, .int .i64 r4, .int .i64 r5, .int .i64 r6, .int .i64 r7, .slice L m mc, .int .i64 r8] 46)) 26 #[.int .i64 s, .int .i64 l, .int .i64 c, .int .i64 sh, .slice A n cap]
  have E := bel_trans (bel_alloc w (.cells #[.int .i64 r1, .int .i64 r2, .int .i64 r3, .int .i64 r4, .int .i64 r5, .int .i64 r6, .int .i64 r7, .slice L m mc, .int .i64 r8] 46)) (bel_alloc _ (.cells #[.int .i64 s, .int .i64 l, .int .i64 c, .int .i64 sh, .slice A n cap] 26))
  simp only [World.size_alloc] at G
  have HR := Lib.hid ((hr.below E (Nat.le_refl _)).more E.size)
  have HP := Lib.hid (hp.later E)
  have HL := Lib.hid hp.1
  have HM := Lib.hid hn
  have HB := Lib.hid hb
  clear hr hn hp hb
  go_enter Tryz.func145, Tryz.ntmps145
  go_upto_region 1 with fail
  generalize ((w.alloc _).alloc _ : World) = w0 at D G E HR HP ⊢
  have d1 := D.cell 1
  by_cases h1 : r2 = 1
  · subst h1
    go_upto_region 3 with fail
    clear d1
    obtain ⟨f0, f1, f2, f3, f4, f5, f6, f7, f8⟩ := nineAfter D
    obtain ⟨e0, e1, e2, e3, e4⟩ := fiveAfter G
    rcases Nat.eq_zero_or_pos m with hz | hz
    · have HO : Hid (opnB s l c sh zs (r4, r5, r6, r7) = b) := Lib.hid (by
        have : ps = [] := List.eq_nil_of_length_eq_zero (HL.out.trans hz)
        rw [← HB.out]; unfold kndB; simp [this])
      subst hz
      refine wp_region_after (by kernel_rfl) (by kernel_rfl) ?_
      repeat (first
        | go_big_quiet_step (first | (go_at_call 190; exact after_of (recOpen_is _ _ _ _ _ _ _ _ _ _ _ _)) | (go_at_call 191; exact after_of (isRightB_is HO.out A n cap _ HM.out (rowAfter HR.out _))))
        | quiet_step (first | (go_at_call 190; exact after_of (recOpen_is _ _ _ _ _ _ _ _ _ _ _ _)) | (go_at_call 191; exact after_of (isRightB_is HO.out A n cap _ HM.out (rowAfter HR.out _)))))
      refine wpQuiet_nil ?_
      intro pw
      go_wp2
      go_ret
      exact ⟨rfl, bel_trans E pw.bel⟩
    · have HV : Hid (b = false) := Lib.hid (by
        have : ps ≠ [] := fun e => by have := HL.out; rw [e] at this; simp at this; omega
        rw [← HB.out]; unfold kndB; simp [this])
      have hm0 : ((m : Int) == 0) = false := by simp; omega
      refine wp_region_after (by kernel_rfl) (by kernel_rfl) ?_
      repeat (first | go_big_quiet_step (fail) | quiet_step (fail))
      refine wpQuiet_nil ?_
      intro pw
      go_wp2
      go_ret
      exact ⟨by rw [HV.out]; rfl, bel_trans E pw.bel⟩
  by_cases h2 : r2 = 2
  · subst h2
    go_upto_region 5 with fail
    clear d1
    obtain ⟨f0, f1, f2, f3, f4, f5, f6, f7, f8⟩ := nineAfter D
    obtain ⟨e0, e1, e2, e3, e4⟩ := fiveAfter G
    by_cases h4 : r4 = 0
    · subst h4
      rcases zero_cases r5 r6 with ⟨rfl, rfl⟩ | ⟨hcase, hnz⟩
      · have HV : Hid (b = false) := Lib.hid (by rw [← HB.out]; unfold kndB; simp)
        refine wp_region_after (by kernel_rfl) (by kernel_rfl) ?_
        repeat (first | go_big_quiet_step (fail) | quiet_step (fail))
        refine wpQuiet_nil ?_
        intro pw
        go_wp2
        go_ret
        exact ⟨by rw [HV.out]; rfl, bel_trans E pw.bel⟩
      · have HF : Hid (lefB s l c sh zs r3 r5 r6 r7 ps = b) := Lib.hid (by rw [← HB.out]; unfold kndB; simp [hnz])
        clear hnz
        rcases hcase with hx | ⟨hx, hy⟩
        all_goals
          refine wp_region_after (by kernel_rfl) (by kernel_rfl) ?_
          repeat (first
            | go_big_quiet_step (first | (go_at_call 192; exact after_of (recNewest_is _ _ _ _ _ _ _ _ _ _ _ _)) | (go_at_call 193; exact after_of (isLeftB_is HF.out A n cap _ m mc _ HM.out (rowAfter HR.out _) hm (pairsAfter HP.out _))))
            | quiet_step (first | (go_at_call 192; exact after_of (recNewest_is _ _ _ _ _ _ _ _ _ _ _ _)) | (go_at_call 193; exact after_of (isLeftB_is HF.out A n cap _ m mc _ HM.out (rowAfter HR.out _) hm (pairsAfter HP.out _)))))
          refine wpQuiet_nil ?_
          intro pw
          go_wp2
          go_ret
          exact ⟨rfl, bel_trans E pw.bel⟩
    · have HV : Hid (b = false) := Lib.hid (by rw [← HB.out]; unfold kndB; simp [h4])
      have h4' : (r4 == 0) = false := by simpa using h4
      refine wp_region_after (by kernel_rfl) (by kernel_rfl) ?_
      repeat (first | go_big_quiet_step (fail) | quiet_step (fail))
      refine wpQuiet_nil ?_
      intro pw
      go_wp2
      go_ret
      exact ⟨by rw [HV.out]; rfl, bel_trans E pw.bel⟩
  · have HV : Hid (b = false) := Lib.hid (by rw [← HB.out]; unfold kndB; simp [h1, h2])
    have h1' : (r2 == 1) = false := by simpa using h1
    have h2' : (r2 == 2) = false := by simpa using h2
    go_wp2
    go_ret
    exact ⟨by rw [HV.out]; rfl, E⟩

set_option maxRecDepth 100000 in
set_option maxHeartbeats 4000000 in
theorem recOk_is {s l c sh : Int} {zs : List Int} {r1 r2 r3 r4 r5 r6 r7 r8 : Int} {ps : List (Int × Int)} {b : Bool} (hb : rokB s l c sh zs r1 r2 r3 r4 r5 r6 r7 ps r8 = b) (A : Option Addr) (n cap : Nat) (L : Option Addr) (m mc : Nat) (w : World) (hn : n ≤ maxLen) (hr : Row w w.heap.size A n zs) (hm : m ≤ 4194304) (hp : Pairs w w.heap.size L m ps) :
    Calls Tryz.prog 79 #[.agg #[.int .i64 s, .int .i64 l, .int .i64 c, .int .i64 sh, .slice A n cap], .agg #[.int .i64 r1, .int .i64 r2, .int .i64 r3, .int .i64 r4, .int .i64 r5, .int .i64 r6, .int .i64 r7, .slice L m mc, .int .i64 r8]] w fun e w' => e = .returned (.bool b) ∧ Below w.heap.size w w' := by
  have G := (Box.new w 26 #[.int .i64 s, .int .i64 l, .int .i64 c, .int .i64 sh, .slice A n cap]).alloc (.cells #[.int .i64 r1, .int .i64 r2, .int .i64 r3, .int .i64 r4, .int .i64 r5, .int .i64 r6, .int .i64 r7, .slice L m mc, .int .i64 r8] 46)
  have D := Box.new (w.alloc (.cells #[.int .i64 s, .int .i64 l, .int .i64 c, .int .i64 sh, .slice A n cap] 26)) 46 #[.int .i64 r1, .int .i64 r2, .int .i64 r3, .int .i64 r4, .int .i64 r5, .int .i64 r6, .int .i64 r7, .slice L m mc, .int .i64 r8]
  have E := bel_trans (bel_alloc w (.cells #[.int .i64 s, .int .i64 l, .int .i64 c, .int .i64 sh, .slice A n cap] 26)) (bel_alloc _ (.cells #[.int .i64 r1, .int .i64 r2, .int .i64 r3, .int .i64 r4, .int .i64 r5, .int .i64 r6, .int .i64 r7, .slice L m mc, .int .i64 r8] 46))
  simp only [World.size_alloc] at D
  have HR := Lib.hid ((hr.below E (Nat.le_refl _)).more E.size)
  have HP := Lib.hid (hp.later E)
  have HM := Lib.hid hn
  have HB := Lib.hid hb
  clear hr hn hp hb
  go_enter Tryz.func79, Tryz.ntmps79
  go_upto_region 1 with fail
  generalize ((w.alloc _).alloc _ : World) = w0 at D G E HR HP ⊢
  obtain ⟨f0, f1, f2, f3, f4, f5, f6, f7, f8⟩ := nineAfter D
  obtain ⟨e0, e1, e2, e3, e4⟩ := fiveAfter G
  rcases h1 : inB r1 1 400 with _ | _
  · have HV : Hid (b = false) := Lib.hid (by rw [← HB.out]; unfold rokB; simp [h1])
    have H1 := Lib.hid h1
    clear h1
    refine wp_region_after (by kernel_rfl) (by kernel_rfl) ?_
    repeat (first | go_big_quiet_step ((go_at_call 143; exact after_same (withinR_is H1.out _))) | quiet_step ((go_at_call 143; exact after_same (withinR_is H1.out _))))
    refine wpQuiet_nil ?_
    intro pw
    go_wp2
    go_ret
    exact ⟨by rw [HV.out]; rfl, bel_trans E pw.bel⟩
  rcases h2 : shfB s l c sh zs r3 with _ | _
  · have HV : Hid (b = false) := Lib.hid (by rw [← HB.out]; unfold rokB; simp [h2])
    have H1 := Lib.hid h1
    have H2 := Lib.hid h2
    clear h1 h2
    refine wp_region_after (by kernel_rfl) (by kernel_rfl) ?_
    repeat (first | go_big_quiet_step ((first | (go_at_call 143; exact after_same (withinR_is H1.out _)) | (go_at_call 144; exact after_of (isShelfB_is H2.out A n cap _ HM.out (rowAfter HR.out _))))) | quiet_step ((first | (go_at_call 143; exact after_same (withinR_is H1.out _)) | (go_at_call 144; exact after_of (isShelfB_is H2.out A n cap _ HM.out (rowAfter HR.out _))))))
    refine wpQuiet_nil ?_
    intro pw
    go_wp2
    go_ret
    exact ⟨by rw [HV.out]; rfl, bel_trans E pw.bel⟩
  rcases h3 : kndB s l c sh zs r2 r3 r4 r5 r6 r7 ps with _ | _
  · have HV : Hid (b = false) := Lib.hid (by rw [← HB.out]; unfold rokB; simp [h3])
    have H1 := Lib.hid h1
    have H2 := Lib.hid h2
    have H3 := Lib.hid h3
    clear h1 h2 h3
    refine wp_region_after (by kernel_rfl) (by kernel_rfl) ?_
    repeat (first | go_big_quiet_step ((first | (go_at_call 143; exact after_same (withinR_is H1.out _)) | (go_at_call 144; exact after_of (isShelfB_is H2.out A n cap _ HM.out (rowAfter HR.out _))) | (go_at_call 145; exact after_of (kindOk_is H3.out A n cap _ L m mc _ _ HM.out (rowAfter HR.out _) hm (pairsAfter HP.out _))))) | quiet_step ((first | (go_at_call 143; exact after_same (withinR_is H1.out _)) | (go_at_call 144; exact after_of (isShelfB_is H2.out A n cap _ HM.out (rowAfter HR.out _))) | (go_at_call 145; exact after_of (kindOk_is H3.out A n cap _ L m mc _ _ HM.out (rowAfter HR.out _) hm (pairsAfter HP.out _))))))
    refine wpQuiet_nil ?_
    intro pw
    go_wp2
    go_ret
    exact ⟨by rw [HV.out]; rfl, bel_trans E pw.bel⟩
  obtain ⟨z, h4⟩ : ∃ z, sumN r1 r2 r3 r4 r5 r6 r7 ps = z := ⟨_, rfl⟩
  have HV : Hid (b = (r8 == z)) := Lib.hid (by rw [← HB.out]; unfold rokB; simp [h1, h2, h3, h4])
  have H1 := Lib.hid h1
  have H2 := Lib.hid h2
  have H3 := Lib.hid h3
  have H4 := Lib.hid h4
  clear h1 h2 h3 h4
  refine wp_region_after (by kernel_rfl) (by kernel_rfl) ?_
  repeat (first | go_big_quiet_step ((first | (go_at_call 143; exact after_same (withinR_is H1.out _)) | (go_at_call 144; exact after_of (isShelfB_is H2.out A n cap _ HM.out (rowAfter HR.out _))) | (go_at_call 145; exact after_of (kindOk_is H3.out A n cap _ L m mc _ _ HM.out (rowAfter HR.out _) hm (pairsAfter HP.out _))) | (go_at_call 142; exact after_of (sumOfB_is H4.out L m mc _ _ hm (pairsAfter HP.out _))))) | quiet_step ((first | (go_at_call 143; exact after_same (withinR_is H1.out _)) | (go_at_call 144; exact after_of (isShelfB_is H2.out A n cap _ HM.out (rowAfter HR.out _))) | (go_at_call 145; exact after_of (kindOk_is H3.out A n cap _ L m mc _ _ HM.out (rowAfter HR.out _) hm (pairsAfter HP.out _))) | (go_at_call 142; exact after_of (sumOfB_is H4.out L m mc _ _ hm (pairsAfter HP.out _))))))
  refine wpQuiet_nil ?_
  intro pw
  go_wp2
  go_ret
  exact ⟨by rw [HV.out]; rfl, bel_trans E pw.bel⟩

end Go.Proofs.YtjdepjpjjgkmbaaGreat
