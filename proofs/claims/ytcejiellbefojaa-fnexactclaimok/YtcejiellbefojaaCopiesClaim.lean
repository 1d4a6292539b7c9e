/- The laws' own copies of claims and seals, and the test that two seals are alike: contracts of each of them. -/
import Derived.Test.YtcejiellbefojaaCopiesStamp
import Derived.Test.YtcejiellbefojaaCopies
import Derived.Test.YtcejiellbefojaaSpecSeal
namespace Go.Proofs.Ytcejiellbefojaa
open Go.RowKit

theorem toSeal_any (c k : Int) (w : World) :
    Calls Try.prog 26 #[.agg #[.int .i64 c, .int .i64 k]] w fun e w' => e = .returned (.agg #[.int .i64 c, .int .i64 k]) ∧ Below w.heap.size w w' := by
  go_enter Try.func26, Try.ntmps26
  go_wp2
  exact bodyPost_ret (v := .agg #[.int .i64 c, .int .i64 k]) (by simp [results, Try.results26, go_sem]) rfl ⟨rfl, by
    first
    | exact bel_trans (bel_trans (bel_alloc _ _) (bel_alloc _ _)) (bel_alloc _ _)
    | exact (((((bel_trans (bel_trans (bel_alloc _ _) (bel_alloc _ _)) (bel_alloc _ _)).setCell (by simp) _).setCell (by simp) _).setCell (by simp) _).setCell (by simp) _)⟩

theorem eqSeal_same (c k : Int) (w : World) :
    Calls Try.prog 24 #[.agg #[.int .i64 c, .int .i64 k], .agg #[.int .i64 c, .int .i64 k]] w fun e w' => e = .returned (.bool true) ∧ Below w.heap.size w w' := by
  go_enter Try.func24, Try.ntmps24
  go_wp2
  go_ret
  exact ⟨rfl, bel_trans (bel_alloc _ _) (bel_alloc _ _)⟩

set_option maxHeartbeats 400000 in
theorem toClaim_any (ck ch ct cq cv : Int) (w : World) :
    Calls Try.prog 21 #[.agg #[.int .i64 ck, .int .i64 ch, .int .i64 ct, .int .i64 cq, .int .i64 cv]] w fun e w' => e = .returned (.agg #[.int .i64 ck, .int .i64 ch, .int .i64 ct, .int .i64 cq, .int .i64 cv]) ∧ Below w.heap.size w w' := by
  have D := ((Box.new w 47 #[.int .i64 ck, .int .i64 ch, .int .i64 ct, .int .i64 cq, .int .i64 cv]).alloc (.cells #[.int .i64 0, .int .i64 0, .int .i64 0, .int .i64 0, .int .i64 0] 35)).alloc (.cells #[.int .i64 ck, .int .i64 ch, .int .i64 0, .int .i64 0, .int .i64 0] 35)
  have X := (Box.new (w.alloc (.cells #[.int .i64 ck, .int .i64 ch, .int .i64 ct, .int .i64 cq, .int .i64 cv] 47)) 35 #[.int .i64 0, .int .i64 0, .int .i64 0, .int .i64 0, .int .i64 0]).alloc (.cells #[.int .i64 ck, .int .i64 ch, .int .i64 0, .int .i64 0, .int .i64 0] 35)
  have Y := Box.new ((w.alloc (.cells #[.int .i64 ck, .int .i64 ch, .int .i64 ct, .int .i64 cq, .int .i64 cv] 47)).alloc (.cells #[.int .i64 0, .int .i64 0, .int .i64 0, .int .i64 0, .int .i64 0] 35)) 35 #[.int .i64 ck, .int .i64 ch, .int .i64 0, .int .i64 0, .int .i64 0]
  have hb0 := bel_trans (bel_trans (bel_alloc w (.cells #[.int .i64 ck, .int .i64 ch, .int .i64 ct, .int .i64 cq, .int .i64 cv] 47)) (bel_alloc _ (.cells #[.int .i64 0, .int .i64 0, .int .i64 0, .int .i64 0, .int .i64 0] 35))) (bel_alloc _ (.cells #[.int .i64 ck, .int .i64 ch, .int .i64 0, .int .i64 0, .int .i64 0] 35))
  simp only [World.size_alloc] at X Y
  go_enter Try.func21, Try.ntmps21
  go_wp2_with fail
  generalize (((w.alloc _).alloc _).alloc _ : World) = w0 at hb0 D X Y ⊢
  refine (toStamp_any ct cq w0).mono ?_
  rintro e w1 ⟨rfl, hb1⟩
  have D1 := D.later hb1 D.lt
  have X1 := X.later hb1 X.lt
  have Y1 := Y.later hb1 Y.lt
  have E1 := bel_trans hb0 hb1
  clear D X Y hb0 hb1
  obtain ⟨d0, d1, d2, d3, d4⟩ := D1.five
  obtain ⟨x0, x1, x2, x3, x4⟩ := X1.five
  obtain ⟨y0, y1, y2, y3, y4⟩ := Y1.five
  have fx := X1.frozen
  have fy := Y1.frozen
  go_wp2
  exact bodyPost_ret (v := .agg #[.int .i64 ck, .int .i64 ch, .int .i64 ct, .int .i64 cq, .int .i64 cv]) (by simp [results, Try.results21, go_sem, x0, x1, x2, x3, x4]) rfl ⟨rfl, by
    repeat (first | (with_reducible exact E1) | refine Below.setCell ?_ (by simp; try omega) _)⟩

end Go.Proofs.Ytcejiellbefojaa
