/- The laws' own copies of claims and seals, and the test that two seals are alike: contracts of each of them. -/
import Derived.Test.YtdabmnhbmdaodaaCopiesStamp
import Derived.Test.YtdabmnhbmdaodaaCopies
import Derived.Test.YtdabmnhbmdaodaaSpecSeal
namespace Go.Proofs.Ytdabmnhbmdaodaa
open Go.RowKit

theorem toSeal_any (c k : Int) (w : World) :
    Calls Try.prog 63 #[.agg #[.int .i64 c, .int .i64 k]] w fun e w' => e = .returned (.agg #[.int .i64 c, .int .i64 k]) ∧ Below w.heap.size w w' := by
  go_enter Try.func63, Try.ntmps63
  go_wp2
  exact bodyPost_ret (v := .agg #[.int .i64 c, .int .i64 k]) (by simp [results, Try.results63, go_sem]) rfl ⟨rfl, by
    first
    | exact bel_trans (bel_trans (bel_alloc _ _) (bel_alloc _ _)) (bel_alloc _ _)
    | exact (((((bel_trans (bel_trans (bel_alloc _ _) (bel_alloc _ _)) (bel_alloc _ _)).setCell (by simp) _).setCell (by simp) _).setCell (by simp) _).setCell (by simp) _)⟩

theorem eqSeal_same (c k : Int) (w : World) :
    Calls Try.prog 64 #[.agg #[.int .i64 c, .int .i64 k], .agg #[.int .i64 c, .int .i64 k]] w fun e w' => e = .returned (.bool true) ∧ Below w.heap.size w w' := by
  go_enter Try.func64, Try.ntmps64
  go_wp2
  go_ret
  exact ⟨rfl, bel_trans (bel_alloc _ _) (bel_alloc _ _)⟩

set_option maxHeartbeats 400000 in
theorem toClaim_any (ck ch ct cq cv : Int) (w : World) :
    Calls Try.prog 32 #[.agg #[.int .i64 ck, .int .i64 ch, .int .i64 ct, .int .i64 cq, .int .i64 cv]] w fun e w' => e = .returned (.agg #[.int .i64 ck, .int .i64 ch, .int .i64 ct, .int .i64 cq, .int .i64 cv]) ∧ Below w.heap.size w w' := by
  have D := ((Box.new w 54 #[.int .i64 ck, .int .i64 ch, .int .i64 ct, .int .i64 cq, .int .i64 cv]).alloc (.cells #[.int .i64 0, .int .i64 0, .int .i64 0, .int .i64 0, .int .i64 0] 37)).alloc (.cells #[.int .i64 ck, .int .i64 ch, .int .i64 0, .int .i64 0, .int .i64 0] 37)
  have X := (Box.new (w.alloc (.cells #[.int .i64 ck, .int .i64 ch, .int .i64 ct, .int .i64 cq, .int .i64 cv] 54)) 37 #[.int .i64 0, .int .i64 0, .int .i64 0, .int .i64 0, .int .i64 0]).alloc (.cells #[.int .i64 ck, .int .i64 ch, .int .i64 0, .int .i64 0, .int .i64 0] 37)
  have Y := Box.new ((w.alloc (.cells #[.int .i64 ck, .int .i64 ch, .int .i64 ct, .int .i64 cq, .int .i64 cv] 54)).alloc (.cells #[.int .i64 0, .int .i64 0, .int .i64 0, .int .i64 0, .int .i64 0] 37)) 37 #[.int .i64 ck, .int .i64 ch, .int .i64 0, .int .i64 0, .int .i64 0]
  have hb0 := bel_trans (bel_trans (bel_alloc w (.cells #[.int .i64 ck, .int .i64 ch, .int .i64 ct, .int .i64 cq, .int .i64 cv] 54)) (bel_alloc _ (.cells #[.int .i64 0, .int .i64 0, .int .i64 0, .int .i64 0, .int .i64 0] 37))) (bel_alloc _ (.cells #[.int .i64 ck, .int .i64 ch, .int .i64 0, .int .i64 0, .int .i64 0] 37))
  simp only [World.size_alloc] at X Y
  go_enter Try.func32, Try.ntmps32
  go_wp2_with fail
  generalize (((w.alloc _).alloc _).alloc _ : World) = w0 at hb0 D X Y ⊢
  refine (toStamp_any ct cq w0).mono ?_
  rintro e w1 ⟨rfl, hb1⟩
  have D1 := D.later hb1 D.lt
  have X1 := X.later hb1 X.lt
  have Y1 := Y.later hb1 Y.lt
  have E1 := bel_trans hb0 hb1
  clear D X Y hb0 hb1
  obtain ⟨d0, d1, d2, d3, d4⟩ := D1.five
  obtain ⟨x0, x1, x2, x3, x4⟩ := X1.five
  obtain ⟨y0, y1, y2, y3, y4⟩ := Y1.five
  have fx := X1.frozen
  have fy := Y1.frozen
  go_wp2
  exact bodyPost_ret (v := .agg #[.int .i64 ck, .int .i64 ch, .int .i64 ct, .int .i64 cq, .int .i64 cv]) (by simp [results, Try.results32, go_sem, x0, x1, x2, x3, x4]) rfl ⟨rfl, by
    repeat (first | (with_reducible exact E1) | refine Below.setCell ?_ (by simp; try omega) _)⟩

end Go.Proofs.Ytdabmnhbmdaodaa
