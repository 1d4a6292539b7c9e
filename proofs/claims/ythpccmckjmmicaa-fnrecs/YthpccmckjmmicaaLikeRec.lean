/- laws.likeRec on two records that read alike; conditions: the size. -/
import Derived.Test.YthpccmckjmmicaaLikes
import Derived.Test.YthpccmckjmmicaaRecKind
namespace Go.Proofs.Ythpccmckjmmicaa
open Go Go.RowKit

set_option maxRecDepth 100000 in
set_option maxHeartbeats 4000000 in
theorem likeRec_is (r1 r2 r3 r4 r5 r6 r7 : Int) (L : Option Addr) (m mc : Nat) (r8 : Int) (L' : Option Addr) (mc' : Nat) (ps : List (Int × Int)) (w : World) (hp : m ≤ 1048576) (h1 : Pairs w w.heap.size L m ps) (h2 : Pairs w w.heap.size L' m ps) :
    Calls Try.prog 14 #[.agg #[.int .i64 r1, .int .i64 r2, .int .i64 r3, .int .i64 r4, .int .i64 r5, .int .i64 r6, .int .i64 r7, .slice L m mc, .int .i64 r8], .agg #[.int .i64 r1, .int .i64 r2, .int .i64 r3, .int .i64 r4, .int .i64 r5, .int .i64 r6, .int .i64 r7, .slice L' m mc', .int .i64 r8]] w fun e w' => e = .returned (.bool true) ∧ Below w.heap.size w w' := by
  have D := (Box.new w 31 #[.int .i64 r1, .int .i64 r2, .int .i64 r3, .int .i64 r4, .int .i64 r5, .int .i64 r6, .int .i64 r7, .slice L m mc, .int .i64 r8]).alloc (.cells #[.int .i64 r1, .int .i64 r2, .int .i64 r3, .int .i64 r4, .int .i64 r5, .int .i64 r6, .int .i64 r7, .slice L' m mc', .int .i64 r8] 31)
  have X := Box.new (w.alloc (.cells #[.int .i64 r1, .int .i64 r2, .int .i64 r3, .int .i64 r4, .int .i64 r5, .int .i64 r6, .int .i64 r7, .slice L m mc, .int .i64 r8] 31)) 31 #[.int .i64 r1, .int .i64 r2, .int .i64 r3, .int .i64 r4, .int .i64 r5, .int .i64 r6, .int .i64 r7, .slice L' m mc', .int .i64 r8]
  have hb0 := bel_trans (bel_alloc w (.cells #[.int .i64 r1, .int .i64 r2, .int .i64 r3, .int .i64 r4, .int .i64 r5, .int .i64 r6, .int .i64 r7, .slice L m mc, .int .i64 r8] 31)) (bel_alloc _ (.cells #[.int .i64 r1, .int .i64 r2, .int .i64 r3, .int .i64 r4, .int .i64 r5, .int .i64 r6, .int .i64 r7, .slice L' m mc', .int .i64 r8] 31))
  simp only [World.size_alloc] at X
  have H1 := Lib.hid (h1.later hb0)
  have H2 := Lib.hid (h2.later hb0)
  clear h1 h2
  go_enter Try.func14, Try.ntmps14
  go_upto_region 1 with fail
  generalize ((w.alloc _).alloc _ : World) = w0 at D X hb0 H1 H2 ⊢
  obtain ⟨d0, d1, d2, d3, d4, d5, d6, d7, d8⟩ := D.nine
  obtain ⟨x0, x1, x2, x3, x4, x5, x6, x7, x8⟩ := X.nine
  go_wp2_with fail
  refine (like_is L L' m mc mc' ps w0 hp H1.out H2.out).mono ?_
  rintro e w1 ⟨rfl, hb⟩
  have E := bel_trans hb0 hb
  go_wp2
  go_ret
  exact ⟨rfl, E⟩
theorem likeC_is {d : RecD} {w : World} {F F' : Nat → Prop} {C C' : Array Value} (h : AtC d w F (.agg C)) (h' : AtC d w F' (.agg C')) (hs : d.sz ≤ 1048576) :
    Calls Try.prog 14 #[.agg C, .agg C'] w fun e w' => e = .returned (.bool true) ∧ Below w.heap.size w w' := by
  obtain ⟨A, n, cap, e, hm, hr⟩ := h
  obtain ⟨A', n', cap', e', hm', hr'⟩ := h'
  injection e with e
  injection e' with e'
  subst e e'
  have hl : d.ps.length = n := hr.1.1
  have hl' : d.ps.length = n' := hr'.1.1
  subst hl hl'
  exact likeRec_is _ _ _ _ _ _ _ A _ cap _ A' cap' d.ps w hs hr.1 hr'.1
end Go.Proofs.Ythpccmckjmmicaa
