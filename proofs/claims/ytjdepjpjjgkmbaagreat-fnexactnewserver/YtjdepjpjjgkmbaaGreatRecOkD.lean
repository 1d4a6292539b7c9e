/- RecOk as a law meets it: over copies of a group and a record as data; conditions: the sizes. -/
import Derived.Test.YtjdepjpjjgkmbaaGreatSpecRecOk9
import Derived.Test.YtjdepjpjjgkmbaaGreatKinds9
namespace Go.Proofs.YtjdepjpjjgkmbaaGreat
open Go Go.RowKit

/-- What RecOk answers. -/
def rokD (g : GrpD) (d : RecD) : Bool := rokB g.s g.l g.c g.sh g.zs d.r1 d.r2 d.r3 d.r4 d.r5 d.r6 d.r7 d.ps d.r8
theorem recOk8_is {g : GrpD} {d : RecD} {w : World} {F0 F1 : Nat → Prop} {C0 C1 : Array Value} {z : Bool} (h0 : LieG g w F0 (.agg C0)) (h1 : LieC d w F1 (.agg C1)) (_z0 : g.sz ≤ 1048576) (z1 : d.sz ≤ 1048576) (hz : rokD g d = z) :
    Calls Tryz.prog 79 #[.agg C0, .agg C1] w fun e w' => e = .returned (.bool z) ∧ Below w.heap.size w w' := by
  obtain ⟨L, m, mc, rfl, hm, hp⟩ := LieC.slc h1.at z1
  obtain ⟨A, n, cap, e0, m0, hr⟩ := h0.at
  injection e0 with e0
  subst e0
  exact recOk_is hz A n cap L m mc w m0 hr.1 hm hp
theorem specRecOk8_is {g : GrpD} {d : RecD} {w : World} {F0 F1 : Nat → Prop} {C0 C1 : Array Value} {z : Bool} (h0 : LieG g w F0 (.agg C0)) (h1 : LieC d w F1 (.agg C1)) (_z0 : g.sz ≤ 1048576) (z1 : d.sz ≤ 1048576) (hz : rokD g d = z) :
    Calls Tryz.prog 134 #[.agg C0, .agg C1] w fun e w' => e = .returned (.bool z) ∧ Below w.heap.size w w' := by
  obtain ⟨L, m, mc, rfl, hm, hp⟩ := LieC.slc h1.at z1
  obtain ⟨A, n, cap, e0, m0, hr⟩ := h0.at
  injection e0 with e0
  subst e0
  exact specRecOk_is hz A n cap L m mc w m0 hr.1 hm hp
end Go.Proofs.YtjdepjpjjgkmbaaGreat
