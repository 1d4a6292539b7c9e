/- CodeReady and its model over groups, shelves and notes of one's own: contracts of both; conditions: the sizes. -/
import Derived.Test.YtjdepjpjjgkmbaaGreatKinds8a
import Derived.Test.YtjdepjpjjgkmbaaGreatReady3
import Derived.Test.YtjdepjpjjgkmbaaGreatSpecReady2
namespace Go.Proofs.YtjdepjpjjgkmbaaGreat
open Go.RowKit

/-- What CodeReady answers. -/
def codeD (g : GrpD) (r : RegD) (d : NoteD) : Int := codeN g.s g.l g.c g.sh g.zs r.t r.q r.v r.ps r.os d.k1 d.k2 d.k3 d.k4 d.k5 d.t1 d.t2 d.v1 d.o1 d.o2 d.v2 d.l1 d.l2 d.v3 d.cs d.ms
/-- What is one's own can be handed to the functions of chapter 8. -/
theorem in8_of {g : GrpD} {r : RegD} {d : NoteD} {w : World} {F0 F1 F2 : Nat → Prop} {C0 C1 C2 : Array Value} (h0 : LieG g w F0 (.agg C0)) (h1 : LieR r w F1 (.agg C1)) (h2 : LieN d w F2 (.agg C2)) (z1 : r.sz ≤ 1048576) (z2 : d.sz ≤ 1048576) :
    ∃ (A : Option Addr) (n cap : Nat) (X : Option Addr) (x xc : Nat) (Y : Option Addr) (y yc : Nat) (P : Option Addr) (p pc : Nat) (Q : Option Addr) (q qc : Nat),
      C0 = #[.int .i64 g.s, .int .i64 g.l, .int .i64 g.c, .int .i64 g.sh, .slice A n cap] ∧ C1 = #[.int .i64 r.t, .int .i64 r.q, .int .i64 r.v, .slice X x xc, .slice Y y yc] ∧ C2 = d.cells P p pc Q q qc ∧
      In8 w A n g.zs X x xc r.ps Y y yc r.os P p d.cs Q q d.ms := by
  obtain ⟨A, n, cap, e0, m0, hr⟩ := h0.at
  obtain ⟨X, x, xc, Y, y, yc, e1, s1, s2, l1, l2⟩ := h1.slc
  obtain ⟨P, p, pc, Q, q, qc, e2, m1, m2, hp, hq⟩ := h2.at
  injection e0 with e0
  injection e1 with e1
  injection e2 with e2
  have hl := hp.1.1
  have hl' := hq.1.1
  unfold RegD.sz at z1
  unfold NoteD.sz at z2
  exact ⟨A, n, cap, X, x, xc, Y, y, yc, P, p, pc, Q, q, qc, e0, e1, e2, m0, by omega, by omega, by omega, by omega, hr.1, s1, s2, hp.1, hq.1⟩
theorem code8_is {g : GrpD} {r : RegD} {d : NoteD} {w : World} {F0 F1 F2 : Nat → Prop} {C0 C1 C2 : Array Value} {z : Int} (h0 : LieG g w F0 (.agg C0)) (h1 : LieR r w F1 (.agg C1)) (h2 : LieN d w F2 (.agg C2)) (_z0 : g.sz ≤ 1048576) (z1 : r.sz ≤ 1048576) (z2 : d.sz ≤ 1048576) (hz : codeD g r d = z) :
    Calls Tryz.prog 55 #[.agg C0, .agg C1, .agg C2] w fun e w' => e = .returned (.int .i64 z) ∧ Below w.heap.size w w' := by
  obtain ⟨A, n, cap, X, x, xc, Y, y, yc, P, p, pc, Q, q, qc, rfl, rfl, e2, I⟩ := in8_of h0 h1 h2 z1 z2
  exact codeReady_is e2 I hz
theorem specCode8_is {g : GrpD} {r : RegD} {d : NoteD} {w : World} {F0 F1 F2 : Nat → Prop} {C0 C1 C2 : Array Value} {z : Int} (h0 : LieG g w F0 (.agg C0)) (h1 : LieR r w F1 (.agg C1)) (h2 : LieN d w F2 (.agg C2)) (_z0 : g.sz ≤ 1048576) (z1 : r.sz ≤ 1048576) (z2 : d.sz ≤ 1048576) (hz : codeD g r d = z) :
    Calls Tryz.prog 95 #[.agg C0, .agg C1, .agg C2] w fun e w' => e = .returned (.int .i64 z) ∧ Below w.heap.size w w' := by
  obtain ⟨A, n, cap, X, x, xc, Y, y, yc, P, p, pc, Q, q, qc, rfl, rfl, e2, I⟩ := in8_of h0 h1 h2 z1 z2
  exact specCode_is e2 I hz

end Go.Proofs.YtjdepjpjjgkmbaaGreat
