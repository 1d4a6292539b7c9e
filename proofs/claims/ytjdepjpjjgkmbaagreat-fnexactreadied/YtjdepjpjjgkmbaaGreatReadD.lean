/- Readied and its model over groups, shelves and notes of one's own; how many marks there are; conditions: the sizes. -/
import Derived.Test.YtjdepjpjjgkmbaaGreatReadied8
namespace Go.Proofs.YtjdepjpjjgkmbaaGreat
open Go.RowKit

def readD (g : GrpD) (r : RegD) (d : NoteD) : RegD × Int := readN g.s g.l g.c g.sh g.zs r.t r.q r.v r.ps r.os d.k1 d.k2 d.k3 d.k4 d.k5 d.t1 d.t2 d.v1 d.o1 d.o2 d.v2 d.l1 d.l2 d.v3 d.cs d.ms
theorem readD_len {g : GrpD} {r rr : RegD} {d : NoteD} {z : Int} (h : readD g r d = (rr, z)) : rr.ps.length ≤ r.ps.length ∧ rr.os.length ≤ r.os.length + 1 := by
  unfold readD readN at h
  split at h
  · obtain ⟨rfl, -⟩ := Prod.mk.inj h
    exact ⟨Nat.zero_le _, Nat.zero_le _⟩
  · split at h
    · obtain ⟨rfl, -⟩ := Prod.mk.inj h
      exact ⟨Nat.le_refl _, (withO_len _ _).1⟩
    · obtain ⟨rfl, -⟩ := Prod.mk.inj h
      exact ⟨Nat.le_refl _, Nat.le_succ _⟩
theorem readied8_is {g : GrpD} {r rr : RegD} {d : NoteD} {w : World} {F0 F1 F2 : Nat → Prop} {C0 C1 C2 : Array Value} {z : Int} (h0 : LieG g w F0 (.agg C0)) (h1 : LieR r w F1 (.agg C1)) (h2 : LieN d w F2 (.agg C2)) (_z0 : g.sz ≤ 1048576) (z1 : r.sz ≤ 1048576) (z2 : d.sz ≤ 1048576) (hz : readD g r d = (rr, z)) :
    Calls Tryz.prog 47 #[.agg C0, .agg C1, .agg C2] w (RdR w rr z) := by
  obtain ⟨A, n, cap, X, x, xc, Y, y, yc, P, p, pc, Q, q, qc, rfl, rfl, e2, I⟩ := in8_of h0 h1 h2 z1 z2
  exact readied_is e2 I hz
theorem specReadied8_is {g : GrpD} {r rr : RegD} {d : NoteD} {w : World} {F0 F1 F2 : Nat → Prop} {C0 C1 C2 : Array Value} {z : Int} (h0 : LieG g w F0 (.agg C0)) (h1 : LieR r w F1 (.agg C1)) (h2 : LieN d w F2 (.agg C2)) (_z0 : g.sz ≤ 1048576) (z1 : r.sz ≤ 1048576) (z2 : d.sz ≤ 1048576) (hz : readD g r d = (rr, z)) :
    Calls Tryz.prog 44 #[.agg C0, .agg C1, .agg C2] w (RdR w rr z) := by
  obtain ⟨A, n, cap, X, x, xc, Y, y, yc, P, p, pc, Q, q, qc, rfl, rfl, e2, I⟩ := in8_of h0 h1 h2 z1 z2
  exact specReadied_is e2 I hz
theorem mkb_G {d : GrpD} (h : d.sz ≤ 1048576) : 0 ≤ d.mk8 ∧ d.mk8 ≤ 1048576 := by unfold GrpD.sz at h; unfold GrpD.mk8; omega
theorem mkb_R {d : RegD} (h : d.sz ≤ 1048576) : 0 ≤ d.mk8 ∧ d.mk8 ≤ 4194304 := by unfold RegD.sz at h; unfold RegD.mk8; omega
theorem mkb_N {d : NoteD} (h : d.sz ≤ 1048576) : 0 ≤ d.mk8 ∧ d.mk8 ≤ 2097152 := by unfold NoteD.sz at h; unfold NoteD.mk8; omega
theorem mkb2_R {d : RegD} (h : d.ps.length ≤ 1048577) (h' : d.os.length ≤ 1048577) : 0 ≤ d.mk8 ∧ d.mk8 ≤ 8388616 := by unfold RegD.mk8; omega

end Go.Proofs.YtjdepjpjjgkmbaaGreat
