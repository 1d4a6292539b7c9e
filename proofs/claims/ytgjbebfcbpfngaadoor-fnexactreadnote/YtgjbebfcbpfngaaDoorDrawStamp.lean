/- What the model's draws of stamps leave: a stamp, two of them, a stamp and a number, a list of stamps; the cursor, or the bytes, can be read. -/
import Derived.Test.YtgjbebfcbpfngaaDoorDrawSpec
import Derived.Test.YtgjbebfcbpfngaaDoorStampBase
import Derived.Deep.AppendLies
import Derived.Laws.Pointers
import Derived.Deep.RegionLaw
import Derived.RegionTactic
namespace Go.Proofs.YtgjbebfcbpfngaaDoor
open Go.RowKit

theorem grown2 (w : World) (R : Nat) (v0 v1 : Value) : w.grownBy ((w.setCell ⟨R, 0, none⟩ v0).setCell ⟨R, 1, none⟩ v1) (some R) := grown_set (grown_set (grown_refl w (some R)) 0 v0) 1 v1

theorem l1From_any (g : Nat) (A : Option Addr) (n cap : Nat) (lo hi : Int) (w : World) (h0 : -1000000 ≤ lo) (h1 : lo ≤ hi) (h2 : hi ≤ 1000000) (hc : Cur w 90 .i64 g A n cap) :
    Calls Tryd.prog 50 #[.pointer (some ⟨g, 0, none⟩), .int .i64 lo, .int .i64 hi] w (Drawn (fun r => lo ≤ r ∧ r ≤ hi) 90 .i64 g A n cap w) := by
  go_enter Tryd.func50, Tryd.ntmps50
  go_wp2_with fail
  refine (l1Below_any g A n cap (hi - lo + 1) w (by omega) hc).mono ?_
  rintro e w1 ⟨r, ⟨hr0, hr1⟩, rfl, hc1, hg1⟩
  go_wp2
  go_ret
  exact ⟨lo + r, ⟨by omega, by omega⟩, rfl, hc1, hg1⟩

/-- What the draw of a stamp leaves. -/
def DrawnStamp (t : TypeId) (kd : IntKind) (g : Nat) (A : Option Addr) (n cap : Nat) (w : World) (e : Ending) (w' : World) : Prop :=
  ∃ c k : Int, e = .returned (.agg #[.int .i64 c, .int .i64 k]) ∧ Cur w' t kd g A n cap ∧ w.grownBy w' (some g)

set_option maxHeartbeats 400000 in
theorem l2Draw_any (g : Nat) (A : Option Addr) (n cap : Nat) (w : World) (hc : Cur w 90 .i64 g A n cap) :
    Calls Tryd.prog 85 #[.pointer (some ⟨g, 0, none⟩)] w (DrawnStamp 90 .i64 g A n cap w) := by
  have hlt := hc.lt
  have R0 := Box.new w 28 #[.int .i64 0, .int .i64 0]
  have hb0 := bel_alloc w (.cells #[.int .i64 0, .int .i64 0] 28)
  go_enter Tryd.func85, Tryd.ntmps85
  go_wp2_with fail
  generalize (w.alloc _ : World) = w0 at R0 hb0 ⊢
  have hc0 := hc.kept (grown_bel hb0 none) (fun q hq => by cases hq)
  have hg0 := grown_bel hb0 (some g)
  refine (l1Once_any g A n cap 5 _ (by omega) hc0).mono ?_
  rintro e w1 ⟨b, rfl, hc1, hg1⟩
  have R1 := R0.kept hg1 (by intro e; injection e with e; omega)
  have G1 := grown_trans hg0 hg1
  clear R0 hg0 hg1 hc0 hb0 hc
  rcases b with _ | _
  · go_wp2_with fail
    refine (l1Below_any g A n cap 3 _ (by omega) hc1).mono ?_
    rintro e w2 ⟨c, ⟨hc0, hc2⟩, rfl, hcu2, hg2⟩
    go_wp2_with fail
    refine (l1Below_any g A n cap 6 _ (by omega) hcu2).mono ?_
    rintro e w3 ⟨k, ⟨hk0, hk1⟩, rfl, hcu3, hg3⟩
    have R3 := R1.kept (grown_trans hg2 hg3) (by intro e; injection e with e; omega)
    have G3 := grown_trans (grown_trans G1 hg2) hg3
    obtain ⟨r0, r1⟩ := R3.two
    have fr := R3.frozen
    have HC := Lib.hid (hcu3.kept (grown2 w3 w.heap.size (.int .i64 (1 + c)) (.int .i64 k)) (fun q hq => by injection hq with hq; omega))
    have HG := Lib.hid (grown_far G3 (grown2 w3 w.heap.size (.int .i64 (1 + c)) (.int .i64 k)) (fun q hq => by injection hq with hq; omega))
    go_wp2
    exact bodyPost_ret (v := .agg #[.int .i64 (1 + c), .int .i64 k]) (by simp [results, Tryd.results85, go_sem, r0, r1]) rfl ⟨_, _, rfl, HC.out, HG.out⟩
  · obtain ⟨r0, r1⟩ := R1.two
    have fr := R1.frozen
    have HC := Lib.hid (hc1.kept (grown2 w1 w.heap.size (.int .i64 0) (.int .i64 0)) (fun q hq => by injection hq with hq; omega))
    have HG := Lib.hid (grown_far G1 (grown2 w1 w.heap.size (.int .i64 0) (.int .i64 0)) (fun q hq => by injection hq with hq; omega))
    go_wp2
    exact bodyPost_ret (v := .agg #[.int .i64 0, .int .i64 0]) (by simp [results, Tryd.results85, go_sem, r0, r1]) rfl ⟨_, _, rfl, HC.out, HG.out⟩

set_option maxHeartbeats 1000000 in
theorem l2DrawAny_any (g : Nat) (A : Option Addr) (n cap : Nat) (w : World) (hc : Cur w 90 .i64 g A n cap) :
    Calls Tryd.prog 66 #[.pointer (some ⟨g, 0, none⟩)] w (DrawnStamp 90 .i64 g A n cap w) := by
  have hlt := hc.lt
  have R0 := Box.new w 28 #[.int .i64 0, .int .i64 0]
  have hb0 := bel_alloc w (.cells #[.int .i64 0, .int .i64 0] 28)
  go_enter Tryd.func66, Tryd.ntmps66
  go_wp2_with fail
  generalize (w.alloc _ : World) = w0 at R0 hb0 ⊢
  have hc0 := hc.kept (grown_bel hb0 none) (fun q hq => by cases hq)
  have hg0 := grown_bel hb0 (some g)
  refine (l2Draw_any g A n cap _ hc0).mono ?_
  rintro e w1 ⟨c, k, rfl, hc1, hg1⟩
  have R1 := R0.kept hg1 (by intro e; injection e with e; omega)
  have G1 := grown_trans hg0 hg1
  clear R0 hg0 hg1 hc0 hb0 hc
  have S1 := Box.new w1 28 #[.int .i64 c, .int .i64 k]
  have hb2 := bel_alloc w1 (.cells #[.int .i64 c, .int .i64 k] 28)
  have hR1 := R1.lt
  go_wp2_with fail
  have R2 := R1.later hb2 R1.lt
  have G2 := grown_trans G1 (grown_bel hb2 (some g))
  have hc2 := hc1.kept (grown_bel hb2 none) (fun q hq => by cases hq)
  generalize (w1.alloc _ : World) = w2 at S1 hb2 R2 G2 hc2 ⊢
  generalize w1.heap.size = S at S1 hR1 ⊢
  refine (l1Once_any g A n cap 6 _ (by omega) hc2).mono ?_
  rintro e w3 ⟨b, rfl, hc3, hg3⟩
  have R3 := R2.kept hg3 (by intro e; injection e with e; omega)
  have S3 := S1.kept hg3 (by intro e; injection e with e; omega)
  have G3 := grown_trans G2 hg3
  clear R1 R2 S1 G1 G2 hg3 hc1 hc2 hb2
  have hSR : S ≠ w.heap.size := by omega
  rcases b with _ | _
  · obtain ⟨r0, r1⟩ := R3.two
    obtain ⟨s0, s1⟩ := S3.two
    have fr := R3.frozen
    have HC := Lib.hid (hc3.kept (grown2 w3 w.heap.size (.int .i64 c) (.int .i64 k)) (fun q hq => by injection hq with hq; omega))
    have HG := Lib.hid (grown_far G3 (grown2 w3 w.heap.size (.int .i64 c) (.int .i64 k)) (fun q hq => by injection hq with hq; omega))
    go_wp2
    exact bodyPost_ret (v := .agg #[.int .i64 c, .int .i64 k]) (by simp [results, Tryd.results66, go_sem, r0, r1]) rfl ⟨_, _, rfl, HC.out, HG.out⟩
  · go_wp2_with fail
    refine (l1Once_any g A n cap 2 _ (by omega) hc3).mono ?_
    rintro e w4 ⟨b, rfl, hc4, hg4⟩
    have R4 := R3.kept hg4 (by intro e; injection e with e; omega)
    have S4 := S3.kept hg4 (by intro e; injection e with e; omega)
    have G4 := grown_trans G3 hg4
    clear R3 S3 G3 hg4 hc3
    rcases b with _ | _
    · go_wp2_with fail
      refine (l1Num_any g A n cap 15 _ (by omega) (by omega) hc4).mono ?_
      rintro e w5 ⟨y, _, rfl, hc5, hg5⟩
      have R5 := R4.kept hg5 (by intro e; injection e with e; omega)
      have S5 := S4.kept hg5 (by intro e; injection e with e; omega)
      have G5 := grown_trans G4 hg5
      clear R4 S4 G4 hg5 hc4
      obtain ⟨r0, r1⟩ := R5.two
      obtain ⟨s0, s1⟩ := S5.two
      have fr := R5.frozen
      have fs := S5.frozen
      have hset := grown_set (grown_refl w5 (some S)) 1 (.int .i64 y)
      have hset2 := grown2 (w5.setCell ⟨S, 1, none⟩ (.int .i64 y)) w.heap.size (.int .i64 c) (.int .i64 y)
      have HC := Lib.hid ((hc5.kept hset (fun q hq => by injection hq with hq; omega)).kept hset2 (fun q hq => by injection hq with hq; omega))
      have HG := Lib.hid (grown_far (grown_far G5 hset (fun q hq => by injection hq with hq; omega)) hset2 (fun q hq => by injection hq with hq; omega))
      clear hset hset2
      go_wp2
      exact bodyPost_ret (v := .agg #[.int .i64 c, .int .i64 y]) (by simp [results, Tryd.results66, go_sem, r0, r1]) rfl ⟨_, _, rfl, HC.out, HG.out⟩
    · go_wp2_with fail
      refine (l1Num_any g A n cap 100000 _ (by omega) (by omega) hc4).mono ?_
      rintro e w5 ⟨y, _, rfl, hc5, hg5⟩
      have R5 := R4.kept hg5 (by intro e; injection e with e; omega)
      have S5 := S4.kept hg5 (by intro e; injection e with e; omega)
      have G5 := grown_trans G4 hg5
      clear R4 S4 G4 hg5 hc4
      obtain ⟨r0, r1⟩ := R5.two
      obtain ⟨s0, s1⟩ := S5.two
      have fr := R5.frozen
      have fs := S5.frozen
      have hset := grown_set (grown_refl w5 (some S)) 0 (.int .i64 y)
      have hset2 := grown2 (w5.setCell ⟨S, 0, none⟩ (.int .i64 y)) w.heap.size (.int .i64 y) (.int .i64 k)
      have HC := Lib.hid ((hc5.kept hset (fun q hq => by injection hq with hq; omega)).kept hset2 (fun q hq => by injection hq with hq; omega))
      have HG := Lib.hid (grown_far (grown_far G5 hset (fun q hq => by injection hq with hq; omega)) hset2 (fun q hq => by injection hq with hq; omega))
      clear hset hset2
      go_wp2
      exact bodyPost_ret (v := .agg #[.int .i64 y, .int .i64 k]) (by simp [results, Tryd.results66, go_sem, r0, r1]) rfl ⟨_, _, rfl, HC.out, HG.out⟩

end Go.Proofs.YtgjbebfcbpfngaaDoor
