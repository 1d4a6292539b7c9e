/- What the model's draws of claims leave: a claim, and the cursor further on; the cursor is a right one. -/
import Derived.Test.YtdabmnhbmdaodaaDrawStamp
import Derived.Test.YtdabmnhbmdaodaaFresh
namespace Go.Proofs.Ytdabmnhbmdaodaa
open Go.RowKit

/-- What the draw of a claim leaves. -/
def DrawnClaim (t : TypeId) (kd : IntKind) (g : Nat) (A : Option Addr) (n cap : Nat) (w : World) (e : Ending) (w' : World) : Prop :=
  ∃ ck ch ct cq cv : Int, e = .returned (.agg #[.int .i64 ck, .int .i64 ch, .int .i64 ct, .int .i64 cq, .int .i64 cv]) ∧ Cur w' t kd g A n cap ∧ w.grownBy w' (some g)

set_option maxHeartbeats 400000 in
theorem l3Draw_any (g : Nat) (A : Option Addr) (n cap : Nat) (w : World) (hc : Cur w 94 .i64 g A n cap) :
    Calls Try.prog 38 #[.pointer (some ⟨g, 0, none⟩)] w (DrawnClaim 94 .i64 g A n cap w) := by
  have hlt := hc.lt
  have R0 := Box.new w 37 #[.int .i64 0, .int .i64 0, .int .i64 0, .int .i64 0, .int .i64 0]
  have hb0 := bel_alloc w (.cells #[.int .i64 0, .int .i64 0, .int .i64 0, .int .i64 0, .int .i64 0] 37)
  go_enter Try.func38, Try.ntmps38
  go_wp2_with fail
  generalize (w.alloc _ : World) = w0 at R0 hb0 ⊢
  have hc0 := hc.kept (grown_bel hb0 none) (fun q hq => by cases hq)
  have hg0 := grown_bel hb0 (some g)
  refine (l1From_any g A n cap 1 2 _ (by omega) (by omega) (by omega) hc0).mono ?_
  rintro e w1 ⟨ck, _, rfl, hc1, hg1⟩
  go_wp2_with fail
  refine (l1Below_any g A n cap 2 _ (by omega) hc1).mono ?_
  rintro e w2 ⟨ch, _, rfl, hc2, hg2⟩
  go_wp2_with fail
  refine (l2Draw_any g A n cap _ hc2).mono ?_
  rintro e w3 ⟨ct, cq, rfl, hc3, hg3⟩
  go_wp2_with fail
  refine (l1Below_any g A n cap 5 _ (by omega) hc3).mono ?_
  rintro e w4 ⟨cv, _, rfl, hc4, hg4⟩
  have H4 := grown_trans (grown_trans (grown_trans hg1 hg2) hg3) hg4
  have R4 := R0.kept H4 (by intro e; injection e with e; omega)
  have G4 := grown_trans hg0 H4
  clear R0 hg0 hg1 hg2 hg3 hg4 hc0 hc1 hc2 hc3 hb0 hc H4
  obtain ⟨r0, r1, r2, r3, r4⟩ := R4.five
  have fr := R4.frozen
  have GS := grown5 w4 w.heap.size (.int .i64 ck) (.int .i64 ch) (.int .i64 ct) (.int .i64 cq) (.int .i64 cv)
  have HC := Lib.hid (hc4.kept GS (fun q hq => by injection hq with hq; omega))
  have HG := Lib.hid (grown_far G4 GS (fun q hq => by injection hq with hq; omega))
  clear GS
  go_wp2
  exact bodyPost_ret (v := .agg #[.int .i64 ck, .int .i64 ch, .int .i64 ct, .int .i64 cq, .int .i64 cv]) (by simp [results, Try.results38, go_sem, r0, r1, r2, r3, r4]) rfl ⟨_, _, _, _, _, rfl, HC.out, HG.out⟩

set_option maxHeartbeats 2000000 in
theorem l3DrawAny_any (g : Nat) (A : Option Addr) (n cap : Nat) (w : World) (hc : Cur w 94 .i64 g A n cap) :
    Calls Try.prog 77 #[.pointer (some ⟨g, 0, none⟩)] w (DrawnClaim 94 .i64 g A n cap w) := by
  have hlt := hc.lt
  have R0 := Box.new w 37 #[.int .i64 0, .int .i64 0, .int .i64 0, .int .i64 0, .int .i64 0]
  have hb0 := bel_alloc w (.cells #[.int .i64 0, .int .i64 0, .int .i64 0, .int .i64 0, .int .i64 0] 37)
  go_enter Try.func77, Try.ntmps77
  go_wp2_with fail
  generalize (w.alloc _ : World) = w0 at R0 hb0 ⊢
  have hc0 := hc.kept (grown_bel hb0 none) (fun q hq => by cases hq)
  have hg0 := grown_bel hb0 (some g)
  refine (l3Draw_any g A n cap _ hc0).mono ?_
  rintro e w1 ⟨ck, ch, ct, cq, cv, rfl, hc1, hg1⟩
  have R1 := R0.kept hg1 (by intro e; injection e with e; omega)
  have G1 := grown_trans hg0 hg1
  clear R0 hg0 hg1 hc0 hb0 hc
  have S1 := Box.new w1 37 #[.int .i64 ck, .int .i64 ch, .int .i64 ct, .int .i64 cq, .int .i64 cv]
  have hb2 := bel_alloc w1 (.cells #[.int .i64 ck, .int .i64 ch, .int .i64 ct, .int .i64 cq, .int .i64 cv] 37)
  have hR1 := R1.lt
  go_wp2_with fail
  have R2 := R1.later hb2 R1.lt
  have G2 := grown_trans G1 (grown_bel hb2 (some g))
  have hc2 := hc1.kept (grown_bel hb2 none) (fun q hq => by cases hq)
  generalize (w1.alloc _ : World) = w2 at S1 hb2 R2 G2 hc2 ⊢
  generalize w1.heap.size = S at S1 hR1 ⊢
  refine (l1Once_any g A n cap 6 _ (by omega) hc2).mono ?_
  rintro e w3 ⟨b, rfl, hc3, hg3⟩
  have R3 := R2.kept hg3 (by intro e; injection e with e; omega)
  have S3 := S1.kept hg3 (by intro e; injection e with e; omega)
  have G3 := grown_trans G2 hg3
  clear R1 R2 S1 G1 G2 hg3 hc1 hc2 hb2
  have hSR : S ≠ w.heap.size := by omega
  rcases b with _ | _
  · obtain ⟨r0, r1, r2, r3, r4⟩ := R3.five
    obtain ⟨s0, s1, s2, s3, s4⟩ := S3.five
    have fr := R3.frozen
    have GS := grown5 w3 w.heap.size (.int .i64 ck) (.int .i64 ch) (.int .i64 ct) (.int .i64 cq) (.int .i64 cv)
    have HC := Lib.hid (hc3.kept GS (fun q hq => by injection hq with hq; omega))
    have HG := Lib.hid (grown_far G3 GS (fun q hq => by injection hq with hq; omega))
    clear GS
    go_wp2
    exact bodyPost_ret (v := .agg #[.int .i64 ck, .int .i64 ch, .int .i64 ct, .int .i64 cq, .int .i64 cv]) (by simp [results, Try.results77, go_sem, r0, r1, r2, r3, r4]) rfl ⟨_, _, _, _, _, rfl, HC.out, HG.out⟩
  · go_wp2_with fail
    refine (l1Below_any g A n cap 4 _ (by omega) hc3).mono ?_
    rintro e w4 ⟨z, ⟨hz0, hz1⟩, rfl, hc4, hg4⟩
    have R4 := R3.kept hg4 (by intro e; injection e with e; omega)
    have S4 := S3.kept hg4 (by intro e; injection e with e; omega)
    have G4 := grown_trans G3 hg4
    clear R3 S3 G3 hg4 hc3
    have hcase : z = 0 ∨ z = 1 ∨ z = 2 ∨ z = 3 := by omega
    clear hz0 hz1
    rcases hcase with rfl | rfl | rfl | rfl
    · go_wp2_with fail
      refine (l1From_any g A n cap 0 3 _ (by omega) (by omega) (by omega) hc4).mono ?_
      rintro e w5 ⟨y, _, rfl, hc5, hg5⟩
      have R5 := R4.kept hg5 (by intro e; injection e with e; omega)
      have S5 := S4.kept hg5 (by intro e; injection e with e; omega)
      have G5 := grown_trans G4 hg5
      clear R4 S4 G4 hg5 hc4
      obtain ⟨r0, r1, r2, r3, r4⟩ := R5.five
      obtain ⟨s0, s1, s2, s3, s4⟩ := S5.five
      have fr := R5.frozen
      have fs := S5.frozen
      have hset := grown_set (grown_refl w5 (some S)) 0 (.int .i64 y)
      have hset2 := grown5 (w5.setCell ⟨S, 0, none⟩ (.int .i64 y)) w.heap.size (.int .i64 y) (.int .i64 ch) (.int .i64 ct) (.int .i64 cq) (.int .i64 cv)
      have HC := Lib.hid ((hc5.kept hset (fun q hq => by injection hq with hq; omega)).kept hset2 (fun q hq => by injection hq with hq; omega))
      have HG := Lib.hid (grown_far (grown_far G5 hset (fun q hq => by injection hq with hq; omega)) hset2 (fun q hq => by injection hq with hq; omega))
      clear hset hset2
      go_wp2
      exact bodyPost_ret (v := .agg #[.int .i64 y, .int .i64 ch, .int .i64 ct, .int .i64 cq, .int .i64 cv]) (by simp [results, Try.results77, go_sem, r0, r1, r2, r3, r4]) rfl ⟨_, _, _, _, _, rfl, HC.out, HG.out⟩
    · go_wp2_with fail
      refine (l1Num_any g A n cap 3 _ (by omega) (by omega) hc4).mono ?_
      rintro e w5 ⟨y, _, rfl, hc5, hg5⟩
      have R5 := R4.kept hg5 (by intro e; injection e with e; omega)
      have S5 := S4.kept hg5 (by intro e; injection e with e; omega)
      have G5 := grown_trans G4 hg5
      clear R4 S4 G4 hg5 hc4
      obtain ⟨r0, r1, r2, r3, r4⟩ := R5.five
      obtain ⟨s0, s1, s2, s3, s4⟩ := S5.five
      have fr := R5.frozen
      have fs := S5.frozen
      have hset := grown_set (grown_refl w5 (some S)) 1 (.int .i64 y)
      have hset2 := grown5 (w5.setCell ⟨S, 1, none⟩ (.int .i64 y)) w.heap.size (.int .i64 ck) (.int .i64 y) (.int .i64 ct) (.int .i64 cq) (.int .i64 cv)
      have HC := Lib.hid ((hc5.kept hset (fun q hq => by injection hq with hq; omega)).kept hset2 (fun q hq => by injection hq with hq; omega))
      have HG := Lib.hid (grown_far (grown_far G5 hset (fun q hq => by injection hq with hq; omega)) hset2 (fun q hq => by injection hq with hq; omega))
      clear hset hset2
      go_wp2
      exact bodyPost_ret (v := .agg #[.int .i64 ck, .int .i64 y, .int .i64 ct, .int .i64 cq, .int .i64 cv]) (by simp [results, Try.results77, go_sem, r0, r1, r2, r3, r4]) rfl ⟨_, _, _, _, _, rfl, HC.out, HG.out⟩
    · go_wp2_with fail
      refine (l2DrawAny_any g A n cap _ hc4).mono ?_
      rintro e w5 ⟨y, z, rfl, hc5, hg5⟩
      have R5 := R4.kept hg5 (by intro e; injection e with e; omega)
      have S5 := S4.kept hg5 (by intro e; injection e with e; omega)
      have G5 := grown_trans G4 hg5
      clear R4 S4 G4 hg5 hc4
      obtain ⟨r0, r1, r2, r3, r4⟩ := R5.five
      obtain ⟨s0, s1, s2, s3, s4⟩ := S5.five
      have fr := R5.frozen
      have fs := S5.frozen
      have hset := grown_set (grown_set (grown_refl w5 (some S)) 2 (.int .i64 y)) 3 (.int .i64 z)
      have hset2 := grown5 ((w5.setCell ⟨S, 2, none⟩ (.int .i64 y)).setCell ⟨S, 3, none⟩ (.int .i64 z)) w.heap.size (.int .i64 ck) (.int .i64 ch) (.int .i64 y) (.int .i64 z) (.int .i64 cv)
      have HC := Lib.hid ((hc5.kept hset (fun q hq => by injection hq with hq; omega)).kept hset2 (fun q hq => by injection hq with hq; omega))
      have HG := Lib.hid (grown_far (grown_far G5 hset (fun q hq => by injection hq with hq; omega)) hset2 (fun q hq => by injection hq with hq; omega))
      clear hset hset2
      go_wp2
      exact bodyPost_ret (v := .agg #[.int .i64 ck, .int .i64 ch, .int .i64 y, .int .i64 z, .int .i64 cv]) (by simp [results, Try.results77, go_sem, r0, r1, r2, r3, r4]) rfl ⟨_, _, _, _, _, rfl, HC.out, HG.out⟩
    · go_wp2_with fail
      refine (l1Num_any g A n cap 9999 _ (by omega) (by omega) hc4).mono ?_
      rintro e w5 ⟨y, _, rfl, hc5, hg5⟩
      have R5 := R4.kept hg5 (by intro e; injection e with e; omega)
      have S5 := S4.kept hg5 (by intro e; injection e with e; omega)
      have G5 := grown_trans G4 hg5
      clear R4 S4 G4 hg5 hc4
      obtain ⟨r0, r1, r2, r3, r4⟩ := R5.five
      obtain ⟨s0, s1, s2, s3, s4⟩ := S5.five
      have fr := R5.frozen
      have fs := S5.frozen
      have hset := grown_set (grown_refl w5 (some S)) 4 (.int .i64 y)
      have hset2 := grown5 (w5.setCell ⟨S, 4, none⟩ (.int .i64 y)) w.heap.size (.int .i64 ck) (.int .i64 ch) (.int .i64 ct) (.int .i64 cq) (.int .i64 y)
      have HC := Lib.hid ((hc5.kept hset (fun q hq => by injection hq with hq; omega)).kept hset2 (fun q hq => by injection hq with hq; omega))
      have HG := Lib.hid (grown_far (grown_far G5 hset (fun q hq => by injection hq with hq; omega)) hset2 (fun q hq => by injection hq with hq; omega))
      clear hset hset2
      go_wp2
      exact bodyPost_ret (v := .agg #[.int .i64 ck, .int .i64 ch, .int .i64 ct, .int .i64 cq, .int .i64 y]) (by simp [results, Try.results77, go_sem, r0, r1, r2, r3, r4]) rfl ⟨_, _, _, _, _, rfl, HC.out, HG.out⟩

end Go.Proofs.Ytdabmnhbmdaodaa
