/- The laws' sizes, copies, comparisons and marks of groups, shelves and notes as data; conditions: the sizes. -/
import Derived.Test.YtjdepjpjjgkmbaaGreatKinds8a
import Derived.Test.YtjdepjpjjgkmbaaGreatLawsAnswer
import Derived.Test.YtjdepjpjjgkmbaaGreatCopiesMark
namespace Go.Proofs.YtjdepjpjjgkmbaaGreat
open Go.RowKit

/-- What a size test answers: what is left, or less than nothing. -/
def Left (L : Int) (k : Nat) (e : Ending) : Prop := ∃ v : Int, e = .returned (.int .i64 v) ∧ ((k : Int) ≤ L → v = L - k) ∧ (L < k → v < 0)
theorem sz_G {d : GrpD} {w : World} {F : Nat → Prop} {C : Array Value} (h : AtG d w F (.agg C)) :
    Calls Tryz.prog 24 #[.agg C, .int .i64 1048576] w fun e w' => Left 1048576 d.sz e ∧ Below w.heap.size w w' := by
  obtain ⟨A, n, cap, e, hm, hr⟩ := h
  injection e with e
  subst e
  have hl : d.zs.length = n := hr.1.1
  rcases Nat.lt_or_ge 1048576 n with hn | hn
  · refine (szGroup_gt _ _ _ _ A n cap w hn hm).mono ?_
    rintro e w' ⟨rfl, hb⟩
    exact ⟨⟨-1, rfl, fun h => absurd h (by unfold GrpD.sz; omega), fun _ => by omega⟩, hb⟩
  · refine (szGroup_le _ _ _ _ A n cap w hn).mono ?_
    rintro e w' ⟨rfl, hb⟩
    exact ⟨⟨_, rfl, fun _ => by unfold GrpD.sz; rw [hl], fun h => absurd h (by unfold GrpD.sz; omega)⟩, hb⟩
theorem sz_R {d : RegD} {w : World} {F : Nat → Prop} {C : Array Value} {L : Int} (h : AtR d w F (.agg C)) (h0 : 0 ≤ L) (h1 : L ≤ 1048576) :
    Calls Tryz.prog 42 #[.agg C, .int .i64 L] w fun e w' => Left L d.sz e ∧ Below w.heap.size w w' := by
  obtain ⟨A, n, cap, A', n', cap', e, hm, hm', hr, hr'⟩ := h
  injection e with e
  subst e
  have hl : d.ps.length = n := hr.1.1
  have hl' : d.os.length = n' := hr'.1.1
  have hz : d.sz = n + n' := by unfold RegD.sz; omega
  rcases Int.lt_or_le L ((n : Int) + n') with hn | hn
  · refine (szReg_gt _ _ _ A n cap A' n' cap' L w h0 h1 hn hm hm').mono ?_
    rintro e w' ⟨rfl, hb⟩
    exact ⟨⟨-1, rfl, fun h => absurd h (by omega), fun _ => by omega⟩, hb⟩
  · refine (szReg_le _ _ _ A n cap A' n' cap' L w h1 hn).mono ?_
    rintro e w' ⟨rfl, hb⟩
    exact ⟨⟨_, rfl, fun _ => by omega, fun h => absurd h (by omega)⟩, hb⟩
theorem sz_N {d : NoteD} {w : World} {F : Nat → Prop} {C : Array Value} {L : Int} (h : AtN d w F (.agg C)) (h0 : 0 ≤ L) (h1 : L ≤ 1048576) :
    Calls Tryz.prog 43 #[.agg C, .int .i64 L] w fun e w' => Left L d.sz e ∧ Below w.heap.size w w' := by
  obtain ⟨A, n, cap, A', n', cap', e, hm, hm', hr, hr'⟩ := h
  injection e with e
  subst e
  have hl : d.cs.length = n := hr.1.1
  have hl' : d.ms.length = n' := hr'.1.1
  have hz : d.sz = n + n' := by unfold NoteD.sz; omega
  rcases Int.lt_or_le L ((n : Int) + n') with hn | hn
  · refine (szNote_gt d.k1 d.k2 d.k3 d.k4 d.k5 d.t1 d.t2 d.v1 d.o1 d.o2 d.v2 A n cap A' n' cap' d.l1 d.l2 d.v3 L w h0 h1 hn hm hm').mono ?_
    rintro e w' ⟨rfl, hb⟩
    exact ⟨⟨-1, rfl, fun h => absurd h (by omega), fun _ => by omega⟩, hb⟩
  · refine (szNote_le d.k1 d.k2 d.k3 d.k4 d.k5 d.t1 d.t2 d.v1 d.o1 d.o2 d.v2 A n cap A' n' cap' d.l1 d.l2 d.v3 L w h1 hn).mono ?_
    rintro e w' ⟨rfl, hb⟩
    exact ⟨⟨_, rfl, fun _ => by omega, fun h => absurd h (by omega)⟩, hb⟩

/-- A copy was made: the same data, in new blocks. -/
def Copied (P : World → (Nat → Prop) → Value → Prop) (w : World) (e : Ending) (w' : World) : Prop := ∃ C, e = .returned (.agg C) ∧ P w' (Iv w.heap.size w'.heap.size) (.agg C) ∧ Below w.heap.size w w'
theorem to_G {d : GrpD} {w : World} {F : Nat → Prop} {C : Array Value} (h : AtG d w F (.agg C)) (hs : d.sz ≤ 1048576) : Calls Tryz.prog 26 #[.agg C] w (Copied (LieG d) w) := by
  obtain ⟨A, n, cap, e, hm, hr⟩ := h
  injection e with e
  subst e
  have hl : d.zs.length = n := hr.1.1
  have hn : n ≤ 1048576 := by unfold GrpD.sz at hs; omega
  refine (toGroup_fr _ _ _ _ A n cap d.zs w hn hr.1).mono ?_
  rintro e w' ⟨g, hg, rfl, hrow, hf, hgl, hb⟩
  exact ⟨_, rfl, ⟨_, rfl, g, n, n, rfl, Nat.le_refl _, by unfold maxLen; omega, ⟨hg, hgl⟩, hgl, hf, hrow⟩, hb⟩
theorem to_R {d : RegD} {w : World} {F : Nat → Prop} {C : Array Value} (h : AtR d w F (.agg C)) (hs : d.sz ≤ 1048576) : Calls Tryz.prog 45 #[.agg C] w (Copied (LieR d) w) := by
  obtain ⟨A, n, cap, A', n', cap', e, hm, hm', hr, hr'⟩ := h
  injection e with e
  subst e
  have hl : d.ps.length = n := hr.1.1
  have hl' : d.os.length = n' := hr'.1.1
  have hn : n ≤ 1048576 := by unfold RegD.sz at hs; omega
  have hn' : n' ≤ 1048576 := by unfold RegD.sz at hs; omega
  refine (toReg_any _ _ _ A n cap A' n' cap' d.ps d.os w hn hn' hr.1 hr'.1).mono ?_
  rintro e w' ⟨g, h, hg, hgh, rfl, hp, hq, hb⟩
  subst hl hl'
  have hhl := hq.lt
  exact ⟨_, rfl, ⟨_, _, _, _, _, _, w.heap.size, g + 1, w'.heap.size, rfl, .inr ⟨g, _, hg, by omega, rfl, Nat.le_refl _, by unfold maxLen; omega, hp⟩, .inr ⟨h, _, by omega, hq.lt, rfl, Nat.le_refl _, by unfold maxLen; omega, hq⟩, by omega, by omega, Nat.le_refl _, fun b hb => hb⟩, hb⟩
theorem to_N {d : NoteD} {w : World} {F : Nat → Prop} {C : Array Value} (h : AtN d w F (.agg C)) (hs : d.sz ≤ 1048576) : Calls Tryz.prog 46 #[.agg C] w (Copied (LieN d) w) := by
  obtain ⟨A, n, cap, A', n', cap', e, hm, hm', hr, hr'⟩ := h
  injection e with e
  subst e
  have hl : d.cs.length = n := hr.1.1
  have hl' : d.ms.length = n' := hr'.1.1
  have hn : n ≤ 1048576 := by unfold NoteD.sz at hs; omega
  have hn' : n' ≤ 1048576 := by unfold NoteD.sz at hs; omega
  refine (toNote_any d.k1 d.k2 d.k3 d.k4 d.k5 d.t1 d.t2 d.v1 d.o1 d.o2 d.v2 A n cap A' n' cap' d.l1 d.l2 d.v3 d.cs d.ms w hn hn' hr.1 hr'.1).mono ?_
  rintro e w' ⟨g, h, hg, hgh, rfl, hp, hq, hb⟩
  exact ⟨_, rfl, ⟨g, n, n, h, n', n', rfl, hl, hl', by unfold maxLen; omega, by unfold maxLen; omega, hp, hq, ⟨by omega, hp.lt⟩, ⟨by omega, hq.lt⟩, by omega⟩, hb⟩

theorem eq_G {d : GrpD} {w : World} {F F' : Nat → Prop} {C C' : Array Value} (h : AtG d w F (.agg C)) (h' : AtG d w F' (.agg C')) (hs : d.sz ≤ 1048576) :
    Calls Tryz.prog 28 #[.agg C, .agg C'] w fun e w' => e = .returned (.bool true) ∧ Below w.heap.size w w' := by
  obtain ⟨A, n, cap, e, hm, hr⟩ := h
  obtain ⟨A', n', cap', e', hm', hr'⟩ := h'
  injection e with e
  injection e' with e'
  subst e e'
  have hl : d.zs.length = n := hr.1.1
  have hl' : d.zs.length = n' := hr'.1.1
  subst hl hl'
  exact eqGroup_same _ _ _ _ A A' _ cap cap' d.zs w hs hr.1 hr'.1
theorem eq_R {d : RegD} {w : World} {F F' : Nat → Prop} {C C' : Array Value} (h : AtR d w F (.agg C)) (h' : AtR d w F' (.agg C')) (hs : d.ps.length ≤ 1048576) (hs' : d.os.length ≤ 1048577) :
    Calls Tryz.prog 48 #[.agg C, .agg C'] w fun e w' => e = .returned (.bool true) ∧ Below w.heap.size w w' := by
  obtain ⟨A, n, cap, B, m, dap, e, hm, hn, hr, hq⟩ := h
  obtain ⟨A', n', cap', B', m', dap', e', hm', hn', hr', hq'⟩ := h'
  injection e with e
  injection e' with e'
  subst e e'
  have hl : d.ps.length = n := hr.1.1
  have hl' : d.ps.length = n' := hr'.1.1
  have hk : d.os.length = m := hq.1.1
  have hk' : d.os.length = m' := hq'.1.1
  subst hl hl' hk hk'
  exact eqReg_same _ _ _ A A' _ cap cap' B B' _ dap dap' d.ps d.os w hs hs' hr.1 hr'.1 hq.1 hq'.1
theorem eqd_R {d : RegD} {w : World} {F F' : Nat → Prop} {C C' : Array Value} (h : AtR d w F (.agg C)) (h' : AtR d w F' (.agg C')) (hs : d.sz ≤ 1048576) :
    Calls Tryz.prog 48 #[.agg C, .agg C'] w fun e w' => e = .returned (.bool true) ∧ Below w.heap.size w w' := eq_R h h' (by unfold RegD.sz at hs; omega) (by unfold RegD.sz at hs; omega)
theorem eq_N {d : NoteD} {w : World} {F F' : Nat → Prop} {C C' : Array Value} (h : AtN d w F (.agg C)) (h' : AtN d w F' (.agg C')) (hs : d.sz ≤ 1048576) :
    Calls Tryz.prog 49 #[.agg C, .agg C'] w fun e w' => e = .returned (.bool true) ∧ Below w.heap.size w w' := by
  obtain ⟨A, n, cap, B, m, dap, e, hm, hn, hr, hq⟩ := h
  obtain ⟨A', n', cap', B', m', dap', e', hm', hn', hr', hq'⟩ := h'
  injection e with e
  injection e' with e'
  subst e e'
  have hl : d.cs.length = n := hr.1.1
  have hl' : d.cs.length = n' := hr'.1.1
  have hk : d.ms.length = m := hq.1.1
  have hk' : d.ms.length = m' := hq'.1.1
  subst hl hl' hk hk'
  unfold NoteD.sz at hs
  exact eqNote_same d.k1 d.k2 d.k3 d.k4 d.k5 d.t1 d.t2 d.v1 d.o1 d.o2 d.v2 A _ cap B _ dap d.l1 d.l2 d.v3 A' cap' B' dap' d.cs d.ms w (by omega) (by omega) hr.1 hq.1 hr'.1 hq'.1

/-- The marks of an argument: only its own blocks turn. -/
theorem mark_G {d : GrpD} {w : World} {F : Nat → Prop} {C : Array Value} {k : Int} (h : LieG d w F (.agg C)) (hs : d.sz ≤ 1048576) (hk0 : 0 ≤ k) (hk1 : k ≤ 10000000) :
    Calls Tryz.prog 34 #[.agg C, .int .i64 k] w fun e w' => e = .returned (.int .i64 (k + d.mk8)) ∧ Turns F w w' := by
  obtain ⟨u, e, g, n, cap, rfl, h1, h2, hF, hl, hf, hr⟩ := h
  injection e with e
  subst e
  have hn : d.zs.length = n := hr.1
  unfold GrpD.sz at hs
  refine (markGroup_is _ _ _ _ g n cap k d.zs w (by omega) hk0 (by omega) hr hf hl).mono ?_
  rintro e w' ⟨rfl, hg⟩
  exact ⟨by unfold GrpD.mk8; rw [hn], (Turns.of_grown hg).sub fun i _ hi => hi ▸ hF⟩
set_option maxHeartbeats 4000000 in
theorem mark_N {d : NoteD} {w : World} {F : Nat → Prop} {C : Array Value} {k : Int} (h : LieN d w F (.agg C)) (hs : d.sz ≤ 1048576) (hk0 : 0 ≤ k) (hk1 : k ≤ 10000000) :
    Calls Tryz.prog 51 #[.agg C, .int .i64 k] w fun e w' => e = .returned (.int .i64 (k + d.mk8)) ∧ Turns F w w' := by
  obtain ⟨g, n, c, g', n', c', e, l1, l2, m1, m2, h1, h2, f1, f2, hne⟩ := h
  injection e with e
  unfold NoteD.sz at hs
  have hmk : d.mk8 = 2 * (n : Int) + 2 * n' := by unfold NoteD.mk8; rw [l1, l2]
  have B0 := Box.new w 85 C
  have E0 := bel_alloc w (.cells C 85)
  have T0 := Turns.of_below (T := F) E0
  have cN := B0.cell
  have hy1 := h1.lt
  have hy2 := h2.lt
  obtain ⟨n0, n1, n2, n3, n4, n5, n6, n7, n8, n9, n10, n11, n12, n13, n14, n15⟩ := cellsN e
  clear n0 n1 n2 n3 n4 n5 n6 n7 n8 n9 n10 n13 n14 n15
  have H1 := Lib.hid (h1.later E0)
  have H2 := Lib.hid (h2.later E0)
  have HL1 := Lib.hid l1
  have HL2 := Lib.hid l2
  have HM := Lib.hid hmk
  have b1 : n ≤ 4194304 := by omega
  have b2 : n' ≤ 4194304 := by omega
  have b3 : 0 ≤ k + 2 * (n : Int) := by omega
  have b4 : k + 2 * (n : Int) ≤ 100000000 := by omega
  have hgf1 : F g := f1
  clear e h1 h2 l1 l2 hmk
  go_enter Tryz.func51, Tryz.ntmps51
  go_wp2_with fail
  generalize (w.alloc _ : World) = w0 at B0 E0 T0 cN H1 H2 ⊢
  refine (mark_is g n c k d.cs w0 b1 hk0 (by omega) HL1.out H1.out).mono ?_
  rintro e w1 ⟨rfl, d1, -, -, -, hg1⟩
  have B1 := B0.kept hg1 (by intro e; injection e with e; omega)
  have cN := B1.cell
  have H21 := Lib.hid (H2.out.turn (Turns.of_grown hg1) (fun e => hne e.symm))
  have T1 := T0.trans ((Turns.of_grown hg1).sub fun i _ hi => hi ▸ f1)
  clear B0 hg1 T0 H1 H2
  go_wp2_with fail
  refine (mark_is g' n' c' (k + 2 * n) d.ms w1 b2 b3 b4 HL2.out H21.out).mono ?_
  rintro e w2 ⟨rfl, d2, -, -, -, hg2⟩
  have T2 := Lib.hid (T1.trans ((Turns.of_grown hg2).sub fun i _ hi => hi ▸ f2))
  clear hg2 B1 cN T1
  go_wp2
  go_ret
  exact ⟨by rw [HM.out, Int.add_assoc]; rfl, T2.out⟩
/-- A shelf that was marked from k on. -/
def MarkedR (k : Int) (d d' : RegD) : Prop := d'.ps.length = d.ps.length ∧ d'.os.length = d.os.length ∧ Marked k d'.ps ∧ MarkedQ (k + 2 * d.ps.length) d'.os
theorem markd_R {d : RegD} {w : World} {F : Nat → Prop} {C : Array Value} {k : Int} (h : LieR d w F (.agg C)) (hs : d.ps.length ≤ 1048577) (hs' : d.os.length ≤ 1048577) (hk0 : 0 ≤ k) (hk1 : k ≤ 10000000) :
    Calls Tryz.prog 50 #[.agg C, .int .i64 k] w fun e w' => e = .returned (.int .i64 (k + d.mk8)) ∧ Turns F w w' ∧ ∃ d', MarkedR k d d' ∧ LieR d' w' F (.agg C) := by
  obtain ⟨A, n, c, A', n', c', lo, B, hi, e, h1, h2, o1, o2, o3, hF⟩ := h
  injection e with e
  subst e
  refine (markReg_is d.t d.q d.v k h1 h2 o1 o2 o3 hs hs' hk0 hk1).mono ?_
  rintro e w' ⟨rfl, D, D2, e1, e2, m1, m2, r1, r2, hb⟩
  refine ⟨by unfold RegD.mk8; rw [Int.add_assoc], ⟨hb.os, hb.tape, hb.output, hb.size, fun i hi' hn => hb.block i hi' ?_⟩, ⟨d.t, d.q, d.v, D, D2⟩, ⟨e1, e2, m1, m2⟩, A, n, c, A', n', c', lo, B, hi, rfl, r1, r2, o1, o2, Nat.le_trans o3 hb.size, hF⟩
  rcases Nat.lt_or_ge i lo with h | h
  · exact .inl h
  · rcases Nat.lt_or_ge i hi with h' | h'
    · exact absurd (hF i ⟨h, h'⟩) hn
    · exact .inr h'
theorem mark_R {d : RegD} {w : World} {F : Nat → Prop} {C : Array Value} {k : Int} (h : LieR d w F (.agg C)) (hs : d.sz ≤ 1048576) (hk0 : 0 ≤ k) (hk1 : k ≤ 10000000) :
    Calls Tryz.prog 50 #[.agg C, .int .i64 k] w fun e w' => e = .returned (.int .i64 (k + d.mk8)) ∧ Turns F w w' := by
  unfold RegD.sz at hs
  refine (markd_R h (by omega) (by omega) hk0 hk1).mono ?_
  rintro e w' ⟨rfl, ht, -⟩
  exact ⟨rfl, ht⟩
theorem held_R {d d' : RegD} {w : World} {F : Nat → Prop} {C : Array Value} {k : Int} (h : LieR d' w F (.agg C)) (hm : MarkedR k d d') (hs : d.ps.length ≤ 1048577) (hs' : d.os.length ≤ 1048577) (hk0 : 0 ≤ k) (hk1 : k ≤ 10000000) :
    Calls Tryz.prog 52 #[.agg C, .int .i64 k] w fun e w' => e = .returned (.int .i64 (k + d.mk8)) ∧ Below w.heap.size w w' := by
  obtain ⟨A, n, c, A', n', c', lo, B, hi, e, h1, h2, o1, o2, o3, hF⟩ := h
  injection e with e
  subst e
  obtain ⟨e1, e2, m1, m2⟩ := hm
  refine (heldReg_is d'.t d'.q d'.v k h1 h2 m1 (by rw [e1]; exact m2) (by omega) (by omega) hk0 hk1).mono ?_
  rintro e w' ⟨rfl, hb⟩
  exact ⟨by unfold RegD.mk8; rw [e1, e2, Int.add_assoc], hb⟩

end Go.Proofs.YtjdepjpjjgkmbaaGreat
