/- The laws' sizes, copies, comparisons and marks of groups, shelves and notes as data; conditions: the sizes. -/
import Derived.Test.YtmooajppfjglaaaGreatKinds8a
import Derived.Test.YtmooajppfjglaaaGreatLawsAnswer
import Derived.Test.YtmooajppfjglaaaGreatCopiesMark
namespace Go.Proofs.YtmooajppfjglaaaGreat
open Go.RowKit

/-- What a size test answers: what is left, or less than nothing. -/
def Left (L : Int) (k : Nat) (e : Ending) : Prop := ∃ v : Int, e = .returned (.int .i64 v) ∧ ((k : Int) ≤ L → v = L - k) ∧ (L < k → v < 0)
theorem sz_G {d : GrpD} {w : World} {F : Nat → Prop} {C : Array Value} (h : AtG d w F (.agg C)) :
    Calls Tryz.prog 29 #[.agg C, .int .i64 1048576] w fun e w' => Left 1048576 d.sz e ∧ Below w.heap.size w w' := by
  obtain ⟨A, n, cap, e, hm, hr⟩ := h
  injection e with e
  subst e
  have hl : d.zs.length = n := hr.1.1
  rcases Nat.lt_or_ge 1048576 n with hn | hn
  · refine (szGroup_gt _ _ _ _ A n cap w hn hm).mono ?_
    rintro e w' ⟨rfl, hb⟩
    exact ⟨⟨-1, rfl, fun h => absurd h (by unfold GrpD.sz; omega), fun _ => by omega⟩, hb⟩
  · refine (szGroup_le _ _ _ _ A n cap w hn).mono ?_
    rintro e w' ⟨rfl, hb⟩
    exact ⟨⟨_, rfl, fun _ => by unfold GrpD.sz; rw [hl], fun h => absurd h (by unfold GrpD.sz; omega)⟩, hb⟩
/-- A copy was made: the same data, in new blocks. -/
def Copied (P : World → (Nat → Prop) → Value → Prop) (w : World) (e : Ending) (w' : World) : Prop := ∃ C, e = .returned (.agg C) ∧ P w' (Iv w.heap.size w'.heap.size) (.agg C) ∧ Below w.heap.size w w'
theorem to_G {d : GrpD} {w : World} {F : Nat → Prop} {C : Array Value} (h : AtG d w F (.agg C)) (hs : d.sz ≤ 1048576) : Calls Tryz.prog 31 #[.agg C] w (Copied (LieG d) w) := by
  obtain ⟨A, n, cap, e, hm, hr⟩ := h
  injection e with e
  subst e
  have hl : d.zs.length = n := hr.1.1
  have hn : n ≤ 1048576 := by unfold GrpD.sz at hs; omega
  refine (toGroup_fr _ _ _ _ A n cap d.zs w hn hr.1).mono ?_
  rintro e w' ⟨g, hg, rfl, hrow, hf, hgl, hb⟩
  exact ⟨_, rfl, ⟨_, rfl, g, n, n, rfl, Nat.le_refl _, by unfold maxLen; omega, ⟨hg, hgl⟩, hgl, hf, hrow⟩, hb⟩
theorem eq_G {d : GrpD} {w : World} {F F' : Nat → Prop} {C C' : Array Value} (h : AtG d w F (.agg C)) (h' : AtG d w F' (.agg C')) (hs : d.sz ≤ 1048576) :
    Calls Tryz.prog 34 #[.agg C, .agg C'] w fun e w' => e = .returned (.bool true) ∧ Below w.heap.size w w' := by
  obtain ⟨A, n, cap, e, hm, hr⟩ := h
  obtain ⟨A', n', cap', e', hm', hr'⟩ := h'
  injection e with e
  injection e' with e'
  subst e e'
  have hl : d.zs.length = n := hr.1.1
  have hl' : d.zs.length = n' := hr'.1.1
  subst hl hl'
  exact eqGroup_same _ _ _ _ A A' _ cap cap' d.zs w hs hr.1 hr'.1
theorem eq_R {d : RegD} {w : World} {F F' : Nat → Prop} {C C' : Array Value} (h : AtR d w F (.agg C)) (h' : AtR d w F' (.agg C')) (hs : d.ps.length ≤ 1048576) (hs' : d.os.length ≤ 1048577) :
    Calls Tryz.prog 87 #[.agg C, .agg C'] w fun e w' => e = .returned (.bool true) ∧ Below w.heap.size w w' := by
  obtain ⟨A, n, cap, B, m, dap, e, hm, hn, hr, hq⟩ := h
  obtain ⟨A', n', cap', B', m', dap', e', hm', hn', hr', hq'⟩ := h'
  injection e with e
  injection e' with e'
  subst e e'
  have hl : d.ps.length = n := hr.1.1
  have hl' : d.ps.length = n' := hr'.1.1
  have hk : d.os.length = m := hq.1.1
  have hk' : d.os.length = m' := hq'.1.1
  subst hl hl' hk hk'
  exact eqReg_same _ _ _ A A' _ cap cap' B B' _ dap dap' d.ps d.os w hs hs' hr.1 hr'.1 hq.1 hq'.1
theorem eqd_R {d : RegD} {w : World} {F F' : Nat → Prop} {C C' : Array Value} (h : AtR d w F (.agg C)) (h' : AtR d w F' (.agg C')) (hs : d.sz ≤ 1048576) :
    Calls Tryz.prog 87 #[.agg C, .agg C'] w fun e w' => e = .returned (.bool true) ∧ Below w.heap.size w w' := eq_R h h' (by unfold RegD.sz at hs; omega) (by unfold RegD.sz at hs; omega)
/-- The marks of an argument: only its own blocks turn. -/
theorem mark_G {d : GrpD} {w : World} {F : Nat → Prop} {C : Array Value} {k : Int} (h : LieG d w F (.agg C)) (hs : d.sz ≤ 1048576) (hk0 : 0 ≤ k) (hk1 : k ≤ 10000000) :
    Calls Tryz.prog 36 #[.agg C, .int .i64 k] w fun e w' => e = .returned (.int .i64 (k + d.mk8)) ∧ Turns F w w' := by
  obtain ⟨u, e, g, n, cap, rfl, h1, h2, hF, hl, hf, hr⟩ := h
  injection e with e
  subst e
  have hn : d.zs.length = n := hr.1
  unfold GrpD.sz at hs
  refine (markGroup_is _ _ _ _ g n cap k d.zs w (by omega) hk0 (by omega) hr hf hl).mono ?_
  rintro e w' ⟨rfl, hg⟩
  exact ⟨by unfold GrpD.mk8; rw [hn], (Turns.of_grown hg).sub fun i _ hi => hi ▸ hF⟩
/-- A shelf that was marked from k on. -/
def MarkedR (k : Int) (d d' : RegD) : Prop := d'.ps.length = d.ps.length ∧ d'.os.length = d.os.length ∧ Marked k d'.ps ∧ MarkedQ (k + 2 * d.ps.length) d'.os
end Go.Proofs.YtmooajppfjglaaaGreat
