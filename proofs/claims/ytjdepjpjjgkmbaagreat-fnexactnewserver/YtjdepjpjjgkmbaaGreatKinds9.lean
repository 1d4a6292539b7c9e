/- The laws' sizes, copies, comparisons and marks of a record as data, and its sum; conditions: the sizes. -/
import Derived.Test.YtjdepjpjjgkmbaaGreatRecKind
import Derived.Test.YtjdepjpjjgkmbaaGreatSpecSum9
import Derived.Test.YtjdepjpjjgkmbaaGreatKinds8
namespace Go.Proofs.YtjdepjpjjgkmbaaGreat
open Go Go.RowKit

theorem sz_C {d : RecD} {w : World} {F : Nat → Prop} {C : Array Value} {L : Int} (h : AtC d w F (.agg C)) (h0 : 0 ≤ L) (h1 : L ≤ 1048576) :
    Calls Tryz.prog 146 #[.agg C, .int .i64 L] w fun e w' => Left L d.sz e ∧ Below w.heap.size w w' := by
  obtain ⟨A, n, cap, e, hm, hr⟩ := h
  injection e with e
  subst e
  have hl : d.ps.length = n := hr.1.1
  have hz : d.sz = n := hl
  rcases Int.lt_or_le L (n : Int) with hn | hn
  · refine (szRec_gt _ _ _ _ _ _ _ A n cap _ L w h0 h1 hn hm).mono ?_
    rintro e w' ⟨rfl, hb⟩
    exact ⟨⟨-1, rfl, fun h => absurd h (by omega), fun _ => by omega⟩, hb⟩
  · refine (szRec_le _ _ _ _ _ _ _ A n cap _ L w h1 hn).mono ?_
    rintro e w' ⟨rfl, hb⟩
    exact ⟨⟨_, rfl, fun _ => by omega, fun h => absurd h (by omega)⟩, hb⟩
theorem to_C {d : RecD} {w : World} {F : Nat → Prop} {C : Array Value} (h : AtC d w F (.agg C)) (hs : d.sz ≤ 1048576) : Calls Tryz.prog 147 #[.agg C] w (Copied (LieC d) w) := by
  obtain ⟨A, n, cap, e, hm, hr⟩ := h
  injection e with e
  subst e
  have hl : d.ps.length = n := hr.1.1
  have hn : n ≤ 1048576 := by unfold RecD.sz at hs; omega
  refine (toRec_any _ _ _ _ _ _ _ A n cap _ d.ps w hn hr.1).mono ?_
  rintro e w' ⟨g, hg, rfl, hp, hb⟩
  subst hl
  exact ⟨_, rfl, ⟨_, rfl, .inr ⟨g, _, ⟨hg, hp.lt⟩, rfl, Nat.le_refl _, by unfold maxLen; omega, hp⟩⟩, hb⟩
theorem eq_C {d : RecD} {w : World} {F F' : Nat → Prop} {C C' : Array Value} (h : AtC d w F (.agg C)) (h' : AtC d w F' (.agg C')) (hs : d.sz ≤ 1048576) :
    Calls Tryz.prog 148 #[.agg C, .agg C'] w fun e w' => e = .returned (.bool true) ∧ Below w.heap.size w w' := by
  obtain ⟨A, n, cap, e, hm, hr⟩ := h
  obtain ⟨A', n', cap', e', hm', hr'⟩ := h'
  injection e with e
  injection e' with e'
  subst e e'
  have hl : d.ps.length = n := hr.1.1
  have hl' : d.ps.length = n' := hr'.1.1
  subst hl hl'
  exact eqRec_same _ _ _ _ _ _ _ A _ cap _ A' cap' d.ps w hs hr.1 hr'.1

theorem LieC.slc {d : RecD} {w : World} {F : Nat → Prop} {C : Array Value} (h : AtC d w F (.agg C)) (hs : d.sz ≤ 1048576) : ∃ (L : Option Addr) (m mc : Nat), C = d.cells (.slice L m mc) ∧ m ≤ 4194304 ∧ Pairs w w.heap.size L m d.ps := by
  obtain ⟨A, n, cap, e, hm, hr⟩ := h
  injection e with e
  have hl : d.ps.length = n := hr.1.1
  exact ⟨A, n, cap, e, by unfold RecD.sz at hs; omega, hr.1⟩
theorem sum8_is {d : RecD} {w : World} {F : Nat → Prop} {C : Array Value} {z : Int} (h : LieC d w F (.agg C)) (hs : d.sz ≤ 1048576) (hz : d.sum = z) :
    Calls Tryz.prog 142 #[.agg C] w fun e w' => e = .returned (.int .i64 z) ∧ Below w.heap.size w w' := by
  obtain ⟨L, m, mc, rfl, hm, hr⟩ := LieC.slc h.at hs
  exact hz ▸ sumOf_is d.r1 d.r2 d.r3 d.r4 d.r5 d.r6 d.r7 L m mc d.r8 d.ps w hm hr
theorem specSum8_is {d : RecD} {w : World} {F : Nat → Prop} {C : Array Value} {z : Int} (h : LieC d w F (.agg C)) (hs : d.sz ≤ 1048576) (hz : d.sum = z) :
    Calls Tryz.prog 141 #[.agg C] w fun e w' => e = .returned (.int .i64 z) ∧ Below w.heap.size w w' := by
  obtain ⟨L, m, mc, rfl, hm, hr⟩ := LieC.slc h.at hs
  exact hz ▸ specSumOf_is d.r1 d.r2 d.r3 d.r4 d.r5 d.r6 d.r7 L m mc d.r8 d.ps w hm hr

/-- The marks. -/
def MarkedC (k : Int) (d d' : RecD) : Prop := d'.ps.length = d.ps.length ∧ Marked k d'.ps
theorem ownP_res {w : World} {F : Nat → Prop} {u : Value} {ps : List (Int × Int)} (h : OwnP w F u ps) : ∃ lo hi, ResP w lo hi u ps ∧ ∀ b, Iv lo hi b → F b := by
  rcases h with h | ⟨g, cap, hF, h1, h2, h3, h4⟩
  · exact ⟨0, 0, .inl h, fun b hb => by unfold Iv at hb; omega⟩
  · refine ⟨g, g + 1, .inr ⟨g, cap, Nat.le_refl _, by omega, h1, h2, h3, h4⟩, fun b hb => ?_⟩
    unfold Iv at hb
    obtain rfl : b = g := by omega
    exact hF
theorem Turns.of_band {lo hi : Nat} {a b : World} (h : Band lo hi a b) : Turns (Iv lo hi) a b := ⟨h.os, h.tape, h.output, h.size, fun i hi' hb => h.block i hi' (by unfold Iv at hb; omega)⟩
theorem mkb_C {d : RecD} (h : d.sz ≤ 1048576) : 0 ≤ d.mk8 ∧ d.mk8 ≤ 4194304 := by unfold RecD.sz at h; unfold RecD.mk8; omega
theorem mkb2_C {d : RecD} (h : d.ps.length ≤ 1048577) : 0 ≤ d.mk8 ∧ d.mk8 ≤ 8388616 := by unfold RecD.mk8; omega
end Go.Proofs.YtjdepjpjjgkmbaaGreat
