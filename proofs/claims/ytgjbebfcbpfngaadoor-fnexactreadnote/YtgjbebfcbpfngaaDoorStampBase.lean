/- Words of chapter 2: what the functions of stamps compute, and slices of pairs of numbers; no conditions. -/
import Derived.Test.YtgjbebfcbpfngaaDoorDraw
namespace Go.Proofs.YtgjbebfcbpfngaaDoor
open Go.RowKit

/-- A stamp that is right. -/
def stB (c k : Int) : Bool := if c = 0 then decide (k = 0) else inB c 1 100000 && inB k 0 15
theorem stB_zero (k : Int) : stB 0 k = decide (k = 0) := rfl
theorem stB_not {c : Int} (h : c ≠ 0) (k : Int) : stB c k = (inB c 1 100000 && inB k 0 15) := by simp [stB, h]
theorem stB_00 : stB 0 0 = true := rfl
theorem stB_bd {c k : Int} (h : stB c k = true) : 0 ≤ c ∧ c ≤ 100000 ∧ 0 ≤ k ∧ k ≤ 15 := by
  unfold stB at h
  split at h
  · have := of_decide_eq_true h; omega
  · rw [Bool.and_eq_true] at h
    have a := inB_true.1 h.1
    have b := inB_true.1 h.2
    omega
theorem stB_spec (c k : Int) : (inB c 0 100000 && inB k 0 15 && (decide (0 < c) || decide (k = 0))) = stB c k := by
  rw [Bool.eq_iff_iff]
  unfold stB
  split
  · subst_vars
    simp [inB]
    omega
  · simp [inB]
    omega

/-- Older, alike or newer. -/
def sgn (a b : Int) : Int := if a < b then -1 else if b < a then 1 else 0
theorem sgn_lt {a b : Int} (h : a < b) : sgn a b = -1 := by simp [sgn, h]
theorem sgn_gt {a b : Int} (h : b < a) : sgn a b = 1 := by simp [sgn, h]; omega
theorem sgn_eq (a : Int) : sgn a a = 0 := by simp [sgn]
theorem sgn_bd (a b : Int) : -1 ≤ sgn a b ∧ sgn a b ≤ 1 := by
  unfold sgn
  split
  · omega
  · split <;> omega

/-- The first that is not 0. -/
def orN (x y : Int) : Int := if x = 0 then y else x

/-- What CmpStamp answers. -/
def cmpN (a b c d : Int) : Int := if stB a b && stB c d then orN (sgn a c) (sgn b d) else 2
theorem cmpN_no1 {a b : Int} (h : stB a b = false) (c d : Int) : cmpN a b c d = 2 := by simp [cmpN, h]
theorem cmpN_no2 {c d : Int} (h : stB c d = false) (a b : Int) : cmpN a b c d = 2 := by simp [cmpN, h]
theorem cmpN_yes {a b c d : Int} (h : stB a b = true) (h' : stB c d = true) : cmpN a b c d = orN (sgn a c) (sgn b d) := by simp [cmpN, h, h']

/-- Is there a next stamp? -/
def nxB (c k x : Int) : Bool := stB c k && stB (c + 1) x
/-- What NextStamp answers. -/
def nxC (c k x : Int) : Int := if nxB c k x then c + 1 else 0
def nxK (c k x : Int) : Int := if nxB c k x then x else 0
/-- A stamp and a flag, as they are answered. -/
def nxV (c k x : Int) : Value := .tuple #[.agg #[.int .i64 (nxC c k x), .int .i64 (nxK c k x)], .bool (nxB c k x)]
theorem nxV_no {c k x : Int} (h : nxB c k x = false) : nxV c k x = .tuple #[.agg #[.int .i64 0, .int .i64 0], .bool false] := by simp [nxV, nxC, nxK, h]
theorem nxV_yes {c k x : Int} (h : nxB c k x = true) : nxV c k x = .tuple #[.agg #[.int .i64 (c + 1), .int .i64 x], .bool true] := by simp [nxV, nxC, nxK, h]
theorem nxB_1 {c k : Int} (h : stB c k = false) (x : Int) : nxB c k x = false := by simp [nxB, h]
theorem nxB_2 {c x : Int} (h : stB (c + 1) x = false) (k : Int) : nxB c k x = false := by simp [nxB, h]
theorem nxB_3 {c k x : Int} (h : stB c k = true) (h' : stB (c + 1) x = true) : nxB c k x = true := by simp [nxB, h, h']

/-- Two stamps are not right, or one is older, or they are one, or one is newer: and the other way round. -/
theorem cmp_cases (a b c d : Int) : cmpN a b c d = 2 ∨ (cmpN a b c d = -1 ∧ cmpN c d a b = 1 ∧ (a ≠ c ∨ b ≠ d)) ∨ (cmpN a b c d = 0 ∧ a = c ∧ b = d) ∨ (cmpN a b c d = 1 ∧ cmpN c d a b = -1 ∧ (a ≠ c ∨ b ≠ d)) := by
  rcases h1 : stB a b with _ | _
  · exact .inl (cmpN_no1 h1 c d)
  rcases h2 : stB c d with _ | _
  · exact .inl (cmpN_no2 h2 a b)
  right
  rw [cmpN_yes h1 h2, cmpN_yes h2 h1]
  unfold orN
  rcases Int.lt_trichotomy a c with h | h | h
  · rw [sgn_lt h, sgn_gt h]
    exact .inl ⟨rfl, rfl, .inl (by omega)⟩
  · subst h
    rw [sgn_eq]
    rcases Int.lt_trichotomy b d with k | k | k
    · rw [sgn_lt k, sgn_gt k]
      exact .inl ⟨rfl, rfl, .inr (by omega)⟩
    · subst k
      rw [sgn_eq]
      exact .inr (.inl ⟨rfl, rfl, rfl⟩)
    · rw [sgn_lt k, sgn_gt k]
      exact .inr (.inr ⟨rfl, rfl, .inr (by omega)⟩)
  · rw [sgn_lt h, sgn_gt h]
    exact .inr (.inr ⟨rfl, rfl, .inl (by omega)⟩)
theorem cmp_next {c k x : Int} (h : nxB c k x = true) : cmpN c k (c + 1) x = -1 := by
  simp only [nxB, Bool.and_eq_true] at h
  rw [cmpN_yes h.1 h.2, sgn_lt (by omega)]
  rfl

/-- The newer one of two. -/
def pickP (b p : Int × Int) : Int × Int := if cmpN p.1 p.2 b.1 b.2 = 1 then p else b
/-- What NewestOf answers. -/
def bestP (ps : List (Int × Int)) : Int × Int := ps.foldl pickP (0, 0)

/-- The pair at place i. -/
def pth (ps : List (Int × Int)) (i : Nat) : Int × Int := ps.getD i (0, 0)
theorem pth_lt {ps : List (Int × Int)} {i : Nat} (h : i < ps.length) : pth ps i = ps[i] := by simp [pth, h]
theorem best_snoc {ps : List (Int × Int)} {k : Nat} (h : k < ps.length) : bestP (ps.take (k + 1)) = pickP (bestP (ps.take k)) (pth ps k) := by
  rw [List.take_succ_eq_append_getElem h, pth_lt h]
  unfold bestP
  rw [List.foldl_append]
  rfl

/-- The slice of n pairs of int64 at A holds ps, in blocks below B. -/
def Pairs (w : World) (B : Nat) (A : Option Addr) (n : Nat) (ps : List (Int × Int)) : Prop :=
  ps.length = n ∧ (0 < n → ∃ b o, A = some ⟨b, o, none⟩ ∧ b < B ∧ ∀ i, i < n → w.cell? ⟨b, o + i * 2, none⟩ = some (.int .i64 (pth ps i).1) ∧ w.cell? ⟨b, o + i * 2 + 1, none⟩ = some (.int .i64 (pth ps i).2))
theorem Pairs.keep {w w' : World} {B : Nat} {A : Option Addr} {n : Nat} {ps : List (Int × Int)} (h : Pairs w B A n ps) (hk : ∀ p : Addr, p.block < B → w'.cell? p = w.cell? p) : Pairs w' B A n ps := by
  refine ⟨h.1, fun hn => ?_⟩
  obtain ⟨b, o, hA, hb, hc⟩ := h.2 hn
  exact ⟨b, o, hA, hb, fun i hi => ⟨(hk ⟨b, o + i * 2, none⟩ hb).trans (hc i hi).1, (hk ⟨b, o + i * 2 + 1, none⟩ hb).trans (hc i hi).2⟩⟩
theorem Pairs.below {w w' : World} {B C : Nat} {A : Option Addr} {n : Nat} {ps : List (Int × Int)} (h : Pairs w B A n ps) (hb : Below C w w') (hBC : B ≤ C) : Pairs w' B A n ps :=
  h.keep fun _ hp => hb.cell (Nat.lt_of_lt_of_le hp hBC)
theorem Pairs.more {w : World} {B C : Nat} {A : Option Addr} {n : Nat} {ps : List (Int × Int)} (h : Pairs w B A n ps) (hBC : B ≤ C) : Pairs w C A n ps := by
  refine ⟨h.1, fun hn => ?_⟩
  obtain ⟨b, o, hA, hb, hc⟩ := h.2 hn
  exact ⟨b, o, hA, by omega, hc⟩
theorem Pairs.later {w w' : World} {A : Option Addr} {n : Nat} {ps : List (Int × Int)} (h : Pairs w w.heap.size A n ps) (hb : Below w.heap.size w w') : Pairs w' w'.heap.size A n ps :=
  (h.below hb (Nat.le_refl _)).more hb.size

theorem Box.two {w : World} {g : Nat} {t : TypeId} {v0 v1 : Value} (h : Box w g t #[v0, v1]) : w.cell? ⟨g, 0, none⟩ = some v0 ∧ w.cell? ⟨g, 1, none⟩ = some v1 := ⟨h.cell 0, h.cell 1⟩

end Go.Proofs.YtgjbebfcbpfngaaDoor
