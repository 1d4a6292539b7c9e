/- What is replayed, as data: one record laid on its shelf, all of them, one after the other; how long it can get; no conditions. -/
import Derived.Test.YtjdepjpjjgkmbaaGreatWritten2
import Derived.Test.YtjdepjpjjgkmbaaGreatRecOkD
namespace Go.Proofs.YtjdepjpjjgkmbaaGreat
open Go Go.RowKit

def zeroR : RegD := ⟨0, 0, 0, [], []⟩
/-- A shelf with a record done to it. -/
def ontoD (g : GrpD) (d : RecD) (r : RegD) : RegD :=
  if d.r2 = 1 then ⟨r.t, r.q, r.v, r.ps, withO r.os (d.r4, d.r5, d.r6, d.r7)⟩
  else
    let o := outW g.s g.l g.c g.sh g.zs d.r3 r.t r.q r.v r.ps r.os d.r5 d.r6 d.r7 d.ps
    ⟨o.t, o.q, o.v, o.cs, o.os⟩
/-- Is it right where it stands? -/
def isAt (g : GrpD) (ds : List RecD) (i : Nat) : Bool :=
  match ds[i]? with
  | some d => decide (d.r1 = (i : Int) + 1) && rokD g d
  | none => false
def regOf (rs : List RegD) (i : Nat) : RegD := rs.getD i zeroR
def stepR (g : GrpD) (rs : List RegD) (d : RecD) : List RegD := rs.set d.r3.toNat (ontoD g d (regOf rs d.r3.toNat))
def shelves (g : GrpD) (ds : List RecD) : List RegD := ds.foldl (stepR g) (List.replicate g.sh.toNat zeroR)
def okG (g : GrpD) : Bool := okB g.s g.l g.c g.sh g.zs
def allAt (g : GrpD) (ds : List RecD) : Bool := (List.range ds.length).all (isAt g ds)
/-- What Replayed answers. -/
def replD (g : GrpD) (ds : List RecD) : List RegD × Bool := if okG g && allAt g ds then (shelves g ds, true) else ([], false)

theorem shelves_snoc (g : GrpD) (ds : List RecD) {k : Nat} (h : k < ds.length) : shelves g (ds.take (k + 1)) = stepR g (shelves g (ds.take k)) ds[k] := by
  unfold shelves
  rw [List.take_succ_eq_append_getElem h, List.foldl_append, List.foldl_cons, List.foldl_nil]
theorem stepR_len (g : GrpD) (rs : List RegD) (d : RecD) : (stepR g rs d).length = rs.length := by simp [stepR]
theorem shelves_len (g : GrpD) (ds : List RecD) : (shelves g ds).length = g.sh.toNat := by
  have key : ∀ (ds : List RecD) (rs : List RegD), (ds.foldl (stepR g) rs).length = rs.length := by
    intro ds
    induction ds with
    | nil => intro rs; rfl
    | cons d ds ih => intro rs; rw [List.foldl_cons, ih, stepR_len]
  unfold shelves
  rw [key, List.length_replicate]
theorem isAt_lt {g : GrpD} {ds : List RecD} {i : Nat} (h : i < ds.length) : isAt g ds i = (decide ((ds[i]).r1 = (i : Int) + 1) && rokD g ds[i]) := by
  unfold isAt
  rw [List.getElem?_eq_getElem h]
theorem allAt_false {g : GrpD} {ds : List RecD} {i : Nat} (h : i < ds.length) (hf : isAt g ds i = false) : allAt g ds = false := by
  unfold allAt
  rw [List.all_eq_false]
  exact ⟨i, List.mem_range.2 h, by simp [hf]⟩
theorem allAt_true {g : GrpD} {ds : List RecD} (h : ∀ i, i < ds.length → isAt g ds i = true) : allAt g ds = true := by
  unfold allAt
  rw [List.all_eq_true]
  exact fun i hi => h i (List.mem_range.1 hi)
/-- A right record is for a shelf of the group, which is right. -/
theorem rok_shelf {g : GrpD} {d : RecD} (h : rokD g d = true) : 0 ≤ d.r3 ∧ d.r3 ≤ g.sh - 1 ∧ okG g = true ∧ kndB g.s g.l g.c g.sh g.zs d.r2 d.r3 d.r4 d.r5 d.r6 d.r7 d.ps = true := by
  unfold rokD rokB shfB at h
  simp only [Bool.and_eq_true] at h
  obtain ⟨⟨⟨_, h1, h2⟩, h3⟩, _⟩ := h
  have := inB_true.1 h2
  exact ⟨this.1, this.2, h1, h3⟩
/-- How long a list of records is, with all that it holds. -/
def totC (ds : List RecD) : Nat := (ds.map fun d => 1 + d.ps.length).sum
theorem totC_snoc (ds : List RecD) {k : Nat} (h : k < ds.length) : totC (ds.take (k + 1)) = totC (ds.take k) + (1 + (ds[k]).ps.length) := by
  unfold totC
  rw [List.take_succ_eq_append_getElem h, List.map_append, List.sum_append]
  simp
theorem totC_take (ds : List RecD) (k : Nat) : totC (ds.take k) ≤ totC ds := by
  have h : totC (ds.take k) + totC (ds.drop k) = totC ds := by
    unfold totC
    rw [← List.sum_append, ← List.map_append, List.take_append_drop]
  omega
theorem totC_mem (ds : List RecD) {k : Nat} (h : k < ds.length) : 1 + (ds[k]).ps.length ≤ totC ds := by
  have h1 := totC_snoc ds h
  have h2 := totC_take ds (k + 1)
  omega
theorem onto_len (g : GrpD) (d : RecD) (r : RegD) {N : Nat} (h : r.ps.length + r.os.length ≤ N) : (ontoD g d r).ps.length + (ontoD g d r).os.length ≤ N + (1 + d.ps.length) := by
  unfold ontoD
  split
  · have := withO_len r.os (d.r4, d.r5, d.r6, d.r7)
    show r.ps.length + (withO r.os (d.r4, d.r5, d.r6, d.r7)).length ≤ _
    omega
  · have := outW_len (s := g.s) (l := g.l) (c := g.c) (sh := g.sh) (zs := g.zs) (x := d.r3) (rt := r.t) (rq := r.q) (rv := r.v) (ps := r.ps) (os := r.os) (ct := d.r5) (cq := d.r6) (v := d.r7) (cs := d.ps) rfl
    simp only
    omega
/-- No shelf is longer than what was done to them all. -/
theorem shelves_sz (g : GrpD) (ds : List RecD) : ∀ k, k ≤ ds.length → ∀ i, (regOf (shelves g (ds.take k)) i).ps.length + (regOf (shelves g (ds.take k)) i).os.length ≤ totC (ds.take k) := by
  intro k
  induction k with
  | zero =>
    intro _ i
    have h : regOf (shelves g (ds.take 0)) i = zeroR := by
      unfold regOf shelves
      simp only [List.take_zero, List.foldl_nil, List.getD_eq_getElem?_getD, List.getElem?_replicate]
      split <;> rfl
    rw [h]
    exact Nat.zero_le _
  | succ k ih =>
    intro hk i
    rw [shelves_snoc g ds (by omega), totC_snoc ds (by omega)]
    unfold stepR
    by_cases hi : (ds[k]).r3.toNat = i
    · subst hi
      by_cases hl : (ds[k]).r3.toNat < (shelves g (ds.take k)).length
      · have h : regOf ((shelves g (ds.take k)).set (ds[k]).r3.toNat (ontoD g ds[k] (regOf (shelves g (ds.take k)) (ds[k]).r3.toNat))) (ds[k]).r3.toNat = ontoD g ds[k] (regOf (shelves g (ds.take k)) (ds[k]).r3.toNat) := by
          simp [regOf, hl]
        rw [h]
        exact onto_len g _ _ (ih (by omega) _)
      · rw [List.set_eq_of_length_le (by omega)]
        have := ih (by omega) (ds[k]).r3.toNat
        omega
    · have h : regOf ((shelves g (ds.take k)).set (ds[k]).r3.toNat (ontoD g ds[k] (regOf (shelves g (ds.take k)) (ds[k]).r3.toNat))) i = regOf (shelves g (ds.take k)) i := by
        simp [regOf, hi]
      rw [h]
      have := ih (by omega) i
      omega

end Go.Proofs.YtjdepjpjjgkmbaaGreat
