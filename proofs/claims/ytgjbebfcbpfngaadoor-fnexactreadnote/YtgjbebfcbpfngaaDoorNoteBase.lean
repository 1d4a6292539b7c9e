/- Words of chapter 5: what the functions of notes compute; no conditions. -/
import Derived.Test.YtgjbebfcbpfngaaDoorShelf
namespace Go.Proofs.YtgjbebfcbpfngaaDoor
open Go.RowKit

/-- A value that is right. -/
def valB (x : Int) : Bool := inB x 0 9999
/-- A seal that can be sent. -/
def seal1B (x : Int × Int) : Bool := inB x.1 0 9 && inB x.2 0 2147483646
/-- Seals that can be sent. -/
def sealsB (ps : List (Int × Int)) : Bool := ps.all seal1B
def fitB (ps : List (Int × Int)) : Bool := decide (ps.length ≤ 20) && sealsB ps
theorem fit_no {ps : List (Int × Int)} (h : ¬ ps.length ≤ 20) : fitB ps = false := by simp [fitB, h]
theorem fit_yes {ps : List (Int × Int)} (h : ps.length ≤ 20) : fitB ps = sealsB ps := by simp [fitB, h]
theorem sealsB_false {ps : List (Int × Int)} {k : Nat} (hk : k < ps.length) (h : seal1B (pth ps k) = false) : sealsB ps = false := by
  unfold sealsB
  rw [List.all_eq_false]
  refine ⟨ps[k], List.getElem_mem hk, ?_⟩
  rw [pth_lt hk] at h
  simp [h]
theorem sealsB_true {ps : List (Int × Int)} (h : ∀ j, j < ps.length → seal1B (pth ps j) = true) : sealsB ps = true := by
  unfold sealsB
  rw [List.all_eq_true]
  intro x hx
  obtain ⟨j, hj, rfl⟩ := List.getElem_of_mem hx
  have := h j hj
  rwa [pth_lt hj] at this

/-- A stamp that is zero. -/
def z2B (a b : Int) : Bool := decide (a = 0 ∧ b = 0)
theorem z2_cases (a b : Int) : (a = 0 ∧ b = 0 ∧ z2B a b = true) ∨ (z2B a b = false ∧ ((a == 0) = false ∨ ((a == 0) = true ∧ (b == 0) = false))) := by
  unfold z2B
  by_cases h1 : a = 0
  · by_cases h2 : b = 0
    · exact .inl ⟨h1, h2, by simp [h1, h2]⟩
    · exact .inr ⟨by simp [h2], .inr ⟨by simpa using h1, by simpa using h2⟩⟩
  · exact .inr ⟨by simp [h1], .inl (by simpa using h1)⟩
/-- A value that is zero. -/
def z1B (a : Int) : Bool := decide (a = 0)
theorem z1_cases (a : Int) : (a = 0 ∧ z1B a = true) ∨ (z1B a = false ∧ (a == 0) = false ∧ (a != 0) = true) := by
  unfold z1B
  by_cases h : a = 0
  · exact .inl ⟨h, by simp [h]⟩
  · exact .inr ⟨by simp [h], by simpa using h, by simpa using h⟩
/-- A list that is empty. -/
def z0B (n : Nat) : Bool := decide (n = 0)

/-- Has it a stamp, a value, a certificate? -/
def hvB (t1 t2 v1 : Int) (p : Nat) : Bool := !(z2B t1 t2 && z1B v1 && z0B p)
/-- Has it what was, or what was last? -/
def hpB (o1 o2 v2 : Int) (l1 l2 v3 : Int) (q : Nat) : Bool := !(z2B o1 o2 && z1B v2 && z2B l1 l2 && z1B v3 && z0B q)

/-- Is a note's kind right, and has it nothing that its kind has not? -/
def kdB (s l c sh : Int) (zs : List Int) (k1 k2 k3 : Int) (hv hp : Bool) : Bool :=
  if k1 = 1 then !hv && !hp && cliB s l c sh zs k2 && srvB s l c sh zs k3
  else if k1 = 5 then !hp && cliB s l c sh zs k2 && srvB s l c sh zs k3
  else if k1 = 3 then cliB s l c sh zs k2 && srvB s l c sh zs k3
  else if k1 = 2 ∨ k1 = 4 ∨ k1 = 6 then !hp && srvB s l c sh zs k2 && cliB s l c sh zs k3
  else false

/-- Three stamps that are right. -/
def stsB (t1 t2 o1 o2 l1 l2 : Int) : Bool := stB t1 t2 && stB o1 o2 && stB l1 l2
/-- Three values that are right. -/
def valsB (v1 v2 v3 : Int) : Bool := valB v1 && valB v2 && valB v3

/-- A note that is right. -/
def ntB (s l c sh : Int) (zs : List Int) (k1 k2 k3 k4 k5 t1 t2 v1 o1 o2 v2 : Int) (ps qs : List (Int × Int)) (l1 l2 v3 : Int) : Bool :=
  inB k4 0 100000 && shfB s l c sh zs k5 && stsB t1 t2 o1 o2 l1 l2 && valsB v1 v2 v3 && fitB ps && fitB qs && kdB s l c sh zs k1 k2 k3 (hvB t1 t2 v1 ps.length) (hpB o1 o2 v2 l1 l2 v3 qs.length)

/-- What AnswerTo answers. -/
def ansN (k : Int) : Int := if k = 1 then 2 else if k = 3 then 4 else if k = 5 then 6 else 0

theorem sixteen {w : World} {g : Nat} {t : TypeId} {a0 a1 a2 a3 a4 a5 a6 a7 a8 a9 a10 a11 a12 a13 a14 a15 : Value} (h : Box w g t #[a0, a1, a2, a3, a4, a5, a6, a7, a8, a9, a10, a11, a12, a13, a14, a15]) :
    w.cell? ⟨g, 0, none⟩ = some a0 ∧ w.cell? ⟨g, 1, none⟩ = some a1 ∧ w.cell? ⟨g, 2, none⟩ = some a2 ∧ w.cell? ⟨g, 3, none⟩ = some a3 ∧ w.cell? ⟨g, 4, none⟩ = some a4 ∧ w.cell? ⟨g, 5, none⟩ = some a5 ∧ w.cell? ⟨g, 6, none⟩ = some a6 ∧ w.cell? ⟨g, 7, none⟩ = some a7 ∧
    w.cell? ⟨g, 8, none⟩ = some a8 ∧ w.cell? ⟨g, 9, none⟩ = some a9 ∧ w.cell? ⟨g, 10, none⟩ = some a10 ∧ w.cell? ⟨g, 11, none⟩ = some a11 ∧ w.cell? ⟨g, 12, none⟩ = some a12 ∧ w.cell? ⟨g, 13, none⟩ = some a13 ∧ w.cell? ⟨g, 14, none⟩ = some a14 ∧ w.cell? ⟨g, 15, none⟩ = some a15 :=
  ⟨h.cell 0, h.cell 1, h.cell 2, h.cell 3, h.cell 4, h.cell 5, h.cell 6, h.cell 7, h.cell 8, h.cell 9, h.cell 10, h.cell 11, h.cell 12, h.cell 13, h.cell 14, h.cell 15⟩
theorem sixteenAfter {w : World} {g : Nat} {t : TypeId} {a0 a1 a2 a3 a4 a5 a6 a7 a8 a9 a10 a11 a12 a13 a14 a15 : Value} (h : Box w g t #[a0, a1, a2, a3, a4, a5, a6, a7, a8, a9, a10, a11, a12, a13, a14, a15]) :
    (∀ p : After w, p.x.cell? ⟨g, 0, none⟩ = some a0) ∧ (∀ p : After w, p.x.cell? ⟨g, 1, none⟩ = some a1) ∧ (∀ p : After w, p.x.cell? ⟨g, 2, none⟩ = some a2) ∧ (∀ p : After w, p.x.cell? ⟨g, 3, none⟩ = some a3) ∧ (∀ p : After w, p.x.cell? ⟨g, 4, none⟩ = some a4) ∧ (∀ p : After w, p.x.cell? ⟨g, 5, none⟩ = some a5) ∧ (∀ p : After w, p.x.cell? ⟨g, 6, none⟩ = some a6) ∧ (∀ p : After w, p.x.cell? ⟨g, 7, none⟩ = some a7) ∧
    (∀ p : After w, p.x.cell? ⟨g, 8, none⟩ = some a8) ∧ (∀ p : After w, p.x.cell? ⟨g, 9, none⟩ = some a9) ∧ (∀ p : After w, p.x.cell? ⟨g, 10, none⟩ = some a10) ∧ (∀ p : After w, p.x.cell? ⟨g, 11, none⟩ = some a11) ∧ (∀ p : After w, p.x.cell? ⟨g, 12, none⟩ = some a12) ∧ (∀ p : After w, p.x.cell? ⟨g, 13, none⟩ = some a13) ∧ (∀ p : After w, p.x.cell? ⟨g, 14, none⟩ = some a14) ∧ (∀ p : After w, p.x.cell? ⟨g, 15, none⟩ = some a15) :=
  ⟨After.cell h.lt (h.cell 0), After.cell h.lt (h.cell 1), After.cell h.lt (h.cell 2), After.cell h.lt (h.cell 3), After.cell h.lt (h.cell 4), After.cell h.lt (h.cell 5), After.cell h.lt (h.cell 6), After.cell h.lt (h.cell 7), After.cell h.lt (h.cell 8), After.cell h.lt (h.cell 9), After.cell h.lt (h.cell 10), After.cell h.lt (h.cell 11), After.cell h.lt (h.cell 12), After.cell h.lt (h.cell 13), After.cell h.lt (h.cell 14), After.cell h.lt (h.cell 15)⟩

end Go.Proofs.YtgjbebfcbpfngaaDoor
