/- Words of chapter 8: what speaks against being ready, as the program and the model ask it, and the code that is answered; mathematics alone; no conditions. -/
import Derived.Test.YtjdepjpjjgkmbaaGreatRegOk2
import Derived.Test.YtjdepjpjjgkmbaaGreatSpecReg3
import Derived.Test.YtjdepjpjjgkmbaaGreatNoteShape
namespace Go.Proofs.YtjdepjpjjgkmbaaGreat
open Go.RowKit

/-- What stands open of a client, asked something. -/
def opnF (os : List Opn) (k : Int) (f : Opn → Bool) : Bool := match getO os k with
  | none => false
  | some o => f o
theorem opnF_none {os : List Opn} {k : Int} (h : getO os k = none) (f : Opn → Bool) : opnF os k f = false := by simp [opnF, h]
theorem opnF_some {os : List Opn} {k : Int} {o : Opn} (h : getO os k = some o) (f : Opn → Bool) : opnF os k f = f o := by simp [opnF, h]

/-- Is an open one closed by what was written last? -/
def clsB (s l c sh : Int) (zs : List Int) (k5 l1 l2 v3 : Int) (ms : List (Int × Int)) (o : Opn) : Bool :=
  decide (l2 = o.1) && !(cmpN o.2.1 o.2.2.1 l1 l2 == 1) && cerB s l c sh zs 2 k5 l1 l2 v3 ms
/-- What the seven objections answer. -/
def obB (s l c sh : Int) (zs : List Int) (rt rq rv : Int) (ps : List (Int × Int)) (os : List Opn) (k1 k2 k3 k4 k5 t1 t2 v1 o1 o2 v2 l1 l2 v3 : Int) (cs ms : List (Int × Int)) : Nat → Bool
  | 0 => !(decide (k1 = 3) && ntB s l c sh zs k1 k2 k3 k4 k5 t1 t2 v1 o1 o2 v2 cs ms l1 l2 v3)
  | 1 => !regB s l c sh zs k5 rt rq rv ps os
  | 2 => !(nxB o1 o2 k2 && decide (t1 = o1 + 1 ∧ t2 = k2))
  | 3 => !proB s l c sh zs k5 o1 o2 v2 cs
  | 4 => opnF os k2 fun o => cmpN o.2.1 o.2.2.1 t1 t2 == 1
  | 5 => opnF os k2 fun o => decide (o.2.1 = t1 ∧ o.2.2.1 = t2) && !decide (o.2.2.2 = v1)
  | _ => opnF os k2 fun o => cmpN t1 t2 o.2.1 o.2.2.1 == 1 && !clsB s l c sh zs k5 l1 l2 v3 ms o
/-- The code of each. -/
def codN : Nat → Int
  | 0 => 1
  | 1 => 1
  | 2 => 2
  | 3 => 3
  | _ => 4
/-- What CodeReady answers. -/
def codeN (s l c sh : Int) (zs : List Int) (rt rq rv : Int) (ps : List (Int × Int)) (os : List Opn) (k1 k2 k3 k4 k5 t1 t2 v1 o1 o2 v2 l1 l2 v3 : Int) (cs ms : List (Int × Int)) : Int :=
  if obB s l c sh zs rt rq rv ps os k1 k2 k3 k4 k5 t1 t2 v1 o1 o2 v2 l1 l2 v3 cs ms 0 then 1 else if obB s l c sh zs rt rq rv ps os k1 k2 k3 k4 k5 t1 t2 v1 o1 o2 v2 l1 l2 v3 cs ms 1 then 1 else if obB s l c sh zs rt rq rv ps os k1 k2 k3 k4 k5 t1 t2 v1 o1 o2 v2 l1 l2 v3 cs ms 2 then 2 else if obB s l c sh zs rt rq rv ps os k1 k2 k3 k4 k5 t1 t2 v1 o1 o2 v2 l1 l2 v3 cs ms 3 then 3 else if obB s l c sh zs rt rq rv ps os k1 k2 k3 k4 k5 t1 t2 v1 o1 o2 v2 l1 l2 v3 cs ms 4 then 4 else if obB s l c sh zs rt rq rv ps os k1 k2 k3 k4 k5 t1 t2 v1 o1 o2 v2 l1 l2 v3 cs ms 5 then 4 else if obB s l c sh zs rt rq rv ps os k1 k2 k3 k4 k5 t1 t2 v1 o1 o2 v2 l1 l2 v3 cs ms 6 then 4 else 0
/-- Does what is open speak against it, as the model asks? -/
def agS (s l c sh : Int) (zs : List Int) (os : List Opn) (k2 k5 t1 t2 v1 l1 l2 v3 : Int) (ms : List (Int × Int)) : Bool := opnF os k2 fun o =>
  if cmpN o.2.1 o.2.2.1 t1 t2 = 0 then !decide (o.2.2.2 = v1)
  else if cmpN o.2.1 o.2.2.1 t1 t2 = -1 then !decide (l2 = k2) || decide (cmpN l1 l2 o.2.1 o.2.2.1 < 0) || !cerB s l c sh zs 2 k5 l1 l2 v3 ms
  else true

section
variable {s l c sh : Int} {A : Option Addr} {n cap : Nat} {zs : List Int} {rt rq rv : Int} {X : Option Addr} {x xc : Nat} {ps : List (Int × Int)} {Y : Option Addr} {y yc : Nat} {os : List Opn} {N : Array Value} {k1 k2 k3 k4 k5 t1 t2 v1 o1 o2 v2 : Int} {P : Option Addr} {p pc : Nat} {Q : Option Addr} {q qc : Nat} {l1 l2 v3 : Int} {cs ms : List (Int × Int)} {w : World}
theorem obB_0 : obB s l c sh zs rt rq rv ps os k1 k2 k3 k4 k5 t1 t2 v1 o1 o2 v2 l1 l2 v3 cs ms 0 = !(decide (k1 = 3) && ntB s l c sh zs k1 k2 k3 k4 k5 t1 t2 v1 o1 o2 v2 cs ms l1 l2 v3) := rfl
theorem obB_1 : obB s l c sh zs rt rq rv ps os k1 k2 k3 k4 k5 t1 t2 v1 o1 o2 v2 l1 l2 v3 cs ms 1 = !regB s l c sh zs k5 rt rq rv ps os := rfl
theorem obB_2 : obB s l c sh zs rt rq rv ps os k1 k2 k3 k4 k5 t1 t2 v1 o1 o2 v2 l1 l2 v3 cs ms 2 = !(nxB o1 o2 k2 && decide (t1 = o1 + 1 ∧ t2 = k2)) := rfl
theorem obB_3 : obB s l c sh zs rt rq rv ps os k1 k2 k3 k4 k5 t1 t2 v1 o1 o2 v2 l1 l2 v3 cs ms 3 = !proB s l c sh zs k5 o1 o2 v2 cs := rfl
theorem ob0_not (h : ntB s l c sh zs k1 k2 k3 k4 k5 t1 t2 v1 o1 o2 v2 cs ms l1 l2 v3 = false) : obB s l c sh zs rt rq rv ps os k1 k2 k3 k4 k5 t1 t2 v1 o1 o2 v2 l1 l2 v3 cs ms 0 = true := by rw [obB_0, h, Bool.and_false]; rfl
theorem ob0_kind (h : ¬ k1 = 3) : obB s l c sh zs rt rq rv ps os k1 k2 k3 k4 k5 t1 t2 v1 o1 o2 v2 l1 l2 v3 cs ms 0 = true := by rw [obB_0, decide_eq_false h]; rfl
theorem ob0_yes (hk : k1 = 3) (h : ntB s l c sh zs k1 k2 k3 k4 k5 t1 t2 v1 o1 o2 v2 cs ms l1 l2 v3 = true) : obB s l c sh zs rt rq rv ps os k1 k2 k3 k4 k5 t1 t2 v1 o1 o2 v2 l1 l2 v3 cs ms 0 = false := by rw [obB_0, h, decide_eq_true hk]; rfl
theorem ob2_not (h : nxB o1 o2 k2 = false) : obB s l c sh zs rt rq rv ps os k1 k2 k3 k4 k5 t1 t2 v1 o1 o2 v2 l1 l2 v3 cs ms 2 = true := by rw [obB_2, h]; rfl
theorem ob2_yes (h : nxB o1 o2 k2 = true) (h1 : t1 = o1 + 1) (h2 : t2 = k2) : obB s l c sh zs rt rq rv ps os k1 k2 k3 k4 k5 t1 t2 v1 o1 o2 v2 l1 l2 v3 cs ms 2 = false := by rw [obB_2, h, decide_eq_true ⟨h1, h2⟩]; rfl
theorem ob2_else (h : ¬ (t1 = o1 + 1 ∧ t2 = k2)) : obB s l c sh zs rt rq rv ps os k1 k2 k3 k4 k5 t1 t2 v1 o1 o2 v2 l1 l2 v3 cs ms 2 = true := by rw [obB_2, decide_eq_false h, Bool.and_false]; rfl
theorem code_0 (h : obB s l c sh zs rt rq rv ps os k1 k2 k3 k4 k5 t1 t2 v1 o1 o2 v2 l1 l2 v3 cs ms 0 = true) : codeN s l c sh zs rt rq rv ps os k1 k2 k3 k4 k5 t1 t2 v1 o1 o2 v2 l1 l2 v3 cs ms = 1 := by unfold codeN; rw [if_pos h]
theorem code_1 (h0 : obB s l c sh zs rt rq rv ps os k1 k2 k3 k4 k5 t1 t2 v1 o1 o2 v2 l1 l2 v3 cs ms 0 = false) (h : obB s l c sh zs rt rq rv ps os k1 k2 k3 k4 k5 t1 t2 v1 o1 o2 v2 l1 l2 v3 cs ms 1 = true) : codeN s l c sh zs rt rq rv ps os k1 k2 k3 k4 k5 t1 t2 v1 o1 o2 v2 l1 l2 v3 cs ms = 1 := by unfold codeN; rw [if_neg (by rw [h0]; simp), if_pos h]
theorem code_2 (h0 : obB s l c sh zs rt rq rv ps os k1 k2 k3 k4 k5 t1 t2 v1 o1 o2 v2 l1 l2 v3 cs ms 0 = false) (h1 : obB s l c sh zs rt rq rv ps os k1 k2 k3 k4 k5 t1 t2 v1 o1 o2 v2 l1 l2 v3 cs ms 1 = false) (h : obB s l c sh zs rt rq rv ps os k1 k2 k3 k4 k5 t1 t2 v1 o1 o2 v2 l1 l2 v3 cs ms 2 = true) : codeN s l c sh zs rt rq rv ps os k1 k2 k3 k4 k5 t1 t2 v1 o1 o2 v2 l1 l2 v3 cs ms = 2 := by
  unfold codeN; rw [if_neg (by rw [h0]; simp), if_neg (by rw [h1]; simp), if_pos h]
theorem code_3 (h0 : obB s l c sh zs rt rq rv ps os k1 k2 k3 k4 k5 t1 t2 v1 o1 o2 v2 l1 l2 v3 cs ms 0 = false) (h1 : obB s l c sh zs rt rq rv ps os k1 k2 k3 k4 k5 t1 t2 v1 o1 o2 v2 l1 l2 v3 cs ms 1 = false) (h2 : obB s l c sh zs rt rq rv ps os k1 k2 k3 k4 k5 t1 t2 v1 o1 o2 v2 l1 l2 v3 cs ms 2 = false) (h : obB s l c sh zs rt rq rv ps os k1 k2 k3 k4 k5 t1 t2 v1 o1 o2 v2 l1 l2 v3 cs ms 3 = true) : codeN s l c sh zs rt rq rv ps os k1 k2 k3 k4 k5 t1 t2 v1 o1 o2 v2 l1 l2 v3 cs ms = 3 := by
  unfold codeN; rw [if_neg (by rw [h0]; simp), if_neg (by rw [h1]; simp), if_neg (by rw [h2]; simp), if_pos h]
theorem code_more (h0 : obB s l c sh zs rt rq rv ps os k1 k2 k3 k4 k5 t1 t2 v1 o1 o2 v2 l1 l2 v3 cs ms 0 = false) (h1 : obB s l c sh zs rt rq rv ps os k1 k2 k3 k4 k5 t1 t2 v1 o1 o2 v2 l1 l2 v3 cs ms 1 = false) (h2 : obB s l c sh zs rt rq rv ps os k1 k2 k3 k4 k5 t1 t2 v1 o1 o2 v2 l1 l2 v3 cs ms 2 = false) (h3 : obB s l c sh zs rt rq rv ps os k1 k2 k3 k4 k5 t1 t2 v1 o1 o2 v2 l1 l2 v3 cs ms 3 = false) :
    codeN s l c sh zs rt rq rv ps os k1 k2 k3 k4 k5 t1 t2 v1 o1 o2 v2 l1 l2 v3 cs ms = if (obB s l c sh zs rt rq rv ps os k1 k2 k3 k4 k5 t1 t2 v1 o1 o2 v2 l1 l2 v3 cs ms 4 || obB s l c sh zs rt rq rv ps os k1 k2 k3 k4 k5 t1 t2 v1 o1 o2 v2 l1 l2 v3 cs ms 5 || obB s l c sh zs rt rq rv ps os k1 k2 k3 k4 k5 t1 t2 v1 o1 o2 v2 l1 l2 v3 cs ms 6) = true then 4 else 0 := by
  unfold codeN; rw [if_neg (by rw [h0]; simp), if_neg (by rw [h1]; simp), if_neg (by rw [h2]; simp), if_neg (by rw [h3]; simp)]
  rcases obB s l c sh zs rt rq rv ps os k1 k2 k3 k4 k5 t1 t2 v1 o1 o2 v2 l1 l2 v3 cs ms 4 <;> rcases obB s l c sh zs rt rq rv ps os k1 k2 k3 k4 k5 t1 t2 v1 o1 o2 v2 l1 l2 v3 cs ms 5 <;> rcases obB s l c sh zs rt rq rv ps os k1 k2 k3 k4 k5 t1 t2 v1 o1 o2 v2 l1 l2 v3 cs ms 6 <;> rfl
/-- The first objection that applies gives the code. -/
theorem code_at {k : Nat} (h : ∀ j, j < k → obB s l c sh zs rt rq rv ps os k1 k2 k3 k4 k5 t1 t2 v1 o1 o2 v2 l1 l2 v3 cs ms j = false) (hk : k < 7) (ht : obB s l c sh zs rt rq rv ps os k1 k2 k3 k4 k5 t1 t2 v1 o1 o2 v2 l1 l2 v3 cs ms k = true) : codeN s l c sh zs rt rq rv ps os k1 k2 k3 k4 k5 t1 t2 v1 o1 o2 v2 l1 l2 v3 cs ms = codN k := by
  have hcase : k = 0 ∨ k = 1 ∨ k = 2 ∨ k = 3 ∨ k = 4 ∨ k = 5 ∨ k = 6 := by omega
  rcases hcase with rfl | rfl | rfl | rfl | rfl | rfl | rfl
  · exact code_0 ht
  · exact code_1 (h 0 (by omega)) ht
  · exact code_2 (h 0 (by omega)) (h 1 (by omega)) ht
  · exact code_3 (h 0 (by omega)) (h 1 (by omega)) (h 2 (by omega)) ht
  · rw [code_more (h 0 (by omega)) (h 1 (by omega)) (h 2 (by omega)) (h 3 (by omega)), ht]; rfl
  · rw [code_more (h 0 (by omega)) (h 1 (by omega)) (h 2 (by omega)) (h 3 (by omega)), h 4 (by omega), ht]; rfl
  · rw [code_more (h 0 (by omega)) (h 1 (by omega)) (h 2 (by omega)) (h 3 (by omega)), h 4 (by omega), h 5 (by omega), ht]; rfl
theorem code_none (h : ∀ j, j < 7 → obB s l c sh zs rt rq rv ps os k1 k2 k3 k4 k5 t1 t2 v1 o1 o2 v2 l1 l2 v3 cs ms j = false) : codeN s l c sh zs rt rq rv ps os k1 k2 k3 k4 k5 t1 t2 v1 o1 o2 v2 l1 l2 v3 cs ms = 0 := by
  rw [code_more (h 0 (by omega)) (h 1 (by omega)) (h 2 (by omega)) (h 3 (by omega)), h 4 (by omega), h 5 (by omega), h 6 (by omega)]; rfl

theorem getO_key {o : Opn} {k : Int} (h : getO os k = some o) : o.1 = k ∧ o ∈ os := by
  unfold getO at h
  exact ⟨by simpa using List.find?_some h, List.mem_of_find?_eq_some h⟩
theorem opsB_mem {R : Opn → Bool} (h : opsB R os = true) {o : Opn} (ho : o ∈ os) : R o = true := by
  unfold opsB at h
  rw [List.all_eq_true] at h
  obtain ⟨i, hi, rfl⟩ := List.getElem_of_mem ho
  have := h i (List.mem_range.2 hi)
  unfold stepB at this
  rw [Bool.and_eq_true, oth_lt hi] at this
  exact this.1
theorem opn_stamp {o : Opn} (h : opnB s l c sh zs o = true) : stB o.2.1 o.2.2.1 = true := by
  simp only [opnB, Bool.and_eq_true] at h
  exact h.1.2
theorem reg_opens (h : regB s l c sh zs k5 rt rq rv ps os = true) : opsB (opnB s l c sh zs) os = true := by
  unfold regB at h
  rw [Bool.and_eq_true] at h
  exact h.2
theorem nt_stamps (h : ntB s l c sh zs k1 k2 k3 k4 k5 t1 t2 v1 o1 o2 v2 cs ms l1 l2 v3 = true) : stB t1 t2 = true ∧ stB o1 o2 = true ∧ stB l1 l2 = true := by
  simp only [ntB, stsB, Bool.and_eq_true] at h
  exact ⟨h.1.1.1.1.2.1.1, h.1.1.1.1.2.1.2, h.1.1.1.1.2.2⟩
theorem cmp_not2 {a b e f : Int} (h : stB a b = true) (h' : stB e f = true) : cmpN a b e f ≠ 2 := by
  rw [cmpN_yes h h']
  have g1 := sgn_bd a e
  have g2 := sgn_bd b f
  unfold orN
  split <;> omega
theorem ob_0 (h : obB s l c sh zs rt rq rv ps os k1 k2 k3 k4 k5 t1 t2 v1 o1 o2 v2 l1 l2 v3 cs ms 0 = false) : k1 = 3 ∧ ntB s l c sh zs k1 k2 k3 k4 k5 t1 t2 v1 o1 o2 v2 cs ms l1 l2 v3 = true := by
  simp only [obB, Bool.not_eq_false', Bool.and_eq_true] at h
  exact ⟨of_decide_eq_true h.1, h.2⟩
theorem ob_1 (h : obB s l c sh zs rt rq rv ps os k1 k2 k3 k4 k5 t1 t2 v1 o1 o2 v2 l1 l2 v3 cs ms 1 = false) : regB s l c sh zs k5 rt rq rv ps os = true := by
  simpa only [obB, Bool.not_eq_false'] using h
/-- The model asks the same of what is open. -/
theorem ag_eq (h0 : obB s l c sh zs rt rq rv ps os k1 k2 k3 k4 k5 t1 t2 v1 o1 o2 v2 l1 l2 v3 cs ms 0 = false) (h1 : obB s l c sh zs rt rq rv ps os k1 k2 k3 k4 k5 t1 t2 v1 o1 o2 v2 l1 l2 v3 cs ms 1 = false) : agS s l c sh zs os k2 k5 t1 t2 v1 l1 l2 v3 ms = (obB s l c sh zs rt rq rv ps os k1 k2 k3 k4 k5 t1 t2 v1 o1 o2 v2 l1 l2 v3 cs ms 4 || obB s l c sh zs rt rq rv ps os k1 k2 k3 k4 k5 t1 t2 v1 o1 o2 v2 l1 l2 v3 cs ms 5 || obB s l c sh zs rt rq rv ps os k1 k2 k3 k4 k5 t1 t2 v1 o1 o2 v2 l1 l2 v3 cs ms 6) := by
  obtain ⟨-, hn⟩ := ob_0 h0
  have hr := ob_1 h1
  obtain ⟨ht, -, hl⟩ := nt_stamps hn
  have hops := reg_opens hr
  clear hn hr h0 h1
  rcases hg : getO os k2 with _ | o
  · simp only [agS, obB, opnF_none hg, Bool.or_self]
  · obtain ⟨hk, hm⟩ := getO_key hg
    have ho := opn_stamp (opsB_mem hops hm)
    obtain ⟨k, a, b, v⟩ := o
    simp only at hk ho
    subst hk
    simp only [agS, obB, opnF_some hg, clsB]
    clear hg hm hops
    rcases cmp_cases a b t1 t2 with h | ⟨h, h', hne⟩ | ⟨h, rfl, rfl⟩ | ⟨h, h', hne⟩
    · exact absurd h (cmp_not2 ho ht)
    · rw [h, h']
      have e1 : decide (a = t1 ∧ b = t2) = false := by
        rw [decide_eq_false_iff_not]; omega
      rw [e1]
      have e2 : decide (cmpN l1 l2 a b < 0) = (cmpN a b l1 l2 == 1) := by
        rcases cmp_cases a b l1 l2 with g | ⟨g, g', -⟩ | ⟨g, rfl, rfl⟩ | ⟨g, g', -⟩
        · exact absurd g (cmp_not2 ho hl)
        · rw [g, g']; rfl
        · rw [g]; rfl
        · rw [g, g']; rfl
      rw [e2]
      simp only [Bool.false_and, Bool.or_false, Bool.not_and, Bool.not_not]
      rfl
    · rw [h]
      simp
    · rw [h]
      simp
/-- The code, as the model comes to it. -/
theorem code_spec (h0 : obB s l c sh zs rt rq rv ps os k1 k2 k3 k4 k5 t1 t2 v1 o1 o2 v2 l1 l2 v3 cs ms 0 = false) (h1 : obB s l c sh zs rt rq rv ps os k1 k2 k3 k4 k5 t1 t2 v1 o1 o2 v2 l1 l2 v3 cs ms 1 = false) (h2 : obB s l c sh zs rt rq rv ps os k1 k2 k3 k4 k5 t1 t2 v1 o1 o2 v2 l1 l2 v3 cs ms 2 = false) (h3 : obB s l c sh zs rt rq rv ps os k1 k2 k3 k4 k5 t1 t2 v1 o1 o2 v2 l1 l2 v3 cs ms 3 = false) : codeN s l c sh zs rt rq rv ps os k1 k2 k3 k4 k5 t1 t2 v1 o1 o2 v2 l1 l2 v3 cs ms = if agS s l c sh zs os k2 k5 t1 t2 v1 l1 l2 v3 ms = true then 4 else 0 := by
  rw [code_more h0 h1 h2 h3, ag_eq h0 h1]
end

end Go.Proofs.YtjdepjpjjgkmbaaGreat
