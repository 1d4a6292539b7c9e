/- The two ways to read a note's bytes are one: at once, and number by number; no conditions. -/
import Derived.Test.YtgjbebfcbpfngaaDoorWireRead
namespace Go.Proofs.YtgjbebfcbpfngaaDoor
open Go.RowKit

/-- Is a cursor at its end, with no fault? -/
def endB : Option (List Int) → Bool
  | some [] => true
  | _ => false
theorem endB_true {s : Option (List Int)} (h : endB s = true) : s = some [] := by
  match s, h with
  | some [], _ => rfl
/-- A note that is right, its numbers as a list. -/
def ntX (s l c sh : Int) (zs : List Int) (xs : List Int) (ps qs : List (Int × Int)) : Bool :=
  ntB s l c sh zs (nth xs 0) (nth xs 1) (nth xs 2) (nth xs 3) (nth xs 4) (nth xs 5) (nth xs 6) (nth xs 7) (nth xs 8) (nth xs 9) (nth xs 10) ps qs (nth xs 11) (nth xs 12) (nth xs 13)
/-- Are these the bytes of a note that is right? -/
def okR (s l c sh : Int) (zs bs : List Int) : Bool := endB (rdNote bs).2.2.2 && ntX s l c sh zs (rdNote bs).1 (rdNote bs).2.1 (rdNote bs).2.2.1

theorem lay_inj {x y : Int} {a b : List Int} (hx : Num x) (hy : Num y) (h : lay x ++ a = lay y ++ b) : x = y ∧ a = b := by
  have h1 := num_lay hx a
  rw [h, num_lay hy b] at h1
  simp only [Option.some.injEq, Prod.mk.injEq] at h1
  obtain ⟨rfl, _⟩ := h1
  exact ⟨rfl, List.append_cancel_left h⟩
theorem layAll_inj : ∀ {a b : List Int}, (∀ z ∈ a, Num z) → (∀ z ∈ b, Num z) → layAll a = layAll b → a = b := by
  intro a
  induction a with
  | nil =>
    intro b _ _ h
    cases b with
    | nil => rfl
    | cons y b => rw [layAll_cons, layAll_nil] at h; have := lay_pos y; have := congrArg List.length h; simp at this; omega
  | cons x a ih =>
    intro b ha hb h
    cases b with
    | nil => rw [layAll_cons, layAll_nil] at h; have := lay_pos x; have := congrArg List.length h; rw [List.length_append, List.length_nil] at this; omega
    | cons y b =>
      rw [layAll_cons, layAll_cons] at h
      obtain ⟨rfl, h'⟩ := lay_inj (ha x (by simp)) (hb y (by simp)) h
      rw [ih (fun z hz => ha z (by simp [hz])) (fun z hz => hb z (by simp [hz])) h']
theorem lay_no : ∀ {l L : List Int} {r : List Int}, (∀ z ∈ l, Num z) → (∀ z ∈ L, Num z) → r ≠ [] → num r = none → layAll l ++ r ≠ layAll L := by
  intro l
  induction l with
  | nil =>
    intro L r _ hL hr hn h
    cases L with
    | nil => exact hr (by simpa [layAll] using h)
    | cons y L =>
      rw [layAll_nil, List.nil_append, layAll_cons] at h
      rw [h, num_lay (hL y (by simp))] at hn
      cases hn
  | cons x l ih =>
    intro L r hl hL hr hn h
    rw [layAll_cons, List.append_assoc] at h
    cases L with
    | nil => rw [layAll_nil] at h; have := lay_pos x; have := congrArg List.length h; rw [List.length_append, List.length_nil] at this; omega
    | cons y L =>
      rw [layAll_cons] at h
      obtain ⟨_, h'⟩ := lay_inj (hl x (by simp)) (hL y (by simp)) h
      exact ih (fun z hz => hl z (by simp [hz])) (fun z hz => hL z (by simp [hz])) hr hn h'

/-- What is read whole: its numbers. -/
theorem rd_whole {bs : List Int} (hB : Bys bs) (h : (rdNote bs).2.2.2 = some []) :
    bs = layAll ((rdNote bs).1 ++ sealN (rdNote bs).2.1 ++ sealN (rdNote bs).2.2.1) ∧ (∀ z ∈ (rdNote bs).1 ++ sealN (rdNote bs).2.1 ++ sealN (rdNote bs).2.2.1, Num z) ∧ ((rdNote bs).1 ++ sealN (rdNote bs).2.1 ++ sealN (rdNote bs).2.2.1).length ≤ 96 := by
  have b0 : SBys (some bs) := hB
  have b1 := asks_bys 14 b0
  have b2 := askSeals_bys b1
  obtain ⟨h1, l1, n1⟩ := askSeals_back b2 h
  obtain ⟨h2, l2, n2⟩ := askSeals_back b1 h1
  obtain ⟨h3, n3⟩ := asks_back 14 b0 h2
  have hl : (rdNote bs).1.length = 14 := asks_len _ _
  refine ⟨?_, ?_, ?_⟩
  · have e := rd_back hB h
    rw [layAll_app, layAll_app, List.append_assoc]
    exact e
  · intro z hz
    rcases List.mem_append.1 hz with hz | hz
    · rcases List.mem_append.1 hz with hz | hz
      · exact n3 z hz
      · exact sealN_num l2 n2 z hz
    · exact sealN_num l1 n1 z hz
  · rw [List.length_append, List.length_append, sealN_len, sealN_len, hl]
    have : (rdNote bs).2.1.length ≤ 20 := l2
    have : (rdNote bs).2.2.1.length ≤ 20 := l1
    omega
theorem okR_end {s l c sh : Int} {zs bs : List Int} (h : okR s l c sh zs bs = true) : (rdNote bs).2.2.2 = some [] := by
  simp only [okR, Bool.and_eq_true] at h
  exact endB_true h.1
theorem okR_len {s l c sh : Int} {zs bs : List Int} (hB : Bys bs) (h : okR s l c sh zs bs = true) : bs.length ≤ 500 := by
  obtain ⟨h1, h2, h3⟩ := rd_whole hB (okR_end h)
  have h4 := layAll_len h2
  rw [← h1] at h4
  omega
theorem okR_bad {s l c sh : Int} {zs bs : List Int} {ls r : List Int} (hB : Bys bs) (hl : ∀ z ∈ ls, Num z) (hr : r ≠ []) (hn : num r = none) (h : bs = layAll ls ++ r) : okR s l c sh zs bs = false := by
  cases e : okR s l c sh zs bs with
  | false => rfl
  | true =>
    obtain ⟨h1, h2, _⟩ := rd_whole hB (okR_end e)
    exact absurd (h.symm.trans h1) (lay_no hl h2 hr hn)

theorem asks_none (n : Nat) : (asks n none).2 = none := by
  induction n with
  | zero => rfl
  | succ n ih => exact ih
theorem asks_over {xs : List Int} {n : Nat} (h : ∀ z ∈ xs, Num z) (hn : xs.length < n) : (asks n (some (layAll xs))).2 = none := by
  obtain ⟨k, rfl⟩ : ∃ k, n = xs.length + (k + 1) := ⟨n - xs.length - 1, by omega⟩
  have h1 := asks_lay xs [] h
  rw [List.append_nil] at h1
  rw [asks_add, h1]
  show (asks k (ask (some [])).2).2 = none
  rw [ask_no (by rfl)]
  exact asks_none k
theorem asks_take {xs : List Int} {n : Nat} (h : ∀ z ∈ xs, Num z) (hn : n ≤ xs.length) : asks n (some (layAll xs)) = (xs.take n, some (layAll (xs.drop n))) := by
  have h1 := asks_lay (xs.take n) (layAll (xs.drop n)) (fun z hz => h z (List.mem_of_mem_take hz))
  rw [← layAll_app, List.take_append_drop, List.length_take, Nat.min_eq_left hn] at h1
  exact h1
theorem drop_num {ls : List Int} (h : ∀ z ∈ ls, Num z) (q : Nat) : ∀ z ∈ ls.drop q, Num z := fun z hz => h z (List.mem_of_mem_drop hz)
theorem ask_at {ls : List Int} {q : Nat} (h : ∀ z ∈ ls, Num z) (hq : q < ls.length) : ask (some (layAll (ls.drop q))) = (nth ls q, some (layAll (ls.drop (q + 1)))) := by
  have e : ls.drop q = nth ls q :: ls.drop (q + 1) := by rw [nth_lt hq]; exact List.drop_eq_getElem_cons hq
  rw [e, layAll_cons]
  exact ask_lay (by rw [nth_lt hq]; exact h _ (List.getElem_mem _)) _
/-- Seals at a place that is right. -/
theorem seals_good {ls : List Int} {q m : Nat} (h : ∀ z ∈ ls, Num z) (hq : q < ls.length) (hm : nth ls q = (m : Int)) (hm20 : m ≤ 20) (hmn : q + 1 + 2 * m ≤ ls.length) :
    askSeals (some (layAll (ls.drop q))) = (pairUp ((ls.drop (q + 1)).take (2 * m)), some (layAll (ls.drop (q + 1 + 2 * m)))) := by
  unfold askSeals
  rw [ask_at h hq, hm]
  simp only [Int.toNat_natCast]
  rw [if_neg (by omega), asks_take (drop_num h (q + 1)) (by rw [List.length_drop]; omega), List.drop_drop]
theorem seals_bad {ls : List Int} {q : Nat} (h : ∀ z ∈ ls, Num z) (hbad : ls.length ≤ q ∨ (q < ls.length ∧ (20 < nth ls q ∨ (ls.length : Int) - q - 1 < 2 * nth ls q))) :
    (askSeals (some (layAll (ls.drop q)))).2 = none := by
  rcases hbad with hb | ⟨hq, hb⟩
  · rw [List.drop_eq_nil_of_le hb]
    rfl
  · have hn := (h (nth ls q) (by rw [nth_lt hq]; exact List.getElem_mem _)).1
    unfold askSeals
    rw [ask_at h hq]
    simp only
    by_cases h20 : 20 < nth ls q
    · rw [if_pos h20]
    · rw [if_neg h20]
      simp only
      exact asks_over (drop_num h (q + 1)) (by rw [List.length_drop]; omega)
theorem askSeals_none : askSeals none = ([], none) := by simp [askSeals, ask, asks, pairUp]
theorem end_at {ls : List Int} {q : Nat} (hq : q ≤ ls.length) : endB (some (layAll (ls.drop q))) = decide (q = ls.length) := by
  by_cases e : q = ls.length
  · subst e; rw [List.drop_length]; simp [layAll, endB]
  · have e2 : ls.drop q = nth ls q :: ls.drop (q + 1) := by rw [nth_lt (by omega)]; exact List.drop_eq_getElem_cons (by omega)
    rw [e2, layAll_cons]
    have hp := lay_pos (nth ls q)
    cases h : lay (nth ls q) with
    | nil => rw [h] at hp; simp at hp
    | cons z r => simp [endB, e]
/-- Fewer numbers than a note has. -/
theorem okR_few {s l c sh : Int} {zs ls : List Int} (h : ∀ z ∈ ls, Num z) (hn : ls.length < 14) : okR s l c sh zs (layAll ls) = false := by
  have e : (rdNote (layAll ls)).2.2.2 = none := by
    unfold rdNote
    rw [asks_over h hn, askSeals_none, askSeals_none]
  simp [okR, e, endB]
/-- The first list is none. -/
theorem okR_first {s l c sh : Int} {zs ls : List Int} (h : ∀ z ∈ ls, Num z) (hn : 14 ≤ ls.length) (hbad : ls.length ≤ 14 ∨ (14 < ls.length ∧ (20 < nth ls 14 ∨ (ls.length : Int) - 14 - 1 < 2 * nth ls 14))) : okR s l c sh zs (layAll ls) = false := by
  have e : (rdNote (layAll ls)).2.2.2 = none := by
    unfold rdNote
    rw [asks_take h hn]
    simp only
    rw [seals_bad h hbad, askSeals_none]
  simp [okR, e, endB]
/-- The second list is none. -/
theorem okR_second {s l c sh : Int} {zs ls : List Int} {m : Nat} (h : ∀ z ∈ ls, Num z) (hq : 14 < ls.length) (hm : nth ls 14 = (m : Int)) (hm20 : m ≤ 20) (hmn : 14 + 1 + 2 * m ≤ ls.length)
    (hbad : ls.length ≤ 14 + 1 + 2 * m ∨ (14 + 1 + 2 * m < ls.length ∧ (20 < nth ls (14 + 1 + 2 * m) ∨ (ls.length : Int) - (14 + 1 + 2 * m : Nat) - 1 < 2 * nth ls (14 + 1 + 2 * m)))) : okR s l c sh zs (layAll ls) = false := by
  have e : (rdNote (layAll ls)).2.2.2 = none := by
    unfold rdNote
    rw [asks_take h (by omega)]
    simp only
    rw [seals_good h hq hm hm20 hmn]
    simp only
    exact seals_bad h hbad
  simp [okR, e, endB]
/-- Both lists are there. -/
theorem rd_both {ls : List Int} {m k : Nat} (h : ∀ z ∈ ls, Num z) (hq : 14 < ls.length) (hm : nth ls 14 = (m : Int)) (hm20 : m ≤ 20) (hmn : 14 + 1 + 2 * m ≤ ls.length)
    (hq2 : 14 + 1 + 2 * m < ls.length) (hk : nth ls (14 + 1 + 2 * m) = (k : Int)) (hk20 : k ≤ 20) (hkn : 14 + 1 + 2 * m + 1 + 2 * k ≤ ls.length) :
    rdNote (layAll ls) = (ls.take 14, pairUp ((ls.drop (14 + 1)).take (2 * m)), pairUp ((ls.drop (14 + 1 + 2 * m + 1)).take (2 * k)), some (layAll (ls.drop (14 + 1 + 2 * m + 1 + 2 * k)))) := by
  unfold rdNote
  rw [asks_take h (by omega)]
  simp only
  rw [seals_good h hq hm hm20 hmn]
  simp only
  rw [seals_good h hq2 hk hk20 hkn]

end Go.Proofs.YtgjbebfcbpfngaaDoor
