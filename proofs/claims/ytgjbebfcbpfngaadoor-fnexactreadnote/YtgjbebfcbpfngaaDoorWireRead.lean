/- Words of chapter 6: how numbers are read from bytes, and a note of them; no conditions. -/
import Derived.Test.YtgjbebfcbpfngaaDoorWireBase
namespace Go.Proofs.YtgjbebfcbpfngaaDoor
open Go.RowKit

/-- A number at the beginning of bytes, in at most f of them: the number, and how many bytes it has. -/
def numF : Nat → Bool → List Int → Option (Int × Nat)
  | 0, _, _ => none
  | _ + 1, _, [] => none
  | f + 1, first, z :: r => if z = 0 ∧ first = false then none else if z < 128 then some (z, 1) else (numF f false r).map fun p => (z - 128 + 128 * p.1, p.2 + 1)
/-- A number at the beginning of bytes. -/
def num (bs : List Int) : Option (Int × Nat) := numF 5 true bs

/-- Bytes. -/
def Bys (bs : List Int) : Prop := ∀ z ∈ bs, 0 ≤ z ∧ z ≤ 255
theorem Bys.drop {bs : List Int} (h : Bys bs) (k : Nat) : Bys (bs.drop k) := fun z hz => h z (List.mem_of_mem_drop hz)

theorem numF_lay (f : Nat) : ∀ (first : Bool) (x : Int) (r : List Int), 0 ≤ x → x < 128 ^ f → (first = false → x ≠ 0) → (0 < f ∨ x ≠ 0) → numF f first (lay x ++ r) = some (x, (lay x).length) := by
  induction f with
  | zero => intro first x r h0 h1 _ h3; rw [Int.pow_zero] at h1; omega
  | succ f ih =>
    intro first x r h0 h1 h2 _
    by_cases h : 128 ≤ x
    · rw [lay_big h]
      have hx : x / 128 < 128 ^ f := by
        rw [Int.pow_succ] at h1
        exact Int.ediv_lt_of_lt_mul (by omega) h1
      have := ih false (x / 128) r (by omega) hx (fun _ => by omega) (.inr (by omega))
      simp only [List.cons_append, numF, this, Option.map_some, List.length_cons]
      rw [if_neg (by omega), if_neg (by omega)]
      congr 2
      omega
    · rw [lay_small h0 (by omega)]
      simp only [List.cons_append, List.nil_append, numF, List.length_singleton]
      rw [if_neg (by intro e; exact h2 e.2 e.1), if_pos (by omega)]
theorem num_lay {x : Int} (h : Num x) (r : List Int) : num (lay x ++ r) = some (x, (lay x).length) := numF_lay 5 true x r h.1 h.2 (by simp) (.inl (by omega))

theorem numF_back (f : Nat) : ∀ (first : Bool) (bs : List Int) (x : Int) (k : Nat), Bys bs → numF f first bs = some (x, k) → 0 ≤ x ∧ x < 128 ^ f ∧ (first = false → x ≠ 0) ∧ k = (lay x).length ∧ bs = lay x ++ bs.drop k ∧ k ≤ bs.length ∧ 0 < k := by
  induction f with
  | zero => intro first bs x k _ h; simp [numF] at h
  | succ f ih =>
    intro first bs x k hB h
    cases bs with
    | nil => simp [numF] at h
    | cons z r =>
      have hz := hB z (by simp)
      simp only [numF] at h
      split at h
      · cases h
      rename_i hn
      split at h
      · rename_i hlt
        simp only [Option.some.injEq, Prod.mk.injEq] at h
        obtain ⟨rfl, rfl⟩ := h
        have hp : (128 : Int) ≤ 128 ^ (f + 1) := by
          have : (0 : Int) < 128 ^ f := Int.pow_pos (by omega)
          rw [Int.pow_succ]
          omega
        refine ⟨hz.1, by omega, ?_, ?_, ?_, ?_, by omega⟩
        · intro hf e; exact hn ⟨e, hf⟩
        · rw [lay_small hz.1 hlt]; rfl
        · rw [lay_small hz.1 hlt]; rfl
        · simp
      · rename_i hge
        cases hr : numF f false r with
        | none => rw [hr] at h; cases h
        | some p =>
          obtain ⟨y, j⟩ := p
          rw [hr] at h
          simp only [Option.map_some, Option.some.injEq, Prod.mk.injEq] at h
          obtain ⟨rfl, rfl⟩ := h
          obtain ⟨y0, y1, y2, y3, y4, y5, y6⟩ := ih false r y j (fun z hz => hB z (by simp [hz])) hr
          have y2 := y2 rfl
          have e1 : (z - 128 + 128 * y) / 128 = y := by omega
          have e2 : (z - 128 + 128 * y) % 128 + 128 = z := by omega
          have hl : lay (z - 128 + 128 * y) = z :: lay y := by rw [lay_big (by omega), e1, e2]
          refine ⟨by omega, ?_, fun _ => by omega, ?_, ?_, ?_, by omega⟩
          · rw [Int.pow_succ]; omega
          · rw [hl]; simp [y3]
          · rw [hl]
            simp only [List.drop_succ_cons, List.cons_append]
            rw [← y4]
          · simp; omega
theorem num_back {bs : List Int} {x : Int} {k : Nat} (hB : Bys bs) (h : num bs = some (x, k)) : Num x ∧ k = (lay x).length ∧ bs = lay x ++ bs.drop k ∧ k ≤ bs.length ∧ 0 < k := by
  obtain ⟨a, b, _, c, d, e, f⟩ := numF_back 5 true bs x k hB h
  exact ⟨⟨a, b⟩, c, d, e, f⟩
theorem num_le {bs : List Int} {x : Int} {k : Nat} (hB : Bys bs) (h : num bs = some (x, k)) : k ≤ 5 := by
  obtain ⟨a, b, _⟩ := num_back hB h
  rw [b]; exact lay_len a

/-- A cursor asked for a number: none is one that has found a fault. -/
def ask : Option (List Int) → Int × Option (List Int)
  | none => (0, none)
  | some bs => match num bs with
    | none => (0, none)
    | some (x, k) => (x, some (bs.drop k))
/-- A cursor asked for n numbers. -/
def asks : Nat → Option (List Int) → List Int × Option (List Int)
  | 0, s => ([], s)
  | n + 1, s => ((ask s).1 :: (asks n (ask s).2).1, (asks n (ask s).2).2)
def pairUp : List Int → List (Int × Int)
  | a :: b :: r => (a, b) :: pairUp r
  | _ => []
/-- A cursor asked for seals. -/
def askSeals (s : Option (List Int)) : List (Int × Int) × Option (List Int) :=
  if 20 < (ask s).1 then ([], none) else (pairUp (asks (2 * (ask s).1.toNat) (ask s).2).1, (asks (2 * (ask s).1.toNat) (ask s).2).2)

theorem ask_none : ask none = (0, none) := rfl
theorem ask_no {bs : List Int} (h : num bs = none) : ask (some bs) = (0, none) := by simp [ask, h]
theorem ask_yes {bs : List Int} {x : Int} {k : Nat} (h : num bs = some (x, k)) : ask (some bs) = (x, some (bs.drop k)) := by simp [ask, h]
theorem asks_len (n : Nat) : ∀ s, (asks n s).1.length = n := by
  induction n with
  | zero => intro s; rfl
  | succ n ih => intro s; simp [asks, ih]
theorem asks_add (a : Nat) : ∀ (b : Nat) (s : Option (List Int)), asks (a + b) s = ((asks a s).1 ++ (asks b (asks a s).2).1, (asks b (asks a s).2).2) := by
  induction a with
  | zero => intro b s; simp [asks]
  | succ a ih => intro b s; rw [show a + 1 + b = (a + b) + 1 by omega]; simp [asks, ih]
/-- Bytes in a cursor. -/
def SBys : Option (List Int) → Prop
  | none => True
  | some bs => Bys bs
theorem SBys.ask {s : Option (List Int)} (h : SBys s) : SBys (ask s).2 := by
  cases s with
  | none => exact trivial
  | some bs =>
    cases e : num bs with
    | none => rw [ask_no e]; exact trivial
    | some p => rw [ask_yes (x := p.1) (k := p.2) e]; exact Bys.drop h p.2
theorem ask_bound {s : Option (List Int)} (h : SBys s) : Num (ask s).1 := by
  cases s with
  | none => exact ⟨by simp [ask], by simp [ask]⟩
  | some bs =>
    cases e : num bs with
    | none => rw [ask_no e]; exact ⟨by simp, by simp⟩
    | some p => rw [ask_yes (x := p.1) (k := p.2) e]; exact (num_back h (x := p.1) (k := p.2) e).1
theorem asks_bys (n : Nat) : ∀ {s : Option (List Int)}, SBys s → SBys (asks n s).2 := by
  induction n with
  | zero => intro s h; exact h
  | succ n ih => intro s h; exact ih h.ask

/-- Whole bytes: the numbers that were asked for are what was laid. -/
theorem ask_back {s : Option (List Int)} {r : List Int} (hB : SBys s) (h : (ask s).2 = some r) : s = some (lay (ask s).1 ++ r) ∧ Num (ask s).1 := by
  cases s with
  | none => simp [ask] at h
  | some bs =>
    cases e : num bs with
    | none => rw [ask_no e] at h; cases h
    | some p =>
      obtain ⟨x, k⟩ := p
      rw [ask_yes e] at h ⊢
      simp only [Option.some.injEq] at h
      obtain ⟨a, _, c, _⟩ := num_back hB e
      subst h
      exact ⟨congrArg some c, a⟩
theorem asks_back (n : Nat) : ∀ {s : Option (List Int)} {r : List Int}, SBys s → (asks n s).2 = some r → s = some (layAll (asks n s).1 ++ r) ∧ ∀ z ∈ (asks n s).1, Num z := by
  induction n with
  | zero => intro s r _ h; exact ⟨by simpa [asks, layAll] using h, by simp [asks]⟩
  | succ n ih =>
    intro s r hB h
    have h' : (asks n (ask s).2).2 = some r := h
    obtain ⟨h1, h2⟩ := ih hB.ask h'
    obtain ⟨h3, h4⟩ := ask_back hB h1
    refine ⟨?_, ?_⟩
    · simp only [asks, layAll_cons, List.append_assoc]; exact h3
    · intro z hz
      rcases List.mem_cons.1 hz with rfl | hz
      · exact h4
      · exact h2 z hz
theorem ask_lay {x : Int} (h : Num x) (r : List Int) : ask (some (lay x ++ r)) = (x, some r) := by
  simp [ask, num_lay h r]
theorem asks_lay (xs : List Int) : ∀ (r : List Int), (∀ z ∈ xs, Num z) → asks xs.length (some (layAll xs ++ r)) = (xs, some r) := by
  induction xs with
  | nil => intro r _; rfl
  | cons x xs ih =>
    intro r h
    rw [List.length_cons, layAll_cons, List.append_assoc]
    simp only [asks, ask_lay (h x (by simp)), ih r (fun z hz => h z (by simp [hz]))]
theorem pairUp_pairs (ps : List (Int × Int)) : pairUp (ps.flatMap fun p => [p.1, p.2]) = ps := by
  induction ps with
  | nil => rfl
  | cons p r ih => simp [pairUp, ih]
theorem pairs_pairUp (n : Nat) : ∀ xs : List Int, xs.length = 2 * n → (pairUp xs).flatMap (fun p => [p.1, p.2]) = xs ∧ (pairUp xs).length = n := by
  induction n with
  | zero => intro xs h; have : xs = [] := List.length_eq_zero_iff.1 (by omega); subst this; exact ⟨rfl, rfl⟩
  | succ n ih =>
    intro xs h
    match xs, h with
    | [], h => simp at h
    | [a], h => simp at h; omega
    | a :: b :: r, h =>
      obtain ⟨h1, h2⟩ := ih r (by simp at h; omega)
      simp only [pairUp, List.flatMap_cons, h1, List.length_cons, h2]
      exact ⟨rfl, trivial⟩
theorem askSeals_bys {s : Option (List Int)} (h : SBys s) : SBys (askSeals s).2 := by
  unfold askSeals
  split
  · exact trivial
  · exact asks_bys _ h.ask
theorem askSeals_len {s : Option (List Int)} (hB : SBys s) : (askSeals s).1.length ≤ 20 := by
  unfold askSeals
  have h0 := ask_bound hB
  split
  · simp
  · simp only
    rw [(pairs_pairUp _ _ (asks_len _ _)).2]
    have := h0.1
    omega
theorem askSeals_back {s : Option (List Int)} {r : List Int} (hB : SBys s) (h : (askSeals s).2 = some r) : s = some (layAll (sealN (askSeals s).1) ++ r) ∧ (askSeals s).1.length ≤ 20 ∧ ∀ p ∈ (askSeals s).1, Num p.1 ∧ Num p.2 := by
  have hl := askSeals_len hB
  unfold askSeals at h hl ⊢
  split at h
  · cases h
  rename_i hle
  rw [if_neg hle] at hl ⊢
  simp only at h hl ⊢
  have h0 := ask_bound hB
  obtain ⟨h1, h2⟩ := asks_back _ hB.ask h
  obtain ⟨h3, h4⟩ := ask_back hB h1
  obtain ⟨e1, e2⟩ := pairs_pairUp _ _ (asks_len (2 * (ask s).1.toNat) (ask s).2)
  refine ⟨?_, hl, ?_⟩
  · unfold sealN
    rw [e1, e2, layAll_cons, List.append_assoc]
    have : (((ask s).1.toNat : Nat) : Int) = (ask s).1 := by have := h0.1; omega
    rw [this]
    exact h3
  · intro p hp
    have hm : ∀ z ∈ [p.1, p.2], z ∈ (asks (2 * (ask s).1.toNat) (ask s).2).1 := by
      intro z hz
      rw [← e1]
      exact List.mem_flatMap.2 ⟨p, hp, hz⟩
    exact ⟨h2 _ (hm _ (by simp)), h2 _ (hm _ (by simp))⟩
theorem askSeals_lay {ps : List (Int × Int)} (hl : ps.length ≤ 20) (h : ∀ p ∈ ps, Num p.1 ∧ Num p.2) (r : List Int) : askSeals (some (layAll (sealN ps) ++ r)) = (ps, some r) := by
  have hn := sealN_num hl h
  unfold sealN at hn ⊢
  unfold askSeals
  rw [layAll_cons, List.append_assoc, ask_lay (hn _ (by simp))]
  have hlen : (ps.flatMap fun p => [p.1, p.2]).length = 2 * ps.length := by
    have := sealN_len ps
    unfold sealN at this
    rw [List.length_cons] at this
    omega
  have e : 2 * ((ps.length : Int)).toNat = (ps.flatMap fun p => [p.1, p.2]).length := by rw [hlen]; simp
  simp only
  rw [if_neg (by omega), e, asks_lay _ r (fun z hz => hn z (by simp [hz]))]
  simp only [pairUp_pairs]

/-- A note that is read: its numbers, its lists, and what is left. -/
def rdNote (bs : List Int) : List Int × List (Int × Int) × List (Int × Int) × Option (List Int) :=
  ((asks 14 (some bs)).1, (askSeals (asks 14 (some bs)).2).1, (askSeals (askSeals (asks 14 (some bs)).2).2).1, (askSeals (askSeals (asks 14 (some bs)).2).2).2)
/-- What is read whole is what was laid. -/
theorem rd_back {bs : List Int} (hB : Bys bs) (h : (rdNote bs).2.2.2 = some []) : bs = packN (rdNote bs).1 (rdNote bs).2.1 (rdNote bs).2.2.1 := by
  have b0 : SBys (some bs) := hB
  have b1 := asks_bys 14 b0
  have b2 := askSeals_bys b1
  obtain ⟨h1, _⟩ := askSeals_back b2 h
  obtain ⟨h2, _⟩ := askSeals_back b1 h1
  obtain ⟨h3, _⟩ := asks_back 14 b0 h2
  rw [List.append_nil] at h3
  exact Option.some.inj h3
theorem rd_lay {ns : List Int} {ps qs : List (Int × Int)} (hn : ns.length = 14) (h0 : ∀ z ∈ ns, Num z) (hp : ps.length ≤ 20) (hq : qs.length ≤ 20) (h1 : ∀ p ∈ ps, Num p.1 ∧ Num p.2) (h2 : ∀ p ∈ qs, Num p.1 ∧ Num p.2) : rdNote (packN ns ps qs) = (ns, ps, qs, some []) := by
  unfold rdNote packN
  have a := asks_lay ns (layAll (sealN ps) ++ layAll (sealN qs)) h0
  rw [hn] at a
  have c := askSeals_lay hq h2 []
  rw [List.append_nil] at c
  rw [a]
  simp only
  rw [askSeals_lay hp h1]
  simp only
  rw [c]

end Go.Proofs.YtgjbebfcbpfngaaDoor
