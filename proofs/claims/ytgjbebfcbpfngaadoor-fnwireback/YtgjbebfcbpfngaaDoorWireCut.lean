/- Words of chapter 6: how numbers are laid as bytes and read from them; no conditions. -/
import Derived.Test.YtgjbebfcbpfngaaDoorNoteShape
namespace Go.Proofs.YtgjbebfcbpfngaaDoor
open Go.RowKit

/-- The bytes of a number: 7 bits each, the lowest ones first, each but the last one with 128 more. -/
def layN (x : Nat) : List Int := if h : 128 ≤ x then ((x % 128 + 128 : Nat) : Int) :: layN (x / 128) else [(x : Int)]
termination_by x
decreasing_by omega
theorem layN_big {x : Nat} (h : 128 ≤ x) : layN x = ((x % 128 + 128 : Nat) : Int) :: layN (x / 128) := by rw [layN]; simp [h]
theorem layN_small {x : Nat} (h : x < 128) : layN x = [(x : Int)] := by rw [layN]; simp; omega
/-- The bytes of an int64. -/
def lay (x : Int) : List Int := layN x.toNat
theorem lay_big {x : Int} (h : 128 ≤ x) : lay x = (x % 128 + 128) :: lay (x / 128) := by
  unfold lay
  rw [layN_big (by omega)]
  have e1 : ((x.toNat % 128 + 128 : Nat) : Int) = x % 128 + 128 := by omega
  have e2 : x.toNat / 128 = (x / 128).toNat := by omega
  rw [e1, e2]
theorem lay_small {x : Int} (h0 : 0 ≤ x) (h : x < 128) : lay x = [x] := by
  unfold lay
  rw [layN_small (by omega)]
  have e1 : ((x.toNat : Nat) : Int) = x := by omega
  rw [e1]
/-- The bytes of numbers. -/
def layAll (zs : List Int) : List Int := zs.flatMap lay
theorem layAll_nil : layAll [] = [] := rfl
theorem layAll_cons (x : Int) (r : List Int) : layAll (x :: r) = lay x ++ layAll r := rfl
theorem layAll_app (a b : List Int) : layAll (a ++ b) = layAll a ++ layAll b := by simp [layAll, List.flatMap_append]
theorem layAll_one (x : Int) : layAll [x] = lay x := by simp [layAll]

/-- A number that can be laid in at most five bytes. -/
def Num (x : Int) : Prop := 0 ≤ x ∧ x < 34359738368

theorem layN_len (k : Nat) : ∀ x : Nat, x < 128 ^ (k + 1) → (layN x).length ≤ k + 1 := by
  induction k with
  | zero => intro x hx; rw [layN_small (by simpa using hx)]; simp
  | succ k ih =>
    intro x hx
    by_cases h : 128 ≤ x
    · rw [layN_big h]
      have hx2 : x < 128 ^ (k + 1) * 128 := by rw [← Nat.pow_succ]; exact hx
      have := ih (x / 128) (Nat.div_lt_of_lt_mul (by rw [Nat.mul_comm]; exact hx2))
      simp only [List.length_cons]
      omega
    · rw [layN_small (by omega)]; simp
theorem lay_len {x : Int} (h : Num x) : (lay x).length ≤ 5 := layN_len 4 x.toNat (by have := h.1; have := h.2; omega)
theorem layN_pos (x : Nat) : 0 < (layN x).length := by
  by_cases h : 128 ≤ x
  · rw [layN_big h]; simp
  · rw [layN_small (by omega)]; simp
theorem lay_pos (x : Int) : 0 < (lay x).length := layN_pos _
theorem layAll_len {zs : List Int} (h : ∀ z ∈ zs, Num z) : (layAll zs).length ≤ 5 * zs.length := by
  induction zs with
  | nil => simp [layAll]
  | cons x r ih =>
    rw [layAll_cons, List.length_append, List.length_cons]
    have h1 := lay_len (h x (by simp))
    have h2 := ih (fun z hz => h z (by simp [hz]))
    omega
theorem layN_bytes (x : Nat) : ∀ z ∈ layN x, 0 ≤ z ∧ z ≤ 255 := by
  induction x using layN.induct with
  | case1 x h ih =>
    rw [layN_big h]
    intro z hz
    rcases List.mem_cons.1 hz with rfl | hz
    · omega
    · exact ih z hz
  | case2 x h => rw [layN_small (by omega)]; intro z hz; simp at hz; omega
theorem lay_bytes (x : Int) : ∀ z ∈ lay x, 0 ≤ z ∧ z ≤ 255 := layN_bytes _
theorem layAll_bytes (zs : List Int) : ∀ z ∈ layAll zs, 0 ≤ z ∧ z ≤ 255 := by
  intro z hz
  simp only [layAll, List.mem_flatMap] at hz
  obtain ⟨x, _, hx⟩ := hz
  exact lay_bytes x z hx

/-- The numbers of seals. -/
def sealN (ps : List (Int × Int)) : List Int := (ps.length : Int) :: ps.flatMap fun p => [p.1, p.2]
/-- The numbers of a note that are no lists. -/
def numN (k1 k2 k3 k4 k5 t1 t2 v1 o1 o2 v2 l1 l2 v3 : Int) : List Int := [k1, k2, k3, k4, k5, t1, t2, v1, o1, o2, v2, l1, l2, v3]
/-- The bytes of a note: its fourteen numbers, then its lists. -/
def packN (ns : List Int) (ps qs : List (Int × Int)) : List Int := layAll ns ++ (layAll (sealN ps) ++ layAll (sealN qs))

/-- What is said of a note that is right: its numbers can be laid. -/
structure Fits (k1 k2 k3 k4 k5 t1 t2 v1 o1 o2 v2 l1 l2 v3 : Int) (ps qs : List (Int × Int)) : Prop where
  num : ∀ z ∈ numN k1 k2 k3 k4 k5 t1 t2 v1 o1 o2 v2 l1 l2 v3, Num z
  pl : ps.length ≤ 20
  ql : qs.length ≤ 20
  ps : ∀ p ∈ ps, Num p.1 ∧ Num p.2
  qs : ∀ p ∈ qs, Num p.1 ∧ Num p.2

theorem sealN_num {ps : List (Int × Int)} (hl : ps.length ≤ 20) (h : ∀ p ∈ ps, Num p.1 ∧ Num p.2) : ∀ z ∈ sealN ps, Num z := by
  intro z hz
  rcases List.mem_cons.1 hz with rfl | hz
  · exact ⟨by omega, by omega⟩
  · simp only [List.mem_flatMap] at hz
    obtain ⟨p, hp, hz⟩ := hz
    simp only [List.mem_cons, List.not_mem_nil, or_false] at hz
    rcases hz with rfl | rfl
    · exact (h p hp).1
    · exact (h p hp).2
theorem sealN_len (ps : List (Int × Int)) : (sealN ps).length = 2 * ps.length + 1 := by
  unfold sealN
  rw [List.length_cons]
  congr 1
  induction ps with
  | nil => rfl
  | cons p r ih => rw [List.flatMap_cons, List.length_append, ih]; simp; omega
theorem stB_num {a b : Int} (h : stB a b = true) : Num a ∧ Num b := by
  have := stB_bd h
  exact ⟨⟨this.1, by omega⟩, this.2.2.1, by omega⟩
theorem fit_num {ps : List (Int × Int)} (h : fitB ps = true) : ps.length ≤ 20 ∧ ∀ p ∈ ps, Num p.1 ∧ Num p.2 := by
  simp only [fitB, Bool.and_eq_true, decide_eq_true_eq, sealsB, List.all_eq_true, seal1B] at h
  refine ⟨h.1, fun p hp => ?_⟩
  have h1 := inB_true.1 (h.2 p hp).1
  have h2 := inB_true.1 (h.2 p hp).2
  exact ⟨⟨h1.1, by omega⟩, h2.1, by omega⟩
theorem srv_num {s l c sh : Int} {zs : List Int} {x : Int} (h : srvB s l c sh zs x = true) : Num x := by
  simp only [srvB, Bool.and_eq_true] at h
  have h1 := okB_parts h.1
  have h2 := inB_true.1 h.2
  exact ⟨h2.1, by omega⟩
theorem cli_num {s l c sh : Int} {zs : List Int} {x : Int} (h : cliB s l c sh zs x = true) : Num x := by
  simp only [cliB, Bool.and_eq_true] at h
  have h1 := okB_parts h.1
  have h2 := inB_true.1 h.2
  exact ⟨by omega, by omega⟩
theorem shf_num {s l c sh : Int} {zs : List Int} {x : Int} (h : shfB s l c sh zs x = true) : Num x := by
  simp only [shfB, Bool.and_eq_true] at h
  have h1 := okB_sh h.1
  have h2 := inB_true.1 h.2
  exact ⟨h2.1, by omega⟩
theorem val_num {x : Int} (h : valB x = true) : Num x := by
  have h2 := inB_true.1 h
  exact ⟨h2.1, by omega⟩
theorem kd_num {s l c sh : Int} {zs : List Int} {k1 k2 k3 : Int} {hv hp : Bool} (h : kdB s l c sh zs k1 k2 k3 hv hp = true) : Num k1 ∧ Num k2 ∧ Num k3 := by
  unfold kdB at h
  split at h
  · rename_i e; simp only [Bool.and_eq_true] at h; exact ⟨⟨by omega, by omega⟩, cli_num h.1.2, srv_num h.2⟩
  split at h
  · rename_i e; simp only [Bool.and_eq_true] at h; exact ⟨⟨by omega, by omega⟩, cli_num h.1.2, srv_num h.2⟩
  split at h
  · rename_i e; simp only [Bool.and_eq_true] at h; exact ⟨⟨by omega, by omega⟩, cli_num h.1, srv_num h.2⟩
  split at h
  · rename_i e; simp only [Bool.and_eq_true] at h; exact ⟨⟨by omega, by omega⟩, srv_num h.1.2, cli_num h.2⟩
  · cases h
/-- A note that is right can be laid. -/
theorem nt_fits {s l c sh : Int} {zs : List Int} {k1 k2 k3 k4 k5 t1 t2 v1 o1 o2 v2 : Int} {ps qs : List (Int × Int)} {l1 l2 v3 : Int} (h : ntB s l c sh zs k1 k2 k3 k4 k5 t1 t2 v1 o1 o2 v2 ps qs l1 l2 v3 = true) :
    Fits k1 k2 k3 k4 k5 t1 t2 v1 o1 o2 v2 l1 l2 v3 ps qs := by
  simp only [ntB, Bool.and_eq_true, stsB, valsB] at h
  obtain ⟨⟨⟨⟨⟨⟨h4, h5⟩, ⟨ht, ho⟩, hl⟩, ⟨hv1, hv2⟩, hv3⟩, hp⟩, hq⟩, hk⟩ := h
  have h4 := inB_true.1 h4
  obtain ⟨a1, a2, a3⟩ := kd_num hk
  obtain ⟨b1, b2⟩ := stB_num ht
  obtain ⟨b3, b4⟩ := stB_num ho
  obtain ⟨b5, b6⟩ := stB_num hl
  refine ⟨fun z hz => ?_, (fit_num hp).1, (fit_num hq).1, (fit_num hp).2, (fit_num hq).2⟩
  simp only [numN, List.mem_cons, List.not_mem_nil, or_false] at hz
  rcases hz with rfl | rfl | rfl | rfl | rfl | rfl | rfl | rfl | rfl | rfl | rfl | rfl | rfl | rfl
  · exact a1
  · exact a2
  · exact a3
  · exact ⟨h4.1, by omega⟩
  · exact shf_num h5
  · exact b1
  · exact b2
  · exact val_num hv1
  · exact b3
  · exact b4
  · exact val_num hv2
  · exact b5
  · exact b6
  · exact val_num hv3

end Go.Proofs.YtgjbebfcbpfngaaDoor

/- Words of chapter 6: how numbers are read from bytes, and a note of them; no conditions. -/
namespace Go.Proofs.YtgjbebfcbpfngaaDoor
open Go.RowKit

/-- A number at the beginning of bytes, in at most f of them: the number, and how many bytes it has. -/
def numF : Nat → Bool → List Int → Option (Int × Nat)
  | 0, _, _ => none
  | _ + 1, _, [] => none
  | f + 1, first, z :: r => if z = 0 ∧ first = false then none else if z < 128 then some (z, 1) else (numF f false r).map fun p => (z - 128 + 128 * p.1, p.2 + 1)
/-- A number at the beginning of bytes. -/
def num (bs : List Int) : Option (Int × Nat) := numF 5 true bs

/-- Bytes. -/
def Bys (bs : List Int) : Prop := ∀ z ∈ bs, 0 ≤ z ∧ z ≤ 255
theorem Bys.drop {bs : List Int} (h : Bys bs) (k : Nat) : Bys (bs.drop k) := fun z hz => h z (List.mem_of_mem_drop hz)

theorem numF_lay (f : Nat) : ∀ (first : Bool) (x : Int) (r : List Int), 0 ≤ x → x < 128 ^ f → (first = false → x ≠ 0) → (0 < f ∨ x ≠ 0) → numF f first (lay x ++ r) = some (x, (lay x).length) := by
  induction f with
  | zero => intro first x r h0 h1 _ h3; rw [Int.pow_zero] at h1; omega
  | succ f ih =>
    intro first x r h0 h1 h2 _
    by_cases h : 128 ≤ x
    · rw [lay_big h]
      have hx : x / 128 < 128 ^ f := by
        rw [Int.pow_succ] at h1
        exact Int.ediv_lt_of_lt_mul (by omega) h1
      have := ih false (x / 128) r (by omega) hx (fun _ => by omega) (.inr (by omega))
      simp only [List.cons_append, numF, this, Option.map_some, List.length_cons]
      rw [if_neg (by omega), if_neg (by omega)]
      congr 2
      omega
    · rw [lay_small h0 (by omega)]
      simp only [List.cons_append, List.nil_append, numF, List.length_singleton]
      rw [if_neg (by intro e; exact h2 e.2 e.1), if_pos (by omega)]
theorem num_lay {x : Int} (h : Num x) (r : List Int) : num (lay x ++ r) = some (x, (lay x).length) := numF_lay 5 true x r h.1 h.2 (by simp) (.inl (by omega))

theorem numF_back (f : Nat) : ∀ (first : Bool) (bs : List Int) (x : Int) (k : Nat), Bys bs → numF f first bs = some (x, k) → 0 ≤ x ∧ x < 128 ^ f ∧ (first = false → x ≠ 0) ∧ k = (lay x).length ∧ bs = lay x ++ bs.drop k ∧ k ≤ bs.length ∧ 0 < k := by
  induction f with
  | zero => intro first bs x k _ h; simp [numF] at h
  | succ f ih =>
    intro first bs x k hB h
    cases bs with
    | nil => simp [numF] at h
    | cons z r =>
      have hz := hB z (by simp)
      simp only [numF] at h
      split at h
      · cases h
      rename_i hn
      split at h
      · rename_i hlt
        simp only [Option.some.injEq, Prod.mk.injEq] at h
        obtain ⟨rfl, rfl⟩ := h
        have hp : (128 : Int) ≤ 128 ^ (f + 1) := by
          have : (0 : Int) < 128 ^ f := Int.pow_pos (by omega)
          rw [Int.pow_succ]
          omega
        refine ⟨hz.1, by omega, ?_, ?_, ?_, ?_, by omega⟩
        · intro hf e; exact hn ⟨e, hf⟩
        · rw [lay_small hz.1 hlt]; rfl
        · rw [lay_small hz.1 hlt]; rfl
        · simp
      · rename_i hge
        cases hr : numF f false r with
        | none => rw [hr] at h; cases h
        | some p =>
          obtain ⟨y, j⟩ := p
          rw [hr] at h
          simp only [Option.map_some, Option.some.injEq, Prod.mk.injEq] at h
          obtain ⟨rfl, rfl⟩ := h
          obtain ⟨y0, y1, y2, y3, y4, y5, y6⟩ := ih false r y j (fun z hz => hB z (by simp [hz])) hr
          have y2 := y2 rfl
          have e1 : (z - 128 + 128 * y) / 128 = y := by omega
          have e2 : (z - 128 + 128 * y) % 128 + 128 = z := by omega
          have hl : lay (z - 128 + 128 * y) = z :: lay y := by rw [lay_big (by omega), e1, e2]
          refine ⟨by omega, ?_, fun _ => by omega, ?_, ?_, ?_, by omega⟩
          · rw [Int.pow_succ]; omega
          · rw [hl]; simp [y3]
          · rw [hl]
            simp only [List.drop_succ_cons, List.cons_append]
            rw [← y4]
          · simp; omega
theorem num_back {bs : List Int} {x : Int} {k : Nat} (hB : Bys bs) (h : num bs = some (x, k)) : Num x ∧ k = (lay x).length ∧ bs = lay x ++ bs.drop k ∧ k ≤ bs.length ∧ 0 < k := by
  obtain ⟨a, b, _, c, d, e, f⟩ := numF_back 5 true bs x k hB h
  exact ⟨⟨a, b⟩, c, d, e, f⟩
theorem num_le {bs : List Int} {x : Int} {k : Nat} (hB : Bys bs) (h : num bs = some (x, k)) : k ≤ 5 := by
  obtain ⟨a, b, _⟩ := num_back hB h
  rw [b]; exact lay_len a

/-- A cursor asked for a number: none is one that has found a fault. -/
def ask : Option (List Int) → Int × Option (List Int)
  | none => (0, none)
  | some bs => match num bs with
    | none => (0, none)
    | some (x, k) => (x, some (bs.drop k))
/-- A cursor asked for n numbers. -/
def asks : Nat → Option (List Int) → List Int × Option (List Int)
  | 0, s => ([], s)
  | n + 1, s => ((ask s).1 :: (asks n (ask s).2).1, (asks n (ask s).2).2)
def pairUp : List Int → List (Int × Int)
  | a :: b :: r => (a, b) :: pairUp r
  | _ => []
/-- A cursor asked for seals. -/
def askSeals (s : Option (List Int)) : List (Int × Int) × Option (List Int) :=
  if 20 < (ask s).1 then ([], none) else (pairUp (asks (2 * (ask s).1.toNat) (ask s).2).1, (asks (2 * (ask s).1.toNat) (ask s).2).2)

theorem ask_none : ask none = (0, none) := rfl
theorem ask_no {bs : List Int} (h : num bs = none) : ask (some bs) = (0, none) := by simp [ask, h]
theorem ask_yes {bs : List Int} {x : Int} {k : Nat} (h : num bs = some (x, k)) : ask (some bs) = (x, some (bs.drop k)) := by simp [ask, h]
theorem asks_len (n : Nat) : ∀ s, (asks n s).1.length = n := by
  induction n with
  | zero => intro s; rfl
  | succ n ih => intro s; simp [asks, ih]
theorem asks_add (a : Nat) : ∀ (b : Nat) (s : Option (List Int)), asks (a + b) s = ((asks a s).1 ++ (asks b (asks a s).2).1, (asks b (asks a s).2).2) := by
  induction a with
  | zero => intro b s; simp [asks]
  | succ a ih => intro b s; rw [show a + 1 + b = (a + b) + 1 by omega]; simp [asks, ih]
/-- Bytes in a cursor. -/
def SBys : Option (List Int) → Prop
  | none => True
  | some bs => Bys bs
theorem SBys.ask {s : Option (List Int)} (h : SBys s) : SBys (ask s).2 := by
  cases s with
  | none => exact trivial
  | some bs =>
    cases e : num bs with
    | none => rw [ask_no e]; exact trivial
    | some p => rw [ask_yes (x := p.1) (k := p.2) e]; exact Bys.drop h p.2
theorem ask_bound {s : Option (List Int)} (h : SBys s) : Num (ask s).1 := by
  cases s with
  | none => exact ⟨by simp [ask], by simp [ask]⟩
  | some bs =>
    cases e : num bs with
    | none => rw [ask_no e]; exact ⟨by simp, by simp⟩
    | some p => rw [ask_yes (x := p.1) (k := p.2) e]; exact (num_back h (x := p.1) (k := p.2) e).1
theorem asks_bys (n : Nat) : ∀ {s : Option (List Int)}, SBys s → SBys (asks n s).2 := by
  induction n with
  | zero => intro s h; exact h
  | succ n ih => intro s h; exact ih h.ask

/-- Whole bytes: the numbers that were asked for are what was laid. -/
theorem ask_back {s : Option (List Int)} {r : List Int} (hB : SBys s) (h : (ask s).2 = some r) : s = some (lay (ask s).1 ++ r) ∧ Num (ask s).1 := by
  cases s with
  | none => simp [ask] at h
  | some bs =>
    cases e : num bs with
    | none => rw [ask_no e] at h; cases h
    | some p =>
      obtain ⟨x, k⟩ := p
      rw [ask_yes e] at h ⊢
      simp only [Option.some.injEq] at h
      obtain ⟨a, _, c, _⟩ := num_back hB e
      subst h
      exact ⟨congrArg some c, a⟩
theorem asks_back (n : Nat) : ∀ {s : Option (List Int)} {r : List Int}, SBys s → (asks n s).2 = some r → s = some (layAll (asks n s).1 ++ r) ∧ ∀ z ∈ (asks n s).1, Num z := by
  induction n with
  | zero => intro s r _ h; exact ⟨by simpa [asks, layAll] using h, by simp [asks]⟩
  | succ n ih =>
    intro s r hB h
    have h' : (asks n (ask s).2).2 = some r := h
    obtain ⟨h1, h2⟩ := ih hB.ask h'
    obtain ⟨h3, h4⟩ := ask_back hB h1
    refine ⟨?_, ?_⟩
    · simp only [asks, layAll_cons, List.append_assoc]; exact h3
    · intro z hz
      rcases List.mem_cons.1 hz with rfl | hz
      · exact h4
      · exact h2 z hz
theorem ask_lay {x : Int} (h : Num x) (r : List Int) : ask (some (lay x ++ r)) = (x, some r) := by
  simp [ask, num_lay h r]
theorem asks_lay (xs : List Int) : ∀ (r : List Int), (∀ z ∈ xs, Num z) → asks xs.length (some (layAll xs ++ r)) = (xs, some r) := by
  induction xs with
  | nil => intro r _; rfl
  | cons x xs ih =>
    intro r h
    rw [List.length_cons, layAll_cons, List.append_assoc]
    simp only [asks, ask_lay (h x (by simp)), ih r (fun z hz => h z (by simp [hz]))]
theorem pairUp_pairs (ps : List (Int × Int)) : pairUp (ps.flatMap fun p => [p.1, p.2]) = ps := by
  induction ps with
  | nil => rfl
  | cons p r ih => simp [pairUp, ih]
theorem pairs_pairUp (n : Nat) : ∀ xs : List Int, xs.length = 2 * n → (pairUp xs).flatMap (fun p => [p.1, p.2]) = xs ∧ (pairUp xs).length = n := by
  induction n with
  | zero => intro xs h; have : xs = [] := List.length_eq_zero_iff.1 (by omega); subst this; exact ⟨rfl, rfl⟩
  | succ n ih =>
    intro xs h
    match xs, h with
    | [], h => simp at h
    | [a], h => simp at h; omega
    | a :: b :: r, h =>
      obtain ⟨h1, h2⟩ := ih r (by simp at h; omega)
      simp only [pairUp, List.flatMap_cons, h1, List.length_cons, h2]
      exact ⟨rfl, trivial⟩
theorem askSeals_bys {s : Option (List Int)} (h : SBys s) : SBys (askSeals s).2 := by
  unfold askSeals
  split
  · exact trivial
  · exact asks_bys _ h.ask
theorem askSeals_len {s : Option (List Int)} (hB : SBys s) : (askSeals s).1.length ≤ 20 := by
  unfold askSeals
  have h0 := ask_bound hB
  split
  · simp
  · simp only
    rw [(pairs_pairUp _ _ (asks_len _ _)).2]
    have := h0.1
    omega
theorem askSeals_back {s : Option (List Int)} {r : List Int} (hB : SBys s) (h : (askSeals s).2 = some r) : s = some (layAll (sealN (askSeals s).1) ++ r) ∧ (askSeals s).1.length ≤ 20 ∧ ∀ p ∈ (askSeals s).1, Num p.1 ∧ Num p.2 := by
  have hl := askSeals_len hB
  unfold askSeals at h hl ⊢
  split at h
  · cases h
  rename_i hle
  rw [if_neg hle] at hl ⊢
  simp only at h hl ⊢
  have h0 := ask_bound hB
  obtain ⟨h1, h2⟩ := asks_back _ hB.ask h
  obtain ⟨h3, h4⟩ := ask_back hB h1
  obtain ⟨e1, e2⟩ := pairs_pairUp _ _ (asks_len (2 * (ask s).1.toNat) (ask s).2)
  refine ⟨?_, hl, ?_⟩
  · unfold sealN
    rw [e1, e2, layAll_cons, List.append_assoc]
    have : (((ask s).1.toNat : Nat) : Int) = (ask s).1 := by have := h0.1; omega
    rw [this]
    exact h3
  · intro p hp
    have hm : ∀ z ∈ [p.1, p.2], z ∈ (asks (2 * (ask s).1.toNat) (ask s).2).1 := by
      intro z hz
      rw [← e1]
      exact List.mem_flatMap.2 ⟨p, hp, hz⟩
    exact ⟨h2 _ (hm _ (by simp)), h2 _ (hm _ (by simp))⟩
theorem askSeals_lay {ps : List (Int × Int)} (hl : ps.length ≤ 20) (h : ∀ p ∈ ps, Num p.1 ∧ Num p.2) (r : List Int) : askSeals (some (layAll (sealN ps) ++ r)) = (ps, some r) := by
  have hn := sealN_num hl h
  unfold sealN at hn ⊢
  unfold askSeals
  rw [layAll_cons, List.append_assoc, ask_lay (hn _ (by simp))]
  have hlen : (ps.flatMap fun p => [p.1, p.2]).length = 2 * ps.length := by
    have := sealN_len ps
    unfold sealN at this
    rw [List.length_cons] at this
    omega
  have e : 2 * ((ps.length : Int)).toNat = (ps.flatMap fun p => [p.1, p.2]).length := by rw [hlen]; simp
  simp only
  rw [if_neg (by omega), e, asks_lay _ r (fun z hz => hn z (by simp [hz]))]
  simp only [pairUp_pairs]

/-- A note that is read: its numbers, its lists, and what is left. -/
def rdNote (bs : List Int) : List Int × List (Int × Int) × List (Int × Int) × Option (List Int) :=
  ((asks 14 (some bs)).1, (askSeals (asks 14 (some bs)).2).1, (askSeals (askSeals (asks 14 (some bs)).2).2).1, (askSeals (askSeals (asks 14 (some bs)).2).2).2)
/-- What is read whole is what was laid. -/
theorem rd_back {bs : List Int} (hB : Bys bs) (h : (rdNote bs).2.2.2 = some []) : bs = packN (rdNote bs).1 (rdNote bs).2.1 (rdNote bs).2.2.1 := by
  have b0 : SBys (some bs) := hB
  have b1 := asks_bys 14 b0
  have b2 := askSeals_bys b1
  obtain ⟨h1, _⟩ := askSeals_back b2 h
  obtain ⟨h2, _⟩ := askSeals_back b1 h1
  obtain ⟨h3, _⟩ := asks_back 14 b0 h2
  rw [List.append_nil] at h3
  exact Option.some.inj h3
theorem rd_lay {ns : List Int} {ps qs : List (Int × Int)} (hn : ns.length = 14) (h0 : ∀ z ∈ ns, Num z) (hp : ps.length ≤ 20) (hq : qs.length ≤ 20) (h1 : ∀ p ∈ ps, Num p.1 ∧ Num p.2) (h2 : ∀ p ∈ qs, Num p.1 ∧ Num p.2) : rdNote (packN ns ps qs) = (ns, ps, qs, some []) := by
  unfold rdNote packN
  have a := asks_lay ns (layAll (sealN ps) ++ layAll (sealN qs)) h0
  rw [hn] at a
  have c := askSeals_lay hq h2 []
  rw [List.append_nil] at c
  rw [a]
  simp only
  rw [askSeals_lay hp h1]
  simp only
  rw [c]

end Go.Proofs.YtgjbebfcbpfngaaDoor

/- The two ways to read a note's bytes are one: at once, and number by number; no conditions. -/
namespace Go.Proofs.YtgjbebfcbpfngaaDoor
open Go.RowKit

/-- Is a cursor at its end, with no fault? -/
def endB : Option (List Int) → Bool
  | some [] => true
  | _ => false
theorem endB_true {s : Option (List Int)} (h : endB s = true) : s = some [] := by
  match s, h with
  | some [], _ => rfl
/-- A note that is right, its numbers as a list. -/
def ntX (s l c sh : Int) (zs : List Int) (xs : List Int) (ps qs : List (Int × Int)) : Bool :=
  ntB s l c sh zs (nth xs 0) (nth xs 1) (nth xs 2) (nth xs 3) (nth xs 4) (nth xs 5) (nth xs 6) (nth xs 7) (nth xs 8) (nth xs 9) (nth xs 10) ps qs (nth xs 11) (nth xs 12) (nth xs 13)
/-- Are these the bytes of a note that is right? -/
def okR (s l c sh : Int) (zs bs : List Int) : Bool := endB (rdNote bs).2.2.2 && ntX s l c sh zs (rdNote bs).1 (rdNote bs).2.1 (rdNote bs).2.2.1

theorem lay_inj {x y : Int} {a b : List Int} (hx : Num x) (hy : Num y) (h : lay x ++ a = lay y ++ b) : x = y ∧ a = b := by
  have h1 := num_lay hx a
  rw [h, num_lay hy b] at h1
  simp only [Option.some.injEq, Prod.mk.injEq] at h1
  obtain ⟨rfl, _⟩ := h1
  exact ⟨rfl, List.append_cancel_left h⟩
theorem layAll_inj : ∀ {a b : List Int}, (∀ z ∈ a, Num z) → (∀ z ∈ b, Num z) → layAll a = layAll b → a = b := by
  intro a
  induction a with
  | nil =>
    intro b _ _ h
    cases b with
    | nil => rfl
    | cons y b => rw [layAll_cons, layAll_nil] at h; have := lay_pos y; have := congrArg List.length h; simp at this; omega
  | cons x a ih =>
    intro b ha hb h
    cases b with
    | nil => rw [layAll_cons, layAll_nil] at h; have := lay_pos x; have := congrArg List.length h; rw [List.length_append, List.length_nil] at this; omega
    | cons y b =>
      rw [layAll_cons, layAll_cons] at h
      obtain ⟨rfl, h'⟩ := lay_inj (ha x (by simp)) (hb y (by simp)) h
      rw [ih (fun z hz => ha z (by simp [hz])) (fun z hz => hb z (by simp [hz])) h']
theorem lay_no : ∀ {l L : List Int} {r : List Int}, (∀ z ∈ l, Num z) → (∀ z ∈ L, Num z) → r ≠ [] → num r = none → layAll l ++ r ≠ layAll L := by
  intro l
  induction l with
  | nil =>
    intro L r _ hL hr hn h
    cases L with
    | nil => exact hr (by simpa [layAll] using h)
    | cons y L =>
      rw [layAll_nil, List.nil_append, layAll_cons] at h
      rw [h, num_lay (hL y (by simp))] at hn
      cases hn
  | cons x l ih =>
    intro L r hl hL hr hn h
    rw [layAll_cons, List.append_assoc] at h
    cases L with
    | nil => rw [layAll_nil] at h; have := lay_pos x; have := congrArg List.length h; rw [List.length_append, List.length_nil] at this; omega
    | cons y L =>
      rw [layAll_cons] at h
      obtain ⟨_, h'⟩ := lay_inj (hl x (by simp)) (hL y (by simp)) h
      exact ih (fun z hz => hl z (by simp [hz])) (fun z hz => hL z (by simp [hz])) hr hn h'

/-- What is read whole: its numbers. -/
theorem rd_whole {bs : List Int} (hB : Bys bs) (h : (rdNote bs).2.2.2 = some []) :
    bs = layAll ((rdNote bs).1 ++ sealN (rdNote bs).2.1 ++ sealN (rdNote bs).2.2.1) ∧ (∀ z ∈ (rdNote bs).1 ++ sealN (rdNote bs).2.1 ++ sealN (rdNote bs).2.2.1, Num z) ∧ ((rdNote bs).1 ++ sealN (rdNote bs).2.1 ++ sealN (rdNote bs).2.2.1).length ≤ 96 := by
  have b0 : SBys (some bs) := hB
  have b1 := asks_bys 14 b0
  have b2 := askSeals_bys b1
  obtain ⟨h1, l1, n1⟩ := askSeals_back b2 h
  obtain ⟨h2, l2, n2⟩ := askSeals_back b1 h1
  obtain ⟨h3, n3⟩ := asks_back 14 b0 h2
  have hl : (rdNote bs).1.length = 14 := asks_len _ _
  refine ⟨?_, ?_, ?_⟩
  · have e := rd_back hB h
    rw [layAll_app, layAll_app, List.append_assoc]
    exact e
  · intro z hz
    rcases List.mem_append.1 hz with hz | hz
    · rcases List.mem_append.1 hz with hz | hz
      · exact n3 z hz
      · exact sealN_num l2 n2 z hz
    · exact sealN_num l1 n1 z hz
  · rw [List.length_append, List.length_append, sealN_len, sealN_len, hl]
    have : (rdNote bs).2.1.length ≤ 20 := l2
    have : (rdNote bs).2.2.1.length ≤ 20 := l1
    omega
theorem okR_end {s l c sh : Int} {zs bs : List Int} (h : okR s l c sh zs bs = true) : (rdNote bs).2.2.2 = some [] := by
  simp only [okR, Bool.and_eq_true] at h
  exact endB_true h.1
theorem okR_len {s l c sh : Int} {zs bs : List Int} (hB : Bys bs) (h : okR s l c sh zs bs = true) : bs.length ≤ 500 := by
  obtain ⟨h1, h2, h3⟩ := rd_whole hB (okR_end h)
  have h4 := layAll_len h2
  rw [← h1] at h4
  omega
theorem okR_bad {s l c sh : Int} {zs bs : List Int} {ls r : List Int} (hB : Bys bs) (hl : ∀ z ∈ ls, Num z) (hr : r ≠ []) (hn : num r = none) (h : bs = layAll ls ++ r) : okR s l c sh zs bs = false := by
  cases e : okR s l c sh zs bs with
  | false => rfl
  | true =>
    obtain ⟨h1, h2, _⟩ := rd_whole hB (okR_end e)
    exact absurd (h.symm.trans h1) (lay_no hl h2 hr hn)

theorem asks_none (n : Nat) : (asks n none).2 = none := by
  induction n with
  | zero => rfl
  | succ n ih => exact ih
theorem asks_over {xs : List Int} {n : Nat} (h : ∀ z ∈ xs, Num z) (hn : xs.length < n) : (asks n (some (layAll xs))).2 = none := by
  obtain ⟨k, rfl⟩ : ∃ k, n = xs.length + (k + 1) := ⟨n - xs.length - 1, by omega⟩
  have h1 := asks_lay xs [] h
  rw [List.append_nil] at h1
  rw [asks_add, h1]
  show (asks k (ask (some [])).2).2 = none
  rw [ask_no (by rfl)]
  exact asks_none k
theorem asks_take {xs : List Int} {n : Nat} (h : ∀ z ∈ xs, Num z) (hn : n ≤ xs.length) : asks n (some (layAll xs)) = (xs.take n, some (layAll (xs.drop n))) := by
  have h1 := asks_lay (xs.take n) (layAll (xs.drop n)) (fun z hz => h z (List.mem_of_mem_take hz))
  rw [← layAll_app, List.take_append_drop, List.length_take, Nat.min_eq_left hn] at h1
  exact h1
theorem drop_num {ls : List Int} (h : ∀ z ∈ ls, Num z) (q : Nat) : ∀ z ∈ ls.drop q, Num z := fun z hz => h z (List.mem_of_mem_drop hz)
theorem ask_at {ls : List Int} {q : Nat} (h : ∀ z ∈ ls, Num z) (hq : q < ls.length) : ask (some (layAll (ls.drop q))) = (nth ls q, some (layAll (ls.drop (q + 1)))) := by
  have e : ls.drop q = nth ls q :: ls.drop (q + 1) := by rw [nth_lt hq]; exact List.drop_eq_getElem_cons hq
  rw [e, layAll_cons]
  exact ask_lay (by rw [nth_lt hq]; exact h _ (List.getElem_mem _)) _
/-- Seals at a place that is right. -/
theorem seals_good {ls : List Int} {q m : Nat} (h : ∀ z ∈ ls, Num z) (hq : q < ls.length) (hm : nth ls q = (m : Int)) (hm20 : m ≤ 20) (hmn : q + 1 + 2 * m ≤ ls.length) :
    askSeals (some (layAll (ls.drop q))) = (pairUp ((ls.drop (q + 1)).take (2 * m)), some (layAll (ls.drop (q + 1 + 2 * m)))) := by
  unfold askSeals
  rw [ask_at h hq, hm]
  simp only [Int.toNat_natCast]
  rw [if_neg (by omega), asks_take (drop_num h (q + 1)) (by rw [List.length_drop]; omega), List.drop_drop]
theorem seals_bad {ls : List Int} {q : Nat} (h : ∀ z ∈ ls, Num z) (hbad : ls.length ≤ q ∨ (q < ls.length ∧ (20 < nth ls q ∨ (ls.length : Int) - q - 1 < 2 * nth ls q))) :
    (askSeals (some (layAll (ls.drop q)))).2 = none := by
  rcases hbad with hb | ⟨hq, hb⟩
  · rw [List.drop_eq_nil_of_le hb]
    rfl
  · have hn := (h (nth ls q) (by rw [nth_lt hq]; exact List.getElem_mem _)).1
    unfold askSeals
    rw [ask_at h hq]
    simp only
    by_cases h20 : 20 < nth ls q
    · rw [if_pos h20]
    · rw [if_neg h20]
      simp only
      exact asks_over (drop_num h (q + 1)) (by rw [List.length_drop]; omega)
theorem askSeals_none : askSeals none = ([], none) := by simp [askSeals, ask, asks, pairUp]
theorem end_at {ls : List Int} {q : Nat} (hq : q ≤ ls.length) : endB (some (layAll (ls.drop q))) = decide (q = ls.length) := by
  by_cases e : q = ls.length
  · subst e; rw [List.drop_length]; simp [layAll, endB]
  · have e2 : ls.drop q = nth ls q :: ls.drop (q + 1) := by rw [nth_lt (by omega)]; exact List.drop_eq_getElem_cons (by omega)
    rw [e2, layAll_cons]
    have hp := lay_pos (nth ls q)
    cases h : lay (nth ls q) with
    | nil => rw [h] at hp; simp at hp
    | cons z r => simp [endB, e]
/-- Fewer numbers than a note has. -/
theorem okR_few {s l c sh : Int} {zs ls : List Int} (h : ∀ z ∈ ls, Num z) (hn : ls.length < 14) : okR s l c sh zs (layAll ls) = false := by
  have e : (rdNote (layAll ls)).2.2.2 = none := by
    unfold rdNote
    rw [asks_over h hn, askSeals_none, askSeals_none]
  simp [okR, e, endB]
/-- The first list is none. -/
theorem okR_first {s l c sh : Int} {zs ls : List Int} (h : ∀ z ∈ ls, Num z) (hn : 14 ≤ ls.length) (hbad : ls.length ≤ 14 ∨ (14 < ls.length ∧ (20 < nth ls 14 ∨ (ls.length : Int) - 14 - 1 < 2 * nth ls 14))) : okR s l c sh zs (layAll ls) = false := by
  have e : (rdNote (layAll ls)).2.2.2 = none := by
    unfold rdNote
    rw [asks_take h hn]
    simp only
    rw [seals_bad h hbad, askSeals_none]
  simp [okR, e, endB]
/-- The second list is none. -/
theorem okR_second {s l c sh : Int} {zs ls : List Int} {m : Nat} (h : ∀ z ∈ ls, Num z) (hq : 14 < ls.length) (hm : nth ls 14 = (m : Int)) (hm20 : m ≤ 20) (hmn : 14 + 1 + 2 * m ≤ ls.length)
    (hbad : ls.length ≤ 14 + 1 + 2 * m ∨ (14 + 1 + 2 * m < ls.length ∧ (20 < nth ls (14 + 1 + 2 * m) ∨ (ls.length : Int) - (14 + 1 + 2 * m : Nat) - 1 < 2 * nth ls (14 + 1 + 2 * m)))) : okR s l c sh zs (layAll ls) = false := by
  have e : (rdNote (layAll ls)).2.2.2 = none := by
    unfold rdNote
    rw [asks_take h (by omega)]
    simp only
    rw [seals_good h hq hm hm20 hmn]
    simp only
    exact seals_bad h hbad
  simp [okR, e, endB]
/-- Both lists are there. -/
theorem rd_both {ls : List Int} {m k : Nat} (h : ∀ z ∈ ls, Num z) (hq : 14 < ls.length) (hm : nth ls 14 = (m : Int)) (hm20 : m ≤ 20) (hmn : 14 + 1 + 2 * m ≤ ls.length)
    (hq2 : 14 + 1 + 2 * m < ls.length) (hk : nth ls (14 + 1 + 2 * m) = (k : Int)) (hk20 : k ≤ 20) (hkn : 14 + 1 + 2 * m + 1 + 2 * k ≤ ls.length) :
    rdNote (layAll ls) = (ls.take 14, pairUp ((ls.drop (14 + 1)).take (2 * m)), pairUp ((ls.drop (14 + 1 + 2 * m + 1)).take (2 * k)), some (layAll (ls.drop (14 + 1 + 2 * m + 1 + 2 * k)))) := by
  unfold rdNote
  rw [asks_take h (by omega)]
  simp only
  rw [seals_good h hq hm hm20 hmn]
  simp only
  rw [seals_good h hq2 hk hk20 hkn]

end Go.Proofs.YtgjbebfcbpfngaaDoor

/- What is laid whole, its last byte cut off, is no note: no conditions. -/
namespace Go.Proofs.YtgjbebfcbpfngaaDoor

/-- What was laid is read, whatever stands behind it. -/
theorem rd_lay_more {ns : List Int} {ps qs : List (Int × Int)} (r : List Int) (hn : ns.length = 14) (h0 : ∀ z ∈ ns, Num z) (hp : ps.length ≤ 20) (hq : qs.length ≤ 20) (h1 : ∀ p ∈ ps, Num p.1 ∧ Num p.2) (h2 : ∀ p ∈ qs, Num p.1 ∧ Num p.2) : rdNote (packN ns ps qs ++ r) = (ns, ps, qs, some r) := by
  unfold rdNote packN
  have a := asks_lay ns (layAll (sealN ps) ++ (layAll (sealN qs) ++ r)) h0
  rw [hn] at a
  rw [List.append_assoc, List.append_assoc, a]
  simp only
  rw [askSeals_lay hp h1]
  simp only
  rw [askSeals_lay hq h2]
/-- What is read whole is no more read whole when a byte is cut off. -/
theorem okR_cut {s l c sh : Int} {zs bs : List Int} (hB : Bys bs) (h : (rdNote bs).2.2.2 = some []) (hl : 0 < bs.length) : okR s l c sh zs (bs.take (bs.length - 1)) = false := by
  cases e : okR s l c sh zs (bs.take (bs.length - 1)) with
  | false => rfl
  | true =>
    have hC : Bys (bs.take (bs.length - 1)) := fun z hz => hB z (List.mem_of_mem_take hz)
    generalize hbc : bs.take (bs.length - 1) = bc at e hC
    have hz := okR_end e
    have b0 : SBys (some bc) := hC
    have b1 := asks_bys 14 b0
    have b2 := askSeals_bys b1
    obtain ⟨h1, l1, n1⟩ := askSeals_back b2 hz
    obtain ⟨h2, l2, n2⟩ := askSeals_back b1 h1
    obtain ⟨h3, n3⟩ := asks_back 14 b0 h2
    have hw := rd_back hC hz
    have hsp : bs = bc ++ bs.drop (bs.length - 1) := by rw [← hbc, List.take_append_drop]
    have hr : bs.drop (bs.length - 1) ≠ [] := by
      intro e0
      have := congrArg List.length e0
      simp at this
      omega
    have hrd := rd_lay_more (bs.drop (bs.length - 1)) (asks_len 14 (some bc)) n3 l2 l1 n2 n1
    have hw' : bc = packN (asks 14 (some bc)).1 (askSeals (asks 14 (some bc)).2).1 (askSeals (askSeals (asks 14 (some bc)).2).2).1 := hw
    rw [← hw', ← hsp] at hrd
    rw [hrd] at h
    exact absurd (Option.some.inj h) hr

end Go.Proofs.YtgjbebfcbpfngaaDoor
