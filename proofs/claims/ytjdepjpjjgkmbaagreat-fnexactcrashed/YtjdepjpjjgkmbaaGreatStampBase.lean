/- Words of chapter 2: what the functions of stamps compute, and slices of pairs of numbers; no conditions. -/
import Derived.Test.YtjdepjpjjgkmbaaGreatBase
namespace Go.Proofs.YtjdepjpjjgkmbaaGreat
open Go.RowKit

/-- A stamp that is right. -/
def stB (c k : Int) : Bool := if c = 0 then decide (k = 0) else inB c 1 100000 && inB k 0 15
theorem stB_zero (k : Int) : stB 0 k = decide (k = 0) := rfl
theorem stB_not {c : Int} (h : c ≠ 0) (k : Int) : stB c k = (inB c 1 100000 && inB k 0 15) := by simp [stB, h]
theorem stB_00 : stB 0 0 = true := rfl
theorem stB_bd {c k : Int} (h : stB c k = true) : 0 ≤ c ∧ c ≤ 100000 ∧ 0 ≤ k ∧ k ≤ 15 := by
  unfold stB at h
  split at h
  · have := of_decide_eq_true h; omega
  · rw [Bool.and_eq_true] at h
    have a := inB_true.1 h.1
    have b := inB_true.1 h.2
    omega
theorem stB_spec (c k : Int) : (inB c 0 100000 && inB k 0 15 && (decide (0 < c) || decide (k = 0))) = stB c k := by
  rw [Bool.eq_iff_iff]
  unfold stB
  split
  · subst_vars
    simp [inB]
    omega
  · simp [inB]
    omega

/-- Older, alike or newer. -/
def sgn (a b : Int) : Int := if a < b then -1 else if b < a then 1 else 0
theorem sgn_lt {a b : Int} (h : a < b) : sgn a b = -1 := by simp [sgn, h]
theorem sgn_gt {a b : Int} (h : b < a) : sgn a b = 1 := by simp [sgn, h]; omega
theorem sgn_eq (a : Int) : sgn a a = 0 := by simp [sgn]
theorem sgn_bd (a b : Int) : -1 ≤ sgn a b ∧ sgn a b ≤ 1 := by
  unfold sgn
  split
  · omega
  · split <;> omega

/-- The first that is not 0. -/
def orN (x y : Int) : Int := if x = 0 then y else x

/-- What CmpStamp answers. -/
def cmpN (a b c d : Int) : Int := if stB a b && stB c d then orN (sgn a c) (sgn b d) else 2
theorem cmpN_no1 {a b : Int} (h : stB a b = false) (c d : Int) : cmpN a b c d = 2 := by simp [cmpN, h]
theorem cmpN_no2 {c d : Int} (h : stB c d = false) (a b : Int) : cmpN a b c d = 2 := by simp [cmpN, h]
theorem cmpN_yes {a b c d : Int} (h : stB a b = true) (h' : stB c d = true) : cmpN a b c d = orN (sgn a c) (sgn b d) := by simp [cmpN, h, h']

/-- Is there a next stamp? -/
def nxB (c k x : Int) : Bool := stB c k && stB (c + 1) x
/-- What NextStamp answers. -/
def nxC (c k x : Int) : Int := if nxB c k x then c + 1 else 0
def nxK (c k x : Int) : Int := if nxB c k x then x else 0
/-- A stamp and a flag, as they are answered. -/
def nxV (c k x : Int) : Value := .tuple #[.agg #[.int .i64 (nxC c k x), .int .i64 (nxK c k x)], .bool (nxB c k x)]
theorem nxV_no {c k x : Int} (h : nxB c k x = false) : nxV c k x = .tuple #[.agg #[.int .i64 0, .int .i64 0], .bool false] := by simp [nxV, nxC, nxK, h]
theorem nxV_yes {c k x : Int} (h : nxB c k x = true) : nxV c k x = .tuple #[.agg #[.int .i64 (c + 1), .int .i64 x], .bool true] := by simp [nxV, nxC, nxK, h]
theorem nxB_1 {c k : Int} (h : stB c k = false) (x : Int) : nxB c k x = false := by simp [nxB, h]
theorem nxB_2 {c x : Int} (h : stB (c + 1) x = false) (k : Int) : nxB c k x = false := by simp [nxB, h]
theorem nxB_3 {c k x : Int} (h : stB c k = true) (h' : stB (c + 1) x = true) : nxB c k x = true := by simp [nxB, h, h']

/-- Two stamps are not right, or one is older, or they are one, or one is newer: and the other way round. -/
theorem cmp_cases (a b c d : Int) : cmpN a b c d = 2 ∨ (cmpN a b c d = -1 ∧ cmpN c d a b = 1 ∧ (a ≠ c ∨ b ≠ d)) ∨ (cmpN a b c d = 0 ∧ a = c ∧ b = d) ∨ (cmpN a b c d = 1 ∧ cmpN c d a b = -1 ∧ (a ≠ c ∨ b ≠ d)) := by
  rcases h1 : stB a b with _ | _
  · exact .inl (cmpN_no1 h1 c d)
  rcases h2 : stB c d with _ | _
  · exact .inl (cmpN_no2 h2 a b)
  right
  rw [cmpN_yes h1 h2, cmpN_yes h2 h1]
  unfold orN
  rcases Int.lt_trichotomy a c with h | h | h
  · rw [sgn_lt h, sgn_gt h]
    exact .inl ⟨rfl, rfl, .inl (by omega)⟩
  · subst h
    rw [sgn_eq]
    rcases Int.lt_trichotomy b d with k | k | k
    · rw [sgn_lt k, sgn_gt k]
      exact .inl ⟨rfl, rfl, .inr (by omega)⟩
    · subst k
      rw [sgn_eq]
      exact .inr (.inl ⟨rfl, rfl, rfl⟩)
    · rw [sgn_lt k, sgn_gt k]
      exact .inr (.inr ⟨rfl, rfl, .inr (by omega)⟩)
  · rw [sgn_lt h, sgn_gt h]
    exact .inr (.inr ⟨rfl, rfl, .inl (by omega)⟩)
theorem cmp_next {c k x : Int} (h : nxB c k x = true) : cmpN c k (c + 1) x = -1 := by
  simp only [nxB, Bool.and_eq_true] at h
  rw [cmpN_yes h.1 h.2, sgn_lt (by omega)]
  rfl

/-- The newer one of two. -/
def pickP (b p : Int × Int) : Int × Int := if cmpN p.1 p.2 b.1 b.2 = 1 then p else b
/-- What NewestOf answers. -/
def bestP (ps : List (Int × Int)) : Int × Int := ps.foldl pickP (0, 0)

/-- The pair at place i. -/
def pth (ps : List (Int × Int)) (i : Nat) : Int × Int := ps.getD i (0, 0)
theorem pth_lt {ps : List (Int × Int)} {i : Nat} (h : i < ps.length) : pth ps i = ps[i] := by simp [pth, h]
theorem best_snoc {ps : List (Int × Int)} {k : Nat} (h : k < ps.length) : bestP (ps.take (k + 1)) = pickP (bestP (ps.take k)) (pth ps k) := by
  rw [List.take_succ_eq_append_getElem h, pth_lt h]
  unfold bestP
  rw [List.foldl_append]
  rfl

/-- The slice of n pairs of int64 at A holds ps, in blocks below B. -/
def Pairs (w : World) (B : Nat) (A : Option Addr) (n : Nat) (ps : List (Int × Int)) : Prop :=
  ps.length = n ∧ (0 < n → ∃ b o, A = some ⟨b, o, none⟩ ∧ b < B ∧ ∀ i, i < n → w.cell? ⟨b, o + i * 2, none⟩ = some (.int .i64 (pth ps i).1) ∧ w.cell? ⟨b, o + i * 2 + 1, none⟩ = some (.int .i64 (pth ps i).2))
theorem Pairs.keep {w w' : World} {B : Nat} {A : Option Addr} {n : Nat} {ps : List (Int × Int)} (h : Pairs w B A n ps) (hk : ∀ p : Addr, p.block < B → w'.cell? p = w.cell? p) : Pairs w' B A n ps := by
  refine ⟨h.1, fun hn => ?_⟩
  obtain ⟨b, o, hA, hb, hc⟩ := h.2 hn
  exact ⟨b, o, hA, hb, fun i hi => ⟨(hk ⟨b, o + i * 2, none⟩ hb).trans (hc i hi).1, (hk ⟨b, o + i * 2 + 1, none⟩ hb).trans (hc i hi).2⟩⟩
theorem Pairs.below {w w' : World} {B C : Nat} {A : Option Addr} {n : Nat} {ps : List (Int × Int)} (h : Pairs w B A n ps) (hb : Below C w w') (hBC : B ≤ C) : Pairs w' B A n ps :=
  h.keep fun _ hp => hb.cell (Nat.lt_of_lt_of_le hp hBC)
theorem Pairs.more {w : World} {B C : Nat} {A : Option Addr} {n : Nat} {ps : List (Int × Int)} (h : Pairs w B A n ps) (hBC : B ≤ C) : Pairs w C A n ps := by
  refine ⟨h.1, fun hn => ?_⟩
  obtain ⟨b, o, hA, hb, hc⟩ := h.2 hn
  exact ⟨b, o, hA, by omega, hc⟩
theorem Pairs.later {w w' : World} {A : Option Addr} {n : Nat} {ps : List (Int × Int)} (h : Pairs w w.heap.size A n ps) (hb : Below w.heap.size w w') : Pairs w' w'.heap.size A n ps :=
  (h.below hb (Nat.le_refl _)).more hb.size

theorem Box.two {w : World} {g : Nat} {t : TypeId} {v0 v1 : Value} (h : Box w g t #[v0, v1]) : w.cell? ⟨g, 0, none⟩ = some v0 ∧ w.cell? ⟨g, 1, none⟩ = some v1 := ⟨h.cell 0, h.cell 1⟩

end Go.Proofs.YtjdepjpjjgkmbaaGreat

/- Words of chapter 3: what the functions of claims and seals compute; no conditions. -/
namespace Go.Proofs.YtjdepjpjjgkmbaaGreat
open Go.RowKit

/-- A claim that is right. -/
def clB (ck ch ct cq cv : Int) : Bool := inB ck 1 2 && inB ch 0 3 && stB ct cq && inB cv 0 9999
theorem clB_1 {ck : Int} (h : inB ck 1 2 = false) (ch ct cq cv : Int) : clB ck ch ct cq cv = false := by simp [clB, h]
theorem clB_2 {ch : Int} (h : inB ch 0 3 = false) (ck ct cq cv : Int) : clB ck ch ct cq cv = false := by simp [clB, h]
theorem clB_3 {ct cq : Int} (h : stB ct cq = false) (ck ch cv : Int) : clB ck ch ct cq cv = false := by simp [clB, h]
theorem clB_4 {ck ch ct cq : Int} (h1 : inB ck 1 2 = true) (h2 : inB ch 0 3 = true) (h3 : stB ct cq = true) (cv : Int) : clB ck ch ct cq cv = inB cv 0 9999 := by simp [clB, h1, h2, h3]
theorem clB_bd {ck ch ct cq cv : Int} (h : clB ck ch ct cq cv = true) : (1 ≤ ck ∧ ck ≤ 2) ∧ (0 ≤ ch ∧ ch ≤ 3) ∧ (0 ≤ ct ∧ ct ≤ 100000 ∧ 0 ≤ cq ∧ cq ≤ 15) ∧ 0 ≤ cv ∧ cv ≤ 9999 := by
  simp only [clB, Bool.and_eq_true] at h
  exact ⟨inB_true.1 h.1.1.1, inB_true.1 h.1.1.2, stB_bd h.1.2, inB_true.1 h.2⟩

/-- One number is mixed in. -/
def mix1 (x z : Int) : Int := (48271 * x + z + 1) % 2147483647
/-- Numbers are mixed in, in order. -/
def mixN (x : Int) (zs : List Int) : Int := zs.foldl mix1 x
theorem mix1_bd (x z : Int) : 0 ≤ mix1 x z ∧ mix1 x z ≤ 2147483646 := by unfold mix1; omega
theorem mix1_tmod {x z : Int} (hx : 0 ≤ x) (hz : 0 ≤ z) : Int.tmod (48271 * x + z + 1) 2147483647 = mix1 x z := Int.tmod_eq_emod_of_nonneg (by omega)
theorem mixN_bd : ∀ (zs : List Int) (x : Int), 0 ≤ x → x ≤ 2147483646 → 0 ≤ mixN x zs ∧ mixN x zs ≤ 2147483646
  | [], _, h0, h1 => ⟨h0, h1⟩
  | z :: zs, x, _, _ => mixN_bd zs (mix1 x z) (mix1_bd x z).1 (mix1_bd x z).2
theorem mixN_snoc {zs : List Int} {k : Nat} (h : k < zs.length) (x : Int) : mixN x (zs.take (k + 1)) = mix1 (mixN x (zs.take k)) (nth zs k) := by
  rw [List.take_succ_eq_append_getElem h, nth_lt h]
  unfold mixN
  rw [List.foldl_append]
  rfl
/-- Numbers that can be mixed. -/
def mixable (zs : List Int) : Prop := ∀ i, i < zs.length → 0 ≤ nth zs i ∧ nth zs i ≤ 2147483646
theorem mixable_3 {a b c : Int} (ha : 0 ≤ a ∧ a ≤ 2147483646) (hb : 0 ≤ b ∧ b ≤ 2147483646) (hc : 0 ≤ c ∧ c ≤ 2147483646) : mixable [a, b, c] := fun i hi => by
  have : i = 0 ∨ i = 1 ∨ i = 2 := by simp at hi; omega
  rcases this with rfl | rfl | rfl
  · exact ha
  · exact hb
  · exact hc
theorem mixable_5 {a b c d e : Int} (ha : 0 ≤ a ∧ a ≤ 2147483646) (hb : 0 ≤ b ∧ b ≤ 2147483646) (hc : 0 ≤ c ∧ c ≤ 2147483646) (hd : 0 ≤ d ∧ d ≤ 2147483646) (he : 0 ≤ e ∧ e ≤ 2147483646) : mixable [a, b, c, d, e] := fun i hi => by
  have : i = 0 ∨ i = 1 ∨ i = 2 ∨ i = 3 ∨ i = 4 := by simp at hi; omega
  rcases this with rfl | rfl | rfl | rfl | rfl
  · exact ha
  · exact hb
  · exact hc
  · exact hd
  · exact he

/-- What DigestOf answers. -/
def digN (ck ch ct cq cv : Int) : Int := if clB ck ch ct cq cv then mixN 7 [ck, ch, ct, cq, cv] else -1
theorem digN_no {ck ch ct cq cv : Int} (h : clB ck ch ct cq cv = false) : digN ck ch ct cq cv = -1 := by simp [digN, h]
theorem digN_yes {ck ch ct cq cv : Int} (h : clB ck ch ct cq cv = true) : digN ck ch ct cq cv = mixN 7 [ck, ch, ct, cq, cv] := by simp [digN, h]
theorem digN_bd {ck ch ct cq cv : Int} (h : clB ck ch ct cq cv = true) : 0 ≤ digN ck ch ct cq cv ∧ digN ck ch ct cq cv ≤ 2147483646 := by
  rw [digN_yes h]; exact mixN_bd _ _ (by omega) (by omega)
theorem mixable_claim {ck ch ct cq cv : Int} (h : clB ck ch ct cq cv = true) : mixable [ck, ch, ct, cq, cv] := by
  have := clB_bd h
  exact mixable_5 (by omega) (by omega) (by omega) (by omega) (by omega)

/-- Is there a seal? -/
def seB (s l c sh : Int) (zs : List Int) (ck ch ct cq cv x : Int) : Bool := clB ck ch ct cq cv && srvB s l c sh zs x
/-- A seal's tag. -/
def tagN (zs : List Int) (ck ch ct cq cv x : Int) : Int := mixN 7 [nth zs x.toNat, digN ck ch ct cq cv, x]
/-- A seal and a flag, as they are answered. -/
def seV (s l c sh : Int) (zs : List Int) (ck ch ct cq cv x : Int) : Value :=
  if seB s l c sh zs ck ch ct cq cv x then .tuple #[.agg #[.int .i64 x, .int .i64 (tagN zs ck ch ct cq cv x)], .bool true] else .tuple #[.agg #[.int .i64 0, .int .i64 0], .bool false]
theorem seB_1 {ck ch ct cq cv : Int} (h : clB ck ch ct cq cv = false) (s l c sh : Int) (zs : List Int) (x : Int) : seB s l c sh zs ck ch ct cq cv x = false := by simp [seB, h]
theorem seB_2 {s l c sh : Int} {zs : List Int} {x : Int} (h : srvB s l c sh zs x = false) (ck ch ct cq cv : Int) : seB s l c sh zs ck ch ct cq cv x = false := by simp [seB, h]
theorem seB_3 {s l c sh ck ch ct cq cv : Int} {zs : List Int} {x : Int} (h1 : clB ck ch ct cq cv = true) (h : srvB s l c sh zs x = true) : seB s l c sh zs ck ch ct cq cv x = true := by simp [seB, h, h1]
theorem seV_no {s l c sh ck ch ct cq cv : Int} {zs : List Int} {x : Int} (h : seB s l c sh zs ck ch ct cq cv x = false) : seV s l c sh zs ck ch ct cq cv x = .tuple #[.agg #[.int .i64 0, .int .i64 0], .bool false] := by simp [seV, h]
theorem seV_yes {s l c sh ck ch ct cq cv : Int} {zs : List Int} {x : Int} (h : seB s l c sh zs ck ch ct cq cv x = true) : seV s l c sh zs ck ch ct cq cv x = .tuple #[.agg #[.int .i64 x, .int .i64 (tagN zs ck ch ct cq cv x)], .bool true] := by simp [seV, h]
theorem seB_parts {s l c sh ck ch ct cq cv : Int} {zs : List Int} {x : Int} (h : seB s l c sh zs ck ch ct cq cv x = true) : clB ck ch ct cq cv = true ∧ srvB s l c sh zs x = true := by simpa [seB] using h

/-- What a server's number says of its key. -/
theorem srvB_key {s l c sh : Int} {zs : List Int} {x : Int} (h : srvB s l c sh zs x = true) : 0 ≤ x ∧ x ≤ 9 ∧ x.toNat < zs.length ∧ 1 ≤ nth zs x.toNat ∧ nth zs x.toNat ≤ 1000000 := by
  simp only [srvB, Bool.and_eq_true] at h
  have hb := okB_parts h.1
  have hx := inB_true.1 h.2
  have hk := h.1
  simp only [okB, Bool.and_eq_true, decide_eq_true_eq] at hk
  have hl := hk.1.2
  have hlt : x.toNat < zs.length := by omega
  have ha := hk.2
  unfold keysB at ha
  rw [List.all_eq_true] at ha
  have := inB_true.1 (ha _ (List.getElem_mem hlt))
  rw [nth_lt hlt]
  exact ⟨hx.1, by omega, hlt, this.1, this.2⟩
theorem mixable_seal {s l c sh ck ch ct cq cv : Int} {zs : List Int} {x : Int} (h1 : clB ck ch ct cq cv = true) (h2 : srvB s l c sh zs x = true) : mixable [nth zs x.toNat, digN ck ch ct cq cv, x] := by
  have a := srvB_key h2
  exact mixable_3 (by omega) (digN_bd h1) (by omega)
theorem tagN_bd (zs : List Int) (ck ch ct cq cv x : Int) : 0 ≤ tagN zs ck ch ct cq cv x ∧ tagN zs ck ch ct cq cv x ≤ 2147483646 := mixN_bd _ _ (by omega) (by omega)

/-- What SealRight answers. -/
def riB (s l c sh : Int) (zs : List Int) (ck ch ct cq cv x t : Int) : Bool := seB s l c sh zs ck ch ct cq cv x && decide (t = tagN zs ck ch ct cq cv x)
theorem riB_no {s l c sh ck ch ct cq cv : Int} {zs : List Int} {x : Int} (h : seB s l c sh zs ck ch ct cq cv x = false) (t : Int) : riB s l c sh zs ck ch ct cq cv x t = false := by simp [riB, h]
theorem riB_yes {s l c sh ck ch ct cq cv : Int} {zs : List Int} {x : Int} (h : seB s l c sh zs ck ch ct cq cv x = true) (t : Int) : riB s l c sh zs ck ch ct cq cv x t = decide (t = tagN zs ck ch ct cq cv x) := by simp [riB, h]

end Go.Proofs.YtjdepjpjjgkmbaaGreat

/- Words of chapter 4: lists of pairs in order of their first numbers, lists that are alike for each first number, putting and joining, keeping the first of each; no conditions. -/
namespace Go.Proofs.YtjdepjpjjgkmbaaGreat
open Go.RowKit

/-- In order of the first numbers. -/
def Srt (l : List (Int × Int)) : Prop := l.Pairwise fun p q => p.1 ≤ q.1
/-- In order, none twice. -/
def SSrt (l : List (Int × Int)) : Prop := l.Pairwise fun p q => p.1 < q.1
/-- Those of one first number. -/
def of (k : Int) (l : List (Int × Int)) : List (Int × Int) := l.filter fun p => p.1 == k
/-- For each first number the same ones, in the same order. -/
def Same (a b : List (Int × Int)) : Prop := ∀ k, of k a = of k b

theorem of_nil (k : Int) : of k [] = [] := rfl
theorem of_app (k : Int) (a b : List (Int × Int)) : of k (a ++ b) = of k a ++ of k b := by simp [of]
theorem of_cons (k : Int) (x : Int × Int) (l : List (Int × Int)) : of k (x :: l) = if x.1 = k then x :: of k l else of k l := by
  unfold of
  by_cases h : x.1 = k <;> simp [h]
theorem of_none {k : Int} {l : List (Int × Int)} (h : ∀ p ∈ l, p.1 ≠ k) : of k l = [] := by
  unfold of
  rw [List.filter_eq_nil_iff]
  intro p hp
  simpa using h p hp
theorem mem_of {k : Int} {l : List (Int × Int)} {p : Int × Int} : p ∈ of k l ↔ p ∈ l ∧ p.1 = k := by simp [of]
theorem Same.refl (a : List (Int × Int)) : Same a a := fun _ => rfl
theorem Same.symm {a b : List (Int × Int)} (h : Same a b) : Same b a := fun k => (h k).symm
theorem Same.trans {a b c : List (Int × Int)} (h : Same a b) (h' : Same b c) : Same a c := fun k => (h k).trans (h' k)
theorem Same.app {a b c d : List (Int × Int)} (h : Same a b) (h' : Same c d) : Same (a ++ c) (b ++ d) := fun k => by rw [of_app, of_app, h k, h' k]
theorem Same.mem {a b : List (Int × Int)} (h : Same a b) {p : Int × Int} : p ∈ a ↔ p ∈ b := by
  have := h p.1
  constructor
  · intro hp
    have : p ∈ of p.1 b := by rw [← this]; exact mem_of.2 ⟨hp, rfl⟩
    exact (mem_of.1 this).1
  · intro hp
    have : p ∈ of p.1 a := by rw [this]; exact mem_of.2 ⟨hp, rfl⟩
    exact (mem_of.1 this).1
/-- Two parts with no first number in common change places. -/
theorem Same.swap {a b : List (Int × Int)} (h : ∀ p ∈ a, ∀ q ∈ b, p.1 ≠ q.1) : Same (b ++ a) (a ++ b) := fun k => by
  rw [of_app, of_app]
  by_cases hk : ∃ p ∈ a, p.1 = k
  · obtain ⟨p, hp, rfl⟩ := hk
    rw [of_none (l := b) (fun q hq e => h p hp q hq e.symm)]
    simp
  · rw [of_none (l := a) (fun q hq e => hk ⟨q, hq, e⟩)]
    simp

theorem rev_ind {P : List (Int × Int) → Prop} (h0 : P []) (h1 : ∀ l s, P l → P (l ++ [s])) (l : List (Int × Int)) : P l := by
  have : ∀ l : List (Int × Int), P l.reverse := by
    intro l
    induction l with
    | nil => exact h0
    | cons x l ih => rw [List.reverse_cons]; exact h1 _ _ ih
  have := this l.reverse
  rwa [List.reverse_reverse] at this

/-- Lists in order that are alike for each first number are one. -/
theorem same_eq : ∀ {a b : List (Int × Int)}, Srt a → Srt b → Same a b → a = b
  | [], [], _, _, _ => rfl
  | [], y :: b, _, _, h => by have := h y.1; simp [of] at this
  | x :: a, [], _, _, h => by have := h x.1; simp [of] at this
  | x :: a, y :: b, ha, hb, h => by
    have ha' := List.pairwise_cons.1 ha
    have hb' := List.pairwise_cons.1 hb
    have hxm : x ∈ y :: b := h.mem.1 (by simp)
    have hym : y ∈ x :: a := h.mem.2 (by simp)
    have h1 : y.1 ≤ x.1 := by
      rcases List.mem_cons.1 hxm with e | e
      · rw [e]; exact Int.le_refl _
      · exact hb'.1 x e
    have h2 : x.1 ≤ y.1 := by
      rcases List.mem_cons.1 hym with e | e
      · rw [e]; exact Int.le_refl _
      · exact ha'.1 y e
    have hk : y.1 = x.1 := Int.le_antisymm h1 h2
    have e := h x.1
    rw [of_cons, of_cons, if_pos rfl, if_pos hk] at e
    injection e with e1 e2
    subst e1
    rw [same_eq ha'.2 hb'.2 (fun k => by
      have := h k
      rw [of_cons, of_cons] at this
      by_cases hk : x.1 = k
      · simpa [hk] using this
      · simpa [hk] using this)]

/-- One more in order, ahead of the first larger one. -/
def ins : List (Int × Int) → Int × Int → List (Int × Int)
  | [], s => [s]
  | x :: l, s => if s.1 < x.1 then s :: x :: l else x :: ins l s
/-- Is there one of this first number? -/
def has (l : List (Int × Int)) (k : Int) : Bool := l.any fun p => p.1 == k
/-- One more, where there is none of its first number. -/
def put (l : List (Int × Int)) (s : Int × Int) : List (Int × Int) := if has l s.1 then l else ins l s
/-- All of them, one after the other. -/
def puts (l : List (Int × Int)) : List (Int × Int) := l.foldl put []
theorem puts_snoc (l : List (Int × Int)) (s : Int × Int) : puts (l ++ [s]) = put (puts l) s := by simp [puts]
theorem has_mem {l : List (Int × Int)} {k : Int} : has l k = true ↔ ∃ p ∈ l, p.1 = k := by simp [has]
theorem has_not {l : List (Int × Int)} {k : Int} : has l k = false ↔ ∀ p ∈ l, p.1 ≠ k := by simp [has]
theorem ins_mem {l : List (Int × Int)} {s p : Int × Int} : p ∈ ins l s ↔ p = s ∨ p ∈ l := by
  induction l with
  | nil => simp [ins]
  | cons x l ih =>
    unfold ins
    split
    · simp
    · simp only [List.mem_cons, ih]
      constructor <;> rintro (h | h | h) <;> simp [h]
theorem ins_len (l : List (Int × Int)) (s : Int × Int) : (ins l s).length = l.length + 1 := by
  induction l with
  | nil => rfl
  | cons x l ih => unfold ins; split <;> simp [ih]
theorem put_len (l : List (Int × Int)) (s : Int × Int) : (put l s).length = if has l s.1 then l.length else l.length + 1 := by
  unfold put
  split
  · rfl
  · exact ins_len l s
theorem put_le (l : List (Int × Int)) (s : Int × Int) : (put l s).length ≤ l.length + 1 ∧ l.length ≤ (put l s).length := by
  rw [put_len]
  split <;> omega
theorem puts_le (l : List (Int × Int)) : (puts l).length ≤ l.length := by
  refine rev_ind (P := fun l => (puts l).length ≤ l.length) (by simp [puts]) (fun l s ih => ?_) l
  · rw [puts_snoc]
    have := (put_le (puts l) s).1
    simp only [List.length_append, List.length_cons, List.length_nil]
    omega
theorem ins_srt {l : List (Int × Int)} {s : Int × Int} (h : SSrt l) (hn : ∀ p ∈ l, p.1 ≠ s.1) : SSrt (ins l s) := by
  induction l with
  | nil => simp [ins, SSrt]
  | cons x l ih =>
    have h' := List.pairwise_cons.1 h
    unfold ins
    split
    · rename_i hlt
      refine List.pairwise_cons.2 ⟨fun p hp => ?_, h⟩
      rcases List.mem_cons.1 hp with e | e
      · rw [e]; exact hlt
      · have := h'.1 p e; omega
    · rename_i hge
      have hx := hn x (by simp)
      refine List.pairwise_cons.2 ⟨fun p hp => ?_, ih h'.2 (fun p hp => hn p (by simp [hp]))⟩
      rcases ins_mem.1 hp with e | e
      · rw [e]; omega
      · exact h'.1 p e
theorem ins_of {l : List (Int × Int)} {s : Int × Int} (hn : ∀ p ∈ l, p.1 ≠ s.1) (k : Int) : of k (ins l s) = if s.1 = k then [s] else of k l := by
  induction l with
  | nil => rw [show ins [] s = [s] from rfl, of_cons]; simp [of_nil]
  | cons x l ih =>
    have hx := hn x (by simp)
    have ih := ih (fun p hp => hn p (by simp [hp]))
    unfold ins
    split
    · rw [of_cons]
      split
      · rename_i e
        rw [of_none (fun p hp => e ▸ hn p hp)]
      · rfl
    · rw [of_cons, of_cons, ih]
      by_cases e : s.1 = k
      · have hxk : x.1 ≠ k := by omega
        simp [e, hxk]
      · simp [e]
theorem put_srt {l : List (Int × Int)} (s : Int × Int) (h : SSrt l) : SSrt (put l s) := by
  unfold put
  split
  · exact h
  · rename_i e
    exact ins_srt h (has_not.1 (by simpa using e))
theorem ssrt_of {l : List (Int × Int)} (h : SSrt l) (k : Int) : (of k l).length ≤ 1 := by
  induction l with
  | nil => simp [of_nil]
  | cons x l ih =>
    have h' := List.pairwise_cons.1 h
    rw [of_cons]
    split
    · rename_i e
      rw [of_none (fun p hp => by have := h'.1 p hp; omega)]
      simp
    · exact ih h'.2
theorem put_of {l : List (Int × Int)} (s : Int × Int) (h : SSrt l) (k : Int) : of k (put l s) = (of k l ++ of k [s]).take 1 := by
  have hl := ssrt_of h k
  unfold put
  split
  · rename_i e
    obtain ⟨p, hp, hk⟩ := has_mem.1 e
    by_cases e : s.1 = k
    · have : p ∈ of k l := mem_of.2 ⟨hp, hk.trans e⟩
      match hm : of k l, hl with
      | [], _ => rw [hm] at this; simp at this
      | [q], _ => simp
    · rw [of_cons, if_neg e, of_nil, List.append_nil, List.take_of_length_le hl]
  · rename_i e
    have e := has_not.1 (by simpa using e : has l s.1 = false)
    rw [ins_of e k, of_cons, of_nil]
    by_cases f : s.1 = k
    · subst f
      rw [of_none e]
      simp
    · simp [f, List.take_of_length_le hl]
theorem puts_srt (l : List (Int × Int)) : SSrt (puts l) := by
  refine rev_ind (P := fun l => SSrt (puts l)) (by simp [puts, SSrt]) (fun l s ih => ?_) l
  rw [puts_snoc]
  exact put_srt s ih
theorem puts_of (l : List (Int × Int)) (k : Int) : of k (puts l) = (of k l).take 1 := by
  refine rev_ind (P := fun l => of k (puts l) = (of k l).take 1) (by simp [puts, of_nil]) (fun l s ih => ?_) l
  · rw [puts_snoc, put_of s (puts_srt l) k, ih, of_app]
    rcases of k l with _ | ⟨a, _⟩ <;> simp
theorem SSrt.srt {l : List (Int × Int)} (h : SSrt l) : Srt l := h.imp fun h => Int.le_of_lt h

/-- Those that differ from the one ahead of them. -/
def cfrom (k : Int) : List (Int × Int) → List (Int × Int)
  | [] => []
  | y :: l => if y.1 = k then cfrom y.1 l else y :: cfrom y.1 l
def cmpct : List (Int × Int) → List (Int × Int)
  | [] => []
  | x :: l => x :: cfrom x.1 l
theorem cfrom_le {k : Int} {l : List (Int × Int)} : ∀ p ∈ cfrom k l, p ∈ l := by
  induction l generalizing k with
  | nil => simp [cfrom]
  | cons y l ih =>
    unfold cfrom
    split
    · intro p hp; exact List.mem_cons_of_mem _ (ih p hp)
    · intro p hp
      rcases List.mem_cons.1 hp with e | e
      · simp [e]
      · exact List.mem_cons_of_mem _ (ih p e)
theorem cfrom_srt {k : Int} {l : List (Int × Int)} (h : Srt l) (hk : ∀ p ∈ l, k ≤ p.1) : SSrt (cfrom k l) ∧ ∀ p ∈ cfrom k l, k < p.1 := by
  induction l generalizing k with
  | nil => simp [cfrom, SSrt]
  | cons y l ih =>
    have h' := List.pairwise_cons.1 h
    have ih := ih (k := y.1) h'.2 h'.1
    unfold cfrom
    split
    · rename_i e
      exact ⟨ih.1, fun p hp => by have := ih.2 p hp; omega⟩
    · rename_i e
      have hky := hk y (by simp)
      refine ⟨List.pairwise_cons.2 ⟨ih.2, ih.1⟩, fun p hp => ?_⟩
      rcases List.mem_cons.1 hp with e | e
      · rw [e]; omega
      · have := ih.2 p e; omega
theorem cmpct_srt {l : List (Int × Int)} (h : Srt l) : SSrt (cmpct l) := by
  cases l with
  | nil => simp [cmpct, SSrt]
  | cons x l =>
    have h' := List.pairwise_cons.1 h
    have := cfrom_srt h'.2 h'.1
    exact List.pairwise_cons.2 ⟨this.2, this.1⟩
theorem cfrom_of {k : Int} {l : List (Int × Int)} (h : Srt l) (hk : ∀ p ∈ l, k ≤ p.1) (j : Int) : of j (cfrom k l) = if j = k then [] else (of j l).take 1 := by
  induction l generalizing k with
  | nil => simp [cfrom, of_nil]
  | cons y l ih =>
    have h' := List.pairwise_cons.1 h
    have ih := ih (k := y.1) h'.2 h'.1
    have hky := hk y (by simp)
    unfold cfrom
    split
    · rename_i e
      rw [ih, of_cons, e]
      by_cases f : j = k
      · simp [f]
      · simp [f, show ¬ k = j from fun h => f h.symm]
    · rename_i e
      rw [of_cons, of_cons, ih]
      by_cases f : y.1 = j
      · have : ¬ j = k := by omega
        simp [f, this]
      · have f' : ¬ j = y.1 := fun h => f h.symm
        simp only [f, f', if_false]
        split
        · rename_i g
          rw [of_none (fun p hp => by have := h'.1 p hp; omega)]
          rfl
        · rfl
theorem cmpct_of {l : List (Int × Int)} (h : Srt l) (j : Int) : of j (cmpct l) = (of j l).take 1 := by
  cases l with
  | nil => simp [cmpct, of_nil]
  | cons x l =>
    have h' := List.pairwise_cons.1 h
    unfold cmpct
    rw [of_cons, of_cons, cfrom_of h'.2 h'.1]
    by_cases f : x.1 = j
    · simp [f]
    · simp [f, show ¬ j = x.1 from fun h => f h.symm]
/-- What JoinSeals does is what its model does. -/
theorem cmpct_puts {s l : List (Int × Int)} (h : Srt s) (hs : Same s l) : cmpct s = puts l :=
  same_eq (cmpct_srt h).srt (puts_srt l).srt fun k => by rw [cmpct_of h, puts_of, hs k]
theorem cfrom_snoc (k : Int) (l : List (Int × Int)) (y : Int × Int) : cfrom k (l ++ [y]) = cfrom k l ++ if y.1 = (l.getLast?.map (·.1)).getD k then [] else [y] := by
  induction l generalizing k with
  | nil =>
    show (if y.1 = k then cfrom y.1 [] else y :: cfrom y.1 []) = [] ++ if y.1 = k then [] else [y]
    rw [List.nil_append]
    rfl
  | cons x l ih =>
    rw [List.cons_append]
    unfold cfrom
    rw [ih]
    have : (((x :: l).getLast?).map (·.1)).getD k = ((l.getLast?).map (·.1)).getD x.1 := by
      rcases l.eq_nil_or_concat with rfl | ⟨l', z, rfl⟩
      · rfl
      · rw [List.concat_eq_append, ← List.cons_append, List.getLast?_append, List.getLast?_append]
        rfl
    rw [this]
    by_cases e : x.1 = k
    · simp [e]
    · simp [e]
/-- One more at the end. -/
theorem cmpct_take {l : List (Int × Int)} {k : Nat} (h0 : 0 < k) (h : k < l.length) : cmpct (l.take (k + 1)) = cmpct (l.take k) ++ if (pth l k).1 = (pth l (k - 1)).1 then [] else [pth l k] := by
  rw [List.take_succ_eq_append_getElem h, pth_lt h, pth_lt (by omega : k - 1 < l.length)]
  match l, h with
  | x :: l, h =>
    obtain ⟨k, rfl⟩ : ∃ j, k = j + 1 := ⟨k - 1, by omega⟩
    simp only [List.take_succ_cons, List.cons_append, cmpct, cfrom_snoc]
    have hk : k < l.length := by simpa using h
    have : (((List.take k l).getLast?).map (·.1)).getD x.1 = ((x :: l)[k + 1 - 1]'(by simp; omega)).1 := by
      rcases k with _ | k
      · simp
      · simp [List.getLast?_take, show l[k]? = some l[k] from List.getElem?_eq_getElem (by omega)]
    rw [this]
theorem cmpct_len_le (l : List (Int × Int)) : (cmpct l).length ≤ l.length := by
  have : ∀ k, (cfrom k l).length ≤ l.length := by
    induction l with
    | nil => simp [cfrom]
    | cons y l ih => intro k; unfold cfrom; have := ih y.1; split <;> simp <;> omega
  cases l with
  | nil => simp [cmpct]
  | cons x l =>
    have h : ∀ (l : List (Int × Int)) k, (cfrom k l).length ≤ l.length := by
      intro l
      induction l with
      | nil => simp [cfrom]
      | cons y l ih => intro k; unfold cfrom; have := ih y.1; split <;> simp <;> omega
    simpa [cmpct] using h l x.1

/-- Two places exchanged. -/
def swp (d : List (Int × Int)) (i j : Nat) : List (Int × Int) := (d.set i (pth d j)).set j (pth d i)
theorem pth_app (P Q : List (Int × Int)) (x : Int × Int) : pth (P ++ x :: Q) P.length = x := by simp [pth]
theorem pth_at {d P Q : List (Int × Int)} {x : Int × Int} {i : Nat} (h : d = P ++ x :: Q) (hi : i = P.length) : pth d i = x := by subst h hi; exact pth_app P Q x
theorem swp_app (P Q R : List (Int × Int)) (x y : Int × Int) : swp (P ++ x :: (Q ++ y :: R)) P.length (P.length + 1 + Q.length) = P ++ y :: (Q ++ x :: R) := by
  unfold swp
  rw [pth_app, pth_at (P := P ++ x :: Q) (x := y) (Q := R) (by simp) (by simp; omega)]
  simp [List.set_append, show ¬ P.length + 1 + Q.length < P.length by omega, show P.length + 1 + Q.length - P.length = Q.length + 1 by omega]
theorem swp_at {d d' P Q R : List (Int × Int)} {x y : Int × Int} {i j : Nat} (h : d = P ++ x :: (Q ++ y :: R)) (hi : i = P.length) (hj : j = P.length + 1 + Q.length) (h' : d' = P ++ y :: (Q ++ x :: R)) : swp d i j = d' := by
  subst h hi hj h'
  exact swp_app P Q R x y
theorem swp_comm (d : List (Int × Int)) (i j : Nat) (h : i ≠ j) : swp d i j = swp d j i := by
  unfold swp
  exact List.set_comm _ _ h
theorem swp_len (d : List (Int × Int)) (i j : Nat) : (swp d i j).length = d.length := by simp [swp]
theorem pth_swp {d : List (Int × Int)} {i j k : Nat} (hi : i < d.length) (hj : j < d.length) : pth (swp d i j) k = if k = j then pth d i else if k = i then pth d j else pth d k := by
  unfold swp pth
  simp only [List.getD_eq_getElem?_getD]
  by_cases h1 : k = j
  · subst h1; simp [hj]
  · rw [List.getElem?_set_ne (by omega)]
    by_cases h2 : k = i
    · subst h2; simp [hi, h1]
    · rw [List.getElem?_set_ne (by omega)]
      simp [h1, h2]
theorem srt_at {l : List (Int × Int)} (h : Srt l) {i j : Nat} (hij : i ≤ j) (hj : j < l.length) : (pth l i).1 ≤ (pth l j).1 := by
  rw [pth_lt hj, pth_lt (by omega : i < l.length)]
  rcases Nat.lt_or_eq_of_le hij with h' | h'
  · exact List.pairwise_iff_getElem.1 h i j (by omega) hj h'
  · subst h'; exact Int.le_refl _

end Go.Proofs.YtjdepjpjjgkmbaaGreat
