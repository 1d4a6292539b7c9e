/- What the model's DrawRecOk leaves: a group that can be read and a record of one's own (written by drawrec9.py); conditions: the bytes can be read. -/
import Derived.Test.YtmooajppfjglaaaGreatWritten2
import Derived.Test.YtmooajppfjglaaaGreatRecOkD
import Derived.Test.YtmooajppfjglaaaGreatKinds9
import Derived.Test.YtmooajppfjglaaaGreatRecsBlock
import Derived.Deep.MidRow
import Derived.Test.YtmooajppfjglaaaGreatSpecReg1
import Derived.Deep.Slices
import Derived.Lib.AppendZerosOnto
import Derived.Laws.AppendOwnNone
import Derived.Test.YtmooajppfjglaaaGreatDraw9

/- What is replayed, as data: one record laid on its shelf, all of them, one after the other; how long it can get; no conditions. -/
namespace Go.Proofs.YtmooajppfjglaaaGreat
open Go Go.RowKit

def zeroR : RegD := ⟨0, 0, 0, [], []⟩
/-- A shelf with a record done to it. -/
def ontoD (g : GrpD) (d : RecD) (r : RegD) : RegD :=
  if d.r2 = 1 then ⟨r.t, r.q, r.v, r.ps, withO r.os (d.r4, d.r5, d.r6, d.r7)⟩
  else
    let o := outW g.s g.l g.c g.sh g.zs d.r3 r.t r.q r.v r.ps r.os d.r5 d.r6 d.r7 d.ps
    ⟨o.t, o.q, o.v, o.cs, o.os⟩
/-- Is it right where it stands? -/
def isAt (g : GrpD) (ds : List RecD) (i : Nat) : Bool :=
  match ds[i]? with
  | some d => decide (d.r1 = (i : Int) + 1) && rokD g d
  | none => false
def regOf (rs : List RegD) (i : Nat) : RegD := rs.getD i zeroR
def stepR (g : GrpD) (rs : List RegD) (d : RecD) : List RegD := rs.set d.r3.toNat (ontoD g d (regOf rs d.r3.toNat))
def shelves (g : GrpD) (ds : List RecD) : List RegD := ds.foldl (stepR g) (List.replicate g.sh.toNat zeroR)
def okG (g : GrpD) : Bool := okB g.s g.l g.c g.sh g.zs
def allAt (g : GrpD) (ds : List RecD) : Bool := (List.range ds.length).all (isAt g ds)
/-- What Replayed answers. -/
def replD (g : GrpD) (ds : List RecD) : List RegD × Bool := if okG g && allAt g ds then (shelves g ds, true) else ([], false)

theorem shelves_snoc (g : GrpD) (ds : List RecD) {k : Nat} (h : k < ds.length) : shelves g (ds.take (k + 1)) = stepR g (shelves g (ds.take k)) ds[k] := by
  unfold shelves
  rw [List.take_succ_eq_append_getElem h, List.foldl_append, List.foldl_cons, List.foldl_nil]
theorem stepR_len (g : GrpD) (rs : List RegD) (d : RecD) : (stepR g rs d).length = rs.length := by simp [stepR]
theorem shelves_len (g : GrpD) (ds : List RecD) : (shelves g ds).length = g.sh.toNat := by
  have key : ∀ (ds : List RecD) (rs : List RegD), (ds.foldl (stepR g) rs).length = rs.length := by
    intro ds
    induction ds with
    | nil => intro rs; rfl
    | cons d ds ih => intro rs; rw [List.foldl_cons, ih, stepR_len]
  unfold shelves
  rw [key, List.length_replicate]
theorem isAt_lt {g : GrpD} {ds : List RecD} {i : Nat} (h : i < ds.length) : isAt g ds i = (decide ((ds[i]).r1 = (i : Int) + 1) && rokD g ds[i]) := by
  unfold isAt
  rw [List.getElem?_eq_getElem h]
theorem allAt_false {g : GrpD} {ds : List RecD} {i : Nat} (h : i < ds.length) (hf : isAt g ds i = false) : allAt g ds = false := by
  unfold allAt
  rw [List.all_eq_false]
  exact ⟨i, List.mem_range.2 h, by simp [hf]⟩
theorem allAt_true {g : GrpD} {ds : List RecD} (h : ∀ i, i < ds.length → isAt g ds i = true) : allAt g ds = true := by
  unfold allAt
  rw [List.all_eq_true]
  exact fun i hi => h i (List.mem_range.1 hi)
/-- A right record is for a shelf of the group, which is right. -/
theorem rok_shelf {g : GrpD} {d : RecD} (h : rokD g d = true) : 0 ≤ d.r3 ∧ d.r3 ≤ g.sh - 1 ∧ okG g = true ∧ kndB g.s g.l g.c g.sh g.zs d.r2 d.r3 d.r4 d.r5 d.r6 d.r7 d.ps = true := by
  unfold rokD rokB shfB at h
  simp only [Bool.and_eq_true] at h
  obtain ⟨⟨⟨_, h1, h2⟩, h3⟩, _⟩ := h
  have := inB_true.1 h2
  exact ⟨this.1, this.2, h1, h3⟩
/-- How long a list of records is, with all that it holds. -/
def totC (ds : List RecD) : Nat := (ds.map fun d => 1 + d.ps.length).sum
theorem totC_snoc (ds : List RecD) {k : Nat} (h : k < ds.length) : totC (ds.take (k + 1)) = totC (ds.take k) + (1 + (ds[k]).ps.length) := by
  unfold totC
  rw [List.take_succ_eq_append_getElem h, List.map_append, List.sum_append]
  simp
theorem totC_take (ds : List RecD) (k : Nat) : totC (ds.take k) ≤ totC ds := by
  have h : totC (ds.take k) + totC (ds.drop k) = totC ds := by
    unfold totC
    rw [← List.sum_append, ← List.map_append, List.take_append_drop]
  omega
theorem totC_mem (ds : List RecD) {k : Nat} (h : k < ds.length) : 1 + (ds[k]).ps.length ≤ totC ds := by
  have h1 := totC_snoc ds h
  have h2 := totC_take ds (k + 1)
  omega
theorem onto_len (g : GrpD) (d : RecD) (r : RegD) {N : Nat} (h : r.ps.length + r.os.length ≤ N) : (ontoD g d r).ps.length + (ontoD g d r).os.length ≤ N + (1 + d.ps.length) := by
  unfold ontoD
  split
  · have := withO_len r.os (d.r4, d.r5, d.r6, d.r7)
    show r.ps.length + (withO r.os (d.r4, d.r5, d.r6, d.r7)).length ≤ _
    omega
  · have := outW_len (s := g.s) (l := g.l) (c := g.c) (sh := g.sh) (zs := g.zs) (x := d.r3) (rt := r.t) (rq := r.q) (rv := r.v) (ps := r.ps) (os := r.os) (ct := d.r5) (cq := d.r6) (v := d.r7) (cs := d.ps) rfl
    simp only
    omega
/-- No shelf is longer than what was done to them all. -/
theorem shelves_sz (g : GrpD) (ds : List RecD) : ∀ k, k ≤ ds.length → ∀ i, (regOf (shelves g (ds.take k)) i).ps.length + (regOf (shelves g (ds.take k)) i).os.length ≤ totC (ds.take k) := by
  intro k
  induction k with
  | zero =>
    intro _ i
    have h : regOf (shelves g (ds.take 0)) i = zeroR := by
      unfold regOf shelves
      simp only [List.take_zero, List.foldl_nil, List.getD_eq_getElem?_getD, List.getElem?_replicate]
      split <;> rfl
    rw [h]
    exact Nat.zero_le _
  | succ k ih =>
    intro hk i
    rw [shelves_snoc g ds (by omega), totC_snoc ds (by omega)]
    unfold stepR
    by_cases hi : (ds[k]).r3.toNat = i
    · subst hi
      by_cases hl : (ds[k]).r3.toNat < (shelves g (ds.take k)).length
      · have h : regOf ((shelves g (ds.take k)).set (ds[k]).r3.toNat (ontoD g ds[k] (regOf (shelves g (ds.take k)) (ds[k]).r3.toNat))) (ds[k]).r3.toNat = ontoD g ds[k] (regOf (shelves g (ds.take k)) (ds[k]).r3.toNat) := by
          simp [regOf, hl]
        rw [h]
        exact onto_len g _ _ (ih (by omega) _)
      · rw [List.set_eq_of_length_le (by omega)]
        have := ih (by omega) (ds[k]).r3.toNat
        omega
    · have h : regOf ((shelves g (ds.take k)).set (ds[k]).r3.toNat (ontoD g ds[k] (regOf (shelves g (ds.take k)) (ds[k]).r3.toNat))) i = regOf (shelves g (ds.take k)) i := by
        simp [regOf, hi]
      rw [h]
      have := ih (by omega) i
      omega

end Go.Proofs.YtmooajppfjglaaaGreat

/- The laws' helpers over lists of records: the size, held against what is left; conditions: the sizes. -/
namespace Go.Proofs.YtmooajppfjglaaaGreat
open Go Go.RowKit

end Go.Proofs.YtmooajppfjglaaaGreat

/- A block of records of one's own: each with its list in blocks of its own; made anew, written, read; no conditions. -/
namespace Go.Proofs.YtmooajppfjglaaaGreat
open Go Go.RowKit

theorem turns_setCells9 (g : Nat) : ∀ (vs : List Value) (o : Nat) (w : World), Turns (· = g) w (w.setCells g o vs)
  | [], _, w => Turns.of_below (Below.refl _ _)
  | v :: vs, o, w => (turns_cell9 w g o v).trans (turns_setCells9 g vs (o + 1) _)
where
  turns_cell9 (w : World) (g o : Nat) (u : Value) : Turns (· = g) w (w.setCell ⟨g, o, none⟩ u) :=
    ⟨rfl, rfl, rfl, by rw [size_set]; exact Nat.le_refl _, fun i _ hne => Below.heap_setCell w ⟨g, o, none⟩ u i hne⟩
def zeroC : RecD := ⟨0, 0, 0, 0, 0, 0, 0, [], 0⟩
/-- The block g holds n records, D of them; the list of the one at place i lies in blocks of Fs i, apart from all others'. -/
structure RecsAt (w : World) (g n : Nat) (D : Nat → RecD) (Fs : Nat → Nat → Prop) : Prop where
  lt : g < w.heap.size
  fr : ∀ o, w.frozen? ⟨g, o, none⟩ = false
  row : ∀ i, i < n → ∃ u, w.rangeAt g (i * 9) ((D i).cells u).toList ∧ LieC (D i) w (Fs i) (.agg ((D i).cells u))
  apart : ∀ i, i < n → ∀ b, Fs i b → b ≠ g
  two : ∀ i j, i < n → j < n → i ≠ j → ∀ b, Fs i b → ¬ Fs j b
theorem RecsAt.turn {w w' : World} {g n : Nat} {D : Nat → RecD} {Fs : Nat → Nat → Prop} {T : Nat → Prop} (h : RecsAt w g n D Fs) (ht : Turns T w w') (hg : ¬ T g) (hF : ∀ i, i < n → ∀ b, Fs i b → ¬ T b) : RecsAt w' g n D Fs :=
  ⟨Nat.lt_of_lt_of_le h.lt ht.size, fun o => (ht.frozen h.lt hg o).trans (h.fr o), fun i hi => by
    obtain ⟨u, h1, h2⟩ := h.row i hi
    exact ⟨u, fun j v hv => (ht.cell h.lt hg _).trans (h1 j v hv), (keepsLC _).turn h2 ht (hF i hi)⟩, h.apart, h.two⟩
theorem RecsAt.later {w w' : World} {g n : Nat} {D : Nat → RecD} {Fs : Nat → Nat → Prop} (h : RecsAt w g n D Fs) (hb : Below w.heap.size w w') : RecsAt w' g n D Fs :=
  h.turn (T := fun _ => False) (Turns.of_below hb) (fun h => h) (fun _ _ _ _ h => h)
theorem cells_len (d : RecD) (u : Value) : (d.cells u).toList.length = 9 := rfl
theorem RecsAt.there {w : World} {g n : Nat} {D : Nat → RecD} {Fs : Nat → Nat → Prop} (h : RecsAt w g n D Fs) {i : Nat} (hi : i < n) : w.there g (i * 9) 9 := fun j hj => by
  obtain ⟨u, h1, -⟩ := h.row i hi
  exact ⟨h1.isSome j (by rw [cells_len]; exact hj), h.fr _⟩
def upD (D : Nat → RecD) (i : Nat) (d : RecD) : Nat → RecD := fun j => if j = i then d else D j
def upFs (Fs : Nat → Nat → Prop) (i : Nat) (F : Nat → Prop) : Nat → Nat → Prop := fun j => if j = i then F else Fs j
/-- One of them is written anew. -/
theorem RecsAt.put {w : World} {g n : Nat} {D : Nat → RecD} {Fs : Nat → Nat → Prop} (h : RecsAt w g n D Fs) {i : Nat} (hi : i < n) {d : RecD} {F : Nat → Prop} {u : Value} (hL : LieC d w F (.agg (d.cells u))) (hg : ∀ b, F b → b ≠ g) (ho : ∀ j, j < n → j ≠ i → ∀ b, F b → ¬ Fs j b) :
    RecsAt (w.setCells g (i * 9) (d.cells u).toList) g n (upD D i d) (upFs Fs i F) := by
  have ht := turns_setCells9 g (d.cells u).toList (i * 9) w
  refine ⟨Nat.lt_of_lt_of_le h.lt ht.size, fun o => (World.frozen?_setCells g _ _ _ _).trans (h.fr o), fun j hj => ?_, fun j hj b hb => ?_, fun j k hj hk hjk b hb hb2 => ?_⟩
  · by_cases e : j = i
    · subst e
      refine ⟨u, ?_, ?_⟩
      · simp only [upD, if_true]
        exact World.rangeAt_setCells_same w g _ _ (h.there hi)
      · simp only [upD, upFs, if_true]
        exact (keepsLC _).turn hL ht hg
    · obtain ⟨u', h1, h2⟩ := h.row j hj
      refine ⟨u', ?_, ?_⟩
      · simp only [upD, if_neg e]
        exact World.rangeAt_setCells_apart h1 g _ _ (.inr (by simp only [cells_len]; omega))
      · simp only [upD, upFs, if_neg e]
        exact (keepsLC _).turn h2 ht (h.apart j hj)
  · unfold upFs at hb
    split at hb
    · exact hg b hb
    · exact h.apart j hj b hb
  · unfold upFs at hb hb2
    split at hb <;> split at hb2
    · omega
    · exact ho k hk (by assumption) b hb hb2
    · exact ho j hj (by assumption) b hb2 hb
    · exact h.two j k hj hk hjk b hb hb2
/-- Records of one's own behind lo: no list lies below it. -/
def RecsOwn (w : World) (g lo n : Nat) (D : Nat → RecD) : Prop :=
  lo ≤ g ∧ ∃ Fs, RecsAt w g n D Fs ∧ ∀ i, i < n → ∀ b, Fs i b → lo ≤ b ∧ b < w.heap.size
theorem RecsOwn.turn {w w' : World} {g lo n : Nat} {D : Nat → RecD} {T : Nat → Prop} (h : RecsOwn w g lo n D) (ht : Turns T w w') (hT : ∀ b, T b → b < lo) : RecsOwn w' g lo n D := by
  obtain ⟨hg, Fs, hR, hF⟩ := h
  exact ⟨hg, Fs, hR.turn ht (fun h => by have := hT _ h; omega) (fun i hi b hb hb2 => by have := hT b hb2; have := (hF i hi b hb).1; omega), fun i hi b hb => ⟨(hF i hi b hb).1, Nat.lt_of_lt_of_le (hF i hi b hb).2 ht.size⟩⟩
theorem RecsOwn.later {w w' : World} {g lo n : Nat} {D : Nat → RecD} (h : RecsOwn w g lo n D) (hb : Below w.heap.size w w') : RecsOwn w' g lo n D := h.turn (T := fun _ => False) (Turns.of_below hb) (fun _ h => h.elim)
/-- One of them is written anew, with a new list. -/
theorem RecsOwn.put {w w1 : World} {g lo n : Nat} {D : Nat → RecD} (h : RecsOwn w g lo n D) (hb : Below w.heap.size w w1) {i : Nat} (hi : i < n) {d : RecD} {u : Value} (hL : LieC d w1 (Iv w.heap.size w1.heap.size) (.agg (d.cells u))) :
    RecsOwn (w1.setCells g (i * 9) (d.cells u).toList) g lo n (upD D i d) := by
  obtain ⟨hg, Fs, hR, hF⟩ := h
  have hlt := hR.lt
  have hs := (turns_setCells9 g (d.cells u).toList (i * 9) w1).size
  refine ⟨hg, _, (hR.later hb).put hi hL (fun b hb1 => by have := hb1.1; omega) (fun j hj _ b hb1 hb2 => by have := hb1.1; have := (hF j hj b hb2).2; omega), fun j hj b hb1 => ?_⟩
  unfold upFs at hb1
  split at hb1
  · exact ⟨by have := hb1.1; omega, Nat.lt_of_lt_of_le hb1.2 hs⟩
  · have := hF j hj b hb1
    have := hb.size
    omega
theorem RecsOwn.low {w : World} {g lo lo' n : Nat} {D : Nat → RecD} (h : RecsOwn w g lo n D) (hl : lo' ≤ lo) : RecsOwn w g lo' n D := by
  obtain ⟨hg, Fs, hR, hF⟩ := h
  exact ⟨by omega, Fs, hR, fun i hi b hb => ⟨by have := (hF i hi b hb).1; omega, (hF i hi b hb).2⟩⟩
end Go.Proofs.YtmooajppfjglaaaGreat

/- The laws' copy of a list of records; conditions: the sizes. -/
namespace Go.Proofs.YtmooajppfjglaaaGreat
open Go Go.RowKit

/-- The first k of them, and nothing behind. -/
def recsK (ds : List RecD) (k : Nat) : Nat → RecD := fun j => if j < k then ds.getD j zeroC else zeroC
theorem RecsOwn.there {w : World} {g lo n : Nat} {D : Nat → RecD} (h : RecsOwn w g lo n D) {i : Nat} (hi : i < n) : w.there g (i * 9) 9 := by
  obtain ⟨_, Fs, hR, _⟩ := h
  exact hR.there hi
end Go.Proofs.YtmooajppfjglaaaGreat

/- Records of one's own, read as a list; conditions: none. -/
namespace Go.Proofs.YtmooajppfjglaaaGreat
open Go Go.RowKit

theorem RecsOwn.reads {w : World} {G lo n : Nat} {ds : List RecD} (h : RecsOwn w G lo n (recsK ds n)) (hn : ds.length = n) : RecsF ds w (fun b => b < w.heap.size) (some ⟨G, 0, none⟩) n := by
  obtain ⟨_, Fs, hR, hF⟩ := h
  refine ⟨hn, fun _ => ⟨G, 0, rfl, hR.lt, hR.lt, fun i hi => ?_⟩⟩
  have hi' : i < n := by omega
  obtain ⟨u, h1, h2⟩ := hR.row i hi'
  have hd : recsK ds n i = ds[i] := by
    unfold recsK
    rw [if_pos hi', List.getD_eq_getElem?_getD, List.getElem?_eq_getElem hi]
    rfl
  rw [hd] at h1 h2
  obtain ⟨L, m, mc, e, hm, hp⟩ := ((keepsC _).sub h2.at (fun b hb => (hF i hi' b hb).2) : AtC ds[i] w (fun b => b < w.heap.size) _)
  injection e with e
  have hu : u = .slice L m mc := by simpa [RecD.cells] using e
  subst hu
  refine ⟨L, m, mc, ?_, hm, hp⟩
  rw [Nat.zero_add]
  exact ⟨h1 0 _ rfl, h1 1 _ rfl, h1 2 _ rfl, h1 3 _ rfl, h1 4 _ rfl, h1 5 _ rfl, h1 6 _ rfl, h1 7 _ rfl, h1 8 _ rfl⟩
end Go.Proofs.YtmooajppfjglaaaGreat

/- A journal as data: two lists of records; read, and of one's own; no conditions. -/
namespace Go.Proofs.YtmooajppfjglaaaGreat
open Go Go.RowKit

structure JourD where
  ks : List RecD
  ls : List RecD
def JourD.sz (d : JourD) : Nat := totC d.ks + totC d.ls
/-- A value reads as a journal, through blocks of F alone. -/
def AtJ (d : JourD) (w : World) (F : Nat → Prop) (v : Value) : Prop :=
  ∃ (A : Option Addr) (n c : Nat) (A' : Option Addr) (n' c' : Nat), v = .agg #[.slice A n c, .slice A' n' c'] ∧ n ≤ maxLen ∧ n' ≤ maxLen ∧ RecsF d.ks w F A n ∧ RecsF d.ls w F A' n'
theorem RecsF.lt {ds : List RecD} {w : World} {F : Nat → Prop} {A : Option Addr} {n : Nat} (h : RecsF ds w F A n) : RecsF ds w (fun b => F b ∧ b < w.heap.size) A n := by
  refine ⟨h.1, fun hn => ?_⟩
  obtain ⟨b, o, hA, hF, hb, hc⟩ := h.2 hn
  refine ⟨b, o, hA, ⟨hF, hb⟩, hb, fun i hi => ?_⟩
  obtain ⟨L, m, mc, h1, h2, h3⟩ := hc i hi
  refine ⟨L, m, mc, h1, h2, h3.1, fun hm b' o' e => ⟨h3.2 hm b' o' e, ?_⟩⟩
  obtain ⟨b2, o2, e2, hb2, _⟩ := h3.1.2 hm
  rw [e] at e2
  injection e2 with e2
  injection e2 with e2
  subst e2
  exact hb2
/-- A list of records of one's own: nil, or a block, and the records' lists; all in blocks of F. -/
def OwnCS (ds : List RecD) (w : World) (F : Nat → Prop) (v : Value) : Prop :=
  (v = .slice none 0 0 ∧ ds = []) ∨ ∃ (G c : Nat) (Fs : Nat → Nat → Prop), F G ∧ v = .slice (some ⟨G, 0, none⟩) ds.length c ∧ ds.length ≤ c ∧ c ≤ maxLen ∧ RecsAt w G ds.length (recsK ds ds.length) Fs ∧ ∀ i, i < ds.length → ∀ b, Fs i b → F b ∧ b < w.heap.size
theorem OwnCS.turn {ds : List RecD} {w w' : World} {F T : Nat → Prop} {v : Value} (h : OwnCS ds w F v) (ht : Turns T w w') (hd : ∀ b, F b → ¬ T b) : OwnCS ds w' F v := by
  rcases h with h | ⟨G, c, Fs, hG, e, h1, h2, hR, hF⟩
  · exact .inl h
  · exact .inr ⟨G, c, Fs, hG, e, h1, h2, hR.turn ht (hd G hG) (fun i hi b hb => hd b (hF i hi b hb).1), fun i hi b hb => ⟨(hF i hi b hb).1, Nat.lt_of_lt_of_le (hF i hi b hb).2 ht.size⟩⟩
theorem OwnCS.later {ds : List RecD} {w w' : World} {F : Nat → Prop} {v : Value} (h : OwnCS ds w F v) (hb : Below w.heap.size w w') : OwnCS ds w' F v := h.turn (T := fun _ => False) (Turns.of_below hb) (fun _ _ h => h)
theorem OwnCS.sub {ds : List RecD} {w : World} {F F' : Nat → Prop} {v : Value} (h : OwnCS ds w F v) (hs : ∀ b, F b → F' b) : OwnCS ds w F' v := by
  rcases h with h | ⟨G, c, Fs, hG, e, h1, h2, hR, hF⟩
  · exact .inl h
  · exact .inr ⟨G, c, Fs, hs G hG, e, h1, h2, hR, fun i hi b hb => ⟨hs b (hF i hi b hb).1, (hF i hi b hb).2⟩⟩
theorem OwnCS.lt {ds : List RecD} {w : World} {F : Nat → Prop} {v : Value} (h : OwnCS ds w F v) : OwnCS ds w (fun b => F b ∧ b < w.heap.size) v := by
  rcases h with h | ⟨G, c, Fs, hG, e, h1, h2, hR, hF⟩
  · exact .inl h
  · exact .inr ⟨G, c, Fs, ⟨hG, hR.lt⟩, e, h1, h2, hR, fun i hi b hb => ⟨hF i hi b hb, (hF i hi b hb).2⟩⟩
theorem recsK_at {ds : List RecD} {n i : Nat} (hn : ds.length = n) (h : i < ds.length) : recsK ds n i = ds[i] := by
  unfold recsK
  rw [if_pos (by omega), List.getD_eq_getElem?_getD, List.getElem?_eq_getElem h]
  rfl
/-- One's own list, read. -/
theorem OwnCS.reads {ds : List RecD} {w : World} {F : Nat → Prop} {v : Value} (h : OwnCS ds w F v) : ∃ A c, v = .slice A ds.length c ∧ RecsF ds w F A ds.length := by
  rcases h with ⟨rfl, rfl⟩ | ⟨G, c, Fs, hG, e, h1, h2, hR, hF⟩
  · exact ⟨none, 0, rfl, rfl, fun hn => absurd hn (Nat.lt_irrefl _)⟩
  · refine ⟨_, c, e, rfl, fun _ => ⟨G, 0, rfl, hG, hR.lt, fun i hi => ?_⟩⟩
    obtain ⟨u, g1, g2⟩ := hR.row i hi
    rw [recsK_at rfl hi] at g1 g2
    obtain ⟨L, m, mc, e, hm, hp⟩ := ((keepsC _).sub g2.at (fun b hb => (hF i hi b hb).1) : AtC ds[i] w F _)
    injection e with e
    have hu : u = .slice L m mc := by simpa [RecD.cells] using e
    subst hu
    refine ⟨L, m, mc, ?_, hm, hp⟩
    rw [Nat.zero_add]
    exact ⟨g1 0 _ rfl, g1 1 _ rfl, g1 2 _ rfl, g1 3 _ rfl, g1 4 _ rfl, g1 5 _ rfl, g1 6 _ rfl, g1 7 _ rfl, g1 8 _ rfl⟩
theorem OwnCS.len {ds : List RecD} {w : World} {F : Nat → Prop} {v : Value} (h : OwnCS ds w F v) : ds.length ≤ maxLen := by
  rcases h with ⟨rfl, rfl⟩ | ⟨G, c, Fs, hG, e, h1, h2, hR, hF⟩
  · exact Nat.zero_le _
  · omega
theorem RecsOwn.cs {w : World} {G lo n c : Nat} {ds : List RecD} (h : RecsOwn w G lo n (recsK ds n)) (hn : ds.length = n) (hc : n ≤ c) (hm : c ≤ maxLen) : OwnCS ds w (Iv lo w.heap.size) (.slice (some ⟨G, 0, none⟩) n c) := by
  subst hn
  obtain ⟨hg, Fs, hR, hF⟩ := h
  exact .inr ⟨G, c, Fs, ⟨hg, hR.lt⟩, rfl, hc, hm, hR, fun i hi b hb => ⟨hF i hi b hb, (hF i hi b hb).2⟩⟩
/-- A journal of one's own: its two lists apart. -/
def LieJ (d : JourD) (w : World) (F : Nat → Prop) (v : Value) : Prop :=
  ∃ (u u' : Value) (F1 F2 : Nat → Prop), v = .agg #[u, u'] ∧ OwnCS d.ks w F1 u ∧ OwnCS d.ls w F2 u' ∧ (∀ b, F1 b → F b) ∧ (∀ b, F2 b → F b) ∧ ∀ b, F1 b → ¬ F2 b
theorem LieJ.at {d : JourD} {w : World} {F : Nat → Prop} {v : Value} (h : LieJ d w F v) : AtJ d w F v := by
  obtain ⟨u, u', F1, F2, rfl, h1, h2, s1, s2, -⟩ := h
  have l1 := h1.len
  have l2 := h2.len
  obtain ⟨A, c, rfl, r1⟩ := h1.reads
  obtain ⟨A', c', rfl, r2⟩ := h2.reads
  exact ⟨A, _, c, A', _, c', rfl, l1, l2, r1.sub s1, r2.sub s2⟩
end Go.Proofs.YtmooajppfjglaaaGreat

/- Lists of records as cells: a row of nine cells a record; a list somewhere, read; conditions: none. -/
namespace Go.Proofs.YtmooajppfjglaaaGreat
open Go Go.RowKit

/-- The cells of records, each with its list. -/
def flatC (ms : List (RecD × Value)) : List Value := ms.flatMap fun p => (p.1.cells p.2).toList
theorem flatC_len (ms : List (RecD × Value)) : (flatC ms).length = ms.length * 9 := by
  induction ms with
  | nil => rfl
  | cons p ms ih =>
    have e : flatC (p :: ms) = (p.1.cells p.2).toList ++ flatC ms := rfl
    rw [e, List.length_append, ih, List.length_cons, cells_len]
    omega
theorem flatC_app (a b : List (RecD × Value)) : flatC (a ++ b) = flatC a ++ flatC b := by simp [flatC]
theorem flatC_at {ms : List (RecD × Value)} {i : Nat} (h : i < ms.length) {j : Nat} (hj : j < 9) : (flatC ms)[i * 9 + j]? = ((ms[i]).1.cells (ms[i]).2).toList[j]? := by
  induction ms generalizing i with
  | nil => simp at h
  | cons p ms ih =>
    have e : flatC (p :: ms) = (p.1.cells p.2).toList ++ flatC ms := rfl
    rw [e]
    rcases i with _ | i
    · rw [List.getElem?_append_left (by rw [cells_len]; omega)]
      simp
    · rw [List.getElem?_append_right (by rw [cells_len]; omega), cells_len, show (i + 1) * 9 + j - 9 = i * 9 + j by omega]
      exact ih (by simpa using h)
theorem flatC_one {ms : List (RecD × Value)} (h : ∀ p ∈ ms, p.2.oneCell' = true) : ∀ u ∈ flatC ms, u.oneCell' = true := by
  intro u hu
  unfold flatC at hu
  rw [List.mem_flatMap] at hu
  obtain ⟨p, hp, hu⟩ := hu
  have h2 := h p hp
  simp only [RecD.cells, List.mem_cons, List.mem_nil_iff, or_false] at hu
  rcases hu with rfl | rfl | rfl | rfl | rfl | rfl | rfl | rfl | rfl
  all_goals first | rfl | exact h2
/-- A list of pairs somewhere: nil, or at an address, in a block of F. -/
def SlcF (w : World) (F : Nat → Prop) (v : Value) (ps : List (Int × Int)) : Prop :=
  (v = .slice none 0 0 ∧ ps = []) ∨ ∃ b o n cap, v = .slice (some ⟨b, o, none⟩) n cap ∧ n ≤ maxLen ∧ PairsF w F (some ⟨b, o, none⟩) n ps
theorem SlcF.turn {T : Nat → Prop} {w w' : World} {F : Nat → Prop} {v : Value} {ps : List (Int × Int)} (h : SlcF w F v ps) (ht : Turns T w w') (hd : ∀ b, F b → ¬ T b) : SlcF w' F v ps := by
  rcases h with h | ⟨b, o, n, cap, e, hm, hp⟩
  · exact .inl h
  · exact .inr ⟨b, o, n, cap, e, hm, hp.turn ht hd⟩
theorem SlcF.sub {w : World} {F F' : Nat → Prop} {v : Value} {ps : List (Int × Int)} (h : SlcF w F v ps) (hs : ∀ b, F b → F' b) : SlcF w F' v ps := by
  rcases h with h | ⟨b, o, n, cap, e, hm, hp⟩
  · exact .inl h
  · exact .inr ⟨b, o, n, cap, e, hm, hp.1, fun hn b o e => hs b (hp.2 hn b o e)⟩
theorem SlcF.lt {w : World} {F : Nat → Prop} {v : Value} {ps : List (Int × Int)} (h : SlcF w F v ps) : SlcF w (fun b => F b ∧ b < w.heap.size) v ps := by
  rcases h with h | ⟨b, o, n, cap, e, hm, hp⟩
  · exact .inl h
  · refine .inr ⟨b, o, n, cap, e, hm, hp.1, fun hn b' o' e' => ⟨hp.2 hn b' o' e', ?_⟩⟩
    obtain ⟨b2, o2, e2, hb2, _⟩ := hp.1.2 hn
    rw [e'] at e2
    injection e2 with e2
    injection e2 with e2
    subst e2
    exact hb2
theorem SlcF.slc {w : World} {F : Nat → Prop} {v : Value} {ps : List (Int × Int)} (h : SlcF w F v ps) : Slc w v ps := by
  rcases h with h | ⟨b, o, n, cap, e, hm, hp⟩
  · exact .inl h
  · exact .inr ⟨b, o, n, cap, e, hp.1⟩
theorem SlcF.at {w : World} {F : Nat → Prop} {v : Value} {ps : List (Int × Int)} (h : SlcF w F v ps) : ∃ L m mc, v = .slice L m mc ∧ m ≤ maxLen ∧ PairsF w F L m ps := by
  rcases h with ⟨rfl, rfl⟩ | ⟨b, o, n, cap, e, hm, hp⟩
  · exact ⟨none, 0, 0, rfl, Nat.zero_le _, ⟨rfl, fun hn => absurd hn (by omega)⟩, fun hn => absurd hn (by omega)⟩
  · exact ⟨_, n, cap, e, hm, hp⟩
theorem OwnP.somewhere {w : World} {F : Nat → Prop} {v : Value} {ps : List (Int × Int)} (h : OwnP w F v ps) : SlcF w F v ps := by
  have h' := h
  rcases h with h | ⟨g, cap, hg, e, h0, h1, hh⟩
  · exact .inl h
  · obtain ⟨A, c, e', hm, hp, _⟩ := h'.at
    rw [e] at e'
    injection e' with e1 e2 e3
    subst e1
    exact .inr ⟨g, 0, _, cap, e, hm, hp⟩
/-- The records' lists can be read, through blocks of F. -/
def CertsF (w : World) (F : Nat → Prop) (ms : List (RecD × Value)) : Prop := ∀ p ∈ ms, SlcF w F p.2 p.1.ps
theorem CertsF.one {w : World} {F : Nat → Prop} {ms : List (RecD × Value)} (h : CertsF w F ms) : ∀ p ∈ ms, p.2.oneCell' = true := fun p hp => by
  obtain ⟨L, m, mc, e, -⟩ := (h p hp).at
  rw [e]
  rfl
theorem CertsF.turn {T : Nat → Prop} {w w' : World} {F : Nat → Prop} {ms : List (RecD × Value)} (h : CertsF w F ms) (ht : Turns T w w') (hd : ∀ b, F b → ¬ T b) : CertsF w' F ms := fun p hp => (h p hp).turn ht hd
theorem CertsF.later {w w' : World} {F : Nat → Prop} {ms : List (RecD × Value)} (h : CertsF w F ms) (hb : Below w.heap.size w w') : CertsF w' F ms := h.turn (T := fun _ => False) (Turns.of_below hb) (fun _ _ h => h)
theorem CertsF.sub {w : World} {F F' : Nat → Prop} {ms : List (RecD × Value)} (h : CertsF w F ms) (hs : ∀ b, F b → F' b) : CertsF w F' ms := fun p hp => (h p hp).sub hs
theorem CertsF.app {w : World} {F : Nat → Prop} {a b : List (RecD × Value)} (h : CertsF w F a) (h' : CertsF w F b) : CertsF w F (a ++ b) := fun p hp => by
  rcases List.mem_append.1 hp with hp | hp
  · exact h p hp
  · exact h' p hp
/-- Records' cells in a block, from a place on. -/
def CellsAt (w : World) (b o : Nat) (ms : List (RecD × Value)) : Prop := ∀ j x, (flatC ms)[j]? = some x → w.cell? ⟨b, o + j, none⟩ = some x
/-- A list of records somewhere: nil, or at an address. -/
def ListS (ds : List RecD) (w : World) (F : Nat → Prop) (v : Value) : Prop :=
  (v = .slice none 0 0 ∧ ds = []) ∨ ∃ b o c, v = .slice (some ⟨b, o, none⟩) ds.length c ∧ ds.length ≤ c ∧ c ≤ maxLen ∧ (0 < ds.length → F b ∧ b < w.heap.size) ∧ ∃ ms : List (RecD × Value), ms.map (·.1) = ds ∧ CertsF w F ms ∧ CellsAt w b o ms
theorem flatC_lt {ms : List (RecD × Value)} {j : Nat} {x : Value} (h : (flatC ms)[j]? = some x) : j < ms.length * 9 := by
  have := (List.getElem?_eq_some_iff.1 h).1
  rwa [flatC_len] at this
theorem ListS.turn {T : Nat → Prop} {ds : List RecD} {w w' : World} {F : Nat → Prop} {v : Value} (h : ListS ds w F v) (ht : Turns T w w') (hd : ∀ b, F b → ¬ T b) : ListS ds w' F v := by
  rcases h with h | ⟨b, o, c, e, h1, h2, h3, ms, hm, hc, hx⟩
  · exact .inl h
  · refine .inr ⟨b, o, c, e, h1, h2, fun hn => ⟨(h3 hn).1, Nat.lt_of_lt_of_le (h3 hn).2 ht.size⟩, ms, hm, hc.turn ht hd, fun j x hj => ?_⟩
    have hn : 0 < ds.length := by have := flatC_lt hj; rw [← hm, List.length_map]; omega
    exact (ht.cell (h3 hn).2 (hd b (h3 hn).1) _).trans (hx j x hj)
theorem ListS.later {ds : List RecD} {w w' : World} {F : Nat → Prop} {v : Value} (h : ListS ds w F v) (hb : Below w.heap.size w w') : ListS ds w' F v := h.turn (T := fun _ => False) (Turns.of_below hb) (fun _ _ h => h)
theorem ListS.sub {ds : List RecD} {w : World} {F F' : Nat → Prop} {v : Value} (h : ListS ds w F v) (hs : ∀ b, F b → F' b) : ListS ds w F' v := by
  rcases h with h | ⟨b, o, c, e, h1, h2, h3, ms, hm, hc, hx⟩
  · exact .inl h
  · exact .inr ⟨b, o, c, e, h1, h2, fun hn => ⟨hs b (h3 hn).1, (h3 hn).2⟩, ms, hm, hc.sub hs, hx⟩
theorem ListS.lt {ds : List RecD} {w : World} {F : Nat → Prop} {v : Value} (h : ListS ds w F v) : ListS ds w (fun b => F b ∧ b < w.heap.size) v := by
  rcases h with h | ⟨b, o, c, e, h1, h2, h3, ms, hm, hc, hx⟩
  · exact .inl h
  · exact .inr ⟨b, o, c, e, h1, h2, fun hn => ⟨h3 hn, (h3 hn).2⟩, ms, hm, fun p hp => (hc p hp).lt, hx⟩
theorem flatC_row {w : World} {b o : Nat} {ms : List (RecD × Value)} (hx : CellsAt w b o ms) {i : Nat} (hi : i < ms.length) : RecAt w b (o + i * 9) (ms[i]).1 (ms[i]).2 := by
  have C : ∀ j x, j < 9 → ((ms[i]).1.cells (ms[i]).2).toList[j]? = some x → w.cell? ⟨b, o + i * 9 + j, none⟩ = some x := fun j x hj h => by
    have h2 := hx (i * 9 + j) x (by rw [flatC_at hi hj]; exact h)
    rwa [← Nat.add_assoc] at h2
  exact ⟨C 0 _ (by omega) rfl, C 1 _ (by omega) rfl, C 2 _ (by omega) rfl, C 3 _ (by omega) rfl, C 4 _ (by omega) rfl, C 5 _ (by omega) rfl, C 6 _ (by omega) rfl, C 7 _ (by omega) rfl, C 8 _ (by omega) rfl⟩
theorem map_at {ms : List (RecD × Value)} {ds : List RecD} (hm : ms.map (·.1) = ds) {i : Nat} (h : i < ds.length) : ∃ h' : i < ms.length, (ms[i]).1 = ds[i] := by
  subst hm
  have h' : i < ms.length := by rwa [List.length_map] at h
  exact ⟨h', by simp⟩
theorem ListS.at {ds : List RecD} {w : World} {F : Nat → Prop} {v : Value} (h : ListS ds w F v) : ∃ A c, v = .slice A ds.length c ∧ ds.length ≤ maxLen ∧ RecsF ds w F A ds.length := by
  rcases h with ⟨rfl, rfl⟩ | ⟨b, o, c, e, h1, h2, h3, ms, hm, hc, hx⟩
  · exact ⟨none, 0, rfl, Nat.zero_le _, rfl, fun hn => absurd hn (Nat.lt_irrefl _)⟩
  · refine ⟨_, c, e, Nat.le_trans h1 h2, rfl, fun hn => ⟨b, o, rfl, (h3 hn).1, (h3 hn).2, fun i hi => ?_⟩⟩
    obtain ⟨hi', ed⟩ := map_at hm hi
    obtain ⟨L, m, mc, e1, h4, h5⟩ := (hc ms[i] (List.getElem_mem hi')).at
    have hr := flatC_row hx hi'
    rw [ed, e1] at hr
    rw [ed] at h5
    exact ⟨L, m, mc, hr, h4, h5⟩
theorem OwnCS.list {ds : List RecD} {w : World} {F : Nat → Prop} {v : Value} (h : OwnCS ds w F v) : ListS ds w F v := by
  rcases h with h | ⟨G, c, Fs, hG, e, h1, h2, hR, hF⟩
  · exact .inl h
  · have each : ∀ i, i < ds.length → ∃ u : Value, ∀ hi : i < ds.length, w.rangeAt G (i * 9) ((ds[i]).cells u).toList ∧ SlcF w F u (ds[i]).ps := by
      intro i hi
      obtain ⟨u, g1, g2⟩ := hR.row i hi
      rw [recsK_at rfl hi] at g1 g2
      obtain ⟨u', e', ho⟩ := g2
      injection e' with e'
      have hu : u = u' := by simpa [RecD.cells] using e'
      subst hu
      exact ⟨u, fun _ => ⟨g1, (ho.sub (fun b hb => (hF i hi b hb).1)).somewhere⟩⟩
    haveI : Inhabited Value := ⟨.slice none 0 0⟩
    obtain ⟨q, hq⟩ := Go.Deep.choose_lt each
    have hlen : (ds.mapIdx fun i d => (d, q i)).length = ds.length := by simp
    refine .inr ⟨G, 0, c, e, h1, h2, fun _ => ⟨hG, hR.lt⟩, ds.mapIdx fun i d => (d, q i), ?_, fun p hp => ?_, fun j x hj => ?_⟩
    · apply List.ext_getElem
      · simp
      · intro i h1 h2
        simp
    · obtain ⟨i, hi, rfl⟩ := List.mem_iff_getElem.1 hp
      rw [hlen] at hi
      simp only [List.getElem_mapIdx]
      exact (hq i hi hi).2
    · have hjl := flatC_lt hj
      rw [hlen] at hjl
      have hi : j / 9 < ds.length := by omega
      have hjm : j % 9 < 9 := by omega
      have e := flatC_at (ms := ds.mapIdx fun i d => (d, q i)) (i := j / 9) (by rw [hlen]; exact hi) hjm
      rw [show j / 9 * 9 + j % 9 = j by omega, hj] at e
      simp only [List.getElem_mapIdx] at e
      have h3 := (hq (j / 9) hi hi).1 (j % 9) x e.symm
      rwa [show j / 9 * 9 + j % 9 = 0 + j by omega] at h3
theorem ListS.src {ds : List RecD} {w : World} {F : Nat → Prop} {v : Value} (h : ListS ds w F v) : ∃ ms : List (RecD × Value), ms.map (·.1) = ds ∧ CertsF w F ms ∧ Src w v ds.length 9 (flatC ms) := by
  rcases h with ⟨rfl, rfl⟩ | ⟨b, o, c, e, h1, h2, h3, ms, hm, hc, hx⟩
  · exact ⟨[], rfl, fun p hp => absurd hp (List.not_mem_nil), .inl ⟨rfl, rfl, rfl⟩⟩
  · refine ⟨ms, hm, hc, .inr ⟨⟨b, o, none⟩, c, e, ?_, fun j x hj => ?_, flatC_one hc.one⟩⟩
    · rw [flatC_len, ← hm, List.length_map]
    · rw [show (⟨b, o, none⟩ : Addr).add j = ⟨b, o + j, none⟩ by unfold Addr.add; split <;> simp_all]
      exact hx j x hj
theorem Src.later {w w' : World} {u : Value} {m size : Nat} {news : List Value} (h : Src w u m size news) (hb : Below w.heap.size w w') : Src w' u m size news := by
  rcases h with h | ⟨ad, c, e, h1, h2, h3⟩
  · exact .inl h
  · exact .inr ⟨ad, c, e, h1, fun j x hx => by
      have h4 := h2 j x hx
      exact (hb.cell (p := ad.add j) (block_lt_of_cell h4)).trans h4, h3⟩
end Go.Proofs.YtmooajppfjglaaaGreat

/- The library's Grow and Concat over lists of records: two of them, one behind the other; conditions: the sizes. -/
namespace Go.Proofs.YtmooajppfjglaaaGreat
open Go Go.RowKit

theorem Tryz.infoRecI : (Tryz.prog.info? 42).map (fun i => (i.zero, i.size, i.bytes)) = some (some (.agg #[.int .i64 0, .int .i64 0, .int .i64 0, .int .i64 0, .int .i64 0, .int .i64 0, .int .i64 0, .slice none 0 0, .int .i64 0]), 9, 88) := by kernel_rfl
end Go.Proofs.YtmooajppfjglaaaGreat

/- The model's copy of a list of records: each with its list in a block of its own; conditions: the sizes. -/
namespace Go.Proofs.YtmooajppfjglaaaGreat
open Go Go.RowKit Go.Deep

/-- k records are copied: a row of one's own, the records' lists each in blocks of its own. -/
structure CopyK (w wr : World) (ds : List RecD) (k g cap : Nat) (ms : List (RecD × Value)) (Fs : Nat → Nat → Prop) : Prop where
  bel : Below w.heap.size w wr
  own : wr.ownsRow w.heap.size 42 9 (.slice (some ⟨g, 0, none⟩) k cap) k (flatC ms)
  map : ms.map (·.1) = ds.take k
  cert : ∀ i (h : i < ms.length), OwnP wr (Fs i) (ms[i]).2 (ms[i]).1.ps
  far : ∀ i, i < k → ∀ b, Fs i b → w.heap.size ≤ b ∧ b < wr.heap.size ∧ b ≠ g
  two : ∀ i j, i < k → j < k → i ≠ j → ∀ b, Fs i b → ¬ Fs j b
theorem CopyK.gl {w wr : World} {ds : List RecD} {k g cap : Nat} {ms : List (RecD × Value)} {Fs : Nat → Nat → Prop} (h : CopyK w wr ds k g cap ms Fs) : w.heap.size ≤ g ∧ g < wr.heap.size := h.own.lt g rfl
theorem CopyK.len {w wr : World} {ds : List RecD} {k g cap : Nat} {ms : List (RecD × Value)} {Fs : Nat → Nat → Prop} (h : CopyK w wr ds k g cap ms Fs) : ms.length = k := by
  have h1 := h.own.1
  rw [flatC_len] at h1
  omega
theorem OwnP.low {w : World} {F : Nat → Prop} {v : Value} {ps : List (Int × Int)} (h : OwnP w F v ps) : OwnP w (fun b => F b ∧ b < w.heap.size) v ps := by
  rcases h with h | ⟨g, cap, hg, e, h0, h1, hh⟩
  · exact .inl h
  · exact .inr ⟨g, cap, ⟨hg, hh.lt⟩, e, h0, h1, hh⟩
theorem CopyK.done {w wr : World} {ds : List RecD} {g cap : Nat} {ms : List (RecD × Value)} {Fs : Nat → Nat → Prop} (h : CopyK w wr ds ds.length g cap ms Fs) : OwnCS ds wr (Iv w.heap.size wr.heap.size) (.slice (some ⟨g, 0, none⟩) ds.length cap) := by
  have hlen := h.len
  obtain ⟨g1, g2⟩ := h.gl
  have hm := h.map
  rw [List.take_length] at hm
  have hcap : ds.length ≤ cap ∧ cap ≤ maxLen := by
    rcases h.own.2 with ⟨e, _⟩ | ⟨g', c', cur, e, _, _, h1, h2, _⟩
    · cases e
    · injection e with _ _ e
      subst e
      exact ⟨h1, h2⟩
  refine .inr ⟨g, cap, Fs, ⟨g1, g2⟩, rfl, hcap.1, hcap.2, ⟨g2, fun o => ?_, fun i hi => ?_, fun i hi b hb => (h.far i hi b hb).2.2, h.two⟩, fun i hi b hb => ⟨⟨(h.far i hi b hb).1, (h.far i hi b hb).2.1⟩, (h.far i hi b hb).2.1⟩⟩
  · rcases h.own.2 with ⟨e, _⟩ | ⟨g', c', cur, e, _, hg, _⟩
    · cases e
    · injection e with e _ _
      injection e with e
      injection e with e _ _
      subst e
      simp [World.frozen?, hg]
  · obtain ⟨hi', ed⟩ := map_at hm hi
    rw [recsK_at rfl hi, ← ed]
    refine ⟨(ms[i]).2, fun j x hx => ?_, (ms[i]).2, rfl, h.cert i hi'⟩
    have hj : j < 9 := by
      have := (List.getElem?_eq_some_iff.1 hx).1
      rwa [cells_len] at this
    rw [h.own.cellAt (i * 9 + j) (by omega), flatC_at hi' hj]
    exact hx

end Go.Proofs.YtmooajppfjglaaaGreat

/- A row of records of one's own, k of a list laid into it; no conditions. -/
namespace Go.Proofs.YtmooajppfjglaaaGreat
open Go Go.RowKit Go.Deep

/-- k records of a list are laid: a row of one's own, the records' lists each in blocks of its own, all behind base. -/
structure RowK (base : Nat) (wr : World) (ds : List RecD) (k g cap : Nat) (ms : List (RecD × Value)) (Fs : Nat → Nat → Prop) : Prop where
  own : wr.ownsRow base 42 9 (.slice (some ⟨g, 0, none⟩) k cap) k (flatC ms)
  map : ms.map (·.1) = ds.take k
  cert : ∀ i (h : i < ms.length), OwnP wr (Fs i) (ms[i]).2 (ms[i]).1.ps
  far : ∀ i, i < k → ∀ b, Fs i b → base ≤ b ∧ b < wr.heap.size ∧ b ≠ g
  two : ∀ i j, i < k → j < k → i ≠ j → ∀ b, Fs i b → ¬ Fs j b
theorem CopyK.row {w wr : World} {ds : List RecD} {k g cap : Nat} {ms : List (RecD × Value)} {Fs : Nat → Nat → Prop} (h : CopyK w wr ds k g cap ms Fs) : RowK w.heap.size wr ds k g cap ms Fs := ⟨h.own, h.map, h.cert, h.far, h.two⟩
theorem RowK.gl {base : Nat} {wr : World} {ds : List RecD} {k g cap : Nat} {ms : List (RecD × Value)} {Fs : Nat → Nat → Prop} (h : RowK base wr ds k g cap ms Fs) : base ≤ g ∧ g < wr.heap.size := h.own.lt g rfl
theorem RowK.len {base : Nat} {wr : World} {ds : List RecD} {k g cap : Nat} {ms : List (RecD × Value)} {Fs : Nat → Nat → Prop} (h : RowK base wr ds k g cap ms Fs) : ms.length = k := by
  have h1 := h.own.1
  rw [flatC_len] at h1
  omega
theorem RowK.turn {base : Nat} {wr w' : World} {ds : List RecD} {k g cap : Nat} {ms : List (RecD × Value)} {Fs : Nat → Nat → Prop} {T : Nat → Prop} (h : RowK base wr ds k g cap ms Fs) (ht : Turns T wr w') (hT : ∀ b, T b → b < base) : RowK base w' ds k g cap ms Fs := by
  obtain ⟨g1, g2⟩ := h.gl
  refine ⟨⟨h.own.1, ?_⟩, h.map, fun i hi => (h.cert i hi).turn ht (fun b hb hb2 => by have := hT b hb2; have := (h.far i (by rw [h.len] at hi; exact hi) b hb).1; omega), fun i hi b hb => ⟨(h.far i hi b hb).1, Nat.lt_of_lt_of_le (h.far i hi b hb).2.1 ht.size, (h.far i hi b hb).2.2⟩, h.two⟩
  rcases h.own.2 with ⟨e, _⟩ | ⟨g', cap', cur, e, hb, hg, h1, h2, h3, h4⟩
  · cases e
  · injection e with e1 _ e3
    injection e1 with e1
    injection e1 with e1 _ _
    subst e1 e3
    exact .inr ⟨g, cap, cur, rfl, hb, (ht.block g g2 (fun hb => by have := hT g hb; omega)).trans hg, h1, h2, h3, h4⟩
theorem RowK.later {base : Nat} {wr w' : World} {ds : List RecD} {k g cap : Nat} {ms : List (RecD × Value)} {Fs : Nat → Nat → Prop} (h : RowK base wr ds k g cap ms Fs) (hb : Below wr.heap.size wr w') : RowK base w' ds k g cap ms Fs := h.turn (T := fun _ => False) (Turns.of_below hb) (fun _ h => h.elim)
theorem RowK.more {base : Nat} {wr : World} {ds : List RecD} {g cap : Nat} {ms : List (RecD × Value)} {Fs : Nat → Nat → Prop} (h : RowK base wr ds ds.length g cap ms Fs) (es : List RecD) : RowK base wr (ds ++ es) ds.length g cap ms Fs :=
  ⟨h.own, by rw [h.map, List.take_length, List.take_left], h.cert, h.far, h.two⟩
theorem RowK.done {base : Nat} {wr : World} {ds : List RecD} {g cap : Nat} {ms : List (RecD × Value)} {Fs : Nat → Nat → Prop} (h : RowK base wr ds ds.length g cap ms Fs) : OwnCS ds wr (Iv base wr.heap.size) (.slice (some ⟨g, 0, none⟩) ds.length cap) := by
  have hlen := h.len
  obtain ⟨g1, g2⟩ := h.gl
  have hm := h.map
  rw [List.take_length] at hm
  have hcap : ds.length ≤ cap ∧ cap ≤ maxLen := by
    rcases h.own.2 with ⟨e, _⟩ | ⟨g', c', cur, e, _, _, h1, h2, _⟩
    · cases e
    · injection e with _ _ e
      subst e
      exact ⟨h1, h2⟩
  refine .inr ⟨g, cap, Fs, ⟨g1, g2⟩, rfl, hcap.1, hcap.2, ⟨g2, fun o => ?_, fun i hi => ?_, fun i hi b hb => (h.far i hi b hb).2.2, h.two⟩, fun i hi b hb => ⟨⟨(h.far i hi b hb).1, (h.far i hi b hb).2.1⟩, (h.far i hi b hb).2.1⟩⟩
  · rcases h.own.2 with ⟨e, _⟩ | ⟨g', c', cur, e, _, hg, _⟩
    · cases e
    · injection e with e _ _
      injection e with e
      injection e with e _ _
      subst e
      simp [World.frozen?, hg]
  · obtain ⟨hi', ed⟩ := map_at hm hi
    rw [recsK_at rfl hi, ← ed]
    refine ⟨(ms[i]).2, fun j x hx => ?_, (ms[i]).2, rfl, h.cert i hi'⟩
    have hj : j < 9 := by
      have := (List.getElem?_eq_some_iff.1 hx).1
      rwa [cells_len] at this
    rw [h.own.cellAt (i * 9 + j) (by omega), flatC_at hi' hj]
    exact hx

end Go.Proofs.YtmooajppfjglaaaGreat

/- What the model's draw of a list of records leaves: a row of one's own, each record with its list in a block known whole; the cursor is a right one. -/
namespace Go.Proofs.YtmooajppfjglaaaGreat
open Go Go.RowKit Go.Deep

/-- A row of k records of one's own behind base, the records' lists each in blocks of its own, known whole. -/
structure RowR (base : Nat) (wr : World) (k g cap : Nat) (ms : List (RecD × Value)) (Fs : Nat → Nat → Prop) : Prop where
  own : wr.ownsRow base 42 9 (.slice (some ⟨g, 0, none⟩) k cap) k (flatC ms)
  cert : ∀ i (h : i < ms.length), RowC (ms[i]).1.ps wr (Fs i) (ms[i]).2
  len : ∀ i (h : i < ms.length), (ms[i]).1.ps.length ≤ 20
  far : ∀ i, i < k → ∀ b, Fs i b → base ≤ b ∧ b < wr.heap.size ∧ b ≠ g
  two : ∀ i j, i < k → j < k → i ≠ j → ∀ b, Fs i b → ¬ Fs j b
theorem RowR.gl {base : Nat} {wr : World} {k g cap : Nat} {ms : List (RecD × Value)} {Fs : Nat → Nat → Prop} (h : RowR base wr k g cap ms Fs) : base ≤ g ∧ g < wr.heap.size := h.own.lt g rfl
theorem RowR.count {base : Nat} {wr : World} {k g cap : Nat} {ms : List (RecD × Value)} {Fs : Nat → Nat → Prop} (h : RowR base wr k g cap ms Fs) : ms.length = k := by
  have h1 := h.own.1
  rw [flatC_len] at h1
  omega
theorem RowR.turn {base : Nat} {wr w' : World} {k g cap : Nat} {ms : List (RecD × Value)} {Fs : Nat → Nat → Prop} {T : Nat → Prop} (h : RowR base wr k g cap ms Fs) (ht : Turns T wr w') (hg : ¬ T g) (hF : ∀ i, i < k → ∀ b, Fs i b → ¬ T b) : RowR base w' k g cap ms Fs := by
  obtain ⟨g1, g2⟩ := h.gl
  refine ⟨⟨h.own.1, ?_⟩, fun i hi => (keepsRow _).turn (h.cert i hi) ht (hF i (by rw [h.count] at hi; exact hi)), h.len, fun i hi b hb => ⟨(h.far i hi b hb).1, Nat.lt_of_lt_of_le (h.far i hi b hb).2.1 ht.size, (h.far i hi b hb).2.2⟩, h.two⟩
  rcases h.own.2 with ⟨e, _⟩ | ⟨g', cap', cur, e, hb, hgg, h1, h2, h3, h4⟩
  · cases e
  · injection e with e1 _ e3
    injection e1 with e1
    injection e1 with e1 _ _
    subst e1 e3
    exact .inr ⟨g, cap, cur, rfl, hb, (ht.block g g2 hg).trans hgg, h1, h2, h3, h4⟩
theorem RowR.later {base : Nat} {wr w' : World} {k g cap : Nat} {ms : List (RecD × Value)} {Fs : Nat → Nat → Prop} (h : RowR base wr k g cap ms Fs) (hb : Below wr.heap.size wr w') : RowR base w' k g cap ms Fs := h.turn (T := fun _ => False) (Turns.of_below hb) (fun h => h) (fun _ _ _ _ h => h)
/-- One more is laid behind them. -/
theorem RowR.push {base : Nat} {w2 w3 : World} {k g cap g' cap' : Nat} {ms : List (RecD × Value)} {Fs : Nat → Nat → Prop} {d : RecD} {u : Value} {F : Nat → Prop} (h : RowR base w2 k g cap ms Fs) (hu : RowC d.ps w2 F u) (hl : d.ps.length ≤ 20) (hF : ∀ b, F b → base ≤ b ∧ b < w2.heap.size ∧ b ≠ g ∧ ∀ i, i < k → ¬ Fs i b)
    (hown : w3.ownsRow base 42 9 (.slice (some ⟨g', 0, none⟩) (k + 1) cap') (k + 1) (flatC (ms ++ [(d, u)]))) (hg : w2.grownBy w3 (some g)) (hlg : g' = g ∨ w2.heap.size ≤ g') :
    RowR base w3 (k + 1) g' cap' (ms ++ [(d, u)]) (fun i => if i = k then F else Fs i) := by
  have hlen := h.count
  have hs3 := hg.size
  have ht := Turns.of_grown hg
  refine ⟨hown, fun i hi => ?_, fun i hi => ?_, fun i hi b hbi => ?_, fun i j hi hj hij b hbi hbj => ?_⟩
  · rw [List.length_append, hlen] at hi
    by_cases e : i = k
    · subst e
      simp only [if_true]
      rw [List.getElem_append_right (by omega)]
      simp only [hlen, Nat.sub_self, List.getElem_cons_zero]
      exact (keepsRow _).turn hu ht (fun b hb e => (hF b hb).2.2.1 e)
    · have hik : i < k := by simp at hi; omega
      simp only [if_neg e]
      rw [List.getElem_append_left (by omega)]
      exact (keepsRow _).turn (h.cert i (by omega)) ht (fun b hb e => (h.far i hik b hb).2.2 e)
  · rw [List.length_append, hlen] at hi
    by_cases e : i = k
    · subst e
      rw [List.getElem_append_right (by omega)]
      simp only [hlen, Nat.sub_self, List.getElem_cons_zero]
      exact hl
    · have hik : i < k := by simp at hi; omega
      rw [List.getElem_append_left (by omega)]
      exact h.len i (by omega)
  · by_cases e : i = k
    · simp only [if_pos e] at hbi
      have h1 := hF b hbi
      exact ⟨h1.1, by omega, by omega⟩
    · simp only [if_neg e] at hbi
      have := h.far i (by omega) b hbi
      exact ⟨this.1, by omega, by omega⟩
  · by_cases e : i = k
    · by_cases e2 : j = k
      · omega
      · simp only [if_pos e] at hbi
        simp only [if_neg e2] at hbj
        exact (hF b hbi).2.2.2 j (by omega) hbj
    · simp only [if_neg e] at hbi
      by_cases e2 : j = k
      · simp only [if_pos e2] at hbj
        exact (hF b hbj).2.2.2 i (by omega) hbi
      · simp only [if_neg e2] at hbj
        exact h.two i j (by omega) (by omega) hij b hbi hbj
/-- A list of records was drawn. -/
def DrawnL (most : Nat) (g : Nat) (A : Option Addr) (n cap : Nat) (w : World) (e : Ending) (w' : World) : Prop :=
  ∃ (k gl lc : Nat) (ms : List (RecD × Value)) (Fs : Nat → Nat → Prop), e = .returned (.slice (some ⟨gl, 0, none⟩) k lc) ∧ RowR w.heap.size w' k gl lc ms Fs ∧ k < most ∧ Cur w' 132 .i64 g A n cap ∧ w.grownBy w' (some g)

set_option maxRecDepth 100000 in
set_option maxHeartbeats 8000000 in
theorem l9DrawList_any (g : Nat) (A : Option Addr) (n cap : Nat) (s l c sh : Int) (q o m cap' : Nat) (zs : List Int) (w : World) (hm : m ≤ maxLen) (hc1 : 1 ≤ c) (hc6 : c ≤ 6) (hs0 : 0 ≤ s) (hs9 : s ≤ 10) (hh1 : 1 ≤ sh) (hh4 : sh ≤ 4) (hc : Cur w 132 .i64 g A n cap) (hr : Row w w.heap.size (some ⟨q, o, none⟩) m zs) (hgq : g ≠ q) (hqw : q < w.heap.size) :
    Calls Tryz.prog 56 #[.pointer (some ⟨g, 0, none⟩), .agg #[.int .i64 s, .int .i64 l, .int .i64 c, .int .i64 sh, .slice (some ⟨q, o, none⟩) m cap'], .int .i64 9] w (DrawnL 9 g A n cap w) := by
  obtain ⟨j0, hj0, hy0, hy1, hy2⟩ := info_parts Tryz.infoRecI
  have hgl := hc.lt
  have hb0 := bel_trans (bel_alloc w (.cells #[.int .i64 s, .int .i64 l, .int .i64 c, .int .i64 sh, .slice (some ⟨q, o, none⟩) m cap'] 26)) (bel_alloc _ (.cells #[] 42))
  have B := (Box.new w 26 #[.int .i64 s, .int .i64 l, .int .i64 c, .int .i64 sh, .slice (some ⟨q, o, none⟩) m cap']).alloc (.cells #[] 42)
  have O0 := own_new (w.alloc (.cells #[.int .i64 s, .int .i64 l, .int .i64 c, .int .i64 sh, .slice (some ⟨q, o, none⟩) m cap'] 26)) 42 9
  simp only [World.size_alloc] at O0
  have R0 : RowR (w.heap.size + 1) ((w.alloc (.cells #[.int .i64 s, .int .i64 l, .int .i64 c, .int .i64 sh, .slice (some ⟨q, o, none⟩) m cap'] 26)).alloc (.cells #[] 42)) 0 (w.heap.size + 1) 0 [] (fun _ _ => False) := ⟨O0, fun i h => absurd h (by simp), fun i h => absurd h (by simp), fun i hi => absurd hi (by omega), fun i j hi => absurd hi (by omega)⟩
  have C0 := hc.kept (grown_bel hb0 none) (fun q hq => by cases hq)
  have G0 := grown_bel hb0 (some g)
  have HR := Lib.hid hr
  have HM := Lib.hid hm
  clear hr hm O0 hc
  go_enter Tryz.func56, Tryz.ntmps56
  go_upto_region 2 with fail
  generalize ((w.alloc _).alloc _ : World) = w0 at hb0 B R0 C0 G0 ⊢
  go_wp2_with fail
  refine (l1Below_any g A n cap 9 _ (by omega) C0).mono ?_
  rintro e w1 ⟨r, ⟨hr0, hr9⟩, rfl, C1, hg1⟩
  have t1 := Turns.of_grown hg1
  have R1 := R0.turn t1 (by omega) (fun i hi => absurd hi (by omega))
  have B1 := B.turn t1 (by omega)
  have G1 := grown_trans G0 hg1
  obtain ⟨x, rfl⟩ : ∃ x : Nat, r = (x : Int) := ⟨r.toNat, by omega⟩
  clear R0 B G0 C0 hg1 t1
  go_wp2_with fail
  go_loopw [7, 8] (fun lv nv wr => ∃ (k gl lc y : Nat) (ms : List (RecD × Value)) (Fs : Nat → Nat → Prop), k + y < 9 ∧ lv = .slice (some ⟨gl, 0, none⟩) k lc ∧ nv = .int .i64 y ∧ RowR (w.heap.size + 1) wr k gl lc ms Fs ∧ Cur wr 132 .i64 g A n cap ∧ w.grownBy wr (some g) ∧ Box wr w.heap.size 26 #[.int .i64 s, .int .i64 l, .int .i64 c, .int .i64 sh, .slice (some ⟨q, o, none⟩) m cap']) (fun _ nv _ => (intOf nv).toNat)
  case atStart => exact ⟨0, _, 0, x, [], _, by omega, rfl, rfl, R1, C1, G1, B1⟩
  case round =>
    clear R1 C1 G1 B1
    obtain ⟨k, gl, lc, y, ms, Fs, hky, rfl, rfl, R, CC, GG, BB⟩ := hrel
    by_cases hy : 0 < y
    · have hyI : (0 : Int) < (y : Int) := by omega
      have hyw : IntKind.i64.wrap ((y : Int) - 1) = (y : Int) - 1 := IntWalk.i64_in _ (by omega)
      have hkw : IntKind.i64.wrap ((k : Int) + 1) = (k : Int) + 1 := IntWalk.i64_in _ (by omega)
      have hsz := GG.size
      have RW : Row wr wr.heap.size (some ⟨q, o, none⟩) m zs := by
        refine ⟨HR.out.1, fun hn => ?_⟩
        obtain ⟨b, o', e, hb, hx⟩ := HR.out.2 hn
        have e' := e
        injection e' with e1
        injection e1 with e1 e2 _
        subst e1 e2
        exact ⟨q, o, rfl, by omega, fun i hi => (GG.cell_far ⟨q, o + i, none⟩ hqw (fun e => by injection e with e; exact hgq e.symm)).trans (hx i hi)⟩
      have HRW := Lib.hid RW
      clear RW
      go_wp2_with (refine wpList_load_box 26 _ rfl w.heap.size rfl 26 #[.int .i64 s, .int .i64 l, .int .i64 c, .int .i64 sh, .slice (some ⟨q, o, none⟩) m cap'] BB _ Tryz.underlying26 rfl (by kernel_rfl) (by first | rfl | simp [Region.wanted, yielded] | (simp [Region.wanted, yielded, Act.put] <;> omega)) ?_)
      refine (l9Draw_any g A n cap s l c sh q o m cap' zs ((k : Int) + 1) wr HM.out hc1 hc6 hs0 hs9 hh1 hh4 CC HRW.out hgq).mono ?_
      rintro e w2 ⟨C, d, rfl, hL, hdl, C2, hg2⟩
      have hgb := R.gl
      have t2 := Turns.of_grown hg2
      have hRF : ∀ i, i < k → ∀ b, Fs i b → b < wr.heap.size := fun i hi b hb => (R.far i hi b hb).2.1
      have hRL : ∀ i, i < k → ∀ b, Fs i b → w.heap.size + 1 ≤ b := fun i hi b hb => (R.far i hi b hb).1
      have R2 := R.turn t2 (by omega) (fun i hi b hb e => by have := hRL i hi b hb; have e : b = g := e; omega)
      have B2 := BB.turn t2 (by omega)
      have G2 := grown_trans GG hg2
      have hs2 := hg2.size
      obtain ⟨u, eC, gq, cq, hFq, eu, hownC⟩ := hL
      injection eC with eC
      subst eu eC
      have hu : RowC d.ps w2 (Iv wr.heap.size w2.heap.size) (.slice (some ⟨gq, 0, none⟩) d.ps.length cq) := ⟨gq, cq, hFq, rfl, hownC⟩
      unfold RecD.cells
      have hb3 := bel_alloc w2 (.cells #[.int .i64 d.r1, .int .i64 d.r2, .int .i64 d.r3, .int .i64 d.r4, .int .i64 d.r5, .int .i64 d.r6, .int .i64 d.r7, .slice (some ⟨gq, 0, none⟩) d.ps.length cq, .int .i64 d.r8] 42)
      have Q := Box.new w2 42 #[.int .i64 d.r1, .int .i64 d.r2, .int .i64 d.r3, .int .i64 d.r4, .int .i64 d.r5, .int .i64 d.r6, .int .i64 d.r7, .slice (some ⟨gq, 0, none⟩) d.ps.length cq, .int .i64 d.r8]
      have R3 := R2.later hb3
      have C3 := C2.kept (grown_bel hb3 none) (fun q hq => by cases hq)
      have G3 := grown_trans G2 (grown_bel hb3 (some g))
      have B3 := B2.later hb3 B2.lt
      have hu3 := (keepsRow d.ps).later hu hb3
      have hs3 := hb3.size
      have OWN := Lib.hid R3.own
      have hflat : flatC [(d, .slice (some ⟨gq, 0, none⟩) d.ps.length cq)] = (#[.int .i64 d.r1, .int .i64 d.r2, .int .i64 d.r3, .int .i64 d.r4, .int .i64 d.r5, .int .i64 d.r6, .int .i64 d.r7, .slice (some ⟨gq, 0, none⟩) d.ps.length cq, .int .i64 d.r8] : Array Value).toList := rfl
      have NEWS := Lib.hid (show ∀ j x, (flatC [(d, .slice (some ⟨gq, 0, none⟩) d.ps.length cq)])[j]? = some x → (w2.alloc (.cells #[.int .i64 d.r1, .int .i64 d.r2, .int .i64 d.r3, .int .i64 d.r4, .int .i64 d.r5, .int .i64 d.r6, .int .i64 d.r7, .slice (some ⟨gq, 0, none⟩) d.ps.length cq, .int .i64 d.r8] 42)).cell? ((⟨w2.heap.size, 0, none⟩ : Addr).add j) = some x from fun j x hj => by
        rw [hflat] at hj
        rw [show (⟨w2.heap.size, 0, none⟩ : Addr).add j = ⟨w2.heap.size, j, none⟩ by unfold Addr.add; split <;> simp_all]
        rw [Q.cell j]
        simpa using hj)
      have ONE := Lib.hid (show ∀ x ∈ flatC [(d, .slice (some ⟨gq, 0, none⟩) d.ps.length cq)], x.oneCell' = true from flatC_one (fun p hp => by rw [List.mem_singleton.1 hp]; rfl))
      have HW := Lib.hid (show w.heap.size + 1 ≤ (w2.alloc (.cells #[.int .i64 d.r1, .int .i64 d.r2, .int .i64 d.r3, .int .i64 d.r4, .int .i64 d.r5, .int .i64 d.r6, .int .i64 d.r7, .slice (some ⟨gq, 0, none⟩) d.ps.length cq, .int .i64 d.r8] 42)).heap.size by omega)
      clear hflat hownC hu R R2 CC GG BB C2 G2 B2 hg2 t2 Q
      go_wp2_with (at_builtin; refine wpList_append_lies _ rfl _ _ _ rfl (w.heap.size + 1) 42 j0 _ 9 88 Tryz.underlying27 hj0 hy0 hy1 hy2 rfl (by omega) (.slice (some ⟨gl, 0, none⟩) k lc) k (flatC ms) rfl OWN.out ⟨w2.heap.size, 0, none⟩ 1 1 (flatC [(d, .slice (some ⟨gq, 0, none⟩) d.ps.length cq)]) rfl rfl NEWS.out ONE.out (by omega) (by unfold maxLen; omega) (by omega) HW.out _ rfl ?_; intro g' cap2 w4 hown4 hgrow4 hlie hlg4)
      rw [← flatC_app] at hown4
      replace hgrow4 : World.grownBy _ w4 (some gl) := hgrow4
      have hlie2 : g' = gl ∨ (w2.alloc (.cells #[.int .i64 d.r1, .int .i64 d.r2, .int .i64 d.r3, .int .i64 d.r4, .int .i64 d.r5, .int .i64 d.r6, .int .i64 d.r7, .slice (some ⟨gq, 0, none⟩) d.ps.length cq, .int .i64 d.r8] 42)).heap.size ≤ g' := by
        rcases hlie with h | h
        · injection h with h
          exact .inl h.symm
        · exact .inr (by rw [h]; exact Nat.le_refl _)
      have R4 := Lib.hid (R3.push hu3 hdl (fun b hb => by
        have h1 := hb.1
        have h2 := hb.2
        exact ⟨by omega, by omega, by omega, fun i hi hf => by have := hRF i hi b hf; omega⟩) hown4 hgrow4 hlie2)
      have C4 := C3.kept hgrow4 (fun q hq => by injection hq with hq; omega)
      have G4 : w.grownBy w4 (some g) := ⟨hgrow4.os.trans G3.os, hgrow4.tape.trans G3.tape, hgrow4.output.trans G3.output, Nat.le_trans G3.size hgrow4.size, fun i hi hne => (hgrow4.block i (Nat.lt_of_lt_of_le hi G3.size) (fun e => by injection e with e; omega)).trans (G3.block i hi hne)⟩
      have B4 := B3.kept hgrow4 (by intro e; injection e with e; omega)
      clear hown4 hgrow4 hlie hlie2 hlg4 R3 C3 G3 B3 hu3 OWN NEWS ONE HW
      go_roundw
      case rel => exact ⟨k + 1, g', cap2, y - 1, _, _, by omega, by go_num, by congr 1; omega, R4.out, C4, G4, B4⟩
      case measure => simp [intOf]; omega
    · have hy0' : y = 0 := by omega
      subst hy0'
      have HRL := Lib.hid (show RowR w.heap.size wr k gl lc ms Fs from ⟨ownLow R.own (by omega), R.cert, R.len, fun i hi b hb => ⟨by have := (R.far i hi b hb).1; omega, (R.far i hi b hb).2⟩, R.two⟩)
      clear R
      go_wp2
      go_ret
      exact ⟨k, gl, lc, ms, Fs, rfl, HRL.out, by omega, CC, GG⟩
end Go.Proofs.YtmooajppfjglaaaGreat

/- What the model's bending of a record leaves: a record of its own, with another number or a seal more; conditions: the record is one's own. -/
namespace Go.Proofs.YtmooajppfjglaaaGreat
open Go Go.RowKit

/-- The state of a bending: the cursor, the record's variable, the answer's. -/
structure B9 (w wr : World) (g : Nat) (A : Option Addr) (n cap : Nat) (F : Nat → Prop) (d : RecD) (u : Value) : Prop where
  cur : Cur wr 132 .i64 g A n cap
  vr : Box wr w.heap.size 42 (d.cells u)
  rs : Box wr (w.heap.size + 1) 42 #[.int .i64 0, .int .i64 0, .int .i64 0, .int .i64 0, .int .i64 0, .int .i64 0, .int .i64 0, .slice none 0 0, .int .i64 0]
  own : RowC d.ps wr (fun b => F b ∨ w.heap.size + 1 < b) u
  len : d.ps.length ≤ 21
  trn : Turns (fun b => b = g ∨ F b) w wr
  gl : g < w.heap.size
  hF : ∀ b, F b → g < b ∧ b < w.heap.size
theorem B9.draw {w wr w' : World} {g : Nat} {A : Option Addr} {n cap : Nat} {F : Nat → Prop} {d : RecD} {u : Value} (h : B9 w wr g A n cap F d u) (hg : wr.grownBy w' (some g)) (hc : Cur w' 132 .i64 g A n cap) : B9 w w' g A n cap F d u := by
  have h1 := h.gl
  have ht := Turns.of_grown hg
  exact ⟨hc, h.vr.turn ht (by omega), h.rs.turn ht (by omega), (keepsRow d.ps).turn h.own ht (fun b hb e => by rcases hb with hb | hb; exact absurd (h.hF b hb).1 (by omega); omega), h.len, h.trn.trans (ht.sub fun i _ e => .inl e), h.gl, h.hF⟩
theorem B9.later {w wr w' : World} {g : Nat} {A : Option Addr} {n cap : Nat} {F : Nat → Prop} {d : RecD} {u : Value} (h : B9 w wr g A n cap F d u) (hb : Below wr.heap.size wr w') : B9 w w' g A n cap F d u :=
  h.draw (grown_bel hb (some g)) (h.cur.kept (grown_bel hb none) (fun q hq => by cases hq))
theorem grown_setCell (w : World) (g o : Nat) (u : Value) : w.grownBy (w.setCell ⟨g, o, none⟩ u) (some g) :=
  ⟨rfl, rfl, rfl, by rw [size_set]; exact Nat.le_refl _, fun i _ hne => Below.heap_setCell w ⟨g, o, none⟩ u i (fun e => hne (by rw [e]))⟩
/-- A number of the record's variable is written. -/
theorem B9.set {w wr : World} {g : Nat} {A : Option Addr} {n cap : Nat} {F : Nat → Prop} {d d' : RecD} {u : Value} (h : B9 w wr g A n cap F d u) (i : Nat) (x : Value) (hd : (d.cells u).setIfInBounds i x = d'.cells u) (hp : d'.ps = d.ps) : B9 w (wr.setCell ⟨w.heap.size, i, none⟩ x) g A n cap F d' u := by
  have h1 := h.gl
  have ht := turns_setCell wr w.heap.size i x
  refine ⟨h.cur.kept (grown_setCell wr w.heap.size i x) (fun q hq => by injection hq with hq; omega), hd ▸ h.vr.set i x, h.rs.turn ht (by omega), ?_, by rw [hp]; exact h.len, ?_, h.gl, h.hF⟩
  · rw [hp]
    exact (keepsRow d.ps).turn h.own ht (fun b hb e => by rcases hb with hb | hb; exact absurd (h.hF b hb).2 (by omega); omega)
  · exact ⟨ht.os.trans h.trn.os, ht.tape.trans h.trn.tape, ht.output.trans h.trn.output, Nat.le_trans h.trn.size ht.size, fun i hi hne => (ht.block i (Nat.lt_of_lt_of_le hi h.trn.size) (by omega)).trans (h.trn.block i hi hne)⟩
/-- A list that was appended to is laid into the record's variable. -/
theorem B9.push {w wr w2 : World} {g : Nat} {A : Option Addr} {n cap : Nat} {F : Nat → Prop} {d : RecD} {gq cq : Nat} {ob : Obj} {z0 z1 : Int} {gg cap2 : Nat} (h : B9 w wr g A n cap F d (.slice (some ⟨gq, 0, none⟩) d.ps.length cq)) (hl : d.ps.length ≤ 20) (hgq : F gq ∨ w.heap.size + 1 < gq)
    (hown : w2.ownsRow 0 127 2 (.slice (some ⟨gg, 0, none⟩) (d.ps.length + 1) cap2) (d.ps.length + 1) (flatP d.ps ++ [.int .i64 z0, .int .i64 z1])) (hg : (wr.alloc ob).grownBy w2 (some gq)) (hat : (some gq = some gg ∨ gg = wr.heap.size + 1)) :
    B9 w (w2.setCell ⟨w.heap.size, 7, none⟩ (.slice (some ⟨gg, 0, none⟩) (d.ps.length + 1) cap2)) g A n cap F ⟨d.r1, d.r2, d.r3, d.r4, d.r5, d.r6, d.r7, d.ps ++ [(z0, z1)], d.r8⟩ (.slice (some ⟨gg, 0, none⟩) (d.ps.length + 1) cap2) := by
  have h1 := h.gl
  have hR := h.rs.lt
  have hgqs : gq ≠ w.heap.size ∧ gq ≠ w.heap.size + 1 ∧ g < gq := by
    rcases hgq with hx | hx
    · have := h.hF gq hx; omega
    · omega
  have hbl := bel_alloc wr ob
  have ht0 := (Turns.of_below (T := fun _ => False) hbl)
  have ht1 := Turns.of_grown hg
  have ht := turns_setCell w2 w.heap.size 7 (.slice (some ⟨gg, 0, none⟩) (d.ps.length + 1) cap2)
  have hc1 := (h.cur.kept (grown_bel hbl none) (fun q hq => by cases hq))
  have hc2 : Cur w2 132 .i64 g A n cap := hc1.kept hg (fun q hq => by injection hq with hq; omega)
  have v2 := (h.vr.turn ht0 (fun h => h)).turn ht1 (Ne.symm hgqs.1)
  have r2 := (h.rs.turn ht0 (fun h => h)).turn ht1 (Ne.symm hgqs.2.1)
  have hgg : F gg ∨ w.heap.size + 1 < gg := by
    rcases hat with e | e
    · injection e with e; exact e ▸ hgq
    · right; omega
  have hggs : gg ≠ w.heap.size := by
    rcases hgg with hx | hx
    · have := (h.hF gg hx).2; omega
    · omega
  have hrow : RowC (d.ps ++ [(z0, z1)]) w2 (fun b => F b ∨ w.heap.size + 1 < b) (.slice (some ⟨gg, 0, none⟩) (d.ps.length + 1) cap2) :=
    ⟨gg, cap2, hgg, by simp, by simpa [flatP] using hown⟩
  refine ⟨hc2.kept (grown_setCell w2 w.heap.size 7 _) (fun q hq => by injection hq with hq; omega), v2.set 7 _, r2.turn ht (by omega), (keepsRow _).turn hrow ht (fun b hb e => by rcases hb with hb | hb; exact absurd (h.hF b hb).2 (by omega); omega), by simp; omega, ?_, h.gl, h.hF⟩
  have hzz : wr.heap.size ≤ (wr.alloc ob).heap.size := hbl.size
  have hw := h.trn.size
  exact ⟨ht.os.trans (ht1.os.trans (ht0.os.trans h.trn.os)), ht.tape.trans (ht1.tape.trans (ht0.tape.trans h.trn.tape)), ht.output.trans (ht1.output.trans (ht0.output.trans h.trn.output)), by have := ht.size; have := ht1.size; omega,
    fun i hi hne => (ht.block i (by have := ht1.size; omega) (by omega)).trans ((ht1.block i (by omega) (fun e => by rcases hgq with hx | hx; exact hne (.inr (e ▸ hx)); omega)).trans ((ht0.block i (by omega) (fun h => h)).trans (h.trn.block i hi hne)))⟩

/-- A record was bent. -/
def BentR (g : Nat) (A : Option Addr) (n cap : Nat) (F : Nat → Prop) (w : World) (e : Ending) (w' : World) : Prop :=
  ∃ (C : Array Value) (d : RecD), e = .returned (.agg C) ∧ LieCR d w' (fun b => F b ∨ w.heap.size + 1 < b) (.agg C) ∧ d.ps.length ≤ 21 ∧ Cur w' 132 .i64 g A n cap ∧ Turns (fun b => b = g ∨ F b) w w'

theorem rowC_form {ps : List (Int × Int)} {w : World} {F : Nat → Prop} {v : Value} (h : RowC ps w F v) : ∃ (A : Option Addr) (n c : Nat), v = .slice A n c := by
  obtain ⟨g, cap, -, rfl, -⟩ := h
  exact ⟨_, _, _, rfl⟩
theorem LieCR.one {d : RecD} {w : World} {F : Nat → Prop} {C : Array Value} (h : LieCR d w F (.agg C)) : C.all (·.oneCell') = true := (oneC h.lie.at).2
/-- The record is laid into the variable of the answer. -/
theorem bent_put {w wr : World} {g : Nat} {A : Option Addr} {n cap : Nat} {F : Nat → Prop} {d : RecD} {u : Value} (h : B9 w wr g A n cap F d u) :
    Box (wr.setRow (w.heap.size + 1) (d.cells u)) (w.heap.size + 1) 42 (d.cells u) ∧ LieCR d (wr.setRow (w.heap.size + 1) (d.cells u)) (fun b => F b ∨ w.heap.size + 1 < b) (.agg (d.cells u)) ∧ Cur (wr.setRow (w.heap.size + 1) (d.cells u)) 132 .i64 g A n cap ∧ Turns (fun b => b = g ∨ F b) w (wr.setRow (w.heap.size + 1) (d.cells u)) := by
  have ht := turns_setRow wr (w.heap.size + 1) (d.cells u)
  have hg : wr.grownBy (wr.setRow (w.heap.size + 1) (d.cells u)) (some (w.heap.size + 1)) := ⟨ht.os, ht.tape, ht.output, ht.size, fun i hi hne => ht.block i hi (fun e => hne (by rw [e]))⟩
  have h1 := h.gl
  refine ⟨h.rs.setRow _, ⟨u, rfl, (keepsRow d.ps).turn h.own ht (fun b hb e => by rcases hb with hb | hb; exact absurd (h.hF b hb).2 (by omega); omega)⟩, h.cur.kept hg (fun q hq => by injection hq with hq; omega), ?_⟩
  exact ⟨ht.os.trans h.trn.os, ht.tape.trans h.trn.tape, ht.output.trans h.trn.output, Nat.le_trans h.trn.size ht.size, fun i hi hne => (ht.block i (Nat.lt_of_lt_of_le hi h.trn.size) (by omega)).trans (h.trn.block i hi hne)⟩

set_option maxRecDepth 100000 in
set_option maxHeartbeats 8000000 in
theorem l9Bend_any (g : Nat) (A : Option Addr) (n cap : Nat) (F : Nat → Prop) (C : Array Value) (d : RecD) (w : World) (hc : Cur w 132 .i64 g A n cap) (hL : LieCR d w F (.agg C)) (hl : d.ps.length ≤ 20) (hF : ∀ b, F b → g < b ∧ b < w.heap.size) :
    Calls Tryz.prog 59 #[.pointer (some ⟨g, 0, none⟩), .agg C] w (BentR g A n cap F w) := by
  obtain ⟨i0, hi0, hz0, hz1, hz2⟩ := info_parts Tryz.infoSealI
  obtain ⟨u, e, hR⟩ := hL
  injection e with e
  subst e
  have hgl := hc.lt
  have K : B9 w ((w.alloc (.cells (d.cells u) 42)).alloc (.cells #[.int .i64 0, .int .i64 0, .int .i64 0, .int .i64 0, .int .i64 0, .int .i64 0, .int .i64 0, .slice none 0 0, .int .i64 0] 42)) g A n cap F d u := by
    have E := bel_trans (bel_alloc w (.cells (d.cells u) 42)) (bel_alloc _ (.cells #[.int .i64 0, .int .i64 0, .int .i64 0, .int .i64 0, .int .i64 0, .int .i64 0, .int .i64 0, .slice none 0 0, .int .i64 0] 42))
    refine ⟨hc.kept (grown_bel E none) (fun q hq => by cases hq), (Box.new w 42 (d.cells u)).alloc _, ?_, (keepsRow d.ps).sub ((keepsRow d.ps).later hR E) (fun b hb => .inl hb), by omega, (Turns.of_below (T := fun b => b = g ∨ F b) E), hgl, hF⟩
    have := Box.new (w.alloc (.cells (d.cells u) 42)) 42 #[.int .i64 0, .int .i64 0, .int .i64 0, .int .i64 0, .int .i64 0, .int .i64 0, .int .i64 0, .slice none 0 0, .int .i64 0]
    simp only [World.size_alloc] at this
    exact this
  clear hR hc hF
  have HL := Lib.hid hl
  go_enter Tryz.func59, Tryz.ntmps59
  go_upto_region 1 with fail
  generalize ((w.alloc _).alloc _ : World) = w0 at K ⊢
  -- the walk
  go_wp2_with fail
  refine (l1Below_any g A n cap 7 w0 (by omega) K.cur).mono ?_
  rintro e w1 ⟨x, ⟨hx0, hx6⟩, rfl, hc1, hg1⟩
  replace K := K.draw hg1 hc1
  clear hc1 hg1
  have hx : x = 0 ∨ x = 1 ∨ x = 2 ∨ x = 3 ∨ x = 4 ∨ x = 5 ∨ x = 6 := by omega
  clear hx0 hx6
  rcases hx with rfl | rfl | rfl | rfl | rfl | rfl | rfl
  · go_wp2_with fail
    refine (l1Num_any g A n cap 400 w1 (by omega) (by omega) K.cur).mono ?_
    rintro e w2 ⟨r, _, rfl, hc2, hg2⟩
    replace K := K.draw hg2 hc2
    have fr := K.vr.frozen
    obtain ⟨c0, c1, c2, c3, c4, c5, c6, c7, c8⟩ := Box.nine (v0 := .int .i64 d.r1) (v1 := .int .i64 d.r2) (v2 := .int .i64 d.r3) (v3 := .int .i64 d.r4) (v4 := .int .i64 d.r5) (v5 := .int .i64 d.r6) (v6 := .int .i64 d.r7) (v7 := u) (v8 := .int .i64 d.r8) K.vr
    have HK := Lib.hid (K.set (d' := ⟨r, d.r2, d.r3, d.r4, d.r5, d.r6, d.r7, d.ps, d.r8⟩) 0 (.int .i64 r) rfl rfl)
    clear K hc2 hg2
    go_wp2_with fail
    clear c0 c1 c2 c3 c4 c5 c6 c7 c8 fr
    generalize (w2.setCell _ _ : World) = w4 at HK ⊢
    obtain ⟨d', u', K⟩ : ∃ (d' : RecD) (u' : Value), B9 w w4 g A n cap F d' u' := ⟨_, _, HK.out⟩
    clear HK
    refine (l1Once_any g A n cap 2 w4 (by omega) K.cur).mono ?_
    rintro e w5 ⟨y, rfl, hc5, hg5⟩
    replace K := K.draw hg5 hc5
    clear hc5 hg5
    have IS : Hid ((Tryz.prog.info? 42).map (·.size) = some 9) := Lib.hid (by kernel_rfl)
    have hps := ownPs_lt K.own.own
    rcases y with _ | _
    · obtain ⟨B, L7, C7, G7⟩ := bent_put K
      have X := K.rs
      have VR := K.vr
      replace B := Lib.hid B
      have hlen5 := Lib.hid K.len
      clear K hps
      go_wp2_with (first | (refine wpList_load_box 42 _ rfl w.heap.size rfl 42 (d'.cells u') VR _ Tryz.underlying42 rfl IS.out (by first | rfl | simp [Region.wanted, yielded] | (simp [Region.wanted, yielded, Act.put] <;> omega)) ?_) | (refine wpList_store_row rfl 42 _ _ rfl (w.heap.size + 1) _ rfl rfl 42 #[.int .i64 0, .int .i64 0, .int .i64 0, .int .i64 0, .int .i64 0, .int .i64 0, .int .i64 0, .slice none 0 0, .int .i64 0] X IS.out rfl L7.one ?_))
      exact bodyPost_ret (v := .agg (d'.cells u')) (results_row (Tryz.results59) _ _ (w.heap.size + 1) 42 (d'.cells u') _ rfl B.out Tryz.underlying42 rfl IS.out) rfl ⟨_, d', rfl, L7, hlen5.out, C7, G7⟩
    · obtain ⟨A7, n7, c7, hu⟩ := rowC_form K.own
      subst hu
      obtain ⟨hm7, hl7, hp7⟩ := rowC_at K.own
      have VR : Box w5 w.heap.size 42 #[.int .i64 d'.r1, .int .i64 d'.r2, .int .i64 d'.r3, .int .i64 d'.r4, .int .i64 d'.r5, .int .i64 d'.r6, .int .i64 d'.r7, .slice A7 n7 c7, .int .i64 d'.r8] := K.vr
      have hn7 : n7 ≤ 4194304 := by have := K.len; omega
      clear hps
      go_wp2_with (refine wpList_load_box 42 _ rfl w.heap.size rfl 42 #[.int .i64 d'.r1, .int .i64 d'.r2, .int .i64 d'.r3, .int .i64 d'.r4, .int .i64 d'.r5, .int .i64 d'.r6, .int .i64 d'.r7, .slice A7 n7 c7, .int .i64 d'.r8] VR _ Tryz.underlying42 rfl IS.out (by first | rfl | simp [Region.wanted, yielded] | (simp [Region.wanted, yielded, Act.put] <;> omega)) ?_)
      refine (specSumOf_is d'.r1 d'.r2 d'.r3 d'.r4 d'.r5 d'.r6 d'.r7 A7 n7 c7 d'.r8 d'.ps w5 hn7 hp7).mono ?_
      rintro e w6 ⟨rfl, hb⟩
      replace K := K.later hb
      clear hb hp7 VR hl7 hm7
      have fr := K.vr.frozen
      have c8 : w6.cell? ⟨w.heap.size, 8, none⟩ = some (.int .i64 d'.r8) := K.vr.cell 8
      have K9 := Lib.hid (K.set (d' := ⟨d'.r1, d'.r2, d'.r3, d'.r4, d'.r5, d'.r6, d'.r7, d'.ps, sumN d'.r1 d'.r2 d'.r3 d'.r4 d'.r5 d'.r6 d'.r7 d'.ps⟩) 8 (.int .i64 (sumN d'.r1 d'.r2 d'.r3 d'.r4 d'.r5 d'.r6 d'.r7 d'.ps)) rfl rfl)
      clear K
      go_upto_region 18 with fail
      clear fr c8
      generalize (w6.setCell _ _ : World) = w7 at K9 ⊢
      obtain ⟨d9, u9, K⟩ : ∃ (d' : RecD) (u' : Value), B9 w w7 g A n cap F d' u' := ⟨_, _, K9.out⟩
      clear K9
      obtain ⟨B, L7, C7, G7⟩ := bent_put K
      have X := K.rs
      have VR := K.vr
      replace B := Lib.hid B
      have hlen5 := Lib.hid K.len
      clear K
      go_wp2_with (first | (refine wpList_load_box 42 _ rfl w.heap.size rfl 42 (d9.cells u9) VR _ Tryz.underlying42 rfl IS.out (by first | rfl | simp [Region.wanted, yielded] | (simp [Region.wanted, yielded, Act.put] <;> omega)) ?_) | (refine wpList_store_row rfl 42 _ _ rfl (w.heap.size + 1) _ rfl rfl 42 #[.int .i64 0, .int .i64 0, .int .i64 0, .int .i64 0, .int .i64 0, .int .i64 0, .int .i64 0, .slice none 0 0, .int .i64 0] X IS.out rfl L7.one ?_))
      exact bodyPost_ret (v := .agg (d9.cells u9)) (results_row (Tryz.results59) _ _ (w.heap.size + 1) 42 (d9.cells u9) _ rfl B.out Tryz.underlying42 rfl IS.out) rfl ⟨_, d9, rfl, L7, hlen5.out, C7, G7⟩
  · go_wp2_with fail
    refine (l1From_any g A n cap 0 3 w1 (by omega) (by omega) (by omega) K.cur).mono ?_
    rintro e w2 ⟨r, _, rfl, hc2, hg2⟩
    replace K := K.draw hg2 hc2
    have fr := K.vr.frozen
    obtain ⟨c0, c1, c2, c3, c4, c5, c6, c7, c8⟩ := Box.nine (v0 := .int .i64 d.r1) (v1 := .int .i64 d.r2) (v2 := .int .i64 d.r3) (v3 := .int .i64 d.r4) (v4 := .int .i64 d.r5) (v5 := .int .i64 d.r6) (v6 := .int .i64 d.r7) (v7 := u) (v8 := .int .i64 d.r8) K.vr
    have HK := Lib.hid (K.set (d' := ⟨d.r1, r, d.r3, d.r4, d.r5, d.r6, d.r7, d.ps, d.r8⟩) 1 (.int .i64 r) rfl rfl)
    clear K hc2 hg2
    go_wp2_with fail
    clear c0 c1 c2 c3 c4 c5 c6 c7 c8 fr
    generalize (w2.setCell _ _ : World) = w4 at HK ⊢
    obtain ⟨d', u', K⟩ : ∃ (d' : RecD) (u' : Value), B9 w w4 g A n cap F d' u' := ⟨_, _, HK.out⟩
    clear HK
    refine (l1Once_any g A n cap 2 w4 (by omega) K.cur).mono ?_
    rintro e w5 ⟨y, rfl, hc5, hg5⟩
    replace K := K.draw hg5 hc5
    clear hc5 hg5
    have IS : Hid ((Tryz.prog.info? 42).map (·.size) = some 9) := Lib.hid (by kernel_rfl)
    have hps := ownPs_lt K.own.own
    rcases y with _ | _
    · obtain ⟨B, L7, C7, G7⟩ := bent_put K
      have X := K.rs
      have VR := K.vr
      replace B := Lib.hid B
      have hlen5 := Lib.hid K.len
      clear K hps
      go_wp2_with (first | (refine wpList_load_box 42 _ rfl w.heap.size rfl 42 (d'.cells u') VR _ Tryz.underlying42 rfl IS.out (by first | rfl | simp [Region.wanted, yielded] | (simp [Region.wanted, yielded, Act.put] <;> omega)) ?_) | (refine wpList_store_row rfl 42 _ _ rfl (w.heap.size + 1) _ rfl rfl 42 #[.int .i64 0, .int .i64 0, .int .i64 0, .int .i64 0, .int .i64 0, .int .i64 0, .int .i64 0, .slice none 0 0, .int .i64 0] X IS.out rfl L7.one ?_))
      exact bodyPost_ret (v := .agg (d'.cells u')) (results_row (Tryz.results59) _ _ (w.heap.size + 1) 42 (d'.cells u') _ rfl B.out Tryz.underlying42 rfl IS.out) rfl ⟨_, d', rfl, L7, hlen5.out, C7, G7⟩
    · obtain ⟨A7, n7, c7, hu⟩ := rowC_form K.own
      subst hu
      obtain ⟨hm7, hl7, hp7⟩ := rowC_at K.own
      have VR : Box w5 w.heap.size 42 #[.int .i64 d'.r1, .int .i64 d'.r2, .int .i64 d'.r3, .int .i64 d'.r4, .int .i64 d'.r5, .int .i64 d'.r6, .int .i64 d'.r7, .slice A7 n7 c7, .int .i64 d'.r8] := K.vr
      have hn7 : n7 ≤ 4194304 := by have := K.len; omega
      clear hps
      go_wp2_with (refine wpList_load_box 42 _ rfl w.heap.size rfl 42 #[.int .i64 d'.r1, .int .i64 d'.r2, .int .i64 d'.r3, .int .i64 d'.r4, .int .i64 d'.r5, .int .i64 d'.r6, .int .i64 d'.r7, .slice A7 n7 c7, .int .i64 d'.r8] VR _ Tryz.underlying42 rfl IS.out (by first | rfl | simp [Region.wanted, yielded] | (simp [Region.wanted, yielded, Act.put] <;> omega)) ?_)
      refine (specSumOf_is d'.r1 d'.r2 d'.r3 d'.r4 d'.r5 d'.r6 d'.r7 A7 n7 c7 d'.r8 d'.ps w5 hn7 hp7).mono ?_
      rintro e w6 ⟨rfl, hb⟩
      replace K := K.later hb
      clear hb hp7 VR hl7 hm7
      have fr := K.vr.frozen
      have c8 : w6.cell? ⟨w.heap.size, 8, none⟩ = some (.int .i64 d'.r8) := K.vr.cell 8
      have K9 := Lib.hid (K.set (d' := ⟨d'.r1, d'.r2, d'.r3, d'.r4, d'.r5, d'.r6, d'.r7, d'.ps, sumN d'.r1 d'.r2 d'.r3 d'.r4 d'.r5 d'.r6 d'.r7 d'.ps⟩) 8 (.int .i64 (sumN d'.r1 d'.r2 d'.r3 d'.r4 d'.r5 d'.r6 d'.r7 d'.ps)) rfl rfl)
      clear K
      go_upto_region 18 with fail
      clear fr c8
      generalize (w6.setCell _ _ : World) = w7 at K9 ⊢
      obtain ⟨d9, u9, K⟩ : ∃ (d' : RecD) (u' : Value), B9 w w7 g A n cap F d' u' := ⟨_, _, K9.out⟩
      clear K9
      obtain ⟨B, L7, C7, G7⟩ := bent_put K
      have X := K.rs
      have VR := K.vr
      replace B := Lib.hid B
      have hlen5 := Lib.hid K.len
      clear K
      go_wp2_with (first | (refine wpList_load_box 42 _ rfl w.heap.size rfl 42 (d9.cells u9) VR _ Tryz.underlying42 rfl IS.out (by first | rfl | simp [Region.wanted, yielded] | (simp [Region.wanted, yielded, Act.put] <;> omega)) ?_) | (refine wpList_store_row rfl 42 _ _ rfl (w.heap.size + 1) _ rfl rfl 42 #[.int .i64 0, .int .i64 0, .int .i64 0, .int .i64 0, .int .i64 0, .int .i64 0, .int .i64 0, .slice none 0 0, .int .i64 0] X IS.out rfl L7.one ?_))
      exact bodyPost_ret (v := .agg (d9.cells u9)) (results_row (Tryz.results59) _ _ (w.heap.size + 1) 42 (d9.cells u9) _ rfl B.out Tryz.underlying42 rfl IS.out) rfl ⟨_, d9, rfl, L7, hlen5.out, C7, G7⟩
  · go_wp2_with fail
    refine (l1Num_any g A n cap 3 w1 (by omega) (by omega) K.cur).mono ?_
    rintro e w2 ⟨r, _, rfl, hc2, hg2⟩
    replace K := K.draw hg2 hc2
    have fr := K.vr.frozen
    obtain ⟨c0, c1, c2, c3, c4, c5, c6, c7, c8⟩ := Box.nine (v0 := .int .i64 d.r1) (v1 := .int .i64 d.r2) (v2 := .int .i64 d.r3) (v3 := .int .i64 d.r4) (v4 := .int .i64 d.r5) (v5 := .int .i64 d.r6) (v6 := .int .i64 d.r7) (v7 := u) (v8 := .int .i64 d.r8) K.vr
    have HK := Lib.hid (K.set (d' := ⟨d.r1, d.r2, r, d.r4, d.r5, d.r6, d.r7, d.ps, d.r8⟩) 2 (.int .i64 r) rfl rfl)
    clear K hc2 hg2
    go_wp2_with fail
    clear c0 c1 c2 c3 c4 c5 c6 c7 c8 fr
    generalize (w2.setCell _ _ : World) = w4 at HK ⊢
    obtain ⟨d', u', K⟩ : ∃ (d' : RecD) (u' : Value), B9 w w4 g A n cap F d' u' := ⟨_, _, HK.out⟩
    clear HK
    refine (l1Once_any g A n cap 2 w4 (by omega) K.cur).mono ?_
    rintro e w5 ⟨y, rfl, hc5, hg5⟩
    replace K := K.draw hg5 hc5
    clear hc5 hg5
    have IS : Hid ((Tryz.prog.info? 42).map (·.size) = some 9) := Lib.hid (by kernel_rfl)
    have hps := ownPs_lt K.own.own
    rcases y with _ | _
    · obtain ⟨B, L7, C7, G7⟩ := bent_put K
      have X := K.rs
      have VR := K.vr
      replace B := Lib.hid B
      have hlen5 := Lib.hid K.len
      clear K hps
      go_wp2_with (first | (refine wpList_load_box 42 _ rfl w.heap.size rfl 42 (d'.cells u') VR _ Tryz.underlying42 rfl IS.out (by first | rfl | simp [Region.wanted, yielded] | (simp [Region.wanted, yielded, Act.put] <;> omega)) ?_) | (refine wpList_store_row rfl 42 _ _ rfl (w.heap.size + 1) _ rfl rfl 42 #[.int .i64 0, .int .i64 0, .int .i64 0, .int .i64 0, .int .i64 0, .int .i64 0, .int .i64 0, .slice none 0 0, .int .i64 0] X IS.out rfl L7.one ?_))
      exact bodyPost_ret (v := .agg (d'.cells u')) (results_row (Tryz.results59) _ _ (w.heap.size + 1) 42 (d'.cells u') _ rfl B.out Tryz.underlying42 rfl IS.out) rfl ⟨_, d', rfl, L7, hlen5.out, C7, G7⟩
    · obtain ⟨A7, n7, c7, hu⟩ := rowC_form K.own
      subst hu
      obtain ⟨hm7, hl7, hp7⟩ := rowC_at K.own
      have VR : Box w5 w.heap.size 42 #[.int .i64 d'.r1, .int .i64 d'.r2, .int .i64 d'.r3, .int .i64 d'.r4, .int .i64 d'.r5, .int .i64 d'.r6, .int .i64 d'.r7, .slice A7 n7 c7, .int .i64 d'.r8] := K.vr
      have hn7 : n7 ≤ 4194304 := by have := K.len; omega
      clear hps
      go_wp2_with (refine wpList_load_box 42 _ rfl w.heap.size rfl 42 #[.int .i64 d'.r1, .int .i64 d'.r2, .int .i64 d'.r3, .int .i64 d'.r4, .int .i64 d'.r5, .int .i64 d'.r6, .int .i64 d'.r7, .slice A7 n7 c7, .int .i64 d'.r8] VR _ Tryz.underlying42 rfl IS.out (by first | rfl | simp [Region.wanted, yielded] | (simp [Region.wanted, yielded, Act.put] <;> omega)) ?_)
      refine (specSumOf_is d'.r1 d'.r2 d'.r3 d'.r4 d'.r5 d'.r6 d'.r7 A7 n7 c7 d'.r8 d'.ps w5 hn7 hp7).mono ?_
      rintro e w6 ⟨rfl, hb⟩
      replace K := K.later hb
      clear hb hp7 VR hl7 hm7
      have fr := K.vr.frozen
      have c8 : w6.cell? ⟨w.heap.size, 8, none⟩ = some (.int .i64 d'.r8) := K.vr.cell 8
      have K9 := Lib.hid (K.set (d' := ⟨d'.r1, d'.r2, d'.r3, d'.r4, d'.r5, d'.r6, d'.r7, d'.ps, sumN d'.r1 d'.r2 d'.r3 d'.r4 d'.r5 d'.r6 d'.r7 d'.ps⟩) 8 (.int .i64 (sumN d'.r1 d'.r2 d'.r3 d'.r4 d'.r5 d'.r6 d'.r7 d'.ps)) rfl rfl)
      clear K
      go_upto_region 18 with fail
      clear fr c8
      generalize (w6.setCell _ _ : World) = w7 at K9 ⊢
      obtain ⟨d9, u9, K⟩ : ∃ (d' : RecD) (u' : Value), B9 w w7 g A n cap F d' u' := ⟨_, _, K9.out⟩
      clear K9
      obtain ⟨B, L7, C7, G7⟩ := bent_put K
      have X := K.rs
      have VR := K.vr
      replace B := Lib.hid B
      have hlen5 := Lib.hid K.len
      clear K
      go_wp2_with (first | (refine wpList_load_box 42 _ rfl w.heap.size rfl 42 (d9.cells u9) VR _ Tryz.underlying42 rfl IS.out (by first | rfl | simp [Region.wanted, yielded] | (simp [Region.wanted, yielded, Act.put] <;> omega)) ?_) | (refine wpList_store_row rfl 42 _ _ rfl (w.heap.size + 1) _ rfl rfl 42 #[.int .i64 0, .int .i64 0, .int .i64 0, .int .i64 0, .int .i64 0, .int .i64 0, .int .i64 0, .slice none 0 0, .int .i64 0] X IS.out rfl L7.one ?_))
      exact bodyPost_ret (v := .agg (d9.cells u9)) (results_row (Tryz.results59) _ _ (w.heap.size + 1) 42 (d9.cells u9) _ rfl B.out Tryz.underlying42 rfl IS.out) rfl ⟨_, d9, rfl, L7, hlen5.out, C7, G7⟩
  · go_wp2_with fail
    refine (l1Below_any g A n cap 9 w1 (by omega) K.cur).mono ?_
    rintro e w2 ⟨r, _, rfl, hc2, hg2⟩
    replace K := K.draw hg2 hc2
    have fr := K.vr.frozen
    obtain ⟨c0, c1, c2, c3, c4, c5, c6, c7, c8⟩ := Box.nine (v0 := .int .i64 d.r1) (v1 := .int .i64 d.r2) (v2 := .int .i64 d.r3) (v3 := .int .i64 d.r4) (v4 := .int .i64 d.r5) (v5 := .int .i64 d.r6) (v6 := .int .i64 d.r7) (v7 := u) (v8 := .int .i64 d.r8) K.vr
    have HK := Lib.hid (K.set (d' := ⟨d.r1, d.r2, d.r3, r, d.r5, d.r6, d.r7, d.ps, d.r8⟩) 3 (.int .i64 r) rfl rfl)
    clear K hc2 hg2
    go_wp2_with fail
    clear c0 c1 c2 c3 c4 c5 c6 c7 c8 fr
    generalize (w2.setCell _ _ : World) = w4 at HK ⊢
    obtain ⟨d', u', K⟩ : ∃ (d' : RecD) (u' : Value), B9 w w4 g A n cap F d' u' := ⟨_, _, HK.out⟩
    clear HK
    refine (l1Once_any g A n cap 2 w4 (by omega) K.cur).mono ?_
    rintro e w5 ⟨y, rfl, hc5, hg5⟩
    replace K := K.draw hg5 hc5
    clear hc5 hg5
    have IS : Hid ((Tryz.prog.info? 42).map (·.size) = some 9) := Lib.hid (by kernel_rfl)
    have hps := ownPs_lt K.own.own
    rcases y with _ | _
    · obtain ⟨B, L7, C7, G7⟩ := bent_put K
      have X := K.rs
      have VR := K.vr
      replace B := Lib.hid B
      have hlen5 := Lib.hid K.len
      clear K hps
      go_wp2_with (first | (refine wpList_load_box 42 _ rfl w.heap.size rfl 42 (d'.cells u') VR _ Tryz.underlying42 rfl IS.out (by first | rfl | simp [Region.wanted, yielded] | (simp [Region.wanted, yielded, Act.put] <;> omega)) ?_) | (refine wpList_store_row rfl 42 _ _ rfl (w.heap.size + 1) _ rfl rfl 42 #[.int .i64 0, .int .i64 0, .int .i64 0, .int .i64 0, .int .i64 0, .int .i64 0, .int .i64 0, .slice none 0 0, .int .i64 0] X IS.out rfl L7.one ?_))
      exact bodyPost_ret (v := .agg (d'.cells u')) (results_row (Tryz.results59) _ _ (w.heap.size + 1) 42 (d'.cells u') _ rfl B.out Tryz.underlying42 rfl IS.out) rfl ⟨_, d', rfl, L7, hlen5.out, C7, G7⟩
    · obtain ⟨A7, n7, c7, hu⟩ := rowC_form K.own
      subst hu
      obtain ⟨hm7, hl7, hp7⟩ := rowC_at K.own
      have VR : Box w5 w.heap.size 42 #[.int .i64 d'.r1, .int .i64 d'.r2, .int .i64 d'.r3, .int .i64 d'.r4, .int .i64 d'.r5, .int .i64 d'.r6, .int .i64 d'.r7, .slice A7 n7 c7, .int .i64 d'.r8] := K.vr
      have hn7 : n7 ≤ 4194304 := by have := K.len; omega
      clear hps
      go_wp2_with (refine wpList_load_box 42 _ rfl w.heap.size rfl 42 #[.int .i64 d'.r1, .int .i64 d'.r2, .int .i64 d'.r3, .int .i64 d'.r4, .int .i64 d'.r5, .int .i64 d'.r6, .int .i64 d'.r7, .slice A7 n7 c7, .int .i64 d'.r8] VR _ Tryz.underlying42 rfl IS.out (by first | rfl | simp [Region.wanted, yielded] | (simp [Region.wanted, yielded, Act.put] <;> omega)) ?_)
      refine (specSumOf_is d'.r1 d'.r2 d'.r3 d'.r4 d'.r5 d'.r6 d'.r7 A7 n7 c7 d'.r8 d'.ps w5 hn7 hp7).mono ?_
      rintro e w6 ⟨rfl, hb⟩
      replace K := K.later hb
      clear hb hp7 VR hl7 hm7
      have fr := K.vr.frozen
      have c8 : w6.cell? ⟨w.heap.size, 8, none⟩ = some (.int .i64 d'.r8) := K.vr.cell 8
      have K9 := Lib.hid (K.set (d' := ⟨d'.r1, d'.r2, d'.r3, d'.r4, d'.r5, d'.r6, d'.r7, d'.ps, sumN d'.r1 d'.r2 d'.r3 d'.r4 d'.r5 d'.r6 d'.r7 d'.ps⟩) 8 (.int .i64 (sumN d'.r1 d'.r2 d'.r3 d'.r4 d'.r5 d'.r6 d'.r7 d'.ps)) rfl rfl)
      clear K
      go_upto_region 18 with fail
      clear fr c8
      generalize (w6.setCell _ _ : World) = w7 at K9 ⊢
      obtain ⟨d9, u9, K⟩ : ∃ (d' : RecD) (u' : Value), B9 w w7 g A n cap F d' u' := ⟨_, _, K9.out⟩
      clear K9
      obtain ⟨B, L7, C7, G7⟩ := bent_put K
      have X := K.rs
      have VR := K.vr
      replace B := Lib.hid B
      have hlen5 := Lib.hid K.len
      clear K
      go_wp2_with (first | (refine wpList_load_box 42 _ rfl w.heap.size rfl 42 (d9.cells u9) VR _ Tryz.underlying42 rfl IS.out (by first | rfl | simp [Region.wanted, yielded] | (simp [Region.wanted, yielded, Act.put] <;> omega)) ?_) | (refine wpList_store_row rfl 42 _ _ rfl (w.heap.size + 1) _ rfl rfl 42 #[.int .i64 0, .int .i64 0, .int .i64 0, .int .i64 0, .int .i64 0, .int .i64 0, .int .i64 0, .slice none 0 0, .int .i64 0] X IS.out rfl L7.one ?_))
      exact bodyPost_ret (v := .agg (d9.cells u9)) (results_row (Tryz.results59) _ _ (w.heap.size + 1) 42 (d9.cells u9) _ rfl B.out Tryz.underlying42 rfl IS.out) rfl ⟨_, d9, rfl, L7, hlen5.out, C7, G7⟩
  · go_wp2_with fail
    refine (l2DrawAny_any g A n cap w1 K.cur).mono ?_
    rintro e w2 ⟨r, r0, rfl, hc2, hg2⟩
    replace K := K.draw hg2 hc2
    have fr := K.vr.frozen
    obtain ⟨c0, c1, c2, c3, c4, c5, c6, c7, c8⟩ := Box.nine (v0 := .int .i64 d.r1) (v1 := .int .i64 d.r2) (v2 := .int .i64 d.r3) (v3 := .int .i64 d.r4) (v4 := .int .i64 d.r5) (v5 := .int .i64 d.r6) (v6 := .int .i64 d.r7) (v7 := u) (v8 := .int .i64 d.r8) K.vr
    have HK := Lib.hid ((K.set (d' := ⟨d.r1, d.r2, d.r3, d.r4, r, d.r6, d.r7, d.ps, d.r8⟩) 4 (.int .i64 r) rfl rfl).set (d' := ⟨d.r1, d.r2, d.r3, d.r4, r, r0, d.r7, d.ps, d.r8⟩) 5 (.int .i64 r0) rfl rfl)
    clear K hc2 hg2
    go_wp2_with fail
    clear c0 c1 c2 c3 c4 c5 c6 c7 c8 fr
    generalize ((w2.setCell _ _).setCell _ _ : World) = w4 at HK ⊢
    obtain ⟨d', u', K⟩ : ∃ (d' : RecD) (u' : Value), B9 w w4 g A n cap F d' u' := ⟨_, _, HK.out⟩
    clear HK
    refine (l1Once_any g A n cap 2 w4 (by omega) K.cur).mono ?_
    rintro e w5 ⟨y, rfl, hc5, hg5⟩
    replace K := K.draw hg5 hc5
    clear hc5 hg5
    have IS : Hid ((Tryz.prog.info? 42).map (·.size) = some 9) := Lib.hid (by kernel_rfl)
    have hps := ownPs_lt K.own.own
    rcases y with _ | _
    · obtain ⟨B, L7, C7, G7⟩ := bent_put K
      have X := K.rs
      have VR := K.vr
      replace B := Lib.hid B
      have hlen5 := Lib.hid K.len
      clear K hps
      go_wp2_with (first | (refine wpList_load_box 42 _ rfl w.heap.size rfl 42 (d'.cells u') VR _ Tryz.underlying42 rfl IS.out (by first | rfl | simp [Region.wanted, yielded] | (simp [Region.wanted, yielded, Act.put] <;> omega)) ?_) | (refine wpList_store_row rfl 42 _ _ rfl (w.heap.size + 1) _ rfl rfl 42 #[.int .i64 0, .int .i64 0, .int .i64 0, .int .i64 0, .int .i64 0, .int .i64 0, .int .i64 0, .slice none 0 0, .int .i64 0] X IS.out rfl L7.one ?_))
      exact bodyPost_ret (v := .agg (d'.cells u')) (results_row (Tryz.results59) _ _ (w.heap.size + 1) 42 (d'.cells u') _ rfl B.out Tryz.underlying42 rfl IS.out) rfl ⟨_, d', rfl, L7, hlen5.out, C7, G7⟩
    · obtain ⟨A7, n7, c7, hu⟩ := rowC_form K.own
      subst hu
      obtain ⟨hm7, hl7, hp7⟩ := rowC_at K.own
      have VR : Box w5 w.heap.size 42 #[.int .i64 d'.r1, .int .i64 d'.r2, .int .i64 d'.r3, .int .i64 d'.r4, .int .i64 d'.r5, .int .i64 d'.r6, .int .i64 d'.r7, .slice A7 n7 c7, .int .i64 d'.r8] := K.vr
      have hn7 : n7 ≤ 4194304 := by have := K.len; omega
      clear hps
      go_wp2_with (refine wpList_load_box 42 _ rfl w.heap.size rfl 42 #[.int .i64 d'.r1, .int .i64 d'.r2, .int .i64 d'.r3, .int .i64 d'.r4, .int .i64 d'.r5, .int .i64 d'.r6, .int .i64 d'.r7, .slice A7 n7 c7, .int .i64 d'.r8] VR _ Tryz.underlying42 rfl IS.out (by first | rfl | simp [Region.wanted, yielded] | (simp [Region.wanted, yielded, Act.put] <;> omega)) ?_)
      refine (specSumOf_is d'.r1 d'.r2 d'.r3 d'.r4 d'.r5 d'.r6 d'.r7 A7 n7 c7 d'.r8 d'.ps w5 hn7 hp7).mono ?_
      rintro e w6 ⟨rfl, hb⟩
      replace K := K.later hb
      clear hb hp7 VR hl7 hm7
      have fr := K.vr.frozen
      have c8 : w6.cell? ⟨w.heap.size, 8, none⟩ = some (.int .i64 d'.r8) := K.vr.cell 8
      have K9 := Lib.hid (K.set (d' := ⟨d'.r1, d'.r2, d'.r3, d'.r4, d'.r5, d'.r6, d'.r7, d'.ps, sumN d'.r1 d'.r2 d'.r3 d'.r4 d'.r5 d'.r6 d'.r7 d'.ps⟩) 8 (.int .i64 (sumN d'.r1 d'.r2 d'.r3 d'.r4 d'.r5 d'.r6 d'.r7 d'.ps)) rfl rfl)
      clear K
      go_upto_region 18 with fail
      clear fr c8
      generalize (w6.setCell _ _ : World) = w7 at K9 ⊢
      obtain ⟨d9, u9, K⟩ : ∃ (d' : RecD) (u' : Value), B9 w w7 g A n cap F d' u' := ⟨_, _, K9.out⟩
      clear K9
      obtain ⟨B, L7, C7, G7⟩ := bent_put K
      have X := K.rs
      have VR := K.vr
      replace B := Lib.hid B
      have hlen5 := Lib.hid K.len
      clear K
      go_wp2_with (first | (refine wpList_load_box 42 _ rfl w.heap.size rfl 42 (d9.cells u9) VR _ Tryz.underlying42 rfl IS.out (by first | rfl | simp [Region.wanted, yielded] | (simp [Region.wanted, yielded, Act.put] <;> omega)) ?_) | (refine wpList_store_row rfl 42 _ _ rfl (w.heap.size + 1) _ rfl rfl 42 #[.int .i64 0, .int .i64 0, .int .i64 0, .int .i64 0, .int .i64 0, .int .i64 0, .int .i64 0, .slice none 0 0, .int .i64 0] X IS.out rfl L7.one ?_))
      exact bodyPost_ret (v := .agg (d9.cells u9)) (results_row (Tryz.results59) _ _ (w.heap.size + 1) 42 (d9.cells u9) _ rfl B.out Tryz.underlying42 rfl IS.out) rfl ⟨_, d9, rfl, L7, hlen5.out, C7, G7⟩
  · go_wp2_with fail
    refine (l1Num_any g A n cap 9999 w1 (by omega) (by omega) K.cur).mono ?_
    rintro e w2 ⟨r, _, rfl, hc2, hg2⟩
    replace K := K.draw hg2 hc2
    have fr := K.vr.frozen
    obtain ⟨c0, c1, c2, c3, c4, c5, c6, c7, c8⟩ := Box.nine (v0 := .int .i64 d.r1) (v1 := .int .i64 d.r2) (v2 := .int .i64 d.r3) (v3 := .int .i64 d.r4) (v4 := .int .i64 d.r5) (v5 := .int .i64 d.r6) (v6 := .int .i64 d.r7) (v7 := u) (v8 := .int .i64 d.r8) K.vr
    have HK := Lib.hid (K.set (d' := ⟨d.r1, d.r2, d.r3, d.r4, d.r5, d.r6, r, d.ps, d.r8⟩) 6 (.int .i64 r) rfl rfl)
    clear K hc2 hg2
    go_wp2_with fail
    clear c0 c1 c2 c3 c4 c5 c6 c7 c8 fr
    generalize (w2.setCell _ _ : World) = w4 at HK ⊢
    obtain ⟨d', u', K⟩ : ∃ (d' : RecD) (u' : Value), B9 w w4 g A n cap F d' u' := ⟨_, _, HK.out⟩
    clear HK
    refine (l1Once_any g A n cap 2 w4 (by omega) K.cur).mono ?_
    rintro e w5 ⟨y, rfl, hc5, hg5⟩
    replace K := K.draw hg5 hc5
    clear hc5 hg5
    have IS : Hid ((Tryz.prog.info? 42).map (·.size) = some 9) := Lib.hid (by kernel_rfl)
    have hps := ownPs_lt K.own.own
    rcases y with _ | _
    · obtain ⟨B, L7, C7, G7⟩ := bent_put K
      have X := K.rs
      have VR := K.vr
      replace B := Lib.hid B
      have hlen5 := Lib.hid K.len
      clear K hps
      go_wp2_with (first | (refine wpList_load_box 42 _ rfl w.heap.size rfl 42 (d'.cells u') VR _ Tryz.underlying42 rfl IS.out (by first | rfl | simp [Region.wanted, yielded] | (simp [Region.wanted, yielded, Act.put] <;> omega)) ?_) | (refine wpList_store_row rfl 42 _ _ rfl (w.heap.size + 1) _ rfl rfl 42 #[.int .i64 0, .int .i64 0, .int .i64 0, .int .i64 0, .int .i64 0, .int .i64 0, .int .i64 0, .slice none 0 0, .int .i64 0] X IS.out rfl L7.one ?_))
      exact bodyPost_ret (v := .agg (d'.cells u')) (results_row (Tryz.results59) _ _ (w.heap.size + 1) 42 (d'.cells u') _ rfl B.out Tryz.underlying42 rfl IS.out) rfl ⟨_, d', rfl, L7, hlen5.out, C7, G7⟩
    · obtain ⟨A7, n7, c7, hu⟩ := rowC_form K.own
      subst hu
      obtain ⟨hm7, hl7, hp7⟩ := rowC_at K.own
      have VR : Box w5 w.heap.size 42 #[.int .i64 d'.r1, .int .i64 d'.r2, .int .i64 d'.r3, .int .i64 d'.r4, .int .i64 d'.r5, .int .i64 d'.r6, .int .i64 d'.r7, .slice A7 n7 c7, .int .i64 d'.r8] := K.vr
      have hn7 : n7 ≤ 4194304 := by have := K.len; omega
      clear hps
      go_wp2_with (refine wpList_load_box 42 _ rfl w.heap.size rfl 42 #[.int .i64 d'.r1, .int .i64 d'.r2, .int .i64 d'.r3, .int .i64 d'.r4, .int .i64 d'.r5, .int .i64 d'.r6, .int .i64 d'.r7, .slice A7 n7 c7, .int .i64 d'.r8] VR _ Tryz.underlying42 rfl IS.out (by first | rfl | simp [Region.wanted, yielded] | (simp [Region.wanted, yielded, Act.put] <;> omega)) ?_)
      refine (specSumOf_is d'.r1 d'.r2 d'.r3 d'.r4 d'.r5 d'.r6 d'.r7 A7 n7 c7 d'.r8 d'.ps w5 hn7 hp7).mono ?_
      rintro e w6 ⟨rfl, hb⟩
      replace K := K.later hb
      clear hb hp7 VR hl7 hm7
      have fr := K.vr.frozen
      have c8 : w6.cell? ⟨w.heap.size, 8, none⟩ = some (.int .i64 d'.r8) := K.vr.cell 8
      have K9 := Lib.hid (K.set (d' := ⟨d'.r1, d'.r2, d'.r3, d'.r4, d'.r5, d'.r6, d'.r7, d'.ps, sumN d'.r1 d'.r2 d'.r3 d'.r4 d'.r5 d'.r6 d'.r7 d'.ps⟩) 8 (.int .i64 (sumN d'.r1 d'.r2 d'.r3 d'.r4 d'.r5 d'.r6 d'.r7 d'.ps)) rfl rfl)
      clear K
      go_upto_region 18 with fail
      clear fr c8
      generalize (w6.setCell _ _ : World) = w7 at K9 ⊢
      obtain ⟨d9, u9, K⟩ : ∃ (d' : RecD) (u' : Value), B9 w w7 g A n cap F d' u' := ⟨_, _, K9.out⟩
      clear K9
      obtain ⟨B, L7, C7, G7⟩ := bent_put K
      have X := K.rs
      have VR := K.vr
      replace B := Lib.hid B
      have hlen5 := Lib.hid K.len
      clear K
      go_wp2_with (first | (refine wpList_load_box 42 _ rfl w.heap.size rfl 42 (d9.cells u9) VR _ Tryz.underlying42 rfl IS.out (by first | rfl | simp [Region.wanted, yielded] | (simp [Region.wanted, yielded, Act.put] <;> omega)) ?_) | (refine wpList_store_row rfl 42 _ _ rfl (w.heap.size + 1) _ rfl rfl 42 #[.int .i64 0, .int .i64 0, .int .i64 0, .int .i64 0, .int .i64 0, .int .i64 0, .int .i64 0, .slice none 0 0, .int .i64 0] X IS.out rfl L7.one ?_))
      exact bodyPost_ret (v := .agg (d9.cells u9)) (results_row (Tryz.results59) _ _ (w.heap.size + 1) 42 (d9.cells u9) _ rfl B.out Tryz.underlying42 rfl IS.out) rfl ⟨_, d9, rfl, L7, hlen5.out, C7, G7⟩
  · obtain ⟨gq, cq, hgq, rfl, hown⟩ := K.own
    have c7 : w1.cell? ⟨w.heap.size, 7, none⟩ = some (.slice (some ⟨gq, 0, none⟩) d.ps.length cq) := K.vr.cell 7
    have hR := K.rs.lt
    have hlt := (hown.lt gq rfl).2
    have hgqs : gq ≠ w.heap.size ∧ g < gq := by
      rcases hgq with hx | hx
      · have := K.hF gq hx; omega
      · omega
    have hlen := HL.out
    go_wp2_with fail
    go_region_law
      (first
        | (go_simp; go_at_call 58; refine (l1Below_any g A n cap 5 _ (by omega) ?_).mono ?_; exact K.cur; rintro e w2 ⟨r, _, rfl, hc2, hg2⟩; have K2 := K.draw (grown_of_drew hg2) hc2; have J1 : w2.cell? ⟨w.heap.size, 7, none⟩ = some (.slice (some ⟨gq, 0, none⟩) d.ps.length cq) := K2.vr.cell 7; have J1a : ∀ o, (w2.alloc o).cell? ⟨w.heap.size, 7, none⟩ = some (.slice (some ⟨gq, 0, none⟩) d.ps.length cq) := fun o => (K2.vr.alloc o).cell 7; have ho2 := hown.kept (grown_of_drew hg2) (.inr (by simp [Value.ownBlock]; omega)))
        | (refine step_append_lies _ (by rfl) _ _ _ (by rfl) 0 127 i0 _ 2 16 Tryz.underlying37 hi0 hz0 hz1 hz2 rfl (by omega) (.slice (some ⟨gq, 0, none⟩) d.ps.length cq) d.ps.length (flatP d.ps) (by rfl) (ho2.alloc _) ⟨w2.heap.size, 0, none⟩ 1 1 [.int .i64 r, .int .i64 0] (by rfl) (by rfl) (World.news_of_block (cs := #[.int .i64 r, .int .i64 0]) (t := 127) (fr := (0, 0)) (heap_alloc_new w2 _)) (by simp [Value.oneCell']) (by omega) (by unfold maxLen; omega) (by omega) (by omega) (w2.heap.size + 1) (by simp) ?_; intro gg cap2 w3 hown3 hgrow3 hat hlt3; replace hgrow3 : World.grownBy _ w3 (some gq) := hgrow3; have v3 := ((K2.vr.alloc (.cells #[.int .i64 r, .int .i64 0] 127)).kept hgrow3 (by intro e; injection e with e; omega)); have J2 : w3.cell? ⟨w.heap.size, 7, none⟩ = some (.slice (some ⟨gq, 0, none⟩) d.ps.length cq) := v3.cell 7; have fr := v3.frozen))
    all_goals
    have HK := Lib.hid (K2.push hlen hgq hown3 hgrow3 hat)
    clear J1 J1a c7 hown ho2 hown3 hgrow3 K K2 hat v3
    go_wp2_with fail
    clear J2 fr
    generalize (w3.setCell _ _ : World) = w4 at HK ⊢
    obtain ⟨d', u', K⟩ : ∃ (d' : RecD) (u' : Value), B9 w w4 g A n cap F d' u' := ⟨_, _, HK.out⟩
    clear HK
    refine (l1Once_any g A n cap 2 w4 (by omega) K.cur).mono ?_
    rintro e w5 ⟨y, rfl, hc5, hg5⟩
    replace K := K.draw hg5 hc5
    clear hc5 hg5
    have IS : Hid ((Tryz.prog.info? 42).map (·.size) = some 9) := Lib.hid (by kernel_rfl)
    have hps := ownPs_lt K.own.own
    rcases y with _ | _
    · obtain ⟨B, L7, C7, G7⟩ := bent_put K
      have X := K.rs
      have VR := K.vr
      replace B := Lib.hid B
      have hlen5 := Lib.hid K.len
      clear K hps
      go_wp2_with (first | (refine wpList_load_box 42 _ rfl w.heap.size rfl 42 (d'.cells u') VR _ Tryz.underlying42 rfl IS.out (by first | rfl | simp [Region.wanted, yielded] | (simp [Region.wanted, yielded, Act.put] <;> omega)) ?_) | (refine wpList_store_row rfl 42 _ _ rfl (w.heap.size + 1) _ rfl rfl 42 #[.int .i64 0, .int .i64 0, .int .i64 0, .int .i64 0, .int .i64 0, .int .i64 0, .int .i64 0, .slice none 0 0, .int .i64 0] X IS.out rfl L7.one ?_))
      exact bodyPost_ret (v := .agg (d'.cells u')) (results_row (Tryz.results59) _ _ (w.heap.size + 1) 42 (d'.cells u') _ rfl B.out Tryz.underlying42 rfl IS.out) rfl ⟨_, d', rfl, L7, hlen5.out, C7, G7⟩
    · obtain ⟨A7, n7, c7, hu⟩ := rowC_form K.own
      subst hu
      obtain ⟨hm7, hl7, hp7⟩ := rowC_at K.own
      have VR : Box w5 w.heap.size 42 #[.int .i64 d'.r1, .int .i64 d'.r2, .int .i64 d'.r3, .int .i64 d'.r4, .int .i64 d'.r5, .int .i64 d'.r6, .int .i64 d'.r7, .slice A7 n7 c7, .int .i64 d'.r8] := K.vr
      have hn7 : n7 ≤ 4194304 := by have := K.len; omega
      clear hps
      go_wp2_with (refine wpList_load_box 42 _ rfl w.heap.size rfl 42 #[.int .i64 d'.r1, .int .i64 d'.r2, .int .i64 d'.r3, .int .i64 d'.r4, .int .i64 d'.r5, .int .i64 d'.r6, .int .i64 d'.r7, .slice A7 n7 c7, .int .i64 d'.r8] VR _ Tryz.underlying42 rfl IS.out (by first | rfl | simp [Region.wanted, yielded] | (simp [Region.wanted, yielded, Act.put] <;> omega)) ?_)
      refine (specSumOf_is d'.r1 d'.r2 d'.r3 d'.r4 d'.r5 d'.r6 d'.r7 A7 n7 c7 d'.r8 d'.ps w5 hn7 hp7).mono ?_
      rintro e w6 ⟨rfl, hb⟩
      replace K := K.later hb
      clear hb hp7 VR hl7 hm7
      have fr := K.vr.frozen
      have c8 : w6.cell? ⟨w.heap.size, 8, none⟩ = some (.int .i64 d'.r8) := K.vr.cell 8
      have K9 := Lib.hid (K.set (d' := ⟨d'.r1, d'.r2, d'.r3, d'.r4, d'.r5, d'.r6, d'.r7, d'.ps, sumN d'.r1 d'.r2 d'.r3 d'.r4 d'.r5 d'.r6 d'.r7 d'.ps⟩) 8 (.int .i64 (sumN d'.r1 d'.r2 d'.r3 d'.r4 d'.r5 d'.r6 d'.r7 d'.ps)) rfl rfl)
      clear K
      go_upto_region 18 with fail
      clear fr c8
      generalize (w6.setCell _ _ : World) = w7 at K9 ⊢
      obtain ⟨d9, u9, K⟩ : ∃ (d' : RecD) (u' : Value), B9 w w7 g A n cap F d' u' := ⟨_, _, K9.out⟩
      clear K9
      obtain ⟨B, L7, C7, G7⟩ := bent_put K
      have X := K.rs
      have VR := K.vr
      replace B := Lib.hid B
      have hlen5 := Lib.hid K.len
      clear K
      go_wp2_with (first | (refine wpList_load_box 42 _ rfl w.heap.size rfl 42 (d9.cells u9) VR _ Tryz.underlying42 rfl IS.out (by first | rfl | simp [Region.wanted, yielded] | (simp [Region.wanted, yielded, Act.put] <;> omega)) ?_) | (refine wpList_store_row rfl 42 _ _ rfl (w.heap.size + 1) _ rfl rfl 42 #[.int .i64 0, .int .i64 0, .int .i64 0, .int .i64 0, .int .i64 0, .int .i64 0, .int .i64 0, .slice none 0 0, .int .i64 0] X IS.out rfl L7.one ?_))
      exact bodyPost_ret (v := .agg (d9.cells u9)) (results_row (Tryz.results59) _ _ (w.heap.size + 1) 42 (d9.cells u9) _ rfl B.out Tryz.underlying42 rfl IS.out) rfl ⟨_, d9, rfl, L7, hlen5.out, C7, G7⟩

end Go.Proofs.YtmooajppfjglaaaGreat


namespace Go.Proofs.YtmooajppfjglaaaGreat
open Go Go.RowKit

/-- The state of DrawRecOk: the cursor, the variables of the answers, the group and its variable; then the record and its. -/
structure DO (w wr : World) (g : Nat) (A : Option Addr) (n cap : Nat) (VG : Nat) (gd : GrpD) (G : Array Value) (q : Nat) : Prop where
  bel : Below w.heap.size w wr
  cur : Cur wr 132 .i64 g A n cap
  r2 : Box wr w.heap.size 26 #[.int .i64 0, .int .i64 0, .int .i64 0, .int .i64 0, .slice none 0 0]
  r3 : Box wr (w.heap.size + 1) 42 #[.int .i64 0, .int .i64 0, .int .i64 0, .int .i64 0, .int .i64 0, .int .i64 0, .int .i64 0, .slice none 0 0, .int .i64 0]
  vg : Box wr VG 26 G
  grp : AtG gd wr (· = q) (.agg G)
  gl : w.heap.size + 1 < g
  gV : g < VG
  gq : g < q
  qV : q ≠ VG
  glen : gd.zs.length ≤ 100
theorem DO.turn {w wr w' : World} {g : Nat} {A : Option Addr} {n cap VG : Nat} {gd : GrpD} {G : Array Value} {q : Nat} {T : Nat → Prop} (h : DO w wr g A n cap VG gd G q) (ht : Turns T wr w') (hc : Cur w' 132 .i64 g A n cap) (hT : ∀ b, T b → g ≤ b ∧ b ≠ VG ∧ b ≠ q) : DO w w' g A n cap VG gd G q := by
  have h1 := h.gl
  have h2 := h.gV
  have h3 := h.gq
  exact ⟨ht.below h.bel (fun i hi => by have := hT i hi; omega), hc, h.r2.turn ht (fun hi => by have := hT _ hi; omega), h.r3.turn ht (fun hi => by have := hT _ hi; omega), h.vg.turn ht (fun hi => (hT _ hi).2.1 rfl), (keepsG gd).turn h.grp ht (fun b hb hi => (hT b hi).2.2 hb), h1, h2, h3, h.qV, h.glen⟩
theorem DO.draw {w wr w' : World} {g : Nat} {A : Option Addr} {n cap VG : Nat} {gd : GrpD} {G : Array Value} {q : Nat} (h : DO w wr g A n cap VG gd G q) (hg : wr.grownBy w' (some g)) (hc : Cur w' 132 .i64 g A n cap) : DO w w' g A n cap VG gd G q :=
  h.turn (Turns.of_grown hg) hc (fun b hb => by have := h.gV; have := h.gq; omega)
theorem DO.later {w wr w' : World} {g : Nat} {A : Option Addr} {n cap VG : Nat} {gd : GrpD} {G : Array Value} {q : Nat} (h : DO w wr g A n cap VG gd G q) (hb : Below wr.heap.size wr w') : DO w w' g A n cap VG gd G q :=
  h.draw (grown_bel hb (some g)) (h.cur.kept (grown_bel hb none) (fun q hq => by cases hq))
theorem DO.lt {w wr : World} {g : Nat} {A : Option Addr} {n cap VG : Nat} {gd : GrpD} {G : Array Value} {q : Nat} (h : DO w wr g A n cap VG gd G q) : VG < wr.heap.size := h.vg.lt
/-- And the record. -/
structure DQ (w wr : World) (g : Nat) (A : Option Addr) (n cap : Nat) (VG : Nat) (gd : GrpD) (G : Array Value) (q VR : Nat) (d : RecD) (C : Array Value) (F : Nat → Prop) : Prop where
  o : DO w wr g A n cap VG gd G q
  vr : Box wr VR 42 C
  rc : LieCR d wr F (.agg C)
  len : d.ps.length ≤ 21
  gR : g < VR
  VV : VR ≠ VG
  Vq : VR ≠ q
  hF : ∀ b, F b → g < b ∧ b ≠ VG ∧ b ≠ q ∧ b ≠ VR
  ql : q < wr.heap.size
theorem DQ.draw {w wr w' : World} {g : Nat} {A : Option Addr} {n cap VG : Nat} {gd : GrpD} {G : Array Value} {q VR : Nat} {d : RecD} {C : Array Value} {F : Nat → Prop} (h : DQ w wr g A n cap VG gd G q VR d C F) (hg : wr.grownBy w' (some g)) (hc : Cur w' 132 .i64 g A n cap) : DQ w w' g A n cap VG gd G q VR d C F := by
  have ht := Turns.of_grown hg
  have h1 := h.gR
  exact ⟨h.o.draw hg hc, h.vr.turn ht (by omega), (keepsCR d).turn h.rc ht (fun b hb e => by have := (h.hF b hb).1; omega), h.len, h.gR, h.VV, h.Vq, h.hF, Nat.lt_of_lt_of_le h.ql hg.size⟩
/-- Both are laid: what is answered. -/
structure DE (w wr : World) (VG VR : Nat) (gd : GrpD) (G : Array Value) (d : RecD) (C : Array Value) : Prop where
  bel : Below w.heap.size w wr
  r2 : Box wr w.heap.size 26 #[.int .i64 0, .int .i64 0, .int .i64 0, .int .i64 0, .slice none 0 0]
  r3 : Box wr (w.heap.size + 1) 42 #[.int .i64 0, .int .i64 0, .int .i64 0, .int .i64 0, .int .i64 0, .int .i64 0, .int .i64 0, .slice none 0 0, .int .i64 0]
  vg : Box wr VG 26 G
  vr : Box wr VR 42 C
  grp : AtG gd wr (fun b => w.heap.size + 1 < b) (.agg G)
  rc : LieCR d wr (fun b => w.heap.size + 1 < b) (.agg C)
  hG : w.heap.size + 1 < VG
  hR : w.heap.size + 1 < VR
  glen : gd.zs.length ≤ 100
  len : d.ps.length ≤ 21
theorem DE.of {w wr : World} {g : Nat} {A : Option Addr} {n cap VG : Nat} {gd : GrpD} {G : Array Value} {q VR : Nat} {d : RecD} {C : Array Value} {F : Nat → Prop} (h : DQ w wr g A n cap VG gd G q VR d C F) : DE w wr VG VR gd G d C := by
  have h1 := h.o.gl
  have h2 := h.o.gV
  have h3 := h.o.gq
  have h4 := h.gR
  exact ⟨h.o.bel, h.o.r2, h.o.r3, h.o.vg, h.vr, (keepsG gd).sub h.o.grp (fun b hb => by omega), (keepsCR d).sub h.rc (fun b hb => by have := (h.hF b hb).1; omega), by omega, by omega, h.o.glen, h.len⟩
theorem DE.drew {w wr : World} {VG VR : Nat} {gd : GrpD} {G : Array Value} {d : RecD} {C : Array Value} (h : DE w wr VG VR gd G d C) : DE w wr.drew VG VR gd G d C := by
  have hb := (Below.refl wr.heap.size wr).drew
  exact ⟨bel_trans h.bel hb, h.r2.later hb h.r2.lt, h.r3.later hb h.r3.lt, h.vg.later hb h.vg.lt, h.vr.later hb h.vr.lt, (keepsG gd).later h.grp hb, (keepsCR d).later h.rc hb, h.hG, h.hR, h.glen, h.len⟩
theorem sizeGI {d : GrpD} {w : World} {F : Nat → Prop} {C : Array Value} (h : AtG d w F (.agg C)) : (Tryz.prog.info? 26).map (·.size) = some C.size := (sizeG h).2
theorem okB_len9 {s l c sh : Int} {zs : List Int} (h : okB s l c sh zs = true) : (zs.length : Int) = s + c := by
  simp only [okB, Bool.and_eq_true, decide_eq_true_eq] at h
  exact h.1.2
theorem rowG_of {gd : GrpD} {w : World} {F : Nat → Prop} {a b c d : Int} {A : Option Addr} {n cap : Nat} (h : AtG gd w F (.agg #[.int .i64 a, .int .i64 b, .int .i64 c, .int .i64 d, .slice A n cap])) : Row w w.heap.size A n gd.zs := by
  obtain ⟨A', n', cap', e, -, hr⟩ := h
  injection e with e
  injection e with e
  simp only [List.cons.injEq, Value.slice.injEq, and_true] at e
  obtain ⟨-, -, -, -, rfl, rfl, rfl⟩ := e
  exact hr.1
end Go.Proofs.YtmooajppfjglaaaGreat
