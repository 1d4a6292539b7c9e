/- A block of shelves of one's own: each with its lists in blocks of its own; read, written, made anew; no conditions. -/
import Derived.Test.YtmooajppfjglaaaGreatKinds8a
import Derived.Test.YtmooajppfjglaaaGreatCopiesReg
namespace Go.Proofs.YtmooajppfjglaaaGreat
open Go Go.RowKit

theorem turns_cell5 (w : World) (g o : Nat) (u : Value) : Turns (· = g) w (w.setCell ⟨g, o, none⟩ u) :=
  ⟨rfl, rfl, rfl, by rw [size_set]; exact Nat.le_refl _, fun i _ hne => Below.heap_setCell w ⟨g, o, none⟩ u i hne⟩
/-- The block g holds these shelves; the lists of the one at place i lie in blocks of Fs i, apart from all others'. -/
structure RegsAt (P : RegD → World → (Nat → Prop) → Value → Prop) (w : World) (g : Nat) (rs : List RegD) (Fs : Nat → Nat → Prop) : Prop where
  blk : ∃ cs, Box w g 40 cs ∧ cs.size = rs.length * 5 ∧ ∀ i (h : i < rs.length), ∃ u v, cs[i * 5]? = some (.int .i64 (rs[i]).t) ∧ cs[i * 5 + 1]? = some (.int .i64 (rs[i]).q) ∧ cs[i * 5 + 2]? = some (.int .i64 (rs[i]).v) ∧ cs[i * 5 + 3]? = some u ∧ cs[i * 5 + 4]? = some v ∧
    P rs[i] w (Fs i) (.agg #[.int .i64 (rs[i]).t, .int .i64 (rs[i]).q, .int .i64 (rs[i]).v, u, v])
  apart : ∀ i, i < rs.length → ∀ b, Fs i b → b ≠ g
  two : ∀ i j, i < rs.length → j < rs.length → i ≠ j → ∀ b, Fs i b → ¬ Fs j b
section
variable {P : RegD → World → (Nat → Prop) → Value → Prop}
theorem RegsAt.lt {w : World} {g : Nat} {rs : List RegD} {Fs : Nat → Nat → Prop} (h : RegsAt P w g rs Fs) : g < w.heap.size := by
  obtain ⟨cs, hb, _⟩ := h.blk
  exact hb.lt
variable (kp : ∀ d, Keeps (P d))
include kp in
theorem RegsAt.turn {w w' : World} {g : Nat} {rs : List RegD} {Fs : Nat → Nat → Prop} {T : Nat → Prop} (h : RegsAt P w g rs Fs) (ht : Turns T w w') (hg : ¬ T g) (hF : ∀ i, i < rs.length → ∀ b, Fs i b → ¬ T b) : RegsAt P w' g rs Fs := by
  obtain ⟨cs, hb, hs, hc⟩ := h.blk
  refine ⟨⟨cs, hb.turn ht hg, hs, fun i hi => ?_⟩, h.apart, h.two⟩
  obtain ⟨u, v, c0, c1, c2, c3, c4, hL⟩ := hc i hi
  exact ⟨u, v, c0, c1, c2, c3, c4, (kp _).turn hL ht (hF i hi)⟩
include kp in
theorem RegsAt.later {w w' : World} {g : Nat} {rs : List RegD} {Fs : Nat → Nat → Prop} (h : RegsAt P w g rs Fs) (hb : Below w.heap.size w w') : RegsAt P w' g rs Fs :=
  RegsAt.turn kp h (T := fun _ => False) (Turns.of_below hb) (fun h => h) (fun _ _ _ _ h => h)
/-- One of them, read: its cells, and what they are. -/
theorem RegsAt.get {w : World} {g : Nat} {rs : List RegD} {Fs : Nat → Nat → Prop} (h : RegsAt P w g rs Fs) {i : Nat} (hi : i < rs.length) :
    ∃ u v, w.cell? ⟨g, i * 5, none⟩ = some (.int .i64 (rs[i]).t) ∧ w.cell? ⟨g, i * 5 + 1, none⟩ = some (.int .i64 (rs[i]).q) ∧ w.cell? ⟨g, i * 5 + 2, none⟩ = some (.int .i64 (rs[i]).v) ∧ w.cell? ⟨g, i * 5 + 3, none⟩ = some u ∧ w.cell? ⟨g, i * 5 + 4, none⟩ = some v ∧
      P rs[i] w (Fs i) (.agg #[.int .i64 (rs[i]).t, .int .i64 (rs[i]).q, .int .i64 (rs[i]).v, u, v]) := by
  obtain ⟨cs, hb, hs, hc⟩ := h.blk
  obtain ⟨u, v, c0, c1, c2, c3, c4, hL⟩ := hc i hi
  exact ⟨u, v, (hb.cell _).trans c0, (hb.cell _).trans c1, (hb.cell _).trans c2, (hb.cell _).trans c3, (hb.cell _).trans c4, hL⟩
theorem RegsAt.frozen {w : World} {g : Nat} {rs : List RegD} {Fs : Nat → Nat → Prop} (h : RegsAt P w g rs Fs) (o : Nat) : w.frozen? ⟨g, o, none⟩ = false := by
  obtain ⟨cs, hb, _⟩ := h.blk
  exact hb.frozen o
theorem set5 (cs : Array Value) (i : Nat) (x0 x1 x2 x3 x4 : Value) (h : i * 5 + 4 < cs.size) (cs' : Array Value) (hcs : cs' = ((((cs.setIfInBounds (i * 5) x0).setIfInBounds (i * 5 + 1) x1).setIfInBounds (i * 5 + 2) x2).setIfInBounds (i * 5 + 3) x3).setIfInBounds (i * 5 + 4) x4) :
    cs'.size = cs.size ∧ (cs'[i * 5]? = some x0 ∧ cs'[i * 5 + 1]? = some x1 ∧ cs'[i * 5 + 2]? = some x2 ∧ cs'[i * 5 + 3]? = some x3 ∧ cs'[i * 5 + 4]? = some x4) ∧ ∀ k, (k < i * 5 ∨ i * 5 + 4 < k) → cs'[k]? = cs[k]? := by
  subst hcs
  refine ⟨by simp, ⟨?_, ?_, ?_, ?_, ?_⟩, fun k hk => ?_⟩
  all_goals simp only [Array.getElem?_setIfInBounds, Array.size_setIfInBounds]
  · rw [if_neg (by omega), if_neg (by omega), if_neg (by omega), if_neg (by omega), if_pos trivial, if_pos (by omega)]
  · rw [if_neg (by omega), if_neg (by omega), if_neg (by omega), if_pos trivial, if_pos (by omega)]
  · rw [if_neg (by omega), if_neg (by omega), if_pos trivial, if_pos (by omega)]
  · rw [if_neg (by omega), if_pos trivial, if_pos (by omega)]
  · rw [if_pos trivial, if_pos (by omega)]
  · rw [if_neg (by omega), if_neg (by omega), if_neg (by omega), if_neg (by omega), if_neg (by omega)]
def upF (Fs : Nat → Nat → Prop) (i : Nat) (F : Nat → Prop) : Nat → Nat → Prop := fun j => if j = i then F else Fs j
include kp in
/-- One of them is written anew. -/
theorem RegsAt.put {w : World} {g : Nat} {rs : List RegD} {Fs : Nat → Nat → Prop} (h : RegsAt P w g rs Fs) {i : Nat} (hi : i < rs.length) {d : RegD} {F : Nat → Prop} {u v : Value} (hL : P d w F (.agg #[.int .i64 d.t, .int .i64 d.q, .int .i64 d.v, u, v])) (hg : ∀ b, F b → b ≠ g) (ho : ∀ j, j < rs.length → j ≠ i → ∀ b, F b → ¬ Fs j b) :
    RegsAt P (((((w.setCell ⟨g, i * 5, none⟩ (.int .i64 d.t)).setCell ⟨g, i * 5 + 1, none⟩ (.int .i64 d.q)).setCell ⟨g, i * 5 + 2, none⟩ (.int .i64 d.v)).setCell ⟨g, i * 5 + 3, none⟩ u).setCell ⟨g, i * 5 + 4, none⟩ v) g (rs.set i d) (upF Fs i F) := by
  obtain ⟨cs, hb, hs, hc⟩ := h.blk
  have hb' := ((((hb.set (i * 5) (.int .i64 d.t)).set (i * 5 + 1) (.int .i64 d.q)).set (i * 5 + 2) (.int .i64 d.v)).set (i * 5 + 3) u).set (i * 5 + 4) v
  obtain ⟨s1, ⟨n0, n1, n2, n3, n4⟩, s3⟩ := set5 cs i (.int .i64 d.t) (.int .i64 d.q) (.int .i64 d.v) u v (by omega) _ rfl
  have t5 : Turns (· = g) w (((((w.setCell ⟨g, i * 5, none⟩ (.int .i64 d.t)).setCell ⟨g, i * 5 + 1, none⟩ (.int .i64 d.q)).setCell ⟨g, i * 5 + 2, none⟩ (.int .i64 d.v)).setCell ⟨g, i * 5 + 3, none⟩ u).setCell ⟨g, i * 5 + 4, none⟩ v) :=
    ((((turns_cell5 w g _ _).trans (turns_cell5 _ g _ _)).trans (turns_cell5 _ g _ _)).trans (turns_cell5 _ g _ _)).trans (turns_cell5 _ g _ _)
  refine ⟨⟨_, hb', by rw [s1, hs, List.length_set], fun j hj => ?_⟩, fun j hj b hbj => ?_, fun j k hj hk hjk b hbj hbk => ?_⟩
  · rw [List.length_set] at hj
    by_cases e : j = i
    · subst e
      simp only [List.getElem_set_self]
      refine ⟨u, v, n0, n1, n2, n3, n4, ?_⟩
      simp only [upF, if_true]
      exact (kp d).turn hL t5 hg
    · simp only [List.getElem_set_ne (Ne.symm e)]
      obtain ⟨u', v', c0, c1, c2, c3, c4, hLj⟩ := hc j hj
      refine ⟨u', v', (s3 _ (by omega)).trans c0, (s3 _ (by omega)).trans c1, (s3 _ (by omega)).trans c2, (s3 _ (by omega)).trans c3, (s3 _ (by omega)).trans c4, ?_⟩
      simp only [upF, if_neg e]
      exact (kp _).turn hLj t5 (h.apart j hj)
  · rw [List.length_set] at hj
    unfold upF at hbj
    split at hbj
    · exact hg b hbj
    · exact h.apart j hj b hbj
  · rw [List.length_set] at hj hk
    unfold upF at hbj hbk
    split at hbj <;> split at hbk
    · omega
    · exact ho k hk (by assumption) b hbj hbk
    · exact ho j hj (by assumption) b hbk hbj
    · exact h.two j k hj hk hjk b hbj hbk
/-- Shelves of one's own behind lo: no list lies below it. -/
def RegsOwn (P : RegD → World → (Nat → Prop) → Value → Prop) (w : World) (g lo : Nat) (rs : List RegD) : Prop :=
  lo ≤ g ∧ ∃ Fs, RegsAt P w g rs Fs ∧ ∀ i, i < rs.length → ∀ b, Fs i b → lo ≤ b ∧ b < w.heap.size
include kp in
theorem RegsOwn.turn {w w' : World} {g lo : Nat} {rs : List RegD} {T : Nat → Prop} (h : RegsOwn P w g lo rs) (ht : Turns T w w') (hT : ∀ b, T b → b < lo) : RegsOwn P w' g lo rs := by
  obtain ⟨hg, Fs, hR, hF⟩ := h
  exact ⟨hg, Fs, RegsAt.turn kp hR ht (fun h => by have := hT _ h; omega) (fun i hi b hb hb2 => by have := hT b hb2; have := (hF i hi b hb).1; omega), fun i hi b hb => ⟨(hF i hi b hb).1, Nat.lt_of_lt_of_le (hF i hi b hb).2 ht.size⟩⟩
include kp in
theorem RegsOwn.later {w w' : World} {g lo : Nat} {rs : List RegD} (h : RegsOwn P w g lo rs) (hb : Below w.heap.size w w') : RegsOwn P w' g lo rs := RegsOwn.turn kp h (T := fun _ => False) (Turns.of_below hb) (fun _ h => h.elim)
include kp in
/-- One of them is written anew, with new lists. -/
theorem RegsOwn.put {w w1 : World} {g lo : Nat} {rs : List RegD} (h : RegsOwn P w g lo rs) (hb : Below w.heap.size w w1) {i : Nat} (hi : i < rs.length) {d : RegD} {u v : Value} (hL : P d w1 (Iv w.heap.size w1.heap.size) (.agg #[.int .i64 d.t, .int .i64 d.q, .int .i64 d.v, u, v])) :
    RegsOwn P (((((w1.setCell ⟨g, i * 5, none⟩ (.int .i64 d.t)).setCell ⟨g, i * 5 + 1, none⟩ (.int .i64 d.q)).setCell ⟨g, i * 5 + 2, none⟩ (.int .i64 d.v)).setCell ⟨g, i * 5 + 3, none⟩ u).setCell ⟨g, i * 5 + 4, none⟩ v) g lo (rs.set i d) := by
  obtain ⟨hg, Fs, hR, hF⟩ := h
  have hlt := hR.lt
  have hR1 := RegsAt.later kp hR hb
  refine ⟨hg, _, RegsAt.put kp hR1 hi hL (fun b hb1 => by have := hb1.1; omega) (fun j hj _ b hb1 hb2 => by have := hb1.1; have := (hF j hj b hb2).2; omega), fun j hj b hb1 => ?_⟩
  rw [List.length_set] at hj
  simp only [size_set]
  unfold upF at hb1
  split at hb1
  · exact ⟨by have := hb1.1; omega, hb1.2⟩
  · have := hF j hj b hb1
    have := hb.size
    omega
end
/-- A value reads as a shelf, whose lists the model can take parts of. -/
def AtW (d : RegD) (w : World) (F : Nat → Prop) (v : Value) : Prop :=
  ∃ (A : Option Addr) (n cap : Nat) (A' : Option Addr) (n' cap' : Nat), v = .agg #[.int .i64 d.t, .int .i64 d.q, .int .i64 d.v, .slice A n cap, .slice A' n' cap'] ∧ n ≤ maxLen ∧ n' ≤ maxLen ∧ PairsF w F A n d.ps ∧ QuadsF w F A' n' d.os ∧
    ((∃ b o, A = some ⟨b, o, none⟩) ∨ (A = none ∧ n = 0 ∧ cap = 0)) ∧ ((∃ b o, A' = some ⟨b, o, none⟩ ∧ n' ≤ cap' ∧ cap' ≤ maxLen) ∨ (A' = none ∧ n' = 0 ∧ cap' = 0))
theorem AtW.at {d : RegD} {w : World} {F : Nat → Prop} {v : Value} (h : AtW d w F v) : AtR d w F v := by
  obtain ⟨A, n, cap, A', n', cap', e, h1, h2, h3, h4, -⟩ := h
  exact ⟨A, n, cap, A', n', cap', e, h1, h2, h3, h4⟩
theorem keepsW (d : RegD) : Keeps (AtW d) :=
  ⟨fun ⟨A, n, c, A', n', c', e, h1, h2, h3, h4, h5⟩ ht hd => ⟨A, n, c, A', n', c', e, h1, h2, h3.turn ht hd, h4.turn ht hd, h5⟩, fun ⟨A, n, c, A', n', c', e, h1, h2, h3, h4, h5⟩ hs => ⟨A, n, c, A', n', c', e, h1, h2, ⟨h3.1, fun hn b o e => hs b (h3.2 hn b o e)⟩, ⟨h4.1, fun hn b o e => hs b (h4.2 hn b o e)⟩, h5⟩⟩
theorem AtW.slc {d : RegD} {w : World} {F : Nat → Prop} {u v : Value} (h : AtW d w F (.agg #[.int .i64 d.t, .int .i64 d.q, .int .i64 d.v, u, v])) : ∃ (A : Option Addr) (n c : Nat) (A' : Option Addr) (n' c' : Nat), u = .slice A n c ∧ v = .slice A' n' c' ∧ Slc w (.slice A n c) d.ps ∧ SlcQ w (.slice A' n' c') d.os ∧ d.ps.length = n ∧ d.os.length = n' := by
  obtain ⟨A, n, c, A', n', c', e, h1, h2, h3, h4, h5, h6⟩ := h
  have l1 : d.ps.length = n := h3.1.1
  have l2 : d.os.length = n' := h4.1.1
  injection e with e
  injection e with e
  simp only [List.cons.injEq, and_true, true_and] at e
  refine ⟨A, n, c, A', n', c', e.1, e.2, ?_, ?_, l1, l2⟩
  · rcases h5 with ⟨b, o, rfl⟩ | ⟨rfl, rfl, rfl⟩
    · exact .inr ⟨b, o, n, c, rfl, h3.1⟩
    · exact .inl ⟨rfl, List.eq_nil_of_length_eq_zero l1⟩
  · rcases h6 with ⟨b, o, rfl, h7, h8⟩ | ⟨rfl, rfl, rfl⟩
    · exact .inr ⟨b, o, n', c', rfl, h7, h8, h4.1⟩
    · exact .inl ⟨rfl, List.eq_nil_of_length_eq_zero l2⟩
theorem LieR.atW {d : RegD} {w : World} {F : Nat → Prop} {v : Value} (h : LieR d w F v) : AtW d w F v := by
  obtain ⟨A, n, c, A', n', c', lo, B, hi, e, h1, h2, o1, o2, o3, hF⟩ := h
  have h := LieR.at ⟨A, n, c, A', n', c', lo, B, hi, e, h1, h2, o1, o2, o3, hF⟩
  obtain ⟨A1, n1, c1, A1', n1', c1', e1, m1, m2, p1, p2⟩ := h
  rw [e] at e1
  injection e1 with e1
  injection e1 with e1
  simp only [List.cons.injEq, Value.slice.injEq, and_true, true_and] at e1
  obtain ⟨⟨rfl, rfl, rfl⟩, rfl, rfl, rfl⟩ := e1
  refine ⟨A, n, c, A', n', c', e, m1, m2, p1, p2, ?_, ?_⟩
  · rcases h1 with ⟨h, _⟩ | ⟨g, cap, _, _, h, _⟩
    · injection h with a b c
      exact .inr ⟨a, b, c⟩
    · injection h with a b c
      exact .inl ⟨g, 0, a⟩
  · rcases h2 with ⟨h, _⟩ | ⟨g, cap, _, _, h, h3, h4, _⟩
    · injection h with a b c
      exact .inr ⟨a, b, c⟩
    · injection h with a b c
      exact .inl ⟨g, 0, a, by omega, by omega⟩
/-- Shelves that nothing was done to yet. -/
theorem regs_new (P : RegD → World → (Nat → Prop) → Value → Prop) (hz : ∀ w, P ⟨0, 0, 0, [], []⟩ w (fun _ => False) (.agg #[.int .i64 0, .int .i64 0, .int .i64 0, .slice none 0 0, .slice none 0 0])) (w : World) (n : Nat) :
    RegsOwn P (w.alloc (.cells (madeCells #[.int .i64 0, .int .i64 0, .int .i64 0, .slice none 0 0, .slice none 0 0] (n * 5)) 40)) w.heap.size w.heap.size (List.replicate n ⟨0, 0, 0, [], []⟩) := by
  refine ⟨Nat.le_refl _, fun _ _ => False, ⟨⟨_, Box.new w _ _, by simp [size_madeCells], fun i hi => ?_⟩, fun _ _ _ h => h.elim, fun _ _ _ _ _ _ h => h.elim⟩, fun _ _ _ h => h.elim⟩
  rw [List.length_replicate] at hi
  simp only [List.getElem_replicate]
  refine ⟨.slice none 0 0, .slice none 0 0, ?_, ?_, ?_, ?_, ?_, hz _⟩
  · simp [madeCells, show i * 5 < n * 5 by omega]
  · simp [madeCells, show i * 5 + 1 < n * 5 by omega, show (i * 5 + 1) % 5 = 1 by omega]
  · simp [madeCells, show i * 5 + 2 < n * 5 by omega, show (i * 5 + 2) % 5 = 2 by omega]
  · simp [madeCells, show i * 5 + 3 < n * 5 by omega, show (i * 5 + 3) % 5 = 3 by omega]
  · simp [madeCells, show i * 5 + 4 < n * 5 by omega, show (i * 5 + 4) % 5 = 4 by omega]
theorem zeroW (w : World) : AtW ⟨0, 0, 0, [], []⟩ w (fun _ => False) (.agg #[.int .i64 0, .int .i64 0, .int .i64 0, .slice none 0 0, .slice none 0 0]) :=
  ⟨none, 0, 0, none, 0, 0, rfl, Nat.zero_le _, Nat.zero_le _, ⟨⟨rfl, fun h => absurd h (by omega)⟩, fun h => absurd h (by omega)⟩, ⟨⟨rfl, fun h => absurd h (by omega)⟩, fun h => absurd h (by omega)⟩, .inr ⟨rfl, rfl, rfl⟩, .inr ⟨rfl, rfl, rfl⟩⟩
theorem zeroL (w : World) : LieR ⟨0, 0, 0, [], []⟩ w (fun _ => False) (.agg #[.int .i64 0, .int .i64 0, .int .i64 0, .slice none 0 0, .slice none 0 0]) :=
  ⟨none, 0, 0, none, 0, 0, 0, 0, 0, rfl, .inl ⟨rfl, rfl⟩, .inl ⟨rfl, rfl⟩, Nat.le_refl _, Nat.le_refl _, Nat.zero_le _, fun b hb => by unfold Iv at hb; omega⟩
end Go.Proofs.YtmooajppfjglaaaGreat
