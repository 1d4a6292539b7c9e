/- A group, a shelf and a note as data behind variables: how they read, when they are one's own; no conditions. -/
import Derived.Test.YtjdepjpjjgkmbaaGreatBoxWalk
import Derived.Test.YtjdepjpjjgkmbaaGreatVarReg
namespace Go.Proofs.YtjdepjpjjgkmbaaGreat
open Go.RowKit

/-- Rows, pairs and opens that are read through blocks of F alone. -/
def RowF (w : World) (F : Nat → Prop) (A : Option Addr) (n : Nat) (zs : List Int) : Prop := Row w w.heap.size A n zs ∧ (0 < n → ∀ b o, A = some ⟨b, o, none⟩ → F b)
def PairsF (w : World) (F : Nat → Prop) (A : Option Addr) (n : Nat) (ps : List (Int × Int)) : Prop := Pairs w w.heap.size A n ps ∧ (0 < n → ∀ b o, A = some ⟨b, o, none⟩ → F b)
def QuadsF (w : World) (F : Nat → Prop) (A : Option Addr) (n : Nat) (os : List Opn) : Prop := Quads w w.heap.size A n os ∧ (0 < n → ∀ b o, A = some ⟨b, o, none⟩ → F b)
theorem RowF.turn {T : Nat → Prop} {w w' : World} {F : Nat → Prop} {A : Option Addr} {n : Nat} {zs : List Int} (h : RowF w F A n zs) (ht : Turns T w w') (hd : ∀ b, F b → ¬ T b) : RowF w' F A n zs := by
  refine ⟨⟨h.1.1, fun hn => ?_⟩, h.2⟩
  obtain ⟨b, o, hA, hb, hc⟩ := h.1.2 hn
  exact ⟨b, o, hA, Nat.lt_of_lt_of_le hb ht.size, fun i hi => (ht.cell hb (hd b (h.2 hn b o hA)) _).trans (hc i hi)⟩
theorem PairsF.turn {T : Nat → Prop} {w w' : World} {F : Nat → Prop} {A : Option Addr} {n : Nat} {ps : List (Int × Int)} (h : PairsF w F A n ps) (ht : Turns T w w') (hd : ∀ b, F b → ¬ T b) : PairsF w' F A n ps := by
  refine ⟨⟨h.1.1, fun hn => ?_⟩, h.2⟩
  obtain ⟨b, o, hA, hb, hc⟩ := h.1.2 hn
  have hx := hd b (h.2 hn b o hA)
  exact ⟨b, o, hA, Nat.lt_of_lt_of_le hb ht.size, fun i hi => ⟨(ht.cell hb hx _).trans (hc i hi).1, (ht.cell hb hx _).trans (hc i hi).2⟩⟩
theorem QuadsF.turn {T : Nat → Prop} {w w' : World} {F : Nat → Prop} {A : Option Addr} {n : Nat} {os : List Opn} (h : QuadsF w F A n os) (ht : Turns T w w') (hd : ∀ b, F b → ¬ T b) : QuadsF w' F A n os := by
  refine ⟨⟨h.1.1, fun hn => ?_⟩, h.2⟩
  obtain ⟨b, o, hA, hb, hc⟩ := h.1.2 hn
  have hx := hd b (h.2 hn b o hA)
  exact ⟨b, o, hA, Nat.lt_of_lt_of_le hb ht.size, fun i hi => ⟨(ht.cell hb hx _).trans (hc i hi).1, (ht.cell hb hx _).trans (hc i hi).2.1, (ht.cell hb hx _).trans (hc i hi).2.2.1, (ht.cell hb hx _).trans (hc i hi).2.2.2⟩⟩
theorem Pairs.all {w : World} {B : Nat} {A : Option Addr} {n : Nat} {ps : List (Int × Int)} (h : Pairs w B A n ps) : PairsF w (· < B) A n ps := by
  refine ⟨⟨h.1, fun hn => ?_⟩, fun hn b o e => ?_⟩
  · obtain ⟨b, o, hA, hb, hc⟩ := h.2 hn
    exact ⟨b, o, hA, lt_of_cell (hc 0 hn).1, hc⟩
  · obtain ⟨b', o', hA, hb, hc⟩ := h.2 hn
    rw [e] at hA
    injection hA with hA
    injection hA with hA
    subst hA
    exact hb
theorem Quads.all {w : World} {B : Nat} {A : Option Addr} {n : Nat} {os : List Opn} (h : Quads w B A n os) : QuadsF w (· < B) A n os := by
  refine ⟨⟨h.1, fun hn => ?_⟩, fun hn b o e => ?_⟩
  · obtain ⟨b, o, hA, hb, hc⟩ := h.2 hn
    exact ⟨b, o, hA, lt_of_cell (hc 0 hn).1, hc⟩
  · obtain ⟨b', o', hA, hb, hc⟩ := h.2 hn
    rw [e] at hA
    injection hA with hA
    injection hA with hA
    subst hA
    exact hb
theorem Row.all {w : World} {B : Nat} {A : Option Addr} {n : Nat} {zs : List Int} (h : Row w B A n zs) : RowF w (· < B) A n zs := by
  refine ⟨⟨h.1, fun hn => ?_⟩, fun hn b o e => ?_⟩
  · obtain ⟨b, o, hA, hb, hc⟩ := h.2 hn
    exact ⟨b, o, hA, lt_of_cell (hc 0 hn), hc⟩
  · obtain ⟨b', o', hA, hb, hc⟩ := h.2 hn
    rw [e] at hA
    injection hA with hA
    injection hA with hA
    subst hA
    exact hb

/-- A group's numbers; a shelf's; a note's. -/
structure GrpD where
  s : Int
  l : Int
  c : Int
  sh : Int
  zs : List Int
structure RegD where
  t : Int
  q : Int
  v : Int
  ps : List (Int × Int)
  os : List Opn
structure NoteD where
  k1 : Int
  k2 : Int
  k3 : Int
  k4 : Int
  k5 : Int
  t1 : Int
  t2 : Int
  v1 : Int
  o1 : Int
  o2 : Int
  v2 : Int
  l1 : Int
  l2 : Int
  v3 : Int
  cs : List (Int × Int)
  ms : List (Int × Int)
def GrpD.sz (d : GrpD) : Nat := d.zs.length
def RegD.sz (d : RegD) : Nat := d.ps.length + d.os.length
def NoteD.sz (d : NoteD) : Nat := d.cs.length + d.ms.length
def GrpD.mk8 (d : GrpD) : Int := d.zs.length
def RegD.mk8 (d : RegD) : Int := 2 * d.ps.length + 4 * d.os.length
def NoteD.mk8 (d : NoteD) : Int := 2 * d.cs.length + 2 * d.ms.length

/-- A value reads as a group; as a shelf; as a note. -/
def AtG (d : GrpD) (w : World) (F : Nat → Prop) (v : Value) : Prop :=
  ∃ (A : Option Addr) (n cap : Nat), v = .agg #[.int .i64 d.s, .int .i64 d.l, .int .i64 d.c, .int .i64 d.sh, .slice A n cap] ∧ n ≤ maxLen ∧ RowF w F A n d.zs
def AtR (d : RegD) (w : World) (F : Nat → Prop) (v : Value) : Prop :=
  ∃ (A : Option Addr) (n cap : Nat) (A' : Option Addr) (n' cap' : Nat), v = .agg #[.int .i64 d.t, .int .i64 d.q, .int .i64 d.v, .slice A n cap, .slice A' n' cap'] ∧ n ≤ maxLen ∧ n' ≤ maxLen ∧ PairsF w F A n d.ps ∧ QuadsF w F A' n' d.os
def NoteD.cells (d : NoteD) (P : Option Addr) (p pc : Nat) (Q : Option Addr) (q qc : Nat) : Array Value :=
  #[.int .i64 d.k1, .int .i64 d.k2, .int .i64 d.k3, .int .i64 d.k4, .int .i64 d.k5, .int .i64 d.t1, .int .i64 d.t2, .int .i64 d.v1, .int .i64 d.o1, .int .i64 d.o2, .int .i64 d.v2, .slice P p pc, .slice Q q qc, .int .i64 d.l1, .int .i64 d.l2, .int .i64 d.v3]
def AtN (d : NoteD) (w : World) (F : Nat → Prop) (v : Value) : Prop :=
  ∃ (A : Option Addr) (n cap : Nat) (A' : Option Addr) (n' cap' : Nat), v = .agg (d.cells A n cap A' n' cap') ∧ n ≤ maxLen ∧ n' ≤ maxLen ∧ PairsF w F A n d.cs ∧ PairsF w F A' n' d.ms
theorem keepsG (d : GrpD) : Keeps (AtG d) := ⟨fun ⟨A, n, c, e, h1, h2⟩ ht hd => ⟨A, n, c, e, h1, h2.turn ht hd⟩, fun ⟨A, n, c, e, h1, h2⟩ hs => ⟨A, n, c, e, h1, h2.1, fun hn b o e => hs b (h2.2 hn b o e)⟩⟩
theorem keepsR (d : RegD) : Keeps (AtR d) := ⟨fun ⟨A, n, c, A', n', c', e, h1, h2, h3, h4⟩ ht hd => ⟨A, n, c, A', n', c', e, h1, h2, h3.turn ht hd, h4.turn ht hd⟩, fun ⟨A, n, c, A', n', c', e, h1, h2, h3, h4⟩ hs => ⟨A, n, c, A', n', c', e, h1, h2, ⟨h3.1, fun hn b o e => hs b (h3.2 hn b o e)⟩, ⟨h4.1, fun hn b o e => hs b (h4.2 hn b o e)⟩⟩⟩
theorem keepsN (d : NoteD) : Keeps (AtN d) := ⟨fun ⟨A, n, c, A', n', c', e, h1, h2, h3, h4⟩ ht hd => ⟨A, n, c, A', n', c', e, h1, h2, h3.turn ht hd, h4.turn ht hd⟩, fun ⟨A, n, c, A', n', c', e, h1, h2, h3, h4⟩ hs => ⟨A, n, c, A', n', c', e, h1, h2, ⟨h3.1, fun hn b o e => hs b (h3.2 hn b o e)⟩, ⟨h4.1, fun hn b o e => hs b (h4.2 hn b o e)⟩⟩⟩

/-- Keys, pairs and opens of one's own, in a block of F. -/
def OwnZ (w : World) (F : Nat → Prop) (v : Value) (zs : List Int) : Prop := ∃ g n cap, v = .slice (some ⟨g, 0, none⟩) n cap ∧ n ≤ cap ∧ cap ≤ maxLen ∧ F g ∧ g < w.heap.size ∧ (∀ i, w.frozen? ⟨g, i, none⟩ = false) ∧ Row w w.heap.size (some ⟨g, 0, none⟩) n zs
def OwnP (w : World) (F : Nat → Prop) (v : Value) (ps : List (Int × Int)) : Prop := (v = .slice none 0 0 ∧ ps = []) ∨ ∃ g cap, F g ∧ v = .slice (some ⟨g, 0, none⟩) ps.length cap ∧ ps.length ≤ cap ∧ cap ≤ maxLen ∧ Held w g ps
def OwnO (w : World) (F : Nat → Prop) (v : Value) (os : List Opn) : Prop := (v = .slice none 0 0 ∧ os = []) ∨ ∃ g cap, F g ∧ v = .slice (some ⟨g, 0, none⟩) os.length cap ∧ os.length ≤ cap ∧ cap ≤ maxLen ∧ HeldQ w g os
theorem Held.turn {T : Nat → Prop} {a b : World} {g : Nat} {d : List (Int × Int)} (hx : Held a g d) (h : Turns T a b) (hb : ¬ T g) : Held b g d :=
  ⟨Nat.lt_of_lt_of_le hx.lt h.size, fun o => (h.frozen hx.lt hb o).trans (hx.fr o), fun i hi' => (h.cell hx.lt hb _).trans (hx.at0 i hi'), fun i hi' => (h.cell hx.lt hb _).trans (hx.at1 i hi')⟩
theorem HeldQ.turn {T : Nat → Prop} {a b : World} {g : Nat} {d : List Opn} (hx : HeldQ a g d) (h : Turns T a b) (hb : ¬ T g) : HeldQ b g d :=
  hx.keep (Nat.lt_of_lt_of_le hx.lt h.size) (fun o => h.frozen hx.lt hb o) (fun o => h.cell hx.lt hb o)
theorem OwnP.turn {T : Nat → Prop} {w w' : World} {F : Nat → Prop} {v : Value} {ps : List (Int × Int)} (h : OwnP w F v ps) (ht : Turns T w w') (hd : ∀ b, F b → ¬ T b) : OwnP w' F v ps := by
  rcases h with h | ⟨g, cap, hF, h1, h2, h3, h4⟩
  · exact .inl h
  · exact .inr ⟨g, cap, hF, h1, h2, h3, h4.turn ht (hd g hF)⟩
theorem OwnO.turn {T : Nat → Prop} {w w' : World} {F : Nat → Prop} {v : Value} {os : List Opn} (h : OwnO w F v os) (ht : Turns T w w') (hd : ∀ b, F b → ¬ T b) : OwnO w' F v os := by
  rcases h with h | ⟨g, cap, hF, h1, h2, h3, h4⟩
  · exact .inl h
  · exact .inr ⟨g, cap, hF, h1, h2, h3, h4.turn ht (hd g hF)⟩
theorem OwnZ.turn {T : Nat → Prop} {w w' : World} {F : Nat → Prop} {v : Value} {zs : List Int} (h : OwnZ w F v zs) (ht : Turns T w w') (hd : ∀ b, F b → ¬ T b) : OwnZ w' F v zs := by
  obtain ⟨g, n, cap, e, h1, h2, hF, hl, hf, hr⟩ := h
  refine ⟨g, n, cap, e, h1, h2, hF, Nat.lt_of_lt_of_le hl ht.size, fun i => (ht.frozen hl (hd g hF) i).trans (hf i), hr.1, fun hn => ?_⟩
  obtain ⟨b, o, hA, hb, hc⟩ := hr.2 hn
  cases hA
  exact ⟨_, _, rfl, Nat.lt_of_lt_of_le hl ht.size, fun i hi => (ht.cell hl (hd _ hF) _).trans (hc i hi)⟩
theorem OwnP.sub {w : World} {F F' : Nat → Prop} {v : Value} {ps : List (Int × Int)} (h : OwnP w F v ps) (hs : ∀ b, F b → F' b) : OwnP w F' v ps := by
  rcases h with h | ⟨g, cap, hF, h1⟩
  · exact .inl h
  · exact .inr ⟨g, cap, hs g hF, h1⟩
theorem OwnO.sub {w : World} {F F' : Nat → Prop} {v : Value} {os : List Opn} (h : OwnO w F v os) (hs : ∀ b, F b → F' b) : OwnO w F' v os := by
  rcases h with h | ⟨g, cap, hF, h1⟩
  · exact .inl h
  · exact .inr ⟨g, cap, hs g hF, h1⟩
theorem OwnZ.sub {w : World} {F F' : Nat → Prop} {v : Value} {zs : List Int} (h : OwnZ w F v zs) (hs : ∀ b, F b → F' b) : OwnZ w F' v zs := by
  obtain ⟨g, n, cap, e, h1, h2, hF, h3⟩ := h
  exact ⟨g, n, cap, e, h1, h2, hs g hF, h3⟩
theorem OwnP.at {w : World} {F : Nat → Prop} {v : Value} {ps : List (Int × Int)} (h : OwnP w F v ps) : ∃ A cap, v = .slice A ps.length cap ∧ ps.length ≤ maxLen ∧ PairsF w F A ps.length ps ∧ Slc w v ps := by
  rcases h with ⟨rfl, rfl⟩ | ⟨g, cap, hF, rfl, h1, h2, h3⟩
  · exact ⟨none, 0, rfl, Nat.zero_le _, ⟨⟨rfl, fun h => absurd h (by simp)⟩, fun h => absurd h (by simp)⟩, .inl ⟨rfl, rfl⟩⟩
  · exact ⟨_, cap, rfl, Nat.le_trans h1 h2, ⟨h3.pairs, fun _ b o e => by injection e with e; injection e with e; exact e ▸ hF⟩, .inr ⟨g, 0, _, cap, rfl, h3.pairs⟩⟩
theorem OwnO.at {w : World} {F : Nat → Prop} {v : Value} {os : List Opn} (h : OwnO w F v os) : ∃ A cap, v = .slice A os.length cap ∧ os.length ≤ maxLen ∧ QuadsF w F A os.length os ∧ SlcQ w v os := by
  rcases h with ⟨rfl, rfl⟩ | ⟨g, cap, hF, rfl, h1, h2, h3⟩
  · exact ⟨none, 0, rfl, Nat.zero_le _, ⟨⟨rfl, fun h => absurd h (by simp)⟩, fun h => absurd h (by simp)⟩, .inl ⟨rfl, rfl⟩⟩
  · exact ⟨_, cap, rfl, Nat.le_trans h1 h2, ⟨h3.quads, fun _ b o e => by injection e with e; injection e with e; exact e ▸ hF⟩, .inr ⟨g, 0, _, cap, rfl, h1, h2, h3.quads⟩⟩

/-- A group, a shelf, a note of one's own: the lists lie in blocks of F, apart from one another. -/
def LieG (d : GrpD) (w : World) (F : Nat → Prop) (v : Value) : Prop := ∃ u, v = .agg #[.int .i64 d.s, .int .i64 d.l, .int .i64 d.c, .int .i64 d.sh, u] ∧ OwnZ w F u d.zs
def LieR (d : RegD) (w : World) (F : Nat → Prop) (v : Value) : Prop := ∃ (A : Option Addr) (n c : Nat) (A' : Option Addr) (n' c' lo B hi : Nat), v = .agg #[.int .i64 d.t, .int .i64 d.q, .int .i64 d.v, .slice A n c, .slice A' n' c'] ∧ ResP w lo B (.slice A n c) d.ps ∧ ResQ w B hi (.slice A' n' c') d.os ∧ lo ≤ B ∧ B ≤ hi ∧ hi ≤ w.heap.size ∧ ∀ b, Iv lo hi b → F b
def LieN (d : NoteD) (w : World) (F : Nat → Prop) (v : Value) : Prop := ∃ (g n c g' n' c' : Nat), v = .agg (d.cells (some ⟨g, 0, none⟩) n c (some ⟨g', 0, none⟩) n' c') ∧ d.cs.length = n ∧ d.ms.length = n' ∧ n ≤ maxLen ∧ n' ≤ maxLen ∧ Held w g d.cs ∧ Held w g' d.ms ∧ F g ∧ F g' ∧ g ≠ g'
theorem keepsLG (d : GrpD) : Keeps (LieG d) := ⟨fun ⟨u, e, h⟩ ht hd => ⟨u, e, h.turn ht hd⟩, fun ⟨u, e, h⟩ hs => ⟨u, e, h.sub hs⟩⟩
theorem ResP.turn {T : Nat → Prop} {w w' : World} {lo hi : Nat} {v : Value} {ps : List (Int × Int)} (h : ResP w lo hi v ps) (ht : Turns T w w') (hd : ∀ b, Iv lo hi b → ¬ T b) : ResP w' lo hi v ps := by
  rcases h with h | ⟨g, cap, h0, h0', h1, h2, h3, h4⟩
  · exact .inl h
  · exact .inr ⟨g, cap, h0, h0', h1, h2, h3, h4.turn ht (hd g ⟨h0, h0'⟩)⟩
theorem ResQ.turn {T : Nat → Prop} {w w' : World} {lo hi : Nat} {v : Value} {os : List Opn} (h : ResQ w lo hi v os) (ht : Turns T w w') (hd : ∀ b, Iv lo hi b → ¬ T b) : ResQ w' lo hi v os := by
  rcases h with h | ⟨g, cap, h0, h0', h1, h2, h3, h4⟩
  · exact .inl h
  · exact .inr ⟨g, cap, h0, h0', h1, h2, h3, h4.turn ht (hd g ⟨h0, h0'⟩)⟩
theorem ResP.own {w : World} {lo hi : Nat} {v : Value} {ps : List (Int × Int)} (h : ResP w lo hi v ps) : OwnP w (Iv lo hi) v ps := by
  rcases h with h | ⟨g, cap, h0, h0', h1, h2, h3, h4⟩
  · exact .inl h
  · exact .inr ⟨g, cap, ⟨h0, h0'⟩, h1, h2, h3, h4⟩
theorem ResQ.own {w : World} {lo hi : Nat} {v : Value} {os : List Opn} (h : ResQ w lo hi v os) : OwnO w (Iv lo hi) v os := by
  rcases h with h | ⟨g, cap, h0, h0', h1, h2, h3, h4⟩
  · exact .inl h
  · exact .inr ⟨g, cap, ⟨h0, h0'⟩, h1, h2, h3, h4⟩
theorem keepsLR (d : RegD) : Keeps (LieR d) :=
  ⟨fun ⟨A, n, c, A', n', c', lo, B, hi, e, h1, h2, o1, o2, o3, hF⟩ ht hd => ⟨A, n, c, A', n', c', lo, B, hi, e, h1.turn ht (fun b hb => hd b (hF b (iv_sub (Nat.le_refl _) o2 b hb))), h2.turn ht (fun b hb => hd b (hF b (iv_sub o1 (Nat.le_refl _) b hb))), o1, o2, Nat.le_trans o3 ht.size, hF⟩,
   fun ⟨A, n, c, A', n', c', lo, B, hi, e, h1, h2, o1, o2, o3, hF⟩ hs => ⟨A, n, c, A', n', c', lo, B, hi, e, h1, h2, o1, o2, o3, fun b hb => hs b (hF b hb)⟩⟩
theorem keepsLN (d : NoteD) : Keeps (LieN d) := ⟨fun ⟨g, n, c, g', n', c', e, l1, l2, m1, m2, h1, h2, f1, f2, hne⟩ ht hd => ⟨g, n, c, g', n', c', e, l1, l2, m1, m2, h1.turn ht (hd g f1), h2.turn ht (hd g' f2), f1, f2, hne⟩, fun ⟨g, n, c, g', n', c', e, l1, l2, m1, m2, h1, h2, f1, f2, hne⟩ hs => ⟨g, n, c, g', n', c', e, l1, l2, m1, m2, h1, h2, hs g f1, hs g' f2, hne⟩⟩
theorem LieG.at {d : GrpD} {w : World} {F : Nat → Prop} {v : Value} (h : LieG d w F v) : AtG d w F v := by
  obtain ⟨u, e, g, n, cap, rfl, h1, h2, hF, hl, hf, hr⟩ := h
  exact ⟨_, n, cap, e, Nat.le_trans h1 h2, hr, fun _ b o e => by injection e with e; injection e with e; exact e ▸ hF⟩
theorem LieR.at {d : RegD} {w : World} {F : Nat → Prop} {v : Value} (h : LieR d w F v) : AtR d w F v := by
  obtain ⟨A, n, c, A', n', c', lo, B, hi, e, h1, h2, o1, o2, o3, hF⟩ := h
  obtain ⟨A1, c1, e1, m, p, _⟩ := h1.own.at
  obtain ⟨A2, c2, e2, m', p', _⟩ := h2.own.at
  injection e1 with e1 e1' e1''
  injection e2 with e2 e2' e2''
  subst e1 e1' e1'' e2 e2' e2''
  exact ⟨A, _, c, A', _, c', e, m, m', ⟨p.1, fun hn b o e => hF b (iv_sub (Nat.le_refl _) o2 b (p.2 hn b o e))⟩, ⟨p'.1, fun hn b o e => hF b (iv_sub o1 (Nat.le_refl _) b (p'.2 hn b o e))⟩⟩
theorem LieR.slc {d : RegD} {w : World} {F : Nat → Prop} {v : Value} (h : LieR d w F v) : ∃ (A : Option Addr) (n c : Nat) (A' : Option Addr) (n' c' : Nat), v = .agg #[.int .i64 d.t, .int .i64 d.q, .int .i64 d.v, .slice A n c, .slice A' n' c'] ∧ Slc w (.slice A n c) d.ps ∧ SlcQ w (.slice A' n' c') d.os ∧ d.ps.length = n ∧ d.os.length = n' := by
  obtain ⟨A, n, c, A', n', c', lo, B, hi, e, h1, h2, o1, o2, o3, hF⟩ := h
  obtain ⟨A1, c1, e1, m, p, s1⟩ := h1.own.at
  obtain ⟨A2, c2, e2, m', p', s2⟩ := h2.own.at
  injection e1 with e1 e1' e1''
  injection e2 with e2 e2' e2''
  subst e1 e1' e1'' e2 e2' e2''
  exact ⟨A, _, c, A', _, c', e, s1, s2, rfl, rfl⟩
theorem LieN.at {d : NoteD} {w : World} {F : Nat → Prop} {v : Value} (h : LieN d w F v) : AtN d w F v := by
  obtain ⟨g, n, c, g', n', c', e, rfl, rfl, m1, m2, h1, h2, f1, f2, hne⟩ := h
  exact ⟨_, _, c, _, _, c', e, m1, m2, ⟨h1.pairs, fun _ b o e => by injection e with e; injection e with e; exact e ▸ f1⟩, ⟨h2.pairs, fun _ b o e => by injection e with e; injection e with e; exact e ▸ f2⟩⟩

theorem sizeG {d : GrpD} {w : World} {F : Nat → Prop} {C : Array Value} (h : AtG d w F (.agg C)) : (Tryz.prog.info? 47).map (·.size) = some C.size ∧ (Tryz.prog.info? 26).map (·.size) = some C.size := by
  obtain ⟨A, n, cap, e, _⟩ := h
  injection e with e
  subst e
  exact ⟨by kernel_rfl, by kernel_rfl⟩
theorem sizeR {d : RegD} {w : World} {F : Nat → Prop} {C : Array Value} (h : AtR d w F (.agg C)) : (Tryz.prog.info? 73).map (·.size) = some C.size ∧ (Tryz.prog.info? 80).map (·.size) = some C.size := by
  obtain ⟨A, n, cap, A', n', cap', e, _⟩ := h
  injection e with e
  subst e
  exact ⟨by kernel_rfl, by kernel_rfl⟩
theorem sizeN8 {d : NoteD} {w : World} {F : Nat → Prop} {C : Array Value} (h : AtN d w F (.agg C)) : (Tryz.prog.info? 75).map (·.size) = some C.size ∧ (Tryz.prog.info? 85).map (·.size) = some C.size := by
  obtain ⟨A, n, cap, A', n', cap', e, _⟩ := h
  injection e with e
  subst e
  exact ⟨by kernel_rfl, by kernel_rfl⟩
theorem oneG {d : GrpD} {w : World} {F : Nat → Prop} {C : Array Value} (h : AtG d w F (.agg C)) : C.size = 5 ∧ C.all (·.oneCell') = true := by
  obtain ⟨A, n, cap, e, _⟩ := h
  injection e with e
  subst e
  exact ⟨rfl, by simp [Value.oneCell']⟩
theorem oneR {d : RegD} {w : World} {F : Nat → Prop} {C : Array Value} (h : AtR d w F (.agg C)) : C.size = 5 ∧ C.all (·.oneCell') = true := by
  obtain ⟨A, n, cap, A', n', cap', e, _⟩ := h
  injection e with e
  subst e
  exact ⟨rfl, by simp [Value.oneCell']⟩
theorem oneN {d : NoteD} {w : World} {F : Nat → Prop} {C : Array Value} (h : AtN d w F (.agg C)) : C.size = 16 ∧ C.all (·.oneCell') = true := by
  obtain ⟨A, n, cap, A', n', cap', e, _⟩ := h
  injection e with e
  subst e
  exact ⟨rfl, by simp [NoteD.cells, Value.oneCell']⟩

/-- A fresh variable that was written whole at once. -/
theorem bel_new_row (w : World) (Z : Array Value) (t : TypeId) (C : Array Value) : Below w.heap.size w ((w.alloc (.cells Z t)).setRow w.heap.size C) :=
  (turns_setRow (w.alloc (.cells Z t)) w.heap.size C).below (bel_alloc w _) (fun i hi => by omega)
theorem var_new_row {P : World → (Nat → Prop) → Value → Prop} (k : Keeps P) {Z C : Array Value} (t : TypeId) {w : World} {F : Nat → Prop} (h : P w F (.agg C)) (hF : ∀ b, F b → b < w.heap.size) : VarOf P t ((w.alloc (.cells Z t)).setRow w.heap.size C) F w.heap.size C :=
  VarOf.put k (Box.new w t Z) (k.later h (bel_alloc w _)) (fun hf => absurd (hF _ hf) (Nat.lt_irrefl _))

end Go.Proofs.YtjdepjpjjgkmbaaGreat
