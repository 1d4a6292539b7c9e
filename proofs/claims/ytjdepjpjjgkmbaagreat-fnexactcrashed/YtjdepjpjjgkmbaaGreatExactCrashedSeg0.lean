/- The model's lists of seals: putting one in, joining two: contracts of each of them; up to some four million seals. -/
import Derived.Test.YtjdepjpjjgkmbaaGreatReg3
import Derived.Test.YtjdepjpjjgkmbaaGreatCopiesReg
import Derived.Test.YtjdepjpjjgkmbaaGreatBoxWalk
import Derived.Test.YtjdepjpjjgkmbaaGreatSpecStamp
import Derived.Test.YtjdepjpjjgkmbaaGreatGroupMore
import Derived.Test.YtjdepjpjjgkmbaaGreatStampBase
import Derived.Test.YtjdepjpjjgkmbaaGreatSink
import Derived.Test.YtjdepjpjjgkmbaaGreatGroup
import Derived.Test.YtjdepjpjjgkmbaaGreatBase
import Derived.Deep.AppendLies
import Derived.Laws.Pointers
import Derived.Deep.RegionLaw
import Derived.Test.YtjdepjpjjgkmbaaGreatNoteShape
import Derived.Deep.CutBlock
import Derived.ChangeKeysEq
import Derived.Test.YtjdepjpjjgkmbaaGreatJoin

/- The marks of opens and of shelves: what is written, what is found again, and what stays: contracts of each of them. -/
namespace Go.Proofs.YtjdepjpjjgkmbaaGreat
open Go.RowKit

/-- Only blocks from lo up to hi may have been written. -/
structure Band (lo hi : Nat) (w w' : World) : Prop where
  os : w'.os = w.os
  tape : w'.tape = w.tape
  output : w'.output = w.output
  size : w.heap.size ≤ w'.heap.size
  block : ∀ i, i < w.heap.size → (i < lo ∨ hi ≤ i) → w'.heap[i]? = w.heap[i]?
theorem Band.refl (lo hi : Nat) (w : World) : Band lo hi w w := ⟨rfl, rfl, rfl, Nat.le_refl _, fun _ _ _ => rfl⟩
theorem Band.trans {lo hi : Nat} {a b c : World} (h : Band lo hi a b) (k : Band lo hi b c) : Band lo hi a c :=
  ⟨k.os.trans h.os, k.tape.trans h.tape, k.output.trans h.output, Nat.le_trans h.size k.size, fun i hi' hb => (k.block i (Nat.lt_of_lt_of_le hi' h.size) hb).trans (h.block i hi' hb)⟩
theorem Band.of_below {lo hi : Nat} {a b : World} (h : Below a.heap.size a b) : Band lo hi a b := ⟨h.os, h.tape, h.output, h.size, fun i hi' _ => h.block i hi'⟩
theorem Band.of_grown {lo hi g : Nat} {a b : World} (h : a.grownBy b (some g)) (h1 : lo ≤ g) (h2 : g < hi) : Band lo hi a b :=
  ⟨h.os, h.tape, h.output, h.size, fun i hi' hb => h.block i hi' (by intro e; injection e with e; omega)⟩
theorem Band.below {lo hi : Nat} {w a b : World} (h : Band lo hi a b) (hb : Below w.heap.size w a) (hl : w.heap.size ≤ lo) : Below w.heap.size w b :=
  ⟨h.os.trans hb.os, h.tape.trans hb.tape, h.output.trans hb.output, Nat.le_trans hb.size h.size, fun i hi' => (h.block i (Nat.lt_of_lt_of_le hi' hb.size) (.inl (by omega))).trans (hb.block i hi')⟩
theorem Band.cell {lo hi : Nat} {a b : World} (h : Band lo hi a b) {g : Nat} (hg : g < a.heap.size) (hb : g < lo ∨ hi ≤ g) (o : Nat) : b.cell? ⟨g, o, none⟩ = a.cell? ⟨g, o, none⟩ := World.cell?_of_block (h.block g hg hb)
theorem Band.frozen {lo hi : Nat} {a b : World} (h : Band lo hi a b) {g : Nat} (hg : g < a.heap.size) (hb : g < lo ∨ hi ≤ g) (o : Nat) : b.frozen? ⟨g, o, none⟩ = a.frozen? ⟨g, o, none⟩ := World.frozen?_of_block (h.block g hg hb)
/-- A list of opens in a block of its own from lo to hi, or nil. -/
def ResQ (wr : World) (lo hi : Nat) (v : Value) (D : List Opn) : Prop :=
  (v = .slice none 0 0 ∧ D = []) ∨ ∃ g cap, lo ≤ g ∧ g < hi ∧ v = .slice (some ⟨g, 0, none⟩) D.length cap ∧ D.length ≤ cap ∧ cap ≤ maxLen ∧ HeldQ wr g D
theorem ResO.resQ {wr : World} {lo : Nat} {v : Value} {D : List Opn} (h : ResO wr lo v D) : ResQ wr lo wr.heap.size v D := by
  rcases h with h | ⟨g, cap, h1, h2, h3, h4, h5⟩
  · exact .inl h
  · exact .inr ⟨g, cap, h1, h5.lt, h2, h3, h4, h5⟩
theorem ResQ.resO {wr : World} {lo hi : Nat} {v : Value} {D : List Opn} (h : ResQ wr lo hi v D) : ResO wr lo v D := by
  rcases h with h | ⟨g, cap, h1, _, h2, h3, h4, h5⟩
  · exact .inl h
  · exact .inr ⟨g, cap, h1, h2, h3, h4, h5⟩
theorem ResQ.later {wr w' : World} {lo hi : Nat} {v : Value} {D : List Opn} (h : ResQ wr lo hi v D) (hb : Below wr.heap.size wr w') : ResQ w' lo hi v D := by
  rcases h with h | ⟨g, cap, h1, h2, h3, h4, h5, h6⟩
  · exact .inl h
  · exact .inr ⟨g, cap, h1, h2, h3, h4, h5, h6.later hb⟩
theorem markP_is {wr : World} {lo hi : Nat} {u : Value} {D : List (Int × Int)} (k : Int) (h : ResP wr lo hi u D) (hn : D.length ≤ 1048577) (hk0 : 0 ≤ k) (hk1 : k ≤ 50000000) :
    Calls Tryz.prog 36 #[u, .int .i64 k] wr fun e w' => e = .returned (.int .i64 (k + 2 * D.length)) ∧ ∃ D', D'.length = D.length ∧ Marked k D' ∧ ResP w' lo hi u D' ∧ Band lo hi wr w' := by
  rcases h with ⟨rfl, rfl⟩ | ⟨g, cap, h1, h2, rfl, h4, h5, h6⟩
  · refine (mark_nil k wr).mono ?_
    rintro e w' ⟨rfl, rfl⟩
    exact ⟨by simp, [], rfl, fun j hj => absurd hj (by simp), .inl ⟨rfl, rfl⟩, Band.refl _ _ _⟩
  · refine (mark_is g D.length cap k D wr (by omega) hk0 (by omega) rfl h6).mono ?_
    rintro e w' ⟨rfl, D', hd1, hd2, hd3, hg⟩
    exact ⟨rfl, D', hd1, hd2, .inr ⟨g, cap, h1, h2, by rw [hd1], by omega, h5, hd3⟩, Band.of_grown hg h1 h2⟩
theorem heldP_is {wr : World} {lo hi : Nat} {u : Value} {D : List (Int × Int)} (k : Int) (h : ResP wr lo hi u D) (hM : Marked k D) (hn : D.length ≤ 1048577) (hk0 : 0 ≤ k) (hk1 : k ≤ 50000000) :
    Calls Tryz.prog 107 #[u, .int .i64 k] wr fun e w' => e = .returned (.int .i64 (k + 2 * D.length)) ∧ wr = w' := by
  rcases h with ⟨rfl, rfl⟩ | ⟨g, cap, h1, h2, rfl, h4, h5, h6⟩
  · refine (held_nil k wr).mono ?_
    rintro e w' ⟨rfl, rfl⟩
    exact ⟨by simp, rfl⟩
  · exact held_is g D.length cap k D wr (by omega) hk0 (by omega) rfl hM h6
end Go.Proofs.YtjdepjpjjgkmbaaGreat

/- A variable that holds a shelf, with its lists in blocks of their own, all within a stretch of blocks: what keeps it, its marks, two of them compared. -/
namespace Go.Proofs.YtjdepjpjjgkmbaaGreat
open Go.RowKit

/-- The variable at g holds a shelf with lists ps and os; it and they lie in blocks from lo up to hi. -/
structure Var (wr : World) (lo hi g : Nat) (A : Option Addr) (n c : Nat) (A' : Option Addr) (n' c' : Nat) (rt rq rv : Int) (ps : List (Int × Int)) (os : List Opn) : Prop where
  box : Box wr g 80 #[.int .i64 rt, .int .i64 rq, .int .i64 rv, .slice A n c, .slice A' n' c']
  g0 : lo ≤ g
  g1 : g < hi
  hw : hi ≤ wr.heap.size
  lists : ∃ l B h, lo ≤ l ∧ l ≤ B ∧ B ≤ h ∧ h ≤ hi ∧ (g < l ∨ h ≤ g) ∧ ResP wr l B (.slice A n c) ps ∧ ResQ wr B h (.slice A' n' c') os
theorem Var.later {wr w' : World} {lo hi g : Nat} {A : Option Addr} {n c : Nat} {A' : Option Addr} {n' c' : Nat} {rt rq rv : Int} {ps : List (Int × Int)} {os : List Opn} (h : Var wr lo hi g A n c A' n' c' rt rq rv ps os) (hb : Below wr.heap.size wr w') : Var w' lo hi g A n c A' n' c' rt rq rv ps os := by
  obtain ⟨l, B, hh, h1, h2, h3, h4, h5, h6, h7⟩ := h.lists
  exact ⟨h.box.later hb h.box.lt, h.g0, h.g1, Nat.le_trans h.hw hb.size, l, B, hh, h1, h2, h3, h4, h5, h6.later hb, h7.later hb⟩
theorem Var.pairs {wr : World} {lo hi g : Nat} {A : Option Addr} {n c : Nat} {A' : Option Addr} {n' c' : Nat} {rt rq rv : Int} {ps : List (Int × Int)} {os : List Opn} (h : Var wr lo hi g A n c A' n' c' rt rq rv ps os) : ps.length = n ∧ Pairs wr wr.heap.size A n ps ∧ os.length = n' ∧ Quads wr wr.heap.size A' n' os ∧ n ≤ c ∧ c ≤ maxLen ∧ n' ≤ c' ∧ c' ≤ maxLen ∧ Slc wr (.slice A n c) ps ∧ SlcQ wr (.slice A' n' c') os := by
  obtain ⟨l, B, hh, h1, h2, h3, h4, h5, h6, h7⟩ := h.lists
  obtain ⟨A1, c1, e1, ha, hb, hc, hd⟩ := h6.form
  obtain ⟨A2, c2, e2, ha2, hb2, hc2, hd2⟩ := h7.resO.form
  injection e1 with e1 e1' e1''
  injection e2 with e2 e2' e2''
  subst e1 e1' e1'' e2 e2' e2''
  exact ⟨rfl, hc, rfl, hc2, ha, hb, ha2, hb2, hd, hd2⟩

theorem ResQ.far {w : World} {lo hi : Nat} {u : Value} {D : List Opn} (h : ResQ w lo hi u D) {b : Nat} (hb : b < lo) (o : Nat) (x : Value) : ResQ (w.setCell ⟨b, o, none⟩ x) lo hi u D := by
  rcases h with h | ⟨g, cap, h1, h2, h3, h4, h5, h6⟩
  · exact .inl h
  · exact .inr ⟨g, cap, h1, h2, h3, h4, h5, h6.far (by omega) o x⟩
end Go.Proofs.YtjdepjpjjgkmbaaGreat

/- A group, a shelf and a note as data behind variables: how they read, when they are one's own; no conditions. -/
namespace Go.Proofs.YtjdepjpjjgkmbaaGreat
open Go.RowKit

/-- Rows, pairs and opens that are read through blocks of F alone. -/
def RowF (w : World) (F : Nat → Prop) (A : Option Addr) (n : Nat) (zs : List Int) : Prop := Row w w.heap.size A n zs ∧ (0 < n → ∀ b o, A = some ⟨b, o, none⟩ → F b)
def PairsF (w : World) (F : Nat → Prop) (A : Option Addr) (n : Nat) (ps : List (Int × Int)) : Prop := Pairs w w.heap.size A n ps ∧ (0 < n → ∀ b o, A = some ⟨b, o, none⟩ → F b)
def QuadsF (w : World) (F : Nat → Prop) (A : Option Addr) (n : Nat) (os : List Opn) : Prop := Quads w w.heap.size A n os ∧ (0 < n → ∀ b o, A = some ⟨b, o, none⟩ → F b)
theorem RowF.turn {T : Nat → Prop} {w w' : World} {F : Nat → Prop} {A : Option Addr} {n : Nat} {zs : List Int} (h : RowF w F A n zs) (ht : Turns T w w') (hd : ∀ b, F b → ¬ T b) : RowF w' F A n zs := by
  refine ⟨⟨h.1.1, fun hn => ?_⟩, h.2⟩
  obtain ⟨b, o, hA, hb, hc⟩ := h.1.2 hn
  exact ⟨b, o, hA, Nat.lt_of_lt_of_le hb ht.size, fun i hi => (ht.cell hb (hd b (h.2 hn b o hA)) _).trans (hc i hi)⟩
theorem PairsF.turn {T : Nat → Prop} {w w' : World} {F : Nat → Prop} {A : Option Addr} {n : Nat} {ps : List (Int × Int)} (h : PairsF w F A n ps) (ht : Turns T w w') (hd : ∀ b, F b → ¬ T b) : PairsF w' F A n ps := by
  refine ⟨⟨h.1.1, fun hn => ?_⟩, h.2⟩
  obtain ⟨b, o, hA, hb, hc⟩ := h.1.2 hn
  have hx := hd b (h.2 hn b o hA)
  exact ⟨b, o, hA, Nat.lt_of_lt_of_le hb ht.size, fun i hi => ⟨(ht.cell hb hx _).trans (hc i hi).1, (ht.cell hb hx _).trans (hc i hi).2⟩⟩
theorem QuadsF.turn {T : Nat → Prop} {w w' : World} {F : Nat → Prop} {A : Option Addr} {n : Nat} {os : List Opn} (h : QuadsF w F A n os) (ht : Turns T w w') (hd : ∀ b, F b → ¬ T b) : QuadsF w' F A n os := by
  refine ⟨⟨h.1.1, fun hn => ?_⟩, h.2⟩
  obtain ⟨b, o, hA, hb, hc⟩ := h.1.2 hn
  have hx := hd b (h.2 hn b o hA)
  exact ⟨b, o, hA, Nat.lt_of_lt_of_le hb ht.size, fun i hi => ⟨(ht.cell hb hx _).trans (hc i hi).1, (ht.cell hb hx _).trans (hc i hi).2.1, (ht.cell hb hx _).trans (hc i hi).2.2.1, (ht.cell hb hx _).trans (hc i hi).2.2.2⟩⟩
theorem Pairs.all {w : World} {B : Nat} {A : Option Addr} {n : Nat} {ps : List (Int × Int)} (h : Pairs w B A n ps) : PairsF w (· < B) A n ps := by
  refine ⟨⟨h.1, fun hn => ?_⟩, fun hn b o e => ?_⟩
  · obtain ⟨b, o, hA, hb, hc⟩ := h.2 hn
    exact ⟨b, o, hA, lt_of_cell (hc 0 hn).1, hc⟩
  · obtain ⟨b', o', hA, hb, hc⟩ := h.2 hn
    rw [e] at hA
    injection hA with hA
    injection hA with hA
    subst hA
    exact hb
theorem Quads.all {w : World} {B : Nat} {A : Option Addr} {n : Nat} {os : List Opn} (h : Quads w B A n os) : QuadsF w (· < B) A n os := by
  refine ⟨⟨h.1, fun hn => ?_⟩, fun hn b o e => ?_⟩
  · obtain ⟨b, o, hA, hb, hc⟩ := h.2 hn
    exact ⟨b, o, hA, lt_of_cell (hc 0 hn).1, hc⟩
  · obtain ⟨b', o', hA, hb, hc⟩ := h.2 hn
    rw [e] at hA
    injection hA with hA
    injection hA with hA
    subst hA
    exact hb
theorem Row.all {w : World} {B : Nat} {A : Option Addr} {n : Nat} {zs : List Int} (h : Row w B A n zs) : RowF w (· < B) A n zs := by
  refine ⟨⟨h.1, fun hn => ?_⟩, fun hn b o e => ?_⟩
  · obtain ⟨b, o, hA, hb, hc⟩ := h.2 hn
    exact ⟨b, o, hA, lt_of_cell (hc 0 hn), hc⟩
  · obtain ⟨b', o', hA, hb, hc⟩ := h.2 hn
    rw [e] at hA
    injection hA with hA
    injection hA with hA
    subst hA
    exact hb

/-- A group's numbers; a shelf's; a note's. -/
structure GrpD where
  s : Int
  l : Int
  c : Int
  sh : Int
  zs : List Int
structure RegD where
  t : Int
  q : Int
  v : Int
  ps : List (Int × Int)
  os : List Opn
structure NoteD where
  k1 : Int
  k2 : Int
  k3 : Int
  k4 : Int
  k5 : Int
  t1 : Int
  t2 : Int
  v1 : Int
  o1 : Int
  o2 : Int
  v2 : Int
  l1 : Int
  l2 : Int
  v3 : Int
  cs : List (Int × Int)
  ms : List (Int × Int)
def GrpD.sz (d : GrpD) : Nat := d.zs.length
def RegD.sz (d : RegD) : Nat := d.ps.length + d.os.length
def NoteD.sz (d : NoteD) : Nat := d.cs.length + d.ms.length
def GrpD.mk8 (d : GrpD) : Int := d.zs.length
def RegD.mk8 (d : RegD) : Int := 2 * d.ps.length + 4 * d.os.length
def NoteD.mk8 (d : NoteD) : Int := 2 * d.cs.length + 2 * d.ms.length

/-- A value reads as a group; as a shelf; as a note. -/
def AtG (d : GrpD) (w : World) (F : Nat → Prop) (v : Value) : Prop :=
  ∃ (A : Option Addr) (n cap : Nat), v = .agg #[.int .i64 d.s, .int .i64 d.l, .int .i64 d.c, .int .i64 d.sh, .slice A n cap] ∧ n ≤ maxLen ∧ RowF w F A n d.zs
def AtR (d : RegD) (w : World) (F : Nat → Prop) (v : Value) : Prop :=
  ∃ (A : Option Addr) (n cap : Nat) (A' : Option Addr) (n' cap' : Nat), v = .agg #[.int .i64 d.t, .int .i64 d.q, .int .i64 d.v, .slice A n cap, .slice A' n' cap'] ∧ n ≤ maxLen ∧ n' ≤ maxLen ∧ PairsF w F A n d.ps ∧ QuadsF w F A' n' d.os
def NoteD.cells (d : NoteD) (P : Option Addr) (p pc : Nat) (Q : Option Addr) (q qc : Nat) : Array Value :=
  #[.int .i64 d.k1, .int .i64 d.k2, .int .i64 d.k3, .int .i64 d.k4, .int .i64 d.k5, .int .i64 d.t1, .int .i64 d.t2, .int .i64 d.v1, .int .i64 d.o1, .int .i64 d.o2, .int .i64 d.v2, .slice P p pc, .slice Q q qc, .int .i64 d.l1, .int .i64 d.l2, .int .i64 d.v3]
def AtN (d : NoteD) (w : World) (F : Nat → Prop) (v : Value) : Prop :=
  ∃ (A : Option Addr) (n cap : Nat) (A' : Option Addr) (n' cap' : Nat), v = .agg (d.cells A n cap A' n' cap') ∧ n ≤ maxLen ∧ n' ≤ maxLen ∧ PairsF w F A n d.cs ∧ PairsF w F A' n' d.ms
theorem keepsG (d : GrpD) : Keeps (AtG d) := ⟨fun ⟨A, n, c, e, h1, h2⟩ ht hd => ⟨A, n, c, e, h1, h2.turn ht hd⟩, fun ⟨A, n, c, e, h1, h2⟩ hs => ⟨A, n, c, e, h1, h2.1, fun hn b o e => hs b (h2.2 hn b o e)⟩⟩
/-- Keys, pairs and opens of one's own, in a block of F. -/
def OwnZ (w : World) (F : Nat → Prop) (v : Value) (zs : List Int) : Prop := ∃ g n cap, v = .slice (some ⟨g, 0, none⟩) n cap ∧ n ≤ cap ∧ cap ≤ maxLen ∧ F g ∧ g < w.heap.size ∧ (∀ i, w.frozen? ⟨g, i, none⟩ = false) ∧ Row w w.heap.size (some ⟨g, 0, none⟩) n zs
def OwnP (w : World) (F : Nat → Prop) (v : Value) (ps : List (Int × Int)) : Prop := (v = .slice none 0 0 ∧ ps = []) ∨ ∃ g cap, F g ∧ v = .slice (some ⟨g, 0, none⟩) ps.length cap ∧ ps.length ≤ cap ∧ cap ≤ maxLen ∧ Held w g ps
def OwnO (w : World) (F : Nat → Prop) (v : Value) (os : List Opn) : Prop := (v = .slice none 0 0 ∧ os = []) ∨ ∃ g cap, F g ∧ v = .slice (some ⟨g, 0, none⟩) os.length cap ∧ os.length ≤ cap ∧ cap ≤ maxLen ∧ HeldQ w g os
theorem Held.turn {T : Nat → Prop} {a b : World} {g : Nat} {d : List (Int × Int)} (hx : Held a g d) (h : Turns T a b) (hb : ¬ T g) : Held b g d :=
  ⟨Nat.lt_of_lt_of_le hx.lt h.size, fun o => (h.frozen hx.lt hb o).trans (hx.fr o), fun i hi' => (h.cell hx.lt hb _).trans (hx.at0 i hi'), fun i hi' => (h.cell hx.lt hb _).trans (hx.at1 i hi')⟩
theorem HeldQ.turn {T : Nat → Prop} {a b : World} {g : Nat} {d : List Opn} (hx : HeldQ a g d) (h : Turns T a b) (hb : ¬ T g) : HeldQ b g d :=
  hx.keep (Nat.lt_of_lt_of_le hx.lt h.size) (fun o => h.frozen hx.lt hb o) (fun o => h.cell hx.lt hb o)
theorem OwnP.turn {T : Nat → Prop} {w w' : World} {F : Nat → Prop} {v : Value} {ps : List (Int × Int)} (h : OwnP w F v ps) (ht : Turns T w w') (hd : ∀ b, F b → ¬ T b) : OwnP w' F v ps := by
  rcases h with h | ⟨g, cap, hF, h1, h2, h3, h4⟩
  · exact .inl h
  · exact .inr ⟨g, cap, hF, h1, h2, h3, h4.turn ht (hd g hF)⟩
theorem OwnO.turn {T : Nat → Prop} {w w' : World} {F : Nat → Prop} {v : Value} {os : List Opn} (h : OwnO w F v os) (ht : Turns T w w') (hd : ∀ b, F b → ¬ T b) : OwnO w' F v os := by
  rcases h with h | ⟨g, cap, hF, h1, h2, h3, h4⟩
  · exact .inl h
  · exact .inr ⟨g, cap, hF, h1, h2, h3, h4.turn ht (hd g hF)⟩
theorem OwnZ.turn {T : Nat → Prop} {w w' : World} {F : Nat → Prop} {v : Value} {zs : List Int} (h : OwnZ w F v zs) (ht : Turns T w w') (hd : ∀ b, F b → ¬ T b) : OwnZ w' F v zs := by
  obtain ⟨g, n, cap, e, h1, h2, hF, hl, hf, hr⟩ := h
  refine ⟨g, n, cap, e, h1, h2, hF, Nat.lt_of_lt_of_le hl ht.size, fun i => (ht.frozen hl (hd g hF) i).trans (hf i), hr.1, fun hn => ?_⟩
  obtain ⟨b, o, hA, hb, hc⟩ := hr.2 hn
  cases hA
  exact ⟨_, _, rfl, Nat.lt_of_lt_of_le hl ht.size, fun i hi => (ht.cell hl (hd _ hF) _).trans (hc i hi)⟩
theorem OwnP.sub {w : World} {F F' : Nat → Prop} {v : Value} {ps : List (Int × Int)} (h : OwnP w F v ps) (hs : ∀ b, F b → F' b) : OwnP w F' v ps := by
  rcases h with h | ⟨g, cap, hF, h1⟩
  · exact .inl h
  · exact .inr ⟨g, cap, hs g hF, h1⟩
theorem OwnO.sub {w : World} {F F' : Nat → Prop} {v : Value} {os : List Opn} (h : OwnO w F v os) (hs : ∀ b, F b → F' b) : OwnO w F' v os := by
  rcases h with h | ⟨g, cap, hF, h1⟩
  · exact .inl h
  · exact .inr ⟨g, cap, hs g hF, h1⟩
theorem OwnZ.sub {w : World} {F F' : Nat → Prop} {v : Value} {zs : List Int} (h : OwnZ w F v zs) (hs : ∀ b, F b → F' b) : OwnZ w F' v zs := by
  obtain ⟨g, n, cap, e, h1, h2, hF, h3⟩ := h
  exact ⟨g, n, cap, e, h1, h2, hs g hF, h3⟩
theorem OwnP.at {w : World} {F : Nat → Prop} {v : Value} {ps : List (Int × Int)} (h : OwnP w F v ps) : ∃ A cap, v = .slice A ps.length cap ∧ ps.length ≤ maxLen ∧ PairsF w F A ps.length ps ∧ Slc w v ps := by
  rcases h with ⟨rfl, rfl⟩ | ⟨g, cap, hF, rfl, h1, h2, h3⟩
  · exact ⟨none, 0, rfl, Nat.zero_le _, ⟨⟨rfl, fun h => absurd h (by simp)⟩, fun h => absurd h (by simp)⟩, .inl ⟨rfl, rfl⟩⟩
  · exact ⟨_, cap, rfl, Nat.le_trans h1 h2, ⟨h3.pairs, fun _ b o e => by injection e with e; injection e with e; exact e ▸ hF⟩, .inr ⟨g, 0, _, cap, rfl, h3.pairs⟩⟩
theorem OwnO.at {w : World} {F : Nat → Prop} {v : Value} {os : List Opn} (h : OwnO w F v os) : ∃ A cap, v = .slice A os.length cap ∧ os.length ≤ maxLen ∧ QuadsF w F A os.length os ∧ SlcQ w v os := by
  rcases h with ⟨rfl, rfl⟩ | ⟨g, cap, hF, rfl, h1, h2, h3⟩
  · exact ⟨none, 0, rfl, Nat.zero_le _, ⟨⟨rfl, fun h => absurd h (by simp)⟩, fun h => absurd h (by simp)⟩, .inl ⟨rfl, rfl⟩⟩
  · exact ⟨_, cap, rfl, Nat.le_trans h1 h2, ⟨h3.quads, fun _ b o e => by injection e with e; injection e with e; exact e ▸ hF⟩, .inr ⟨g, 0, _, cap, rfl, h1, h2, h3.quads⟩⟩

/-- A group, a shelf, a note of one's own: the lists lie in blocks of F, apart from one another. -/
def LieG (d : GrpD) (w : World) (F : Nat → Prop) (v : Value) : Prop := ∃ u, v = .agg #[.int .i64 d.s, .int .i64 d.l, .int .i64 d.c, .int .i64 d.sh, u] ∧ OwnZ w F u d.zs
def LieR (d : RegD) (w : World) (F : Nat → Prop) (v : Value) : Prop := ∃ (A : Option Addr) (n c : Nat) (A' : Option Addr) (n' c' lo B hi : Nat), v = .agg #[.int .i64 d.t, .int .i64 d.q, .int .i64 d.v, .slice A n c, .slice A' n' c'] ∧ ResP w lo B (.slice A n c) d.ps ∧ ResQ w B hi (.slice A' n' c') d.os ∧ lo ≤ B ∧ B ≤ hi ∧ hi ≤ w.heap.size ∧ ∀ b, Iv lo hi b → F b
def LieN (d : NoteD) (w : World) (F : Nat → Prop) (v : Value) : Prop := ∃ (g n c g' n' c' : Nat), v = .agg (d.cells (some ⟨g, 0, none⟩) n c (some ⟨g', 0, none⟩) n' c') ∧ d.cs.length = n ∧ d.ms.length = n' ∧ n ≤ maxLen ∧ n' ≤ maxLen ∧ Held w g d.cs ∧ Held w g' d.ms ∧ F g ∧ F g' ∧ g ≠ g'
theorem keepsLG (d : GrpD) : Keeps (LieG d) := ⟨fun ⟨u, e, h⟩ ht hd => ⟨u, e, h.turn ht hd⟩, fun ⟨u, e, h⟩ hs => ⟨u, e, h.sub hs⟩⟩
theorem ResP.turn {T : Nat → Prop} {w w' : World} {lo hi : Nat} {v : Value} {ps : List (Int × Int)} (h : ResP w lo hi v ps) (ht : Turns T w w') (hd : ∀ b, Iv lo hi b → ¬ T b) : ResP w' lo hi v ps := by
  rcases h with h | ⟨g, cap, h0, h0', h1, h2, h3, h4⟩
  · exact .inl h
  · exact .inr ⟨g, cap, h0, h0', h1, h2, h3, h4.turn ht (hd g ⟨h0, h0'⟩)⟩
theorem ResQ.turn {T : Nat → Prop} {w w' : World} {lo hi : Nat} {v : Value} {os : List Opn} (h : ResQ w lo hi v os) (ht : Turns T w w') (hd : ∀ b, Iv lo hi b → ¬ T b) : ResQ w' lo hi v os := by
  rcases h with h | ⟨g, cap, h0, h0', h1, h2, h3, h4⟩
  · exact .inl h
  · exact .inr ⟨g, cap, h0, h0', h1, h2, h3, h4.turn ht (hd g ⟨h0, h0'⟩)⟩
theorem ResP.own {w : World} {lo hi : Nat} {v : Value} {ps : List (Int × Int)} (h : ResP w lo hi v ps) : OwnP w (Iv lo hi) v ps := by
  rcases h with h | ⟨g, cap, h0, h0', h1, h2, h3, h4⟩
  · exact .inl h
  · exact .inr ⟨g, cap, ⟨h0, h0'⟩, h1, h2, h3, h4⟩
theorem ResQ.own {w : World} {lo hi : Nat} {v : Value} {os : List Opn} (h : ResQ w lo hi v os) : OwnO w (Iv lo hi) v os := by
  rcases h with h | ⟨g, cap, h0, h0', h1, h2, h3, h4⟩
  · exact .inl h
  · exact .inr ⟨g, cap, ⟨h0, h0'⟩, h1, h2, h3, h4⟩
theorem keepsLR (d : RegD) : Keeps (LieR d) :=
  ⟨fun ⟨A, n, c, A', n', c', lo, B, hi, e, h1, h2, o1, o2, o3, hF⟩ ht hd => ⟨A, n, c, A', n', c', lo, B, hi, e, h1.turn ht (fun b hb => hd b (hF b (iv_sub (Nat.le_refl _) o2 b hb))), h2.turn ht (fun b hb => hd b (hF b (iv_sub o1 (Nat.le_refl _) b hb))), o1, o2, Nat.le_trans o3 ht.size, hF⟩,
   fun ⟨A, n, c, A', n', c', lo, B, hi, e, h1, h2, o1, o2, o3, hF⟩ hs => ⟨A, n, c, A', n', c', lo, B, hi, e, h1, h2, o1, o2, o3, fun b hb => hs b (hF b hb)⟩⟩
theorem LieG.at {d : GrpD} {w : World} {F : Nat → Prop} {v : Value} (h : LieG d w F v) : AtG d w F v := by
  obtain ⟨u, e, g, n, cap, rfl, h1, h2, hF, hl, hf, hr⟩ := h
  exact ⟨_, n, cap, e, Nat.le_trans h1 h2, hr, fun _ b o e => by injection e with e; injection e with e; exact e ▸ hF⟩
theorem LieR.at {d : RegD} {w : World} {F : Nat → Prop} {v : Value} (h : LieR d w F v) : AtR d w F v := by
  obtain ⟨A, n, c, A', n', c', lo, B, hi, e, h1, h2, o1, o2, o3, hF⟩ := h
  obtain ⟨A1, c1, e1, m, p, _⟩ := h1.own.at
  obtain ⟨A2, c2, e2, m', p', _⟩ := h2.own.at
  injection e1 with e1 e1' e1''
  injection e2 with e2 e2' e2''
  subst e1 e1' e1'' e2 e2' e2''
  exact ⟨A, _, c, A', _, c', e, m, m', ⟨p.1, fun hn b o e => hF b (iv_sub (Nat.le_refl _) o2 b (p.2 hn b o e))⟩, ⟨p'.1, fun hn b o e => hF b (iv_sub o1 (Nat.le_refl _) b (p'.2 hn b o e))⟩⟩
theorem LieR.slc {d : RegD} {w : World} {F : Nat → Prop} {v : Value} (h : LieR d w F v) : ∃ (A : Option Addr) (n c : Nat) (A' : Option Addr) (n' c' : Nat), v = .agg #[.int .i64 d.t, .int .i64 d.q, .int .i64 d.v, .slice A n c, .slice A' n' c'] ∧ Slc w (.slice A n c) d.ps ∧ SlcQ w (.slice A' n' c') d.os ∧ d.ps.length = n ∧ d.os.length = n' := by
  obtain ⟨A, n, c, A', n', c', lo, B, hi, e, h1, h2, o1, o2, o3, hF⟩ := h
  obtain ⟨A1, c1, e1, m, p, s1⟩ := h1.own.at
  obtain ⟨A2, c2, e2, m', p', s2⟩ := h2.own.at
  injection e1 with e1 e1' e1''
  injection e2 with e2 e2' e2''
  subst e1 e1' e1'' e2 e2' e2''
  exact ⟨A, _, c, A', _, c', e, s1, s2, rfl, rfl⟩
theorem LieN.at {d : NoteD} {w : World} {F : Nat → Prop} {v : Value} (h : LieN d w F v) : AtN d w F v := by
  obtain ⟨g, n, c, g', n', c', e, rfl, rfl, m1, m2, h1, h2, f1, f2, hne⟩ := h
  exact ⟨_, _, c, _, _, c', e, m1, m2, ⟨h1.pairs, fun _ b o e => by injection e with e; injection e with e; exact e ▸ f1⟩, ⟨h2.pairs, fun _ b o e => by injection e with e; injection e with e; exact e ▸ f2⟩⟩

theorem sizeG {d : GrpD} {w : World} {F : Nat → Prop} {C : Array Value} (h : AtG d w F (.agg C)) : (Tryz.prog.info? 47).map (·.size) = some C.size ∧ (Tryz.prog.info? 26).map (·.size) = some C.size := by
  obtain ⟨A, n, cap, e, _⟩ := h
  injection e with e
  subst e
  exact ⟨by kernel_rfl, by kernel_rfl⟩
theorem oneG {d : GrpD} {w : World} {F : Nat → Prop} {C : Array Value} (h : AtG d w F (.agg C)) : C.size = 5 ∧ C.all (·.oneCell') = true := by
  obtain ⟨A, n, cap, e, _⟩ := h
  injection e with e
  subst e
  exact ⟨rfl, by simp [Value.oneCell']⟩
theorem oneR {d : RegD} {w : World} {F : Nat → Prop} {C : Array Value} (h : AtR d w F (.agg C)) : C.size = 5 ∧ C.all (·.oneCell') = true := by
  obtain ⟨A, n, cap, A', n', cap', e, _⟩ := h
  injection e with e
  subst e
  exact ⟨rfl, by simp [Value.oneCell']⟩
/-- A fresh variable that was written whole at once. -/
theorem bel_new_row (w : World) (Z : Array Value) (t : TypeId) (C : Array Value) : Below w.heap.size w ((w.alloc (.cells Z t)).setRow w.heap.size C) :=
  (turns_setRow (w.alloc (.cells Z t)) w.heap.size C).below (bel_alloc w _) (fun i hi => by omega)
theorem var_new_row {P : World → (Nat → Prop) → Value → Prop} (k : Keeps P) {Z C : Array Value} (t : TypeId) {w : World} {F : Nat → Prop} (h : P w F (.agg C)) (hF : ∀ b, F b → b < w.heap.size) : VarOf P t ((w.alloc (.cells Z t)).setRow w.heap.size C) F w.heap.size C :=
  VarOf.put k (Box.new w t Z) (k.later h (bel_alloc w _)) (fun hf => absurd (hF _ hf) (Nat.lt_irrefl _))

end Go.Proofs.YtjdepjpjjgkmbaaGreat

/- What the model's functions of spec/l03_claim.go answer at every claim: contracts of each of them. -/
namespace Go.Proofs.YtjdepjpjjgkmbaaGreat
open Go.RowKit

theorem l3M_any (w : World) : Calls Tryz.prog 206 #[] w fun e w' => e = .returned (.int .i64 2147483647) ∧ w = w' := by
  go_enter Tryz.func206, Tryz.ntmps206
  go_wp2
  go_ret
  exact ⟨rfl, rfl⟩

theorem l3Value_any (x : Int) (w : World) : Calls Tryz.prog 196 #[.int .i64 x] w fun e w' => e = .returned (.bool (inB x 0 9999)) ∧ w = w' := by
  go_enter Tryz.func196, Tryz.ntmps196
  go_wp2_with (go_at_call 174; refine (l1In_any _ _ _ _).mono ?_; rintro e w' ⟨rfl, rfl⟩)
  go_ret
  exact ⟨rfl, rfl⟩

set_option maxHeartbeats 400000 in
theorem specClaim_any (ck ch ct cq cv : Int) (w : World) :
    Calls Tryz.prog 221 #[.agg #[.int .i64 ck, .int .i64 ch, .int .i64 ct, .int .i64 cq, .int .i64 cv]] w fun e w' => e = .returned (.bool (clB ck ch ct cq cv)) ∧ Below w.heap.size w w' := by
  have D := Box.new w 180 #[.int .i64 ck, .int .i64 ch, .int .i64 ct, .int .i64 cq, .int .i64 cv]
  have hb0 := bel_alloc w (.cells #[.int .i64 ck, .int .i64 ch, .int .i64 ct, .int .i64 cq, .int .i64 cv] 180)
  rcases h1 : inB ck 1 2 with _ | _
  · have e := Lib.hid (clB_1 h1 ch ct cq cv)
    go_enter Tryz.func221, Tryz.ntmps221
    go_wp2_with (go_at_call 174; refine (l1In_any _ _ _ _).mono ?_; rintro e w' ⟨rfl, rfl⟩)
    go_ret
    exact ⟨by rw [e.out]; rfl, hb0⟩
  rcases h2 : inB ch 0 3 with _ | _
  · have e := Lib.hid (clB_2 h2 ck ct cq cv)
    go_enter Tryz.func221, Tryz.ntmps221
    go_wp2_with (go_at_call 174; refine (l1In_any _ _ _ _).mono ?_; rintro e w' ⟨rfl, rfl⟩)
    go_ret
    exact ⟨by rw [e.out]; rfl, hb0⟩
  rcases h3 : stB ct cq with _ | _
  · have e := Lib.hid (clB_3 h3 ck ch cv)
    go_enter Tryz.func221, Tryz.ntmps221
    go_wp2_with (first | (go_at_call 174; refine (l1In_any _ _ _ _).mono ?_; rintro e w' ⟨rfl, rfl⟩) | (go_at_call 195; refine (specStampOk_any ct cq _).mono ?_; rintro e w1 ⟨rfl, hb1⟩))
    go_ret
    exact ⟨by rw [e.out]; rfl, bel_trans hb0 hb1⟩
  · have e := Lib.hid (clB_4 h1 h2 h3 cv)
    go_enter Tryz.func221, Tryz.ntmps221
    go_wp2_with (first | (go_at_call 174; refine (l1In_any _ _ _ _).mono ?_; rintro e w' ⟨rfl, rfl⟩) | (go_at_call 196; refine (l3Value_any _ _).mono ?_; rintro e w' ⟨rfl, rfl⟩) | (go_at_call 195; refine (specStampOk_any ct cq _).mono ?_; rintro e w1 ⟨rfl, hb1⟩; obtain ⟨d0, d1, d2, d3, d4⟩ := (D.later hb1 D.lt).five))
    go_ret
    exact ⟨by rw [e.out]; rfl, bel_trans hb0 hb1⟩

set_option maxHeartbeats 400000 in
theorem l3Mix_any (b n : Nat) (zs : List Int) (w : World) (hz : mixable zs) (hl : zs.length = n) (hn : n ≤ 16) (hr : Box w b 2 (zs.map (Value.int .i64)).toArray) :
    Calls Tryz.prog 188 #[.slice (some ⟨b, 0, none⟩) n n] w fun e w' => e = .returned (.int .i64 (mixN 7 zs)) ∧ Below w.heap.size w w' := by
  have HZ := Lib.hid hz
  have HL := Lib.hid hl
  have HR := Lib.hid hr
  clear hz hl hr
  go_enter Tryz.func188, Tryz.ntmps188
  go_wp2_with fail
  go_loopw [3, 4] (fun a i wr => ∃ (k : Nat) (y : Int), k ≤ n ∧ i = .int .i64 k ∧ a = .int .i64 y ∧ Hid (mixN 7 (zs.take k) = y) ∧ Below w.heap.size w wr) (fun _ i _ => n - (intOf i).toNat)
  case atStart => exact ⟨0, 7, by omega, rfl, rfl, rfl, Below.refl _ _⟩
  case round =>
    obtain ⟨k, y, hk, rfl, rfl, hy, E⟩ := hrel
    by_cases hlt : k < n
    · have R := HR.out.later E HR.out.lt
      have hr := After.cell (a := ⟨b, k, none⟩) R.lt (R.ints (i := k) (by rw [HL.out]; exact hlt))
      have hzk := HZ.out k (by rw [HL.out]; exact hlt)
      have HS : Hid (mixN 7 (zs.take (k + 1)) = mix1 y (nth zs k)) := by show _ = _; rw [mixN_snoc (by rw [HL.out]; exact hlt), hy.out]
      obtain ⟨hy0, hy1⟩ : 0 ≤ y ∧ y ≤ 2147483646 := by rw [← hy.out]; exact mixN_bd _ _ (by omega) (by omega)
      generalize nth zs k = z at hr hzk HS
      obtain ⟨hz0, hz1⟩ := hzk
      have hlt' : (k : Int) < (n : Int) := by omega
      have i1 : IntKind.i64.wrap (48271 * y) = 48271 * y := IntWalk.i64_in _ (by omega)
      have i2 : IntKind.i64.wrap (48271 * y + z) = 48271 * y + z := IntWalk.i64_in _ (by omega)
      have i3 : IntKind.i64.wrap (48271 * y + z + 1) = 48271 * y + z + 1 := IntWalk.i64_in _ (by omega)
      have ht := mix1_tmod hy0 hz0
      have i4 : IntKind.i64.wrap (mix1 y z) = mix1 y z := IntWalk.i64_in _ (by have := mix1_bd y z; omega)
      clear R
      go_wp2_with fail
      refine wp_region_after (by kernel_rfl) (by kernel_rfl) ?_
      repeat (first | go_big_quiet_step ((go_at_call 206; exact after_same (l3M_any _))) | quiet_step ((go_at_call 206; exact after_same (l3M_any _))))
      refine wpQuiet_nil ?_
      intro p
      clear i1 i2 i3 i4 ht
      go_wp2
      go_roundw
      case rel => exact ⟨k + 1, mix1 y z, by omega, by go_num, rfl, HS.out, bel_trans E p.bel⟩
      case measure => simp [intOf]; omega
    · have hz := HL.out
      have HE : Hid (mixN 7 zs = y) := by show _ = _; rw [← hy.out, List.take_of_length_le (by omega)]
      clear hz
      go_wp2
      go_ret
      exact ⟨by rw [HE.out]; rfl, E⟩

set_option maxHeartbeats 400000 in
theorem specDigest_any (ck ch ct cq cv : Int) (w : World) :
    Calls Tryz.prog 222 #[.agg #[.int .i64 ck, .int .i64 ch, .int .i64 ct, .int .i64 cq, .int .i64 cv]] w fun e w' => e = .returned (.int .i64 (digN ck ch ct cq cv)) ∧ Below w.heap.size w w' := by
  have D := Box.new w 180 #[.int .i64 ck, .int .i64 ch, .int .i64 ct, .int .i64 cq, .int .i64 cv]
  have hb0 := bel_alloc w (.cells #[.int .i64 ck, .int .i64 ch, .int .i64 ct, .int .i64 cq, .int .i64 cv] 180)
  go_enter Tryz.func222, Tryz.ntmps222
  go_wp2_with fail
  generalize (w.alloc _ : World) = w0 at hb0 D ⊢
  refine (specClaim_any ck ch ct cq cv w0).mono ?_
  rintro e w1 ⟨rfl, hb1⟩
  have D1 := D.later hb1 D.lt
  have E1 := bel_trans hb0 hb1
  clear D hb0 hb1
  rcases h1 : clB ck ch ct cq cv with _ | _
  · have e := Lib.hid (digN_no h1)
    go_wp2
    go_ret
    exact ⟨by rw [e.out]; rfl, E1⟩
  have e := Lib.hid (digN_yes h1)
  have H1 := Lib.hid (mixable_claim h1)
  obtain ⟨d0, d1, d2, d3, d4⟩ := D1.five
  have R := Box.new w1 2 #[.int .i64 ck, .int .i64 ch, .int .i64 ct, .int .i64 cq, .int .i64 cv]
  have E3 := bel_trans E1 (bel_alloc w1 (.cells #[.int .i64 ck, .int .i64 ch, .int .i64 ct, .int .i64 cq, .int .i64 cv] 2))
  go_wp2_with fail
  generalize (w1.alloc _ : World) = w3 at R E3 ⊢
  refine (l3Mix_any w1.heap.size 5 [ck, ch, ct, cq, cv] w3 H1.out rfl (by omega) R).mono ?_
  rintro e w4 ⟨rfl, G⟩
  go_wp2
  go_ret
  exact ⟨by rw [e.out]; rfl, bel_trans E3 G⟩

end Go.Proofs.YtjdepjpjjgkmbaaGreat

/- What the functions of impl/l03_claim.go answer at every claim: contracts of each of them. -/
namespace Go.Proofs.YtjdepjpjjgkmbaaGreat
open Go.RowKit

set_option maxHeartbeats 400000 in
theorem claimOk_any (ck ch ct cq cv : Int) (w : World) :
    Calls Tryz.prog 253 #[.agg #[.int .i64 ck, .int .i64 ch, .int .i64 ct, .int .i64 cq, .int .i64 cv]] w fun e w' => e = .returned (.bool (clB ck ch ct cq cv)) ∧ Below w.heap.size w w' := by
  have D := Box.new w 180 #[.int .i64 ck, .int .i64 ch, .int .i64 ct, .int .i64 cq, .int .i64 cv]
  have hb0 := bel_alloc w (.cells #[.int .i64 ck, .int .i64 ch, .int .i64 ct, .int .i64 cq, .int .i64 cv] 180)
  rcases h1 : inB ck 1 2 with _ | _
  · have e := Lib.hid (clB_1 h1 ch ct cq cv)
    go_enter Tryz.func253, Tryz.ntmps253
    go_wp2_with (go_at_call 143; refine (within_any _ _ _ _).mono ?_; rintro e w' ⟨rfl, rfl⟩)
    go_ret
    exact ⟨by rw [e.out]; rfl, hb0⟩
  rcases h2 : inB ch 0 3 with _ | _
  · have e := Lib.hid (clB_2 h2 ck ct cq cv)
    go_enter Tryz.func253, Tryz.ntmps253
    go_wp2_with (go_at_call 143; refine (within_any _ _ _ _).mono ?_; rintro e w' ⟨rfl, rfl⟩)
    go_ret
    exact ⟨by rw [e.out]; rfl, hb0⟩
  rcases h3 : stB ct cq with _ | _
  · have e := Lib.hid (clB_3 h3 ck ch cv)
    go_enter Tryz.func253, Tryz.ntmps253
    go_wp2_with (first | (go_at_call 143; refine (within_any _ _ _ _).mono ?_; rintro e w' ⟨rfl, rfl⟩) | (go_at_call 114; refine (stampOk_any ct cq _).mono ?_; rintro e w1 ⟨rfl, hb1⟩))
    go_ret
    exact ⟨by rw [e.out]; rfl, bel_trans hb0 hb1⟩
  · have e := Lib.hid (clB_4 h1 h2 h3 cv)
    go_enter Tryz.func253, Tryz.ntmps253
    go_wp2_with (first | (go_at_call 143; refine (within_any _ _ _ _).mono ?_; rintro e w' ⟨rfl, rfl⟩) | (go_at_call 114; refine (stampOk_any ct cq _).mono ?_; rintro e w1 ⟨rfl, hb1⟩; obtain ⟨d0, d1, d2, d3, d4⟩ := (D.later hb1 D.lt).five))
    go_ret
    exact ⟨by rw [e.out]; rfl, bel_trans hb0 hb1⟩

/-- A mixer is made: a new variable that has 7. -/
theorem mixer_any (w : World) :
    Calls Tryz.prog 189 #[] w fun e w' => e = .returned (.func (.func 223) #[] #[.pointer (some ⟨w.heap.size, 0, none⟩)]) ∧ Box w' w.heap.size 2 #[.int .i64 7] ∧ Below w.heap.size w w' := by
  have D := Box.new w 2 #[.int .i64 7]
  go_enter Tryz.func189, Tryz.ntmps189
  go_wp2
  go_ret
  exact ⟨rfl, D, bel_alloc _ _⟩

set_option maxHeartbeats 400000 in
/-- Numbers are mixed into what a mixer has. -/
theorem mixIn_any (g b n : Nat) (zs : List Int) (x : Int) (w : World) (hx0 : 0 ≤ x) (hx1 : x ≤ 2147483646) (hz : mixable zs) (hl : zs.length = n) (hn : n ≤ 16)
    (hB : Box w g 2 #[.int .i64 x]) (hr : Box w b 2 (zs.map (Value.int .i64)).toArray) (hne : b ≠ g) :
    Calls Tryz.prog 223 #[.slice (some ⟨b, 0, none⟩) n n, .pointer (some ⟨g, 0, none⟩)] w fun e w' => e = .returned (.int .i64 (mixN x zs)) ∧ w.grownBy w' (some g) := by
  have HZ := Lib.hid hz
  have HL := Lib.hid hl
  have HX := Lib.hid (And.intro hx0 hx1)
  have HR := Lib.hid hr
  clear hz hl hr hx0 hx1
  go_enter Tryz.func223, Tryz.ntmps223
  go_wp2_with fail
  go_loopw [8] (fun i wr => ∃ (k : Nat) (y : Int), k ≤ n ∧ i = .int .i64 k ∧ Hid (mixN x (zs.take k) = y) ∧ Box wr g 2 #[.int .i64 y] ∧ w.grownBy wr (some g)) (fun i _ => n - (intOf i).toNat)
  case atStart => exact ⟨0, x, by omega, rfl, rfl, hB, grown_refl _ _⟩
  case round =>
    obtain ⟨k, y, hk, rfl, hy, Y, G⟩ := hrel
    have y0 := Y.cell 0
    have fy := Y.frozen
    by_cases hlt : k < n
    · have hr := (HR.out.kept G (by intro e; injection e with e; exact hne e.symm)).ints (i := k) (by rw [HL.out]; exact hlt)
      have hzk := HZ.out k (by rw [HL.out]; exact hlt)
      have HS : Hid (mixN x (zs.take (k + 1)) = mix1 y (nth zs k)) := by show _ = _; rw [mixN_snoc (by rw [HL.out]; exact hlt), hy.out]
      obtain ⟨hy0, hy1⟩ : 0 ≤ y ∧ y ≤ 2147483646 := by rw [← hy.out]; exact mixN_bd _ _ HX.out.1 HX.out.2
      generalize nth zs k = z at hr hzk HS
      obtain ⟨hz0, hz1⟩ := hzk
      go_wp2
      go_roundw
      case rel => exact ⟨k + 1, _, by omega, by go_num, HS.out, Y.set 0 (.int .i64 (mix1 y z)), grown_set G 0 _⟩
      case measure => simp [intOf]; omega
    · have hz := HL.out
      have HE : Hid (mixN x zs = y) := by show _ = _; rw [← hy.out, List.take_of_length_le (by omega)]
      clear hz
      go_wp2
      go_ret
      exact ⟨by rw [HE.out]; rfl, G⟩

set_option maxHeartbeats 400000 in
theorem digest_any (ck ch ct cq cv : Int) (w : World) :
    Calls Tryz.prog 254 #[.agg #[.int .i64 ck, .int .i64 ch, .int .i64 ct, .int .i64 cq, .int .i64 cv]] w fun e w' => e = .returned (.int .i64 (digN ck ch ct cq cv)) ∧ Below w.heap.size w w' := by
  have D := Box.new w 180 #[.int .i64 ck, .int .i64 ch, .int .i64 ct, .int .i64 cq, .int .i64 cv]
  have hb0 := bel_alloc w (.cells #[.int .i64 ck, .int .i64 ch, .int .i64 ct, .int .i64 cq, .int .i64 cv] 180)
  go_enter Tryz.func254, Tryz.ntmps254
  go_wp2_with fail
  generalize (w.alloc _ : World) = w0 at hb0 D ⊢
  refine (claimOk_any ck ch ct cq cv w0).mono ?_
  rintro e w1 ⟨rfl, hb1⟩
  have D1 := D.later hb1 D.lt
  have E1 := bel_trans hb0 hb1
  clear D hb0 hb1
  rcases h1 : clB ck ch ct cq cv with _ | _
  · have e := Lib.hid (digN_no h1)
    go_wp2
    go_ret
    exact ⟨by rw [e.out]; rfl, E1⟩
  have e := Lib.hid (digN_yes h1)
  have H1 := Lib.hid (mixable_claim h1)
  go_wp2_with fail
  refine (mixer_any w1).mono ?_
  rintro e w2 ⟨rfl, M, hb2⟩
  have D2 := D1.later hb2 D1.lt
  have E2 := bel_trans E1 hb2
  have hs := E1.size
  clear D1 hb2 E1
  obtain ⟨d0, d1, d2, d3, d4⟩ := D2.five
  have R := Box.new w2 2 #[.int .i64 ck, .int .i64 ch, .int .i64 ct, .int .i64 cq, .int .i64 cv]
  have M3 := M.alloc (.cells #[.int .i64 ck, .int .i64 ch, .int .i64 ct, .int .i64 cq, .int .i64 cv] 2)
  have E3 := bel_trans E2 (bel_alloc w2 (.cells #[.int .i64 ck, .int .i64 ch, .int .i64 ct, .int .i64 cq, .int .i64 cv] 2))
  have hne := Nat.ne_of_gt M.lt
  go_wp2_with fail
  generalize (w2.alloc _ : World) = w3 at R M3 E3 ⊢
  refine (mixIn_any w1.heap.size w2.heap.size 5 [ck, ch, ct, cq, cv] 7 w3 (by omega) (by omega) H1.out rfl (by omega) M3 R hne).mono ?_
  rintro e w4 ⟨rfl, G⟩
  go_wp2
  go_ret
  exact ⟨by rw [e.out]; rfl, bel_grown E3 G hs⟩

end Go.Proofs.YtjdepjpjjgkmbaaGreat

/- What SealOf and SealRight of impl/l03_claim.go answer at every group, claim and seal: contracts of each of them. -/
namespace Go.Proofs.YtjdepjpjjgkmbaaGreat
open Go.RowKit

/-- What a seal's making reads is as it was. -/
theorem sealKeep {w w' : World} {g gc b o : Nat} {tg tc : TypeId} {v0 v1 v2 v3 v4 u0 u1 u2 u3 u4 kv : Value} {r : Option Nat} (DG : Box w g tg #[v0, v1, v2, v3, v4]) (DC : Box w gc tc #[u0, u1, u2, u3, u4]) (hb : b < w.heap.size) (k : w.cell? ⟨b, o, none⟩ = some kv)
    (G : w.grownBy w' r) (h1 : r ≠ some g) (h2 : r ≠ some gc) (h3 : r ≠ some b) :
    w'.cell? ⟨g, 4, none⟩ = some v4 ∧ w'.cell? ⟨gc, 0, none⟩ = some u0 ∧ w'.cell? ⟨gc, 1, none⟩ = some u1 ∧ w'.cell? ⟨gc, 2, none⟩ = some u2 ∧ w'.cell? ⟨gc, 3, none⟩ = some u3 ∧ w'.cell? ⟨gc, 4, none⟩ = some u4 ∧ w'.cell? ⟨b, o, none⟩ = some kv :=
  ⟨(DG.kept G h1).cell 4, (DC.kept G h2).cell 0, (DC.kept G h2).cell 1, (DC.kept G h2).cell 2, (DC.kept G h2).cell 3, (DC.kept G h2).cell 4, (World.cell?_of_block (G.block b hb (fun e => h3 e.symm))).trans k⟩

/-- And so where two cells of another block are written. -/
theorem sealSet {w : World} {g gc b o q : Nat} {v4 u0 u1 u2 u3 u4 kv x y : Value}
    (K : w.cell? ⟨g, 4, none⟩ = some v4 ∧ w.cell? ⟨gc, 0, none⟩ = some u0 ∧ w.cell? ⟨gc, 1, none⟩ = some u1 ∧ w.cell? ⟨gc, 2, none⟩ = some u2 ∧ w.cell? ⟨gc, 3, none⟩ = some u3 ∧ w.cell? ⟨gc, 4, none⟩ = some u4 ∧ w.cell? ⟨b, o, none⟩ = some kv)
    (h1 : g ≠ q) (h2 : gc ≠ q) (h3 : b ≠ q) (w' : World) (hw : w' = (w.setCell ⟨q, 0, none⟩ x).setCell ⟨q, 1, none⟩ y) :
    w'.cell? ⟨g, 4, none⟩ = some v4 ∧ w'.cell? ⟨gc, 0, none⟩ = some u0 ∧ w'.cell? ⟨gc, 1, none⟩ = some u1 ∧ w'.cell? ⟨gc, 2, none⟩ = some u2 ∧ w'.cell? ⟨gc, 3, none⟩ = some u3 ∧ w'.cell? ⟨gc, 4, none⟩ = some u4 ∧ w'.cell? ⟨b, o, none⟩ = some kv := by
  have F : ∀ b o, b ≠ q → w'.cell? ⟨b, o, none⟩ = w.cell? ⟨b, o, none⟩ := fun b o h => by
    rw [hw, World.cell?_setCell_other _ _ _ _ (fun e => h (congrArg Addr.block e).symm), World.cell?_setCell_other _ _ _ _ (fun e => h (congrArg Addr.block e).symm)]
  simp only [F _ _ h1, F _ _ h2, F _ _ h3]
  exact K

set_option maxHeartbeats 1000000 in
theorem sealOf_any (s l c sh : Int) (A : Option Addr) (n cap : Nat) (zs : List Int) (ck ch ct cq cv x : Int) (w : World) (hm : n ≤ maxLen) (hr : Row w w.heap.size A n zs) :
    Calls Tryz.prog 247 #[.agg #[.int .i64 s, .int .i64 l, .int .i64 c, .int .i64 sh, .slice A n cap], .agg #[.int .i64 ck, .int .i64 ch, .int .i64 ct, .int .i64 cq, .int .i64 cv], .int .i64 x] w fun e w' => e = .returned (seV s l c sh zs ck ch ct cq cv x) ∧ Below w.heap.size w w' := by
  have HR := Lib.hid hr
  have HM := Lib.hid hm
  clear hr hm
  have DG := ((Box.new w 26 #[.int .i64 s, .int .i64 l, .int .i64 c, .int .i64 sh, .slice A n cap]).alloc (.cells #[.int .i64 ck, .int .i64 ch, .int .i64 ct, .int .i64 cq, .int .i64 cv] 180)).alloc (.cells #[.int .i64 0, .int .i64 0] 136)
  have DC := (Box.new (w.alloc (.cells #[.int .i64 s, .int .i64 l, .int .i64 c, .int .i64 sh, .slice A n cap] 26)) 180 #[.int .i64 ck, .int .i64 ch, .int .i64 ct, .int .i64 cq, .int .i64 cv]).alloc (.cells #[.int .i64 0, .int .i64 0] 136)
  have X := Box.new ((w.alloc (.cells #[.int .i64 s, .int .i64 l, .int .i64 c, .int .i64 sh, .slice A n cap] 26)).alloc (.cells #[.int .i64 ck, .int .i64 ch, .int .i64 ct, .int .i64 cq, .int .i64 cv] 180)) 136 #[.int .i64 0, .int .i64 0]
  have hb0 := bel_trans (bel_trans (bel_alloc w (.cells #[.int .i64 s, .int .i64 l, .int .i64 c, .int .i64 sh, .slice A n cap] 26)) (bel_alloc _ (.cells #[.int .i64 ck, .int .i64 ch, .int .i64 ct, .int .i64 cq, .int .i64 cv] 180))) (bel_alloc _ (.cells #[.int .i64 0, .int .i64 0] 136))
  simp only [World.size_alloc] at DC X
  go_enter Tryz.func247, Tryz.ntmps247
  go_wp2_with fail
  generalize (((w.alloc _).alloc _).alloc _ : World) = w0 at hb0 DG DC X ⊢
  refine (claimOk_any ck ch ct cq cv w0).mono ?_
  rintro e w1 ⟨rfl, hb1⟩
  have DG1 := DG.later hb1 DG.lt
  have DC1 := DC.later hb1 DC.lt
  have X1 := X.later hb1 X.lt
  have E1 := bel_trans hb0 hb1
  clear DG DC X hb0 hb1
  rcases h1 : clB ck ch ct cq cv with _ | _
  · have H := Lib.hid (seV_no (seB_1 h1 s l c sh zs x))
    obtain ⟨x0, x1⟩ := X1.two
    have fx := X1.frozen
    go_wp2
    exact bodyPost_ret (v := .tuple #[.agg #[.int .i64 0, .int .i64 0], .bool false]) (by simp [results, Tryz.results247, go_sem, x0, x1]) rfl ⟨by rw [H.out], (E1.setCell (by simp; omega) _).setCell (by simp; omega) _⟩
  obtain ⟨g0, g1, g2, g3, g4⟩ := DG1.five
  go_wp2_with fail
  refine (server_any s l c sh A n cap zs x w1 HM.out ((HR.out.below E1 (Nat.le_refl _)).more E1.size)).mono ?_
  rintro e w2 ⟨rfl, hb2⟩
  have DG2 := DG1.later hb2 DG1.lt
  have DC2 := DC1.later hb2 DC1.lt
  have X2 := X1.later hb2 X1.lt
  have E2 := bel_trans E1 hb2
  clear DG1 DC1 X1 E1 hb2 g0 g1 g2 g3 g4
  rcases h2 : srvB s l c sh zs x with _ | _
  · have H := Lib.hid (seV_no (seB_2 h2 ck ch ct cq cv))
    obtain ⟨x0, x1⟩ := X2.two
    have fx := X2.frozen
    go_wp2
    exact bodyPost_ret (v := .tuple #[.agg #[.int .i64 0, .int .i64 0], .bool false]) (by simp [results, Tryz.results247, go_sem, x0, x1]) rfl ⟨by rw [H.out], (E2.setCell (by simp; omega) _).setCell (by simp; omega) _⟩
  have H := Lib.hid (seV_yes (seB_3 h1 h2))
  have HX := Lib.hid (mixable_seal h1 h2)
  obtain ⟨hx0, hx9, hxn, hk1, hk2⟩ := srvB_key h2
  have hzn := HR.out.1
  rw [hzn] at hxn
  obtain ⟨b, o, hA, hbB, hcell⟩ := HR.out.2 (by omega)
  subst hA
  have hxk := hcell x.toNat hxn
  have hxi : x < (n : Int) := by omega
  go_wp2_with fail
  refine (mixer_any w2).mono ?_
  rintro e w3 ⟨rfl, M, hb3⟩
  have DG3 := DG2.later hb3 DG2.lt
  have DC3 := DC2.later hb3 DC2.lt
  have X3 := X2.later hb3 X2.lt
  have E3 := bel_trans E2 hb3
  have hs2 := E2.size
  have hxl := X2.lt
  clear DG2 DC2 X2 E2 hb3
  obtain ⟨g0, g1, g2, g3, g4⟩ := DG3.five
  obtain ⟨c0, c1, c2, c3, c4⟩ := DC3.five
  have k0 := (E3.cell (p := ⟨b, o + x.toNat, none⟩) hbB).trans hxk
  clear hcell hxk hzn
  have hbl : b < w3.heap.size := Nat.lt_of_lt_of_le hbB E3.size
  have hn1 : w.heap.size ≠ w.heap.size + 1 + 1 := by omega
  have hn2 : b ≠ w.heap.size + 1 + 1 := by omega
  have hn3 : w.heap.size + 1 ≠ w.heap.size + 1 + 1 := by omega
  go_wp2_with fail
  go_region_held3 (fun w' => w'.cell? ⟨w.heap.size, 4, none⟩ = some (.slice (some ⟨b, o, none⟩) n cap) ∧ w'.cell? ⟨w.heap.size + 1, 0, none⟩ = some (.int .i64 ck) ∧ w'.cell? ⟨w.heap.size + 1, 1, none⟩ = some (.int .i64 ch) ∧ w'.cell? ⟨w.heap.size + 1, 2, none⟩ = some (.int .i64 ct) ∧ w'.cell? ⟨w.heap.size + 1, 3, none⟩ = some (.int .i64 cq) ∧ w'.cell? ⟨w.heap.size + 1, 4, none⟩ = some (.int .i64 cv) ∧ w'.cell? ⟨b, o + x.toNat, none⟩ = some (.int .i64 (nth zs x.toNat))) (first | (with_reducible exact sealSet K6 hn1 hn3 hn2 _ rfl) | (with_reducible exact K6) | (with_reducible exact K5) | go_keep)
    (first
      | (go_at_call 254; refine (digest_any ck ch ct cq cv _).mono ?_; rintro e w5 ⟨rfl, hb5⟩; have F5 := bel_drew' hb5; have K5 := sealKeep DG3 DC3 hbl k0 (grown_bel F5 none) (by simp) (by simp) (by simp))
      | (go_at_call 223; refine (mixIn_any w2.heap.size w5.heap.size 3 [nth zs x.toNat, digN ck ch ct cq cv, x] 7 _ (by omega) (by omega) HX.out rfl (by omega) ?_ ?_ ?_).mono ?_; exact (M.later F5 M.lt).alloc _; exact Box.new w5 2 _; exact Nat.ne_of_gt (M.later F5 M.lt).lt; rintro e w6 ⟨rfl, G6⟩; have G7 := grown_trans (grown_alloc (grown_bel F5 (some w2.heap.size)) _) G6; have K6 := sealKeep DG3 DC3 hbl k0 G7 (by simp; omega) (by simp; omega) (by simp; omega); have X6 := X3.kept G7 (by simp; omega); have E6 := bel_grown E3 G7 hs2; clear G6; obtain ⟨x0, x1⟩ := X6.two; have fx := X6.frozen))
  go_wp2
  exact bodyPost_ret (v := .tuple #[.agg #[.int .i64 x, .int .i64 (tagN zs ck ch ct cq cv x)], .bool true]) (by simp [results, Tryz.results247, go_sem, x0, x1]; rfl) rfl ⟨by rw [H.out], (E6.setCell (by simp; omega) _).setCell (by simp; omega) _⟩

set_option maxHeartbeats 1000000 in
theorem sealRight_any (s l c sh : Int) (A : Option Addr) (n cap : Nat) (zs : List Int) (ck ch ct cq cv x t : Int) (w : World) (hm : n ≤ maxLen) (hr : Row w w.heap.size A n zs) :
    Calls Tryz.prog 244 #[.agg #[.int .i64 s, .int .i64 l, .int .i64 c, .int .i64 sh, .slice A n cap], .agg #[.int .i64 ck, .int .i64 ch, .int .i64 ct, .int .i64 cq, .int .i64 cv], .agg #[.int .i64 x, .int .i64 t]] w fun e w' => e = .returned (.bool (riB s l c sh zs ck ch ct cq cv x t)) ∧ Below w.heap.size w w' := by
  have HR := Lib.hid hr
  have HM := Lib.hid hm
  clear hr hm
  have X := Box.new ((w.alloc (.cells #[.int .i64 s, .int .i64 l, .int .i64 c, .int .i64 sh, .slice A n cap] 26)).alloc (.cells #[.int .i64 ck, .int .i64 ch, .int .i64 ct, .int .i64 cq, .int .i64 cv] 180)) 136 #[.int .i64 x, .int .i64 t]
  have hb0 := bel_trans (bel_trans (bel_alloc w (.cells #[.int .i64 s, .int .i64 l, .int .i64 c, .int .i64 sh, .slice A n cap] 26)) (bel_alloc _ (.cells #[.int .i64 ck, .int .i64 ch, .int .i64 ct, .int .i64 cq, .int .i64 cv] 180))) (bel_alloc _ (.cells #[.int .i64 x, .int .i64 t] 136))
  simp only [World.size_alloc] at X
  go_enter Tryz.func244, Tryz.ntmps244
  go_wp2_with fail
  generalize (((w.alloc _).alloc _).alloc _ : World) = w0 at hb0 X ⊢
  have C := sealOf_any s l c sh A n cap zs ck ch ct cq cv x w0 HM.out ((HR.out.below hb0 (Nat.le_refl _)).more hb0.size)
  rcases h : seB s l c sh zs ck ch ct cq cv x with _ | _
  · have e := Lib.hid (riB_no h t)
    rw [seV_no h] at C
    refine C.mono ?_
    rintro e w1 ⟨rfl, hb1⟩
    have E1 := bel_trans hb0 hb1
    go_wp2
    go_ret
    exact ⟨by rw [e.out]; rfl, bel_trans E1 (bel_alloc _ _)⟩
  · have e := Lib.hid (riB_yes h t)
    rw [seV_yes h] at C
    generalize tagN zs ck ch ct cq cv x = tg at C e
    refine C.mono ?_
    rintro e w1 ⟨rfl, hb1⟩
    have E1 := bel_trans hb0 hb1
    have X1 := X.later hb1 X.lt
    obtain ⟨x0, x1⟩ := X1.two
    have xl := X1.lt
    clear C X hb0 hb1
    by_cases ht : t = tg
    · subst ht
      go_wp2
      go_ret
      exact ⟨by rw [e.out]; simp, bel_trans E1 (bel_alloc _ _)⟩
    · have ht1 : (t == tg) = false := by simpa using ht
      have ht2 : (tg == t) = false := by simpa using fun e => ht e.symm
      have H := Lib.hid ht
      go_wp2
      go_ret
      exact ⟨by rw [e.out]; simp [H.out], bel_trans E1 (bel_alloc _ _)⟩

end Go.Proofs.YtjdepjpjjgkmbaaGreat

/- What SealOf and SealRight of spec/l03_claim.go answer at every group, claim and seal: contracts of each of them. -/
namespace Go.Proofs.YtjdepjpjjgkmbaaGreat
open Go.RowKit

set_option maxHeartbeats 1000000 in
theorem specSeal_any (s l c sh : Int) (A : Option Addr) (n cap : Nat) (zs : List Int) (ck ch ct cq cv x : Int) (w : World) (hm : n ≤ maxLen) (hr : Row w w.heap.size A n zs) :
    Calls Tryz.prog 184 #[.agg #[.int .i64 s, .int .i64 l, .int .i64 c, .int .i64 sh, .slice A n cap], .agg #[.int .i64 ck, .int .i64 ch, .int .i64 ct, .int .i64 cq, .int .i64 cv], .int .i64 x] w fun e w' => e = .returned (seV s l c sh zs ck ch ct cq cv x) ∧ Below w.heap.size w w' := by
  have HR := Lib.hid hr
  have HM := Lib.hid hm
  clear hr hm
  have DG := ((Box.new w 26 #[.int .i64 s, .int .i64 l, .int .i64 c, .int .i64 sh, .slice A n cap]).alloc (.cells #[.int .i64 ck, .int .i64 ch, .int .i64 ct, .int .i64 cq, .int .i64 cv] 180)).alloc (.cells #[.int .i64 0, .int .i64 0] 136)
  have DC := (Box.new (w.alloc (.cells #[.int .i64 s, .int .i64 l, .int .i64 c, .int .i64 sh, .slice A n cap] 26)) 180 #[.int .i64 ck, .int .i64 ch, .int .i64 ct, .int .i64 cq, .int .i64 cv]).alloc (.cells #[.int .i64 0, .int .i64 0] 136)
  have X := Box.new ((w.alloc (.cells #[.int .i64 s, .int .i64 l, .int .i64 c, .int .i64 sh, .slice A n cap] 26)).alloc (.cells #[.int .i64 ck, .int .i64 ch, .int .i64 ct, .int .i64 cq, .int .i64 cv] 180)) 136 #[.int .i64 0, .int .i64 0]
  have hb0 := bel_trans (bel_trans (bel_alloc w (.cells #[.int .i64 s, .int .i64 l, .int .i64 c, .int .i64 sh, .slice A n cap] 26)) (bel_alloc _ (.cells #[.int .i64 ck, .int .i64 ch, .int .i64 ct, .int .i64 cq, .int .i64 cv] 180))) (bel_alloc _ (.cells #[.int .i64 0, .int .i64 0] 136))
  simp only [World.size_alloc] at DC X
  go_enter Tryz.func184, Tryz.ntmps184
  go_wp2_with fail
  generalize (((w.alloc _).alloc _).alloc _ : World) = w0 at hb0 DG DC X ⊢
  refine (specClaim_any ck ch ct cq cv w0).mono ?_
  rintro e w1 ⟨rfl, hb1⟩
  have DG1 := DG.later hb1 DG.lt
  have DC1 := DC.later hb1 DC.lt
  have X1 := X.later hb1 X.lt
  have E1 := bel_trans hb0 hb1
  clear DG DC X hb0 hb1
  rcases h1 : clB ck ch ct cq cv with _ | _
  · have H := Lib.hid (seV_no (seB_1 h1 s l c sh zs x))
    obtain ⟨x0, x1⟩ := X1.two
    have fx := X1.frozen
    go_wp2
    exact bodyPost_ret (v := .tuple #[.agg #[.int .i64 0, .int .i64 0], .bool false]) (by simp [results, Tryz.results184, go_sem, x0, x1]) rfl ⟨by rw [H.out], (E1.setCell (by simp; omega) _).setCell (by simp; omega) _⟩
  obtain ⟨g0, g1, g2, g3, g4⟩ := DG1.five
  go_wp2_with fail
  refine (specServer_any s l c sh A n cap zs x w1 HM.out ((HR.out.below E1 (Nat.le_refl _)).more E1.size)).mono ?_
  rintro e w2 ⟨rfl, hb2⟩
  have DG2 := DG1.later hb2 DG1.lt
  have DC2 := DC1.later hb2 DC1.lt
  have X2 := X1.later hb2 X1.lt
  have E2 := bel_trans E1 hb2
  clear DG1 DC1 X1 E1 hb2 g0 g1 g2 g3 g4
  rcases h2 : srvB s l c sh zs x with _ | _
  · have H := Lib.hid (seV_no (seB_2 h2 ck ch ct cq cv))
    obtain ⟨x0, x1⟩ := X2.two
    have fx := X2.frozen
    go_wp2
    exact bodyPost_ret (v := .tuple #[.agg #[.int .i64 0, .int .i64 0], .bool false]) (by simp [results, Tryz.results184, go_sem, x0, x1]) rfl ⟨by rw [H.out], (E2.setCell (by simp; omega) _).setCell (by simp; omega) _⟩
  have H := Lib.hid (seV_yes (seB_3 h1 h2))
  have HX := Lib.hid (mixable_seal h1 h2)
  obtain ⟨hx0, hx9, hxn, hk1, hk2⟩ := srvB_key h2
  have hzn := HR.out.1
  rw [hzn] at hxn
  obtain ⟨b, o, hA, hbB, hcell⟩ := HR.out.2 (by omega)
  subst hA
  have hxk := hcell x.toNat hxn
  have hxi : x < (n : Int) := by omega
  have DG3 := DG2
  have DC3 := DC2
  have X3 := X2
  have E3 := E2
  have hs2 := E2.size
  have hxl := X2.lt
  clear DG2 DC2 X2 E2
  obtain ⟨g0, g1, g2, g3, g4⟩ := DG3.five
  obtain ⟨c0, c1, c2, c3, c4⟩ := DC3.five
  have k0 := (E3.cell (p := ⟨b, o + x.toNat, none⟩) hbB).trans hxk
  clear hcell hxk hzn
  have hbl : b < w2.heap.size := Nat.lt_of_lt_of_le hbB E3.size
  have hn1 : w.heap.size ≠ w.heap.size + 1 + 1 := by omega
  have hn2 : b ≠ w.heap.size + 1 + 1 := by omega
  have hn3 : w.heap.size + 1 ≠ w.heap.size + 1 + 1 := by omega
  go_wp2_with fail
  go_region_held3 (fun w' => w'.cell? ⟨w.heap.size, 4, none⟩ = some (.slice (some ⟨b, o, none⟩) n cap) ∧ w'.cell? ⟨w.heap.size + 1, 0, none⟩ = some (.int .i64 ck) ∧ w'.cell? ⟨w.heap.size + 1, 1, none⟩ = some (.int .i64 ch) ∧ w'.cell? ⟨w.heap.size + 1, 2, none⟩ = some (.int .i64 ct) ∧ w'.cell? ⟨w.heap.size + 1, 3, none⟩ = some (.int .i64 cq) ∧ w'.cell? ⟨w.heap.size + 1, 4, none⟩ = some (.int .i64 cv) ∧ w'.cell? ⟨b, o + x.toNat, none⟩ = some (.int .i64 (nth zs x.toNat))) (first | (with_reducible exact sealSet K6 hn1 hn3 hn2 _ rfl) | (with_reducible exact K6) | (with_reducible exact K5) | go_keep)
    (first
      | (go_at_call 222; refine (specDigest_any ck ch ct cq cv _).mono ?_; rintro e w5 ⟨rfl, hb5⟩; have F5 := bel_drew' hb5; have K5 := sealKeep DG3 DC3 hbl k0 (grown_bel F5 none) (by simp) (by simp) (by simp))
      | (go_at_call 188; refine (l3Mix_any w5.heap.size 3 [nth zs x.toNat, digN ck ch ct cq cv, x] _ HX.out rfl (by omega) ?_).mono ?_; exact Box.new w5 2 _; rintro e w6 ⟨rfl, hb6⟩; have F6 := bel_trans F5 (bel_trans (bel_alloc w5 _) hb6); have G7 := grown_bel F6 none; have K6 := sealKeep DG3 DC3 hbl k0 G7 (by simp) (by simp) (by simp); have X6 := X3.kept G7 (by simp); have E6 := bel_trans E3 F6; clear hb6; obtain ⟨x0, x1⟩ := X6.two; have fx := X6.frozen))
  go_wp2
  exact bodyPost_ret (v := .tuple #[.agg #[.int .i64 x, .int .i64 (tagN zs ck ch ct cq cv x)], .bool true]) (by simp [results, Tryz.results184, go_sem, x0, x1]; rfl) rfl ⟨by rw [H.out], (E6.setCell (by simp; omega) _).setCell (by simp; omega) _⟩

set_option maxHeartbeats 1000000 in
theorem specRight_any (s l c sh : Int) (A : Option Addr) (n cap : Nat) (zs : List Int) (ck ch ct cq cv x t : Int) (w : World) (hm : n ≤ maxLen) (hr : Row w w.heap.size A n zs) :
    Calls Tryz.prog 237 #[.agg #[.int .i64 s, .int .i64 l, .int .i64 c, .int .i64 sh, .slice A n cap], .agg #[.int .i64 ck, .int .i64 ch, .int .i64 ct, .int .i64 cq, .int .i64 cv], .agg #[.int .i64 x, .int .i64 t]] w fun e w' => e = .returned (.bool (riB s l c sh zs ck ch ct cq cv x t)) ∧ Below w.heap.size w w' := by
  have HR := Lib.hid hr
  have HM := Lib.hid hm
  clear hr hm
  have X := Box.new ((w.alloc (.cells #[.int .i64 s, .int .i64 l, .int .i64 c, .int .i64 sh, .slice A n cap] 26)).alloc (.cells #[.int .i64 ck, .int .i64 ch, .int .i64 ct, .int .i64 cq, .int .i64 cv] 180)) 136 #[.int .i64 x, .int .i64 t]
  have hb0 := bel_trans (bel_trans (bel_alloc w (.cells #[.int .i64 s, .int .i64 l, .int .i64 c, .int .i64 sh, .slice A n cap] 26)) (bel_alloc _ (.cells #[.int .i64 ck, .int .i64 ch, .int .i64 ct, .int .i64 cq, .int .i64 cv] 180))) (bel_alloc _ (.cells #[.int .i64 x, .int .i64 t] 136))
  simp only [World.size_alloc] at X
  go_enter Tryz.func237, Tryz.ntmps237
  go_wp2_with fail
  generalize (((w.alloc _).alloc _).alloc _ : World) = w0 at hb0 X ⊢
  have C := specSeal_any s l c sh A n cap zs ck ch ct cq cv x w0 HM.out ((HR.out.below hb0 (Nat.le_refl _)).more hb0.size)
  rcases h : seB s l c sh zs ck ch ct cq cv x with _ | _
  · have e := Lib.hid (riB_no h t)
    rw [seV_no h] at C
    refine C.mono ?_
    rintro e w1 ⟨rfl, hb1⟩
    have E1 := bel_trans hb0 hb1
    go_wp2
    go_ret
    exact ⟨by rw [e.out]; rfl, bel_trans E1 (bel_alloc _ _)⟩
  · have e := Lib.hid (riB_yes h t)
    rw [seV_yes h] at C
    generalize tagN zs ck ch ct cq cv x = tg at C e
    refine C.mono ?_
    rintro e w1 ⟨rfl, hb1⟩
    have E1 := bel_trans hb0 hb1
    have X1 := X.later hb1 X.lt
    obtain ⟨x0, x1⟩ := X1.two
    have xl := X1.lt
    clear C X hb0 hb1
    by_cases ht : t = tg
    · subst ht
      go_wp2
      go_ret
      exact ⟨by rw [e.out]; simp, bel_trans E1 (bel_alloc _ _)⟩
    · have ht1 : (t == tg) = false := by simpa using ht
      have ht2 : (tg == t) = false := by simpa using fun e => ht e.symm
      have H := Lib.hid ht
      go_wp2
      go_ret
      exact ⟨by rw [e.out]; simp [H.out], bel_trans E1 (bel_alloc _ _)⟩

end Go.Proofs.YtjdepjpjjgkmbaaGreat

/- Numbers of any size are mixed, as the program and as the model do it; conditions: how many they are. -/
namespace Go.Proofs.YtjdepjpjjgkmbaaGreat
open Go Go.RowKit

/-- What one more number makes of what is mixed: round the ends of int64. -/
def mixw (x z : Int) : Int := Int.tmod (wrap64 (wrap64 (48271 * x + z) + 1)) 2147483647
def mixW (x : Int) (zs : List Int) : Int := zs.foldl mixw x
/-- What a mixer can have. -/
def Bd (x : Int) : Prop := -2147483646 ≤ x ∧ x ≤ 2147483646
theorem mixw_bd (x z : Int) : Bd (mixw x z) := by
  unfold mixw Bd
  generalize wrap64 (wrap64 (48271 * x + z) + 1) = y
  have h1 := Int.tmod_lt_of_pos y (b := 2147483647) (by omega)
  have h2 := Int.tmod_lt_of_pos (-y) (b := 2147483647) (by omega)
  rw [Int.neg_tmod] at h2
  omega
theorem mixW_bd : ∀ (zs : List Int) (x : Int), Bd x → Bd (mixW x zs)
  | [], _, h => h
  | z :: zs, x, _ => mixW_bd zs (mixw x z) (mixw_bd x z)
theorem mixW_snoc {zs : List Int} {k : Nat} (h : k < zs.length) (x : Int) : mixW x (zs.take (k + 1)) = mixw (mixW x (zs.take k)) (nth zs k) := by
  unfold mixW
  rw [List.take_succ_eq_append_getElem h, List.foldl_append, List.foldl_cons, List.foldl_nil]
  simp [nth, h]
theorem mixW_app (x : Int) (a b : List Int) : mixW x (a ++ b) = mixW (mixW x a) b := List.foldl_append ..

set_option maxHeartbeats 400000 in
/-- Numbers are mixed into what a mixer has. -/
theorem mixInW_any (g b n : Nat) (zs : List Int) (x : Int) (w : World) (hx : Bd x) (hl : zs.length = n) (hn : n ≤ 16)
    (hB : Box w g 2 #[.int .i64 x]) (hr : Box w b 2 (zs.map (Value.int .i64)).toArray) (hne : b ≠ g) :
    Calls Tryz.prog 223 #[.slice (some ⟨b, 0, none⟩) n n, .pointer (some ⟨g, 0, none⟩)] w fun e w' => e = .returned (.int .i64 (mixW x zs)) ∧ Box w' g 2 #[.int .i64 (mixW x zs)] ∧ w.grownBy w' (some g) := by
  have HL := Lib.hid hl
  have HX := Lib.hid hx
  have HR := Lib.hid hr
  clear hl hr hx
  go_enter Tryz.func223, Tryz.ntmps223
  go_wp2_with fail
  go_loopw [8] (fun i wr => ∃ (k : Nat) (y : Int), k ≤ n ∧ i = .int .i64 k ∧ Hid (mixW x (zs.take k) = y) ∧ Box wr g 2 #[.int .i64 y] ∧ w.grownBy wr (some g)) (fun i _ => n - (intOf i).toNat)
  case atStart => exact ⟨0, x, by omega, rfl, rfl, hB, grown_refl _ _⟩
  case round =>
    obtain ⟨k, y, hk, rfl, hy, Y, G⟩ := hrel
    have y0 := Y.cell 0
    have fy := Y.frozen
    by_cases hlt : k < n
    · have hr := (HR.out.kept G (by intro e; injection e with e; exact hne e.symm)).ints (i := k) (by rw [HL.out]; exact hlt)
      have HS : Hid (mixW x (zs.take (k + 1)) = mixw y (nth zs k)) := by show _ = _; rw [mixW_snoc (by rw [HL.out]; exact hlt), hy.out]
      obtain ⟨hy0, hy1⟩ : Bd y := by rw [← hy.out]; exact mixW_bd _ _ HX.out
      generalize nth zs k = z at hr HS
      have i1 : IntKind.i64.wrap (48271 * y) = 48271 * y := IntWalk.i64_in _ (by omega)
      have i4 : IntKind.i64.wrap (mixw y z) = mixw y z := IntWalk.i64_in _ (by have := mixw_bd y z; unfold Bd at this; omega)
      go_wp2
      go_roundw
      case rel => exact ⟨k + 1, _, by omega, by go_num, HS.out, Y.set 0 (.int .i64 (mixw y z)), grown_set G 0 _⟩
      case measure => simp [intOf]; omega
    · have HE : Hid (mixW x zs = y) := by show _ = _; rw [← hy.out, List.take_of_length_le (by rw [HL.out]; omega)]
      go_wp2
      go_ret
      exact ⟨by rw [HE.out]; rfl, by rw [HE.out]; exact Y, G⟩

/-- The numbers of pairs, one behind the other. -/
def flatI (ps : List (Int × Int)) : List Int := ps.flatMap fun p => [p.1, p.2]
theorem flatI_len (ps : List (Int × Int)) : (flatI ps).length = ps.length * 2 := by
  induction ps with
  | nil => rfl
  | cons p ps ih => show (flatI ps).length + 1 + 1 = _; rw [ih, List.length_cons]; omega
theorem flatI_snoc {ps : List (Int × Int)} {k : Nat} (h : k < ps.length) : flatI (ps.take (k + 1)) = flatI (ps.take k) ++ [(pth ps k).1, (pth ps k).2] := by
  rw [List.take_succ_eq_append_getElem h, ← pth_lt h]
  simp [flatI]
/-- What SumOf answers. -/
def sumN (r1 r2 r3 r4 r5 r6 r7 : Int) (ps : List (Int × Int)) : Int := mixW 7 ([r1, r2, r3, r4, r5, r6, r7] ++ flatI ps)
theorem bd7 : Bd 7 := by unfold Bd; omega
set_option maxHeartbeats 400000 in
theorem l3MixW_any (A : Option Addr) (n cap : Nat) (zs : List Int) (w : World) (hn : n ≤ 16777216) (hr : Row w w.heap.size A n zs) :
    Calls Tryz.prog 188 #[.slice A n cap] w fun e w' => e = .returned (.int .i64 (mixW 7 zs)) ∧ Below w.heap.size w w' := by
  have HL := Lib.hid hr.1
  have HR := Lib.hid hr
  clear hr
  go_enter Tryz.func188, Tryz.ntmps188
  go_wp2_with fail
  go_loopw [3, 4] (fun a i wr => ∃ (k : Nat) (y : Int), k ≤ n ∧ i = .int .i64 k ∧ a = .int .i64 y ∧ Hid (mixW 7 (zs.take k) = y) ∧ Below w.heap.size w wr) (fun _ i _ => n - (intOf i).toNat)
  case atStart => exact ⟨0, 7, by omega, rfl, rfl, rfl, Below.refl _ _⟩
  case round =>
    obtain ⟨k, y, hk, rfl, rfl, hy, E⟩ := hrel
    by_cases hlt : k < n
    · obtain ⟨b, o, hA, hb, hc⟩ := (HR.out.below E (Nat.le_refl _)).2 (by omega)
      subst hA
      have hr := After.cell (a := ⟨b, o + k, none⟩) (Nat.lt_of_lt_of_le hb E.size) (hc k hlt)
      have HS : Hid (mixW 7 (zs.take (k + 1)) = mixw y (nth zs k)) := by show _ = _; rw [mixW_snoc (by rw [HL.out]; exact hlt), hy.out]
      obtain ⟨hy0, hy1⟩ : Bd y := by rw [← hy.out]; exact mixW_bd _ _ bd7
      clear hc
      generalize nth zs k = z at hr HS
      have hlt' : (k : Int) < (n : Int) := by omega
      have i1 : IntKind.i64.wrap (48271 * y) = 48271 * y := IntWalk.i64_in _ (by omega)
      have ht : Int.tmod (wrap64 (wrap64 (48271 * y + z) + 1)) 2147483647 = mixw y z := rfl
      have i4 : IntKind.i64.wrap (mixw y z) = mixw y z := IntWalk.i64_in _ (by have := mixw_bd y z; unfold Bd at this; omega)
      go_wp2_with fail
      refine wp_region_after (by kernel_rfl) (by kernel_rfl) ?_
      repeat (first | go_big_quiet_step ((go_at_call 206; exact after_same (l3M_any _))) | quiet_step ((go_at_call 206; exact after_same (l3M_any _))))
      refine wpQuiet_nil ?_
      intro p
      clear i1 i4 ht
      go_wp2
      go_roundw
      case rel => exact ⟨k + 1, mixw y z, by omega, by go_num, rfl, HS.out, bel_trans E p.bel⟩
      case measure => simp [intOf]; omega
    · have hz := HL.out
      have HE : Hid (mixW 7 zs = y) := by show _ = _; rw [← hy.out, List.take_of_length_le (by omega)]
      clear hz
      go_wp2
      go_ret
      exact ⟨by rw [HE.out]; rfl, E⟩

theorem Box.nine {w : World} {g : Nat} {t : TypeId} {v0 v1 v2 v3 v4 v5 v6 v7 v8 : Value} (h : Box w g t #[v0, v1, v2, v3, v4, v5, v6, v7, v8]) :
    w.cell? ⟨g, 0, none⟩ = some v0 ∧ w.cell? ⟨g, 1, none⟩ = some v1 ∧ w.cell? ⟨g, 2, none⟩ = some v2 ∧ w.cell? ⟨g, 3, none⟩ = some v3 ∧ w.cell? ⟨g, 4, none⟩ = some v4 ∧ w.cell? ⟨g, 5, none⟩ = some v5 ∧ w.cell? ⟨g, 6, none⟩ = some v6 ∧ w.cell? ⟨g, 7, none⟩ = some v7 ∧ w.cell? ⟨g, 8, none⟩ = some v8 :=
  ⟨h.cell 0, h.cell 1, h.cell 2, h.cell 3, h.cell 4, h.cell 5, h.cell 6, h.cell 7, h.cell 8⟩
end Go.Proofs.YtjdepjpjjgkmbaaGreat

/- The laws' own copies of a group, their size and the test that two are alike: contracts of each of them. -/
namespace Go.Proofs.YtjdepjpjjgkmbaaGreat
open Go.RowKit

theorem Tryz.infoInt64 : (Tryz.prog.info? 2).map (fun i => (i.zero, i.size, i.bytes)) = some (some (.int .i64 0), 1, 8) := by kernel_rfl

/-- The first k are copied. -/
def upto (zs : List Int) (k j : Nat) : Value := if j < k then .int .i64 (nth zs j) else .int .i64 0

theorem upto_succ {w : World} {b n k : Nat} {zs : List Int} (h : w.rowIs b 2 n (upto zs k)) :
    (w.setCell ⟨b, k, none⟩ (.int .i64 (nth zs k))).rowIs b 2 n (upto zs (k + 1)) :=
  (h.set k _).congr fun i _ => by
    unfold upto
    by_cases e : i = k
    · subst e; simp
    · by_cases f : i < k
      · simp [e, f, show i < k + 1 by omega]
      · simp [e, f, show ¬ i < k + 1 by omega]

theorem szInts_le (A : Option Addr) (n cap : Nat) (w : World) (hm : n ≤ 1048576) :
    Calls Tryz.prog 83 #[.slice A n cap, .int .i64 1048576] w fun e w' => e = .returned (.int .i64 (1048576 - n)) ∧ w = w' := by
  go_enter Tryz.func83, Tryz.ntmps83
  go_wp2
  go_ret
  exact ⟨rfl, rfl⟩
theorem szInts_gt (A : Option Addr) (n cap : Nat) (w : World) (hm : 1048576 < n) (hx : n ≤ maxLen) :
    Calls Tryz.prog 83 #[.slice A n cap, .int .i64 1048576] w fun e w' => e = .returned (.int .i64 (-1)) ∧ w = w' := by
  unfold maxLen at hx
  have h : (1048576 : Int) - n < 0 := by omega
  go_enter Tryz.func83, Tryz.ntmps83
  go_wp2
  go_ret
  exact ⟨rfl, rfl⟩

theorem szGroup_le (s l c sh : Int) (A : Option Addr) (n cap : Nat) (w : World) (hm : n ≤ 1048576) :
    Calls Tryz.prog 24 #[.agg #[.int .i64 s, .int .i64 l, .int .i64 c, .int .i64 sh, .slice A n cap], .int .i64 1048576] w fun e w' => e = .returned (.int .i64 (1048576 - n)) ∧ Below w.heap.size w w' := by
  go_enter Tryz.func24, Tryz.ntmps24
  go_wp2_with (go_at_call 83; refine (szInts_le A n cap _ hm).mono ?_; rintro e w' ⟨rfl, rfl⟩)
  go_ret
  exact ⟨rfl, bel_alloc _ _⟩
theorem szGroup_gt (s l c sh : Int) (A : Option Addr) (n cap : Nat) (w : World) (hm : 1048576 < n) (hx : n ≤ maxLen) :
    Calls Tryz.prog 24 #[.agg #[.int .i64 s, .int .i64 l, .int .i64 c, .int .i64 sh, .slice A n cap], .int .i64 1048576] w fun e w' => e = .returned (.int .i64 (-1)) ∧ Below w.heap.size w w' := by
  go_enter Tryz.func24, Tryz.ntmps24
  go_wp2_with (go_at_call 83; refine (szInts_gt A n cap _ hm hx).mono ?_; rintro e w' ⟨rfl, rfl⟩)
  go_ret
  exact ⟨rfl, bel_alloc _ _⟩

set_option maxHeartbeats 400000 in
theorem eqInts_same (A A' : Option Addr) (n cap cap' : Nat) (zs : List Int) (w : World) (hm : n ≤ 1048576) (hr : Row w w.heap.size A n zs) (hr' : Row w w.heap.size A' n zs) :
    Calls Tryz.prog 87 #[.slice A n cap, .slice A' n cap'] w fun e w' => e = .returned (.bool true) ∧ Below w.heap.size w w' := by
  have HR := Lib.hid hr
  have HR' := Lib.hid hr'
  clear hr hr'
  go_enter Tryz.func87, Tryz.ntmps87
  go_wp2_with fail
  go_loopw [5] (fun i wr => ∃ k : Nat, k ≤ n ∧ i = .int .i64 k ∧ Below w.heap.size w wr) (fun i _ => n - (intOf i).toNat)
  case atStart => exact ⟨0, Nat.zero_le _, rfl, Below.refl _ _⟩
  case round =>
    obtain ⟨k, hk, rfl, hb⟩ := hrel
    by_cases hlt : k < n
    · obtain ⟨b, o, hA, hbB, hcell⟩ := HR.out.2 (by omega)
      obtain ⟨b', o', hA', hbB', hcell'⟩ := HR'.out.2 (by omega)
      subst hA hA'
      have g := (hb.cell (p := ⟨b, o + k, none⟩) hbB).trans (hcell k hlt)
      have g' := (hb.cell (p := ⟨b', o' + k, none⟩) hbB').trans (hcell' k hlt)
      have hlt' : (k : Int) < (n : Int) := by omega
      clear hcell hcell'
      go_wp2_with fail
      go_quiet (fail)
      go_wp2
      go_roundw
      case rel => exact ⟨k + 1, by omega, by go_num, bel_drewN hb _⟩
      case measure => simp [intOf]; omega
    · go_wp2
      go_ret
      exact ⟨rfl, hb⟩

set_option maxHeartbeats 400000 in
theorem eqGroup_same (s l c sh : Int) (A A' : Option Addr) (n cap cap' : Nat) (zs : List Int) (w : World) (hm : n ≤ 1048576) (hr : Row w w.heap.size A n zs) (hr' : Row w w.heap.size A' n zs) :
    Calls Tryz.prog 28 #[.agg #[.int .i64 s, .int .i64 l, .int .i64 c, .int .i64 sh, .slice A n cap], .agg #[.int .i64 s, .int .i64 l, .int .i64 c, .int .i64 sh, .slice A' n cap']] w fun e w' => e = .returned (.bool true) ∧ Below w.heap.size w w' := by
  have HR := Lib.hid hr
  have HR' := Lib.hid hr'
  clear hr hr'
  go_enter Tryz.func28, Tryz.ntmps28
  go_wp2_with fail
  have hbW := bel_trans (bel_alloc w (.cells #[.int .i64 s, .int .i64 l, .int .i64 c, .int .i64 sh, .slice A n cap] 26)) (bel_alloc _ (.cells #[.int .i64 s, .int .i64 l, .int .i64 c, .int .i64 sh, .slice A' n cap'] 26))
  generalize ((w.alloc _).alloc _ : World) = W at hbW ⊢
  refine (eqInts_same A A' n cap cap' zs W hm ((HR.out.below hbW (Nat.le_refl _)).more hbW.size) ((HR'.out.below hbW (Nat.le_refl _)).more hbW.size)).mono ?_
  rintro e w1 ⟨rfl, hb1⟩
  go_wp2
  go_ret
  exact ⟨rfl, bel_trans hbW hb1⟩

end Go.Proofs.YtjdepjpjjgkmbaaGreat

/- The laws' own copies of a group whose keys can be written, and their marks: contracts of each of them. -/
namespace Go.Proofs.YtjdepjpjjgkmbaaGreat
open Go.RowKit

/-- What a copy of n numbers leaves: a new row that holds them, and that can be written. -/
def MadeRowF (w : World) (n : Nat) (zs : List Int) (e : Ending) (w' : World) : Prop :=
  ∃ g, w.heap.size ≤ g ∧ e = .returned (.slice (some ⟨g, 0, none⟩) n n) ∧ Row w' w'.heap.size (some ⟨g, 0, none⟩) n zs ∧ (∀ i, w'.frozen? ⟨g, i, none⟩ = false) ∧ g < w'.heap.size ∧ Below w.heap.size w w'

set_option maxHeartbeats 400000 in
theorem toInts_fr (A : Option Addr) (n cap : Nat) (zs : List Int) (w : World) (hm : n ≤ 1048576) (hr : Row w w.heap.size A n zs) :
    Calls Tryz.prog 85 #[.slice A n cap] w (MadeRowF w n zs) := by
  have hmk := fun W => run_make_row' (P := Tryz.prog) 24 2 (.int .i64 0) 8 Tryz.underlying24 Tryz.infoInt64 rfl .i64 .i64 n (by omega) (by omega) W
  have HR := Lib.hid hr
  clear hr
  go_enter Tryz.func85, Tryz.ntmps85
  go_wp2_with fail
  go_loopw [4] (fun i wr => ∃ k : Nat, k ≤ n ∧ i = .int .i64 k ∧ wr.rowIs w.heap.size 2 n (upto zs k) ∧ Below w.heap.size w wr) (fun i _ => n - (intOf i).toNat)
  case atStart => exact ⟨0, Nat.zero_le _, rfl, (World.rowIs_made w (.int .i64 0) n 2).congr (fun i _ => by simp [upto]), bel_alloc _ _⟩
  case round =>
    obtain ⟨k, hk, rfl, hrow, hb⟩ := hrel
    by_cases hlt : k < n
    · obtain ⟨b, o, hA, hbB, hcell⟩ := HR.out.2 (by omega)
      subst hA
      have g := (hb.cell (p := ⟨b, o + k, none⟩) hbB).trans (hcell k hlt)
      have g1 := hrow.cell hlt
      have g2 := hrow.frozen k
      have HS := Lib.hid (upto_succ hrow)
      have HB := Lib.hid (hb.setCell (p := ⟨w.heap.size, k, none⟩) (Nat.le_refl _) (.int .i64 (nth zs k)))
      clear hcell hrow hb
      go_wp2
      go_roundw
      case rel => exact ⟨k + 1, by omega, by go_num, HS.out, HB.out⟩
      case measure => simp [intOf]; omega
    · have hkn : k = n := by omega
      subst hkn
      have hz := HR.out.1
      go_wp2
      go_ret
      exact ⟨_, Nat.le_refl _, rfl, ⟨hz, fun _ => ⟨_, _, rfl, hrow.lt, fun i hi => by rw [Nat.zero_add, hrow.cell hi]; simp [upto, hi]⟩⟩, fun i => hrow.frozen i, hrow.lt, hb⟩

/-- A copy of a group: the same numbers, new keys, which can be written. -/
def MadeGroupF (w : World) (s l c sh : Int) (n : Nat) (zs : List Int) (e : Ending) (w' : World) : Prop :=
  ∃ g, w.heap.size ≤ g ∧ e = .returned (.agg #[.int .i64 s, .int .i64 l, .int .i64 c, .int .i64 sh, .slice (some ⟨g, 0, none⟩) n n]) ∧ Row w' w'.heap.size (some ⟨g, 0, none⟩) n zs ∧ (∀ i, w'.frozen? ⟨g, i, none⟩ = false) ∧ g < w'.heap.size ∧ Below w.heap.size w w'

set_option maxHeartbeats 400000 in
theorem toGroup_fr (s l c sh : Int) (A : Option Addr) (n cap : Nat) (zs : List Int) (w : World) (hm : n ≤ 1048576) (hr : Row w w.heap.size A n zs) :
    Calls Tryz.prog 26 #[.agg #[.int .i64 s, .int .i64 l, .int .i64 c, .int .i64 sh, .slice A n cap]] w (MadeGroupF w s l c sh n zs) := by
  have HR := Lib.hid hr
  clear hr
  go_enter Tryz.func26, Tryz.ntmps26
  go_wp2_with fail
  have B0 := Box.new w 47 #[.int .i64 s, .int .i64 l, .int .i64 c, .int .i64 sh, .slice A n cap]
  have B1 := Box.new (w.alloc (.cells #[.int .i64 s, .int .i64 l, .int .i64 c, .int .i64 sh, .slice A n cap] 47)) 26 #[.int .i64 0, .int .i64 0, .int .i64 0, .int .i64 0, .slice none 0 0]
  have B2 := Box.new ((w.alloc (.cells #[.int .i64 s, .int .i64 l, .int .i64 c, .int .i64 sh, .slice A n cap] 47)).alloc (.cells #[.int .i64 0, .int .i64 0, .int .i64 0, .int .i64 0, .slice none 0 0] 26)) 26 #[.int .i64 s, .int .i64 l, .int .i64 c, .int .i64 sh, .slice none 0 0]
  have B1' := B1.alloc (.cells #[.int .i64 s, .int .i64 l, .int .i64 c, .int .i64 sh, .slice none 0 0] 26)
  clear B0 B1
  simp only [World.size_alloc] at B1' B2
  have hbW : Below w.heap.size w (((w.alloc (.cells #[.int .i64 s, .int .i64 l, .int .i64 c, .int .i64 sh, .slice A n cap] 47)).alloc (.cells #[.int .i64 0, .int .i64 0, .int .i64 0, .int .i64 0, .slice none 0 0] 26)).alloc (.cells #[.int .i64 s, .int .i64 l, .int .i64 c, .int .i64 sh, .slice none 0 0] 26)) := bel_trans (bel_trans (bel_alloc _ _) (bel_alloc _ _)) (bel_alloc _ _)
  generalize (((w.alloc _).alloc _).alloc _ : World) = W at B1' B2 hbW ⊢
  refine (toInts_fr A n cap zs W hm ((HR.out.below hbW (Nat.le_refl _)).more hbW.size)).mono ?_
  rintro e w1 ⟨g, hg, rfl, hrow, hfz, hgl, hb1⟩
  replace hgl := Lib.hid hgl
  replace hfz := Lib.hid hfz
  have C1 := B1'.later hb1 B1'.lt
  have C2 := B2.later hb1 B2.lt
  have hbw := bel_trans hbW hb1
  have c10 : w1.cell? ⟨w.heap.size + 1, 0, none⟩ = some (.int .i64 0) := C1.cell 0
  have c11 : w1.cell? ⟨w.heap.size + 1, 1, none⟩ = some (.int .i64 0) := C1.cell 1
  have c12 : w1.cell? ⟨w.heap.size + 1, 2, none⟩ = some (.int .i64 0) := C1.cell 2
  have c13 : w1.cell? ⟨w.heap.size + 1, 3, none⟩ = some (.int .i64 0) := C1.cell 3
  have c14 : w1.cell? ⟨w.heap.size + 1, 4, none⟩ = some (.slice none 0 0) := C1.cell 4
  have c20 : w1.cell? ⟨w.heap.size + 1 + 1, 0, none⟩ = some (.int .i64 s) := C2.cell 0
  have c21 : w1.cell? ⟨w.heap.size + 1 + 1, 1, none⟩ = some (.int .i64 l) := C2.cell 1
  have c22 : w1.cell? ⟨w.heap.size + 1 + 1, 2, none⟩ = some (.int .i64 c) := C2.cell 2
  have c23 : w1.cell? ⟨w.heap.size + 1 + 1, 3, none⟩ = some (.int .i64 sh) := C2.cell 3
  have c24 : w1.cell? ⟨w.heap.size + 1 + 1, 4, none⟩ = some (.slice none 0 0) := C2.cell 4
  have f1 : ∀ i, w1.frozen? ⟨w.heap.size + 1, i, none⟩ = false := fun i => C1.frozen i
  have f2 : ∀ i, w1.frozen? ⟨w.heap.size + 1 + 1, i, none⟩ = false := fun i => C2.frozen i
  have hg1 := B1'.lt
  have hg2 := B2.lt
  have HF := Lib.hid ((((((hrow.set (p := ⟨w.heap.size + 1 + 1, 4, none⟩) (by simp; omega) (.slice (some ⟨g, 0, none⟩) n n)).set (p := ⟨w.heap.size + 1, 0, none⟩) (by simp; omega) (.int .i64 s)).set (p := ⟨w.heap.size + 1, 1, none⟩) (by simp; omega) (.int .i64 l)).set
    (p := ⟨w.heap.size + 1, 2, none⟩) (by simp; omega) (.int .i64 c)).set (p := ⟨w.heap.size + 1, 3, none⟩) (by simp; omega) (.int .i64 sh)).set (p := ⟨w.heap.size + 1, 4, none⟩) (by simp; omega) (.slice (some ⟨g, 0, none⟩) n n))
  have HB := Lib.hid ((((((hbw.setCell (p := ⟨w.heap.size + 1 + 1, 4, none⟩) (by simp; omega) (.slice (some ⟨g, 0, none⟩) n n)).setCell (p := ⟨w.heap.size + 1, 0, none⟩) (by simp) (.int .i64 s)).setCell (p := ⟨w.heap.size + 1, 1, none⟩) (by simp) (.int .i64 l)).setCell
    (p := ⟨w.heap.size + 1, 2, none⟩) (by simp) (.int .i64 c)).setCell (p := ⟨w.heap.size + 1, 3, none⟩) (by simp) (.int .i64 sh)).setCell (p := ⟨w.heap.size + 1, 4, none⟩) (by simp) (.slice (some ⟨g, 0, none⟩) n n))
  have HG : Hid (w.heap.size ≤ g) := Nat.le_trans hbW.size hg
  clear hrow hbw hb1 hg hbW B1' B2 C1 C2
  go_wp2
  exact bodyPost_ret (v := .agg #[.int .i64 s, .int .i64 l, .int .i64 c, .int .i64 sh, .slice (some ⟨g, 0, none⟩) n n]) (by simp [results, Tryz.results26, go_sem, c10, c11, c12, c13, c14]) rfl ⟨g, HG, rfl, HF, fun i => by simp [hfz.out i], by simp only [size_set]; exact hgl.out, HB⟩

theorem Row.write {w : World} {g n : Nat} {zs : List Int} (h : Row w w.heap.size (some ⟨g, 0, none⟩) n zs) (i : Nat) (k : Int) : Row (w.setCell ⟨g, i, none⟩ (.int .i64 k)) (w.setCell ⟨g, i, none⟩ (.int .i64 k)).heap.size (some ⟨g, 0, none⟩) n (zs.set i k) := by
  refine ⟨by simpa using h.1, fun hn => ?_⟩
  obtain ⟨b, o, hA, hb, hc⟩ := h.2 hn
  cases hA
  refine ⟨_, _, rfl, by rw [size_set]; exact hb, fun j hj => ?_⟩
  have hcj := hc j hj
  rw [Nat.zero_add] at hcj ⊢
  by_cases e : j = i
  · subst e
    rw [World.cell?_setCell_same _ _ _ hcj]
    simp [nth, h.1, hj]
  · rw [World.cell?_setCell_other _ _ _ _ (fun e' => e (by injection e' with _ e'; exact e'.symm)), hcj]
    simp [nth, show ¬ i = j by omega]

set_option maxHeartbeats 1000000 in
theorem markInts_is (g n cap : Nat) (k : Int) (zs : List Int) (w : World) (hn : n ≤ 4194304) (hk0 : 0 ≤ k) (hk1 : k ≤ 100000000) (hr : Row w w.heap.size (some ⟨g, 0, none⟩) n zs) (hf : ∀ i, w.frozen? ⟨g, i, none⟩ = false) :
    Calls Tryz.prog 91 #[.slice (some ⟨g, 0, none⟩) n cap, .int .i64 k] w fun e w' => e = .returned (.int .i64 (k + n)) ∧ w.grownBy w' (some g) := by
  have HR := Lib.hid hr
  have HF := Lib.hid hf
  clear hr hf
  go_enter Tryz.func91, Tryz.ntmps91
  go_wp2_with fail
  go_loopw [1, 5] (fun kv iv wr => ∃ (i : Nat) (k' : Int) (zs' : List Int), i ≤ n ∧ k + i = k' ∧ iv = .int .i64 i ∧ kv = .int .i64 k' ∧ Row wr wr.heap.size (some ⟨g, 0, none⟩) n zs' ∧ (∀ o, wr.frozen? ⟨g, o, none⟩ = false) ∧ w.grownBy wr (some g)) (fun _ i _ => n - (intOf i).toNat)
  case atStart => exact ⟨0, k, zs, Nat.zero_le _, by omega, rfl, rfl, HR.out, HF.out, grown_refl _ _⟩
  case round =>
    obtain ⟨i, k', zs', hi, hk', rfl, rfl, hrow, hfz, hg⟩ := hrel
    have hb : k' ≤ 200000000 := by omega
    have hb0 : 0 ≤ k' := by omega
    by_cases hlt : i < n
    · have hlt' : (i : Int) < (n : Int) := by omega
      obtain ⟨b, o, hA, hbB, hcell⟩ := hrow.2 (by omega)
      cases hA
      have c0 := hcell i hlt
      rw [Nat.zero_add] at c0
      have f0 := hfz i
      have HW := Lib.hid (hrow.write i k')
      have HFF := Lib.hid (show ∀ o, (wr.setCell ⟨g, i, none⟩ (.int .i64 k')).frozen? ⟨g, o, none⟩ = false from fun o => by simp [hfz o])
      have HG := Lib.hid (grown_set hg i (.int .i64 k'))
      replace hk' := Lib.hid hk'
      clear hcell hfz hrow hg
      go_wp2
      go_roundw
      case rel => exact ⟨i + 1, k' + 1, zs'.set i k', by omega, by have := hk'.out; omega, by go_num, rfl, HW.out, HFF.out, HG.out⟩
      case measure => simp [intOf]; omega
    · obtain rfl : i = n := by omega
      replace hk' := Lib.hid hk'
      go_wp2
      go_ret
      exact ⟨by rw [hk'.out]; rfl, hg⟩
theorem markGroup_is (s l c sh : Int) (g n cap : Nat) (k : Int) (zs : List Int) (w : World) (hn : n ≤ 4194304) (hk0 : 0 ≤ k) (hk1 : k ≤ 100000000) (hr : Row w w.heap.size (some ⟨g, 0, none⟩) n zs) (hf : ∀ i, w.frozen? ⟨g, i, none⟩ = false) (hg : g < w.heap.size) :
    Calls Tryz.prog 34 #[.agg #[.int .i64 s, .int .i64 l, .int .i64 c, .int .i64 sh, .slice (some ⟨g, 0, none⟩) n cap], .int .i64 k] w fun e w' => e = .returned (.int .i64 (k + n)) ∧ w.grownBy w' (some g) := by
  have E0 := bel_alloc w (.cells #[.int .i64 s, .int .i64 l, .int .i64 c, .int .i64 sh, .slice (some ⟨g, 0, none⟩) n cap] 26)
  have DG := Box.new w 26 #[.int .i64 s, .int .i64 l, .int .i64 c, .int .i64 sh, .slice (some ⟨g, 0, none⟩) n cap]
  have HR := Lib.hid ((hr.below E0 (Nat.le_refl _)).more E0.size)
  have HF := Lib.hid (show ∀ i, (w.alloc (.cells #[.int .i64 s, .int .i64 l, .int .i64 c, .int .i64 sh, .slice (some ⟨g, 0, none⟩) n cap] 26)).frozen? ⟨g, i, none⟩ = false from fun i => (E0.frozen (p := ⟨g, i, none⟩) hg).trans (hf i))
  clear hr hf
  obtain ⟨d0, d1, d2, d3, d4⟩ := DG.five
  go_enter Tryz.func34, Tryz.ntmps34
  go_wp2_with fail
  generalize (w.alloc _ : World) = w1 at E0 DG HR HF d0 d1 d2 d3 d4 ⊢
  refine (markInts_is g n cap k zs w1 hn hk0 hk1 HR.out HF.out).mono ?_
  rintro e w2 ⟨rfl, hg2⟩
  go_wp2
  go_ret
  exact ⟨rfl, grown_trans (grown_bel E0 _) hg2⟩

end Go.Proofs.YtjdepjpjjgkmbaaGreat

/- A record as data behind variables, and what the laws do with one: sizes, copies, comparisons, marks; conditions: the sizes. -/
namespace Go.Proofs.YtjdepjpjjgkmbaaGreat
open Go Go.RowKit

theorem nineAfter {w : World} {g : Nat} {t : TypeId} {v0 v1 v2 v3 v4 v5 v6 v7 v8 : Value} (h : Box w g t #[v0, v1, v2, v3, v4, v5, v6, v7, v8]) :
    (∀ p : After w, p.x.cell? ⟨g, 0, none⟩ = some v0) ∧ (∀ p : After w, p.x.cell? ⟨g, 1, none⟩ = some v1) ∧ (∀ p : After w, p.x.cell? ⟨g, 2, none⟩ = some v2) ∧ (∀ p : After w, p.x.cell? ⟨g, 3, none⟩ = some v3) ∧ (∀ p : After w, p.x.cell? ⟨g, 4, none⟩ = some v4) ∧ (∀ p : After w, p.x.cell? ⟨g, 5, none⟩ = some v5) ∧ (∀ p : After w, p.x.cell? ⟨g, 6, none⟩ = some v6) ∧ (∀ p : After w, p.x.cell? ⟨g, 7, none⟩ = some v7) ∧ (∀ p : After w, p.x.cell? ⟨g, 8, none⟩ = some v8) :=
  ⟨After.cell h.lt (h.cell 0), After.cell h.lt (h.cell 1), After.cell h.lt (h.cell 2), After.cell h.lt (h.cell 3), After.cell h.lt (h.cell 4), After.cell h.lt (h.cell 5), After.cell h.lt (h.cell 6), After.cell h.lt (h.cell 7), After.cell h.lt (h.cell 8)⟩

/-- A record's numbers. -/
structure RecD where
  r1 : Int
  r2 : Int
  r3 : Int
  r4 : Int
  r5 : Int
  r6 : Int
  r7 : Int
  ps : List (Int × Int)
  r8 : Int
def RecD.cells (d : RecD) (u : Value) : Array Value := #[.int .i64 d.r1, .int .i64 d.r2, .int .i64 d.r3, .int .i64 d.r4, .int .i64 d.r5, .int .i64 d.r6, .int .i64 d.r7, u, .int .i64 d.r8]
def RecD.sz (d : RecD) : Nat := d.ps.length
def RecD.mk8 (d : RecD) : Int := 2 * d.ps.length
/-- What SumOf answers. -/
def RecD.sum (d : RecD) : Int := sumN d.r1 d.r2 d.r3 d.r4 d.r5 d.r6 d.r7 d.ps
/-- A value reads as a record, through blocks of F alone; it is one's own. -/
def AtC (d : RecD) (w : World) (F : Nat → Prop) (v : Value) : Prop :=
  ∃ (A : Option Addr) (n cap : Nat), v = .agg (d.cells (.slice A n cap)) ∧ n ≤ maxLen ∧ PairsF w F A n d.ps
def LieC (d : RecD) (w : World) (F : Nat → Prop) (v : Value) : Prop := ∃ u, v = .agg (d.cells u) ∧ OwnP w F u d.ps
theorem keepsC (d : RecD) : Keeps (AtC d) := ⟨fun ⟨A, n, c, e, h1, h2⟩ ht hd => ⟨A, n, c, e, h1, h2.turn ht hd⟩, fun ⟨A, n, c, e, h1, h2⟩ hs => ⟨A, n, c, e, h1, h2.1, fun hn b o e => hs b (h2.2 hn b o e)⟩⟩
theorem keepsLC (d : RecD) : Keeps (LieC d) := ⟨fun ⟨u, e, h⟩ ht hd => ⟨u, e, h.turn ht hd⟩, fun ⟨u, e, h⟩ hs => ⟨u, e, h.sub hs⟩⟩
theorem LieC.at {d : RecD} {w : World} {F : Nat → Prop} {v : Value} (h : LieC d w F v) : AtC d w F v := by
  obtain ⟨u, e, h⟩ := h
  obtain ⟨A, cap, rfl, h1, h2, -⟩ := h.at
  exact ⟨A, _, cap, e, h1, h2⟩
theorem szRec_le (r1 r2 r3 r4 r5 r6 r7 : Int) (L : Option Addr) (m mc : Nat) (r8 : Int) (K : Int) (w : World) (h1 : K ≤ 1048576) (hm : (m : Int) ≤ K) :
    Calls Tryz.prog 146 #[.agg #[.int .i64 r1, .int .i64 r2, .int .i64 r3, .int .i64 r4, .int .i64 r5, .int .i64 r6, .int .i64 r7, .slice L m mc, .int .i64 r8], .int .i64 K] w fun e w' => e = .returned (.int .i64 (K - m)) ∧ Below w.heap.size w w' := by
  have hn1 : ¬ (K : Int) - m < 0 := by omega
  have hb0 := bel_alloc w (.cells #[.int .i64 r1, .int .i64 r2, .int .i64 r3, .int .i64 r4, .int .i64 r5, .int .i64 r6, .int .i64 r7, .slice L m mc, .int .i64 r8] 188)
  go_enter Tryz.func146, Tryz.ntmps146
  go_wp2_with (go_at_call 30; refine (szSeals_le L m mc K _ h1 (by omega)).mono ?_; rintro e w1 ⟨rfl, rfl⟩)
  go_ret
  exact ⟨rfl, hb0⟩
theorem szRec_gt (r1 r2 r3 r4 r5 r6 r7 : Int) (L : Option Addr) (m mc : Nat) (r8 : Int) (K : Int) (w : World) (h0 : 0 ≤ K) (h1 : K ≤ 1048576) (hm : K < (m : Int)) (hx : m ≤ maxLen) :
    Calls Tryz.prog 146 #[.agg #[.int .i64 r1, .int .i64 r2, .int .i64 r3, .int .i64 r4, .int .i64 r5, .int .i64 r6, .int .i64 r7, .slice L m mc, .int .i64 r8], .int .i64 K] w fun e w' => e = .returned (.int .i64 (-1)) ∧ Below w.heap.size w w' := by
  have hb0 := bel_alloc w (.cells #[.int .i64 r1, .int .i64 r2, .int .i64 r3, .int .i64 r4, .int .i64 r5, .int .i64 r6, .int .i64 r7, .slice L m mc, .int .i64 r8] 188)
  have HX := Lib.hid hx
  clear hx
  go_enter Tryz.func146, Tryz.ntmps146
  go_wp2_with (go_at_call 30; refine (szSeals_gt L m mc K _ h0 h1 hm HX.out).mono ?_; rintro e w1 ⟨rfl, rfl⟩)
  go_ret
  exact ⟨rfl, hb0⟩

set_option maxHeartbeats 2000000 in
theorem eqRec_same (r1 r2 r3 r4 r5 r6 r7 : Int) (L : Option Addr) (m mc : Nat) (r8 : Int) (L' : Option Addr) (mc' : Nat) (ps : List (Int × Int)) (w : World) (hp : m ≤ 1048576) (h1 : Pairs w w.heap.size L m ps) (h2 : Pairs w w.heap.size L' m ps) :
    Calls Tryz.prog 148 #[.agg #[.int .i64 r1, .int .i64 r2, .int .i64 r3, .int .i64 r4, .int .i64 r5, .int .i64 r6, .int .i64 r7, .slice L m mc, .int .i64 r8], .agg #[.int .i64 r1, .int .i64 r2, .int .i64 r3, .int .i64 r4, .int .i64 r5, .int .i64 r6, .int .i64 r7, .slice L' m mc', .int .i64 r8]] w fun e w' => e = .returned (.bool true) ∧ Below w.heap.size w w' := by
  have D := (Box.new w 46 #[.int .i64 r1, .int .i64 r2, .int .i64 r3, .int .i64 r4, .int .i64 r5, .int .i64 r6, .int .i64 r7, .slice L m mc, .int .i64 r8]).alloc (.cells #[.int .i64 r1, .int .i64 r2, .int .i64 r3, .int .i64 r4, .int .i64 r5, .int .i64 r6, .int .i64 r7, .slice L' m mc', .int .i64 r8] 46)
  have X := Box.new (w.alloc (.cells #[.int .i64 r1, .int .i64 r2, .int .i64 r3, .int .i64 r4, .int .i64 r5, .int .i64 r6, .int .i64 r7, .slice L m mc, .int .i64 r8] 46)) 46 #[.int .i64 r1, .int .i64 r2, .int .i64 r3, .int .i64 r4, .int .i64 r5, .int .i64 r6, .int .i64 r7, .slice L' m mc', .int .i64 r8]
  have hb0 := bel_trans (bel_alloc w (.cells #[.int .i64 r1, .int .i64 r2, .int .i64 r3, .int .i64 r4, .int .i64 r5, .int .i64 r6, .int .i64 r7, .slice L m mc, .int .i64 r8] 46)) (bel_alloc _ (.cells #[.int .i64 r1, .int .i64 r2, .int .i64 r3, .int .i64 r4, .int .i64 r5, .int .i64 r6, .int .i64 r7, .slice L' m mc', .int .i64 r8] 46))
  simp only [World.size_alloc] at X
  have H1 := Lib.hid (h1.later hb0)
  have H2 := Lib.hid (h2.later hb0)
  clear h1 h2
  go_enter Tryz.func148, Tryz.ntmps148
  go_upto_region 1 with fail
  generalize ((w.alloc _).alloc _ : World) = w0 at D X hb0 H1 H2 ⊢
  obtain ⟨d0, d1, d2, d3, d4, d5, d6, d7, d8⟩ := D.nine
  obtain ⟨x0, x1, x2, x3, x4, x5, x6, x7, x8⟩ := X.nine
  go_wp2_with fail
  refine (eqStamp_same r5 r6 w0).mono ?_
  rintro e w1 ⟨rfl, hb1⟩
  have D1 := D.later hb1 D.lt
  have X1 := X.later hb1 X.lt
  have E1 := bel_trans hb0 hb1
  have H3 := Lib.hid (H1.out.later hb1)
  have H4 := Lib.hid (H2.out.later hb1)
  clear d0 d1 d2 d3 d4 d5 d6 d7 d8 x0 x1 x2 x3 x4 x5 x6 x7 x8 D X hb0 hb1 H1 H2
  obtain ⟨d0, d1, d2, d3, d4, d5, d6, d7, d8⟩ := D1.nine
  obtain ⟨x0, x1, x2, x3, x4, x5, x6, x7, x8⟩ := X1.nine
  clear d0 d1 d2 d3 d4 d5 d8 x0 x1 x2 x3 x4 x5 x8
  go_wp2_with fail
  refine (eqSeals_same L L' m mc mc' ps w1 hp H3.out H4.out).mono ?_
  rintro e w2 ⟨rfl, hb2⟩
  have D2 := D1.later hb2 D1.lt
  have X2 := X1.later hb2 X1.lt
  have E2 := bel_trans E1 hb2
  have d8 := D2.cell 8
  have x8 := X2.cell 8
  clear D1 X1 E1 hb2 H3 H4 d6 d7 x6 x7
  go_wp2
  go_ret
  exact ⟨rfl, E2⟩

/-- A record's variable, and what is written into it. -/
theorem Box.setR {w : World} {g : Nat} {t : TypeId} {v0 v1 v2 v3 v4 v5 v6 v7 v8 : Value} (h : Box w g t #[v0, v1, v2, v3, v4, v5, v6, v7, v8]) (u0 u1 u2 u3 : Value) : Box ((((w.setCell ⟨g, 0, none⟩ u0).setCell ⟨g, 1, none⟩ u1).setCell ⟨g, 2, none⟩ u2).setCell ⟨g, 3, none⟩ u3) g t #[u0, u1, u2, u3, v4, v5, v6, v7, v8] :=
  (((h.set 0 u0).set 1 u1).set 2 u2).set 3 u3
theorem Box.farR {w : World} {g R : Nat} {t : TypeId} {cs : Array Value} (h : Box w g t cs) (hR : R ≠ g) (u0 u1 u2 u3 : Value) : Box ((((w.setCell ⟨R, 0, none⟩ u0).setCell ⟨R, 1, none⟩ u1).setCell ⟨R, 2, none⟩ u2).setCell ⟨R, 3, none⟩ u3) g t cs :=
  (((h.far (p := ⟨R, 0, none⟩) hR u0).far (p := ⟨R, 1, none⟩) hR u1).far (p := ⟨R, 2, none⟩) hR u2).far (p := ⟨R, 3, none⟩) hR u3
theorem bel_farR {w wr : World} {R : Nat} (h : Below w.heap.size w wr) (hR : w.heap.size ≤ R) (u0 u1 u2 u3 : Value) : Below w.heap.size w ((((wr.setCell ⟨R, 0, none⟩ u0).setCell ⟨R, 1, none⟩ u1).setCell ⟨R, 2, none⟩ u2).setCell ⟨R, 3, none⟩ u3) :=
  (((h.setCell (p := ⟨R, 0, none⟩) hR u0).setCell (p := ⟨R, 1, none⟩) hR u1).setCell (p := ⟨R, 2, none⟩) hR u2).setCell (p := ⟨R, 3, none⟩) hR u3

set_option maxRecDepth 100000 in
set_option maxHeartbeats 4000000 in
theorem toRec_any (r1 r2 r3 r4 r5 r6 r7 : Int) (L : Option Addr) (m mc : Nat) (r8 : Int) (ps : List (Int × Int)) (w : World) (hp : m ≤ 1048576) (h1 : Pairs w w.heap.size L m ps) :
    Calls Tryz.prog 147 #[.agg #[.int .i64 r1, .int .i64 r2, .int .i64 r3, .int .i64 r4, .int .i64 r5, .int .i64 r6, .int .i64 r7, .slice L m mc, .int .i64 r8]] w fun e w' => ∃ g, w.heap.size ≤ g ∧ e = .returned (.agg #[.int .i64 r1, .int .i64 r2, .int .i64 r3, .int .i64 r4, .int .i64 r5, .int .i64 r6, .int .i64 r7, .slice (some ⟨g, 0, none⟩) m m, .int .i64 r8]) ∧ Held w' g ps ∧ Below w.heap.size w w' := by
  have D := ((Box.new w 188 #[.int .i64 r1, .int .i64 r2, .int .i64 r3, .int .i64 r4, .int .i64 r5, .int .i64 r6, .int .i64 r7, .slice L m mc, .int .i64 r8]).alloc (.cells #[.int .i64 0, .int .i64 0, .int .i64 0, .int .i64 0, .int .i64 0, .int .i64 0, .int .i64 0, .slice none 0 0, .int .i64 0] 46)).alloc (.cells #[.int .i64 0, .int .i64 0, .int .i64 0, .int .i64 0, .int .i64 0, .int .i64 0, .int .i64 0, .slice none 0 0, .int .i64 0] 46)
  have X := (Box.new (w.alloc (.cells #[.int .i64 r1, .int .i64 r2, .int .i64 r3, .int .i64 r4, .int .i64 r5, .int .i64 r6, .int .i64 r7, .slice L m mc, .int .i64 r8] 188)) 46 #[.int .i64 0, .int .i64 0, .int .i64 0, .int .i64 0, .int .i64 0, .int .i64 0, .int .i64 0, .slice none 0 0, .int .i64 0]).alloc (.cells #[.int .i64 0, .int .i64 0, .int .i64 0, .int .i64 0, .int .i64 0, .int .i64 0, .int .i64 0, .slice none 0 0, .int .i64 0] 46)
  have Y := Box.new ((w.alloc (.cells #[.int .i64 r1, .int .i64 r2, .int .i64 r3, .int .i64 r4, .int .i64 r5, .int .i64 r6, .int .i64 r7, .slice L m mc, .int .i64 r8] 188)).alloc (.cells #[.int .i64 0, .int .i64 0, .int .i64 0, .int .i64 0, .int .i64 0, .int .i64 0, .int .i64 0, .slice none 0 0, .int .i64 0] 46)) 46 #[.int .i64 0, .int .i64 0, .int .i64 0, .int .i64 0, .int .i64 0, .int .i64 0, .int .i64 0, .slice none 0 0, .int .i64 0]
  have hb0 := bel_trans (bel_trans (bel_alloc w (.cells #[.int .i64 r1, .int .i64 r2, .int .i64 r3, .int .i64 r4, .int .i64 r5, .int .i64 r6, .int .i64 r7, .slice L m mc, .int .i64 r8] 188)) (bel_alloc _ (.cells #[.int .i64 0, .int .i64 0, .int .i64 0, .int .i64 0, .int .i64 0, .int .i64 0, .int .i64 0, .slice none 0 0, .int .i64 0] 46))) (bel_alloc _ (.cells #[.int .i64 0, .int .i64 0, .int .i64 0, .int .i64 0, .int .i64 0, .int .i64 0, .int .i64 0, .slice none 0 0, .int .i64 0] 46))
  simp only [World.size_alloc] at X Y
  have H1 := Lib.hid h1
  clear h1
  go_enter Tryz.func147, Tryz.ntmps147
  go_upto_region 2 with fail
  generalize (((w.alloc _).alloc _).alloc _ : World) = w0 at hb0 D X Y ⊢
  obtain ⟨d0, d1, d2, d3, d4, d5, d6, d7, d8⟩ := D.nine
  obtain ⟨y0, y1, y2, y3, y4, y5, y6, y7, y8⟩ := Y.nine
  have fy := Y.frozen
  have hn1 : w.heap.size + 1 + 1 ≠ w.heap.size := by omega
  have hn2 : w.heap.size + 1 + 1 ≠ w.heap.size + 1 := by omega
  have hn3 : w.heap.size ≤ w.heap.size + 1 + 1 := by omega
  have D1 := D.farR hn1 (.int .i64 r1) (.int .i64 r2) (.int .i64 r3) (.int .i64 r4)
  have X1 := X.farR hn2 (.int .i64 r1) (.int .i64 r2) (.int .i64 r3) (.int .i64 r4)
  have Y1 := Y.setR (.int .i64 r1) (.int .i64 r2) (.int .i64 r3) (.int .i64 r4)
  have E1 := bel_farR hb0 hn3 (.int .i64 r1) (.int .i64 r2) (.int .i64 r3) (.int .i64 r4)
  replace D1 := Lib.hid D1
  replace X1 := Lib.hid X1
  replace Y1 := Lib.hid Y1
  replace E1 := Lib.hid E1
  go_wp2_with fail
  clear d0 d1 d2 d3 d4 d5 d6 d7 d8 y0 y1 y2 y3 y4 y5 y6 y7 y8 fy D X Y hb0
  generalize ((((w0.setCell _ _).setCell _ _).setCell _ _).setCell _ _ : World) = w1 at D1 X1 Y1 E1 ⊢
  refine (toStamp_any r5 r6 w1).mono ?_
  rintro e w2 ⟨rfl, hb2⟩
  have D2 := D1.out.later hb2 D1.out.lt
  have X2 := X1.out.later hb2 X1.out.lt
  have Y2 := Y1.out.later hb2 Y1.out.lt
  have E2 := bel_trans E1.out hb2
  clear D1 X1 Y1 E1 hb2
  obtain ⟨d0, d1, d2, d3, d4, d5, d6, d7, d8⟩ := D2.nine
  obtain ⟨y0, y1, y2, y3, y4, y5, y6, y7, y8⟩ := Y2.nine
  have fy := Y2.frozen
  have D3 := Lib.hid (((D2.far (p := ⟨w.heap.size + 1 + 1, 4, none⟩) hn1 (.int .i64 r5)).far (p := ⟨w.heap.size + 1 + 1, 5, none⟩) hn1 (.int .i64 r6)).far (p := ⟨w.heap.size + 1 + 1, 6, none⟩) hn1 (.int .i64 r7))
  have X3 := Lib.hid (((X2.far (p := ⟨w.heap.size + 1 + 1, 4, none⟩) hn2 (.int .i64 r5)).far (p := ⟨w.heap.size + 1 + 1, 5, none⟩) hn2 (.int .i64 r6)).far (p := ⟨w.heap.size + 1 + 1, 6, none⟩) hn2 (.int .i64 r7))
  have Y3 := Lib.hid (((Y2.set 4 (.int .i64 r5)).set 5 (.int .i64 r6)).set 6 (.int .i64 r7))
  have E3 := Lib.hid (((E2.setCell (p := ⟨w.heap.size + 1 + 1, 4, none⟩) hn3 (.int .i64 r5)).setCell (p := ⟨w.heap.size + 1 + 1, 5, none⟩) hn3 (.int .i64 r6)).setCell (p := ⟨w.heap.size + 1 + 1, 6, none⟩) hn3 (.int .i64 r7))
  go_wp2_with fail
  clear d0 d1 d2 d3 d4 d5 d6 d7 d8 y0 y1 y2 y3 y4 y5 y6 y7 y8 fy D2 X2 Y2 E2
  generalize (((w2.setCell _ _).setCell _ _).setCell _ _ : World) = w3 at D3 X3 Y3 E3 ⊢
  refine (toSeals_any L m mc ps w3 hp (H1.out.later E3.out)).mono ?_
  rintro e w4 ⟨g, hg, rfl, _, hh, hb4⟩
  have D4 := D3.out.later hb4 D3.out.lt
  have X4 := X3.out.later hb4 X3.out.lt
  have Y4 : Box w4 (w.heap.size + 1 + 1) 46 #[.int .i64 r1, .int .i64 r2, .int .i64 r3, .int .i64 r4, .int .i64 r5, .int .i64 r6, .int .i64 r7, .slice none 0 0, .int .i64 0] := Y3.out.later hb4 Y3.out.lt
  have E4 := bel_trans E3.out hb4
  have hYl := Y3.out.lt
  have hg1 : w.heap.size ≤ g := Nat.le_trans E3.out.size hg
  have hgY : w.heap.size + 1 + 1 < g := by omega
  clear D3 X3 Y3 E3 hb4
  obtain ⟨d0, d1, d2, d3, d4, d5, d6, d7, d8⟩ := D4.nine
  obtain ⟨y0, y1, y2, y3, y4, y5, y6, y7, y8⟩ := Y4.nine
  obtain ⟨x0, x1, x2, x3, x4, x5, x6, x7, x8⟩ := X4.nine
  have fy := Y4.frozen
  have fx := X4.frozen
  have HH := Lib.hid hh
  clear d0 d1 d2 d3 d4 d5 d6 d7 hh
  go_wp2
  exact bodyPost_ret (v := .agg #[.int .i64 r1, .int .i64 r2, .int .i64 r3, .int .i64 r4, .int .i64 r5, .int .i64 r6, .int .i64 r7, .slice (some ⟨g, 0, none⟩) m m, .int .i64 r8]) (by simp [results, Tryz.results147, go_sem, x0, x1, x2, x3, x4, x5, x6, x7, x8]) rfl ⟨g, hg1, rfl, by
    repeat (first | (with_reducible exact HH.out) | refine HeldK.far ?_ (by omega) _ _), by
    repeat (first | (with_reducible exact E4) | refine Below.setCell ?_ (by simp; try omega) _)⟩
end Go.Proofs.YtjdepjpjjgkmbaaGreat

/- SumOf of the program and of the model at every record; conditions: how many seals it has. -/
namespace Go.Proofs.YtjdepjpjjgkmbaaGreat
open Go Go.RowKit

set_option maxRecDepth 100000 in
set_option maxHeartbeats 2000000 in
theorem sumOf_is (r1 r2 r3 r4 r5 r6 r7 : Int) (L : Option Addr) (m mc : Nat) (r8 : Int) (ps : List (Int × Int)) (w : World) (hm : m ≤ 4194304) (hr : Pairs w w.heap.size L m ps) :
    Calls Tryz.prog 142 #[.agg #[.int .i64 r1, .int .i64 r2, .int .i64 r3, .int .i64 r4, .int .i64 r5, .int .i64 r6, .int .i64 r7, .slice L m mc, .int .i64 r8]] w fun e w' => e = .returned (.int .i64 (sumN r1 r2 r3 r4 r5 r6 r7 ps)) ∧ Below w.heap.size w w' := by
  have D := Box.new w 46 #[.int .i64 r1, .int .i64 r2, .int .i64 r3, .int .i64 r4, .int .i64 r5, .int .i64 r6, .int .i64 r7, .slice L m mc, .int .i64 r8]
  have hb0 := bel_alloc w (.cells #[.int .i64 r1, .int .i64 r2, .int .i64 r3, .int .i64 r4, .int .i64 r5, .int .i64 r6, .int .i64 r7, .slice L m mc, .int .i64 r8] 46)
  have HR := Lib.hid hr
  have HL := Lib.hid hr.1
  clear hr
  go_enter Tryz.func142, Tryz.ntmps142
  go_wp2_with fail
  generalize (w.alloc _ : World) = w0 at D hb0 ⊢
  refine (mixer_any w0).mono ?_
  rintro e w1 ⟨rfl, M, hb1⟩
  have D1 := D.later hb1 D.lt
  have E1 := bel_trans hb0 hb1
  have hg := hb0.size
  have hDg := D.lt
  generalize w0.heap.size = g at M hg hDg ⊢
  clear D hb0 hb1
  obtain ⟨d0, d1, d2, d3, d4, d5, d6, d7, d8⟩ := D1.nine
  have R := Box.new w1 2 #[.int .i64 r1, .int .i64 r2, .int .i64 r3, .int .i64 r4, .int .i64 r5, .int .i64 r6, .int .i64 r7]
  have M3 := M.alloc (.cells #[.int .i64 r1, .int .i64 r2, .int .i64 r3, .int .i64 r4, .int .i64 r5, .int .i64 r6, .int .i64 r7] 2)
  have D3 := D1.alloc (.cells #[.int .i64 r1, .int .i64 r2, .int .i64 r3, .int .i64 r4, .int .i64 r5, .int .i64 r6, .int .i64 r7] 2)
  have E3 := bel_trans E1 (bel_alloc w1 (.cells #[.int .i64 r1, .int .i64 r2, .int .i64 r3, .int .i64 r4, .int .i64 r5, .int .i64 r6, .int .i64 r7] 2))
  have hne := Nat.ne_of_gt M.lt
  have hDg' := Nat.ne_of_lt hDg
  clear D1 M E1
  go_wp2_with fail
  generalize (w1.alloc _ : World) = w3 at R M3 D3 E3 ⊢
  refine (mixInW_any g w1.heap.size 7 [r1, r2, r3, r4, r5, r6, r7] 7 w3 bd7 rfl (by omega) M3 R hne).mono ?_
  rintro e w4 ⟨rfl, M4, G⟩
  have D4 := D3.kept G (by intro e; injection e with e; omega)
  have E4 := bel_grown E3 G hg
  clear d0 d1 d2 d3 d4 d5 d6 d7 d8 R M3 D3 E3 G hne
  generalize hx : mixW 7 [r1, r2, r3, r4, r5, r6, r7] = x at M4 ⊢
  have HX := Lib.hid hx
  have hbx : Bd x := hx ▸ mixW_bd _ _ bd7
  clear hx
  obtain ⟨d0, d1, d2, d3, d4, d5, d6, d7, d8⟩ := D4.nine
  clear d0 d1 d2 d3 d4 d5 d6 d8
  go_wp2_with fail
  clear d7
  go_loopw [4, 30] (fun a i wr => ∃ (k : Nat) (y : Int), k ≤ m ∧ i = .int .i64 k ∧ a = .int .i64 y ∧ Hid (mixW x (flatI (ps.take k)) = y) ∧ Box wr g 2 #[.int .i64 y] ∧ Below w.heap.size w wr) (fun _ i _ => m - (intOf i).toNat)
  case atStart => exact ⟨0, x, by omega, rfl, rfl, rfl, M4, E4⟩
  case round =>
    clear M4 E4 D4
    obtain ⟨k, y, hk, rfl, rfl, hy, M, E⟩ := hrel
    by_cases hlt : k < m
    · obtain ⟨b, o, hA, hb, hc⟩ := (HR.out.below E (Nat.le_refl _)).2 (by omega)
      subst hA
      obtain ⟨c0, c1⟩ := hc k hlt
      have hbl := Nat.lt_of_lt_of_le hb E.size
      have HS : Hid (mixW x (flatI (ps.take (k + 1))) = mixW y [(pth ps k).1, (pth ps k).2]) := by
        show _ = _
        rw [flatI_snoc (by rw [HL.out]; exact hlt), mixW_app, hy.out]
      have hby : Bd y := by rw [← hy.out]; exact mixW_bd _ _ hbx
      clear hc
      generalize pth ps k = z at c0 c1 HS
      obtain ⟨z0, z1⟩ := z
      dsimp only at c0 c1 HS
      have S := Box.new wr 136 #[.int .i64 z0, .int .i64 z1]
      have M1 := M.alloc (.cells #[.int .i64 z0, .int .i64 z1] 136)
      have EA := bel_alloc wr (.cells #[.int .i64 z0, .int .i64 z1] 136)
      have R := Box.new (wr.alloc (.cells #[.int .i64 z0, .int .i64 z1] 136)) 2 #[.int .i64 z0, .int .i64 z1]
      have M2 := M1.alloc (.cells #[.int .i64 z0, .int .i64 z1] 2)
      have EB := bel_trans E (bel_trans EA (bel_alloc _ (.cells #[.int .i64 z0, .int .i64 z1] 2)))
      have hne := Nat.ne_of_gt M1.lt
      obtain ⟨s0, s1⟩ := S.two
      go_wp2_with fail
      simp only [World.size_alloc] at R hne
      generalize ((wr.alloc _).alloc _ : World) = w5 at R M2 EB ⊢
      clear S M M1 EA s0 s1 c0 c1
      refine (mixInW_any g (wr.heap.size + 1) 2 [z0, z1] y w5 hby rfl (by omega) M2 R hne).mono ?_
      rintro e w6 ⟨rfl, M6, G6⟩
      have E6 := bel_grown EB G6 hg
      clear R M2 EB G6
      generalize mixW y [z0, z1] = y' at HS M6 ⊢
      go_wp2
      go_roundw
      case rel => exact ⟨k + 1, y', by omega, by go_num, rfl, HS.out, M6, E6⟩
      case measure => simp [intOf]; omega
    · have hz := HL.out
      have HE : Hid (sumN r1 r2 r3 r4 r5 r6 r7 ps = y) := by
        show _ = _
        unfold sumN
        rw [mixW_app, HX.out, ← hy.out, List.take_of_length_le (by omega)]
      clear hz
      go_wp2
      go_ret
      exact ⟨by rw [HE.out]; rfl, E⟩
end Go.Proofs.YtjdepjpjjgkmbaaGreat

/- The model's SumOf at every record; conditions: how many seals it has. -/
namespace Go.Proofs.YtjdepjpjjgkmbaaGreat
open Go Go.RowKit

theorem Tryz.infoI9 : (Tryz.prog.info? 2).map (fun i => (i.zero, i.size, i.bytes)) = some (some (.int .i64 0), 1, 8) := by kernel_rfl
theorem own_built (w : World) (t : TypeId) (zs : List Int) (n : Nat) (h : zs.length = n) (hn : n ≤ 1000) : (w.alloc (.cells (zs.map (Value.int .i64)).toArray t)).ownsRow w.heap.size t 1 (.slice (some ⟨w.heap.size, 0, none⟩) n n) n (zs.map (Value.int .i64)) :=
  ⟨by simp [h], .inr ⟨w.heap.size, n, _, rfl, Nat.le_refl _, heap_alloc_new w _, Nat.le_refl _, by unfold maxLen; omega, by simp [h], by rw [← h]; exact List.take_of_length_le (by simp)⟩⟩
theorem own_row9 {w : World} {base : Nat} {e : TypeId} {q n cap : Nat} {zs : List Int} (h : w.ownsRow base e 1 (.slice (some ⟨q, 0, none⟩) n cap) n (zs.map (Value.int .i64))) (hn : zs.length = n) : Row w w.heap.size (some ⟨q, 0, none⟩) n zs := by
  refine ⟨hn, fun _ => ⟨q, 0, rfl, (h.lt q rfl).2, fun i hi => ?_⟩⟩
  have := h.cellAt i (by simp; omega)
  rw [Nat.zero_add, this]
  simp [nth, show i < zs.length by omega]

/-- What the next round reads of the list of seals and of the record, behind a list that grew. -/
theorem sumKeep {wr w2 : World} {g q b o : Nat} {t : TypeId} {v0 v1 v2 v3 v4 v5 v6 v7 v8 a0 a1 : Value} {ob : Obj} (D : Box wr g t #[v0, v1, v2, v3, v4, v5, v6, v7, v8]) (hb : b < wr.heap.size) (h0 : wr.cell? ⟨b, o, none⟩ = some a0) (h1 : wr.cell? ⟨b, o + 1, none⟩ = some a1)
    (G : (wr.drew.alloc ob).grownBy w2 (some q)) (hg : g ≠ q) (hbq : b ≠ q) :
    (w2.cell? ⟨g, 7, none⟩ = some v7 ∧ w2.cell? ⟨b, o, none⟩ = some a0 ∧ w2.cell? ⟨b, o + 1, none⟩ = some a1) ∧ Box w2 g t #[v0, v1, v2, v3, v4, v5, v6, v7, v8] := by
  have hl := D.lt
  have hB : Below wr.heap.size wr (wr.drew.alloc ob) := ((Below.refl _ wr).drew).alloc (Nat.le_refl _) ob
  have F : ∀ c k u, c < wr.heap.size → c ≠ q → wr.cell? ⟨c, k, none⟩ = some u → w2.cell? ⟨c, k, none⟩ = some u := fun c k u hc hq h =>
    ((World.cell?_of_block (G.block c (Nat.lt_of_lt_of_le hc hB.size) (by intro e; injection e with e; exact hq e))).trans (hB.cell (p := ⟨c, k, none⟩) hc)).trans h
  exact ⟨⟨F g 7 _ hl hg (D.cell 7), F b o _ hb hbq h0, F b (o + 1) _ hb hbq h1⟩, (D.later hB hl).kept G (by intro e; injection e with e; exact hg e.symm)⟩

set_option maxRecDepth 100000 in
set_option maxHeartbeats 2000000 in
theorem specSumOf_is (r1 r2 r3 r4 r5 r6 r7 : Int) (L : Option Addr) (m mc : Nat) (r8 : Int) (ps : List (Int × Int)) (w : World) (hm : m ≤ 4194304) (hr : Pairs w w.heap.size L m ps) :
    Calls Tryz.prog 141 #[.agg #[.int .i64 r1, .int .i64 r2, .int .i64 r3, .int .i64 r4, .int .i64 r5, .int .i64 r6, .int .i64 r7, .slice L m mc, .int .i64 r8]] w fun e w' => e = .returned (.int .i64 (sumN r1 r2 r3 r4 r5 r6 r7 ps)) ∧ Below w.heap.size w w' := by
  obtain ⟨i0, hi0, hz0, hz1, hz2⟩ := info_parts Tryz.infoI9
  have D := Box.new w 46 #[.int .i64 r1, .int .i64 r2, .int .i64 r3, .int .i64 r4, .int .i64 r5, .int .i64 r6, .int .i64 r7, .slice L m mc, .int .i64 r8]
  have hb0 := bel_alloc w (.cells #[.int .i64 r1, .int .i64 r2, .int .i64 r3, .int .i64 r4, .int .i64 r5, .int .i64 r6, .int .i64 r7, .slice L m mc, .int .i64 r8] 46)
  have HR := Lib.hid hr
  have HL := Lib.hid hr.1
  clear hr
  go_enter Tryz.func141, Tryz.ntmps141
  have hDg := D.lt
  have O : ((w.alloc (.cells #[.int .i64 r1, .int .i64 r2, .int .i64 r3, .int .i64 r4, .int .i64 r5, .int .i64 r6, .int .i64 r7, .slice L m mc, .int .i64 r8] 46)).alloc (.cells #[.int .i64 r1, .int .i64 r2, .int .i64 r3, .int .i64 r4, .int .i64 r5, .int .i64 r6, .int .i64 r7] 2)).ownsRow (w.alloc (.cells #[.int .i64 r1, .int .i64 r2, .int .i64 r3, .int .i64 r4, .int .i64 r5, .int .i64 r6, .int .i64 r7, .slice L m mc, .int .i64 r8] 46)).heap.size 2 1 (.slice (some ⟨(w.alloc (.cells #[.int .i64 r1, .int .i64 r2, .int .i64 r3, .int .i64 r4, .int .i64 r5, .int .i64 r6, .int .i64 r7, .slice L m mc, .int .i64 r8] 46)).heap.size, 0, none⟩) 7 7) 7 ([r1, r2, r3, r4, r5, r6, r7].map (Value.int .i64)) := own_built (w.alloc (.cells #[.int .i64 r1, .int .i64 r2, .int .i64 r3, .int .i64 r4, .int .i64 r5, .int .i64 r6, .int .i64 r7, .slice L m mc, .int .i64 r8] 46)) 2 [r1, r2, r3, r4, r5, r6, r7] 7 rfl (by omega)
  have D1 := D.alloc (.cells #[.int .i64 r1, .int .i64 r2, .int .i64 r3, .int .i64 r4, .int .i64 r5, .int .i64 r6, .int .i64 r7] 2)
  have E1 := bel_trans hb0 (bel_alloc _ (.cells #[.int .i64 r1, .int .i64 r2, .int .i64 r3, .int .i64 r4, .int .i64 r5, .int .i64 r6, .int .i64 r7] 2))
  obtain ⟨d0, d1, d2, d3, d4, d5, d6, d7, d8⟩ := D.nine
  simp only [World.size_alloc] at O
  go_wp2_with fail
  clear d0 d1 d2 d3 d4 d5 d6 d7 d8 D hb0 hDg
  generalize ((w.alloc _).alloc _ : World) = w1 at O D1 E1 ⊢
  go_loopw [3, 4] (fun a i wr => ∃ (k q cap : Nat), k ≤ m ∧ i = .int .i64 k ∧ a = .slice (some ⟨q, 0, none⟩) (7 + 2 * k) cap ∧ wr.ownsRow (w.heap.size + 1) 2 1 (.slice (some ⟨q, 0, none⟩) (7 + 2 * k) cap) (7 + 2 * k) (([r1, r2, r3, r4, r5, r6, r7] ++ flatI (ps.take k)).map (Value.int .i64)) ∧ Box wr w.heap.size 46 #[.int .i64 r1, .int .i64 r2, .int .i64 r3, .int .i64 r4, .int .i64 r5, .int .i64 r6, .int .i64 r7, .slice L m mc, .int .i64 r8] ∧ Below w.heap.size w wr) (fun _ i _ => m - (intOf i).toNat)
  case atStart => exact ⟨0, _, 7, by omega, rfl, rfl, by simpa [flatI] using O, D1, E1⟩
  case round =>
    clear O D1 E1
    obtain ⟨k, q, cap, hk, rfl, rfl, O, D, E⟩ := hrel
    have d7 := D.cell 7
    have hq : w.heap.size + 1 ≤ q ∧ q < wr.heap.size := O.lt q rfl
    by_cases hlt : k < m
    · obtain ⟨b, o, hA, hb, hc⟩ := (HR.out.below E (Nat.le_refl _)).2 (by omega)
      subst hA
      obtain ⟨c0, c1⟩ := hc k hlt
      have hbl := Nat.lt_of_lt_of_le hb E.size
      have HS : Hid (([r1, r2, r3, r4, r5, r6, r7] ++ flatI (ps.take (k + 1))).map (Value.int .i64) = ([r1, r2, r3, r4, r5, r6, r7] ++ flatI (ps.take k)).map (Value.int .i64) ++ [.int .i64 (pth ps k).1, .int .i64 (pth ps k).2]) := by
        show _ = _
        rw [flatI_snoc (by rw [HL.out]; exact hlt)]
        simp
      clear hc
      generalize pth ps k = z at c0 c1 HS
      obtain ⟨z0, z1⟩ := z
      dsimp only at c0 c1 HS
      have hDl := D.lt
      have hkI : (k : Int) < (m : Int) := by omega
      go_wp2_with fail
      go_region_held3 (fun w' => w'.cell? ⟨w.heap.size, 7, none⟩ = some (.slice (some ⟨b, o, none⟩) m mc) ∧ w'.cell? ⟨b, o + k * 2, none⟩ = some (.int .i64 z0) ∧ w'.cell? ⟨b, o + k * 2 + 1, none⟩ = some (.int .i64 z1))
        (first | (with_reducible exact K2) | go_keep)
        (first | (refine step_append_lies _ (by rfl) _ _ _ (by rfl) (w.heap.size + 1) 2 i0 _ 1 8 Tryz.underlying24 hi0 hz0 hz1 hz2 rfl (by omega) (.slice (some ⟨q, 0, none⟩) (7 + 2 * k) cap) (7 + 2 * k) (([r1, r2, r3, r4, r5, r6, r7] ++ flatI (ps.take k)).map (Value.int .i64)) (by rfl) (O.drew.alloc _) ⟨wr.heap.size, 0, none⟩ 2 2 [.int .i64 z0, .int .i64 z1] (by rfl) (by rfl) (World.news_of_block (cs := #[.int .i64 z0, .int .i64 z1]) (t := 2) (fr := (0, 0)) (heap_alloc_new wr.drew _)) (by simp [Value.oneCell']) (by omega) (by unfold maxLen; omega) (by omega) (by simp; omega) (wr.heap.size + 1) (by simp) ?_; intro gg cap2 w2 hown2 hgrow2 hat hlt2; replace hgrow2 : World.grownBy _ w2 (some q) := hgrow2; obtain ⟨K2, D2⟩ := sumKeep D hbl c0 c1 hgrow2 (by omega) (by omega); clear hat))
      all_goals
        have O2 : w2.ownsRow (w.heap.size + 1) 2 1 (.slice (some ⟨gg, 0, none⟩) (7 + 2 * (k + 1)) cap2) (7 + 2 * (k + 1)) (([r1, r2, r3, r4, r5, r6, r7] ++ flatI (ps.take (k + 1))).map (Value.int .i64)) := by rw [HS.out]; exact hown2
        have E2 := bel_grown (((E.drew).alloc E.size (.cells #[.int .i64 z0, .int .i64 z1] 2))) hgrow2 (by omega)
        clear K2 hown2 hgrow2 c0 c1 d7 O
        go_wp2
        go_roundw
        case rel => exact ⟨k + 1, gg, cap2, by omega, by go_num, rfl, O2, D2, E2⟩
        case measure => simp [intOf]; omega
    · have hz := HL.out
      have HE : Hid (ps.take k = ps) := by
        show _ = _
        rw [List.take_of_length_le (by omega)]
      have hkm : k = m := by omega
      subst hkm
      rw [HE.out] at O
      have hR9 := own_row9 O (by simp [flatI_len]; omega)
      have E9 := E
      clear hz O
      go_wp2_with fail
      refine (l3MixW_any (some ⟨q, 0, none⟩) (7 + 2 * k) cap ([r1, r2, r3, r4, r5, r6, r7] ++ flatI ps) wr (by omega) hR9).mono ?_
      rintro e w3 ⟨rfl, hb3⟩
      have E3 := bel_trans E hb3
      go_wp2
      go_ret
      exact ⟨rfl, E3⟩
end Go.Proofs.YtjdepjpjjgkmbaaGreat

/- The parts of impl/l05_note.go: what a note has, values, seals that can be sent, what is answered: contracts of each of them. -/
namespace Go.Proofs.YtjdepjpjjgkmbaaGreat
open Go.RowKit

end Go.Proofs.YtjdepjpjjgkmbaaGreat

/- The rest of impl/l05_note.go's parts: what was, seals that can be sent, stamps and values: contracts of each of them. -/
namespace Go.Proofs.YtjdepjpjjgkmbaaGreat
open Go.RowKit

end Go.Proofs.YtjdepjpjjgkmbaaGreat

/- The parts of the model's NoteOk: values, seals that can be sent, what a kind has not; what the model answers: contracts of each of them. -/
namespace Go.Proofs.YtjdepjpjjgkmbaaGreat
open Go.RowKit

end Go.Proofs.YtjdepjpjjgkmbaaGreat

/- The laws' own copies of a note, their size and the test that two are alike: contracts of each of them. -/
namespace Go.Proofs.YtjdepjpjjgkmbaaGreat
open Go.RowKit

/-- What a copying of a note keeps: the note, the answer's variable, the copy so far. -/
structure TN (w wr : World) (tn ti : TypeId) (src zer cur : Array Value) : Prop where
  nb : Box wr w.heap.size tn src
  rb : Box wr (w.heap.size + 1) ti zer
  ob : Box wr (w.heap.size + 1 + 1) ti cur
  bel : Below w.heap.size w wr
theorem TN.later {w wr w' : World} {tn ti : TypeId} {src zer cur : Array Value} (h : TN w wr tn ti src zer cur) (hb : Below wr.heap.size wr w') : TN w w' tn ti src zer cur :=
  ⟨h.nb.later hb h.nb.lt, h.rb.later hb h.rb.lt, h.ob.later hb h.ob.lt, bel_trans h.bel hb⟩
theorem TN.put {w wr : World} {tn ti : TypeId} {src zer cur : Array Value} (h : TN w wr tn ti src zer cur) (i : Nat) (u : Value) : TN w (wr.setCell ⟨w.heap.size + 1 + 1, i, none⟩ u) tn ti src zer (cur.setIfInBounds i u) :=
  ⟨h.nb.far (p := ⟨w.heap.size + 1 + 1, i, none⟩) (by simp; omega) u, h.rb.far (p := ⟨w.heap.size + 1 + 1, i, none⟩) (by simp) u, h.ob.set i u, h.bel.setCell (p := ⟨w.heap.size + 1 + 1, i, none⟩) (by simp; omega) u⟩
theorem TN.start (w : World) (tn ti : TypeId) (src zer cur : Array Value) : TN w (((w.alloc (.cells src tn)).alloc (.cells zer ti)).alloc (.cells cur ti)) tn ti src zer cur := by
  have B1 := (Box.new (w.alloc (.cells src tn)) ti zer).alloc (.cells cur ti)
  have B2 := Box.new ((w.alloc (.cells src tn)).alloc (.cells zer ti)) ti cur
  simp only [World.size_alloc] at B1 B2
  exact ⟨((Box.new w tn src).alloc _).alloc _, B1, B2, bel_trans (bel_trans (bel_alloc _ _) (bel_alloc _ _)) (bel_alloc _ _)⟩

theorem Held.far {w : World} {g : Nat} {d : List (Int × Int)} (h : Held w g d) {a : Addr} (ha : a.block ≠ g) (u : Value) : Held (w.setCell a u) g d := by
  have hf : (w.setCell a u).heap[g]? = w.heap[g]? := Below.heap_setCell w a u g (fun e => ha e.symm)
  refine ⟨by rw [size_set]; exact h.lt, fun o => ?_, fun i hi => ?_, fun i hi => ?_⟩
  · rw [← h.fr o]
    unfold World.frozen?
    simp only [hf]
  · rw [World.cell?_of_block hf]; exact h.at0 i hi
  · rw [World.cell?_of_block hf]; exact h.at1 i hi

/-- What the test that two notes are alike keeps: both, and their lists. -/
structure EN (w wr : World) (t : TypeId) (x y : Array Value) (P : Option Addr) (p : Nat) (ps : List (Int × Int)) (Q : Option Addr) (q : Nat) (qs : List (Int × Int)) (P' Q' : Option Addr) : Prop where
  xb : Box wr w.heap.size t x
  yb : Box wr (w.heap.size + 1) t y
  hp : Pairs wr wr.heap.size P p ps
  hq : Pairs wr wr.heap.size Q q qs
  hp' : Pairs wr wr.heap.size P' p ps
  hq' : Pairs wr wr.heap.size Q' q qs
  bel : Below w.heap.size w wr
theorem EN.later {w wr w' : World} {t : TypeId} {x y : Array Value} {P : Option Addr} {p : Nat} {ps : List (Int × Int)} {Q : Option Addr} {q : Nat} {qs : List (Int × Int)} {P' Q' : Option Addr} (h : EN w wr t x y P p ps Q q qs P' Q') (hb : Below wr.heap.size wr w') : EN w w' t x y P p ps Q q qs P' Q' :=
  ⟨h.xb.later hb h.xb.lt, h.yb.later hb h.yb.lt, h.hp.later hb, h.hq.later hb, h.hp'.later hb, h.hq'.later hb, bel_trans h.bel hb⟩

end Go.Proofs.YtjdepjpjjgkmbaaGreat

/- The exact laws of AnswerTo and NoteOk answer true, whatever they are given: walks of each of them (written by laws_note.py). -/
namespace Go.Proofs.YtjdepjpjjgkmbaaGreat
open Go.RowKit

end Go.Proofs.YtjdepjpjjgkmbaaGreat

/- The laws' sizes, copies, comparisons and marks of groups, shelves and notes as data; conditions: the sizes. -/
namespace Go.Proofs.YtjdepjpjjgkmbaaGreat
open Go.RowKit

/-- What a size test answers: what is left, or less than nothing. -/
def Left (L : Int) (k : Nat) (e : Ending) : Prop := ∃ v : Int, e = .returned (.int .i64 v) ∧ ((k : Int) ≤ L → v = L - k) ∧ (L < k → v < 0)
theorem sz_G {d : GrpD} {w : World} {F : Nat → Prop} {C : Array Value} (h : AtG d w F (.agg C)) :
    Calls Tryz.prog 24 #[.agg C, .int .i64 1048576] w fun e w' => Left 1048576 d.sz e ∧ Below w.heap.size w w' := by
  obtain ⟨A, n, cap, e, hm, hr⟩ := h
  injection e with e
  subst e
  have hl : d.zs.length = n := hr.1.1
  rcases Nat.lt_or_ge 1048576 n with hn | hn
  · refine (szGroup_gt _ _ _ _ A n cap w hn hm).mono ?_
    rintro e w' ⟨rfl, hb⟩
    exact ⟨⟨-1, rfl, fun h => absurd h (by unfold GrpD.sz; omega), fun _ => by omega⟩, hb⟩
  · refine (szGroup_le _ _ _ _ A n cap w hn).mono ?_
    rintro e w' ⟨rfl, hb⟩
    exact ⟨⟨_, rfl, fun _ => by unfold GrpD.sz; rw [hl], fun h => absurd h (by unfold GrpD.sz; omega)⟩, hb⟩
/-- A copy was made: the same data, in new blocks. -/
def Copied (P : World → (Nat → Prop) → Value → Prop) (w : World) (e : Ending) (w' : World) : Prop := ∃ C, e = .returned (.agg C) ∧ P w' (Iv w.heap.size w'.heap.size) (.agg C) ∧ Below w.heap.size w w'
theorem to_G {d : GrpD} {w : World} {F : Nat → Prop} {C : Array Value} (h : AtG d w F (.agg C)) (hs : d.sz ≤ 1048576) : Calls Tryz.prog 26 #[.agg C] w (Copied (LieG d) w) := by
  obtain ⟨A, n, cap, e, hm, hr⟩ := h
  injection e with e
  subst e
  have hl : d.zs.length = n := hr.1.1
  have hn : n ≤ 1048576 := by unfold GrpD.sz at hs; omega
  refine (toGroup_fr _ _ _ _ A n cap d.zs w hn hr.1).mono ?_
  rintro e w' ⟨g, hg, rfl, hrow, hf, hgl, hb⟩
  exact ⟨_, rfl, ⟨_, rfl, g, n, n, rfl, Nat.le_refl _, by unfold maxLen; omega, ⟨hg, hgl⟩, hgl, hf, hrow⟩, hb⟩
theorem eq_G {d : GrpD} {w : World} {F F' : Nat → Prop} {C C' : Array Value} (h : AtG d w F (.agg C)) (h' : AtG d w F' (.agg C')) (hs : d.sz ≤ 1048576) :
    Calls Tryz.prog 28 #[.agg C, .agg C'] w fun e w' => e = .returned (.bool true) ∧ Below w.heap.size w w' := by
  obtain ⟨A, n, cap, e, hm, hr⟩ := h
  obtain ⟨A', n', cap', e', hm', hr'⟩ := h'
  injection e with e
  injection e' with e'
  subst e e'
  have hl : d.zs.length = n := hr.1.1
  have hl' : d.zs.length = n' := hr'.1.1
  subst hl hl'
  exact eqGroup_same _ _ _ _ A A' _ cap cap' d.zs w hs hr.1 hr'.1
/-- The marks of an argument: only its own blocks turn. -/
theorem mark_G {d : GrpD} {w : World} {F : Nat → Prop} {C : Array Value} {k : Int} (h : LieG d w F (.agg C)) (hs : d.sz ≤ 1048576) (hk0 : 0 ≤ k) (hk1 : k ≤ 10000000) :
    Calls Tryz.prog 34 #[.agg C, .int .i64 k] w fun e w' => e = .returned (.int .i64 (k + d.mk8)) ∧ Turns F w w' := by
  obtain ⟨u, e, g, n, cap, rfl, h1, h2, hF, hl, hf, hr⟩ := h
  injection e with e
  subst e
  have hn : d.zs.length = n := hr.1
  unfold GrpD.sz at hs
  refine (markGroup_is _ _ _ _ g n cap k d.zs w (by omega) hk0 (by omega) hr hf hl).mono ?_
  rintro e w' ⟨rfl, hg⟩
  exact ⟨by unfold GrpD.mk8; rw [hn], (Turns.of_grown hg).sub fun i _ hi => hi ▸ hF⟩
end Go.Proofs.YtjdepjpjjgkmbaaGreat

/- The laws' sizes, copies, comparisons and marks of a record as data, and its sum; conditions: the sizes. -/
namespace Go.Proofs.YtjdepjpjjgkmbaaGreat
open Go Go.RowKit

theorem sz_C {d : RecD} {w : World} {F : Nat → Prop} {C : Array Value} {L : Int} (h : AtC d w F (.agg C)) (h0 : 0 ≤ L) (h1 : L ≤ 1048576) :
    Calls Tryz.prog 146 #[.agg C, .int .i64 L] w fun e w' => Left L d.sz e ∧ Below w.heap.size w w' := by
  obtain ⟨A, n, cap, e, hm, hr⟩ := h
  injection e with e
  subst e
  have hl : d.ps.length = n := hr.1.1
  have hz : d.sz = n := hl
  rcases Int.lt_or_le L (n : Int) with hn | hn
  · refine (szRec_gt _ _ _ _ _ _ _ A n cap _ L w h0 h1 hn hm).mono ?_
    rintro e w' ⟨rfl, hb⟩
    exact ⟨⟨-1, rfl, fun h => absurd h (by omega), fun _ => by omega⟩, hb⟩
  · refine (szRec_le _ _ _ _ _ _ _ A n cap _ L w h1 hn).mono ?_
    rintro e w' ⟨rfl, hb⟩
    exact ⟨⟨_, rfl, fun _ => by omega, fun h => absurd h (by omega)⟩, hb⟩
theorem to_C {d : RecD} {w : World} {F : Nat → Prop} {C : Array Value} (h : AtC d w F (.agg C)) (hs : d.sz ≤ 1048576) : Calls Tryz.prog 147 #[.agg C] w (Copied (LieC d) w) := by
  obtain ⟨A, n, cap, e, hm, hr⟩ := h
  injection e with e
  subst e
  have hl : d.ps.length = n := hr.1.1
  have hn : n ≤ 1048576 := by unfold RecD.sz at hs; omega
  refine (toRec_any _ _ _ _ _ _ _ A n cap _ d.ps w hn hr.1).mono ?_
  rintro e w' ⟨g, hg, rfl, hp, hb⟩
  subst hl
  exact ⟨_, rfl, ⟨_, rfl, .inr ⟨g, _, ⟨hg, hp.lt⟩, rfl, Nat.le_refl _, by unfold maxLen; omega, hp⟩⟩, hb⟩
theorem eq_C {d : RecD} {w : World} {F F' : Nat → Prop} {C C' : Array Value} (h : AtC d w F (.agg C)) (h' : AtC d w F' (.agg C')) (hs : d.sz ≤ 1048576) :
    Calls Tryz.prog 148 #[.agg C, .agg C'] w fun e w' => e = .returned (.bool true) ∧ Below w.heap.size w w' := by
  obtain ⟨A, n, cap, e, hm, hr⟩ := h
  obtain ⟨A', n', cap', e', hm', hr'⟩ := h'
  injection e with e
  injection e' with e'
  subst e e'
  have hl : d.ps.length = n := hr.1.1
  have hl' : d.ps.length = n' := hr'.1.1
  subst hl hl'
  exact eqRec_same _ _ _ _ _ _ _ A _ cap _ A' cap' d.ps w hs hr.1 hr'.1

theorem LieC.slc {d : RecD} {w : World} {F : Nat → Prop} {C : Array Value} (h : AtC d w F (.agg C)) (hs : d.sz ≤ 1048576) : ∃ (L : Option Addr) (m mc : Nat), C = d.cells (.slice L m mc) ∧ m ≤ 4194304 ∧ Pairs w w.heap.size L m d.ps := by
  obtain ⟨A, n, cap, e, hm, hr⟩ := h
  injection e with e
  have hl : d.ps.length = n := hr.1.1
  exact ⟨A, n, cap, e, by unfold RecD.sz at hs; omega, hr.1⟩
theorem ownP_res {w : World} {F : Nat → Prop} {u : Value} {ps : List (Int × Int)} (h : OwnP w F u ps) : ∃ lo hi, ResP w lo hi u ps ∧ ∀ b, Iv lo hi b → F b := by
  rcases h with h | ⟨g, cap, hF, h1, h2, h3, h4⟩
  · exact ⟨0, 0, .inl h, fun b hb => by unfold Iv at hb; omega⟩
  · refine ⟨g, g + 1, .inr ⟨g, cap, Nat.le_refl _, by omega, h1, h2, h3, h4⟩, fun b hb => ?_⟩
    unfold Iv at hb
    obtain rfl : b = g := by omega
    exact hF
theorem Turns.of_band {lo hi : Nat} {a b : World} (h : Band lo hi a b) : Turns (Iv lo hi) a b := ⟨h.os, h.tape, h.output, h.size, fun i hi' hb => h.block i hi' (by unfold Iv at hb; omega)⟩
end Go.Proofs.YtjdepjpjjgkmbaaGreat

/- A list of records in memory: read through blocks of F alone; no conditions. -/
namespace Go.Proofs.YtjdepjpjjgkmbaaGreat
open Go Go.RowKit

/-- The record d, with the list u, stands at this place. -/
def RecAt (w : World) (b o : Nat) (d : RecD) (u : Value) : Prop :=
  w.cell? ⟨b, o, none⟩ = some (.int .i64 d.r1) ∧ w.cell? ⟨b, o + 1, none⟩ = some (.int .i64 d.r2) ∧ w.cell? ⟨b, o + 2, none⟩ = some (.int .i64 d.r3) ∧ w.cell? ⟨b, o + 3, none⟩ = some (.int .i64 d.r4) ∧ w.cell? ⟨b, o + 4, none⟩ = some (.int .i64 d.r5) ∧ w.cell? ⟨b, o + 5, none⟩ = some (.int .i64 d.r6) ∧ w.cell? ⟨b, o + 6, none⟩ = some (.int .i64 d.r7) ∧ w.cell? ⟨b, o + 7, none⟩ = some u ∧ w.cell? ⟨b, o + 8, none⟩ = some (.int .i64 d.r8)
theorem RecAt.turn {w w' : World} {b o : Nat} {d : RecD} {u : Value} {T : Nat → Prop} (h : RecAt w b o d u) (hb : b < w.heap.size) (ht : Turns T w w') (hT : ¬ T b) : RecAt w' b o d u := by
  have F : ∀ k, w'.cell? ⟨b, k, none⟩ = w.cell? ⟨b, k, none⟩ := fun k => ht.cell hb hT k
  unfold RecAt
  simp only [F]
  exact h
def RecsF (ds : List RecD) (w : World) (F : Nat → Prop) (A : Option Addr) (n : Nat) : Prop :=
  ds.length = n ∧ (0 < n → ∃ b o, A = some ⟨b, o, none⟩ ∧ F b ∧ b < w.heap.size ∧ ∀ i (h : i < ds.length), ∃ L m mc, RecAt w b (o + i * 9) ds[i] (.slice L m mc) ∧ m ≤ maxLen ∧ PairsF w F L m (ds[i]).ps)
theorem RecsF.turn {T : Nat → Prop} {w w' : World} {F : Nat → Prop} {A : Option Addr} {n : Nat} {ds : List RecD} (h : RecsF ds w F A n) (ht : Turns T w w') (hd : ∀ b, F b → ¬ T b) : RecsF ds w' F A n := by
  refine ⟨h.1, fun hn => ?_⟩
  obtain ⟨b, o, hA, hF, hb, hc⟩ := h.2 hn
  refine ⟨b, o, hA, hF, Nat.lt_of_lt_of_le hb ht.size, fun i hi => ?_⟩
  obtain ⟨L, m, mc, h1, h2, h3⟩ := hc i hi
  exact ⟨L, m, mc, h1.turn hb ht (hd b hF), h2, h3.turn ht hd⟩
theorem RecsF.later {w w' : World} {F : Nat → Prop} {A : Option Addr} {n : Nat} {ds : List RecD} (h : RecsF ds w F A n) (hb : Below w.heap.size w w') : RecsF ds w' F A n := h.turn (T := fun _ => False) (Turns.of_below hb) (fun _ _ h => h)
theorem RecsF.sub {w : World} {F F' : Nat → Prop} {A : Option Addr} {n : Nat} {ds : List RecD} (h : RecsF ds w F A n) (hs : ∀ b, F b → F' b) : RecsF ds w F' A n := by
  refine ⟨h.1, fun hn => ?_⟩
  obtain ⟨b, o, hA, hF, hb, hc⟩ := h.2 hn
  refine ⟨b, o, hA, hs b hF, hb, fun i hi => ?_⟩
  obtain ⟨L, m, mc, h1, h2, h3⟩ := hc i hi
  exact ⟨L, m, mc, h1, h2, h3.1, fun hn b o e => hs b (h3.2 hn b o e)⟩
end Go.Proofs.YtjdepjpjjgkmbaaGreat

/- Words of chapter 4: what the functions of certificates compute; SealRight's contracts with the answer under a name; no conditions. -/
namespace Go.Proofs.YtjdepjpjjgkmbaaGreat
open Go.RowKit

/-- Is this seal right? -/
def rB (s l c sh : Int) (zs : List Int) (ck ch ct cq cv : Int) (p : Int × Int) : Bool := riB s l c sh zs ck ch ct cq cv p.1 p.2
/-- The right ones, one of each server, in order. -/
def goodP (R : Int × Int → Bool) (ps : List (Int × Int)) : List (Int × Int) := puts (ps.filter R)
theorem goodP_nil (R : Int × Int → Bool) : goodP R [] = [] := rfl
theorem goodP_yes {R : Int × Int → Bool} {ps : List (Int × Int)} {k : Nat} (h : k < ps.length) (hR : R (pth ps k) = true) : goodP R (ps.take (k + 1)) = put (goodP R (ps.take k)) (pth ps k) := by
  rw [List.take_succ_eq_append_getElem h, ← pth_lt h]
  unfold goodP
  rw [List.filter_append, show [pth ps k].filter R = [pth ps k] by simp [hR], puts_snoc]
theorem goodP_no {R : Int × Int → Bool} {ps : List (Int × Int)} {k : Nat} (h : k < ps.length) (hR : R (pth ps k) = false) : goodP R (ps.take (k + 1)) = goodP R (ps.take k) := by
  rw [List.take_succ_eq_append_getElem h, ← pth_lt h]
  unfold goodP
  rw [List.filter_append, show [pth ps k].filter R = [] by simp [hR], List.append_nil]
theorem goodP_le (R : Int × Int → Bool) (ps : List (Int × Int)) : (goodP R ps).length ≤ ps.length :=
  Nat.le_trans (puts_le _) (List.length_filter_le _ _)
/-- What CertCount answers. -/
def cntN (s l c sh : Int) (zs : List Int) (ck ch ct cq cv : Int) (ps : List (Int × Int)) : Int := ((goodP (rB s l c sh zs ck ch ct cq cv) ps).length : Int)
/-- What CertOk answers. -/
def cerB (s l c sh : Int) (zs : List Int) (ck ch ct cq cv : Int) (ps : List (Int × Int)) : Bool := okB s l c sh zs && decide ((ps.length : Int) ≤ 20) && decide (quoN s l c sh zs ≤ cntN s l c sh zs ck ch ct cq cv ps)
/-- What ProvenOk answers. -/
def proB (s l c sh : Int) (zs : List Int) (x ct cq v : Int) (ps : List (Int × Int)) : Bool :=
  okB s l c sh zs && inB x 0 (sh - 1) && ((decide (ct = 0 ∧ cq = 0) && decide (v = 0)) || cerB s l c sh zs 1 x ct cq v ps)

theorem rightB_is {s l c sh : Int} {zs : List Int} {ck ch ct cq cv x t : Int} {b : Bool} (h : rB s l c sh zs ck ch ct cq cv (x, t) = b) (A : Option Addr) (n cap : Nat) (w : World) (hm : n ≤ maxLen) (hr : Row w w.heap.size A n zs) :
    Calls Tryz.prog 244 #[.agg #[.int .i64 s, .int .i64 l, .int .i64 c, .int .i64 sh, .slice A n cap], .agg #[.int .i64 ck, .int .i64 ch, .int .i64 ct, .int .i64 cq, .int .i64 cv], .agg #[.int .i64 x, .int .i64 t]] w fun e w' => e = .returned (.bool b) ∧ Below w.heap.size w w' := h ▸ sealRight_any s l c sh A n cap zs ck ch ct cq cv x t w hm hr
theorem specRightB_is {s l c sh : Int} {zs : List Int} {ck ch ct cq cv x t : Int} {b : Bool} (h : rB s l c sh zs ck ch ct cq cv (x, t) = b) (A : Option Addr) (n cap : Nat) (w : World) (hm : n ≤ maxLen) (hr : Row w w.heap.size A n zs) :
    Calls Tryz.prog 237 #[.agg #[.int .i64 s, .int .i64 l, .int .i64 c, .int .i64 sh, .slice A n cap], .agg #[.int .i64 ck, .int .i64 ch, .int .i64 ct, .int .i64 cq, .int .i64 cv], .agg #[.int .i64 x, .int .i64 t]] w fun e w' => e = .returned (.bool b) ∧ Below w.heap.size w w' := h ▸ specRight_any s l c sh A n cap zs ck ch ct cq cv x t w hm hr
/-- A right one is of a server. -/
theorem rB_who {s l c sh : Int} {zs : List Int} {ck ch ct cq cv : Int} {p : Int × Int} (h : rB s l c sh zs ck ch ct cq cv p = true) : 0 ≤ p.1 ∧ p.1 < s ∧ s ≤ 10 := by
  simp only [rB, riB, seB, srvB, Bool.and_eq_true] at h
  have h1 := okB_parts h.1.2.1
  have h2 := inB_true.1 h.1.2.2
  omega

end Go.Proofs.YtjdepjpjjgkmbaaGreat

/- The functions of certificates, first part: the flags of who sealed, CertCount, GoodSeals: contracts of each of them; up to some four million seals. -/
namespace Go.Proofs.YtjdepjpjjgkmbaaGreat
open Go.RowKit

/-- The flag of the server i: has it sealed? -/
def fl (J : List (Int × Int)) (i : Nat) : Bool := has J (i : Int)
theorem fl_put (J : List (Int × Int)) (x t : Int) (i : Nat) : fl (put J (x, t)) i = (fl J i || decide ((i : Int) = x)) := by
  rw [Bool.eq_iff_iff]
  simp only [fl, Bool.or_eq_true, decide_eq_true_eq, has_mem]
  unfold put
  split
  · rename_i h
    constructor
    · exact .inl
    · rintro (h' | h')
      · exact h'
      · rw [h']; exact has_mem.1 h
  · constructor
    · rintro ⟨p, hp, e⟩
      rcases ins_mem.1 hp with h | h
      · rw [h] at e; exact .inr e.symm
      · exact .inl ⟨p, h, e⟩
    · rintro (⟨p, hp, e⟩ | e)
      · exact ⟨p, ins_mem.2 (.inr hp), e⟩
      · exact ⟨(x, t), ins_mem.2 (.inl rfl), e.symm⟩

theorem Box.ten' {w : World} {g : Nat} {t : TypeId} {v0 v1 v2 v3 v4 v5 v6 v7 v8 v9 : Value} (h : Box w g t #[v0, v1, v2, v3, v4, v5, v6, v7, v8, v9]) :
    w.cell? ⟨g, 0, none⟩ = some v0 ∧ w.cell? ⟨g, 1, none⟩ = some v1 ∧ w.cell? ⟨g, 2, none⟩ = some v2 ∧ w.cell? ⟨g, 3, none⟩ = some v3 ∧ w.cell? ⟨g, 4, none⟩ = some v4 ∧ w.cell? ⟨g, 5, none⟩ = some v5 ∧ w.cell? ⟨g, 6, none⟩ = some v6 ∧ w.cell? ⟨g, 7, none⟩ = some v7 ∧ w.cell? ⟨g, 8, none⟩ = some v8 ∧ w.cell? ⟨g, 9, none⟩ = some v9 :=
  ⟨h.cell 0, h.cell 1, h.cell 2, h.cell 3, h.cell 4, h.cell 5, h.cell 6, h.cell 7, h.cell 8, h.cell 9⟩

theorem bel_ten {w w' : World} {B g : Nat} (h : Below B w w') (hg : B ≤ g) (u0 u1 u2 u3 u4 u5 u6 u7 u8 u9 : Value) :
    Below B w ((((((((((w'.setCell ⟨g, 0, none⟩ u0).setCell ⟨g, 1, none⟩ u1).setCell ⟨g, 2, none⟩ u2).setCell ⟨g, 3, none⟩ u3).setCell ⟨g, 4, none⟩ u4).setCell ⟨g, 5, none⟩ u5).setCell ⟨g, 6, none⟩ u6).setCell ⟨g, 7, none⟩ u7).setCell ⟨g, 8, none⟩ u8).setCell ⟨g, 9, none⟩ u9) :=
  (((((((((h.setCell hg u0).setCell hg u1).setCell hg u2).setCell hg u3).setCell hg u4).setCell hg u5).setCell hg u6).setCell hg u7).setCell hg u8).setCell hg u9
/-- The flag of x is set. -/
theorem Box.flag {w : World} {g : Nat} {ty : TypeId} {J : List (Int × Int)} (h : Box w g ty #[.bool (fl (J) 0), .bool (fl (J) 1), .bool (fl (J) 2), .bool (fl (J) 3), .bool (fl (J) 4), .bool (fl (J) 5), .bool (fl (J) 6), .bool (fl (J) 7), .bool (fl (J) 8), .bool (fl (J) 9)]) (x t : Int) (hx : 0 ≤ x ∧ x < 10) : Box (w.setCell ⟨g, x.toNat, none⟩ (.bool true)) g ty #[.bool (fl (put J (x, t)) 0), .bool (fl (put J (x, t)) 1), .bool (fl (put J (x, t)) 2), .bool (fl (put J (x, t)) 3), .bool (fl (put J (x, t)) 4), .bool (fl (put J (x, t)) 5), .bool (fl (put J (x, t)) 6), .bool (fl (put J (x, t)) 7), .bool (fl (put J (x, t)) 8), .bool (fl (put J (x, t)) 9)] := by
  have h' := h.set x.toNat (.bool true)
  have e : (#[.bool (fl (J) 0), .bool (fl (J) 1), .bool (fl (J) 2), .bool (fl (J) 3), .bool (fl (J) 4), .bool (fl (J) 5), .bool (fl (J) 6), .bool (fl (J) 7), .bool (fl (J) 8), .bool (fl (J) 9)] : Array Value).setIfInBounds x.toNat (.bool true) = #[.bool (fl (put J (x, t)) 0), .bool (fl (put J (x, t)) 1), .bool (fl (put J (x, t)) 2), .bool (fl (put J (x, t)) 3), .bool (fl (put J (x, t)) 4), .bool (fl (put J (x, t)) 5), .bool (fl (put J (x, t)) 6), .bool (fl (put J (x, t)) 7), .bool (fl (put J (x, t)) 8), .bool (fl (put J (x, t)) 9)] := by
    have hc : x = 0 ∨ x = 1 ∨ x = 2 ∨ x = 3 ∨ x = 4 ∨ x = 5 ∨ x = 6 ∨ x = 7 ∨ x = 8 ∨ x = 9 := by omega
    rcases hc with rfl | rfl | rfl | rfl | rfl | rfl | rfl | rfl | rfl | rfl <;> simp [fl_put] <;> rfl
  rw [e] at h'
  exact h'

set_option maxRecDepth 100000 in
set_option maxHeartbeats 1000000 in
theorem and_no (J : List (Int × Int)) (s l c sh : Int) (A : Option Addr) (n cap : Nat) (zs : List Int) (ck ch ct cq cv x t : Int) (w : World) (hR : rB s l c sh zs ck ch ct cq cv (x, t) = false) (hm : n ≤ maxLen) (hr : Row w w.heap.size A n zs) :
    Calls Tryz.prog 246 #[.agg #[.bool (fl (J) 0), .bool (fl (J) 1), .bool (fl (J) 2), .bool (fl (J) 3), .bool (fl (J) 4), .bool (fl (J) 5), .bool (fl (J) 6), .bool (fl (J) 7), .bool (fl (J) 8), .bool (fl (J) 9)], .agg #[.int .i64 s, .int .i64 l, .int .i64 c, .int .i64 sh, .slice A n cap], .agg #[.int .i64 ck, .int .i64 ch, .int .i64 ct, .int .i64 cq, .int .i64 cv], .agg #[.int .i64 x, .int .i64 t]] w fun e w' => e = .returned (.agg #[.bool (fl (J) 0), .bool (fl (J) 1), .bool (fl (J) 2), .bool (fl (J) 3), .bool (fl (J) 4), .bool (fl (J) 5), .bool (fl (J) 6), .bool (fl (J) 7), .bool (fl (J) 8), .bool (fl (J) 9)]) ∧ Below w.heap.size w w' := by
  have hz : Box ((((w.alloc (.cells #[.bool (fl (J) 0), .bool (fl (J) 1), .bool (fl (J) 2), .bool (fl (J) 3), .bool (fl (J) 4), .bool (fl (J) 5), .bool (fl (J) 6), .bool (fl (J) 7), .bool (fl (J) 8), .bool (fl (J) 9)] 255)).alloc (.cells #[.int .i64 s, .int .i64 l, .int .i64 c, .int .i64 sh, .slice A n cap] 26)).alloc (.cells #[.int .i64 ck, .int .i64 ch, .int .i64 ct, .int .i64 cq, .int .i64 cv] 180)).alloc (.cells #[.int .i64 x, .int .i64 t] 136)) w.heap.size 255 #[.bool (fl (J) 0), .bool (fl (J) 1), .bool (fl (J) 2), .bool (fl (J) 3), .bool (fl (J) 4), .bool (fl (J) 5), .bool (fl (J) 6), .bool (fl (J) 7), .bool (fl (J) 8), .bool (fl (J) 9)] := (((Box.new w _ _).alloc _).alloc _).alloc _
  have DG := ((Box.new (w.alloc (.cells #[.bool (fl (J) 0), .bool (fl (J) 1), .bool (fl (J) 2), .bool (fl (J) 3), .bool (fl (J) 4), .bool (fl (J) 5), .bool (fl (J) 6), .bool (fl (J) 7), .bool (fl (J) 8), .bool (fl (J) 9)] 255)) 26 #[.int .i64 s, .int .i64 l, .int .i64 c, .int .i64 sh, .slice A n cap]).alloc (.cells #[.int .i64 ck, .int .i64 ch, .int .i64 ct, .int .i64 cq, .int .i64 cv] 180)).alloc (.cells #[.int .i64 x, .int .i64 t] 136)
  have DC := (Box.new ((w.alloc (.cells #[.bool (fl (J) 0), .bool (fl (J) 1), .bool (fl (J) 2), .bool (fl (J) 3), .bool (fl (J) 4), .bool (fl (J) 5), .bool (fl (J) 6), .bool (fl (J) 7), .bool (fl (J) 8), .bool (fl (J) 9)] 255)).alloc (.cells #[.int .i64 s, .int .i64 l, .int .i64 c, .int .i64 sh, .slice A n cap] 26)) 180 #[.int .i64 ck, .int .i64 ch, .int .i64 ct, .int .i64 cq, .int .i64 cv]).alloc (.cells #[.int .i64 x, .int .i64 t] 136)
  have DS := Box.new (((w.alloc (.cells #[.bool (fl (J) 0), .bool (fl (J) 1), .bool (fl (J) 2), .bool (fl (J) 3), .bool (fl (J) 4), .bool (fl (J) 5), .bool (fl (J) 6), .bool (fl (J) 7), .bool (fl (J) 8), .bool (fl (J) 9)] 255)).alloc (.cells #[.int .i64 s, .int .i64 l, .int .i64 c, .int .i64 sh, .slice A n cap] 26)).alloc (.cells #[.int .i64 ck, .int .i64 ch, .int .i64 ct, .int .i64 cq, .int .i64 cv] 180)) 136 #[.int .i64 x, .int .i64 t]
  have E0 := bel_trans (bel_trans (bel_trans (bel_alloc w (.cells #[.bool (fl (J) 0), .bool (fl (J) 1), .bool (fl (J) 2), .bool (fl (J) 3), .bool (fl (J) 4), .bool (fl (J) 5), .bool (fl (J) 6), .bool (fl (J) 7), .bool (fl (J) 8), .bool (fl (J) 9)] 255)) (bel_alloc _ (.cells #[.int .i64 s, .int .i64 l, .int .i64 c, .int .i64 sh, .slice A n cap] 26))) (bel_alloc _ (.cells #[.int .i64 ck, .int .i64 ch, .int .i64 ct, .int .i64 cq, .int .i64 cv] 180))) (bel_alloc _ (.cells #[.int .i64 x, .int .i64 t] 136))
  simp only [World.size_alloc] at DG DC DS
  have HR := Lib.hid hr
  have HM := Lib.hid hm
  clear hr hm
  replace hz := hz.alloc (.cells #[.bool false, .bool false, .bool false, .bool false, .bool false, .bool false, .bool false, .bool false, .bool false, .bool false] 255)
  replace DG := DG.alloc (.cells #[.bool false, .bool false, .bool false, .bool false, .bool false, .bool false, .bool false, .bool false, .bool false, .bool false] 255)
  replace DC := DC.alloc (.cells #[.bool false, .bool false, .bool false, .bool false, .bool false, .bool false, .bool false, .bool false, .bool false, .bool false] 255)
  replace DS := DS.alloc (.cells #[.bool false, .bool false, .bool false, .bool false, .bool false, .bool false, .bool false, .bool false, .bool false, .bool false] 255)
  have DR := Box.new ((((w.alloc (.cells #[.bool (fl (J) 0), .bool (fl (J) 1), .bool (fl (J) 2), .bool (fl (J) 3), .bool (fl (J) 4), .bool (fl (J) 5), .bool (fl (J) 6), .bool (fl (J) 7), .bool (fl (J) 8), .bool (fl (J) 9)] 255)).alloc (.cells #[.int .i64 s, .int .i64 l, .int .i64 c, .int .i64 sh, .slice A n cap] 26)).alloc (.cells #[.int .i64 ck, .int .i64 ch, .int .i64 ct, .int .i64 cq, .int .i64 cv] 180)).alloc (.cells #[.int .i64 x, .int .i64 t] 136)) 255 #[.bool false, .bool false, .bool false, .bool false, .bool false, .bool false, .bool false, .bool false, .bool false, .bool false]
  replace E0 := bel_trans E0 (bel_alloc _ (.cells #[.bool false, .bool false, .bool false, .bool false, .bool false, .bool false, .bool false, .bool false, .bool false, .bool false] 255))
  simp only [World.size_alloc] at DR
  have HY := Lib.hid hR
  clear hR
  go_enter Tryz.func246, Tryz.ntmps246
  go_wp2_with fail
  generalize (((((w.alloc _).alloc _).alloc _).alloc _).alloc _ : World) = w1 at E0 hz DG DC DS DR ⊢
  refine (rightB_is HY.out A n cap w1 HM.out ((HR.out.below E0 (Nat.le_refl _)).more E0.size)).mono ?_
  rintro e w2 ⟨rfl, hb2⟩
  have E2 := bel_trans E0 hb2
  have hz2 := hz.later hb2 hz.lt
  have DR2 := DR.later hb2 DR.lt
  obtain ⟨d0, d1, d2, d3, d4, d5, d6, d7, d8, d9⟩ := hz2.ten'
  obtain ⟨r0, r1, r2, r3, r4, r5, r6, r7, r8, r9⟩ := DR2.ten'
  have fr := DR2.frozen
  clear hz DG DC DS DR E0 hb2
  go_wp2
  refine bodyPost_ret (v := .agg #[.bool (fl (J) 0), .bool (fl (J) 1), .bool (fl (J) 2), .bool (fl (J) 3), .bool (fl (J) 4), .bool (fl (J) 5), .bool (fl (J) 6), .bool (fl (J) 7), .bool (fl (J) 8), .bool (fl (J) 9)]) (by simp [results, Tryz.results246, go_sem, r0, r1, r2, r3, r4, r5, r6, r7, r8, r9]) rfl ⟨rfl, ?_⟩
  exact bel_ten E2 (by omega) _ _ _ _ _ _ _ _ _ _

set_option maxRecDepth 100000 in
set_option maxHeartbeats 1000000 in
theorem and_yes (J : List (Int × Int)) (s l c sh : Int) (A : Option Addr) (n cap : Nat) (zs : List Int) (ck ch ct cq cv x t : Int) (w : World) (hR : rB s l c sh zs ck ch ct cq cv (x, t) = true) (hm : n ≤ maxLen) (hr : Row w w.heap.size A n zs) :
    Calls Tryz.prog 246 #[.agg #[.bool (fl (J) 0), .bool (fl (J) 1), .bool (fl (J) 2), .bool (fl (J) 3), .bool (fl (J) 4), .bool (fl (J) 5), .bool (fl (J) 6), .bool (fl (J) 7), .bool (fl (J) 8), .bool (fl (J) 9)], .agg #[.int .i64 s, .int .i64 l, .int .i64 c, .int .i64 sh, .slice A n cap], .agg #[.int .i64 ck, .int .i64 ch, .int .i64 ct, .int .i64 cq, .int .i64 cv], .agg #[.int .i64 x, .int .i64 t]] w fun e w' => e = .returned (.agg #[.bool (fl (put J (x, t)) 0), .bool (fl (put J (x, t)) 1), .bool (fl (put J (x, t)) 2), .bool (fl (put J (x, t)) 3), .bool (fl (put J (x, t)) 4), .bool (fl (put J (x, t)) 5), .bool (fl (put J (x, t)) 6), .bool (fl (put J (x, t)) 7), .bool (fl (put J (x, t)) 8), .bool (fl (put J (x, t)) 9)]) ∧ Below w.heap.size w w' := by
  have hz : Box ((((w.alloc (.cells #[.bool (fl (J) 0), .bool (fl (J) 1), .bool (fl (J) 2), .bool (fl (J) 3), .bool (fl (J) 4), .bool (fl (J) 5), .bool (fl (J) 6), .bool (fl (J) 7), .bool (fl (J) 8), .bool (fl (J) 9)] 255)).alloc (.cells #[.int .i64 s, .int .i64 l, .int .i64 c, .int .i64 sh, .slice A n cap] 26)).alloc (.cells #[.int .i64 ck, .int .i64 ch, .int .i64 ct, .int .i64 cq, .int .i64 cv] 180)).alloc (.cells #[.int .i64 x, .int .i64 t] 136)) w.heap.size 255 #[.bool (fl (J) 0), .bool (fl (J) 1), .bool (fl (J) 2), .bool (fl (J) 3), .bool (fl (J) 4), .bool (fl (J) 5), .bool (fl (J) 6), .bool (fl (J) 7), .bool (fl (J) 8), .bool (fl (J) 9)] := (((Box.new w _ _).alloc _).alloc _).alloc _
  have DG := ((Box.new (w.alloc (.cells #[.bool (fl (J) 0), .bool (fl (J) 1), .bool (fl (J) 2), .bool (fl (J) 3), .bool (fl (J) 4), .bool (fl (J) 5), .bool (fl (J) 6), .bool (fl (J) 7), .bool (fl (J) 8), .bool (fl (J) 9)] 255)) 26 #[.int .i64 s, .int .i64 l, .int .i64 c, .int .i64 sh, .slice A n cap]).alloc (.cells #[.int .i64 ck, .int .i64 ch, .int .i64 ct, .int .i64 cq, .int .i64 cv] 180)).alloc (.cells #[.int .i64 x, .int .i64 t] 136)
  have DC := (Box.new ((w.alloc (.cells #[.bool (fl (J) 0), .bool (fl (J) 1), .bool (fl (J) 2), .bool (fl (J) 3), .bool (fl (J) 4), .bool (fl (J) 5), .bool (fl (J) 6), .bool (fl (J) 7), .bool (fl (J) 8), .bool (fl (J) 9)] 255)).alloc (.cells #[.int .i64 s, .int .i64 l, .int .i64 c, .int .i64 sh, .slice A n cap] 26)) 180 #[.int .i64 ck, .int .i64 ch, .int .i64 ct, .int .i64 cq, .int .i64 cv]).alloc (.cells #[.int .i64 x, .int .i64 t] 136)
  have DS := Box.new (((w.alloc (.cells #[.bool (fl (J) 0), .bool (fl (J) 1), .bool (fl (J) 2), .bool (fl (J) 3), .bool (fl (J) 4), .bool (fl (J) 5), .bool (fl (J) 6), .bool (fl (J) 7), .bool (fl (J) 8), .bool (fl (J) 9)] 255)).alloc (.cells #[.int .i64 s, .int .i64 l, .int .i64 c, .int .i64 sh, .slice A n cap] 26)).alloc (.cells #[.int .i64 ck, .int .i64 ch, .int .i64 ct, .int .i64 cq, .int .i64 cv] 180)) 136 #[.int .i64 x, .int .i64 t]
  have E0 := bel_trans (bel_trans (bel_trans (bel_alloc w (.cells #[.bool (fl (J) 0), .bool (fl (J) 1), .bool (fl (J) 2), .bool (fl (J) 3), .bool (fl (J) 4), .bool (fl (J) 5), .bool (fl (J) 6), .bool (fl (J) 7), .bool (fl (J) 8), .bool (fl (J) 9)] 255)) (bel_alloc _ (.cells #[.int .i64 s, .int .i64 l, .int .i64 c, .int .i64 sh, .slice A n cap] 26))) (bel_alloc _ (.cells #[.int .i64 ck, .int .i64 ch, .int .i64 ct, .int .i64 cq, .int .i64 cv] 180))) (bel_alloc _ (.cells #[.int .i64 x, .int .i64 t] 136))
  simp only [World.size_alloc] at DG DC DS
  have HR := Lib.hid hr
  have HM := Lib.hid hm
  clear hr hm
  replace hz := hz.alloc (.cells #[.bool false, .bool false, .bool false, .bool false, .bool false, .bool false, .bool false, .bool false, .bool false, .bool false] 255)
  replace DG := DG.alloc (.cells #[.bool false, .bool false, .bool false, .bool false, .bool false, .bool false, .bool false, .bool false, .bool false, .bool false] 255)
  replace DC := DC.alloc (.cells #[.bool false, .bool false, .bool false, .bool false, .bool false, .bool false, .bool false, .bool false, .bool false, .bool false] 255)
  replace DS := DS.alloc (.cells #[.bool false, .bool false, .bool false, .bool false, .bool false, .bool false, .bool false, .bool false, .bool false, .bool false] 255)
  have DR := Box.new ((((w.alloc (.cells #[.bool (fl (J) 0), .bool (fl (J) 1), .bool (fl (J) 2), .bool (fl (J) 3), .bool (fl (J) 4), .bool (fl (J) 5), .bool (fl (J) 6), .bool (fl (J) 7), .bool (fl (J) 8), .bool (fl (J) 9)] 255)).alloc (.cells #[.int .i64 s, .int .i64 l, .int .i64 c, .int .i64 sh, .slice A n cap] 26)).alloc (.cells #[.int .i64 ck, .int .i64 ch, .int .i64 ct, .int .i64 cq, .int .i64 cv] 180)).alloc (.cells #[.int .i64 x, .int .i64 t] 136)) 255 #[.bool false, .bool false, .bool false, .bool false, .bool false, .bool false, .bool false, .bool false, .bool false, .bool false]
  replace E0 := bel_trans E0 (bel_alloc _ (.cells #[.bool false, .bool false, .bool false, .bool false, .bool false, .bool false, .bool false, .bool false, .bool false, .bool false] 255))
  simp only [World.size_alloc] at DR
  have HY := Lib.hid hR
  have hx0 : 0 ≤ x := (rB_who hR).1
  have hx1 : x < 10 := Int.lt_of_lt_of_le (rB_who hR).2.1 (rB_who hR).2.2
  clear hR
  go_enter Tryz.func246, Tryz.ntmps246
  go_wp2_with fail
  generalize (((((w.alloc _).alloc _).alloc _).alloc _).alloc _ : World) = w1 at E0 hz DG DC DS DR ⊢
  refine (rightB_is HY.out A n cap w1 HM.out ((HR.out.below E0 (Nat.le_refl _)).more E0.size)).mono ?_
  rintro e w2 ⟨rfl, hb2⟩
  have E2 := bel_trans E0 hb2
  have hz2 := hz.later hb2 hz.lt
  have DR2 := DR.later hb2 DR.lt
  have DS2 := DS.later hb2 DS.lt
  obtain ⟨s0, s1⟩ := DS2.two
  have cx : w2.cell? ⟨w.heap.size, x.toNat, none⟩ = some (.bool (fl J x.toNat)) := by
    rw [hz2.cell]
    have hc : x = 0 ∨ x = 1 ∨ x = 2 ∨ x = 3 ∨ x = 4 ∨ x = 5 ∨ x = 6 ∨ x = 7 ∨ x = 8 ∨ x = 9 := by omega
    rcases hc with rfl | rfl | rfl | rfl | rfl | rfl | rfl | rfl | rfl | rfl <;> rfl
  have fz := hz2.frozen
  have HF := Lib.hid (hz2.flag x t ⟨hx0, hx1⟩)
  have HD := Lib.hid (DR2.far (p := ⟨w.heap.size, x.toNat, none⟩) (by simp; omega) (.bool true))
  have HE := Lib.hid (E2.setCell (p := ⟨w.heap.size, x.toNat, none⟩) (Nat.le_refl _) (.bool true))
  clear hz DG DC DS DR E0 hb2 hz2 DR2 E2
  go_upto_region 3 with fail
  generalize (w2.setCell _ _ : World) = w3 at HF HD HE ⊢
  have DR3 := HD.out
  obtain ⟨d0, d1, d2, d3, d4, d5, d6, d7, d8, d9⟩ := HF.out.ten'
  obtain ⟨r0, r1, r2, r3, r4, r5, r6, r7, r8, r9⟩ := HD.out.ten'
  have fr := DR3.frozen
  go_wp2
  refine bodyPost_ret (v := .agg #[.bool (fl (put J (x, t)) 0), .bool (fl (put J (x, t)) 1), .bool (fl (put J (x, t)) 2), .bool (fl (put J (x, t)) 3), .bool (fl (put J (x, t)) 4), .bool (fl (put J (x, t)) 5), .bool (fl (put J (x, t)) 6), .bool (fl (put J (x, t)) 7), .bool (fl (put J (x, t)) 8), .bool (fl (put J (x, t)) 9)]) (by simp [results, Tryz.results246, go_sem, r0, r1, r2, r3, r4, r5, r6, r7, r8, r9]) rfl ⟨rfl, ?_⟩
  exact bel_ten HE.out (by omega) _ _ _ _ _ _ _ _ _ _

end Go.Proofs.YtjdepjpjjgkmbaaGreat

/- The flags of who sealed are compared: a contract of the comparison; no conditions. -/
namespace Go.Proofs.YtjdepjpjjgkmbaaGreat
open Go.RowKit

theorem Tryz.infoBool : ∃ i, Tryz.prog.info? 4 = some i ∧ i.size = 1 := by
  obtain ⟨i, hi, hzz⟩ := Option.map_eq_some_iff.1 (show (Tryz.prog.info? 4).map (fun i => i.size) = some 1 by kernel_rfl)
  exact ⟨i, hi, hzz⟩

theorem eqItems_step (xs ys : Array Value) (i : Nat) (is : List Nat) (a b : Bool) (w : World) (hc : Tryz.prog.cellsOf 4 = 1) (ha : (part 4 xs i).run Tryz.prog w = .ok (.bool a) w) (hb : (part 4 ys i).run Tryz.prog w = .ok (.bool b) w) :
    (Op.eqItems 9999 4 (Tryz.prog.cellsOf 4) xs ys (i :: is)).run Tryz.prog w = if a = b then (Op.eqItems 9999 4 (Tryz.prog.cellsOf 4) xs ys is).run Tryz.prog w else .ok false w := by
  rw [hc]
  simp only [Op.eqItems, Nat.mul_one, Sem.run_bind, ha, hb, Result.andThen_ok, run_equalIn_bool w 9998 4 a b Tryz.underlying4]
  by_cases h : a = b
  · subst h; simp
  · have : (a == b) = false := by simpa using h
    simp [this, h]

theorem part_flag (cs : Array Value) (i : Nat) (v : Value) (w : World) (h : cs[i]? = some v) : (part 4 cs i).run Tryz.prog w = .ok v w := by
  obtain ⟨i0, hi, hs⟩ := Tryz.infoBool
  simp [part, typeInfo, sizeOf, hi, hs, h, isAgg, run_underlying Tryz.underlying4]

theorem Tryz.cellsBool : Tryz.prog.cellsOf 4 = 1 := by kernel_rfl

/-- All of these places, from k on. -/
theorem eqItems_all (J J' : List (Int × Int)) (w : World) : ∀ (is : List Nat), (∀ i ∈ is, i < 10) →
    (Op.eqItems 9999 4 (Tryz.prog.cellsOf 4) #[.bool (fl (J) 0), .bool (fl (J) 1), .bool (fl (J) 2), .bool (fl (J) 3), .bool (fl (J) 4), .bool (fl (J) 5), .bool (fl (J) 6), .bool (fl (J) 7), .bool (fl (J) 8), .bool (fl (J) 9)] #[.bool (fl (J') 0), .bool (fl (J') 1), .bool (fl (J') 2), .bool (fl (J') 3), .bool (fl (J') 4), .bool (fl (J') 5), .bool (fl (J') 6), .bool (fl (J') 7), .bool (fl (J') 8), .bool (fl (J') 9)] is).run Tryz.prog w = .ok (is.all fun i => fl J i == fl J' i) w
  | [], _ => by simp [Op.eqItems]
  | i :: is, h => by
    have hi : i < 10 := h i (by simp)
    have hat : ∀ K : List (Int × Int), (#[.bool (fl (K) 0), .bool (fl (K) 1), .bool (fl (K) 2), .bool (fl (K) 3), .bool (fl (K) 4), .bool (fl (K) 5), .bool (fl (K) 6), .bool (fl (K) 7), .bool (fl (K) 8), .bool (fl (K) 9)] : Array Value)[i]? = some (.bool (fl K i)) := fun K => by
      have hc : i = 0 ∨ i = 1 ∨ i = 2 ∨ i = 3 ∨ i = 4 ∨ i = 5 ∨ i = 6 ∨ i = 7 ∨ i = 8 ∨ i = 9 := by omega
      rcases hc with rfl | rfl | rfl | rfl | rfl | rfl | rfl | rfl | rfl | rfl <;> rfl
    rw [eqItems_step _ _ i is (fl J i) (fl J' i) w Tryz.cellsBool (part_flag _ _ _ _ (hat J)) (part_flag _ _ _ _ (hat J')), eqItems_all J J' w is (fun j hj => h j (by simp [hj]))]
    by_cases e : fl J i = fl J' i
    · simp [e]
    · have : (fl J i == fl J' i) = false := by simpa using e
      simp [e]

/-- The same flags. -/
theorem eqFlags_same (J : List (Int × Int)) (w : World) : (Op.equalIn 10000 255 (.agg #[.bool (fl (J) 0), .bool (fl (J) 1), .bool (fl (J) 2), .bool (fl (J) 3), .bool (fl (J) 4), .bool (fl (J) 5), .bool (fl (J) 6), .bool (fl (J) 7), .bool (fl (J) 8), .bool (fl (J) 9)]) (.agg #[.bool (fl (J) 0), .bool (fl (J) 1), .bool (fl (J) 2), .bool (fl (J) 3), .bool (fl (J) 4), .bool (fl (J) 5), .bool (fl (J) 6), .bool (fl (J) 7), .bool (fl (J) 8), .bool (fl (J) 9)])).run Tryz.prog w = .ok true w := by
  obtain ⟨i0, hi, _⟩ := Tryz.infoBool
  rw [run_equalIn_array w 9999 _ _ Tryz.underlying255 hi, eqItems_all J J w _ (fun i hi => by simpa using hi)]
  simp
/-- One more flag. -/
theorem eqFlags_more (J J' : List (Int × Int)) (k : Nat) (hk : k < 10) (h : fl J k = false) (h' : fl J' k = true) (w : World) : (Op.equalIn 10000 255 (.agg #[.bool (fl (J') 0), .bool (fl (J') 1), .bool (fl (J') 2), .bool (fl (J') 3), .bool (fl (J') 4), .bool (fl (J') 5), .bool (fl (J') 6), .bool (fl (J') 7), .bool (fl (J') 8), .bool (fl (J') 9)]) (.agg #[.bool (fl (J) 0), .bool (fl (J) 1), .bool (fl (J) 2), .bool (fl (J) 3), .bool (fl (J) 4), .bool (fl (J) 5), .bool (fl (J) 6), .bool (fl (J) 7), .bool (fl (J) 8), .bool (fl (J) 9)])).run Tryz.prog w = .ok false w := by
  obtain ⟨i0, hi, _⟩ := Tryz.infoBool
  rw [run_equalIn_array w 9999 _ _ Tryz.underlying255 hi, eqItems_all J' J w _ (fun i hi => by simpa using hi)]
  have : (List.range 10).all (fun i => fl J' i == fl J i) = false := by
    rw [List.all_eq_false]
    exact ⟨k, by simpa using hk, by rw [h, h']; simp⟩
  rw [this]

end Go.Proofs.YtjdepjpjjgkmbaaGreat

namespace Go.Proofs.YtjdepjpjjgkmbaaGreat
open Go.RowKit

theorem ins_small {l : List (Int × Int)} {s : Int × Int} (h : ∀ p ∈ l, p.1 ≤ s.1) : ins l s = l ++ [s] := by
  induction l with
  | nil => rfl
  | cons x l ih =>
    unfold ins
    rw [if_neg (Int.not_lt.2 (h x (by simp))), ih (fun p hp => h p (by simp [hp]))]
    rfl
theorem ins_snoc {l : List (Int × Int)} {s : Int × Int} (h : ∃ p ∈ l, s.1 < p.1) (y : Int × Int) : ins (l ++ [y]) s = ins l s ++ [y] := by
  induction l with
  | nil => simp at h
  | cons x l ih =>
    rw [List.cons_append]
    unfold ins
    split
    · rfl
    · rename_i hx
      obtain ⟨p, hp, hlt⟩ := h
      rcases List.mem_cons.1 hp with e | e
      · rw [e] at hlt; exact absurd hlt hx
      · rw [ih ⟨p, e, hlt⟩]; rfl
theorem ins_here {l : List (Int × Int)} {s y : Int × Int} (h : ∀ p ∈ l, p.1 ≤ s.1) (hy : s.1 < y.1) : ins (l ++ [y]) s = l ++ [s] ++ [y] := by
  induction l with
  | nil => simp [ins, hy]
  | cons x l ih =>
    rw [List.cons_append]
    unfold ins
    rw [if_neg (Int.not_lt.2 (h x (by simp))), ih (fun p hp => h p (by simp [hp]))]
    rfl

/-- A list of the call's own, and the box of the pair that is put. -/
structure PutAt (w0 wr : World) (x t : Int) (q cap' : Nat) (o : List (Int × Int)) : Prop where
  own : wr.ownsRow (w0.heap.size + 1) 136 2 (.slice (some ⟨q, 0, none⟩) o.length cap') o.length (flatP o)
  bel : Below w0.heap.size w0 wr
  box : Box wr w0.heap.size 136 #[.int .i64 x, .int .i64 t]
theorem PutAt.later {w0 wr w' : World} {x t : Int} {q cap' : Nat} {o : List (Int × Int)} (h : PutAt w0 wr x t q cap' o) (hb : Below wr.heap.size wr w') : PutAt w0 w' x t q cap' o :=
  ⟨h.own.kept (grown_bel hb none) (by simp [Value.ownBlock]), bel_trans h.bel hb, h.box.later hb h.box.lt⟩
theorem PutAt.push {w0 wr w2 : World} {x t : Int} {q cap' gg cap2 : Nat} {o : List (Int × Int)} {a b : Int} {ob : Obj} (h : PutAt w0 wr x t q cap' o)
    (hown : w2.ownsRow (w0.heap.size + 1) 136 2 (.slice (some ⟨gg, 0, none⟩) (o.length + 1) cap2) (o.length + 1) (flatP o ++ [.int .i64 a, .int .i64 b])) (hg : (wr.alloc ob).grownBy w2 (Value.ownBlock (.slice (some ⟨q, 0, none⟩) o.length cap'))) : PutAt w0 w2 x t gg cap2 (o ++ [(a, b)]) := by
  have hq := (h.own.lt q rfl).1
  have hg : (wr.alloc ob).grownBy w2 (some q) := hg
  refine ⟨?_, bel_grown (bel_trans h.bel (bel_alloc wr ob)) hg (by omega), (h.box.alloc ob).kept hg (by intro e; injection e with e; omega)⟩
  rw [flatP_snoc]
  simpa using hown

/-- What is answered: a list somewhere. -/
def Gives (w : World) (ps : List (Int × Int)) (e : Ending) (w' : World) : Prop :=
  ∃ g cap, e = .returned (.slice (some ⟨g, 0, none⟩) ps.length cap) ∧ Pairs w' w'.heap.size (some ⟨g, 0, none⟩) ps.length ps ∧ Below w.heap.size w w'

set_option maxRecDepth 100000 in
set_option maxHeartbeats 2000000 in
theorem put_is (g cap : Nat) (l : List (Int × Int)) (x t : Int) (w : World) (hn : l.length ≤ 4194304) (h : Pairs w w.heap.size (some ⟨g, 0, none⟩) l.length l) :
    Calls Tryz.prog 238 #[.slice (some ⟨g, 0, none⟩) l.length cap, .agg #[.int .i64 x, .int .i64 t]] w (Gives w (put l (x, t))) := by
  obtain ⟨i0, hi0, hz0, hz1, hz2⟩ := info_parts Tryz.infoSealI
  have K0 : PutAt w ((w.alloc (.cells #[.int .i64 x, .int .i64 t] 136)).alloc (.cells #[] 136)) x t (w.heap.size + 1) 0 [] := by
    refine ⟨⟨rfl, .inr ⟨w.heap.size + 1, 0, #[], rfl, Nat.le_refl _, ?_, Nat.le_refl _, Nat.zero_le _, rfl, rfl⟩⟩, bel_trans (bel_alloc _ _) (bel_alloc _ _), (Box.new w _ _).alloc _⟩
    have := Box.new (w.alloc (.cells #[.int .i64 x, .int .i64 t] 136)) 136 #[]
    simp only [World.size_alloc] at this
    exact this
  have HP := Lib.hid h
  obtain ⟨n, hnl⟩ : ∃ n, l.length = n := ⟨_, rfl⟩
  have K1 : ∀ k, k < n → l.take (k + 1) = l.take k ++ [pth l k] := fun k hk => by
    rw [List.take_succ_eq_append_getElem (by omega), pth_lt (by omega)]
  have K1 := Lib.hid K1
  rw [hnl] at hn ⊢
  have hnl := Lib.hid hnl
  rename_i q1 q2
  clear h q1 q2
  go_enter Tryz.func238, Tryz.ntmps238
  go_wp2_with fail
  generalize ((w.alloc _).alloc _ : World) = w1 at K0 ⊢
  go_loopw [5, 6, 7] (fun ov bv iv wr => ∃ (k q cap' : Nat) (o : List (Int × Int)) (b : Bool), k ≤ n ∧ iv = .int .i64 k ∧ bv = .bool b ∧ ov = .slice (some ⟨q, 0, none⟩) o.length cap' ∧ PutAt w wr x t q cap' o ∧ o.length ≤ k + 1 ∧ (∀ p ∈ l.take k, p.1 ≠ x) ∧
      ((b = false ∧ o = l.take k ∧ ∀ p ∈ l.take k, p.1 ≤ x) ∨ (b = true ∧ o = ins (l.take k) (x, t) ∧ ∃ p ∈ l.take k, x < p.1))) (fun _ _ i _ => n - (intOf i).toNat)
  case atStart => exact ⟨0, _, 0, [], false, Nat.zero_le _, rfl, rfl, rfl, K0, by simp, by simp, .inl ⟨rfl, by simp, by simp⟩⟩
  case round =>
    obtain ⟨k, q, cap', o, b, hk, rfl, rfl, rfl, hP, hol, hne, hcase⟩ := hrel
    by_cases hlt : k < n
    · have hlt' : (k : Int) < (n : Int) := by omega
      obtain ⟨b', o', hA, hbB, hcell⟩ := HP.out.2 (by have := hnl.out; omega)
      cases hA
      obtain ⟨c0, c1⟩ := hcell k (by have := hnl.out; omega)
      rw [Nat.zero_add] at c0 c1
      have c0 := (hP.bel.cell (p := ⟨g, k * 2, none⟩) hbB).trans c0
      have c1 := (hP.bel.cell (p := ⟨g, k * 2 + 1, none⟩) hbB).trans c1
      have hst := Lib.hid (K1.out k hlt)
      generalize hy : pth l k = y at c0 c1 hst
      obtain ⟨y, y'⟩ := y
      obtain ⟨s0, s1⟩ := hP.box.two
      have hgl : g < wr.heap.size := Nat.lt_of_lt_of_le hbB hP.bel.size
      have hq := (hP.own.lt q rfl)
      have g0 := After.cell (by exact hgl) c0
      have g1 := After.cell (by exact hgl) c1
      have e0 := After.cell (by exact hP.box.lt) s0
      have e1 := After.cell (by exact hP.box.lt) s1
      have hy := Lib.hid hy
      have hcase := Lib.hid hcase
      have hne := Lib.hid hne
      have hPP := Lib.hid hP
      rename_i q1 q2 q3
      clear q1 q2 q3 hcell c0 c1 s0 s1 hP
      by_cases hyx : y = x
      · subst hyx
        have hhas : put l (y, t) = l := by
          have : has l y = true := has_mem.2 ⟨pth l k, by rw [pth_lt (by have := hnl.out; omega)]; exact List.getElem_mem _, by rw [hy.out]⟩
          simp [put, this]
        rw [hhas]
        go_wp2_with fail
        refine wp_region_after (by kernel_rfl) (by kernel_rfl) ?_
        repeat (first | go_big_quiet_step (fail) | quiet_step (fail))
        refine wpQuiet_nil ?_
        intro pw
        have hP := hPP.out.later pw.bel
        clear g0 g1 e0 e1
        go_wp2
        go_ret
        exact ⟨g, cap, by rw [hnl.out]; rfl, HP.out.later hP.bel, hP.bel⟩
      · have hyx' : (y == x) = false := by simp [hyx]
        have hyx := Lib.hid hyx
        rename_i q1
        clear q1
        go_wp2_with fail
        refine wp_region_after (by kernel_rfl) (by kernel_rfl) ?_
        repeat (first | go_big_quiet_step (fail) | quiet_step (fail))
        refine wpQuiet_nil ?_
        intro pw
        have d0 := g0 pw
        have d1 := g1 pw
        have d2 := e0 pw
        have d3 := e1 pw
        have hP := hPP.out.later pw.bel
        clear g0 g1 e0 e1 hPP
        generalize pw.x = w2 at d0 d1 d2 d3 hP ⊢
        have hsz := hP.bel.size
        have hbl := hP.box.lt
        have hgl2 : g < w2.heap.size := Nat.lt_of_lt_of_le hbB hsz
        have g0 := After.cell (by exact hgl2) d0
        have g1 := After.cell (by exact hgl2) d1
        have e0 := After.cell (by exact hbl) d2
        have e1 := After.cell (by exact hbl) d3
        have hPP := Lib.hid hP
        clear d0 d1 d2 d3 hP
        have hne' : ∀ p ∈ l.take (k + 1), p.1 ≠ x := by
          rw [hst.out]
          intro p hp
          rcases List.mem_append.1 hp with e | e
          · exact hne.out p e
          · simp only [List.mem_singleton] at e
            rw [e]
            exact hyx.out
        have hne' := Lib.hid hne'
        rename_i q1
        clear q1
        rcases hcase.out with ⟨rfl, ho, hall⟩ | ⟨rfl, ho, hex⟩
        · have ho := Lib.hid ho
          have hall := Lib.hid hall
          rename_i q1 q2
          clear q1 q2
          by_cases hxy : x < y
          · go_wp2_with fail
            refine wp_region_after (by kernel_rfl) (by kernel_rfl) ?_
            repeat (first | go_big_quiet_step (fail) | quiet_step (fail))
            refine wpQuiet_nil ?_
            intro pw2
            have d0 := g0 pw2
            have d1 := g1 pw2
            have d2 := e0 pw2
            have d3 := e1 pw2
            have hP := hPP.out.later pw2.bel
            clear g0 g1 e0 e1 hPP
            generalize pw2.x = w3 at d0 d1 d2 d3 hP ⊢
            have hq3 := hP.own.lt q rfl
            have hsz3 := hP.bel.size
            have hbx3 := hP.box.lt
            go_wp2_with (first | (at_builtin; refine wpList_append_lies _ rfl _ _ _ rfl (w.heap.size + 1) 136 i0 _ 2 16 Tryz.underlying40 hi0 hz0 hz1 hz2 rfl (by omega) (.slice (some ⟨gg, 0, none⟩) (o.length + 1) cap2) (o.length + 1) (flatP o ++ [.int .i64 x, .int .i64 t]) rfl (hown2.alloc _) ⟨w5.heap.size, 0, none⟩ 1 1 [.int .i64 y, .int .i64 y'] rfl rfl (World.news_of_block (cs := #[.int .i64 y, .int .i64 y']) (t := 136) (fr := (0, 0)) (heap_alloc_new w5 _)) (by simp [Value.oneCell']) (by omega) (by unfold maxLen; omega) (by omega) (by simp; omega) (w5.heap.size + 1) (by simp) ?_; intro g3 cap3 w6 hown3 hgrow3 hat3 hlt3; have hP3 := hP2.push (gg := g3) (cap2 := cap3) (a := y) (b := y') (by simpa [flatP_snoc] using hown3) (by simpa using hgrow3); clear hown3 hgrow3 hat3 hown2) | (at_builtin; refine wpList_append_lies _ rfl _ _ _ rfl (w.heap.size + 1) 136 i0 _ 2 16 Tryz.underlying40 hi0 hz0 hz1 hz2 rfl (by omega) (.slice (some ⟨q, 0, none⟩) (o.length) cap') (o.length) (flatP o) rfl (hP.own.alloc _) ⟨w3.heap.size, 0, none⟩ 1 1 [.int .i64 x, .int .i64 t] rfl rfl (World.news_of_block (cs := #[.int .i64 x, .int .i64 t]) (t := 136) (fr := (0, 0)) (heap_alloc_new w3 _)) (by simp [Value.oneCell']) (by omega) (by unfold maxLen; omega) (by omega) (by simp; omega) (w3.heap.size + 1) (by simp) ?_; intro gg cap2 w5 hown2 hgrow2 hat hlt2; have hP2 := hP.push hown2 hgrow2; have c0 := (hP2.bel.cell (p := ⟨g, k * 2, none⟩) hbB).trans ((hP.bel.cell (p := ⟨g, k * 2, none⟩) hbB).symm.trans d0); have c1 := (hP2.bel.cell (p := ⟨g, k * 2 + 1, none⟩) hbB).trans ((hP.bel.cell (p := ⟨g, k * 2 + 1, none⟩) hbB).symm.trans d1); have hsz5 := hP2.bel.size; have hbx5 := hP2.box.lt; clear hgrow2 hat))
            have hP3 := Lib.hid hP3
            rename_i q1
            clear q1 hP2 hP
            go_roundw
            case rel =>
              have hl2 : (o ++ [(x, t)] ++ [(y, y')]).length = o.length + 1 + 1 := by simp
              exact ⟨k + 1, _, _, o ++ [(x, t)] ++ [(y, y')], true, by omega, by go_num, rfl, by rw [hl2], hP3.out, by rw [hl2, ho.out, List.length_take]; have := hnl.out; omega, hne'.out, .inr ⟨rfl, by rw [hst.out, ins_here hall.out hxy, ho.out], (y, y'), by rw [hst.out]; simp, hxy⟩⟩
            case measure => simp [intOf]; omega
          · have hxy' : y ≤ x := Int.not_lt.1 hxy
            clear hxy
            go_wp2_with fail
            refine wp_region_after (by kernel_rfl) (by kernel_rfl) ?_
            repeat (first | go_big_quiet_step (fail) | quiet_step (fail))
            refine wpQuiet_nil ?_
            intro pw2
            have d0 := g0 pw2
            have d1 := g1 pw2
            have d2 := e0 pw2
            have d3 := e1 pw2
            have hP := hPP.out.later pw2.bel
            clear g0 g1 e0 e1 hPP
            generalize pw2.x = w3 at d0 d1 d2 d3 hP ⊢
            have hq3 := hP.own.lt q rfl
            have hsz3 := hP.bel.size
            have hbx3 := hP.box.lt
            go_wp2_with (at_builtin; refine wpList_append_lies _ rfl _ _ _ rfl (w.heap.size + 1) 136 i0 _ 2 16 Tryz.underlying40 hi0 hz0 hz1 hz2 rfl (by omega) (.slice (some ⟨q, 0, none⟩) (o.length) cap') (o.length) (flatP o) rfl (hP.own.alloc _) ⟨w3.heap.size, 0, none⟩ 1 1 [.int .i64 y, .int .i64 y'] rfl rfl (World.news_of_block (cs := #[.int .i64 y, .int .i64 y']) (t := 136) (fr := (0, 0)) (heap_alloc_new w3 _)) (by simp [Value.oneCell']) (by omega) (by unfold maxLen; omega) (by omega) (by simp; omega) (w3.heap.size + 1) (by simp) ?_; intro gg cap2 w5 hown2 hgrow2 hat hlt2; have hP3 := hP.push hown2 hgrow2; clear hown2 hgrow2 hat)
            have hP3 := Lib.hid hP3
            rename_i q1
            clear q1 hP
            go_roundw
            case rel =>
              exact ⟨k + 1, _, _, o ++ [(y, y')], false, by omega, by go_num, rfl, by simp, hP3.out, by rw [List.length_append, ho.out, List.length_take]; simp; omega, hne'.out, .inl ⟨rfl, by rw [hst.out, ho.out], by
                rw [hst.out]
                intro p hp
                rcases List.mem_append.1 hp with e | e
                · exact hall.out p e
                · simp only [List.mem_singleton] at e
                  rw [e]
                  exact hxy'⟩⟩
            case measure => simp [intOf]; omega
        · have ho := Lib.hid ho
          have hex := Lib.hid hex
          rename_i q1 q2
          clear q1 q2
          go_wp2_with fail
          refine wp_region_after (by kernel_rfl) (by kernel_rfl) ?_
          repeat (first | go_big_quiet_step (fail) | quiet_step (fail))
          refine wpQuiet_nil ?_
          intro pw2
          have d0 := g0 pw2
          have d1 := g1 pw2
          have d2 := e0 pw2
          have d3 := e1 pw2
          have hP := hPP.out.later pw2.bel
          clear g0 g1 e0 e1 hPP
          generalize pw2.x = w3 at d0 d1 d2 d3 hP ⊢
          have hq3 := hP.own.lt q rfl
          have hsz3 := hP.bel.size
          have hbx3 := hP.box.lt
          go_wp2_with (at_builtin; refine wpList_append_lies _ rfl _ _ _ rfl (w.heap.size + 1) 136 i0 _ 2 16 Tryz.underlying40 hi0 hz0 hz1 hz2 rfl (by omega) (.slice (some ⟨q, 0, none⟩) (o.length) cap') (o.length) (flatP o) rfl (hP.own.alloc _) ⟨w3.heap.size, 0, none⟩ 1 1 [.int .i64 y, .int .i64 y'] rfl rfl (World.news_of_block (cs := #[.int .i64 y, .int .i64 y']) (t := 136) (fr := (0, 0)) (heap_alloc_new w3 _)) (by simp [Value.oneCell']) (by omega) (by unfold maxLen; omega) (by omega) (by simp; omega) (w3.heap.size + 1) (by simp) ?_; intro gg cap2 w5 hown2 hgrow2 hat hlt2; have hP3 := hP.push hown2 hgrow2; clear hown2 hgrow2 hat)
          have hP3 := Lib.hid hP3
          rename_i q1
          clear q1 hP
          go_roundw
          case rel =>
            exact ⟨k + 1, _, _, o ++ [(y, y')], true, by omega, by go_num, rfl, by simp, hP3.out, by rw [List.length_append, ho.out, ins_len, List.length_take]; simp; omega, hne'.out, .inr ⟨rfl, by rw [hst.out, ins_snoc hex.out, ho.out], by
              obtain ⟨p, hp, hlt⟩ := hex.out
              exact ⟨p, by rw [hst.out]; simp [hp], hlt⟩⟩⟩
          case measure => simp [intOf]; omega
    · obtain rfl : k = n := by omega
      have hno : has l x = false := has_not.2 (by have := hne; rwa [← hnl.out, List.take_length] at this)
      have hpt : put l (x, t) = ins l (x, t) := by simp [put, hno]
      have hpt := Lib.hid hpt
      have hcase : (b = false ∧ o = l ∧ ∀ p ∈ l, p.1 ≤ x) ∨ (b = true ∧ o = ins l (x, t) ∧ ∃ p ∈ l, x < p.1) := by rwa [← hnl.out, List.take_length] at hcase
      rename_i q1 q2
      clear q1 q2 hno hne
      have hq3 := hP.own.lt q rfl
      have hsz3 := hP.bel.size
      have hbx3 := hP.box.lt
      obtain ⟨s0, s1⟩ := hP.box.two
      rcases hcase with ⟨rfl, ho, hall⟩ | ⟨rfl, ho, hex⟩
      · have ho := Lib.hid ho
        have hall := Lib.hid hall
        rename_i q1 q2
        clear q1 q2
        go_wp2_with (at_builtin; refine wpList_append_lies _ rfl _ _ _ rfl (w.heap.size + 1) 136 i0 _ 2 16 Tryz.underlying40 hi0 hz0 hz1 hz2 rfl (by omega) (.slice (some ⟨q, 0, none⟩) (o.length) cap') (o.length) (flatP o) rfl (hP.own.alloc _) ⟨wr.heap.size, 0, none⟩ 1 1 [.int .i64 x, .int .i64 t] rfl rfl (World.news_of_block (cs := #[.int .i64 x, .int .i64 t]) (t := 136) (fr := (0, 0)) (heap_alloc_new wr _)) (by simp [Value.oneCell']) (by omega) (by unfold maxLen; omega) (by omega) (by simp; omega) (wr.heap.size + 1) (by simp) ?_; intro gg cap2 w5 hown2 hgrow2 hat hlt2; have hP3 := hP.push hown2 hgrow2; clear hown2 hgrow2 hat)
        go_ret
        have e : put l (x, t) = o ++ [(x, t)] := by rw [hpt.out, ins_small hall.out, ho.out]
        rw [e]
        exact ⟨gg, cap2, by rw [List.length_append]; rfl, own_pairs hP3.own, hP3.bel⟩
      · have ho := Lib.hid ho
        have hex := Lib.hid hex
        rename_i q1 q2
        clear q1 q2
        go_wp2
        go_ret
        have e : put l (x, t) = o := by rw [hpt.out, ho.out]
        rw [e]
        exact ⟨_, _, rfl, own_pairs hP.own, hP.bel⟩

end Go.Proofs.YtjdepjpjjgkmbaaGreat

/- The model's JoinSeals, GoodSeals and CertCount: contracts of each of them; up to some four million seals. -/
namespace Go.Proofs.YtjdepjpjjgkmbaaGreat
open Go.RowKit

set_option maxRecDepth 100000 in
set_option maxHeartbeats 1000000 in
theorem specGood_is (s l c sh : Int) (A : Option Addr) (n cap : Nat) (zs : List Int) (ck ch ct cq cv : Int) (P : Option Addr) (m pcap : Nat) (ps : List (Int × Int)) (w : World) (hm : n ≤ maxLen) (hr : Row w w.heap.size A n zs) (hn : m ≤ 4194304) (h : Pairs w w.heap.size P m ps) :
    Calls Tryz.prog 220 #[.agg #[.int .i64 s, .int .i64 l, .int .i64 c, .int .i64 sh, .slice A n cap], .agg #[.int .i64 ck, .int .i64 ch, .int .i64 ct, .int .i64 cq, .int .i64 cv], .slice P m pcap] w (Gives w (goodP (rB s l c sh zs ck ch ct cq cv) ps)) := by
  have E0 := bel_trans (bel_trans (bel_alloc w (.cells #[.int .i64 s, .int .i64 l, .int .i64 c, .int .i64 sh, .slice A n cap] 26)) (bel_alloc _ (.cells #[.int .i64 ck, .int .i64 ch, .int .i64 ct, .int .i64 cq, .int .i64 cv] 180))) (bel_alloc _ (.cells #[] 136))
  have DG := ((Box.new w 26 #[.int .i64 s, .int .i64 l, .int .i64 c, .int .i64 sh, .slice A n cap]).alloc (.cells #[.int .i64 ck, .int .i64 ch, .int .i64 ct, .int .i64 cq, .int .i64 cv] 180)).alloc (.cells #[] 136)
  have DC := (Box.new (w.alloc (.cells #[.int .i64 s, .int .i64 l, .int .i64 c, .int .i64 sh, .slice A n cap] 26)) 180 #[.int .i64 ck, .int .i64 ch, .int .i64 ct, .int .i64 cq, .int .i64 cv]).alloc (.cells #[] 136)
  simp only [World.size_alloc] at DC
  have HR := Lib.hid hr
  have HM := Lib.hid hm
  have HP := Lib.hid h
  have hl := Lib.hid h.1
  clear h hr hm
  generalize hR : rB s l c sh zs ck ch ct cq cv = R
  have HRR := Lib.hid hR
  clear hR
  go_enter Tryz.func220, Tryz.ntmps220
  go_wp2_with fail
  generalize (((w.alloc _).alloc _).alloc _ : World) = w1 at E0 DG DC ⊢
  go_loopw [7, 8] (fun ov iv wr => ∃ (k q c' : Nat) (L : List (Int × Int)), k ≤ m ∧ iv = .int .i64 k ∧ ov = .slice (some ⟨q, 0, none⟩) L.length c' ∧ L = goodP R (ps.take k) ∧ Pairs wr wr.heap.size (some ⟨q, 0, none⟩) L.length L ∧ Below w.heap.size w wr ∧ Box wr w.heap.size 26 #[.int .i64 s, .int .i64 l, .int .i64 c, .int .i64 sh, .slice A n cap] ∧ Box wr (w.heap.size + 1) 180 #[.int .i64 ck, .int .i64 ch, .int .i64 ct, .int .i64 cq, .int .i64 cv]) (fun _ i _ => m - (intOf i).toNat)
  case atStart => exact ⟨0, _, 0, [], Nat.zero_le _, rfl, rfl, by simp [goodP_nil], ⟨rfl, fun h => absurd h (by simp)⟩, E0, DG, DC⟩
  case round =>
    obtain ⟨k, q, c', L, hk, rfl, rfl, hL, hp, hbel, DG, DC⟩ := hrel
    by_cases hlt : k < m
    · have hlt' : (k : Int) < (m : Int) := by omega
      obtain ⟨b, o, hA, hbB, hcell⟩ := HP.out.2 (by omega)
      subst hA
      obtain ⟨c0, c1⟩ := hcell k hlt
      replace c0 := (hbel.cell (p := ⟨b, o + k * 2, none⟩) hbB).trans c0
      replace c1 := (hbel.cell (p := ⟨b, o + k * 2 + 1, none⟩) hbB).trans c1
      have hyes := Lib.hid (goodP_yes (R := R) (ps := ps) (k := k) (by rw [hl.out]; exact hlt))
      have hno := Lib.hid (goodP_no (R := R) (ps := ps) (k := k) (by rw [hl.out]; exact hlt))
      rw [← hL] at hyes hno
      have hLl : L.length ≤ 4194304 := by
        rw [hL]
        have := goodP_le R (ps.take k)
        rw [List.length_take] at this
        omega
      generalize hy : pth ps k = y at c0 c1 hyes hno
      obtain ⟨y, y'⟩ := y
      replace hL := Lib.hid hL
      replace hy := Lib.hid hy
      have hbl : b < wr.heap.size := Nat.lt_of_lt_of_le hbB hbel.size
      have g0 := After.cell (by exact hbl) c0
      have g1 := After.cell (by exact hbl) c1
      obtain ⟨f0, f1, f2, f3, f4⟩ := fiveAfter DG
      obtain ⟨f5, f6, f7, f8, f9⟩ := fiveAfter DC
      have hrow := Lib.hid ((HR.out.below hbel (Nat.le_refl _)).more hbel.size)
      have HDG := Lib.hid DG
      have HDC := Lib.hid DC
      have HPL := Lib.hid hp
      clear hcell c0 c1 DG DC hp
      rcases hRy : R (y, y') with _ | _
      · have HY : Hid (rB s l c sh zs ck ch ct cq cv (y, y') = false) := by rw [HRR.out]; exact hRy
        replace hno := Lib.hid (hno.out hRy)
        clear hRy
        go_wp2_with fail
        refine wp_region_after (by kernel_rfl) (by kernel_rfl) ?_
        repeat (first | go_big_quiet_step ((go_at_call 237; exact after_of (specRightB_is HY.out _ n cap _ HM.out (rowAfter hrow.out _)))) | quiet_step ((go_at_call 237; exact after_of (specRightB_is HY.out _ n cap _ HM.out (rowAfter hrow.out _)))))
        refine wpQuiet_nil ?_
        intro pw
        have E2 := bel_trans hbel pw.bel
        have DG := HDG.out.later pw.bel HDG.out.lt
        have DC := HDC.out.later pw.bel HDC.out.lt
        have hp := Lib.hid (HPL.out.later pw.bel)
        clear g0 g1 f0 f1 f2 f3 f4 f5 f6 f7 f8 f9
        go_wp2
        go_roundw
        case rel => exact ⟨k + 1, q, c', L, by omega, by go_num, rfl, hno.out.symm, hp.out, E2, DG, DC⟩
        case measure => simp [intOf]; omega
      · have HY : Hid (rB s l c sh zs ck ch ct cq cv (y, y') = true) := by rw [HRR.out]; exact hRy
        replace hyes := Lib.hid (hyes.out hRy)
        clear hRy
        go_wp2_with fail
        refine wp_region_after (by kernel_rfl) (by kernel_rfl) ?_
        repeat (first | go_big_quiet_step ((go_at_call 237; exact after_of (specRightB_is HY.out _ n cap _ HM.out (rowAfter hrow.out _)))) | quiet_step ((go_at_call 237; exact after_of (specRightB_is HY.out _ n cap _ HM.out (rowAfter hrow.out _)))))
        refine wpQuiet_nil ?_
        intro pw
        have E2 := bel_trans hbel pw.bel
        have DG := HDG.out.later pw.bel HDG.out.lt
        have DC := HDC.out.later pw.bel HDC.out.lt
        have hp := HPL.out.later pw.bel
        have d0 := g0 pw
        have d1 := g1 pw
        clear g0 g1 f0 f1 f2 f3 f4 f5 f6 f7 f8 f9 HDG HDC HPL
        generalize pw.x = w2 at E2 DG DC hp d0 d1 ⊢
        go_wp2_with fail
        refine (put_is q c' L y y' w2 hLl hp).mono ?_
        rintro e w3 ⟨g', c'', rfl, hp', hb'⟩
        replace hp' := Lib.hid hp'
        have DG' := DG.later hb' DG.lt
        have DC' := DC.later hb' DC.lt
        go_wp2
        go_roundw
        case rel => exact ⟨k + 1, g', c'', put L (y, y'), by omega, by go_num, rfl, hyes.out.symm, hp'.out, bel_trans E2 hb', DG', DC'⟩
        case measure => simp [intOf]; omega
    · obtain rfl : k = m := by omega
      rw [← hl.out, List.take_length] at hL
      replace hL := Lib.hid hL
      replace hp := Lib.hid hp
      go_wp2
      go_ret
      rw [← hL.out]
      exact ⟨q, c', rfl, hp.out, hbel⟩

theorem specCount_is (s l c sh : Int) (A : Option Addr) (n cap : Nat) (zs : List Int) (ck ch ct cq cv : Int) (P : Option Addr) (m pcap : Nat) (ps : List (Int × Int)) (w : World) (hm : n ≤ maxLen) (hr : Row w w.heap.size A n zs) (hn : m ≤ 4194304) (h : Pairs w w.heap.size P m ps) :
    Calls Tryz.prog 228 #[.agg #[.int .i64 s, .int .i64 l, .int .i64 c, .int .i64 sh, .slice A n cap], .agg #[.int .i64 ck, .int .i64 ch, .int .i64 ct, .int .i64 cq, .int .i64 cv], .slice P m pcap] w fun e w' => e = .returned (.int .i64 (cntN s l c sh zs ck ch ct cq cv ps)) ∧ Below w.heap.size w w' := by
  have E0 := bel_trans (bel_alloc w (.cells #[.int .i64 s, .int .i64 l, .int .i64 c, .int .i64 sh, .slice A n cap] 26)) (bel_alloc _ (.cells #[.int .i64 ck, .int .i64 ch, .int .i64 ct, .int .i64 cq, .int .i64 cv] 180))
  have DG := (Box.new w 26 #[.int .i64 s, .int .i64 l, .int .i64 c, .int .i64 sh, .slice A n cap]).alloc (.cells #[.int .i64 ck, .int .i64 ch, .int .i64 ct, .int .i64 cq, .int .i64 cv] 180)
  have DC := Box.new (w.alloc (.cells #[.int .i64 s, .int .i64 l, .int .i64 c, .int .i64 sh, .slice A n cap] 26)) 180 #[.int .i64 ck, .int .i64 ch, .int .i64 ct, .int .i64 cq, .int .i64 cv]
  simp only [World.size_alloc] at DC
  have HR := Lib.hid hr
  have HM := Lib.hid hm
  have HP := Lib.hid h
  have hle := goodP_le (rB s l c sh zs ck ch ct cq cv) ps
  have hl := h.1
  obtain ⟨K, hK⟩ : ∃ K, K = (goodP (rB s l c sh zs ck ch ct cq cv) ps).length := ⟨_, rfl⟩
  have hKn : K ≤ 4194304 := by omega
  replace hK := Lib.hid hK
  clear h hr hm hle hl
  obtain ⟨d0, d1, d2, d3, d4, x0, x1, x2, x3, x4⟩ := ten DG DC
  go_enter Tryz.func228, Tryz.ntmps228
  go_wp2_with fail
  generalize ((w.alloc _).alloc _ : World) = w1 at E0 DG DC d0 d1 d2 d3 d4 x0 x1 x2 x3 x4 ⊢
  refine (specGood_is s l c sh A n cap zs ck ch ct cq cv P m pcap ps w1 HM.out ((HR.out.below E0 (Nat.le_refl _)).more E0.size) hn (HP.out.later E0)).mono ?_
  rintro e w2 ⟨q, c', rfl, _, hb⟩
  rw [← hK.out]
  have E2 := bel_trans E0 hb
  go_wp2
  go_ret
  exact ⟨by unfold cntN; rw [← hK.out]; rfl, E2⟩

end Go.Proofs.YtjdepjpjjgkmbaaGreat
