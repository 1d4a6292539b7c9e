/- Words of these proofs: worlds that come after one another, boxes, rows of int64, and what the functions of chapter 1 compute; no conditions. -/
import Derived.Below
import Derived.Lib.Hide
import Derived.Laws.World
import Derived.Laws.Rows
import Derived.Laws.OwnMore
import Derived.Deep.Draws
import Derived.Deep.OwnRows
import Derived.Deep.QuietTactic
import Derived.BigQuiet
import Derived.Laws.AppendOwn
import Derived.Laws.BitsAllLaws
import Derived.Laws.BitsLemmas
import Derived.Test.YtjdepjpjjgkmbaaGreatChecked
import Derived.WalkKit
import Derived.OwnWalk
import Derived.Outline
import Derived.Deep.RegionHeld3
import Derived.Deep.DeepCutAuto
import Derived.Laws.EntriesVeiled
import Derived.IntWalk
namespace Go.Proofs.YtjdepjpjjgkmbaaGreat
open Go.RowKit

/-- Is x from lo to hi? -/
def inB (x lo hi : Int) : Bool := decide (lo ≤ x) && decide (x ≤ hi)
theorem inB_true {x lo hi : Int} : inB x lo hi = true ↔ lo ≤ x ∧ x ≤ hi := by simp [inB]
theorem inB_false {x lo hi : Int} : inB x lo hi = false ↔ ¬ (lo ≤ x ∧ x ≤ hi) := by rw [← inB_true]; simp

/-- Each key from 1 to a million. -/
def keysB (zs : List Int) : Bool := zs.all fun z => inB z 1 1000000

/-- A group that is right. -/
def okB (s l c sh : Int) (zs : List Int) : Bool :=
  inB s 1 10 && inB c 1 6 && inB sh 1 4 && inB l 0 ((s - 1) / 3) && decide ((zs.length : Int) = s + c) && keysB zs

/-- The number at place i (0 past the end). -/
def nth (zs : List Int) (i : Nat) : Int := zs.getD i 0
theorem nth_lt {zs : List Int} {i : Nat} (h : i < zs.length) : nth zs i = zs[i] := by simp [nth, h]

/-- The slice of n int64 at A holds the numbers zs, in blocks below B. -/
def Row (w : World) (B : Nat) (A : Option Addr) (n : Nat) (zs : List Int) : Prop :=
  zs.length = n ∧ (0 < n → ∃ b o, A = some ⟨b, o, none⟩ ∧ b < B ∧ ∀ i, i < n → w.cell? ⟨b, o + i, none⟩ = some (.int .i64 (nth zs i)))

theorem Row.keep {w w' : World} {B : Nat} {A : Option Addr} {n : Nat} {zs : List Int} (h : Row w B A n zs)
    (hk : ∀ p : Addr, p.block < B → w'.cell? p = w.cell? p) : Row w' B A n zs := by
  refine ⟨h.1, fun hn => ?_⟩
  obtain ⟨b, o, hA, hb, hc⟩ := h.2 hn
  exact ⟨b, o, hA, hb, fun i hi => by rw [hk ⟨b, o + i, none⟩ hb]; exact hc i hi⟩

theorem Row.below {w w' : World} {B C : Nat} {A : Option Addr} {n : Nat} {zs : List Int} (h : Row w B A n zs) (hb : Below C w w') (hBC : B ≤ C) : Row w' B A n zs :=
  h.keep fun _ hp => hb.cell (Nat.lt_of_lt_of_le hp hBC)

theorem Row.more {w : World} {B C : Nat} {A : Option Addr} {n : Nat} {zs : List Int} (h : Row w B A n zs) (hBC : B ≤ C) : Row w C A n zs := by
  refine ⟨h.1, fun hn => ?_⟩
  obtain ⟨b, o, hA, hb, hc⟩ := h.2 hn
  exact ⟨b, o, hA, by omega, hc⟩

theorem bcell {W w1 : World} {B : Nat} (hb : Below B W w1) : (∀ b o, b < B → w1.cell? ⟨b, o, none⟩ = W.cell? ⟨b, o, none⟩) ∧ (∀ b o, b < B → w1.frozen? ⟨b, o, none⟩ = W.frozen? ⟨b, o, none⟩) :=
  ⟨fun b o h => hb.cell (p := ⟨b, o, none⟩) h, fun b o h => hb.frozen (p := ⟨b, o, none⟩) h⟩

theorem bel_trans {a b c : World} (h : Below a.heap.size a b) (k : Below b.heap.size b c) : Below a.heap.size a c := h.trans (k.mono h.size)
theorem bel_alloc (w : World) (o : Obj) : Below w.heap.size w (w.alloc o) := (Below.refl _ _).alloc (Nat.le_refl _) _
theorem bel_drew {a b : World} (h : Below a.heap.size a b) : Below a.heap.size a b.drew := h.drew
theorem bel_drew' {a b : World} (h : Below a.drew.heap.size a.drew b) : Below a.heap.size a b := ⟨h.os, h.tape, h.output, h.size, h.block⟩


/-- Block g is just these cells, none frozen. -/
def Box (w : World) (g : Nat) (t : TypeId) (cs : Array Value) : Prop := w.heap[g]? = some (.cells cs t)
theorem Box.new (w : World) (t : TypeId) (cs : Array Value) : Box (w.alloc (.cells cs t)) w.heap.size t cs := heap_alloc_new w _
theorem Box.lt {w : World} {g : Nat} {t : TypeId} {cs : Array Value} (h : Box w g t cs) : g < w.heap.size := by
  rcases Nat.lt_or_ge g w.heap.size with hlt | hge
  · exact hlt
  · unfold Box at h; rw [Array.getElem?_eq_none hge] at h; cases h
theorem Box.cell {w : World} {g : Nat} {t : TypeId} {cs : Array Value} (h : Box w g t cs) (i : Nat) : w.cell? ⟨g, i, none⟩ = cs[i]? := cell_of_row w g i cs t (0, 0) h
theorem Box.frozen {w : World} {g : Nat} {t : TypeId} {cs : Array Value} (h : Box w g t cs) (i : Nat) : w.frozen? ⟨g, i, none⟩ = false := by
  unfold Box at h
  simp [World.frozen?, h]
theorem Box.later {w w' : World} {B g : Nat} {t : TypeId} {cs : Array Value} (h : Box w g t cs) (hb : Below B w w') (hg : g < B) : Box w' g t cs := (hb.block g hg).trans h
theorem Box.alloc {w : World} {g : Nat} {t : TypeId} {cs : Array Value} (h : Box w g t cs) (o : Obj) : Box (w.alloc o) g t cs := h.later (bel_alloc w o) h.lt

theorem size_set (w : World) (p : Addr) (u : Value) : (w.setCell p u).heap.size = w.heap.size := by simp [World.setCell]
theorem Row.set {w : World} {g o n : Nat} {zs : List Int} (h : Row w w.heap.size (some ⟨g, o, none⟩) n zs) {p : Addr} (hp : p.block ≠ g) (u : Value) :
    Row (w.setCell p u) (w.setCell p u).heap.size (some ⟨g, o, none⟩) n zs := by
  refine ⟨h.1, fun hn => ?_⟩
  obtain ⟨b, o', hA, hb, hc⟩ := h.2 hn
  cases hA
  exact ⟨_, _, rfl, by rw [size_set]; exact hb, fun i hi => by rw [World.cell?_setCell_other _ _ _ _ (fun e => hp (by rw [e]))]; exact hc i hi⟩


theorem Box.five {w : World} {g : Nat} {t : TypeId} {v0 v1 v2 v3 v4 : Value} (h : Box w g t #[v0, v1, v2, v3, v4]) :
    w.cell? ⟨g, 0, none⟩ = some v0 ∧ w.cell? ⟨g, 1, none⟩ = some v1 ∧ w.cell? ⟨g, 2, none⟩ = some v2 ∧ w.cell? ⟨g, 3, none⟩ = some v3 ∧ w.cell? ⟨g, 4, none⟩ = some v4 :=
  ⟨h.cell 0, h.cell 1, h.cell 2, h.cell 3, h.cell 4⟩

theorem ten {w : World} {g g' : Nat} {t t' : TypeId} {v0 v1 v2 v3 v4 u0 u1 u2 u3 u4 : Value} (h : Box w g t #[v0, v1, v2, v3, v4]) (h' : Box w g' t' #[u0, u1, u2, u3, u4]) :
    w.cell? ⟨g, 0, none⟩ = some v0 ∧ w.cell? ⟨g, 1, none⟩ = some v1 ∧ w.cell? ⟨g, 2, none⟩ = some v2 ∧ w.cell? ⟨g, 3, none⟩ = some v3 ∧ w.cell? ⟨g, 4, none⟩ = some v4 ∧
    w.cell? ⟨g', 0, none⟩ = some u0 ∧ w.cell? ⟨g', 1, none⟩ = some u1 ∧ w.cell? ⟨g', 2, none⟩ = some u2 ∧ w.cell? ⟨g', 3, none⟩ = some u3 ∧ w.cell? ⟨g', 4, none⟩ = some u4 :=
  ⟨h.cell 0, h.cell 1, h.cell 2, h.cell 3, h.cell 4, h'.cell 0, h'.cell 1, h'.cell 2, h'.cell 3, h'.cell 4⟩


theorem bel_drewN {a b : World} (h : Below a.heap.size a b) (n : Nat) : Below a.heap.size a (b.drewN n) := ⟨h.os, h.tape, h.output, h.size, h.block⟩


theorem keysB_false {zs : List Int} {k : Nat} (hk : k < zs.length) (h : inB (nth zs k) 1 1000000 = false) : keysB zs = false := by
  unfold keysB
  rw [List.all_eq_false]
  refine ⟨zs[k], List.getElem_mem hk, ?_⟩
  rw [nth_lt hk] at h
  simp [h]
theorem keysB_true {zs : List Int} (h : ∀ j, j < zs.length → inB (nth zs j) 1 1000000 = true) : keysB zs = true := by
  unfold keysB
  rw [List.all_eq_true]
  intro x hx
  obtain ⟨j, hj, rfl⟩ := List.getElem_of_mem hx
  have := h j hj
  rwa [nth_lt hj] at this

/-- What QuorumOf answers. -/
def quoN (s l c sh : Int) (zs : List Int) : Int := if okB s l c sh zs then (s + l) / 2 + 1 else -1
/-- What IsServer answers. -/
def srvB (s l c sh : Int) (zs : List Int) (x : Int) : Bool := okB s l c sh zs && inB x 0 (s - 1)
/-- What IsClient answers. -/
def cliB (s l c sh : Int) (zs : List Int) (x : Int) : Bool := okB s l c sh zs && inB x s (s + c - 1)

theorem okB_parts {s l c sh : Int} {zs : List Int} (h : okB s l c sh zs = true) : 1 ≤ s ∧ s ≤ 10 ∧ 1 ≤ c ∧ c ≤ 6 ∧ 0 ≤ l ∧ l ≤ (s - 1) / 3 := by
  simp only [okB, Bool.and_eq_true] at h
  obtain ⟨⟨⟨⟨⟨h1, h2⟩, _⟩, h4⟩, _⟩, _⟩ := h
  have a := inB_true.1 h1
  have b := inB_true.1 h2
  have d := inB_true.1 h4
  exact ⟨a.1, a.2, b.1, b.2, d.1, d.2⟩

end Go.Proofs.YtjdepjpjjgkmbaaGreat

/- One walk serves a region that draws its order, where its operations read old memory only and its calls answer plain values and make memory of their own; no conditions. -/
namespace Go.Proofs.YtjdepjpjjgkmbaaGreat
open Go.RowKit

/-- A world that has come after w: old memory is as it was. -/
structure After (w : World) where
  x : World
  bel : Below w.heap.size w x
instance afterSome (w : World) : Nonempty (After w) := ⟨⟨w, Below.refl _ _⟩⟩

theorem wp_region_after {P : Program} {id : Nat} {Q : Exit → Act → World → Prop} {a : Act} {w : World} {l : List Oper} (hm : P.follows .mixedOrders = true) (hB : Region.lexB .any l.toArray = true)
    (h : wpQuiet P l.toArray (fun w' => ∃ p : After w, w' = p.x) (fun a' => ∀ p : After w, Q .normal a' p.x) l a) : (Code.region id l.toArray true).wp P Q a w :=
  wp_region_quiet (C := fun w' => ∃ p : After w, w' = p.x) hm hB ⟨⟨w.drew, (Below.refl _ _).drew⟩, rfl⟩ (by
    have e : (fun a' => ∀ p : After w, Q .normal a' p.x) = (fun a' => ∀ w', (∃ p : After w, w' = p.x) → Q .normal a' w') := by
      funext a'
      exact propext ⟨fun h w' ⟨p, hp⟩ => hp ▸ h p, fun h p => h _ ⟨p, rfl⟩⟩
    rw [e] at h
    simpa using h)

theorem After.cell {w : World} {a : Addr} {v : Value} (hb : a.block < w.heap.size) (h : w.cell? a = some v) : ∀ p : After w, p.x.cell? a = some v := fun p => by
  rw [p.bel.cell (hb)]; exact h

/-- A callee that makes memory of its own, met in such a world. -/
theorem after_of {P : Program} {f : FuncId} {args : Array Value} {w : World} {p : After w} {v : Value}
    (h : Calls P f args p.x fun e w' => e = .returned v ∧ Below p.x.heap.size p.x w') : Calls P f args p.x fun e w'' => e = .returned v ∧ ∃ q : After w, w'' = q.x :=
  h.mono fun _ w' ⟨he, hb⟩ => ⟨he, ⟨w', p.bel.trans (hb.mono p.bel.size)⟩, rfl⟩
theorem after_same {P : Program} {f : FuncId} {args : Array Value} {w : World} {p : After w} {v : Value}
    (h : Calls P f args p.x fun e w' => e = .returned v ∧ p.x = w') : Calls P f args p.x fun e w'' => e = .returned v ∧ ∃ q : After w, w'' = q.x :=
  h.mono fun _ _ ⟨he, hb⟩ => ⟨he, p, hb.symm⟩

theorem fiveAfter {w : World} {g : Nat} {t : TypeId} {v0 v1 v2 v3 v4 : Value} (h : Box w g t #[v0, v1, v2, v3, v4]) :
    (∀ p : After w, p.x.cell? ⟨g, 0, none⟩ = some v0) ∧ (∀ p : After w, p.x.cell? ⟨g, 1, none⟩ = some v1) ∧ (∀ p : After w, p.x.cell? ⟨g, 2, none⟩ = some v2) ∧ (∀ p : After w, p.x.cell? ⟨g, 3, none⟩ = some v3) ∧ (∀ p : After w, p.x.cell? ⟨g, 4, none⟩ = some v4) :=
  ⟨After.cell h.lt (h.cell 0), After.cell h.lt (h.cell 1), After.cell h.lt (h.cell 2), After.cell h.lt (h.cell 3), After.cell h.lt (h.cell 4)⟩
theorem rowAfter {w : World} {A : Option Addr} {n : Nat} {zs : List Int} (h : Row w w.heap.size A n zs) (p : After w) : Row p.x p.x.heap.size A n zs := (h.below p.bel (Nat.le_refl _)).more p.bel.size


end Go.Proofs.YtjdepjpjjgkmbaaGreat

/- Words for the cursors of the laws' draws: bytes that can be read, a cursor over them, and what a draw leaves; no conditions. -/
namespace Go.Proofs.YtjdepjpjjgkmbaaGreat
open Go.RowKit

/-- The slice of n bytes at A can be read, in blocks below B. -/
def Bytes (w : World) (B : Nat) (A : Option Addr) (n : Nat) : Prop :=
  0 < n → ∃ b o, A = some ⟨b, o, none⟩ ∧ b < B ∧ ∀ i, i < n → ∃ z : Int, 0 ≤ z ∧ z ≤ 255 ∧ w.cell? ⟨b, o + i, none⟩ = some (.int .u8 z)

theorem Bytes.keep {w w' : World} {B : Nat} {A : Option Addr} {n : Nat} (h : Bytes w B A n) (hk : ∀ p : Addr, p.block < B → w'.cell? p = w.cell? p) : Bytes w' B A n := fun hn => by
  obtain ⟨b, o, hA, hb, hc⟩ := h hn
  refine ⟨b, o, hA, hb, fun i hi => ?_⟩
  obtain ⟨z, h0, h1, hz⟩ := hc i hi
  exact ⟨z, h0, h1, by rw [hk ⟨b, o + i, none⟩ hb]; exact hz⟩
theorem Bytes.more {w : World} {B C : Nat} {A : Option Addr} {n : Nat} (h : Bytes w B A n) (hBC : B ≤ C) : Bytes w C A n := fun hn => by
  obtain ⟨b, o, hA, hb, hc⟩ := h hn
  exact ⟨b, o, hA, by omega, hc⟩
theorem Bytes.below {w w' : World} {B C : Nat} {A : Option Addr} {n : Nat} (h : Bytes w B A n) (hb : Below C w w') (hBC : B ≤ C) : Bytes w' B A n := h.keep fun _ hp => hb.cell (Nat.lt_of_lt_of_le hp hBC)

/-- A cursor over the n bytes at A lies in block g: at most all of them have been taken. -/
def Cur (w : World) (t : TypeId) (k : IntKind) (g : Nat) (A : Option Addr) (n cap : Nat) : Prop :=
  n ≤ 4096 ∧ Bytes w g A n ∧ ∃ i h : Int, 0 ≤ i ∧ i ≤ n ∧ Box w g t #[.slice A n cap, .int .i64 i, .int k h]

theorem Cur.lt {w : World} {t : TypeId} {k : IntKind} {g : Nat} {A : Option Addr} {n cap : Nat} (h : Cur w t k g A n cap) : g < w.heap.size := by
  obtain ⟨_, _, _, _, _, _, hb⟩ := h
  exact hb.lt

theorem grown_refl (w : World) (r : Option Nat) : w.grownBy w r := ⟨rfl, rfl, rfl, Nat.le_refl _, fun _ _ _ => rfl⟩
theorem grown_trans {a b c : World} {r : Option Nat} (h : a.grownBy b r) (k : b.grownBy c r) : a.grownBy c r :=
  ⟨k.os.trans h.os, k.tape.trans h.tape, k.output.trans h.output, Nat.le_trans h.size k.size, fun i hi hne => (k.block i (Nat.lt_of_lt_of_le hi h.size) hne).trans (h.block i hi hne)⟩
theorem grown_drewN {a b : World} {r : Option Nat} (h : a.grownBy b r) (n : Nat) : a.grownBy (b.drewN n) r := ⟨h.os, h.tape, h.output, h.size, h.block⟩
theorem grown_drew {a b : World} {r : Option Nat} (h : a.grownBy b r) : a.grownBy b.drew r := ⟨h.os, h.tape, h.output, h.size, h.block⟩
theorem grown_set {a b : World} {g : Nat} (h : a.grownBy b (some g)) (i : Nat) (u : Value) : a.grownBy (b.setCell ⟨g, i, none⟩ u) (some g) :=
  ⟨h.os, h.tape, h.output, by rw [size_set]; exact h.size, fun k hk hne => (Below.heap_setCell b ⟨g, i, none⟩ u k (fun e => hne (by rw [e]))).trans (h.block k hk hne)⟩
theorem grown5 (w : World) (R : Nat) (v0 v1 v2 v3 v4 : Value) :
    w.grownBy (((((w.setCell ⟨R, 0, none⟩ v0).setCell ⟨R, 1, none⟩ v1).setCell ⟨R, 2, none⟩ v2).setCell ⟨R, 3, none⟩ v3).setCell ⟨R, 4, none⟩ v4) (some R) :=
  grown_set (grown_set (grown_set (grown_set (grown_set (grown_refl w (some R)) 0 v0) 1 v1) 2 v2) 3 v3) 4 v4
theorem grown_new {a b : World} {r : Option Nat} (h : a.grownBy b r) {p : Addr} (hp : a.heap.size ≤ p.block) (u : Value) : a.grownBy (b.setCell p u) r :=
  ⟨h.os, h.tape, h.output, by rw [size_set]; exact h.size, fun k hk hne => (Below.heap_setCell b p u k (fun e => by omega)).trans (h.block k hk hne)⟩
theorem grown_bel {a b : World} (h : Below a.heap.size a b) (r : Option Nat) : a.grownBy b r := ⟨h.os, h.tape, h.output, h.size, fun k hk _ => h.block k hk⟩
theorem grown_alloc {a b : World} {r : Option Nat} (h : a.grownBy b r) (o : Obj) : a.grownBy (b.alloc o) r := grown_trans h (grown_bel (bel_alloc b o) r)
theorem grown_far {a b c : World} {r r' : Option Nat} (h : a.grownBy b r) (k : b.grownBy c r') (hr : ∀ q, r' = some q → a.heap.size ≤ q) : a.grownBy c r :=
  ⟨k.os.trans h.os, k.tape.trans h.tape, k.output.trans h.output, Nat.le_trans h.size k.size, fun i hi hne => (k.block i (Nat.lt_of_lt_of_le hi h.size) (fun e => by have := hr _ e.symm; omega)).trans (h.block i hi hne)⟩
theorem bel_grown {a b c : World} {g : Nat} (h : Below a.heap.size a b) (k : b.grownBy c (some g)) (hg : a.heap.size ≤ g) : Below a.heap.size a c :=
  h.grown k h.size (fun r hr => by injection hr with hr; omega)

theorem Box.kept {w w' : World} {g : Nat} {t : TypeId} {cs : Array Value} {r : Option Nat} (h : Box w g t cs) (hg : w.grownBy w' r) (hne : r ≠ some g) : Box w' g t cs := (hg.block g h.lt (fun e => hne e.symm)).trans h
theorem Box.set {w : World} {g : Nat} {t : TypeId} {cs : Array Value} (h : Box w g t cs) (i : Nat) (u : Value) : Box (w.setCell ⟨g, i, none⟩ u) g t (cs.setIfInBounds i u) := by
  unfold Box at h ⊢
  simp [World.setCell, Array.getElem?_modify, h]
theorem Box.far {w : World} {g : Nat} {t : TypeId} {cs : Array Value} (h : Box w g t cs) {p : Addr} (hp : p.block ≠ g) (u : Value) : Box (w.setCell p u) g t cs := (Below.heap_setCell w p u g (fun e => hp e.symm)).trans h
theorem Box.three {w : World} {g : Nat} {t : TypeId} {v0 v1 v2 : Value} (h : Box w g t #[v0, v1, v2]) : w.cell? ⟨g, 0, none⟩ = some v0 ∧ w.cell? ⟨g, 1, none⟩ = some v1 ∧ w.cell? ⟨g, 2, none⟩ = some v2 := ⟨h.cell 0, h.cell 1, h.cell 2⟩

theorem Bytes.kept {w w' : World} {B : Nat} {A : Option Addr} {n : Nat} {r : Option Nat} (h : Bytes w B A n) (hg : w.grownBy w' r) (hB : B ≤ w.heap.size) (hr : ∀ k, r = some k → B ≤ k) : Bytes w' B A n :=
  h.keep fun p hp => World.cell?_of_block (hg.block p.block (by omega) (fun e => by have := hr _ e.symm; omega))
theorem Bytes.set {w : World} {g : Nat} {A : Option Addr} {n : Nat} (h : Bytes w g A n) (i : Nat) (u : Value) : Bytes (w.setCell ⟨g, i, none⟩ u) g A n :=
  h.keep fun p hp => World.cell?_setCell_other _ _ _ _ (fun e => by rw [← e] at hp; exact absurd hp (Nat.lt_irrefl _))
theorem Bytes.drewN {w : World} {B : Nat} {A : Option Addr} {n : Nat} (h : Bytes w B A n) (k : Nat) : Bytes (w.drewN k) B A n := h
theorem Box.drewN {w : World} {g : Nat} {t : TypeId} {cs : Array Value} (h : Box w g t cs) (k : Nat) : Box (w.drewN k) g t cs := h
/-- A cursor is as it was where other blocks, behind it, were written. -/
theorem Cur.kept {w w' : World} {t : TypeId} {k : IntKind} {g : Nat} {A : Option Addr} {n cap : Nat} {r : Option Nat} (h : Cur w t k g A n cap) (hg : w.grownBy w' r) (hr : ∀ q, r = some q → g < q) : Cur w' t k g A n cap := by
  have hl := h.lt
  obtain ⟨hn, hB, i, x, h0, h1, hb⟩ := h
  exact ⟨hn, hB.kept hg (by omega) (fun q hq => by have := hr q hq; omega), i, x, h0, h1, hb.kept hg (fun e => by have := hr g e; omega)⟩

/-- What a draw leaves: a number, the cursor further on, and nothing else that was there turned. -/
def Drawn (p : Int → Prop) (t : TypeId) (k : IntKind) (g : Nat) (A : Option Addr) (n cap : Nat) (w : World) (e : Ending) (w' : World) : Prop :=
  ∃ r : Int, p r ∧ e = .returned (.int .i64 r) ∧ Cur w' t k g A n cap ∧ w.grownBy w' (some g)

theorem Box.ints {w : World} {g : Nat} {t : TypeId} {zs : List Int} (h : Box w g t (zs.map (Value.int .i64)).toArray) {i : Nat} (hi : i < zs.length) : w.cell? ⟨g, i, none⟩ = some (.int .i64 (nth zs i)) := by
  rw [h.cell i, nth_lt hi]
  simp [hi]

/-- The low byte of whatever number. -/
theorem and_255 (a : Int) : 0 ≤ bits .and .i64 a 255 ∧ bits .and .i64 a 255 ≤ 255 := by
  have hx : (BitVec.ofInt 64 a &&& BitVec.ofInt 64 255).toNat ≤ 255 := by
    rw [BitVec.toNat_and]
    exact Nat.and_le_right
  have e : bits .and .i64 a 255 = IntKind.i64.wrap ((BitVec.ofInt 64 a &&& BitVec.ofInt 64 255).toNat : Int) := rfl
  rw [e, IntKind.wrap_i64]
  omega

end Go.Proofs.YtjdepjpjjgkmbaaGreat

/- Is a number from one to another: what the program's within and the model's l1In answer; no conditions. -/
namespace Go.Proofs.YtjdepjpjjgkmbaaGreat
open Go.RowKit

theorem within_any (x lo hi : Int) (w : World) :
    Calls Tryz.prog 143 #[.int .i64 x, .int .i64 lo, .int .i64 hi] w fun e w' => e = .returned (.bool (inB x lo hi)) ∧ w = w' := by
  by_cases h1 : lo ≤ x
  · by_cases h2 : x ≤ hi
    · have e : inB x lo hi = true := inB_true.2 ⟨h1, h2⟩
      rw [e]
      go_enter Tryz.func143, Tryz.ntmps143
      go_wp2
      go_ret
      exact ⟨rfl, rfl⟩
    · have e : inB x lo hi = false := inB_false.2 (by omega)
      rw [e]
      go_enter Tryz.func143, Tryz.ntmps143
      go_wp2
      go_ret
      exact ⟨rfl, rfl⟩
  · have e : inB x lo hi = false := inB_false.2 (by omega)
    rw [e]
    go_enter Tryz.func143, Tryz.ntmps143
    go_wp2
    go_ret
    exact ⟨rfl, rfl⟩

theorem l1In_any (x lo hi : Int) (w : World) :
    Calls Tryz.prog 174 #[.int .i64 x, .int .i64 lo, .int .i64 hi] w fun e w' => e = .returned (.bool (inB x lo hi)) ∧ w = w' := by
  by_cases h1 : lo ≤ x
  · by_cases h2 : x ≤ hi
    · have e : inB x lo hi = true := inB_true.2 ⟨h1, h2⟩
      rw [e]
      go_enter Tryz.func174, Tryz.ntmps174
      go_wp2
      go_ret
      exact ⟨rfl, rfl⟩
    · have e : inB x lo hi = false := inB_false.2 (by omega)
      rw [e]
      go_enter Tryz.func174, Tryz.ntmps174
      go_wp2
      go_ret
      exact ⟨rfl, rfl⟩
  · have e : inB x lo hi = false := inB_false.2 (by omega)
    rw [e]
    go_enter Tryz.func174, Tryz.ntmps174
    go_wp2
    go_ret
    exact ⟨rfl, rfl⟩

end Go.Proofs.YtjdepjpjjgkmbaaGreat

/- What the laws' own big answers: are there more than 4096 bytes; no conditions. -/
namespace Go.Proofs.YtjdepjpjjgkmbaaGreat
open Go.RowKit

theorem big_any (A : Option Addr) (n cap : Nat) (w : World) (_hm : n ≤ maxLen) :
    Calls Tryz.prog 12 #[.slice A n cap] w fun e w' => e = .returned (.bool (decide (4096 < n))) ∧ w = w' := by
  unfold maxLen at _hm
  by_cases h : 4096 < n
  · have e : Hid (decide (4096 < n) = true) := by show decide (4096 < n) = true; simpa using h
    go_enter Tryz.func12, Tryz.ntmps12
    go_wp2
    go_ret
    exact ⟨by rw [e.out]; simp; omega, rfl⟩
  · have e : Hid (decide (4096 < n) = false) := by show decide (4096 < n) = false; simpa using h
    go_enter Tryz.func12, Tryz.ntmps12
    go_wp2
    go_ret
    exact ⟨by rw [e.out]; simp; omega, rfl⟩

end Go.Proofs.YtjdepjpjjgkmbaaGreat
