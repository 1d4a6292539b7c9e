/- Words of these proofs: worlds that come after one another, boxes, rows of int64, and what the functions of chapter 1 compute; no conditions. -/
import Derived.Below
import Derived.Lib.Hide
import Derived.Laws.World
import Derived.Laws.Rows
import Derived.Laws.OwnMore
import Derived.Deep.Draws
import Derived.Deep.OwnRows
namespace Go.Proofs.YtgjbebfcbpfngaaDoor
open Go.RowKit

/-- Is x from lo to hi? -/
def inB (x lo hi : Int) : Bool := decide (lo ≤ x) && decide (x ≤ hi)
theorem inB_true {x lo hi : Int} : inB x lo hi = true ↔ lo ≤ x ∧ x ≤ hi := by simp [inB]
theorem inB_false {x lo hi : Int} : inB x lo hi = false ↔ ¬ (lo ≤ x ∧ x ≤ hi) := by rw [← inB_true]; simp

/-- Each key from 1 to a million. -/
def keysB (zs : List Int) : Bool := zs.all fun z => inB z 1 1000000

/-- A group that is right. -/
def okB (s l c sh : Int) (zs : List Int) : Bool :=
  inB s 1 10 && inB c 1 6 && inB sh 1 4 && inB l 0 ((s - 1) / 3) && decide ((zs.length : Int) = s + c) && keysB zs

/-- The number at place i (0 past the end). -/
def nth (zs : List Int) (i : Nat) : Int := zs.getD i 0
theorem nth_lt {zs : List Int} {i : Nat} (h : i < zs.length) : nth zs i = zs[i] := by simp [nth, h]

/-- The slice of n int64 at A holds the numbers zs, in blocks below B. -/
def Row (w : World) (B : Nat) (A : Option Addr) (n : Nat) (zs : List Int) : Prop :=
  zs.length = n ∧ (0 < n → ∃ b o, A = some ⟨b, o, none⟩ ∧ b < B ∧ ∀ i, i < n → w.cell? ⟨b, o + i, none⟩ = some (.int .i64 (nth zs i)))

theorem Row.keep {w w' : World} {B : Nat} {A : Option Addr} {n : Nat} {zs : List Int} (h : Row w B A n zs)
    (hk : ∀ p : Addr, p.block < B → w'.cell? p = w.cell? p) : Row w' B A n zs := by
  refine ⟨h.1, fun hn => ?_⟩
  obtain ⟨b, o, hA, hb, hc⟩ := h.2 hn
  exact ⟨b, o, hA, hb, fun i hi => by rw [hk ⟨b, o + i, none⟩ hb]; exact hc i hi⟩

theorem Row.below {w w' : World} {B C : Nat} {A : Option Addr} {n : Nat} {zs : List Int} (h : Row w B A n zs) (hb : Below C w w') (hBC : B ≤ C) : Row w' B A n zs :=
  h.keep fun _ hp => hb.cell (Nat.lt_of_lt_of_le hp hBC)

theorem Row.more {w : World} {B C : Nat} {A : Option Addr} {n : Nat} {zs : List Int} (h : Row w B A n zs) (hBC : B ≤ C) : Row w C A n zs := by
  refine ⟨h.1, fun hn => ?_⟩
  obtain ⟨b, o, hA, hb, hc⟩ := h.2 hn
  exact ⟨b, o, hA, by omega, hc⟩

theorem bcell {W w1 : World} {B : Nat} (hb : Below B W w1) : (∀ b o, b < B → w1.cell? ⟨b, o, none⟩ = W.cell? ⟨b, o, none⟩) ∧ (∀ b o, b < B → w1.frozen? ⟨b, o, none⟩ = W.frozen? ⟨b, o, none⟩) :=
  ⟨fun b o h => hb.cell (p := ⟨b, o, none⟩) h, fun b o h => hb.frozen (p := ⟨b, o, none⟩) h⟩

theorem bel_trans {a b c : World} (h : Below a.heap.size a b) (k : Below b.heap.size b c) : Below a.heap.size a c := h.trans (k.mono h.size)
theorem bel_alloc (w : World) (o : Obj) : Below w.heap.size w (w.alloc o) := (Below.refl _ _).alloc (Nat.le_refl _) _
theorem bel_drew {a b : World} (h : Below a.heap.size a b) : Below a.heap.size a b.drew := h.drew
theorem bel_drew' {a b : World} (h : Below a.drew.heap.size a.drew b) : Below a.heap.size a b := ⟨h.os, h.tape, h.output, h.size, h.block⟩


/-- Block g is just these cells, none frozen. -/
def Box (w : World) (g : Nat) (t : TypeId) (cs : Array Value) : Prop := w.heap[g]? = some (.cells cs t)
theorem Box.new (w : World) (t : TypeId) (cs : Array Value) : Box (w.alloc (.cells cs t)) w.heap.size t cs := heap_alloc_new w _
theorem Box.lt {w : World} {g : Nat} {t : TypeId} {cs : Array Value} (h : Box w g t cs) : g < w.heap.size := by
  rcases Nat.lt_or_ge g w.heap.size with hlt | hge
  · exact hlt
  · unfold Box at h; rw [Array.getElem?_eq_none hge] at h; cases h
theorem Box.cell {w : World} {g : Nat} {t : TypeId} {cs : Array Value} (h : Box w g t cs) (i : Nat) : w.cell? ⟨g, i, none⟩ = cs[i]? := cell_of_row w g i cs t (0, 0) h
theorem Box.frozen {w : World} {g : Nat} {t : TypeId} {cs : Array Value} (h : Box w g t cs) (i : Nat) : w.frozen? ⟨g, i, none⟩ = false := by
  unfold Box at h
  simp [World.frozen?, h]
theorem Box.later {w w' : World} {B g : Nat} {t : TypeId} {cs : Array Value} (h : Box w g t cs) (hb : Below B w w') (hg : g < B) : Box w' g t cs := (hb.block g hg).trans h
theorem Box.alloc {w : World} {g : Nat} {t : TypeId} {cs : Array Value} (h : Box w g t cs) (o : Obj) : Box (w.alloc o) g t cs := h.later (bel_alloc w o) h.lt

theorem size_set (w : World) (p : Addr) (u : Value) : (w.setCell p u).heap.size = w.heap.size := by simp [World.setCell]
theorem Row.set {w : World} {g o n : Nat} {zs : List Int} (h : Row w w.heap.size (some ⟨g, o, none⟩) n zs) {p : Addr} (hp : p.block ≠ g) (u : Value) :
    Row (w.setCell p u) (w.setCell p u).heap.size (some ⟨g, o, none⟩) n zs := by
  refine ⟨h.1, fun hn => ?_⟩
  obtain ⟨b, o', hA, hb, hc⟩ := h.2 hn
  cases hA
  exact ⟨_, _, rfl, by rw [size_set]; exact hb, fun i hi => by rw [World.cell?_setCell_other _ _ _ _ (fun e => hp (by rw [e]))]; exact hc i hi⟩


theorem Box.five {w : World} {g : Nat} {t : TypeId} {v0 v1 v2 v3 v4 : Value} (h : Box w g t #[v0, v1, v2, v3, v4]) :
    w.cell? ⟨g, 0, none⟩ = some v0 ∧ w.cell? ⟨g, 1, none⟩ = some v1 ∧ w.cell? ⟨g, 2, none⟩ = some v2 ∧ w.cell? ⟨g, 3, none⟩ = some v3 ∧ w.cell? ⟨g, 4, none⟩ = some v4 :=
  ⟨h.cell 0, h.cell 1, h.cell 2, h.cell 3, h.cell 4⟩

theorem ten {w : World} {g g' : Nat} {t t' : TypeId} {v0 v1 v2 v3 v4 u0 u1 u2 u3 u4 : Value} (h : Box w g t #[v0, v1, v2, v3, v4]) (h' : Box w g' t' #[u0, u1, u2, u3, u4]) :
    w.cell? ⟨g, 0, none⟩ = some v0 ∧ w.cell? ⟨g, 1, none⟩ = some v1 ∧ w.cell? ⟨g, 2, none⟩ = some v2 ∧ w.cell? ⟨g, 3, none⟩ = some v3 ∧ w.cell? ⟨g, 4, none⟩ = some v4 ∧
    w.cell? ⟨g', 0, none⟩ = some u0 ∧ w.cell? ⟨g', 1, none⟩ = some u1 ∧ w.cell? ⟨g', 2, none⟩ = some u2 ∧ w.cell? ⟨g', 3, none⟩ = some u3 ∧ w.cell? ⟨g', 4, none⟩ = some u4 :=
  ⟨h.cell 0, h.cell 1, h.cell 2, h.cell 3, h.cell 4, h'.cell 0, h'.cell 1, h'.cell 2, h'.cell 3, h'.cell 4⟩


theorem bel_drewN {a b : World} (h : Below a.heap.size a b) (n : Nat) : Below a.heap.size a (b.drewN n) := ⟨h.os, h.tape, h.output, h.size, h.block⟩


theorem keysB_false {zs : List Int} {k : Nat} (hk : k < zs.length) (h : inB (nth zs k) 1 1000000 = false) : keysB zs = false := by
  unfold keysB
  rw [List.all_eq_false]
  refine ⟨zs[k], List.getElem_mem hk, ?_⟩
  rw [nth_lt hk] at h
  simp [h]
theorem keysB_true {zs : List Int} (h : ∀ j, j < zs.length → inB (nth zs j) 1 1000000 = true) : keysB zs = true := by
  unfold keysB
  rw [List.all_eq_true]
  intro x hx
  obtain ⟨j, hj, rfl⟩ := List.getElem_of_mem hx
  have := h j hj
  rwa [nth_lt hj] at this

/-- What QuorumOf answers. -/
def quoN (s l c sh : Int) (zs : List Int) : Int := if okB s l c sh zs then (s + l) / 2 + 1 else -1
/-- What IsServer answers. -/
def srvB (s l c sh : Int) (zs : List Int) (x : Int) : Bool := okB s l c sh zs && inB x 0 (s - 1)
/-- What IsClient answers. -/
def cliB (s l c sh : Int) (zs : List Int) (x : Int) : Bool := okB s l c sh zs && inB x s (s + c - 1)

theorem okB_parts {s l c sh : Int} {zs : List Int} (h : okB s l c sh zs = true) : 1 ≤ s ∧ s ≤ 10 ∧ 1 ≤ c ∧ c ≤ 6 ∧ 0 ≤ l ∧ l ≤ (s - 1) / 3 := by
  simp only [okB, Bool.and_eq_true] at h
  obtain ⟨⟨⟨⟨⟨h1, h2⟩, _⟩, h4⟩, _⟩, _⟩ := h
  have a := inB_true.1 h1
  have b := inB_true.1 h2
  have d := inB_true.1 h4
  exact ⟨a.1, a.2, b.1, b.2, d.1, d.2⟩

end Go.Proofs.YtgjbebfcbpfngaaDoor
