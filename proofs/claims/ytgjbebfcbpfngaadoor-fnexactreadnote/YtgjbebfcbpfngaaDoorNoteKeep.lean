/- What a walk over a note and a group keeps: both boxes, the keys, the lists; no conditions. -/
import Derived.Test.YtgjbebfcbpfngaaDoorNoteBase
namespace Go.Proofs.YtgjbebfcbpfngaaDoor
open Go.RowKit

/-- What a walk over a note and a group keeps: both boxes, and the keys. -/
structure NG (w wr : World) (tn tg : TypeId) (nc : Array Value) (gc : Array Value) (A : Option Addr) (n : Nat) (zs : List Int) (N G : Nat) : Prop where
  nb : Box wr N tn nc
  gb : Box wr G tg gc
  row : Row wr wr.heap.size A n zs
  bel : Below w.heap.size w wr
theorem NG.later {w wr w' : World} {tn tg : TypeId} {nc gc : Array Value} {A : Option Addr} {n : Nat} {zs : List Int} {N G : Nat} (h : NG w wr tn tg nc gc A n zs N G) (hb : Below wr.heap.size wr w') : NG w w' tn tg nc gc A n zs N G :=
  ⟨h.nb.later hb h.nb.lt, h.gb.later hb h.gb.lt, (h.row.below hb (Nat.le_refl _)).more hb.size, bel_trans h.bel hb⟩

theorem NG.start (w : World) (tn tg : TypeId) (nc gc : Array Value) (A : Option Addr) (n : Nat) (zs : List Int) (hr : Row w w.heap.size A n zs) :
    NG w ((w.alloc (.cells nc tn)).alloc (.cells gc tg)) tn tg nc gc A n zs w.heap.size (w.heap.size + 1) := by
  have E0 := bel_trans (bel_alloc w (.cells nc tn)) (bel_alloc _ (.cells gc tg))
  have G := Box.new (w.alloc (.cells nc tn)) tg gc
  simp only [World.size_alloc] at G
  exact ⟨(Box.new w _ _).alloc _, G, (hr.below E0 (Nat.le_refl _)).more E0.size, E0⟩

/-- The same, the group first, with the note's lists. -/
structure NGP (w wr : World) (tn tg : TypeId) (nc : Array Value) (gc : Array Value) (A : Option Addr) (n : Nat) (zs : List Int) (P : Option Addr) (p : Nat) (ps : List (Int × Int)) (Q : Option Addr) (q : Nat) (qs : List (Int × Int)) (G N : Nat) : Prop where
  nb : Box wr N tn nc
  gb : Box wr G tg gc
  row : Row wr wr.heap.size A n zs
  prs : Pairs wr wr.heap.size P p ps
  qrs : Pairs wr wr.heap.size Q q qs
  bel : Below w.heap.size w wr
theorem NGP.later {w wr w' : World} {tn tg : TypeId} {nc gc : Array Value} {A : Option Addr} {n : Nat} {zs : List Int} {P : Option Addr} {p : Nat} {ps : List (Int × Int)} {Q : Option Addr} {q : Nat} {qs : List (Int × Int)} {N G : Nat} (h : NGP w wr tn tg nc gc A n zs P p ps Q q qs N G) (hb : Below wr.heap.size wr w') : NGP w w' tn tg nc gc A n zs P p ps Q q qs N G :=
  ⟨h.nb.later hb h.nb.lt, h.gb.later hb h.gb.lt, (h.row.below hb (Nat.le_refl _)).more hb.size, h.prs.later hb, h.qrs.later hb, bel_trans h.bel hb⟩
theorem NGP.start (w : World) (tn tg : TypeId) (nc gc : Array Value) (A : Option Addr) (n : Nat) (zs : List Int) (P : Option Addr) (p : Nat) (ps : List (Int × Int)) (Q : Option Addr) (q : Nat) (qs : List (Int × Int)) (hr : Row w w.heap.size A n zs) (hp : Pairs w w.heap.size P p ps) (hq : Pairs w w.heap.size Q q qs) :
    NGP w ((w.alloc (.cells gc tg)).alloc (.cells nc tn)) tn tg nc gc A n zs P p ps Q q qs w.heap.size (w.heap.size + 1) := by
  have E0 := bel_trans (bel_alloc w (.cells gc tg)) (bel_alloc _ (.cells nc tn))
  have G := Box.new (w.alloc (.cells gc tg)) tn nc
  simp only [World.size_alloc] at G
  exact ⟨G, (Box.new w _ _).alloc _, (hr.below E0 (Nat.le_refl _)).more E0.size, hp.later E0, hq.later E0, E0⟩

end Go.Proofs.YtgjbebfcbpfngaaDoor
