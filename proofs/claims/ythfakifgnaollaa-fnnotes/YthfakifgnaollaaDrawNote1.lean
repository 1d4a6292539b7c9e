/- Words for the draws of notes: a note's cells as one array, its shape, its lists, a variable written whole; no conditions. -/
import Derived.Test.YthfakifgnaollaaDrawSeals
import Derived.Test.YthfakifgnaollaaNoteCells
import Derived.Test.YthfakifgnaollaaSpecStamp
import Derived.Laws.Tables
namespace Go.Proofs.Ythfakifgnaollaa
open Go.RowKit

theorem size_setRow (w : World) (g : Nat) (cs : Array Value) : (w.setRow g cs).heap.size = w.heap.size := by simp [World.setRow]
theorem Box.setRow {w : World} {g : Nat} {t : TypeId} {old : Array Value} (h : Box w g t old) (cs : Array Value) : Box (w.setRow g cs) g t cs := by
  unfold Box at h ⊢
  simp [World.setRow, Array.getElem?_modify, h]
theorem heap_setRow (w : World) (g : Nat) (cs : Array Value) (k : Nat) (h : k ≠ g) : (w.setRow g cs).heap[k]? = w.heap[k]? := by
  simp [World.setRow, Array.getElem?_modify, show ¬ g = k from fun e => h e.symm]
theorem grown_setRow {a b : World} {g : Nat} (h : a.grownBy b (some g)) (cs : Array Value) : a.grownBy (b.setRow g cs) (some g) :=
  ⟨h.os, h.tape, h.output, by rw [size_setRow]; exact h.size, fun k hk hne => (heap_setRow b g cs k (fun e => hne (by rw [e]))).trans (h.block k hk hne)⟩

/-- A note's cells: fourteen numbers, and these two lists. -/
def Shape (N : Array Value) (c m : Value) : Prop := ∃ k1 k2 k3 k4 k5 t1 t2 v1 o1 o2 v2 l1 l2 v3 : Int, N = #[.int .i64 k1, .int .i64 k2, .int .i64 k3, .int .i64 k4, .int .i64 k5, .int .i64 t1, .int .i64 t2, .int .i64 v1, .int .i64 o1, .int .i64 o2, .int .i64 v2, c, m, .int .i64 l1, .int .i64 l2, .int .i64 v3]
/-- A place in a note that is a number. -/
def isNum (i : Nat) : Prop := i = 0 ∨ i = 1 ∨ i = 2 ∨ i = 3 ∨ i = 4 ∨ i = 5 ∨ i = 6 ∨ i = 7 ∨ i = 8 ∨ i = 9 ∨ i = 10 ∨ i = 13 ∨ i = 14 ∨ i = 15
theorem Shape.size {N : Array Value} {c m : Value} (h : Shape N c m) : N.size = 16 := by
  obtain ⟨k1, k2, k3, k4, k5, t1, t2, v1, o1, o2, v2, l1, l2, v3, rfl⟩ := h; rfl
theorem Shape.info {N : Array Value} {c m : Value} (h : Shape N c m) : (Try.prog.info? 31).map (·.size) = some N.size := by
  rw [h.size]; kernel_rfl
theorem Shape.put {N : Array Value} {c m : Value} (h : Shape N c m) {i : Nat} (hi : isNum i) (z : Int) : Shape (N.setIfInBounds i (.int .i64 z)) c m := by
  obtain ⟨k1, k2, k3, k4, k5, t1, t2, v1, o1, o2, v2, l1, l2, v3, rfl⟩ := h
  rcases hi with rfl | rfl | rfl | rfl | rfl | rfl | rfl | rfl | rfl | rfl | rfl | rfl | rfl | rfl
  · exact ⟨z, k2, k3, k4, k5, t1, t2, v1, o1, o2, v2, l1, l2, v3, rfl⟩
  · exact ⟨k1, z, k3, k4, k5, t1, t2, v1, o1, o2, v2, l1, l2, v3, rfl⟩
  · exact ⟨k1, k2, z, k4, k5, t1, t2, v1, o1, o2, v2, l1, l2, v3, rfl⟩
  · exact ⟨k1, k2, k3, z, k5, t1, t2, v1, o1, o2, v2, l1, l2, v3, rfl⟩
  · exact ⟨k1, k2, k3, k4, z, t1, t2, v1, o1, o2, v2, l1, l2, v3, rfl⟩
  · exact ⟨k1, k2, k3, k4, k5, z, t2, v1, o1, o2, v2, l1, l2, v3, rfl⟩
  · exact ⟨k1, k2, k3, k4, k5, t1, z, v1, o1, o2, v2, l1, l2, v3, rfl⟩
  · exact ⟨k1, k2, k3, k4, k5, t1, t2, z, o1, o2, v2, l1, l2, v3, rfl⟩
  · exact ⟨k1, k2, k3, k4, k5, t1, t2, v1, z, o2, v2, l1, l2, v3, rfl⟩
  · exact ⟨k1, k2, k3, k4, k5, t1, t2, v1, o1, z, v2, l1, l2, v3, rfl⟩
  · exact ⟨k1, k2, k3, k4, k5, t1, t2, v1, o1, o2, z, l1, l2, v3, rfl⟩
  · exact ⟨k1, k2, k3, k4, k5, t1, t2, v1, o1, o2, v2, z, l2, v3, rfl⟩
  · exact ⟨k1, k2, k3, k4, k5, t1, t2, v1, o1, o2, v2, l1, z, v3, rfl⟩
  · exact ⟨k1, k2, k3, k4, k5, t1, t2, v1, o1, o2, v2, l1, l2, z, rfl⟩
theorem Shape.cert {N : Array Value} {c m : Value} (h : Shape N c m) (v : Value) : Shape (N.setIfInBounds 11 v) v m := by
  obtain ⟨k1, k2, k3, k4, k5, t1, t2, v1, o1, o2, v2, l1, l2, v3, rfl⟩ := h
  exact ⟨k1, k2, k3, k4, k5, t1, t2, v1, o1, o2, v2, l1, l2, v3, rfl⟩
theorem Shape.more {N : Array Value} {c m : Value} (h : Shape N c m) (v : Value) : Shape (N.setIfInBounds 12 v) c v := by
  obtain ⟨k1, k2, k3, k4, k5, t1, t2, v1, o1, o2, v2, l1, l2, v3, rfl⟩ := h
  exact ⟨k1, k2, k3, k4, k5, t1, t2, v1, o1, o2, v2, l1, l2, v3, rfl⟩
theorem Shape.num {N : Array Value} {c m : Value} (h : Shape N c m) {i : Nat} (hi : isNum i) : ∃ z : Int, N[i]? = some (.int .i64 z) := by
  obtain ⟨k1, k2, k3, k4, k5, t1, t2, v1, o1, o2, v2, l1, l2, v3, rfl⟩ := h
  rcases hi with rfl | rfl | rfl | rfl | rfl | rfl | rfl | rfl | rfl | rfl | rfl | rfl | rfl | rfl <;> exact ⟨_, rfl⟩
theorem Shape.at11 {N : Array Value} {c m : Value} (h : Shape N c m) : N[11]? = some c := by
  obtain ⟨k1, k2, k3, k4, k5, t1, t2, v1, o1, o2, v2, l1, l2, v3, rfl⟩ := h; rfl
theorem Shape.at12 {N : Array Value} {c m : Value} (h : Shape N c m) : N[12]? = some m := by
  obtain ⟨k1, k2, k3, k4, k5, t1, t2, v1, o1, o2, v2, l1, l2, v3, rfl⟩ := h; rfl
theorem Shape.one {N : Array Value} {c m : Value} (h : Shape N c m) (hc : c.oneCell' = true) (hm : m.oneCell' = true) : N.all (·.oneCell') = true := by
  obtain ⟨k1, k2, k3, k4, k5, t1, t2, v1, o1, o2, v2, l1, l2, v3, rfl⟩ := h
  rw [Array.all_eq_true_iff_forall_mem]
  intro x hx
  simp only [List.mem_toArray, List.mem_cons, List.not_mem_nil, or_false] at hx
  rcases hx with rfl | rfl | rfl | rfl | rfl | rfl | rfl | rfl | rfl | rfl | rfl | rfl | rfl | rfl | rfl | rfl <;> first | rfl | exact hc | exact hm
/-- The zero note. -/
def ZN : Array Value := #[.int .i64 0, .int .i64 0, .int .i64 0, .int .i64 0, .int .i64 0, .int .i64 0, .int .i64 0, .int .i64 0, .int .i64 0, .int .i64 0, .int .i64 0, .slice none 0 0, .slice none 0 0, .int .i64 0, .int .i64 0, .int .i64 0]

/-- A list of at most k seals, in a block of its own from B on, or nil. -/
def Lst (w : World) (B k : Nat) (v : Value) : Prop := ∃ ps : List (Int × Int), ps.length ≤ k ∧ w.ownsRow B 78 2 v ps.length (flatP ps)
theorem Lst.nil (w : World) (B k : Nat) : Lst w B k (.slice none 0 0) := ⟨[], Nat.zero_le _, World.ownsRow_nil w B _ _⟩
theorem Lst.kept {w w' : World} {B k : Nat} {v : Value} {r : Option Nat} (h : Lst w B k v) (hg : w.grownBy w' r) (hne : v.ownBlock = none ∨ v.ownBlock ≠ r) : Lst w' B k v := by
  obtain ⟨ps, hl, ho⟩ := h
  exact ⟨ps, hl, ho.kept hg hne⟩
theorem Lst.bel {w w' : World} {B k : Nat} {v : Value} (h : Lst w B k v) (hb : Below w.heap.size w w') : Lst w' B k v := by
  obtain ⟨ps, hl, ho⟩ := h
  refine ⟨ps, hl, ho.kept (grown_bel hb none) ?_⟩
  rcases e : v.ownBlock with _ | b
  · exact .inl rfl
  · exact .inr (by simp)
theorem Lst.one {w : World} {B k : Nat} {v : Value} (h : Lst w B k v) : v.oneCell' = true := by
  obtain ⟨ps, _, _, h | ⟨b, cap, cur, h, _⟩⟩ := h
  · rw [h.1]; rfl
  · rw [h]; rfl
theorem Lst.lt {w : World} {B k : Nat} {v : Value} (h : Lst w B k v) : ∀ b, v.ownBlock = some b → B ≤ b ∧ b < w.heap.size := by
  obtain ⟨ps, _, ho⟩ := h
  exact ho.lt
/-- What such a list reads as. -/
theorem Lst.pairs {w : World} {B k : Nat} {v : Value} (h : Lst w B k v) : ∃ (P : Option Addr) (p pc : Nat) (ps : List (Int × Int)), v = .slice P p pc ∧ p ≤ k ∧ Pairs w w.heap.size P p ps := by
  obtain ⟨ps, hl, ho⟩ := h
  have ho' := ho
  obtain ⟨hlen, ⟨rfl, h0⟩ | ⟨b, cap, cur, rfl, _⟩⟩ := ho
  · exact ⟨none, 0, 0, [], rfl, Nat.zero_le _, rfl, fun h => absurd h (by omega)⟩
  · exact ⟨some ⟨b, 0, none⟩, ps.length, cap, ps, rfl, hl, own_pairs ho'⟩
theorem Lst.more {w : World} {B k k' : Nat} {v : Value} (h : Lst w B k v) (hk : k ≤ k') : Lst w B k' v := by
  obtain ⟨ps, hl, ho⟩ := h
  exact ⟨ps, by omega, ho⟩
theorem Lst.base {w : World} {B B' k : Nat} {v : Value} (h : Lst w B k v) (hB : B' ≤ B) : Lst w B' k v := by
  obtain ⟨ps, hl, ho⟩ := h
  exact ⟨ps, hl, own_base ho hB⟩

/-- What the drawing of a note keeps: the cursor, the group, the answer's variable, the note so far and its lists. -/
structure NSt (w wr : World) (g : Nat) (A : Option Addr) (n cap : Nat) (s l c sh : Int) (q o m cap' : Nat) (zs : List Int) (V : Nat) (N : Array Value) (cv mv : Value) : Prop where
  cur : Cur wr 69 .i64 g A n cap
  grw : w.grownBy wr (some g)
  gr : Box wr w.heap.size 26 #[.int .i64 s, .int .i64 l, .int .i64 c, .int .i64 sh, .slice (some ⟨q, o, none⟩) m cap']
  res : Box wr (w.heap.size + 1) 31 ZN
  row : Row wr w.heap.size (some ⟨q, o, none⟩) m zs
  var : Box wr V 31 N
  shp : Shape N cv mv
  cer : Lst wr (w.heap.size + 2) 20 cv
  mor : Lst wr (w.heap.size + 2) 20 mv
  nc : cv.ownBlock ≠ some V
  nm : mv.ownBlock ≠ some V
  cm : mv.ownBlock = none ∨ mv.ownBlock ≠ cv.ownBlock
/-- Where the blocks lie. -/
structure Lie (w : World) (g q V : Nat) : Prop where
  gl : g < w.heap.size
  gq : g ≠ q
  vl : w.heap.size + 2 ≤ V
section
variable {w wr w' : World} {g : Nat} {A : Option Addr} {n cap : Nat} {s l c sh : Int} {q o m cap' : Nat} {zs : List Int} {V : Nat} {N : Array Value} {cv mv : Value}
theorem ne_of_lt {v : Value} {B g : Nat} {wr : World} {k : Nat} (h : Lst wr B k v) (hg : g < B) : v.ownBlock ≠ some g := fun e => by
  have := (h.lt g e).1
  omega
theorem NSt.later (h : NSt w wr g A n cap s l c sh q o m cap' zs V N cv mv) (hb : Below wr.heap.size wr w') : NSt w w' g A n cap s l c sh q o m cap' zs V N cv mv :=
  ⟨h.cur.kept (grown_bel hb none) (fun q hq => by cases hq), grown_trans h.grw (grown_bel hb _), h.gr.later hb h.gr.lt, h.res.later hb h.res.lt, h.row.below hb h.grw.size, h.var.later hb h.var.lt, h.shp, h.cer.bel hb, h.mor.bel hb, h.nc, h.nm, h.cm⟩
theorem NSt.draw (h : NSt w wr g A n cap s l c sh q o m cap' zs V N cv mv) (L : Lie w g q V) (hg : wr.grownBy w' (some g)) (hc : Cur w' 69 .i64 g A n cap) : NSt w w' g A n cap s l c sh q o m cap' zs V N cv mv := by
  have h1 := L.gl
  have h2 := L.gq
  have h3 := L.vl
  exact ⟨hc, grown_trans h.grw hg, h.gr.kept hg (by intro e; injection e with e; omega), h.res.kept hg (by intro e; injection e with e; omega), h.row.keptB h.grw.size hg (fun k hk => by injection hk with hk; exact .inr (by omega)), h.var.kept hg (by intro e; injection e with e; omega), h.shp,
    h.cer.kept hg (.inr (ne_of_lt h.cer (by omega))), h.mor.kept hg (.inr (ne_of_lt h.mor (by omega))), h.nc, h.nm, h.cm⟩
theorem NSt.set (h : NSt w wr g A n cap s l c sh q o m cap' zs V N cv mv) (L : Lie w g q V) (i : Nat) (u cv' mv' : Value) (hs : Shape (N.setIfInBounds i u) cv' mv') (hc : Lst wr (w.heap.size + 2) 20 cv') (hm : Lst wr (w.heap.size + 2) 20 mv') (nc : cv'.ownBlock ≠ some V) (nm : mv'.ownBlock ≠ some V) (cm : mv'.ownBlock = none ∨ mv'.ownBlock ≠ cv'.ownBlock) :
    NSt w (wr.setCell ⟨V, i, none⟩ u) g A n cap s l c sh q o m cap' zs V (N.setIfInBounds i u) cv' mv' := by
  have h1 := L.gl
  have h2 := L.gq
  have h3 := L.vl
  have hg : wr.grownBy (wr.setCell ⟨V, i, none⟩ u) (some V) := grown_set (grown_refl wr _) i u
  exact ⟨h.cur.kept hg (fun r hr => by injection hr with hr; omega), grown_new h.grw (p := ⟨V, i, none⟩) (show w.heap.size ≤ V by omega) u, h.gr.kept hg (by intro e; injection e with e; omega), h.res.kept hg (by intro e; injection e with e; omega), h.row.keptB h.grw.size hg (fun k hk => by injection hk with hk; exact .inl (by omega)),
    h.var.set i u, hs, hc.kept hg (.inr nc), hm.kept hg (.inr nm), nc, nm, cm⟩
theorem NSt.put (h : NSt w wr g A n cap s l c sh q o m cap' zs V N cv mv) (L : Lie w g q V) (i : Nat) (hi : isNum i) (z : Int) : NSt w (wr.setCell ⟨V, i, none⟩ (.int .i64 z)) g A n cap s l c sh q o m cap' zs V (N.setIfInBounds i (.int .i64 z)) cv mv :=
  h.set L i _ cv mv (h.shp.put hi z) h.cer h.mor h.nc h.nm h.cm
theorem NSt.cert (h : NSt w wr g A n cap s l c sh q o m cap' zs V N cv mv) (L : Lie w g q V) (v : Value) (hv : Lst wr (w.heap.size + 2) 20 v) (hn : v.ownBlock ≠ some V) (hm : mv.ownBlock = none) : NSt w (wr.setCell ⟨V, 11, none⟩ v) g A n cap s l c sh q o m cap' zs V (N.setIfInBounds 11 v) v mv :=
  h.set L 11 _ v mv (h.shp.cert v) hv h.mor hn h.nm (.inl hm)
theorem NSt.more (h : NSt w wr g A n cap s l c sh q o m cap' zs V N cv mv) (L : Lie w g q V) (v : Value) (hv : Lst wr (w.heap.size + 2) 20 v) (hn : v.ownBlock ≠ some V) (hm : v.ownBlock ≠ cv.ownBlock) : NSt w (wr.setCell ⟨V, 12, none⟩ v) g A n cap s l c sh q o m cap' zs V (N.setIfInBounds 12 v) cv v :=
  h.set L 12 _ cv v (h.shp.more v) h.cer hv h.nc hn (.inr hm)
/-- Another variable is written. -/
theorem NSt.other (h : NSt w wr g A n cap s l c sh q o m cap' zs V N cv mv) (L : Lie w g q V) {X : Nat} (hX : w.heap.size + 2 ≤ X) (hV : X ≠ V) (hc : cv.ownBlock ≠ some X) (hm : mv.ownBlock ≠ some X) (i : Nat) (u : Value) : NSt w (wr.setCell ⟨X, i, none⟩ u) g A n cap s l c sh q o m cap' zs V N cv mv := by
  have h1 := L.gl
  have hg : wr.grownBy (wr.setCell ⟨X, i, none⟩ u) (some X) := grown_set (grown_refl wr _) i u
  exact ⟨h.cur.kept hg (fun r hr => by injection hr with hr; omega), grown_new h.grw (p := ⟨X, i, none⟩) (show w.heap.size ≤ X by omega) u, h.gr.kept hg (by intro e; injection e with e; omega), h.res.kept hg (by intro e; injection e with e; omega), h.row.keptB h.grw.size hg (fun k hk => by injection hk with hk; exact .inl (by omega)),
    h.var.kept hg (by intro e; injection e with e; omega), h.shp, h.cer.kept hg (.inr hc), h.mor.kept hg (.inr hm), h.nc, h.nm, h.cm⟩
/-- What l4Draw answers is such a list, behind all that is there. -/
theorem NSt.list (h : NSt w wr g A n cap s l c sh q o m cap' zs V N cv mv) {p pc : Nat} {ps : List (Int × Int)} (hl : ps.length ≤ 20) (ho : w'.ownsRow (wr.heap.size + 2) 78 2 (.slice (some ⟨p, 0, none⟩) ps.length pc) ps.length (flatP ps)) :
    Lst w' (w.heap.size + 2) 20 (.slice (some ⟨p, 0, none⟩) ps.length pc) ∧ (Value.slice (some ⟨p, 0, none⟩) ps.length pc).ownBlock ≠ some V ∧ (Value.slice (some ⟨p, 0, none⟩) ps.length pc).ownBlock ≠ cv.ownBlock := by
  have h1 := h.grw.size
  have h2 := (ho.lt p rfl).1
  have h3 := h.var.lt
  refine ⟨⟨ps, hl, own_base ho (by omega)⟩, by simp [Value.ownBlock]; omega, fun e => ?_⟩
  have h4 := (h.cer.lt p (by rw [← e]; rfl)).2
  omega
theorem NSt.cell (h : NSt w wr g A n cap s l c sh q o m cap' zs V N cv mv) {i : Nat} {u : Value} (hi : N[i]? = some u) : wr.cell? ⟨V, i, none⟩ = some u := (h.var.cell i).trans hi
theorem NSt.held (h : NSt w wr g A n cap s l c sh q o m cap' zs V N cv mv) {i1 i2 i3 : Nat} {x4 y1 y2 y3 : Int} (n4 : N[4]? = some (.int .i64 x4)) (h1 : N[i1]? = some (.int .i64 y1)) (h2 : N[i2]? = some (.int .i64 y2)) (h3 : N[i3]? = some (.int .i64 y3)) :
    wr.cell? ⟨w.heap.size, 0, none⟩ = some (.int .i64 s) ∧ wr.cell? ⟨w.heap.size, 1, none⟩ = some (.int .i64 l) ∧ wr.cell? ⟨w.heap.size, 2, none⟩ = some (.int .i64 c) ∧ wr.cell? ⟨w.heap.size, 3, none⟩ = some (.int .i64 sh) ∧ wr.cell? ⟨w.heap.size, 4, none⟩ = some (.slice (some ⟨q, o, none⟩) m cap') ∧
    wr.cell? ⟨V, 4, none⟩ = some (.int .i64 x4) ∧ wr.cell? ⟨V, i1, none⟩ = some (.int .i64 y1) ∧ wr.cell? ⟨V, i2, none⟩ = some (.int .i64 y2) ∧ wr.cell? ⟨V, i3, none⟩ = some (.int .i64 y3) :=
  ⟨h.gr.cell 0, h.gr.cell 1, h.gr.cell 2, h.gr.cell 3, h.gr.cell 4, h.cell n4, h.cell h1, h.cell h2, h.cell h3⟩
end

/-- What the draw of a note leaves. -/
def DrawnNote (g : Nat) (A : Option Addr) (n cap : Nat) (w : World) (e : Ending) (w' : World) : Prop :=
  ∃ (N : Array Value) (cv mv : Value), e = .returned (.agg N) ∧ Shape N cv mv ∧ Lst w' (w.heap.size + 2) 20 cv ∧ Lst w' (w.heap.size + 2) 20 mv ∧ (mv.ownBlock = none ∨ mv.ownBlock ≠ cv.ownBlock) ∧ Cur w' 69 .i64 g A n cap ∧ w.grownBy w' (some g)
/-- The note is written into the answer's variable, and answered. -/
theorem NSt.fin {w wr : World} {g : Nat} {A : Option Addr} {n cap : Nat} {s l c sh : Int} {q o m cap' : Nat} {zs : List Int} {V : Nat} {N : Array Value} {cv mv : Value} (h : NSt w wr g A n cap s l c sh q o m cap' zs V N cv mv) (L : Lie w g q V) :
    Box (wr.setRow (w.heap.size + 1) N) (w.heap.size + 1) 31 N ∧ Lst (wr.setRow (w.heap.size + 1) N) (w.heap.size + 2) 20 cv ∧ Lst (wr.setRow (w.heap.size + 1) N) (w.heap.size + 2) 20 mv ∧ Cur (wr.setRow (w.heap.size + 1) N) 69 .i64 g A n cap ∧ w.grownBy (wr.setRow (w.heap.size + 1) N) (some g) := by
  have h1 := L.gl
  have hg : wr.grownBy (wr.setRow (w.heap.size + 1) N) (some (w.heap.size + 1)) := grown_setRow (grown_refl wr _) N
  exact ⟨h.res.setRow N, h.cer.kept hg (.inr (ne_of_lt h.cer (by omega))), h.mor.kept hg (.inr (ne_of_lt h.mor (by omega))), h.cur.kept hg (fun r hr => by injection hr with hr; omega), grown_far h.grw hg (fun r hr => by injection hr with hr; omega)⟩
theorem sizeZN : ZN.size = 16 := rfl

theorem l4Wrote_is (x ct cq v : Int) (w : World) : Calls Try.prog 65 #[.int .i64 x, .agg #[.int .i64 ct, .int .i64 cq], .int .i64 v] w fun e w' => e = .returned (.agg #[.int .i64 2, .int .i64 x, .int .i64 ct, .int .i64 cq, .int .i64 v]) ∧ Below w.heap.size w w' := by
  have E0 := bel_trans (bel_alloc w (.cells #[.int .i64 ct, .int .i64 cq] 28)) (bel_alloc _ (.cells #[.int .i64 0, .int .i64 0, .int .i64 0, .int .i64 0, .int .i64 0] 83))
  obtain ⟨d0, d1⟩ := ((Box.new w 28 #[.int .i64 ct, .int .i64 cq]).alloc (.cells #[.int .i64 0, .int .i64 0, .int .i64 0, .int .i64 0, .int .i64 0] 83)).two
  go_enter Try.func65, Try.ntmps65
  go_wp2
  exact bodyPost_ret (v := .agg #[.int .i64 2, .int .i64 x, .int .i64 ct, .int .i64 cq, .int .i64 v]) (by simp [results, Try.results65, go_sem]) rfl
    ⟨rfl, by first | exact bel_trans (bel_alloc _ _) (bel_alloc _ _) | exact ((((E0.setCell (by simp) _).setCell (by simp) _).setCell (by simp) _).setCell (by simp) _).setCell (by simp) _⟩

end Go.Proofs.Ythfakifgnaollaa
