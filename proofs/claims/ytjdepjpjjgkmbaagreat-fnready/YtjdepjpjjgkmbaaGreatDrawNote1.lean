/- Words for the draws of notes: a note's cells as one array, its shape, its lists, a variable written whole; no conditions. -/
import Derived.Test.YtjdepjpjjgkmbaaGreatDrawSeals
import Derived.Test.YtjdepjpjjgkmbaaGreatNoteShape
import Derived.Test.YtjdepjpjjgkmbaaGreatSpecStamp
import Derived.Laws.Tables
namespace Go.Proofs.YtjdepjpjjgkmbaaGreat
open Go.RowKit

/-- A list of at most k seals, in a block of its own from B on, or nil. -/
def Lst (w : World) (B k : Nat) (v : Value) : Prop := ∃ ps : List (Int × Int), ps.length ≤ k ∧ w.ownsRow B 136 2 v ps.length (flatP ps)
theorem Lst.nil (w : World) (B k : Nat) : Lst w B k (.slice none 0 0) := ⟨[], Nat.zero_le _, World.ownsRow_nil w B _ _⟩
theorem Lst.kept {w w' : World} {B k : Nat} {v : Value} {r : Option Nat} (h : Lst w B k v) (hg : w.grownBy w' r) (hne : v.ownBlock = none ∨ v.ownBlock ≠ r) : Lst w' B k v := by
  obtain ⟨ps, hl, ho⟩ := h
  exact ⟨ps, hl, ho.kept hg hne⟩
theorem Lst.bel {w w' : World} {B k : Nat} {v : Value} (h : Lst w B k v) (hb : Below w.heap.size w w') : Lst w' B k v := by
  obtain ⟨ps, hl, ho⟩ := h
  refine ⟨ps, hl, ho.kept (grown_bel hb none) ?_⟩
  rcases e : v.ownBlock with _ | b
  · exact .inl rfl
  · exact .inr (by simp)
theorem Lst.one {w : World} {B k : Nat} {v : Value} (h : Lst w B k v) : v.oneCell' = true := by
  obtain ⟨ps, _, _, h | ⟨b, cap, cur, h, _⟩⟩ := h
  · rw [h.1]; rfl
  · rw [h]; rfl
theorem Lst.lt {w : World} {B k : Nat} {v : Value} (h : Lst w B k v) : ∀ b, v.ownBlock = some b → B ≤ b ∧ b < w.heap.size := by
  obtain ⟨ps, _, ho⟩ := h
  exact ho.lt
/-- What such a list reads as. -/
theorem Lst.pairs {w : World} {B k : Nat} {v : Value} (h : Lst w B k v) : ∃ (P : Option Addr) (p pc : Nat) (ps : List (Int × Int)), v = .slice P p pc ∧ p ≤ k ∧ Pairs w w.heap.size P p ps := by
  obtain ⟨ps, hl, ho⟩ := h
  have ho' := ho
  obtain ⟨hlen, ⟨rfl, h0⟩ | ⟨b, cap, cur, rfl, _⟩⟩ := ho
  · exact ⟨none, 0, 0, [], rfl, Nat.zero_le _, rfl, fun h => absurd h (by omega)⟩
  · exact ⟨some ⟨b, 0, none⟩, ps.length, cap, ps, rfl, hl, own_pairs ho'⟩
theorem Lst.more {w : World} {B k k' : Nat} {v : Value} (h : Lst w B k v) (hk : k ≤ k') : Lst w B k' v := by
  obtain ⟨ps, hl, ho⟩ := h
  exact ⟨ps, by omega, ho⟩
theorem Lst.base {w : World} {B B' k : Nat} {v : Value} (h : Lst w B k v) (hB : B' ≤ B) : Lst w B' k v := by
  obtain ⟨ps, hl, ho⟩ := h
  exact ⟨ps, hl, own_base ho hB⟩

/-- What the drawing of a note keeps: the cursor, the group, the answer's variable, the note so far and its lists. -/
structure NSt (w wr : World) (g : Nat) (A : Option Addr) (n cap : Nat) (s l c sh : Int) (q o m cap' : Nat) (zs : List Int) (V : Nat) (N : Array Value) (cv mv : Value) : Prop where
  cur : Cur wr 169 .i64 g A n cap
  grw : w.grownBy wr (some g)
  gr : Box wr w.heap.size 26 #[.int .i64 s, .int .i64 l, .int .i64 c, .int .i64 sh, .slice (some ⟨q, o, none⟩) m cap']
  res : Box wr (w.heap.size + 1) 85 ZN
  row : Row wr w.heap.size (some ⟨q, o, none⟩) m zs
  var : Box wr V 85 N
  shp : Shape N cv mv
  cer : Lst wr (w.heap.size + 2) 20 cv
  mor : Lst wr (w.heap.size + 2) 20 mv
  nc : cv.ownBlock ≠ some V
  nm : mv.ownBlock ≠ some V
  cm : mv.ownBlock = none ∨ mv.ownBlock ≠ cv.ownBlock
/-- Where the blocks lie. -/
structure Lie (w : World) (g q V : Nat) : Prop where
  gl : g < w.heap.size
  gq : g ≠ q
  vl : w.heap.size + 2 ≤ V
section
variable {w wr w' : World} {g : Nat} {A : Option Addr} {n cap : Nat} {s l c sh : Int} {q o m cap' : Nat} {zs : List Int} {V : Nat} {N : Array Value} {cv mv : Value}
theorem ne_of_lt {v : Value} {B g : Nat} {wr : World} {k : Nat} (h : Lst wr B k v) (hg : g < B) : v.ownBlock ≠ some g := fun e => by
  have := (h.lt g e).1
  omega
theorem NSt.later (h : NSt w wr g A n cap s l c sh q o m cap' zs V N cv mv) (hb : Below wr.heap.size wr w') : NSt w w' g A n cap s l c sh q o m cap' zs V N cv mv :=
  ⟨h.cur.kept (grown_bel hb none) (fun q hq => by cases hq), grown_trans h.grw (grown_bel hb _), h.gr.later hb h.gr.lt, h.res.later hb h.res.lt, h.row.below hb h.grw.size, h.var.later hb h.var.lt, h.shp, h.cer.bel hb, h.mor.bel hb, h.nc, h.nm, h.cm⟩
theorem NSt.draw (h : NSt w wr g A n cap s l c sh q o m cap' zs V N cv mv) (L : Lie w g q V) (hg : wr.grownBy w' (some g)) (hc : Cur w' 169 .i64 g A n cap) : NSt w w' g A n cap s l c sh q o m cap' zs V N cv mv := by
  have h1 := L.gl
  have h2 := L.gq
  have h3 := L.vl
  exact ⟨hc, grown_trans h.grw hg, h.gr.kept hg (by intro e; injection e with e; omega), h.res.kept hg (by intro e; injection e with e; omega), h.row.keptB h.grw.size hg (fun k hk => by injection hk with hk; exact .inr (by omega)), h.var.kept hg (by intro e; injection e with e; omega), h.shp,
    h.cer.kept hg (.inr (ne_of_lt h.cer (by omega))), h.mor.kept hg (.inr (ne_of_lt h.mor (by omega))), h.nc, h.nm, h.cm⟩
theorem NSt.set (h : NSt w wr g A n cap s l c sh q o m cap' zs V N cv mv) (L : Lie w g q V) (i : Nat) (u cv' mv' : Value) (hs : Shape (N.setIfInBounds i u) cv' mv') (hc : Lst wr (w.heap.size + 2) 20 cv') (hm : Lst wr (w.heap.size + 2) 20 mv') (nc : cv'.ownBlock ≠ some V) (nm : mv'.ownBlock ≠ some V) (cm : mv'.ownBlock = none ∨ mv'.ownBlock ≠ cv'.ownBlock) :
    NSt w (wr.setCell ⟨V, i, none⟩ u) g A n cap s l c sh q o m cap' zs V (N.setIfInBounds i u) cv' mv' := by
  have h1 := L.gl
  have h2 := L.gq
  have h3 := L.vl
  have hg : wr.grownBy (wr.setCell ⟨V, i, none⟩ u) (some V) := grown_set (grown_refl wr _) i u
  exact ⟨h.cur.kept hg (fun r hr => by injection hr with hr; omega), grown_new h.grw (p := ⟨V, i, none⟩) (show w.heap.size ≤ V by omega) u, h.gr.kept hg (by intro e; injection e with e; omega), h.res.kept hg (by intro e; injection e with e; omega), h.row.keptB h.grw.size hg (fun k hk => by injection hk with hk; exact .inl (by omega)),
    h.var.set i u, hs, hc.kept hg (.inr nc), hm.kept hg (.inr nm), nc, nm, cm⟩
theorem NSt.put (h : NSt w wr g A n cap s l c sh q o m cap' zs V N cv mv) (L : Lie w g q V) (i : Nat) (hi : isNum i) (z : Int) : NSt w (wr.setCell ⟨V, i, none⟩ (.int .i64 z)) g A n cap s l c sh q o m cap' zs V (N.setIfInBounds i (.int .i64 z)) cv mv :=
  h.set L i _ cv mv (h.shp.put hi z) h.cer h.mor h.nc h.nm h.cm
theorem NSt.cert (h : NSt w wr g A n cap s l c sh q o m cap' zs V N cv mv) (L : Lie w g q V) (v : Value) (hv : Lst wr (w.heap.size + 2) 20 v) (hn : v.ownBlock ≠ some V) (hm : mv.ownBlock = none) : NSt w (wr.setCell ⟨V, 11, none⟩ v) g A n cap s l c sh q o m cap' zs V (N.setIfInBounds 11 v) v mv :=
  h.set L 11 _ v mv (h.shp.cert v) hv h.mor hn h.nm (.inl hm)
theorem NSt.more (h : NSt w wr g A n cap s l c sh q o m cap' zs V N cv mv) (L : Lie w g q V) (v : Value) (hv : Lst wr (w.heap.size + 2) 20 v) (hn : v.ownBlock ≠ some V) (hm : v.ownBlock ≠ cv.ownBlock) : NSt w (wr.setCell ⟨V, 12, none⟩ v) g A n cap s l c sh q o m cap' zs V (N.setIfInBounds 12 v) cv v :=
  h.set L 12 _ cv v (h.shp.more v) h.cer hv h.nc hn (.inr hm)
/-- Another variable is written. -/
theorem NSt.other (h : NSt w wr g A n cap s l c sh q o m cap' zs V N cv mv) (L : Lie w g q V) {X : Nat} (hX : w.heap.size + 2 ≤ X) (hV : X ≠ V) (hc : cv.ownBlock ≠ some X) (hm : mv.ownBlock ≠ some X) (i : Nat) (u : Value) : NSt w (wr.setCell ⟨X, i, none⟩ u) g A n cap s l c sh q o m cap' zs V N cv mv := by
  have h1 := L.gl
  have hg : wr.grownBy (wr.setCell ⟨X, i, none⟩ u) (some X) := grown_set (grown_refl wr _) i u
  exact ⟨h.cur.kept hg (fun r hr => by injection hr with hr; omega), grown_new h.grw (p := ⟨X, i, none⟩) (show w.heap.size ≤ X by omega) u, h.gr.kept hg (by intro e; injection e with e; omega), h.res.kept hg (by intro e; injection e with e; omega), h.row.keptB h.grw.size hg (fun k hk => by injection hk with hk; exact .inl (by omega)),
    h.var.kept hg (by intro e; injection e with e; omega), h.shp, h.cer.kept hg (.inr hc), h.mor.kept hg (.inr hm), h.nc, h.nm, h.cm⟩
/-- What l4Draw answers is such a list, behind all that is there. -/
theorem NSt.list (h : NSt w wr g A n cap s l c sh q o m cap' zs V N cv mv) {p pc : Nat} {ps : List (Int × Int)} (hl : ps.length ≤ 20) (ho : w'.ownsRow (wr.heap.size + 2) 136 2 (.slice (some ⟨p, 0, none⟩) ps.length pc) ps.length (flatP ps)) :
    Lst w' (w.heap.size + 2) 20 (.slice (some ⟨p, 0, none⟩) ps.length pc) ∧ (Value.slice (some ⟨p, 0, none⟩) ps.length pc).ownBlock ≠ some V ∧ (Value.slice (some ⟨p, 0, none⟩) ps.length pc).ownBlock ≠ cv.ownBlock := by
  have h1 := h.grw.size
  have h2 := (ho.lt p rfl).1
  have h3 := h.var.lt
  refine ⟨⟨ps, hl, own_base ho (by omega)⟩, by simp [Value.ownBlock]; omega, fun e => ?_⟩
  have h4 := (h.cer.lt p (by rw [← e]; rfl)).2
  omega
theorem NSt.cell (h : NSt w wr g A n cap s l c sh q o m cap' zs V N cv mv) {i : Nat} {u : Value} (hi : N[i]? = some u) : wr.cell? ⟨V, i, none⟩ = some u := (h.var.cell i).trans hi
theorem NSt.held (h : NSt w wr g A n cap s l c sh q o m cap' zs V N cv mv) {i1 i2 i3 : Nat} {x4 y1 y2 y3 : Int} (n4 : N[4]? = some (.int .i64 x4)) (h1 : N[i1]? = some (.int .i64 y1)) (h2 : N[i2]? = some (.int .i64 y2)) (h3 : N[i3]? = some (.int .i64 y3)) :
    wr.cell? ⟨w.heap.size, 0, none⟩ = some (.int .i64 s) ∧ wr.cell? ⟨w.heap.size, 1, none⟩ = some (.int .i64 l) ∧ wr.cell? ⟨w.heap.size, 2, none⟩ = some (.int .i64 c) ∧ wr.cell? ⟨w.heap.size, 3, none⟩ = some (.int .i64 sh) ∧ wr.cell? ⟨w.heap.size, 4, none⟩ = some (.slice (some ⟨q, o, none⟩) m cap') ∧
    wr.cell? ⟨V, 4, none⟩ = some (.int .i64 x4) ∧ wr.cell? ⟨V, i1, none⟩ = some (.int .i64 y1) ∧ wr.cell? ⟨V, i2, none⟩ = some (.int .i64 y2) ∧ wr.cell? ⟨V, i3, none⟩ = some (.int .i64 y3) :=
  ⟨h.gr.cell 0, h.gr.cell 1, h.gr.cell 2, h.gr.cell 3, h.gr.cell 4, h.cell n4, h.cell h1, h.cell h2, h.cell h3⟩
end

/-- What the draw of a note leaves. -/
def DrawnNote (g : Nat) (A : Option Addr) (n cap : Nat) (w : World) (e : Ending) (w' : World) : Prop :=
  ∃ (N : Array Value) (cv mv : Value), e = .returned (.agg N) ∧ Shape N cv mv ∧ Lst w' (w.heap.size + 2) 20 cv ∧ Lst w' (w.heap.size + 2) 20 mv ∧ (mv.ownBlock = none ∨ mv.ownBlock ≠ cv.ownBlock) ∧ Cur w' 169 .i64 g A n cap ∧ w.grownBy w' (some g)
/-- The note is written into the answer's variable, and answered. -/
theorem NSt.fin {w wr : World} {g : Nat} {A : Option Addr} {n cap : Nat} {s l c sh : Int} {q o m cap' : Nat} {zs : List Int} {V : Nat} {N : Array Value} {cv mv : Value} (h : NSt w wr g A n cap s l c sh q o m cap' zs V N cv mv) (L : Lie w g q V) :
    Box (wr.setRow (w.heap.size + 1) N) (w.heap.size + 1) 85 N ∧ Lst (wr.setRow (w.heap.size + 1) N) (w.heap.size + 2) 20 cv ∧ Lst (wr.setRow (w.heap.size + 1) N) (w.heap.size + 2) 20 mv ∧ Cur (wr.setRow (w.heap.size + 1) N) 169 .i64 g A n cap ∧ w.grownBy (wr.setRow (w.heap.size + 1) N) (some g) := by
  have h1 := L.gl
  have hg : wr.grownBy (wr.setRow (w.heap.size + 1) N) (some (w.heap.size + 1)) := grown_setRow (grown_refl wr _) N
  exact ⟨h.res.setRow N, h.cer.kept hg (.inr (ne_of_lt h.cer (by omega))), h.mor.kept hg (.inr (ne_of_lt h.mor (by omega))), h.cur.kept hg (fun r hr => by injection hr with hr; omega), grown_far h.grw hg (fun r hr => by injection hr with hr; omega)⟩
theorem sizeZN : ZN.size = 16 := rfl

theorem l4Wrote_is (x ct cq v : Int) (w : World) : Calls Tryz.prog 162 #[.int .i64 x, .agg #[.int .i64 ct, .int .i64 cq], .int .i64 v] w fun e w' => e = .returned (.agg #[.int .i64 2, .int .i64 x, .int .i64 ct, .int .i64 cq, .int .i64 v]) ∧ Below w.heap.size w w' := by
  have E0 := bel_trans (bel_alloc w (.cells #[.int .i64 ct, .int .i64 cq] 39)) (bel_alloc _ (.cells #[.int .i64 0, .int .i64 0, .int .i64 0, .int .i64 0, .int .i64 0] 180))
  obtain ⟨d0, d1⟩ := ((Box.new w 39 #[.int .i64 ct, .int .i64 cq]).alloc (.cells #[.int .i64 0, .int .i64 0, .int .i64 0, .int .i64 0, .int .i64 0] 180)).two
  go_enter Tryz.func162, Tryz.ntmps162
  go_wp2
  exact bodyPost_ret (v := .agg #[.int .i64 2, .int .i64 x, .int .i64 ct, .int .i64 cq, .int .i64 v]) (by simp [results, Tryz.results162, go_sem]) rfl
    ⟨rfl, by first | exact bel_trans (bel_alloc _ _) (bel_alloc _ _) | exact ((((E0.setCell (by simp) _).setCell (by simp) _).setCell (by simp) _).setCell (by simp) _).setCell (by simp) _⟩

end Go.Proofs.YtjdepjpjjgkmbaaGreat

/- What the model's draw of a group and a note out of the code leaves: words for it; no conditions. -/
namespace Go.Proofs.YtjdepjpjjgkmbaaGreat
open Go.RowKit

theorem cput16 {w : World} {g : Nat} {t : TypeId} {z0 z1 z2 z3 z4 z5 z6 z7 z8 z9 z10 z11 z12 z13 z14 z15 : Value} (h : Box w g t #[z0, z1, z2, z3, z4, z5, z6, z7, z8, z9, z10, z11, z12, z13, z14, z15]) (u0 u1 u2 u3 u4 u5 u6 u7 u8 u9 u10 u11 u12 u13 u14 u15 : Value) :
    Box ((((((((((((((((w.setCell ⟨g, 0, none⟩ u0).setCell ⟨g, 1, none⟩ u1).setCell ⟨g, 2, none⟩ u2).setCell ⟨g, 3, none⟩ u3).setCell ⟨g, 4, none⟩ u4).setCell ⟨g, 5, none⟩ u5).setCell ⟨g, 6, none⟩ u6).setCell ⟨g, 7, none⟩ u7).setCell ⟨g, 8, none⟩ u8).setCell ⟨g, 9, none⟩ u9).setCell ⟨g, 10, none⟩ u10).setCell ⟨g, 11, none⟩ u11).setCell ⟨g, 12, none⟩ u12).setCell ⟨g, 13, none⟩ u13).setCell ⟨g, 14, none⟩ u14).setCell ⟨g, 15, none⟩ u15) g t #[u0, u1, u2, u3, u4, u5, u6, u7, u8, u9, u10, u11, u12, u13, u14, u15] := by
  have h := (((((((((((((((h.set 0 u0).set 1 u1).set 2 u2).set 3 u3).set 4 u4).set 5 u5).set 6 u6).set 7 u7).set 8 u8).set 9 u9).set 10 u10).set 11 u11).set 12 u12).set 13 u13).set 14 u14).set 15 u15
  simp only [List.setIfInBounds_toArray, List.set_cons_zero, List.set_cons_succ] at h
  exact h
theorem cgrown16 (w : World) (g : Nat) (u0 u1 u2 u3 u4 u5 u6 u7 u8 u9 u10 u11 u12 u13 u14 u15 : Value) :
    w.grownBy ((((((((((((((((w.setCell ⟨g, 0, none⟩ u0).setCell ⟨g, 1, none⟩ u1).setCell ⟨g, 2, none⟩ u2).setCell ⟨g, 3, none⟩ u3).setCell ⟨g, 4, none⟩ u4).setCell ⟨g, 5, none⟩ u5).setCell ⟨g, 6, none⟩ u6).setCell ⟨g, 7, none⟩ u7).setCell ⟨g, 8, none⟩ u8).setCell ⟨g, 9, none⟩ u9).setCell ⟨g, 10, none⟩ u10).setCell ⟨g, 11, none⟩ u11).setCell ⟨g, 12, none⟩ u12).setCell ⟨g, 13, none⟩ u13).setCell ⟨g, 14, none⟩ u14).setCell ⟨g, 15, none⟩ u15) (some g) :=
  grown_set (grown_set (grown_set (grown_set (grown_set (grown_set (grown_set (grown_set (grown_set (grown_set (grown_set (grown_set (grown_set (grown_set (grown_set (grown_set (grown_refl w _) 0 u0) 1 u1) 2 u2) 3 u3) 4 u4) 5 u5) 6 u6) 7 u7) 8 u8) 9 u9) 10 u10) 11 u11) 12 u12) 13 u13) 14 u14) 15 u15

theorem cfar16 {w : World} {g R : Nat} {t : TypeId} {cs : Array Value} (h : Box w g t cs) (hR : R ≠ g) (u0 u1 u2 u3 u4 u5 u6 u7 u8 u9 u10 u11 u12 u13 u14 u15 : Value) :
    Box ((((((((((((((((w.setCell ⟨R, 0, none⟩ u0).setCell ⟨R, 1, none⟩ u1).setCell ⟨R, 2, none⟩ u2).setCell ⟨R, 3, none⟩ u3).setCell ⟨R, 4, none⟩ u4).setCell ⟨R, 5, none⟩ u5).setCell ⟨R, 6, none⟩ u6).setCell ⟨R, 7, none⟩ u7).setCell ⟨R, 8, none⟩ u8).setCell ⟨R, 9, none⟩ u9).setCell ⟨R, 10, none⟩ u10).setCell ⟨R, 11, none⟩ u11).setCell ⟨R, 12, none⟩ u12).setCell ⟨R, 13, none⟩ u13).setCell ⟨R, 14, none⟩ u14).setCell ⟨R, 15, none⟩ u15) g t cs :=
  ((((((((((((((((h.far (p := ⟨R, 0, none⟩) hR u0).far (p := ⟨R, 1, none⟩) hR u1).far (p := ⟨R, 2, none⟩) hR u2).far (p := ⟨R, 3, none⟩) hR u3).far (p := ⟨R, 4, none⟩) hR u4).far (p := ⟨R, 5, none⟩) hR u5).far (p := ⟨R, 6, none⟩) hR u6).far (p := ⟨R, 7, none⟩) hR u7).far (p := ⟨R, 8, none⟩) hR u8).far (p := ⟨R, 9, none⟩) hR u9).far (p := ⟨R, 10, none⟩) hR u10).far (p := ⟨R, 11, none⟩) hR u11).far (p := ⟨R, 12, none⟩) hR u12).far (p := ⟨R, 13, none⟩) hR u13).far (p := ⟨R, 14, none⟩) hR u14).far (p := ⟨R, 15, none⟩) hR u15)

/-- The zero group. -/
def ZG : Array Value := #[.int .i64 0, .int .i64 0, .int .i64 0, .int .i64 0, .slice none 0 0]

/-- What the drawing of a group and a note keeps. -/
structure NAs (w wr : World) (g : Nat) (A : Option Addr) (n cap : Nat) (U V : Nat) (s l c sh : Int) (q o m cap' : Nat) (zs : List Int) (N : Array Value) (cv mv : Value) (k : Nat) : Prop where
  cur : Cur wr 169 .i64 g A n cap
  grw : w.grownBy wr (some g)
  r1 : Box wr w.heap.size 26 ZG
  r2 : Box wr (w.heap.size + 1) 85 ZN
  gr : Box wr U 26 #[.int .i64 s, .int .i64 l, .int .i64 c, .int .i64 sh, .slice (some ⟨q, o, none⟩) m cap']
  row : Row wr wr.heap.size (some ⟨q, o, none⟩) m zs
  hm : m ≤ 100
  var : Box wr V 85 N
  shp : Shape N cv mv
  cer : Lst wr (w.heap.size + 2) k cv
  mor : Lst wr (w.heap.size + 2) 20 mv
  gl : g < w.heap.size
  gq : g ≠ q
  q2 : w.heap.size + 2 ≤ q
  qU : q ≠ U
  qV : q ≠ V
  UV : U ≠ V
  Ul : w.heap.size + 2 ≤ U
  Vl : w.heap.size + 2 ≤ V
  cU : cv.ownBlock ≠ some U
  cV : cv.ownBlock ≠ some V
  cq : m = 0 ∨ cv.ownBlock ≠ some q
  mU : mv.ownBlock ≠ some U
  mV : mv.ownBlock ≠ some V
  cm : mv.ownBlock = none ∨ mv.ownBlock ≠ cv.ownBlock
section
variable {w wr w' : World} {g : Nat} {A : Option Addr} {n cap : Nat} {U V : Nat} {s l c sh : Int} {q o m cap' : Nat} {zs : List Int} {N : Array Value} {cv mv : Value} {k : Nat}
theorem NAs.draw (h : NAs w wr g A n cap U V s l c sh q o m cap' zs N cv mv k) (hg : wr.grownBy w' (some g)) (hc : Cur w' 169 .i64 g A n cap) : NAs w w' g A n cap U V s l c sh q o m cap' zs N cv mv k := by
  have h1 := h.gl
  have h2 := h.Ul
  have h3 := h.Vl
  have h4 := h.gq
  exact { h with
    cur := hc
    grw := grown_trans h.grw hg
    r1 := h.r1.kept hg (by intro e; injection e with e; omega)
    r2 := h.r2.kept hg (by intro e; injection e with e; omega)
    gr := h.gr.kept hg (by intro e; injection e with e; omega)
    row := h.row.kept hg (by intro e; injection e with e; omega)
    var := h.var.kept hg (by intro e; injection e with e; omega)
    cer := h.cer.kept hg (.inr (ne_of_lt h.cer (by omega)))
    mor := h.mor.kept hg (.inr (ne_of_lt h.mor (by omega))) }
theorem NAs.put (h : NAs w wr g A n cap U V s l c sh q o m cap' zs N cv mv k) (i : Nat) (hi : isNum i) (z : Int) : NAs w (wr.setCell ⟨V, i, none⟩ (.int .i64 z)) g A n cap U V s l c sh q o m cap' zs (N.setIfInBounds i (.int .i64 z)) cv mv k := by
  have h1 := h.gl
  have h2 := h.Ul
  have h3 := h.Vl
  have h4 := h.qV
  have h5 := h.UV
  have hg : wr.grownBy (wr.setCell ⟨V, i, none⟩ (.int .i64 z)) (some V) := grown_set (grown_refl wr _) i _
  exact { h with
    cur := h.cur.kept hg (fun r hr => by injection hr with hr; omega)
    grw := grown_new h.grw (p := ⟨V, i, none⟩) (show w.heap.size ≤ V by omega) _
    r1 := h.r1.kept hg (by intro e; injection e with e; omega)
    r2 := h.r2.kept hg (by intro e; injection e with e; omega)
    gr := h.gr.kept hg (by intro e; injection e with e; omega)
    row := h.row.kept hg (by intro e; injection e with e; omega)
    var := h.var.set i _
    shp := h.shp.put hi z
    cer := h.cer.kept hg (.inr h.cV)
    mor := h.mor.kept hg (.inr h.mV) }
/-- Another group is written into its variable. -/
theorem NAs.group (h : NAs w wr g A n cap U V s l c sh q o m cap' zs N cv mv k) {s' l' c' sh' : Int} {q' o' m' cap2 : Nat} {zs' : List Int} (hg : wr.grownBy w' (some g)) (hc : Cur w' 169 .i64 g A n cap) (hq : wr.heap.size ≤ q') (hr : Row w' w'.heap.size (some ⟨q', o', none⟩) m' zs') (hm' : m' ≤ 100) :
    NAs w (((((w'.setCell ⟨U, 0, none⟩ (.int .i64 s')).setCell ⟨U, 1, none⟩ (.int .i64 l')).setCell ⟨U, 2, none⟩ (.int .i64 c')).setCell ⟨U, 3, none⟩ (.int .i64 sh')).setCell ⟨U, 4, none⟩ (.slice (some ⟨q', o', none⟩) m' cap2)) g A n cap U V s' l' c' sh' q' o' m' cap2 zs' N cv mv k := by
  have h1 := h.gl
  have h2 := h.Ul
  have h3 := h.Vl
  have h4 := h.gr.lt
  have h5 := h.var.lt
  have h6 := h.grw.size
  have h7 := h.UV
  have H := h.draw hg hc
  have G := grown5 w' U (.int .i64 s') (.int .i64 l') (.int .i64 c') (.int .i64 sh') (.slice (some ⟨q', o', none⟩) m' cap2)
  exact { H with
    cur := H.cur.kept G (fun r hr => by injection hr with hr; omega)
    grw := grown_far H.grw G (fun r hr => by injection hr with hr; omega)
    r1 := H.r1.kept G (by intro e; injection e with e; omega)
    r2 := H.r2.kept G (by intro e; injection e with e; omega)
    gr := H.gr.put5 _ _ _ _ _
    row := hr.kept G (by intro e; injection e with e; omega)
    hm := hm'
    var := H.var.kept G (by intro e; injection e with e; omega)
    cer := H.cer.kept G (.inr H.cU)
    mor := H.mor.kept G (.inr H.mU)
    gq := by omega
    q2 := by omega
    qU := by omega
    qV := by omega
    cq := .inr (fun e => by have := (h.cer.lt _ e).2; omega) }
/-- A list is written into the note's certificate. -/
theorem NAs.cert (h : NAs w wr g A n cap U V s l c sh q o m cap' zs N cv mv k) {v : Value} {k' : Nat} (hg : wr.grownBy w' cv.ownBlock) (hv : Lst w' (w.heap.size + 2) k' v) (hat : cv.ownBlock = v.ownBlock ∨ ∃ b, v.ownBlock = some b ∧ wr.heap.size ≤ b) :
    NAs w (w'.setCell ⟨V, 11, none⟩ v) g A n cap U V s l c sh q o m cap' zs (N.setIfInBounds 11 v) v mv k' := by
  have h1 := h.gl
  have h2 := h.Ul
  have h3 := h.Vl
  have h4 := h.gr.lt
  have h5 := h.var.lt
  have h6 := h.grw.size
  have h7 := h.UV
  have h8 := h.qV
  have hqd : q < wr.heap.size ∨ m = 0 := by
    rcases Nat.eq_zero_or_pos m with e | e
    · exact .inr e
    · obtain ⟨b, o', hA, hb, _⟩ := h.row.2 e
      cases hA
      exact .inl hb
  have far : ∀ b, b < w.heap.size + 2 → cv.ownBlock ≠ some b := fun b hb e => by have := (h.cer.lt b e).1; omega
  have ne : ∀ b, b < wr.heap.size → cv.ownBlock ≠ some b → v.ownBlock ≠ some b := fun b hb hc e => by
    rcases hat with ha | ⟨x, hx, hx'⟩
    · exact hc (ha.trans e)
    · rw [hx] at e; injection e with e; omega
  have G : w'.grownBy (w'.setCell ⟨V, 11, none⟩ v) (some V) := grown_set (grown_refl w' _) 11 _
  have nV := ne V h5 h.cV
  have hgrw : w.grownBy w' (some g) := ⟨hg.os.trans h.grw.os, hg.tape.trans h.grw.tape, hg.output.trans h.grw.output, Nat.le_trans h.grw.size hg.size, fun i hi hne => (hg.block i (by omega) (fun e => far i (by omega) e.symm)).trans (h.grw.block i hi hne)⟩
  have hcur := h.cur.kept hg (fun r hr => by have := (h.cer.lt r hr).1; omega)
  have hmor : Lst w' (w.heap.size + 2) 20 mv := h.mor.kept hg h.cm
  have hrow : Row w' w'.heap.size (some ⟨q, o, none⟩) m zs := by
    rcases h.cq with e | e
    · exact ⟨h.row.1, fun h' => absurd h' (by omega)⟩
    · exact h.row.kept hg e
  refine { h with
    cur := hcur.kept G (fun r hr => by injection hr with hr; omega)
    grw := grown_far hgrw G (fun r hr => by injection hr with hr; omega)
    r1 := (h.r1.kept hg (far _ (by omega))).kept G (by intro e; injection e with e; omega)
    r2 := (h.r2.kept hg (far _ (by omega))).kept G (by intro e; injection e with e; omega)
    gr := (h.gr.kept hg h.cU).kept G (by intro e; injection e with e; omega)
    row := hrow.kept G (by intro e; injection e with e; omega)
    var := (h.var.kept hg h.cV).set 11 v
    shp := h.shp.cert v
    cer := hv.kept G (.inr nV)
    mor := hmor.kept G (.inr h.mV)
    cU := ne U h4 h.cU
    cV := nV
    cq := ?_
    cm := ?_ }
  · rcases hqd with hq | hq
    · rcases h.cq with e | e
      · exact .inl e
      · exact .inr (ne q hq e)
    · exact .inl hq
  · rcases e : mv.ownBlock with _ | b
    · exact .inl rfl
    · right
      intro e'
      have hb := (h.mor.lt b e).2
      refine ne b hb ?_ e'.symm
      rcases h.cm with h' | h'
      · rw [e] at h'; cases h'
      · intro e2; rw [e, e2] at h'; exact h' rfl
/-- The state behind the making of the note's variable. -/
theorem NAs.mk1 {w2 : World} (hgl : g < w.heap.size) (E : w.grownBy w2 (some g)) (R1 : Box w2 w.heap.size 26 ZG) (R2 : Box w2 (w.heap.size + 1) 85 ZN) (U2 : Box w2 U 26 #[.int .i64 s, .int .i64 l, .int .i64 c, .int .i64 sh, .slice (some ⟨q, o, none⟩) m cap']) (r2 : Row w2 w2.heap.size (some ⟨q, o, none⟩) m zs) (hm : m ≤ 100)
    (hq2 : w.heap.size + 2 ≤ q) (hql : q < w2.heap.size) (hqU : q ≠ U) (hU : w.heap.size + 2 ≤ U) (hg : w2.grownBy wr (some g)) (hc : Cur wr 169 .i64 g A n cap) (hV : w2.heap.size ≤ V) (B : Box wr V 85 N) (hs : Shape N cv mv)
    (hcer : Lst wr (w2.heap.size + 2) 20 cv) (hmor : Lst wr (w2.heap.size + 2) 20 mv) (hcV : cv.ownBlock ≠ some V) (hmV : mv.ownBlock ≠ some V) (hcm : mv.ownBlock = none ∨ mv.ownBlock ≠ cv.ownBlock) :
    ∃ V' N' cv' mv', Value.pointer (some ⟨V, 0, none⟩) = .pointer (some ⟨V', 0, none⟩) ∧ NAs w wr g A n cap U V' s l c sh q o m cap' zs N' cv' mv' 20 := by
  have hz := R2.lt
  have hUl := U2.lt
  exact ⟨V, N, cv, mv, rfl, hc, grown_trans E hg, R1.kept hg (by intro e; injection e with e; omega), R2.kept hg (by intro e; injection e with e; omega), U2.kept hg (by intro e; injection e with e; omega), r2.kept hg (by intro e; injection e with e; omega), hm, B, hs, hcer.base (by omega), hmor.base (by omega),
    hgl, by omega, hq2, hqU, by omega, by omega, hU, by omega, ne_of_lt hcer (by omega), hcV, .inr (ne_of_lt hcer (by omega)), ne_of_lt hmor (by omega), hmV, hcm⟩
/-- The same, the note stored cell by cell into the variable. -/
theorem NAs.mk16 {w2 w4 : World} {u0 u1 u2 u3 u4 u5 u6 u7 u8 u9 u10 u11 u12 u13 u14 u15 : Value} (hgl : g < w.heap.size) (E : w.grownBy w2 (some g)) (R1 : Box w2 w.heap.size 26 ZG) (R2 : Box w2 (w.heap.size + 1) 85 ZN) (U2 : Box w2 U 26 #[.int .i64 s, .int .i64 l, .int .i64 c, .int .i64 sh, .slice (some ⟨q, o, none⟩) m cap']) (r2 : Row w2 w2.heap.size (some ⟨q, o, none⟩) m zs) (hm : m ≤ 100)
    (hq2 : w.heap.size + 2 ≤ q) (hql : q < w2.heap.size) (hqU : q ≠ U) (hU : w.heap.size + 2 ≤ U) (hg : w2.grownBy w4 (some g)) (hc : Cur w4 169 .i64 g A n cap) (hV : w2.heap.size ≤ V) (B : Box w4 V 85 #[.int .i64 0, .int .i64 0, .int .i64 0, .int .i64 0, .int .i64 0, .int .i64 0, .int .i64 0, .int .i64 0, .int .i64 0, .int .i64 0, .int .i64 0, .slice none 0 0, .slice none 0 0, .int .i64 0, .int .i64 0, .int .i64 0]) (hs : Shape #[u0, u1, u2, u3, u4, u5, u6, u7, u8, u9, u10, u11, u12, u13, u14, u15] cv mv)
    (hcer : Lst w4 (w2.heap.size + 2) 20 cv) (hmor : Lst w4 (w2.heap.size + 2) 20 mv) (hcV : cv.ownBlock ≠ some V) (hmV : mv.ownBlock ≠ some V) (hcm : mv.ownBlock = none ∨ mv.ownBlock ≠ cv.ownBlock) :
    ∃ V' N' cv' mv', Value.pointer (some ⟨V, 0, none⟩) = .pointer (some ⟨V', 0, none⟩) ∧ NAs w ((((((((((((((((w4.setCell ⟨V, 0, none⟩ (u0)).setCell ⟨V, 1, none⟩ (u1)).setCell ⟨V, 2, none⟩ (u2)).setCell ⟨V, 3, none⟩ (u3)).setCell ⟨V, 4, none⟩ (u4)).setCell ⟨V, 5, none⟩ (u5)).setCell ⟨V, 6, none⟩ (u6)).setCell ⟨V, 7, none⟩ (u7)).setCell ⟨V, 8, none⟩ (u8)).setCell ⟨V, 9, none⟩ (u9)).setCell ⟨V, 10, none⟩ (u10)).setCell ⟨V, 11, none⟩ (u11)).setCell ⟨V, 12, none⟩ (u12)).setCell ⟨V, 13, none⟩ (u13)).setCell ⟨V, 14, none⟩ (u14)).setCell ⟨V, 15, none⟩ (u15)) g A n cap U V' s l c sh q o m cap' zs N' cv' mv' 20 := by
  have hz := R2.lt
  have hG := cgrown16 w4 V u0 u1 u2 u3 u4 u5 u6 u7 u8 u9 u10 u11 u12 u13 u14 u15
  exact NAs.mk1 hgl E R1 R2 U2 r2 hm hq2 hql hqU hU (grown_far hg hG (fun r hr => by injection hr with hr; omega)) (hc.kept hG (fun r hr => by injection hr with hr; omega)) hV (cput16 B u0 u1 u2 u3 u4 u5 u6 u7 u8 u9 u10 u11 u12 u13 u14 u15) hs (hcer.kept hG (.inr hcV)) (hmor.kept hG (.inr hmV)) hcV hmV hcm
/-- Both are written into the answer's variables. -/
theorem NAs.fin {wx wf : World} (h : NAs w wr g A n cap U V s l c sh q o m cap' zs N cv mv k) (G1 : wr.grownBy wx (some w.heap.size)) (G2 : wx.grownBy wf (some (w.heap.size + 1))) :
    Row wf wf.heap.size (some ⟨q, o, none⟩) m zs ∧ Lst wf (w.heap.size + 2) k cv ∧ Lst wf (w.heap.size + 2) 20 mv ∧ Cur wf 169 .i64 g A n cap ∧ w.grownBy wf (some g) := by
  have h1 := h.gl
  have h2 := h.q2
  exact ⟨(h.row.kept G1 (by intro e; injection e with e; omega)).kept G2 (by intro e; injection e with e; omega),
    (h.cer.kept G1 (.inr (ne_of_lt h.cer (by omega)))).kept G2 (.inr (ne_of_lt h.cer (by omega))), (h.mor.kept G1 (.inr (ne_of_lt h.mor (by omega)))).kept G2 (.inr (ne_of_lt h.mor (by omega))),
    (h.cur.kept G1 (fun r hr => by injection hr with hr; omega)).kept G2 (fun r hr => by injection hr with hr; omega), grown_far (grown_far h.grw G1 (fun r hr => by injection hr with hr; omega)) G2 (fun r hr => by injection hr with hr; omega)⟩
theorem NAs.at11 (h : NAs w wr g A n cap U V s l c sh q o m cap' zs N cv mv k) : wr.cell? ⟨V, 11, none⟩ = some cv := (h.var.cell 11).trans h.shp.at11
theorem NAs.new11 (h : NAs w wr g A n cap U V s l c sh q o m cap' zs N cv mv k) (ob : Obj) : (wr.alloc ob).cell? ⟨V, 11, none⟩ = some cv := ((h.var.alloc ob).cell 11).trans h.shp.at11
end

end Go.Proofs.YtjdepjpjjgkmbaaGreat
