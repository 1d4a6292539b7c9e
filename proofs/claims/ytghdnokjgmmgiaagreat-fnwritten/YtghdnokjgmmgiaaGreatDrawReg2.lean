/- The model's l7Draw: a shelf of a group, its lists one's own. -/
import Derived.Test.YtghdnokjgmmgiaaGreatDrawReg1
import Derived.Test.YtghdnokjgmmgiaaGreatRegOwn2
namespace Go.Proofs.YtghdnokjgmmgiaaGreat
open Go.RowKit Go.Deep

/-- A row of one's own is a slice of its length. -/
theorem own_form {w : World} {base : Nat} {t : TypeId} {size : Nat} {v : Value} {n : Nat} {xs : List Value} (h : w.ownsRow base t size v n xs) : ∃ A c, v = .slice A n c := by
  rcases h.2 with ⟨e, h0⟩ | ⟨g, cap, cur, e, _⟩
  · exact ⟨none, 0, by rw [e, h0]⟩
  · exact ⟨_, _, e⟩

/-- What l7Draw keeps while it draws the opens. -/
structure RSt (w wr : World) (g : Nat) (A : Option Addr) (n cap : Nat) (s l c sh : Int) (q o m cap' : Nat) (zs : List Int) (v : Value) (os : List Opn) : Prop where
  cur : Cur wr 102 .i64 g A n cap
  grw : w.grownBy wr (some g)
  G : Box wr w.heap.size 26 #[.int .i64 s, .int .i64 l, .int .i64 c, .int .i64 sh, .slice (some ⟨q, o, none⟩) m cap']
  X : Box wr (w.heap.size + 1) 32 #[.int .i64 0, .int .i64 0, .int .i64 0, .slice none 0 0, .slice none 0 0]
  Y : Box wr (w.heap.size + 1 + 1) 32 #[.int .i64 0, .int .i64 0, .int .i64 0, .slice none 0 0, v]
  own : wr.ownsRow (w.heap.size + 3) 82 4 v os.length (flatO os)
  row : Row wr w.heap.size (some ⟨q, o, none⟩) m zs
/-- What is drawn: a shelf whose lists are one's own, and the cursor further on. -/
def DrawnReg (g : Nat) (A : Option Addr) (n cap : Nat) (w : World) (e : Ending) (w' : World) : Prop :=
  ∃ (a b d : Int) (u v : Value) (ps : List (Int × Int)) (os : List Opn), e = .returned (.agg #[.int .i64 a, .int .i64 b, .int .i64 d, u, v]) ∧ ps.length ≤ 20 ∧ os.length ≤ 6 ∧ w'.ownsRow w.heap.size 94 2 u ps.length (flatP ps) ∧ w'.ownsRow w.heap.size 82 4 v os.length (flatO os) ∧ (u.ownBlock = none ∨ u.ownBlock ≠ v.ownBlock) ∧ Cur w' 102 .i64 g A n cap ∧ w.grownBy w' (some g)
section
variable {w wr w' : World} {g : Nat} {A : Option Addr} {n cap : Nat} {s l c sh : Int} {q o m cap' : Nat} {zs : List Int} {v v' : Value} {os os' : List Opn}
theorem RSt.low (h : RSt w wr g A n cap s l c sh q o m cap' zs v os) (b : Nat) (e : v.ownBlock = some b) : w.heap.size + 3 ≤ b := (h.own.lt b e).1
theorem RSt.later (h : RSt w wr g A n cap s l c sh q o m cap' zs v os) (hb : Below wr.heap.size wr w') : RSt w w' g A n cap s l c sh q o m cap' zs v os :=
  ⟨h.cur.kept (grown_bel hb none) (fun q hq => by cases hq), grown_trans h.grw (grown_bel hb _), h.G.later hb h.G.lt, h.X.later hb h.X.lt, h.Y.later hb h.Y.lt, h.own.kept (grown_bel hb none) (by cases v.ownBlock <;> simp), h.row.below hb h.grw.size⟩
theorem RSt.draw (h : RSt w wr g A n cap s l c sh q o m cap' zs v os) (hgl : g < w.heap.size) (hgq : g ≠ q) (hg : wr.grownBy w' (some g)) (hc : Cur w' 102 .i64 g A n cap) : RSt w w' g A n cap s l c sh q o m cap' zs v os :=
  ⟨hc, grown_trans h.grw hg, h.G.kept hg (by intro e; injection e with e; omega), h.X.kept hg (by intro e; injection e with e; omega), h.Y.kept hg (by intro e; injection e with e; omega), h.own.kept hg (.inr (fun e => by have := h.low g e; omega)), h.row.keptB h.grw.size hg (fun k hk => by injection hk with hk; exact .inr (by omega))⟩
/-- An open more, and the list is laid back. -/
theorem RSt.push {wd : World} (h : RSt w wr g A n cap s l c sh q o m cap' zs v os) (hgl : g < w.heap.size) (gd : wr.grownBy wd v.ownBlock) (ho : wd.ownsRow (w.heap.size + 3) 82 4 v' os'.length (flatO os')) : RSt w (wd.setCell ⟨w.heap.size + 1 + 1, 4, none⟩ v') g A n cap s l c sh q o m cap' zs v' os' := by
  have hl := h.low
  have gs : wd.grownBy (wd.setCell ⟨w.heap.size + 1 + 1, 4, none⟩ v') (some (w.heap.size + 1 + 1)) := grown_set (grown_refl wd _) 4 v'
  have hne : ∀ b : Nat, b < w.heap.size + 3 → v.ownBlock ≠ some b := fun b hb e => by have := hl b e; omega
  have hrow := h.row.keptB h.grw.size gd (fun k hk => by have := hl k hk; exact .inl (by omega))
  refine ⟨(h.cur.kept gd (fun k hk => by have := hl k hk; omega)).kept gs (fun k hk => by injection hk with hk; omega), grown_far (grown_far h.grw gd (fun k hk => by have := hl k hk; omega)) gs (fun k hk => by injection hk with hk; omega), (h.G.kept gd (hne _ (by omega))).kept gs (by intro e; injection e with e; omega), (h.X.kept gd (hne _ (by omega))).kept gs (by intro e; injection e with e; omega), (h.Y.kept gd (hne _ (by omega))).set 4 v', ho.kept gs (.inr (fun e => by have := (ho.lt _ e).1; omega)), hrow.keptB (Nat.le_trans h.grw.size gd.size) gs (fun k hk => by injection hk with hk; exact .inl (by omega))⟩
/-- A cell of a block behind the shelf's is written. -/
theorem RSt.far (h : RSt w wr g A n cap s l c sh q o m cap' zs v os) (hgl : g < w.heap.size) {S : Nat} (hS : w.heap.size + 1 + 1 < S) (hv : ∀ b, v.ownBlock = some b → b ≠ S) (k : Nat) (u : Value) : RSt w (wr.setCell ⟨S, k, none⟩ u) g A n cap s l c sh q o m cap' zs v os := by
  have hg : wr.grownBy (wr.setCell ⟨S, k, none⟩ u) (some S) := grown_set (grown_refl wr _) k u
  exact ⟨h.cur.kept hg (fun r hr => by injection hr with hr; omega), grown_new h.grw (p := ⟨S, k, none⟩) (show w.heap.size ≤ S by omega) u, h.G.kept hg (by intro e; injection e with e; omega), h.X.kept hg (by intro e; injection e with e; omega), h.Y.kept hg (by intro e; injection e with e; omega), h.own.kept hg (.inr (fun e => hv S e rfl)), h.row.keptB h.grw.size hg (fun k hk => by injection hk with hk; exact .inl (by omega))⟩
/-- Nothing written: the shelf is answered as it is. -/
theorem RSt.fin (h : RSt w wr g A n cap s l c sh q o m cap' zs v os) (hgl : g < w.heap.size) (hol : os.length ≤ 6) (x0 x1 x2 x3 x4 : Value) :
    DrawnReg g A n cap w (.returned (.agg #[.int .i64 0, .int .i64 0, .int .i64 0, .slice none 0 0, v])) (((((wr.setCell ⟨w.heap.size + 1, 0, none⟩ x0).setCell ⟨w.heap.size + 1, 1, none⟩ x1).setCell ⟨w.heap.size + 1, 2, none⟩ x2).setCell ⟨w.heap.size + 1, 3, none⟩ x3).setCell ⟨w.heap.size + 1, 4, none⟩ x4) := by
  have gs := grown5 wr (w.heap.size + 1) x0 x1 x2 x3 x4
  exact ⟨0, 0, 0, _, v, [], os, rfl, by simp, hol, ⟨rfl, .inl ⟨rfl, rfl⟩⟩, ownLow (h.own.kept gs (.inr (fun e => by have := h.low _ e; omega))) (by omega), .inl rfl, h.cur.kept gs (fun k hk => by injection hk with hk; omega), grown_far h.grw gs (fun k hk => by injection hk with hk; omega)⟩
end

end Go.Proofs.YtghdnokjgmmgiaaGreat
